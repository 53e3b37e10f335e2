import Derived.Test.YtodgijhpokjjhaaDoorZac
import Derived.Test.YtodgijhpokjjhaaDoorZae
import Derived.Deep.OwnRows
import Derived.Laws.IdiomStrings
import Derived.Deep.MidRow
import Derived.Deep.QuietTactic
import Derived.BigQuiet
import Derived.Deep.RegionWith
namespace Go.Proofs.YtodgijhpokjjhaaDoor
open Go.RowKit
set_option linter.unusedSimpArgs false
inductive D where
  | i (n : Int)
  | s (t : List UInt8)
  | b (x : Bool)
  | l (n m : Nat) (f : Nat → Nat → D)
def sumN : Nat → (Nat → Nat) → Nat
  | 0, _ => 0
  | n + 1, g => sumN n g + g n
def D.sz : D → Nat
  | .i _ => 0
  | .s t => t.length
  | .b _ => 0
  | .l n m f => m + sumN m (fun i => sumN n (fun j => (f i j).sz))
def iOK (n : Int) : Prop := (Lit.int .i64 n).wf = true
def D.le (K : Nat) : D → Prop
  | .i n => iOK n
  | .s t => t.length ≤ K
  | .b _ => True
  | .l n m f => n ≤ 64 ∧ m ≤ K ∧ ∀ i j, i < m → j < n → (f i j).le K
theorem D.le.mono {K K' : Nat} (h : K ≤ K') : ∀ d : D, d.le K → d.le K'
  | .i _, h0 => h0
  | .s _, h0 => Nat.le_trans h0 h
  | .b _, _ => trivial
  | .l _ _ f, h0 => ⟨h0.1, Nat.le_trans h0.2.1 h, fun i j hi hj => D.le.mono h (f i j) (h0.2.2 i j hi hj)⟩
def Rd (w : World) (B : Nat → Prop) : D → Value → Prop
  | .i n, v => v = .int .i64 n
  | .s t, v => v = .string ⟨t.toArray⟩
  | .b x, v => v = .bool x
  | .l n m f, v => ∃ a c, v = .slice a m c ∧ (m = 0 ∨ ∃ b off, a = some ⟨b, off, none⟩ ∧ B b ∧ 0 < n ∧ ∀ i j, i < m → j < n → ∃ u, w.cell? ⟨b, off + i * n + j, none⟩ = some u ∧ Rd w B (f i j) u)
theorem Rd.same {w w' : World} {B B' : Nat → Prop} (hs : ∀ b, B b → w'.heap[b]? = w.heap[b]?) (hB : ∀ b, B b → B' b) : ∀ (d : D) (v : Value), Rd w B d v → Rd w' B' d v
  | .i _, _, h => h
  | .s _, _, h => h
  | .b _, _, h => h
  | .l n m f, v, h => by
    obtain ⟨a, c, hv, h⟩ := h
    refine ⟨a, c, hv, h.imp id ?_⟩
    rintro ⟨b, off, ha, hb, hn, hc⟩
    refine ⟨b, off, ha, hB b hb, hn, fun i j hi hj => ?_⟩
    obtain ⟨u, hu, hr⟩ := hc i j hi hj
    exact ⟨u, by rw [World.cell?_of_block (w := w) (a := ⟨b, off + i * n + j, none⟩) (hs b hb)]; exact hu, Rd.same hs hB (f i j) u hr⟩
theorem Rd.inside {w : World} {B : Nat → Prop} : ∀ (d : D) (v : Value), Rd w B d v → Rd w (fun b => B b ∧ b < w.heap.size) d v
  | .i _, _, h => h
  | .s _, _, h => h
  | .b _, _, h => h
  | .l n m f, v, h => by
    obtain ⟨a, c, hv, h⟩ := h
    refine ⟨a, c, hv, ?_⟩
    by_cases h0 : m = 0
    · exact .inl h0
    rcases h with h | ⟨b, off, ha, hb, hn, hc⟩
    · exact .inl h
    obtain ⟨u, hu, -⟩ := hc 0 0 (by omega) hn
    refine .inr ⟨b, off, ha, ⟨hb, World.block_lt_of_cell? _ _ hu⟩, hn, fun i j hi hj => ?_⟩
    obtain ⟨u, hu, hr⟩ := hc i j hi hj
    exact ⟨u, hu, Rd.inside (f i j) u hr⟩
theorem Rd.later {w w' : World} {B : Nat → Prop} {d : D} {v : Value} (h : Rd w B d v) (hb : Below w.heap.size w w') : Rd w' B d v :=
  Rd.same (B := fun b => B b ∧ b < w.heap.size) (fun b h => hb.block b h.2) (fun _ h => h.1) d v (Rd.inside d v h)
theorem Rd.mono {w : World} {B B' : Nat → Prop} {d : D} {v : Value} (h : Rd w B d v) (hB : ∀ b, B b → B' b) : Rd w B' d v := Rd.same (fun _ _ => rfl) hB d v h
theorem Rd.any {w : World} {B : Nat → Prop} {d : D} {v : Value} (h : Rd w B d v) : Rd w (fun _ => True) d v := h.mono (fun _ _ => trivial)
theorem Rd.lt {w : World} {B : Nat → Prop} {d : D} {v : Value} (h : Rd w B d v) : Rd w (· < w.heap.size) d v := (Rd.inside d v h).mono (fun _ h => h.2)
theorem Rd.frm {w w' : World} {B F : Nat → Prop} {d : D} {v : Value} (h : Rd w B d v) (hF : Frm F w w') (hn : ∀ b, B b → ¬ F b) : Rd w' B d v :=
  Rd.same (B := fun b => B b ∧ b < w.heap.size) (fun b h => hF.block b h.2 (hn b h.1)) (fun _ h => h.1) d v (Rd.inside d v h)
theorem Rd.slice {w : World} {B : Nat → Prop} {n m : Nat} {f : Nat → Nat → D} {v : Value} (h : Rd w B (.l n m f) v) : ∃ a c, v = .slice a m c := by obtain ⟨a, c, h, -⟩ := h; exact ⟨a, c, h⟩
theorem Rd.cells {w : World} {B : Nat → Prop} {n m : Nat} {f : Nat → Nat → D} {a : Option Addr} {c : Nat} (h : Rd w B (.l n m f) (.slice a m c)) {i : Nat} (hi : i < m) :
    ∃ b off, a = some ⟨b, off, none⟩ ∧ B b ∧ ∀ j, j < n → ∃ u, w.cell? ⟨b, off + i * n + j, none⟩ = some u ∧ Rd w B (f i j) u := by
  obtain ⟨a', c', hv, h⟩ := h
  simp only [Value.slice.injEq] at hv
  obtain ⟨rfl, -, -⟩ := hv
  rcases h with h | ⟨b, off, ha, hb, -, hc⟩
  · omega
  · exact ⟨b, off, ha, hb, fun j hj => hc i j hi hj⟩
theorem Rd.spot {w : World} {B : Nat → Prop} {n m : Nat} {f : Nat → Nat → D} {b off c : Nat} (h : Rd w B (.l n m f) (.slice (some ⟨b, off, none⟩) m c)) {i j : Nat} (hi : i < m) (hj : j < n) : ∃ u, w.cell? ⟨b, off + i * n + j, none⟩ = some u ∧ Rd w B (f i j) u := by
  obtain ⟨b', off', e, -, hc⟩ := h.cells hi
  simp only [Option.some.injEq, Addr.mk.injEq, and_true] at e
  obtain ⟨rfl, rfl⟩ := e
  exact hc j hj
theorem Rd.cap {w : World} {B : Nat → Prop} {n m : Nat} {f : Nat → Nat → D} {a : Option Addr} {c : Nat} (h : Rd w B (.l n m f) (.slice a m c)) (c' : Nat) : Rd w B (.l n m f) (.slice a m c') := by
  obtain ⟨a', c'', hv, h⟩ := h
  simp only [Value.slice.injEq] at hv
  obtain ⟨rfl, -, -⟩ := hv
  exact ⟨a, c', rfl, h⟩
theorem Rd.congr {w : World} {B : Nat → Prop} {n m : Nat} {f g : Nat → Nat → D} {v : Value} (h : Rd w B (.l n m f) v) (e : ∀ i j, i < m → j < n → f i j = g i j) : Rd w B (.l n m g) v := by
  obtain ⟨a, c, hv, h⟩ := h
  refine ⟨a, c, hv, h.imp id ?_⟩
  rintro ⟨b, off, ha, hb, hn, hc⟩
  exact ⟨b, off, ha, hb, hn, fun i j hi hj => by rw [← e i j hi hj]; exact hc i j hi hj⟩
theorem frm_set (w : World) (b o : Nat) (v : Value) : Frm (· = b) w (w.setCell ⟨b, o, none⟩ v) := (Frm.refl _ _).set (B := (· = b)) rfl v
end Go.Proofs.YtodgijhpokjjhaaDoor
