import Derived.WalkKit
import Derived.Test.YtlddhbamcndggaaGreatDoorProg
import Derived.Deep.MidRow
import Derived.WalkSpells
import Derived.WalkLawsBesides
import Derived.Deep.OwnRows
import Derived.Laws.IdiomStrings
import Derived.Deep.QuietTactic
import Derived.BigQuiet
import Derived.Deep.RegionWith
namespace Go.Proofs.YtlddhbamcndggaaGreatDoor
def lessI (left : Int) (n : Nat) : Int := if (n : Int) ≤ left then left - n else -1
def charB (c : UInt8) : Bool := decide (32 ≤ (c.toNat : Int) ∧ (c.toNat : Int) ≤ 126)
def textB (t : List UInt8) : Bool := decide (t.length ≤ 200) && t.all charB
def inB (lo n hi : Int) : Bool := decide (lo ≤ n ∧ n ≤ hi)
def left (room : Int) : Option Nat → Int
 | some n => if (n : Int) ≤ room then room - n else -1
 | none => -1
end Go.Proofs.YtlddhbamcndggaaGreatDoor
namespace Go.Proofs.YtlddhbamcndggaaGreatDoor
open Go.RowKit
theorem ret_i {a b : Int} (h : a = b) : Ending.returned (.int .i64 a) = .returned (.int .i64 b) := by rw [h]
theorem ret_b {a b : Bool} (h : a = b) : Ending.returned (.bool a) = .returned (.bool b) := by rw [h]
theorem less_no {L : Int} {n : Nat} (h : L - (n : Int) < 0) : lessI L n = -1 := by unfold lessI; rw [if_neg (by omega)]
theorem less_yes {L : Int} {n : Nat} (h : 0 ≤ L - (n : Int)) : lessI L n = L - n := by unfold lessI; rw [if_pos (by omega)]
end Go.Proofs.YtlddhbamcndggaaGreatDoor
namespace Go.Proofs.YtlddhbamcndggaaGreatDoor
open Go.RowKit
structure Frm (B : Nat → Prop) (w w' : World) : Prop where
 os : w'.os = w.os
 tape : w'.tape = w.tape
 output : w'.output = w.output
 size : w.heap.size ≤ w'.heap.size
 block : ∀ b, b < w.heap.size → ¬ B b → w'.heap[b]? = w.heap[b]?
theorem Frm.refl (B : Nat → Prop) (w : World) : Frm B w w := ⟨rfl, rfl, rfl, Nat.le_refl _, fun _ _ _ => rfl⟩
theorem Frm.trans {B : Nat → Prop} {a b c : World} (h : Frm B a b) (k : Frm B b c) : Frm B a c :=
 ⟨k.os.trans h.os, k.tape.trans h.tape, k.output.trans h.output, Nat.le_trans h.size k.size, fun i hi hn => (k.block i (Nat.lt_of_lt_of_le hi h.size) hn).trans (h.block i hi hn)⟩
theorem Frm.mono {B B' : Nat → Prop} {w w' : World} (h : Frm B w w') (hB : ∀ b, B b → B' b) : Frm B' w w' := ⟨h.os, h.tape, h.output, h.size, fun b hb hn => h.block b hb (fun h => hn (hB b h))⟩
theorem Frm.of_below {B : Nat → Prop} {w w' : World} (h : Below w.heap.size w w') : Frm B w w' := ⟨h.os, h.tape, h.output, h.size, fun b hb _ => h.block b hb⟩
theorem Frm.below {B : Nat → Prop} {w w' : World} {S : Nat} (h : Frm B w w') (hS : S ≤ w.heap.size) (hB : ∀ b, b < S → ¬ B b) : Below S w w' := ⟨h.os, h.tape, h.output, h.size, fun b hb => h.block b (by omega) (hB b hb)⟩
theorem Frm.set {B : Nat → Prop} {a w : World} (h : Frm B a w) {b o : Nat} (hb : B b) (v : Value) : Frm B a (w.setCell ⟨b, o, none⟩ v) :=
 h.trans ⟨rfl, rfl, rfl, by simp [World.setCell], fun c _ hn => Below.heap_setCell _ _ _ _ (by intro e; exact hn (e ▸ hb))⟩
end Go.Proofs.YtlddhbamcndggaaGreatDoor
namespace Go.Proofs.YtlddhbamcndggaaGreatDoor
open Go.RowKit
set_option linter.unusedSimpArgs false
theorem cell_new (w : World) {cs : Array Value} {t : TypeId} {o : Nat} {v : Value} (h : cs[o]? = some v) : (w.alloc (.cells cs t)).cell? ⟨w.heap.size, o, none⟩ = some v := by
 have e : (w.alloc (.cells cs t)).heap[w.heap.size]? = some (.cells cs t) := by show (w.heap.push _)[w.heap.size]? = _; simp
 unfold World.cell?; rw [e]; exact h
theorem str_cons (c : UInt8) (out : List UInt8) : (ByteArray.mk #[c] ++ ByteArray.mk out.toArray : ByteArray) = ⟨(c :: out).toArray⟩ := by
 apply ByteArray.ext; simp
def dg : Nat → Nat → List UInt8 → List UInt8
 | 0, _, acc => acc
 | f + 1, k, acc => if k = 0 then acc else dg f (k / 10) (UInt8.ofNat (48 + k % 10) :: acc)
theorem dg_zero (f : Nat) (acc : List UInt8) : dg f 0 acc = acc := by cases f <;> simp [dg]
theorem dg_step (f k : Nat) (acc : List UInt8) (h : 0 < k) : dg (f + 1) k acc = dg f (k / 10) (UInt8.ofNat (48 + k % 10) :: acc) := by
 rw [dg, if_neg (by omega)]
def mt (k : Nat) : List UInt8 := 109 :: dg 20 k []
set_option maxHeartbeats 800000 in
theorem markText (k : Nat) (w : World) (h0 : 0 < k) (h1 : k < 1000000000000) :
  Calls Tryz.prog 85 #[.int .i64 k] w fun e w' => e = .returned (.string ⟨(mt k).toArray⟩) ∧ Below w.heap.size w w' := by
 have hk : ¬ (k : Int) ≤ 0 := by omega
 have hk' : decide ((k : Int) ≤ 0) = false := by simp; omega
 go_enter Tryz.func85, Tryz.ntmps85
 go_wp2_with fail
 go_loopw [0, 3] (fun a o wr => ∃ m f : Nat, ∃ out : List UInt8, a = .int .i64 m ∧ m ≤ k ∧ o = .string ⟨out.toArray⟩ ∧ m < 10 ^ f ∧ f ≤ 20 ∧ Hid (dg f m out = dg 20 k []) ∧ out.length + f ≤ 20 ∧ Below w.heap.size w wr) (fun a _ _ => (intOf a).toNat)
 case atStart => exact ⟨k, 20, [], rfl, Nat.le_refl _, rfl, by omega, by omega, rfl, by simp, Below.refl _ _⟩
 case round =>
  obtain ⟨m, f, out, rfl, hm, rfl, hf, hf20, HD, hlen, hB⟩ := hrel
  by_cases hz : 0 < m
  ·
   have hzi : (0 : Int) < (m : Int) := by omega
   have hby : (UInt8.ofNat (48 + m % 10)).toNat = 48 + m % 10 := by rw [UInt8.toNat_ofNat']; omega
   have hconv : (convert 172 9 (.slice (some ⟨wr.heap.size, 0, none⟩) 1 1)).run Tryz.prog (wr.alloc (.cells #[.int .u8 (48 + (m : Int) % 10)] 5)) = .ok (.string ⟨#[UInt8.ofNat (48 + m % 10)]⟩) (wr.alloc (.cells #[.int .u8 (48 + (m : Int) % 10)] 5)) :=
    run_convert_bytes_back (P := Tryz.prog) (wr.alloc (.cells #[.int .u8 (48 + (m : Int) % 10)] 5)) 172 9 5 ⟨wr.heap.size, 0, none⟩ 1 [UInt8.ofNat (48 + m % 10)] Tryz.underlying172 Tryz.underlying5 Tryz.underlying9 (fun j hj => by
     have : j = 0 := by simpa using hj
     subst this
     rw [Addr.add_mid]
     refine (cell_new _ rfl).trans ?_
     simp only [List.getElem_cons_zero, hby]
     congr 2)
   clear hby
   obtain ⟨f', hf'⟩ : ∃ f', f = f' + 1 := ⟨f - 1, by
    have : f ≠ 0 := by intro e; subst e; simp at hf; omega
    omega⟩
   have HS : Hid (dg f' (m / 10) (UInt8.ofNat (48 + m % 10) :: out) = dg 20 k []) := by
    have := HD.out
    rw [hf', dg_step f' m out hz] at this
    exact this
   have hq : m / 10 < 10 ^ f' := by rw [hf', Nat.pow_succ] at hf; omega
   have hl' : out.length + 1 + f' ≤ 20 := by omega
   clear hf' hf HD
   go_wp2_with fail
   refine ⟨⟨m / 10, f', UInt8.ofNat (48 + m % 10) :: out, rfl, by omega, ?_, hq, by omega, HS.out, by simp; omega, hB.alloc hB.size _⟩, ?_⟩
   ·
    rw [show UInt8.ofNat (48 + m % 10) = 48 + UInt8.ofNat (m % 10) from by simp]
    exact congrArg Value.string (str_cons _ _)
   ·
    simp [intOf]; omega
  ·
   have hz' : m = 0 := by omega
   have HE : Hid (out = dg 20 k []) := by
    have := HD.out
    rw [hz', dg_zero] at this
    exact this
   have hm0 : ¬ (0 : Int) < (m : Int) := by omega
   clear hz'
   go_wp2_with fail
   go_ret
   refine ⟨?_, hB⟩
   unfold mt
   rw [← HE.out]
   exact congrArg (fun x => Ending.returned (.string x)) (str_cons _ _)
inductive D where
 | i (n : Int)
 | s (t : List UInt8)
 | b (x : Bool)
 | l (n m : Nat) (f : Nat → Nat → D)
def sumN : Nat → (Nat → Nat) → Nat
 | 0, _ => 0
 | n + 1, g => sumN n g + g n
theorem sumN_succ (n : Nat) (g : Nat → Nat) : sumN (n + 1) g = sumN n g + g n := rfl
theorem sumN_le {g : Nat → Nat} : ∀ {n : Nat} {i : Nat}, i < n → g i ≤ sumN n g
 | n + 1, i, h => by
  rw [sumN_succ]
  by_cases e : i = n
  ·
   subst e; omega
  ·
   have := sumN_le (g := g) (n := n) (i := i) (by omega); omega
theorem sumN_mono {g : Nat → Nat} : ∀ {n i : Nat}, i ≤ n → sumN i g ≤ sumN n g
  | 0, i, h => by obtain rfl : i = 0 := by omega
                  exact Nat.le_refl _
  | n + 1, i, h => by
    by_cases e : i = n + 1
    · subst e; exact Nat.le_refl _
    · have := sumN_mono (g := g) (n := n) (i := i) (by omega)
      rw [sumN_succ]; omega
theorem sumN_congr {g h : Nat → Nat} : ∀ {n : Nat}, (∀ i, i < n → g i = h i) → sumN n g = sumN n h
 | 0, _ => rfl
 | n + 1, e => by rw [sumN_succ, sumN_succ, sumN_congr (n := n) (fun i hi => e i (by omega)), e n (by omega)]
theorem sumN_bound {g h : Nat → Nat} : ∀ {n : Nat}, (∀ i, i < n → g i ≤ h i) → sumN n g ≤ sumN n h
 | 0, _ => Nat.le_refl _
 | n + 1, e => by rw [sumN_succ, sumN_succ]; have := sumN_bound (n := n) (fun i hi => e i (by omega)); have := e n (by omega); omega
theorem sumN_lin (c N : Nat) (g : Nat → Nat) : ∀ n : Nat, sumN n (fun i => c + N * g i) = n * c + N * sumN n g
 | 0 => by simp [sumN]
 | n + 1 => by rw [sumN_succ, sumN_succ, sumN_lin c N g n, Nat.succ_mul, Nat.mul_add]; omega
def D.sz : D → Nat
 | .i _ => 0
 | .s t => t.length
 | .b _ => 0
 | .l n m f => m + sumN m (fun i => sumN n (fun j => (f i j).sz))
def iOK (n : Int) : Prop := (Lit.int .i64 n).wf = true
def D.le (K : Nat) : D → Prop
 | .i n => iOK n
 | .s t => t.length ≤ K
 | .b _ => True
 | .l n m f => n ≤ 64 ∧ m ≤ K ∧ ∀ i j, i < m → j < n → (f i j).le K
theorem D.le_of_sz {K K' : Nat} : ∀ d : D, d.le K' → d.sz ≤ K → d.le K
 | .i _, h, _ => h
 | .s _, _, h => h
 | .b _, _, _ => trivial
 | .l n m f, h0, h => by
  unfold D.sz at h
  refine ⟨h0.1, by omega, fun i j hi hj => ?_⟩
  have h1 := sumN_le (g := fun i => sumN n (fun j => (f i j).sz)) hi
  have h2 := sumN_le (g := fun j => (f i j).sz) hj
  exact D.le_of_sz (f i j) (h0.2.2 i j hi hj) (by omega)
theorem D.le.mono {K K' : Nat} (h : K ≤ K') : ∀ d : D, d.le K → d.le K'
 | .i _, h0 => h0
 | .s _, h0 => Nat.le_trans h0 h
 | .b _, _ => trivial
 | .l _ _ f, h0 => ⟨h0.1, Nat.le_trans h0.2.1 h, fun i j hi hj => D.le.mono h (f i j) (h0.2.2 i j hi hj)⟩
def Rd (w : World) (B : Nat → Prop) : D → Value → Prop
 | .i n, v => v = .int .i64 n
 | .s t, v => v = .string ⟨t.toArray⟩
 | .b x, v => v = .bool x
 | .l n m f, v => ∃ a c, v = .slice a m c ∧ (m = 0 ∨ ∃ b off, a = some ⟨b, off, none⟩ ∧ B b ∧ 0 < n ∧ ∀ i j, i < m → j < n → ∃ u, w.cell? ⟨b, off + i * n + j, none⟩ = some u ∧ Rd w B (f i j) u)
theorem Rd.same {w w' : World} {B B' : Nat → Prop} (hs : ∀ b, B b → w'.heap[b]? = w.heap[b]?) (hB : ∀ b, B b → B' b) : ∀ (d : D) (v : Value), Rd w B d v → Rd w' B' d v
 | .i _, _, h => h
 | .s _, _, h => h
 | .b _, _, h => h
 | .l n m f, v, h => by
  obtain ⟨a, c, hv, h⟩ := h
  refine ⟨a, c, hv, h.imp id ?_⟩
  rintro ⟨b, off, ha, hb, hn, hc⟩
  refine ⟨b, off, ha, hB b hb, hn, fun i j hi hj => ?_⟩
  obtain ⟨u, hu, hr⟩ := hc i j hi hj
  exact ⟨u, by rw [World.cell?_of_block (w := w) (a := ⟨b, off + i * n + j, none⟩) (hs b hb)]; exact hu, Rd.same hs hB (f i j) u hr⟩
theorem Rd.inside {w : World} {B : Nat → Prop} : ∀ (d : D) (v : Value), Rd w B d v → Rd w (fun b => B b ∧ b < w.heap.size) d v
 | .i _, _, h => h
 | .s _, _, h => h
 | .b _, _, h => h
 | .l n m f, v, h => by
  obtain ⟨a, c, hv, h⟩ := h
  refine ⟨a, c, hv, ?_⟩
  by_cases h0 : m = 0
  ·
   exact .inl h0
  rcases h with h | ⟨b, off, ha, hb, hn, hc⟩
  ·
   exact .inl h
  obtain ⟨u, hu, -⟩ := hc 0 0 (by omega) hn
  refine .inr ⟨b, off, ha, ⟨hb, World.block_lt_of_cell? _ _ hu⟩, hn, fun i j hi hj => ?_⟩
  obtain ⟨u, hu, hr⟩ := hc i j hi hj
  exact ⟨u, hu, Rd.inside (f i j) u hr⟩
theorem Rd.later {w w' : World} {B : Nat → Prop} {d : D} {v : Value} (h : Rd w B d v) (hb : Below w.heap.size w w') : Rd w' B d v :=
 Rd.same (B := fun b => B b ∧ b < w.heap.size) (fun b h => hb.block b h.2) (fun _ h => h.1) d v (Rd.inside d v h)
theorem Rd.mono {w : World} {B B' : Nat → Prop} {d : D} {v : Value} (h : Rd w B d v) (hB : ∀ b, B b → B' b) : Rd w B' d v := Rd.same (fun _ _ => rfl) hB d v h
theorem Rd.any {w : World} {B : Nat → Prop} {d : D} {v : Value} (h : Rd w B d v) : Rd w (fun _ => True) d v := h.mono (fun _ _ => trivial)
theorem Rd.lt {w : World} {B : Nat → Prop} {d : D} {v : Value} (h : Rd w B d v) : Rd w (· < w.heap.size) d v := (Rd.inside d v h).mono (fun _ h => h.2)
theorem Rd.frm {w w' : World} {B F : Nat → Prop} {d : D} {v : Value} (h : Rd w B d v) (hF : Frm F w w') (hn : ∀ b, B b → ¬ F b) : Rd w' B d v :=
 Rd.same (B := fun b => B b ∧ b < w.heap.size) (fun b h => hF.block b h.2 (hn b h.1)) (fun _ h => h.1) d v (Rd.inside d v h)
theorem Rd.slice {w : World} {B : Nat → Prop} {n m : Nat} {f : Nat → Nat → D} {v : Value} (h : Rd w B (.l n m f) v) : ∃ a c, v = .slice a m c := by obtain ⟨a, c, h, -⟩ := h; exact ⟨a, c, h⟩
theorem Rd.cells {w : World} {B : Nat → Prop} {n m : Nat} {f : Nat → Nat → D} {a : Option Addr} {c : Nat} (h : Rd w B (.l n m f) (.slice a m c)) {i : Nat} (hi : i < m) :
  ∃ b off, a = some ⟨b, off, none⟩ ∧ B b ∧ ∀ j, j < n → ∃ u, w.cell? ⟨b, off + i * n + j, none⟩ = some u ∧ Rd w B (f i j) u := by
 obtain ⟨a', c', hv, h⟩ := h
 simp only [Value.slice.injEq] at hv
 obtain ⟨rfl, -, -⟩ := hv
 rcases h with h | ⟨b, off, ha, hb, -, hc⟩
 ·
  omega
 ·
  exact ⟨b, off, ha, hb, fun j hj => hc i j hi hj⟩
theorem Rd.spot {w : World} {B : Nat → Prop} {n m : Nat} {f : Nat → Nat → D} {b off c : Nat} (h : Rd w B (.l n m f) (.slice (some ⟨b, off, none⟩) m c)) {i j : Nat} (hi : i < m) (hj : j < n) : ∃ u, w.cell? ⟨b, off + i * n + j, none⟩ = some u ∧ Rd w B (f i j) u := by
 obtain ⟨b', off', e, -, hc⟩ := h.cells hi
 simp only [Option.some.injEq, Addr.mk.injEq, and_true] at e
 obtain ⟨rfl, rfl⟩ := e
 exact hc j hj
def Own (w : World) : D → (Nat → Prop) → Value → Prop
 | .i n, _, v => v = .int .i64 n
 | .s t, _, v => v = .string ⟨t.toArray⟩
 | .b x, _, v => v = .bool x
 | .l n m f, B, v => ∃ a c, v = .slice a m c ∧ (m = 0 ∨ ∃ b off, ∃ X : Nat → Nat → Nat → Prop, a = some ⟨b, off, none⟩ ∧ B b ∧ 0 < n ∧ (∀ i j c, X i j c → B c ∧ c ≠ b) ∧ (∀ i j i' j' c, X i j c → X i' j' c → i = i' ∧ j = j') ∧
   ∀ i j, i < m → j < n → ∃ u, w.cell? ⟨b, off + i * n + j, none⟩ = some u ∧ w.frozen? ⟨b, off + i * n + j, none⟩ = false ∧ Own w (f i j) (X i j) u)
theorem Own.rd {w : World} : ∀ (d : D) (B : Nat → Prop) (v : Value), Own w d B v → Rd w B d v
 | .i _, _, _, h => h
 | .s _, _, _, h => h
 | .b _, _, _, h => h
 | .l n m f, B, v, h => by
  obtain ⟨a, c, hv, h⟩ := h
  refine ⟨a, c, hv, h.imp id ?_⟩
  rintro ⟨b, off, X, ha, hb, hn, hX, -, hc⟩
  refine ⟨b, off, ha, hb, hn, fun i j hi hj => ?_⟩
  obtain ⟨u, hu, -, hr⟩ := hc i j hi hj
  exact ⟨u, hu, (Own.rd (f i j) _ u hr).mono (fun c h => (hX i j c h).1)⟩
theorem Own.rd' {w : World} {d : D} {B : Nat → Prop} {v : Value} (h : Own w d B v) : Rd w B d v := Own.rd d B v h
theorem Own.same {w w' : World} : ∀ (d : D) (B B' : Nat → Prop) (v : Value), (∀ b, B b → w'.heap[b]? = w.heap[b]?) → (∀ b, B b → B' b) → Own w d B v → Own w' d B' v
 | .i _, _, _, _, _, _, h => h
 | .s _, _, _, _, _, _, h => h
 | .b _, _, _, _, _, _, h => h
 | .l n m f, B, B', v, hs, hB, h => by
  obtain ⟨a, c, hv, h⟩ := h
  refine ⟨a, c, hv, h.imp id ?_⟩
  rintro ⟨b, off, X, ha, hb, hn, hX, hd, hc⟩
  refine ⟨b, off, X, ha, hB b hb, hn, fun i j c h => ⟨hB c (hX i j c h).1, (hX i j c h).2⟩, hd, fun i j hi hj => ?_⟩
  obtain ⟨u, hu, hz, hr⟩ := hc i j hi hj
  exact ⟨u, by rw [World.cell?_of_block (w := w) (a := ⟨b, off + i * n + j, none⟩) (hs b hb)]; exact hu, by rw [World.frozen?_of_block (w := w) (a := ⟨b, off + i * n + j, none⟩) (hs b hb)]; exact hz,
   Own.same (f i j) (X i j) (X i j) u (fun c h => hs c (hX i j c h).1) (fun _ h => h) hr⟩
theorem Own.inside {w : World} : ∀ (d : D) (B : Nat → Prop) (v : Value), Own w d B v → Own w d (fun b => B b ∧ b < w.heap.size) v
 | .i _, _, _, h => h
 | .s _, _, _, h => h
 | .b _, _, _, h => h
 | .l n m f, B, v, h => by
  obtain ⟨a, c, hv, h⟩ := h
  refine ⟨a, c, hv, ?_⟩
  by_cases h0 : m = 0
  ·
   exact .inl h0
  rcases h with h | ⟨b, off, X, ha, hb, hn, hX, hd, hc⟩
  ·
   exact .inl h
  obtain ⟨u, hu, -⟩ := hc 0 0 (by omega) hn
  refine .inr ⟨b, off, fun i j c => X i j c ∧ c < w.heap.size, ha, ⟨hb, World.block_lt_of_cell? _ _ hu⟩, hn, fun i j c h => ⟨⟨(hX i j c h.1).1, h.2⟩, (hX i j c h.1).2⟩, fun i j i' j' c h h' => hd i j i' j' c h.1 h'.1, fun i j hi hj => ?_⟩
  obtain ⟨u, hu, hz, hr⟩ := hc i j hi hj
  exact ⟨u, hu, hz, Own.inside (f i j) (X i j) u hr⟩
theorem Own.mono {w : World} {d : D} {B B' : Nat → Prop} {v : Value} (h : Own w d B v) (hB : ∀ b, B b → B' b) : Own w d B' v := Own.same d B B' v (fun _ _ => rfl) hB h
theorem Own.later {w w' : World} {d : D} {B : Nat → Prop} {v : Value} (h : Own w d B v) (hb : Below w.heap.size w w') : Own w' d B v :=
 Own.same d (fun b => B b ∧ b < w.heap.size) B v (fun b h => hb.block b h.2) (fun _ h => h.1) (Own.inside d B v h)
theorem Own.frm {w w' : World} {d : D} {B F : Nat → Prop} {v : Value} (h : Own w d B v) (hF : Frm F w w') (hn : ∀ b, B b → ¬ F b) : Own w' d B v :=
 Own.same d (fun b => B b ∧ b < w.heap.size) B v (fun b h => hF.block b h.2 (hn b h.1)) (fun _ h => h.1) (Own.inside d B v h)
structure OwnR (w : World) (n m : Nat) (f : Nat → Nat → D) (B : Nat → Prop) (b off : Nat) (X : Nat → Nat → Nat → Prop) : Prop where
 bb : B b
 pos : 0 < n
 sub : ∀ i j c, X i j c → B c ∧ c ≠ b
 dis : ∀ i j i' j' c, X i j c → X i' j' c → i = i' ∧ j = j'
 cell : ∀ i j, i < m → j < n → ∃ u, w.cell? ⟨b, off + i * n + j, none⟩ = some u ∧ w.frozen? ⟨b, off + i * n + j, none⟩ = false ∧ Own w (f i j) (X i j) u
theorem Own.open {w : World} {n m : Nat} {f : Nat → Nat → D} {B : Nat → Prop} {v : Value} (h : Own w (.l n m f) B v) : ∃ a c, v = .slice a m c ∧ (m = 0 ∨ ∃ b off X, a = some ⟨b, off, none⟩ ∧ OwnR w n m f B b off X) := by
 obtain ⟨a, c, hv, h⟩ := h
 refine ⟨a, c, hv, h.imp id ?_⟩
 rintro ⟨b, off, X, ha, hb, hn, hX, hd, hc⟩
 exact ⟨b, off, X, ha, hb, hn, hX, hd, hc⟩
theorem OwnR.own {w : World} {n m : Nat} {f : Nat → Nat → D} {B : Nat → Prop} {b off : Nat} {X : Nat → Nat → Nat → Prop} (h : OwnR w n m f B b off X) (c : Nat) : Own w (.l n m f) B (.slice (some ⟨b, off, none⟩) m c) :=
 ⟨_, c, rfl, .inr ⟨b, off, X, rfl, h.bb, h.pos, h.sub, h.dis, h.cell⟩⟩
theorem OwnR.later {w w' : World} {n m : Nat} {f : Nat → Nat → D} {B : Nat → Prop} {b off : Nat} {X : Nat → Nat → Nat → Prop} (h : OwnR w n m f B b off X) (hb : Below w.heap.size w w') : OwnR w' n m f B b off X :=
 ⟨h.bb, h.pos, h.sub, h.dis, fun i j hi hj => by
  obtain ⟨u, hu, hz, ho⟩ := h.cell i j hi hj
  have hlt := World.block_lt_of_cell? _ _ hu
  exact ⟨u, by rw [hb.cell (p := ⟨b, off + i * n + j, none⟩) hlt]; exact hu, by rw [hb.frozen (p := ⟨b, off + i * n + j, none⟩) hlt]; exact hz, ho.later hb⟩⟩
theorem OwnR.congr {w : World} {n m : Nat} {f g : Nat → Nat → D} {B : Nat → Prop} {b off : Nat} {X : Nat → Nat → Nat → Prop} (h : OwnR w n m f B b off X) (e : ∀ i j, i < m → j < n → f i j = g i j) : OwnR w n m g B b off X :=
 ⟨h.bb, h.pos, h.sub, h.dis, fun i j hi hj => by rw [← e i j hi hj]; exact h.cell i j hi hj⟩
theorem spot_ne {off n i j i' j' : Nat} (hj : j < n) (hj' : j' < n) (h : ¬ (i' = i ∧ j' = j)) : off + i' * n + j' ≠ off + i * n + j := by
 intro e
 apply h
 have e1 : i' * n + j' = i * n + j := by omega
 have e2 : i' = i := by
  rcases Nat.lt_trichotomy i' i with hlt | h | hgt
  ·
   exfalso
   obtain ⟨d, rfl⟩ : ∃ d, i = i' + 1 + d := ⟨i - i' - 1, by omega⟩
   have : (i' + 1 + d) * n = i' * n + n + d * n := by rw [Nat.add_mul, Nat.add_mul, Nat.one_mul]
   omega
  ·
   exact h
  ·
   exfalso
   obtain ⟨d, rfl⟩ : ∃ d, i' = i + 1 + d := ⟨i' - i - 1, by omega⟩
   have : (i + 1 + d) * n = i * n + n + d * n := by rw [Nat.add_mul, Nat.add_mul, Nat.one_mul]
   omega
 subst e2
 exact ⟨rfl, by omega⟩
def D.flat : D → Prop
 | .l _ _ _ => False
 | _ => True
theorem Own.flat {w w' : World} : ∀ {d : D} {B B' : Nat → Prop} {v : Value}, d.flat → Own w d B v → Own w' d B' v
 | .i _, _, _, _, _, h => h
 | .s _, _, _, _, _, h => h
 | .b _, _, _, _, _, h => h
theorem frm_set (w : World) (b o : Nat) (v : Value) : Frm (· = b) w (w.setCell ⟨b, o, none⟩ v) := (Frm.refl _ _).set (B := (· = b)) rfl v
theorem OwnR.set {w : World} {n m : Nat} {f g : Nat → Nat → D} {B : Nat → Prop} {b off : Nat} {X : Nat → Nat → Nat → Prop} (h : OwnR w n m f B b off X) {i j : Nat} (hi : i < m) (hj : j < n) (u : Value) (hg : (g i j).flat) (hu : Own w (g i j) (fun _ => True) u)
  (e : ∀ i' j', i' < m → j' < n → ¬ (i' = i ∧ j' = j) → g i' j' = f i' j') {o : Nat} (ho : o = off + i * n + j) : OwnR (w.setCell ⟨b, o, none⟩ u) n m g B b off X := by
 subst ho
 refine ⟨h.bb, h.pos, h.sub, h.dis, fun i' j' hi' hj' => ?_⟩
 obtain ⟨u', hu', hz', ho'⟩ := h.cell i' j' hi' hj'
 by_cases hij : i' = i ∧ j' = j
 ·
  obtain ⟨rfl, rfl⟩ := hij
  exact ⟨u, by simp [World.cell?_setCell_same, hu'], by simpa using hz', Own.flat hg hu⟩
 ·
  rw [e i' j' hi' hj' hij]
  have hne := spot_ne (off := off) hj hj' hij
  refine ⟨u', ?_, by simpa using hz', ho'.frm (frm_set _ _ _ _) (fun c hc => (h.sub i' j' c hc).2)⟩
  rw [World.cell?_setCell_other]
  ·
   exact hu'
  ·
   simp; try omega
theorem OwnR.child {w w' : World} {n m : Nat} {f g : Nat → Nat → D} {B : Nat → Prop} {b off : Nat} {X : Nat → Nat → Nat → Prop} (h : OwnR w n m f B b off X) {i j : Nat} (hi : i < m) (hj : j < n) {u : Value} (hF : Frm (X i j) w w') (hc : w.cell? ⟨b, off + i * n + j, none⟩ = some u) (hu : Own w' (g i j) (X i j) u)
  (e : ∀ i' j', i' < m → j' < n → ¬ (i' = i ∧ j' = j) → g i' j' = f i' j') : OwnR w' n m g B b off X := by
 refine ⟨h.bb, h.pos, h.sub, h.dis, fun i' j' hi' hj' => ?_⟩
 obtain ⟨u', hu', hz', ho'⟩ := h.cell i' j' hi' hj'
 have hb : w'.heap[b]? = w.heap[b]? := hF.block b (World.block_lt_of_cell? _ _ hu') (fun hx => (h.sub i j b hx).2 rfl)
 refine ⟨u', by rw [World.cell?_of_block (w := w) (a := ⟨b, off + i' * n + j', none⟩) hb]; exact hu', by rw [World.frozen?_of_block (w := w) (a := ⟨b, off + i' * n + j', none⟩) hb]; exact hz', ?_⟩
 by_cases hij : i' = i ∧ j' = j
 ·
  obtain ⟨rfl, rfl⟩ := hij
  rw [hc] at hu'
  cases hu'
  exact hu
 ·
  rw [e i' j' hi' hj' hij]
  exact ho'.frm hF (fun c hc hx => hij (by have := h.dis i' j' i j c hc hx; exact this))
end Go.Proofs.YtlddhbamcndggaaGreatDoor
