import Derived.Test.YtngbhifafdbpkaaGreatZaa
import Derived.Deep.OwnRows
namespace Go.Proofs.YtngbhifafdbpkaaGreat
open Go.RowKit
set_option linter.unusedSimpArgs false
inductive D where
  | i (n : Int)
  | s (t : List UInt8)
  | b (x : Bool)
  | l (n m : Nat) (f : Nat → Nat → D)
def sumN : Nat → (Nat → Nat) → Nat
  | 0, _ => 0
  | n + 1, g => sumN n g + g n
theorem sumN_succ (n : Nat) (g : Nat → Nat) : sumN (n + 1) g = sumN n g + g n := rfl
theorem sumN_le {g : Nat → Nat} : ∀ {n : Nat} {i : Nat}, i < n → g i ≤ sumN n g
  | n + 1, i, h => by
    rw [sumN_succ]
    by_cases e : i = n
    · subst e; omega
    · have := sumN_le (g := g) (n := n) (i := i) (by omega); omega
theorem sumN_mono {g : Nat → Nat} : ∀ {n i : Nat}, i ≤ n → sumN i g ≤ sumN n g
  | 0, i, h => by obtain rfl : i = 0 := by omega
                  exact Nat.le_refl _
  | n + 1, i, h => by
    by_cases e : i = n + 1
    · subst e; exact Nat.le_refl _
    · have := sumN_mono (g := g) (n := n) (i := i) (by omega)
      rw [sumN_succ]; omega
theorem sumN_congr {g h : Nat → Nat} : ∀ {n : Nat}, (∀ i, i < n → g i = h i) → sumN n g = sumN n h
  | 0, _ => rfl
  | n + 1, e => by rw [sumN_succ, sumN_succ, sumN_congr (n := n) (fun i hi => e i (by omega)), e n (by omega)]
theorem sumN_bound {g h : Nat → Nat} : ∀ {n : Nat}, (∀ i, i < n → g i ≤ h i) → sumN n g ≤ sumN n h
  | 0, _ => Nat.le_refl _
  | n + 1, e => by rw [sumN_succ, sumN_succ]; have := sumN_bound (n := n) (fun i hi => e i (by omega)); have := e n (by omega); omega
theorem sumN_lin (c N : Nat) (g : Nat → Nat) : ∀ n : Nat, sumN n (fun i => c + N * g i) = n * c + N * sumN n g
  | 0 => by simp [sumN]
  | n + 1 => by rw [sumN_succ, sumN_succ, sumN_lin c N g n, Nat.succ_mul, Nat.mul_add]; omega
def D.sz : D → Nat
  | .i _ => 0
  | .s t => t.length
  | .b _ => 0
  | .l n m f => m + sumN m (fun i => sumN n (fun j => (f i j).sz))
def iOK (n : Int) : Prop := (Lit.int .i64 n).wf = true
def D.le (K : Nat) : D → Prop
  | .i n => iOK n
  | .s t => t.length ≤ K
  | .b _ => True
  | .l n m f => n ≤ 64 ∧ m ≤ K ∧ ∀ i j, i < m → j < n → (f i j).le K
theorem D.le_of_sz {K K' : Nat} : ∀ d : D, d.le K' → d.sz ≤ K → d.le K
  | .i _, h, _ => h
  | .s _, _, h => h
  | .b _, _, _ => trivial
  | .l n m f, h0, h => by
    unfold D.sz at h
    refine ⟨h0.1, by omega, fun i j hi hj => ?_⟩
    have h1 := sumN_le (g := fun i => sumN n (fun j => (f i j).sz)) hi
    have h2 := sumN_le (g := fun j => (f i j).sz) hj
    exact D.le_of_sz (f i j) (h0.2.2 i j hi hj) (by omega)
theorem D.le.mono {K K' : Nat} (h : K ≤ K') : ∀ d : D, d.le K → d.le K'
  | .i _, h0 => h0
  | .s _, h0 => Nat.le_trans h0 h
  | .b _, _ => trivial
  | .l _ _ f, h0 => ⟨h0.1, Nat.le_trans h0.2.1 h, fun i j hi hj => D.le.mono h (f i j) (h0.2.2 i j hi hj)⟩
def Rd (w : World) (B : Nat → Prop) : D → Value → Prop
  | .i n, v => v = .int .i64 n
  | .s t, v => v = .string ⟨t.toArray⟩
  | .b x, v => v = .bool x
  | .l n m f, v => ∃ a c, v = .slice a m c ∧ m ≤ c ∧ (m = 0 ∨ ∃ b off, a = some ⟨b, off, none⟩ ∧ B b ∧ 0 < n ∧ ∀ i j, i < m → j < n → ∃ u, w.cell? ⟨b, off + i * n + j, none⟩ = some u ∧ Rd w B (f i j) u)
theorem Rd.same {w w' : World} {B B' : Nat → Prop} (hs : ∀ b, B b → w'.heap[b]? = w.heap[b]?) (hB : ∀ b, B b → B' b) : ∀ (d : D) (v : Value), Rd w B d v → Rd w' B' d v
  | .i _, _, h => h
  | .s _, _, h => h
  | .b _, _, h => h
  | .l n m f, v, h => by
    obtain ⟨a, c, hv, hmc, h⟩ := h
    refine ⟨a, c, hv, hmc, h.imp id ?_⟩
    rintro ⟨b, off, ha, hb, hn, hc⟩
    refine ⟨b, off, ha, hB b hb, hn, fun i j hi hj => ?_⟩
    obtain ⟨u, hu, hr⟩ := hc i j hi hj
    exact ⟨u, by rw [World.cell?_of_block (w := w) (a := ⟨b, off + i * n + j, none⟩) (hs b hb)]; exact hu, Rd.same hs hB (f i j) u hr⟩
theorem Rd.inside {w : World} {B : Nat → Prop} : ∀ (d : D) (v : Value), Rd w B d v → Rd w (fun b => B b ∧ b < w.heap.size) d v
  | .i _, _, h => h
  | .s _, _, h => h
  | .b _, _, h => h
  | .l n m f, v, h => by
    obtain ⟨a, c, hv, hmc, h⟩ := h
    refine ⟨a, c, hv, hmc, ?_⟩
    by_cases h0 : m = 0
    · exact .inl h0
    rcases h with h | ⟨b, off, ha, hb, hn, hc⟩
    · exact .inl h
    obtain ⟨u, hu, -⟩ := hc 0 0 (by omega) hn
    refine .inr ⟨b, off, ha, ⟨hb, World.block_lt_of_cell? _ _ hu⟩, hn, fun i j hi hj => ?_⟩
    obtain ⟨u, hu, hr⟩ := hc i j hi hj
    exact ⟨u, hu, Rd.inside (f i j) u hr⟩
theorem Rd.later {w w' : World} {B : Nat → Prop} {d : D} {v : Value} (h : Rd w B d v) (hb : Below w.heap.size w w') : Rd w' B d v :=
  Rd.same (B := fun b => B b ∧ b < w.heap.size) (fun b h => hb.block b h.2) (fun _ h => h.1) d v (Rd.inside d v h)
theorem Rd.mono {w : World} {B B' : Nat → Prop} {d : D} {v : Value} (h : Rd w B d v) (hB : ∀ b, B b → B' b) : Rd w B' d v := Rd.same (fun _ _ => rfl) hB d v h
theorem Rd.any {w : World} {B : Nat → Prop} {d : D} {v : Value} (h : Rd w B d v) : Rd w (fun _ => True) d v := h.mono (fun _ _ => trivial)
theorem Rd.lt {w : World} {B : Nat → Prop} {d : D} {v : Value} (h : Rd w B d v) : Rd w (· < w.heap.size) d v := (Rd.inside d v h).mono (fun _ h => h.2)
theorem Rd.frm {w w' : World} {B F : Nat → Prop} {d : D} {v : Value} (h : Rd w B d v) (hF : Frm F w w') (hn : ∀ b, B b → ¬ F b) : Rd w' B d v :=
  Rd.same (B := fun b => B b ∧ b < w.heap.size) (fun b h => hF.block b h.2 (hn b h.1)) (fun _ h => h.1) d v (Rd.inside d v h)
theorem Rd.slice {w : World} {B : Nat → Prop} {n m : Nat} {f : Nat → Nat → D} {v : Value} (h : Rd w B (.l n m f) v) : ∃ a c, v = .slice a m c := by obtain ⟨a, c, h, -⟩ := h; exact ⟨a, c, h⟩
theorem Rd.room {w : World} {B : Nat → Prop} {n m : Nat} {f : Nat → Nat → D} {a : Option Addr} {c : Nat} (h : Rd w B (.l n m f) (.slice a m c)) : m ≤ c := by
  obtain ⟨a', c', hv, hmc, -⟩ := h
  simp only [Value.slice.injEq] at hv
  obtain ⟨-, -, rfl⟩ := hv
  exact hmc
theorem Rd.cells {w : World} {B : Nat → Prop} {n m : Nat} {f : Nat → Nat → D} {a : Option Addr} {c : Nat} (h : Rd w B (.l n m f) (.slice a m c)) {i : Nat} (hi : i < m) :
    ∃ b off, a = some ⟨b, off, none⟩ ∧ B b ∧ ∀ j, j < n → ∃ u, w.cell? ⟨b, off + i * n + j, none⟩ = some u ∧ Rd w B (f i j) u := by
  obtain ⟨a', c', hv, -, h⟩ := h
  simp only [Value.slice.injEq] at hv
  obtain ⟨rfl, -, -⟩ := hv
  rcases h with h | ⟨b, off, ha, hb, -, hc⟩
  · omega
  · exact ⟨b, off, ha, hb, fun j hj => hc i j hi hj⟩
theorem Rd.spot {w : World} {B : Nat → Prop} {n m : Nat} {f : Nat → Nat → D} {b off c : Nat} (h : Rd w B (.l n m f) (.slice (some ⟨b, off, none⟩) m c)) {i j : Nat} (hi : i < m) (hj : j < n) : ∃ u, w.cell? ⟨b, off + i * n + j, none⟩ = some u ∧ Rd w B (f i j) u := by
  obtain ⟨b', off', e, -, hc⟩ := h.cells hi
  simp only [Option.some.injEq, Addr.mk.injEq, and_true] at e
  obtain ⟨rfl, rfl⟩ := e
  exact hc j hj
theorem Rd.cap {w : World} {B : Nat → Prop} {n m : Nat} {f : Nat → Nat → D} {a : Option Addr} {c : Nat} (h : Rd w B (.l n m f) (.slice a m c)) (c' : Nat) (hc : m ≤ c') : Rd w B (.l n m f) (.slice a m c') := by
  obtain ⟨a', c'', hv, -, h⟩ := h
  simp only [Value.slice.injEq] at hv
  obtain ⟨rfl, -, -⟩ := hv
  exact ⟨a, c', rfl, hc, h⟩
theorem Rd.congr {w : World} {B : Nat → Prop} {n m : Nat} {f g : Nat → Nat → D} {v : Value} (h : Rd w B (.l n m f) v) (e : ∀ i j, i < m → j < n → f i j = g i j) : Rd w B (.l n m g) v := by
  obtain ⟨a, c, hv, hmc, h⟩ := h
  refine ⟨a, c, hv, hmc, h.imp id ?_⟩
  rintro ⟨b, off, ha, hb, hn, hc⟩
  exact ⟨b, off, ha, hb, hn, fun i j hi hj => by rw [← e i j hi hj]; exact hc i j hi hj⟩
def Own (w : World) : D → (Nat → Prop) → Value → Prop
  | .i n, _, v => v = .int .i64 n
  | .s t, _, v => v = .string ⟨t.toArray⟩
  | .b x, _, v => v = .bool x
  | .l n m f, B, v => ∃ a c, v = .slice a m c ∧ m ≤ c ∧ (m = 0 ∨ ∃ b off, ∃ X : Nat → Nat → Nat → Prop, a = some ⟨b, off, none⟩ ∧ B b ∧ 0 < n ∧ (∀ i j c, X i j c → B c ∧ c ≠ b) ∧ (∀ i j i' j' c, X i j c → X i' j' c → i = i' ∧ j = j') ∧
      ∀ i j, i < m → j < n → ∃ u, w.cell? ⟨b, off + i * n + j, none⟩ = some u ∧ w.frozen? ⟨b, off + i * n + j, none⟩ = false ∧ Own w (f i j) (X i j) u)
theorem Own.rd {w : World} : ∀ (d : D) (B : Nat → Prop) (v : Value), Own w d B v → Rd w B d v
  | .i _, _, _, h => h
  | .s _, _, _, h => h
  | .b _, _, _, h => h
  | .l n m f, B, v, h => by
    obtain ⟨a, c, hv, hmc, h⟩ := h
    refine ⟨a, c, hv, hmc, h.imp id ?_⟩
    rintro ⟨b, off, X, ha, hb, hn, hX, -, hc⟩
    refine ⟨b, off, ha, hb, hn, fun i j hi hj => ?_⟩
    obtain ⟨u, hu, -, hr⟩ := hc i j hi hj
    exact ⟨u, hu, (Own.rd (f i j) _ u hr).mono (fun c h => (hX i j c h).1)⟩
theorem Own.rd' {w : World} {d : D} {B : Nat → Prop} {v : Value} (h : Own w d B v) : Rd w B d v := Own.rd d B v h
theorem Own.same {w w' : World} : ∀ (d : D) (B B' : Nat → Prop) (v : Value), (∀ b, B b → w'.heap[b]? = w.heap[b]?) → (∀ b, B b → B' b) → Own w d B v → Own w' d B' v
  | .i _, _, _, _, _, _, h => h
  | .s _, _, _, _, _, _, h => h
  | .b _, _, _, _, _, _, h => h
  | .l n m f, B, B', v, hs, hB, h => by
    obtain ⟨a, c, hv, hmc, h⟩ := h
    refine ⟨a, c, hv, hmc, h.imp id ?_⟩
    rintro ⟨b, off, X, ha, hb, hn, hX, hd, hc⟩
    refine ⟨b, off, X, ha, hB b hb, hn, fun i j c h => ⟨hB c (hX i j c h).1, (hX i j c h).2⟩, hd, fun i j hi hj => ?_⟩
    obtain ⟨u, hu, hz, hr⟩ := hc i j hi hj
    exact ⟨u, by rw [World.cell?_of_block (w := w) (a := ⟨b, off + i * n + j, none⟩) (hs b hb)]; exact hu, by rw [World.frozen?_of_block (w := w) (a := ⟨b, off + i * n + j, none⟩) (hs b hb)]; exact hz,
      Own.same (f i j) (X i j) (X i j) u (fun c h => hs c (hX i j c h).1) (fun _ h => h) hr⟩
theorem Own.inside {w : World} : ∀ (d : D) (B : Nat → Prop) (v : Value), Own w d B v → Own w d (fun b => B b ∧ b < w.heap.size) v
  | .i _, _, _, h => h
  | .s _, _, _, h => h
  | .b _, _, _, h => h
  | .l n m f, B, v, h => by
    obtain ⟨a, c, hv, hmc, h⟩ := h
    refine ⟨a, c, hv, hmc, ?_⟩
    by_cases h0 : m = 0
    · exact .inl h0
    rcases h with h | ⟨b, off, X, ha, hb, hn, hX, hd, hc⟩
    · exact .inl h
    obtain ⟨u, hu, -⟩ := hc 0 0 (by omega) hn
    refine .inr ⟨b, off, fun i j c => X i j c ∧ c < w.heap.size, ha, ⟨hb, World.block_lt_of_cell? _ _ hu⟩, hn, fun i j c h => ⟨⟨(hX i j c h.1).1, h.2⟩, (hX i j c h.1).2⟩, fun i j i' j' c h h' => hd i j i' j' c h.1 h'.1, fun i j hi hj => ?_⟩
    obtain ⟨u, hu, hz, hr⟩ := hc i j hi hj
    exact ⟨u, hu, hz, Own.inside (f i j) (X i j) u hr⟩
theorem Own.mono {w : World} {d : D} {B B' : Nat → Prop} {v : Value} (h : Own w d B v) (hB : ∀ b, B b → B' b) : Own w d B' v := Own.same d B B' v (fun _ _ => rfl) hB h
theorem Own.later {w w' : World} {d : D} {B : Nat → Prop} {v : Value} (h : Own w d B v) (hb : Below w.heap.size w w') : Own w' d B v :=
  Own.same d (fun b => B b ∧ b < w.heap.size) B v (fun b h => hb.block b h.2) (fun _ h => h.1) (Own.inside d B v h)
theorem Own.frm {w w' : World} {d : D} {B F : Nat → Prop} {v : Value} (h : Own w d B v) (hF : Frm F w w') (hn : ∀ b, B b → ¬ F b) : Own w' d B v :=
  Own.same d (fun b => B b ∧ b < w.heap.size) B v (fun b h => hF.block b h.2 (hn b h.1)) (fun _ h => h.1) (Own.inside d B v h)
structure OwnR (w : World) (n m : Nat) (f : Nat → Nat → D) (B : Nat → Prop) (b off : Nat) (X : Nat → Nat → Nat → Prop) : Prop where
  bb : B b
  pos : 0 < n
  sub : ∀ i j c, X i j c → B c ∧ c ≠ b
  dis : ∀ i j i' j' c, X i j c → X i' j' c → i = i' ∧ j = j'
  cell : ∀ i j, i < m → j < n → ∃ u, w.cell? ⟨b, off + i * n + j, none⟩ = some u ∧ w.frozen? ⟨b, off + i * n + j, none⟩ = false ∧ Own w (f i j) (X i j) u
theorem Own.open {w : World} {n m : Nat} {f : Nat → Nat → D} {B : Nat → Prop} {v : Value} (h : Own w (.l n m f) B v) : ∃ a c, v = .slice a m c ∧ m ≤ c ∧ (m = 0 ∨ ∃ b off X, a = some ⟨b, off, none⟩ ∧ OwnR w n m f B b off X) := by
  obtain ⟨a, c, hv, hmc, h⟩ := h
  refine ⟨a, c, hv, hmc, h.imp id ?_⟩
  rintro ⟨b, off, X, ha, hb, hn, hX, hd, hc⟩
  exact ⟨b, off, X, ha, hb, hn, hX, hd, hc⟩
theorem OwnR.own {w : World} {n m : Nat} {f : Nat → Nat → D} {B : Nat → Prop} {b off : Nat} {X : Nat → Nat → Nat → Prop} (h : OwnR w n m f B b off X) (c : Nat) (hc : m ≤ c) : Own w (.l n m f) B (.slice (some ⟨b, off, none⟩) m c) :=
  ⟨_, c, rfl, hc, .inr ⟨b, off, X, rfl, h.bb, h.pos, h.sub, h.dis, h.cell⟩⟩
theorem OwnR.later {w w' : World} {n m : Nat} {f : Nat → Nat → D} {B : Nat → Prop} {b off : Nat} {X : Nat → Nat → Nat → Prop} (h : OwnR w n m f B b off X) (hb : Below w.heap.size w w') : OwnR w' n m f B b off X :=
  ⟨h.bb, h.pos, h.sub, h.dis, fun i j hi hj => by
    obtain ⟨u, hu, hz, ho⟩ := h.cell i j hi hj
    have hlt := World.block_lt_of_cell? _ _ hu
    exact ⟨u, by rw [hb.cell (p := ⟨b, off + i * n + j, none⟩) hlt]; exact hu, by rw [hb.frozen (p := ⟨b, off + i * n + j, none⟩) hlt]; exact hz, ho.later hb⟩⟩
theorem OwnR.congr {w : World} {n m : Nat} {f g : Nat → Nat → D} {B : Nat → Prop} {b off : Nat} {X : Nat → Nat → Nat → Prop} (h : OwnR w n m f B b off X) (e : ∀ i j, i < m → j < n → f i j = g i j) : OwnR w n m g B b off X :=
  ⟨h.bb, h.pos, h.sub, h.dis, fun i j hi hj => by rw [← e i j hi hj]; exact h.cell i j hi hj⟩
theorem spot_ne {off n i j i' j' : Nat} (hj : j < n) (hj' : j' < n) (h : ¬ (i' = i ∧ j' = j)) : off + i' * n + j' ≠ off + i * n + j := by
  intro e
  apply h
  have e1 : i' * n + j' = i * n + j := by omega
  have e2 : i' = i := by
    rcases Nat.lt_trichotomy i' i with hlt | h | hgt
    · exfalso
      obtain ⟨d, rfl⟩ : ∃ d, i = i' + 1 + d := ⟨i - i' - 1, by omega⟩
      have : (i' + 1 + d) * n = i' * n + n + d * n := by rw [Nat.add_mul, Nat.add_mul, Nat.one_mul]
      omega
    · exact h
    · exfalso
      obtain ⟨d, rfl⟩ : ∃ d, i' = i + 1 + d := ⟨i' - i - 1, by omega⟩
      have : (i + 1 + d) * n = i * n + n + d * n := by rw [Nat.add_mul, Nat.add_mul, Nat.one_mul]
      omega
  subst e2
  exact ⟨rfl, by omega⟩
def D.flat : D → Prop
  | .l _ _ _ => False
  | _ => True
theorem Own.flat {w w' : World} : ∀ {d : D} {B B' : Nat → Prop} {v : Value}, d.flat → Own w d B v → Own w' d B' v
  | .i _, _, _, _, _, h => h
  | .s _, _, _, _, _, h => h
  | .b _, _, _, _, _, h => h
theorem frm_set (w : World) (b o : Nat) (v : Value) : Frm (· = b) w (w.setCell ⟨b, o, none⟩ v) := (Frm.refl _ _).set (B := (· = b)) rfl v
theorem OwnR.set {w : World} {n m : Nat} {f g : Nat → Nat → D} {B : Nat → Prop} {b off : Nat} {X : Nat → Nat → Nat → Prop} (h : OwnR w n m f B b off X) {i j : Nat} (hi : i < m) (hj : j < n) (u : Value) (hg : (g i j).flat) (hu : Own w (g i j) (fun _ => True) u)
    (e : ∀ i' j', i' < m → j' < n → ¬ (i' = i ∧ j' = j) → g i' j' = f i' j') {o : Nat} (ho : o = off + i * n + j) : OwnR (w.setCell ⟨b, o, none⟩ u) n m g B b off X := by
  subst ho
  refine ⟨h.bb, h.pos, h.sub, h.dis, fun i' j' hi' hj' => ?_⟩
  obtain ⟨u', hu', hz', ho'⟩ := h.cell i' j' hi' hj'
  by_cases hij : i' = i ∧ j' = j
  · obtain ⟨rfl, rfl⟩ := hij
    exact ⟨u, by simp [World.cell?_setCell_same, hu'], by simpa using hz', Own.flat hg hu⟩
  · rw [e i' j' hi' hj' hij]
    have hne := spot_ne (off := off) hj hj' hij
    refine ⟨u', ?_, by simpa using hz', ho'.frm (frm_set _ _ _ _) (fun c hc => (h.sub i' j' c hc).2)⟩
    rw [World.cell?_setCell_other]
    · exact hu'
    · simp; try omega
theorem OwnR.child {w w' : World} {n m : Nat} {f g : Nat → Nat → D} {B : Nat → Prop} {b off : Nat} {X : Nat → Nat → Nat → Prop} (h : OwnR w n m f B b off X) {i j : Nat} (hi : i < m) (hj : j < n) {u : Value} (hF : Frm (X i j) w w') (hc : w.cell? ⟨b, off + i * n + j, none⟩ = some u) (hu : Own w' (g i j) (X i j) u)
    (e : ∀ i' j', i' < m → j' < n → ¬ (i' = i ∧ j' = j) → g i' j' = f i' j') : OwnR w' n m g B b off X := by
  refine ⟨h.bb, h.pos, h.sub, h.dis, fun i' j' hi' hj' => ?_⟩
  obtain ⟨u', hu', hz', ho'⟩ := h.cell i' j' hi' hj'
  have hb : w'.heap[b]? = w.heap[b]? := hF.block b (World.block_lt_of_cell? _ _ hu') (fun hx => (h.sub i j b hx).2 rfl)
  refine ⟨u', by rw [World.cell?_of_block (w := w) (a := ⟨b, off + i' * n + j', none⟩) hb]; exact hu', by rw [World.frozen?_of_block (w := w) (a := ⟨b, off + i' * n + j', none⟩) hb]; exact hz', ?_⟩
  by_cases hij : i' = i ∧ j' = j
  · obtain ⟨rfl, rfl⟩ := hij
    rw [hc] at hu'
    cases hu'
    exact hu
  · rw [e i' j' hi' hj' hij]
    exact ho'.frm hF (fun c hc hx => hij (by have := h.dis i' j' i j c hc hx; exact this))
end Go.Proofs.YtngbhifafdbpkaaGreat
