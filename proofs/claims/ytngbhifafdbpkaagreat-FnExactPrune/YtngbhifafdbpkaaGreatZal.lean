import Derived.Test.YtngbhifafdbpkaaGreatZak
import Derived.Test.YtngbhifafdbpkaaGreatZaa
import Derived.Lib.Hide
import Derived.Deep.RegionWith
import Derived.BigQuiet
namespace Go.Proofs.YtngbhifafdbpkaaGreat
open Go.RowKit
set_option linter.unusedSimpArgs false
def lsF {α : Type} (d : α → Nat → D) (l : List α) : Nat → Nat → D := fun i => match l[i]? with
  | some x => d x
  | none => fun _ => .i 0
def Ls {α : Type} (n : Nat) (d : α → Nat → D) (l : List α) : D := .l n l.length (lsF d l)
theorem lsF_at {α : Type} {d : α → Nat → D} {l : List α} {i : Nat} (h : i < l.length) : lsF d l i = d l[i] := by
  unfold lsF
  rw [List.getElem?_eq_getElem h]
def szT (n : Nat) (t : Nat → D) : Nat := sumN n (fun j => (t j).sz)
def szL {α : Type} (n : Nat) (d : α → Nat → D) (l : List α) (k : Nat) : Nat := sumN k (fun i => szT n (lsF d l i))
theorem szL_zero {α : Type} (n : Nat) (d : α → Nat → D) (l : List α) : szL n d l 0 = 0 := rfl
theorem szL_succ {α : Type} {n : Nat} {d : α → Nat → D} {l : List α} {k : Nat} (h : k < l.length) : szL n d l (k + 1) = szL n d l k + szT n (d l[k]) := by
  unfold szL
  rw [sumN_succ, lsF_at h]
theorem szL_mono {α : Type} {n : Nat} {d : α → Nat → D} {l : List α} {k : Nat} (h : k ≤ l.length) : szL n d l k ≤ szL n d l l.length := sumN_mono h
theorem Ls_sz {α : Type} {n : Nat} {d : α → Nat → D} {l : List α} : (Ls n d l).sz = l.length + szL n d l l.length := rfl
theorem Ls_le {α : Type} {n K : Nat} {d : α → Nat → D} {l : List α} : (Ls n d l).le K ↔ n ≤ 64 ∧ l.length ≤ K ∧ ∀ i (h : i < l.length) j, j < n → (d l[i] j).le K := by
  unfold Ls
  simp only [D.le]
  constructor
  · rintro ⟨h0, h1, h2⟩
    exact ⟨h0, h1, fun i hi j hj => by have := h2 i j hi hj; rwa [lsF_at hi] at this⟩
  · rintro ⟨h0, h1, h2⟩
    exact ⟨h0, h1, fun i j hi hj => by rw [lsF_at hi]; exact h2 i hi j hj⟩
theorem Rd.things {α : Type} {w : World} {B : Nat → Prop} {n : Nat} {d : α → Nat → D} {l : List α} {a : Option Addr} {c : Nat} (h : Rd w B (Ls n d l) (.slice a l.length c)) (i : Nat) (hi : i < l.length) :
    ∃ b off, a = some ⟨b, off, none⟩ ∧ B b ∧ ∀ j, j < n → ∃ u, w.cell? ⟨b, off + i * n + j, none⟩ = some u ∧ Rd w B (d l[i] j) u := by
  obtain ⟨b, off, ha, hb, hc⟩ := Rd.cells h hi
  refine ⟨b, off, ha, hb, fun j hj => ?_⟩
  have := hc j hj
  rwa [lsF_at hi] at this
theorem Rd.spotT {α : Type} {w : World} {B : Nat → Prop} {n : Nat} {d : α → Nat → D} {l : List α} {b off c : Nat} (h : Rd w B (Ls n d l) (.slice (some ⟨b, off, none⟩) l.length c)) {i j : Nat} (hi : i < l.length) (hj : j < n) : ∃ u, w.cell? ⟨b, off + i * n + j, none⟩ = some u ∧ Rd w B (d l[i] j) u := by
  have := Rd.spot h hi hj
  rwa [lsF_at hi] at this
theorem Rd.lsSlice {α : Type} {w : World} {B : Nat → Prop} {n : Nat} {d : α → Nat → D} {l : List α} {v : Value} (h : Rd w B (Ls n d l) v) : ∃ a c, v = .slice a l.length c := Rd.slice h
theorem Rd.lsNil {α : Type} {w : World} {B : Nat → Prop} {n : Nat} {d : α → Nat → D} (a : Option Addr) (c : Nat) : Rd w B (Ls n d ([] : List α)) (.slice a 0 c) := ⟨a, c, rfl, Nat.zero_le _, .inl rfl⟩
def vat (vs : List Value) (j : Nat) : Value := vs.getD j undef
def Owns (w : World) (n : Nat) (t : Nat → D) (us : Nat → Value) (B : Nat → Prop) : Prop := ∃ Y : Nat → Nat → Prop, (∀ j c, Y j c → B c) ∧ (∀ j j' c, Y j c → Y j' c → j = j') ∧ ∀ j, j < n → Own w (t j) (Y j) (us j)
theorem Owns.later {w w' : World} {n : Nat} {t : Nat → D} {us : Nat → Value} {B : Nat → Prop} (h : Owns w n t us B) (hb : Below w.heap.size w w') : Owns w' n t us B := by
  obtain ⟨Y, h1, h2, h3⟩ := h
  exact ⟨Y, h1, h2, fun j hj => (h3 j hj).later hb⟩
theorem Owns.mono {w : World} {n : Nat} {t : Nat → D} {us : Nat → Value} {B B' : Nat → Prop} (h : Owns w n t us B) (hb : ∀ c, B c → B' c) : Owns w n t us B' := by
  obtain ⟨Y, h1, h2, h3⟩ := h
  exact ⟨Y, fun j c hc => hb c (h1 j c hc), h2, h3⟩
theorem Owns.one {w : World} {n : Nat} {t : Nat → D} {us : Nat → Value} {B : Nat → Prop} (h : Owns w n t us B) {j : Nat} (hj : j < n) : Own w (t j) B (us j) := by
  obtain ⟨Y, h1, -, h3⟩ := h
  exact (h3 j hj).mono (h1 j)
theorem Owns.frm {w w' : World} {n : Nat} {t : Nat → D} {us : Nat → Value} {B F : Nat → Prop} (h : Owns w n t us B) (hF : Frm F w w') (hn : ∀ b, B b → ¬ F b) : Owns w' n t us B := by
  obtain ⟨Y, h1, h2, h3⟩ := h
  exact ⟨Y, h1, h2, fun j hj => (h3 j hj).frm hF (fun b hb => hn b (h1 j b hb))⟩
theorem cell_skip {w : World} {b o o' : Nat} {u v : Value} (h : w.cell? ⟨b, o, none⟩ = some v) (ne : o ≠ o') : (w.setCell ⟨b, o', none⟩ u).cell? ⟨b, o, none⟩ = some v := by
  rw [World.cell?_setCell_other]
  · exact h
  · simp; try omega
def putN (w : World) (b o : Nat) (us : Nat → Value) : Nat → World
  | 0 => w
  | n + 1 => (putN w b o us n).setCell ⟨b, o + n, none⟩ (us n)
theorem putN_size (w : World) (b o : Nat) (us : Nat → Value) : ∀ n, (putN w b o us n).heap.size = w.heap.size
  | 0 => rfl
  | n + 1 => by simp [putN, putN_size w b o us n]
theorem putN_block (w : World) (b o : Nat) (us : Nat → Value) {c : Nat} (h : c ≠ b) : ∀ n, (putN w b o us n).heap[c]? = w.heap[c]?
  | 0 => rfl
  | n + 1 => by
    unfold putN
    rw [Below.heap_setCell _ _ _ _ (by simpa using h)]; exact putN_block w b o us h n
theorem rowIs_putN {w : World} {b : Nat} {T : TypeId} {M : Nat} {g : Nat → Value} (h : w.rowIs b T M g) (o : Nat) (us : Nat → Value) : ∀ n, (putN w b o us n).rowIs b T M (fun m => if o ≤ m ∧ m < o + n then us (m - o) else g m)
  | 0 => h.congr (fun m _ => by rw [if_neg (by omega)])
  | n + 1 => by
    refine ((rowIs_putN h o us n).set (o + n) (us n)).congr (fun m _ => ?_)
    by_cases e : m = o + n
    · subst e
      simp
    · simp only [e, if_false]
      by_cases h1 : o ≤ m ∧ m < o + n
      · rw [if_pos h1, if_pos (by omega)]
      · rw [if_neg h1, if_neg (by omega)]
def TS (wr : World) (T : TypeId) (n L : Nat) (f : Nat → Nat → D) (b i : Nat) : Prop :=
  ∃ (g : Nat → Value) (X : Nat → Nat → Nat → Prop), wr.rowIs b T (L * n) g ∧ (∀ i' j c, X i' j c → i' < i ∧ b < c ∧ c < wr.heap.size) ∧ (∀ i1 j i2 j' c, X i1 j c → X i2 j' c → i1 = i2 ∧ j = j') ∧ ∀ i' j, i' < i → j < n → Own wr (f i' j) (X i' j) (g (i' * n + j))
theorem TS.start (w : World) (z : Array Value) (T : TypeId) (n L : Nat) (f : Nat → Nat → D) : TS (w.alloc (.cells (madeCells z (L * n)) T)) T n L f w.heap.size 0 := by
  refine ⟨fun i => (madeCells z (L * n)).getD i default, fun _ _ _ => False, ?_, fun _ _ _ h => h.elim, fun _ _ _ _ _ h => h.elim, fun i' j h => absurd h (by omega)⟩
  have := World.rowIs_alloc w (madeCells z (L * n)) T (fun i => (madeCells z (L * n)).getD i default) (fun i h => by rw [Array.getElem?_eq_getElem h]; simp [Array.getD, h])
  rwa [size_madeCells] at this
theorem TS.row {wr : World} {T : TypeId} {n L : Nat} {f : Nat → Nat → D} {b i : Nat} (h : TS wr T n L f b i) : ∃ g, wr.rowIs b T (L * n) g := by obtain ⟨g, _, h, _⟩ := h; exact ⟨g, h⟩
theorem TS.step {wr w1 : World} {T : TypeId} {n L : Nat} {f : Nat → Nat → D} {b i : Nat} (h : TS wr T n L f b i) (hB : Below wr.heap.size wr w1) (us : Nat → Value) (ho : Owns w1 n (f i) us (fun c => wr.heap.size ≤ c ∧ c < w1.heap.size)) : TS (putN w1 b (i * n) us n) T n L f b (i + 1) := by
  obtain ⟨g, X, hr, hX, hd, hx⟩ := h
  obtain ⟨Y, hY, hyd, hy⟩ := ho
  have hbl := hr.lt
  have hsz := hB.size
  refine ⟨_, fun i' j c => if i' = i then j < n ∧ Y j c else X i' j c, rowIs_putN (hr.of_block (hB.block _ hr.lt)) (i * n) us n, fun i' j c hc => ?_, fun i1 j i2 j' c h1 h2 => ?_, fun i' j hi' hj => ?_⟩
  · rw [putN_size]
    by_cases e : i' = i
    · simp only [e, if_true] at hc
      have := hY j c hc.2
      omega
    · simp only [e, if_false] at hc
      have := hX i' j c hc
      omega
  · by_cases e1 : i1 = i <;> by_cases e2 : i2 = i
    · simp only [e1, e2, if_true] at h1 h2
      exact ⟨by omega, hyd j j' c h1.2 h2.2⟩
    · simp only [e1, e2, if_true, if_false] at h1 h2
      have := hY j c h1.2; have := hX i2 j' c h2
      omega
    · simp only [e1, e2, if_true, if_false] at h1 h2
      have := hY j' c h2.2; have := hX i1 j c h1
      omega
    · simp only [e1, e2, if_false] at h1 h2
      exact hd i1 j i2 j' c h1 h2
  · by_cases e : i' = i
    · subst e
      simp only [if_true]
      rw [if_pos (by omega), show i' * n + j - i' * n = j by omega]
      refine Own.same (f i' j) (Y j) _ (us j) (fun c hc => ?_) (fun c hc => ⟨hj, hc⟩) (hy j hj)
      exact putN_block _ _ _ _ (by have := hY j c hc; omega) n
    · simp only [e, if_false]
      have hlt : i' < i := by omega
      have hspot : i' * n + j < i * n := by
        obtain ⟨k, rfl⟩ : ∃ k, i = i' + 1 + k := ⟨i - i' - 1, by omega⟩
        have : (i' + 1 + k) * n = i' * n + n + k * n := by rw [Nat.add_mul, Nat.add_mul, Nat.one_mul]
        omega
      rw [if_neg (by omega)]
      refine Own.same (f i' j) (X i' j) _ _ (fun c hc => ?_) (fun c hc => hc) (hx i' j hlt hj)
      have := hX i' j c hc
      rw [putN_block _ _ _ _ (by omega) n, hB.block c (by omega)]
theorem TS.done {wr : World} {T : TypeId} {n L : Nat} {f : Nat → Nat → D} {b : Nat} (hn : 0 < n) (h : TS wr T n L f b L) : Own wr (.l n L f) (fun c => b ≤ c ∧ c < wr.heap.size) (.slice (some ⟨b, 0, none⟩) L L) := by
  obtain ⟨g, X, hr, hX, hd, hx⟩ := h
  have hbl := hr.lt
  refine OwnR.own (off := 0) (X := X) ⟨⟨Nat.le_refl _, hbl⟩, hn, fun i j c hc => ?_, hd, fun i j hi hj => ⟨g (i * n + j), ?_, ?_, hx i j hi hj⟩⟩ L (Nat.le_refl _)
  · have := hX i j c hc; exact ⟨⟨by omega, by omega⟩, by omega⟩
  · have hlt : i * n + j < L * n := by
      obtain ⟨k, rfl⟩ : ∃ k, L = i + 1 + k := ⟨L - i - 1, by omega⟩
      have : (i + 1 + k) * n = i * n + n + k * n := by rw [Nat.add_mul, Nat.add_mul, Nat.one_mul]
      omega
    rw [Nat.zero_add]; exact hr.cell hlt
  · rw [Nat.zero_add]; exact hr.frozen _
theorem spot_lt {i j n L : Nat} (hi : i < L) (hj : j < n) : i * n + j < L * n := by
  obtain ⟨k, rfl⟩ : ∃ k, L = i + 1 + k := ⟨L - i - 1, by omega⟩
  have : (i + 1 + k) * n = i * n + n + k * n := by rw [Nat.add_mul, Nat.add_mul, Nat.one_mul]
  omega
def rem3 (k : Nat) : Bool := (((k % 3 : Nat) : Int) == 0)
def D.wd : D → Nat
  | .i _ => 1
  | .s _ => 1
  | .b _ => 1
  | .l n m f => sumN m (fun i => sumN n (fun j => (f i j).wd))
def atN (f : Nat → Nat → D) (n k i j : Nat) : Nat := k + sumN i (fun i' => sumN n (fun j' => (f i' j').wd)) + sumN j (fun j' => (f i j').wd)
def D.mkd : D → Nat → D
  | .i _, k => .i (k : Int)
  | .s _, k => .s (mt k)
  | .b _, k => .b (rem3 k)
  | .l n m f, k => .l n m (fun i j => (f i j).mkd (k + sumN i (fun i' => sumN n (fun j' => (f i' j').wd)) + sumN j (fun j' => (f i j').wd)))
theorem mkd_l (n m : Nat) (f : Nat → Nat → D) (k : Nat) : D.mkd (.l n m f) k = .l n m (fun i j => (f i j).mkd (atN f n k i j)) := rfl
theorem atN_zero (f : Nat → Nat → D) (n k : Nat) : atN f n k 0 0 = k := rfl
theorem atN_succ (f : Nat → Nat → D) (n k i j : Nat) : atN f n k i (j + 1) = atN f n k i j + (f i j).wd := by unfold atN; rw [sumN_succ]; omega
theorem atN_row (f : Nat → Nat → D) (n k i : Nat) : atN f n k (i + 1) 0 = atN f n k i n := by unfold atN; rw [sumN_succ]; simp [sumN]; omega
theorem atN_all (f : Nat → Nat → D) (n k m : Nat) : atN f n k m 0 = k + (D.l n m f).wd := by unfold atN; simp [D.wd, sumN]
theorem atN_le {f : Nat → Nat → D} {n k m i j : Nat} (hi : i < m) (hj : j ≤ n) : atN f n k i j ≤ k + (D.l n m f).wd := by
  rw [← atN_all]
  have h1 : atN f n k i j ≤ atN f n k i n := by unfold atN; have := sumN_mono (g := fun j' => (f i j').wd) hj; omega
  rw [← atN_row] at h1
  have h2 : atN f n k (i + 1) 0 ≤ atN f n k m 0 := by unfold atN; have := sumN_mono (g := fun i' => sumN n (fun j' => (f i' j').wd)) (show i + 1 ≤ m from hi); simp [sumN] at this ⊢; omega
  omega
theorem atN_ge (f : Nat → Nat → D) (n k i j : Nat) : k ≤ atN f n k i j := by unfold atN; omega
theorem D.wd_le {K : Nat} : ∀ d : D, d.le K → d.wd ≤ 1 + 64 * d.sz
  | .i _, _ => by simp [D.wd]
  | .s _, _ => by simp [D.wd]
  | .b _, _ => by simp [D.wd]
  | .l n m f, h => by
    simp only [D.wd, D.sz]
    have h1 : sumN m (fun i => sumN n (fun j => (f i j).wd)) ≤ sumN m (fun i => 64 + 64 * sumN n (fun j => (f i j).sz)) := sumN_bound (fun i hi => by
      have h2 : sumN n (fun j => (f i j).wd) ≤ sumN n (fun j => 1 + 64 * (f i j).sz) := sumN_bound (fun j hj => D.wd_le (f i j) (h.2.2 i j hi hj))
      rw [sumN_lin] at h2
      have := h.1
      omega)
    rw [sumN_lin] at h1
    omega
def mixf (f : Nat → Nat → D) (n k i j : Nat) : Nat → Nat → D := fun i' j' => if i' < i ∨ (i' = i ∧ j' < j) then (f i' j').mkd (atN f n k i' j') else f i' j'
structure MS (w wr : World) (n m : Nat) (f : Nat → Nat → D) (k : Nat) (B : Nat → Prop) (b off : Nat) (X : Nat → Nat → Nat → Prop) (i j : Nat) : Prop where
  own : OwnR wr n m (mixf f n k i j) B b off X
  frm : Frm B w wr
section
variable {w wr w1 : World} {n m : Nat} {f : Nat → Nat → D} {k : Nat} {B : Nat → Prop} {b off : Nat} {X : Nat → Nat → Nat → Prop} {i j : Nat}
theorem MS.start (h : OwnR w n m f B b off X) : MS w w n m f k B b off X 0 0 := ⟨h.congr (fun i j _ _ => by unfold mixf; rw [if_neg (by omega)]), Frm.refl _ _⟩
theorem MS.later (h : MS w wr n m f k B b off X i j) (hb : Below wr.heap.size wr w1) : MS w w1 n m f k B b off X i j := ⟨h.own.later hb, h.frm.trans (Frm.of_below hb)⟩
theorem MS.row (h : MS w wr n m f k B b off X i n) : MS w wr n m f k B b off X (i + 1) 0 := ⟨h.own.congr (fun i' j' _ hj' => by
  unfold mixf
  by_cases e : i' < i ∨ (i' = i ∧ j' < n)
  · rw [if_pos e, if_pos (by omega)]
  · rw [if_neg e, if_neg (by omega)]), h.frm⟩
theorem mixf_other {i' j' : Nat} (e : ¬ (i' = i ∧ j' = j)) : mixf f n k i (j + 1) i' j' = mixf f n k i j i' j' := by
  unfold mixf
  by_cases h : i' < i ∨ (i' = i ∧ j' < j)
  · rw [if_pos h, if_pos (by omega)]
  · rw [if_neg h, if_neg (by omega)]
theorem mixf_new : mixf f n k i (j + 1) i j = (f i j).mkd (atN f n k i j) := by unfold mixf; rw [if_pos (by omega)]
theorem mixf_old : mixf f n k i j i j = f i j := by unfold mixf; rw [if_neg (by omega)]
theorem MS.scalar (h : MS w wr n m f k B b off X i j) (hi : i < m) (hj : j < n) {x : D} {q : Nat} (hx : f i j = x) (hq : q = atN f n k i j) (hfl : (x.mkd q).flat) {u : Value} (hu : Own wr (x.mkd q) (fun _ => True) u) {o : Nat} (ho : o = off + i * n + j) : MS w (wr.setCell ⟨b, o, none⟩ u) n m f k B b off X i (j + 1) := by
  subst hx hq
  exact ⟨h.own.set hi hj u (by rw [mixf_new]; exact hfl) (by rw [mixf_new]; exact hu) (fun i' j' _ _ e => mixf_other e) ho, h.frm.set h.own.bb u⟩
theorem MS.next (h : MS w wr n m f k B b off X i j) (hi : i < m) (hj : j < n) : ∃ u, wr.cell? ⟨b, off + i * n + j, none⟩ = some u ∧ wr.frozen? ⟨b, off + i * n + j, none⟩ = false ∧ Own wr (f i j) (X i j) u := by
  have := h.own.cell i j hi hj
  rwa [mixf_old] at this
theorem mixf_ahead {j' : Nat} (h : j ≤ j') : mixf f n k i j i j' = f i j' := by unfold mixf; rw [if_neg (by omega)]
theorem MS.peek (h : MS w wr n m f k B b off X i j) {t : Nat → D} (ht : f i = t) (hi : i < m) {j' : Nat} (hj : j' < n) (hle : j ≤ j') : ∃ u, wr.cell? ⟨b, off + i * n + j', none⟩ = some u ∧ wr.frozen? ⟨b, off + i * n + j', none⟩ = false ∧ Own wr (t j') (X i j') u := by
  have := h.own.cell i j' hi hj
  rwa [mixf_ahead hle, ht] at this
theorem MS.child (h : MS w wr n m f k B b off X i j) (hi : i < m) (hj : j < n) {x : D} {q : Nat} (hx : f i j = x) (hq : q = atN f n k i j) {u : Value} (hF : Frm (X i j) wr w1) (hc : wr.cell? ⟨b, off + i * n + j, none⟩ = some u) (hu : Own w1 (x.mkd q) (X i j) u) : MS w w1 n m f k B b off X i (j + 1) := by
  subst hx hq
  exact ⟨h.own.child hi hj hF hc (by rw [mixf_new]; exact hu) (fun i' j' _ _ e => mixf_other e), h.frm.trans (hF.mono (fun c hc => (h.own.sub i j c hc).1))⟩
theorem MS.done (h : MS w wr n m f k B b off X m 0) (c : Nat) (hc : m ≤ c) : Own wr (D.mkd (.l n m f) k) B (.slice (some ⟨b, off, none⟩) m c) := by
  rw [mkd_l]
  exact (h.own.congr (fun i j hi _ => by unfold mixf; rw [if_pos (by omega)])).own c hc
end
theorem atN_next {f : Nat → Nat → D} {n k i j q : Nat} {t : Nat → D} (ht : f i = t) (h : atN f n k i j = q) : atN f n k i (j + 1) = q + (t j).wd := by rw [atN_succ, h, ht]
theorem rem3T (k : Nat) (h : k < 1000000000000) : ∃ r : Nat, ((k : Int)).tmod 3 = (r : Int) ∧ IntKind.i64.wrap (r : Int) = (r : Int) ∧ IntKind.i64.wrap ((k : Int) % 3) = (r : Int) ∧ (k : Int) % 3 = (r : Int) ∧ ((r : Int) == 0) = rem3 k := by
  refine ⟨k % 3, ?_, ?_, ?_, by omega, rfl⟩
  · rw [Int.tmod_eq_emod_of_nonneg (by omega)]; omega
  · rw [IntKind.wrap_i64]; omega
  · rw [IntKind.wrap_i64]; omega
end Go.Proofs.YtngbhifafdbpkaaGreat
namespace Go.Proofs.YtngbhifafdbpkaaGreat
open Go.RowKit
set_option linter.unusedSimpArgs false
theorem heap_keptD {w w' : World} {b : Nat} {o : Obj} (h : w.heap[b]? = some o) (hB : Below w.heap.size w w') : w'.heap[b]? = some o := by
  rw [hB.block b (Array.getElem?_eq_some_iff.1 h).1]; exact h
theorem heap_newD (w : World) (o : Obj) : (w.alloc o).heap[w.heap.size]? = some o := by
  show (w.heap.push o)[w.heap.size]? = _
  simp
theorem below_allocD (w : World) (o : Obj) : Below w.heap.size w (w.alloc o) := (Below.refl _ _).alloc (Nat.le_refl _) _
theorem size_allocD (w : World) (o : Obj) : (w.alloc o).heap.size = w.heap.size + 1 := by simp
def BoxD (ty : TypeId) (w W : World) (cs : Array Value) : Prop := W.heap[w.heap.size]? = some (.cells cs ty) ∧ Below w.heap.size w W
theorem boxD (ty : TypeId) (w : World) (cs : Array Value) : BoxD ty w (w.alloc (.cells cs ty)) cs := ⟨heap_newD _ _, below_allocD _ _⟩
theorem BoxD.later {ty : TypeId} {w W W' : World} {cs : Array Value} (h : BoxD ty w W cs) (hB : Below W.heap.size W W') : BoxD ty w W' cs := ⟨heap_keptD h.1 hB, h.2.trans (hB.mono h.2.size)⟩
theorem BoxD.drew {ty : TypeId} {w W : World} {cs : Array Value} (h : BoxD ty w W cs) : BoxD ty w W.drew cs := h.later (Below.refl _ _).drew
structure Box2D (ty : TypeId) (w W : World) (cs ds : Array Value) : Prop where
  a : W.heap[w.heap.size]? = some (.cells cs ty)
  b : W.heap[w.heap.size + 1]? = some (.cells ds ty)
  bel : Below w.heap.size w W
theorem box2D (ty : TypeId) (w : World) (cs ds : Array Value) : Box2D ty w ((w.alloc (.cells cs ty)).alloc (.cells ds ty)) cs ds := by
  refine ⟨heap_keptD (heap_newD _ _) (below_allocD _ _), ?_, (below_allocD _ _).trans ((below_allocD _ _).mono (by simp))⟩
  have h := heap_newD (w.alloc (.cells cs ty)) (.cells ds ty)
  rw [size_allocD] at h
  exact h
theorem Box2D.later {ty : TypeId} {w W W' : World} {cs ds : Array Value} (h : Box2D ty w W cs ds) (hB : Below W.heap.size W W') : Box2D ty w W' cs ds := ⟨heap_keptD h.a hB, heap_keptD h.b hB, h.bel.trans (hB.mono h.bel.size)⟩
structure St3 (w V : World) (ty ty' : TypeId) (p z o : Array Value) : Prop where
  bx : V.heap[w.heap.size]? = some (.cells p ty)
  rv : V.heap[w.heap.size + 1]? = some (.cells z ty')
  ot : V.heap[w.heap.size + 1 + 1]? = some (.cells o ty')
  bel : Below w.heap.size w V
theorem St3.later {w V V' : World} {ty ty' : TypeId} {p z o : Array Value} (h : St3 w V ty ty' p z o) (hB : Below V.heap.size V V') : St3 w V' ty ty' p z o := ⟨heap_keptD h.bx hB, heap_keptD h.rv hB, heap_keptD h.ot hB, h.bel.trans (hB.mono h.bel.size)⟩
theorem St3.set {w V : World} {ty ty' : TypeId} {p z o : Array Value} (h : St3 w V ty ty' p z o) (k : Nat) (v : Value) : St3 w (V.setCell ⟨w.heap.size + 1 + 1, k, none⟩ v) ty ty' p z (o.setIfInBounds k v) :=
  ⟨by rw [Below.heap_setCell _ ⟨w.heap.size + 1 + 1, k, none⟩ v _ (by show w.heap.size ≠ w.heap.size + 1 + 1; omega)]; exact h.bx, by rw [Below.heap_setCell _ ⟨w.heap.size + 1 + 1, k, none⟩ v _ (by show w.heap.size + 1 ≠ w.heap.size + 1 + 1; omega)]; exact h.rv, heap_set k v h.ot, h.bel.setCell (by show w.heap.size ≤ w.heap.size + 1 + 1; omega) _⟩
theorem st3First (w : World) (ty ty' : TypeId) (p z o : Array Value) : St3 w (((w.alloc (.cells p ty)).alloc (.cells z ty')).alloc (.cells o ty')) ty ty' p z o := by
  refine ⟨heap_keptD (heap_keptD (heap_newD _ _) (below_allocD _ _)) (below_allocD _ _), ?_, ?_, (((Below.refl _ _).alloc (Nat.le_refl _) _).alloc (by simp) _).alloc (by simp; omega) _⟩
  · have h := heap_keptD (heap_newD (w.alloc (.cells p ty)) (.cells z ty')) (below_allocD _ (.cells o ty'))
    rw [size_allocD] at h
    exact h
  · have h := heap_newD ((w.alloc (.cells p ty)).alloc (.cells z ty')) (.cells o ty')
    rw [size_allocD, size_allocD] at h
    exact h
end Go.Proofs.YtngbhifafdbpkaaGreat
