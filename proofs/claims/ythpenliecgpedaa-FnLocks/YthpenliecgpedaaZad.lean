import Derived.Test.YthpenliecgpedaaZac
namespace Go.Proofs.Ythpenliecgpedaa
open Go.RowKit
set_option linter.unusedSimpArgs false
def lsF {α : Type} (d : α → Nat → D) (l : List α) : Nat → Nat → D := fun i => match l[i]? with
  | some x => d x
  | none => fun _ => .i 0
def Ls {α : Type} (n : Nat) (d : α → Nat → D) (l : List α) : D := .l n l.length (lsF d l)
theorem lsF_at {α : Type} {d : α → Nat → D} {l : List α} {i : Nat} (h : i < l.length) : lsF d l i = d l[i] := by
  unfold lsF
  rw [List.getElem?_eq_getElem h]
theorem Ls_le {α : Type} {n K : Nat} {d : α → Nat → D} {l : List α} : (Ls n d l).le K ↔ n ≤ 64 ∧ l.length ≤ K ∧ ∀ i (h : i < l.length) j, j < n → (d l[i] j).le K := by
  unfold Ls
  simp only [D.le]
  constructor
  · rintro ⟨h0, h1, h2⟩
    exact ⟨h0, h1, fun i hi j hj => by have := h2 i j hi hj; rwa [lsF_at hi] at this⟩
  · rintro ⟨h0, h1, h2⟩
    exact ⟨h0, h1, fun i j hi hj => by rw [lsF_at hi]; exact h2 i hi j hj⟩
theorem Rd.things {α : Type} {w : World} {B : Nat → Prop} {n : Nat} {d : α → Nat → D} {l : List α} {a : Option Addr} {c : Nat} (h : Rd w B (Ls n d l) (.slice a l.length c)) (i : Nat) (hi : i < l.length) :
    ∃ b off, a = some ⟨b, off, none⟩ ∧ B b ∧ ∀ j, j < n → ∃ u, w.cell? ⟨b, off + i * n + j, none⟩ = some u ∧ Rd w B (d l[i] j) u := by
  obtain ⟨b, off, ha, hb, hc⟩ := Rd.cells h hi
  refine ⟨b, off, ha, hb, fun j hj => ?_⟩
  have := hc j hj
  rwa [lsF_at hi] at this
theorem Rd.spotT {α : Type} {w : World} {B : Nat → Prop} {n : Nat} {d : α → Nat → D} {l : List α} {b off c : Nat} (h : Rd w B (Ls n d l) (.slice (some ⟨b, off, none⟩) l.length c)) {i j : Nat} (hi : i < l.length) (hj : j < n) : ∃ u, w.cell? ⟨b, off + i * n + j, none⟩ = some u ∧ Rd w B (d l[i] j) u := by
  have := Rd.spot h hi hj
  rwa [lsF_at hi] at this
theorem Rd.lsSlice {α : Type} {w : World} {B : Nat → Prop} {n : Nat} {d : α → Nat → D} {l : List α} {v : Value} (h : Rd w B (Ls n d l) v) : ∃ a c, v = .slice a l.length c := Rd.slice h
theorem Rd.lsNil {α : Type} {w : World} {B : Nat → Prop} {n : Nat} {d : α → Nat → D} (a : Option Addr) (c : Nat) : Rd w B (Ls n d ([] : List α)) (.slice a 0 c) := ⟨a, c, rfl, Nat.zero_le _, .inl rfl⟩
def Owns (w : World) (n : Nat) (t : Nat → D) (us : Nat → Value) (B : Nat → Prop) : Prop := ∃ Y : Nat → Nat → Prop, (∀ j c, Y j c → B c) ∧ (∀ j j' c, Y j c → Y j' c → j = j') ∧ ∀ j, j < n → Own w (t j) (Y j) (us j)
theorem Owns.later {w w' : World} {n : Nat} {t : Nat → D} {us : Nat → Value} {B : Nat → Prop} (h : Owns w n t us B) (hb : Below w.heap.size w w') : Owns w' n t us B := by
  obtain ⟨Y, h1, h2, h3⟩ := h
  exact ⟨Y, h1, h2, fun j hj => (h3 j hj).later hb⟩
theorem Owns.mono {w : World} {n : Nat} {t : Nat → D} {us : Nat → Value} {B B' : Nat → Prop} (h : Owns w n t us B) (hb : ∀ c, B c → B' c) : Owns w n t us B' := by
  obtain ⟨Y, h1, h2, h3⟩ := h
  exact ⟨Y, fun j c hc => hb c (h1 j c hc), h2, h3⟩
theorem Owns.one {w : World} {n : Nat} {t : Nat → D} {us : Nat → Value} {B : Nat → Prop} (h : Owns w n t us B) {j : Nat} (hj : j < n) : Own w (t j) B (us j) := by
  obtain ⟨Y, h1, -, h3⟩ := h
  exact (h3 j hj).mono (h1 j)
theorem Owns.frm {w w' : World} {n : Nat} {t : Nat → D} {us : Nat → Value} {B F : Nat → Prop} (h : Owns w n t us B) (hF : Frm F w w') (hn : ∀ b, B b → ¬ F b) : Owns w' n t us B := by
  obtain ⟨Y, h1, h2, h3⟩ := h
  exact ⟨Y, h1, h2, fun j hj => (h3 j hj).frm hF (fun b hb => hn b (h1 j b hb))⟩
def putN (w : World) (b o : Nat) (us : Nat → Value) : Nat → World
  | 0 => w
  | n + 1 => (putN w b o us n).setCell ⟨b, o + n, none⟩ (us n)
theorem putN_size (w : World) (b o : Nat) (us : Nat → Value) : ∀ n, (putN w b o us n).heap.size = w.heap.size
  | 0 => rfl
  | n + 1 => by simp [putN, putN_size w b o us n]
theorem putN_block (w : World) (b o : Nat) (us : Nat → Value) {c : Nat} (h : c ≠ b) : ∀ n, (putN w b o us n).heap[c]? = w.heap[c]?
  | 0 => rfl
  | n + 1 => by
    unfold putN
    rw [Below.heap_setCell _ _ _ _ (by simpa using h)]; exact putN_block w b o us h n
theorem rowIs_putN {w : World} {b : Nat} {T : TypeId} {M : Nat} {g : Nat → Value} (h : w.rowIs b T M g) (o : Nat) (us : Nat → Value) : ∀ n, (putN w b o us n).rowIs b T M (fun m => if o ≤ m ∧ m < o + n then us (m - o) else g m)
  | 0 => h.congr (fun m _ => by rw [if_neg (by omega)])
  | n + 1 => by
    refine ((rowIs_putN h o us n).set (o + n) (us n)).congr (fun m _ => ?_)
    by_cases e : m = o + n
    · subst e
      simp
    · simp only [e, if_false]
      by_cases h1 : o ≤ m ∧ m < o + n
      · rw [if_pos h1, if_pos (by omega)]
      · rw [if_neg h1, if_neg (by omega)]
def TS (wr : World) (T : TypeId) (n L : Nat) (f : Nat → Nat → D) (b i : Nat) : Prop :=
  ∃ (g : Nat → Value) (X : Nat → Nat → Nat → Prop), wr.rowIs b T (L * n) g ∧ (∀ i' j c, X i' j c → i' < i ∧ b < c ∧ c < wr.heap.size) ∧ (∀ i1 j i2 j' c, X i1 j c → X i2 j' c → i1 = i2 ∧ j = j') ∧ ∀ i' j, i' < i → j < n → Own wr (f i' j) (X i' j) (g (i' * n + j))
theorem TS.start (w : World) (z : Array Value) (T : TypeId) (n L : Nat) (f : Nat → Nat → D) : TS (w.alloc (.cells (madeCells z (L * n)) T)) T n L f w.heap.size 0 := by
  refine ⟨fun i => (madeCells z (L * n)).getD i default, fun _ _ _ => False, ?_, fun _ _ _ h => h.elim, fun _ _ _ _ _ h => h.elim, fun i' j h => absurd h (by omega)⟩
  have := World.rowIs_alloc w (madeCells z (L * n)) T (fun i => (madeCells z (L * n)).getD i default) (fun i h => by rw [Array.getElem?_eq_getElem h]; simp [Array.getD, h])
  rwa [size_madeCells] at this
theorem TS.row {wr : World} {T : TypeId} {n L : Nat} {f : Nat → Nat → D} {b i : Nat} (h : TS wr T n L f b i) : ∃ g, wr.rowIs b T (L * n) g := by obtain ⟨g, _, h, _⟩ := h; exact ⟨g, h⟩
theorem TS.step {wr w1 : World} {T : TypeId} {n L : Nat} {f : Nat → Nat → D} {b i : Nat} (h : TS wr T n L f b i) (hB : Below wr.heap.size wr w1) (us : Nat → Value) (ho : Owns w1 n (f i) us (fun c => wr.heap.size ≤ c ∧ c < w1.heap.size)) : TS (putN w1 b (i * n) us n) T n L f b (i + 1) := by
  obtain ⟨g, X, hr, hX, hd, hx⟩ := h
  obtain ⟨Y, hY, hyd, hy⟩ := ho
  have hbl := hr.lt
  have hsz := hB.size
  refine ⟨_, fun i' j c => if i' = i then j < n ∧ Y j c else X i' j c, rowIs_putN (hr.of_block (hB.block _ hr.lt)) (i * n) us n, fun i' j c hc => ?_, fun i1 j i2 j' c h1 h2 => ?_, fun i' j hi' hj => ?_⟩
  · rw [putN_size]
    by_cases e : i' = i
    · simp only [e, if_true] at hc
      have := hY j c hc.2
      omega
    · simp only [e, if_false] at hc
      have := hX i' j c hc
      omega
  · by_cases e1 : i1 = i <;> by_cases e2 : i2 = i
    · simp only [e1, e2, if_true] at h1 h2
      exact ⟨by omega, hyd j j' c h1.2 h2.2⟩
    · simp only [e1, e2, if_true, if_false] at h1 h2
      have := hY j c h1.2; have := hX i2 j' c h2
      omega
    · simp only [e1, e2, if_true, if_false] at h1 h2
      have := hY j' c h2.2; have := hX i1 j c h1
      omega
    · simp only [e1, e2, if_false] at h1 h2
      exact hd i1 j i2 j' c h1 h2
  · by_cases e : i' = i
    · subst e
      simp only [if_true]
      rw [if_pos (by omega), show i' * n + j - i' * n = j by omega]
      refine Own.same (f i' j) (Y j) _ (us j) (fun c hc => ?_) (fun c hc => ⟨hj, hc⟩) (hy j hj)
      exact putN_block _ _ _ _ (by have := hY j c hc; omega) n
    · simp only [e, if_false]
      have hlt : i' < i := by omega
      have hspot : i' * n + j < i * n := by
        obtain ⟨k, rfl⟩ : ∃ k, i = i' + 1 + k := ⟨i - i' - 1, by omega⟩
        have : (i' + 1 + k) * n = i' * n + n + k * n := by rw [Nat.add_mul, Nat.add_mul, Nat.one_mul]
        omega
      rw [if_neg (by omega)]
      refine Own.same (f i' j) (X i' j) _ _ (fun c hc => ?_) (fun c hc => hc) (hx i' j hlt hj)
      have := hX i' j c hc
      rw [putN_block _ _ _ _ (by omega) n, hB.block c (by omega)]
theorem TS.done {wr : World} {T : TypeId} {n L : Nat} {f : Nat → Nat → D} {b : Nat} (hn : 0 < n) (h : TS wr T n L f b L) : Own wr (.l n L f) (fun c => b ≤ c ∧ c < wr.heap.size) (.slice (some ⟨b, 0, none⟩) L L) := by
  obtain ⟨g, X, hr, hX, hd, hx⟩ := h
  have hbl := hr.lt
  refine OwnR.own (off := 0) (X := X) ⟨⟨Nat.le_refl _, hbl⟩, hn, fun i j c hc => ?_, hd, fun i j hi hj => ⟨g (i * n + j), ?_, ?_, hx i j hi hj⟩⟩ L (Nat.le_refl _)
  · have := hX i j c hc; exact ⟨⟨by omega, by omega⟩, by omega⟩
  · have hlt : i * n + j < L * n := by
      obtain ⟨k, rfl⟩ : ∃ k, L = i + 1 + k := ⟨L - i - 1, by omega⟩
      have : (i + 1 + k) * n = i * n + n + k * n := by rw [Nat.add_mul, Nat.add_mul, Nat.one_mul]
      omega
    rw [Nat.zero_add]; exact hr.cell hlt
  · rw [Nat.zero_add]; exact hr.frozen _
def D.wd : D → Nat
  | .i _ => 1
  | .s _ => 1
  | .b _ => 1
  | .l n m f => sumN m (fun i => sumN n (fun j => (f i j).wd))
section
variable {w wr w1 : World} {n m : Nat} {f : Nat → Nat → D} {k : Nat} {B : Nat → Prop} {b off : Nat} {X : Nat → Nat → Nat → Prop} {i j : Nat}
end
end Go.Proofs.Ythpenliecgpedaa
