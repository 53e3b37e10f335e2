import Derived.Test.YtkncpfhblciplaaWap
namespace Go.Proofs.Ytkncpfhblciplaa
open Go.RowKit
set_option linter.unusedSimpArgs false
def mn : J → Nat
  | ⟨_, _, _, keys, items⟩ => 3 + keys.length + (items.map fun x => mn x).sum
theorem mn_eq (j : J) : mn j = 3 + j.keys.length + (j.items.map mn).sum := by cases j; rw [mn]
def runL : List (Nat × (Nat → J)) → Nat → List J
  | [], _ => []
  | x :: l, k => x.2 k :: runL l (k + x.1)
theorem runL_len : ∀ (l : List (Nat × (Nat → J))) (k : Nat), (runL l k).length = l.length
  | [], _ => rfl
  | x :: l, k => by simp [runL, runL_len l]
def mkJ : J → Nat → J
  | ⟨_, _, _, keys, items⟩ => fun k => ⟨k, k + 1, mt (k + 2), marks keys.length (k + 3), runL (items.map fun x => (mn x, mkJ x)) (k + 3 + keys.length)⟩
def mkL (items : List J) (k : Nat) : List J := runL (items.map fun x => (mn x, mkJ x)) k
theorem mkJ_eq (j : J) (k : Nat) : mkJ j k = ⟨k, k + 1, mt (k + 2), marks j.keys.length (k + 3), mkL j.items (k + 3 + j.keys.length)⟩ := by
  cases j; rw [mkJ]; rfl
theorem mkL_len (items : List J) (k : Nat) : (mkL items k).length = items.length := by simp [mkL, runL_len]
theorem sumTo_cons {α : Type} (f : α → Nat) (x : α) (l : List α) (i : Nat) : sumTo f (x :: l) (i + 1) = f x + sumTo f l i := by simp [sumTo]
theorem mkL_at : ∀ (items : List J) (k i : Nat) (h : i < items.length), (mkL items k)[i]'(by rw [mkL_len]; exact h) = mkJ items[i] (k + sumTo mn items i)
  | x :: l, k, 0, _ => by simp [mkL, runL, sumTo]
  | x :: l, k, i + 1, h => by
    have := mkL_at l (k + mn x) i (by simpa using h)
    simp only [mkL, List.map_cons, runL, List.getElem_cons_succ] at this ⊢
    rw [this, sumTo_cons, Nat.add_assoc]
theorem mn_le (j : J) : mn j ≤ 3 + 3 * j.sz := by
  induction j using J.induct with
  | h j ih =>
    have h1 : ∀ l : List J, (∀ x ∈ l, mn x ≤ 3 + 3 * x.sz) → (l.map mn).sum ≤ 3 * (l.length + (l.map J.sz).sum) := by
      intro l
      induction l with
      | nil => intro _; simp
      | cons y l ihl =>
        intro h
        have a1 := h y (List.mem_cons_self ..)
        have a2 := ihl (fun x hx => h x (List.mem_cons_of_mem _ hx))
        simp; omega
    have h2 := h1 j.items ih
    have h3 := J.sz_eq j
    rw [mn_eq]; unfold szK at h3; omega
theorem OwnStrs.inside {w : World} {B : Nat → Prop} {a : Option Addr} {keys : List (List UInt8)} (h : OwnStrs w B a keys) : OwnStrs w (fun b => B b ∧ b < w.heap.size) a keys := by
  by_cases h0 : keys.length = 0
  · exact .inl h0
  · rcases h with h | ⟨b, off, ha, hb, hc⟩
    · exact .inl h
    · exact .inr ⟨b, off, ha, ⟨hb, World.block_lt_of_cell? _ _ (hc 0 (by omega)).1⟩, hc⟩
theorem OwnJ.cells {w : World} {j : J} {B : Nat → Prop} {cs : List Value} (h : OwnJ w j B cs) : ∃ ka kc ia ic, cs = [.int .i64 j.k, .int .i64 j.n, .string ⟨j.t.toArray⟩, .slice ka j.keys.length kc, .slice ia j.items.length ic] := by
  rw [OwnJ_eq] at h
  obtain ⟨ka, kc, ia, ic, _, _, e, _⟩ := h
  exact ⟨ka, kc, ia, ic, e⟩
theorem OwnJ.inside {w : World} (j : J) : ∀ B cs, OwnJ w j B cs → OwnJ w j (fun b => B b ∧ b < w.heap.size) cs := by
  induction j using J.induct with
  | h j ih =>
    intro B cs h
    rw [OwnJ_eq] at h ⊢
    obtain ⟨ka, kc, ia, ic, K, I, e, h1, h2, h3, h4, hk, hK, hI, hi⟩ := h
    refine ⟨ka, kc, ia, ic, fun b => K b ∧ b < w.heap.size, fun b => I b ∧ b < w.heap.size, e, h1, h2, h3, h4, hk.inside, fun b hb => ⟨⟨(hK b hb.1).1, hb.2⟩, fun h => (hK b hb.1).2 h.1⟩, fun b hb => ⟨hI b hb.1, hb.2⟩, ?_⟩
    by_cases h0 : j.items.length = 0
    · exact .inl h0
    · rcases hi with hi | ⟨b, off, X, ha, hb, hX, hD, hc⟩
      · exact .inl hi
      · have hlt : b < w.heap.size := by
          obtain ⟨cs', hr, -, hx⟩ := hc 0 (by omega)
          obtain ⟨_, _, _, _, rfl⟩ := hx.cells
          exact World.block_lt_of_cell? _ _ (hr 0 _ rfl)
        refine .inr ⟨b, off, fun i c => X i c ∧ c < w.heap.size, ha, ⟨hb, hlt⟩, fun i c h => ⟨⟨(hX i c h.1).1, h.2⟩, (hX i c h.1).2⟩, fun i i' c h h' => hD i i' c h.1 h'.1, fun i hi => ?_⟩
        obtain ⟨cs', hr, hf, hx⟩ := hc i hi
        exact ⟨cs', hr, hf, ih _ (List.getElem_mem hi) _ cs' hx⟩
theorem OwnJsons.inside {w : World} {I : Nat → Prop} {ia : Option Addr} {items : List J} (h : OwnJsons w I ia items) : OwnJsons w (fun c => I c ∧ c < w.heap.size) ia items := by
  by_cases h0 : items.length = 0
  · exact .inl h0
  · rcases h with hi | ⟨b, off, X, ha, hb, hX, hD, hc⟩
    · exact .inl hi
    · have hlt : b < w.heap.size := by
        obtain ⟨cs', hr, -, hx⟩ := hc 0 (by omega)
        obtain ⟨_, _, _, _, rfl⟩ := hx.cells
        exact World.block_lt_of_cell? _ _ (hr 0 _ rfl)
      refine .inr ⟨b, off, fun i c => X i c ∧ c < w.heap.size, ha, ⟨hb, hlt⟩, fun i c h => ⟨⟨(hX i c h.1).1, h.2⟩, (hX i c h.1).2⟩, fun i i' c h h' => hD i i' c h.1 h'.1, fun i hi => ?_⟩
      obtain ⟨cs', hr, hf, hx⟩ := hc i hi
      exact ⟨cs', hr, hf, OwnJ.inside _ _ cs' hx⟩
def five (f : Nat → Value) (i : Nat) : List Value := [f (i * 5), f (i * 5 + 1), f (i * 5 + 2), f (i * 5 + 3), f (i * 5 + 4)]
structure OwnRow (w : World) (b off n : Nat) (f : Nat → Value) (X : Nat → Nat → Prop) (L : Nat → J) : Prop where
  row : Row w b off (n * 5) f
  away : ∀ i c, X i c → c ≠ b
  apart : ∀ i i' c, X i c → X i' c → i = i'
  own : ∀ i, i < n → OwnJ w (L i) (X i) (five f i)
def dflt : J := ⟨0, 0, [], [], []⟩
theorem OwnJsons.row {w : World} {I : Nat → Prop} {ia : Option Addr} {items : List J} (h : OwnJsons w I ia items) :
    ∃ b off f X, (0 < items.length → ia = some ⟨b, off, none⟩ ∧ I b) ∧ (∀ i c, X i c → I c) ∧ OwnRow w b off items.length f X (fun i => items.getD i dflt) := by
  rcases h with h | ⟨b, off, X, ha, hb, hX, hD, hc⟩
  · exact ⟨0, 0, fun _ => default, fun _ _ => False, fun h' => absurd h (by omega), fun _ _ h => h.elim, ⟨fun m hm => absurd h (by omega), fun _ _ h => h.elim, fun _ _ _ h => h.elim, fun i hi => absurd h (by omega)⟩⟩
  · refine ⟨b, off, fun m => (w.cell? ⟨b, off + m, none⟩).getD default, X, fun _ => ⟨ha, hb⟩, fun i c h => (hX i c h).1, ⟨fun m hm => ?_, fun i c h => (hX i c h).2, hD, fun i hi => ?_⟩⟩
    · obtain ⟨cs', hr, hf, hx⟩ := hc (m / 5) (by omega)
      obtain ⟨_, _, _, _, rfl⟩ := hx.cells
      have e : off + m = off + m / 5 * 5 + m % 5 := by omega
      have hlt : m % 5 < 5 := Nat.mod_lt _ (by omega)
      have hcell : ∃ v, w.cell? ⟨b, off + m, none⟩ = some v := by
        rw [e]
        match h5 : m % 5, hlt with
        | 0, _ => exact ⟨_, hr 0 _ rfl⟩
        | 1, _ => exact ⟨_, hr 1 _ rfl⟩
        | 2, _ => exact ⟨_, hr 2 _ rfl⟩
        | 3, _ => exact ⟨_, hr 3 _ rfl⟩
        | 4, _ => exact ⟨_, hr 4 _ rfl⟩
      obtain ⟨v, hv⟩ := hcell
      exact ⟨by rw [hv]; rfl, by rw [e]; exact hf _ hlt⟩
    · obtain ⟨cs', hr, hf, hx⟩ := hc i hi
      have hx' := hx
      obtain ⟨ka, kc, ia', ic, rfl⟩ := hx'.cells
      show OwnJ w (items.getD i dflt) (X i) _
      rw [List.getD_eq_getElem?_getD, List.getElem?_eq_getElem hi]
      have e : five (fun m => (w.cell? ⟨b, off + m, none⟩).getD default) i = [.int .i64 items[i].k, .int .i64 items[i].n, .string ⟨items[i].t.toArray⟩, .slice ka items[i].keys.length kc, .slice ia' items[i].items.length ic] := by
        have g0 := hr 0 _ rfl
        have g1 := hr 1 _ rfl
        have g2 := hr 2 _ rfl
        have g3 := hr 3 _ rfl
        have g4 := hr 4 _ rfl
        simp only [five, ← Nat.add_assoc]
        rw [show off + i * 5 + 0 = off + i * 5 from rfl] at g0
        rw [g0, g1, g2, g3, g4]; rfl
      rw [e]; exact hx
theorem OwnJsons.of_row {w : World} {I : Nat → Prop} {ia : Option Addr} {items : List J} {b off : Nat} {f : Nat → Value} {X : Nat → Nat → Prop} (ha : 0 < items.length → ia = some ⟨b, off, none⟩ ∧ I b) (hX : ∀ i c, X i c → I c)
    (h : OwnRow w b off items.length f X (fun i => items.getD i dflt)) : OwnJsons w I ia items := by
  by_cases h0 : items.length = 0
  · exact .inl h0
  · obtain ⟨h1, h2⟩ := ha (by omega)
    refine .inr ⟨b, off, X, h1, h2, fun i c hc => ⟨hX i c hc, h.away i c hc⟩, h.apart, fun i hi => ⟨five f i, ?_, fun o ho => ?_, ?_⟩⟩
    · intro o v hv
      match o, hv with
      | 0, hv => simp [five] at hv; subst hv; exact (h.row (i * 5) (by omega)).1
      | 1, hv => simp [five] at hv; subst hv; rw [Nat.add_assoc]; exact (h.row (i * 5 + 1) (by omega)).1
      | 2, hv => simp [five] at hv; subst hv; rw [Nat.add_assoc]; exact (h.row (i * 5 + 2) (by omega)).1
      | 3, hv => simp [five] at hv; subst hv; rw [Nat.add_assoc]; exact (h.row (i * 5 + 3) (by omega)).1
      | 4, hv => simp [five] at hv; subst hv; rw [Nat.add_assoc]; exact (h.row (i * 5 + 4) (by omega)).1
      | o + 5, hv => simp [five] at hv
    · rw [Nat.add_assoc]; exact (h.row (i * 5 + o) (by omega)).2
    · have := h.own i hi
      rw [List.getD_eq_getElem?_getD, List.getElem?_eq_getElem hi] at this
      exact this
end Go.Proofs.Ytkncpfhblciplaa
