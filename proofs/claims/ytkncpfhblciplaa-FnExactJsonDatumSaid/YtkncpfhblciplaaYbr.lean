import Derived.Test.YtkncpfhblciplaaYbq
import Derived.Test.YtkncpfhblciplaaYao
namespace Go.Proofs.Ytkncpfhblciplaa
open Go.RowKit
set_option linter.unusedSimpArgs false
structure JrB (w W : World) (jc rc : Array Value) (T : TypeId) : Prop where
  bj : W.heap[w.heap.size]? = some (.cells jc 28)
  br : W.heap[w.heap.size + 1]? = some (.cells rc T)
  bel : Below w.heap.size w W
theorem JrB.first (w : World) (jc rc : Array Value) (T : TypeId) : JrB w ((w.alloc (.cells jc 28)).alloc (.cells rc T)) jc rc T := by
  obtain ⟨b0, b1, -, hB⟩ := two (w4 := ((w.alloc (.cells jc 28)).alloc (.cells rc T))) (w := w) (Below.refl _ _)
  exact ⟨b0, b1, hB⟩
theorem JrB.later {w W W' : World} {jc rc : Array Value} {T : TypeId} (h : JrB w W jc rc T) (hB : Below W.heap.size W W') : JrB w W' jc rc T := ⟨heap_kept2 h.bj hB, heap_kept2 h.br hB, h.bel.trans (hB.mono h.bel.size)⟩
end Go.Proofs.Ytkncpfhblciplaa
namespace Go.Proofs.Ytkncpfhblciplaa
open Go.RowKit
set_option linter.unusedSimpArgs false
def atV (x : At) : Value := .agg #[.int .i64 x.k, .int .i64 x.n, .string ⟨x.t.toArray⟩]
def PV1 (j : J) (v : Value) : Prop :=
  match paA j with
  | some x => v = .iface 31 (atV x)
  | none => match paN j with
    | some t => v = .iface 137 (.string ⟨t.toArray⟩)
    | none => match paL j with
      | some _ => ∃ u, v = .iface 135 u
      | none => v = .nilIface
def Parts (w : World) (B : Nat → Prop) (l : List J) (a : Option Addr) : Prop :=
  l.length = 0 ∨ ∃ b, a = some ⟨b, 0, none⟩ ∧ B b ∧ ∀ i (h : i < l.length), ∃ u, w.cell? ⟨b, i, none⟩ = some u ∧ PV1 l[i] u
def PVo (w : World) (B : Nat → Prop) (oa : Option At) (on : Option (List UInt8)) (ol : Option (List J)) (v : Value) : Prop :=
  match oa with
  | some x => v = .iface 31 (atV x)
  | none => match on with
    | some t => v = .iface 137 (.string ⟨t.toArray⟩)
    | none => match ol with
      | some l => ∃ a c, v = .iface 135 (.slice a l.length c) ∧ Parts w B l a
      | none => v = .nilIface
theorem PVo.one {w : World} {B : Nat → Prop} {j : J} {v : Value} (h : PVo w B (paA j) (paN j) (paL j) v) : PV1 j v := by
  unfold PVo at h
  unfold PV1
  cases h1 : paA j with
  | some x => rw [h1] at h; exact h
  | none =>
    rw [h1] at h
    cases h2 : paN j with
    | some t => rw [h2] at h; exact h
    | none =>
      rw [h2] at h
      cases h3 : paL j with
      | some l => rw [h3] at h; obtain ⟨a, c, e, -⟩ := h; exact ⟨_, e⟩
      | none => rw [h3] at h; exact h
theorem Parts.same {w w' : World} {B B' : Nat → Prop} {l : List J} {a : Option Addr} (h : Parts w B l a) (hs : ∀ b, B b → w'.heap[b]? = w.heap[b]?) (hB : ∀ b, B b → B' b) : Parts w' B' l a := by
  rcases h with h | ⟨b, e, hb, hc⟩
  · exact .inl h
  · refine .inr ⟨b, e, hB b hb, fun i hi => ?_⟩
    obtain ⟨u, hu, hp⟩ := hc i hi
    exact ⟨u, by rw [World.cell?_of_block (w := w) (a := ⟨b, i, none⟩) (hs b hb)]; exact hu, hp⟩
theorem PVo.same {w w' : World} {B B' : Nat → Prop} {oa : Option At} {on : Option (List UInt8)} {ol : Option (List J)} {v : Value} (h : PVo w B oa on ol v) (hs : ∀ b, B b → w'.heap[b]? = w.heap[b]?) (hB : ∀ b, B b → B' b) : PVo w' B' oa on ol v := by
  unfold PVo at h ⊢
  cases oa with
  | some x => exact h
  | none =>
    cases on with
    | some t => exact h
    | none =>
      cases ol with
      | some l => obtain ⟨a, c, e, hp⟩ := h; exact ⟨a, c, e, hp.same hs hB⟩
      | none => exact h
theorem PV1.shape {j : J} {v : Value} (h : PV1 j v) : (∃ T u, v = .iface T u) ∨ v = .nilIface := by
  unfold PV1 at h
  cases h1 : paA j with
  | some x => rw [h1] at h; exact .inl ⟨_, _, h⟩
  | none =>
    rw [h1] at h
    cases h2 : paN j with
    | some t => rw [h2] at h; exact .inl ⟨_, _, h⟩
    | none =>
      rw [h2] at h
      cases h3 : paL j with
      | some l => rw [h3] at h; obtain ⟨u, e⟩ := h; exact .inl ⟨_, _, e⟩
      | none => rw [h3] at h; exact .inr h
def PtAns (oa : Option At) (on : Option (List UInt8)) (ol : Option (List J)) (w : World) (e : Ending) (w' : World) : Prop := ∃ v, e = .returned v ∧ PVo w' (fun b => w.heap.size ≤ b ∧ b < w'.heap.size) oa on ol v ∧ Below w.heap.size w w'
theorem PtAns.up {oa : Option At} {on : Option (List UInt8)} {ol : Option (List J)} {w w1 w' : World} {e : Ending} (h : PtAns oa on ol w1 e w') (hB : Below w.heap.size w w1) : PtAns oa on ol w e w' := by
  obtain ⟨v, he, hp, hB2⟩ := h
  exact ⟨v, he, hp.same (fun _ _ => rfl) (fun b hb => ⟨Nat.le_trans hB.size hb.1, hb.2⟩), hB.trans (hB2.mono hB.size)⟩
def PSaid (j : J) : Prop := ∀ (cs : List Value) (B : Nat → Prop) (w : World), j.sz ≤ 1048576 → RJ w B j cs → Calls Try.prog 86 #[.agg cs.toArray] w (PtAns (paA j) (paN j) (paL j) w)
def WSaid (x : J) : Prop := ∀ (s : List UInt8) (cs : List Value) (B : Nat → Prop) (w : World), x.sz ≤ 1048576 → RJ w B x cs → Calls Try.prog 104 #[.string ⟨s.toArray⟩, .agg cs.toArray] w (PtAns (wdA s x) (wdN s x) (wdL s x) w)
theorem run_mkParts (n : Nat) (hn : n ≤ 1048576) (w : World) :
    (Instr.makeSlice 135 (.int .i64 (n : Int)) (.int .i64 (n : Int))).run Try.prog w = .ok (.slice (some ⟨w.heap.size, 0, none⟩) n n) (w.alloc (.cells (madeCells #[.nilIface] n) 20)) := by
  have h : (Try.prog.info? 20).map (fun i => (i.zero, i.size, i.bytes)) = some (some .nilIface, 1, 16) := by kernel_rfl
  obtain ⟨i, hi, hzz⟩ := Option.map_eq_some_iff.1 h
  simp only [Prod.mk.injEq] at hzz
  obtain ⟨hz, hs, hb⟩ := hzz
  have hr := run_make (P := Try.prog) w 135 20 i _ Try.underlying135 hi hz .i64 .i64 n n (by omega) (Int.le_refl _) (by rw [hb]; omega) (by omega)
  rw [hr, hs]
  simp only [Int.toNat_natCast, Nat.mul_one]
  rfl
def PL (w : World) (p n : Nat) (l : List J) (k : Nat) : Prop := ∃ arr : Array Value, w.heap[p]? = some (.cells arr 20) ∧ arr.size = n ∧ ∀ i (h : i < l.length), i < k → ∃ u, arr[i]? = some u ∧ PV1 l[i] u
theorem PL.start (w : World) (n : Nat) (l : List J) : PL (w.alloc (.cells (madeCells #[.nilIface] n) 20)) w.heap.size n l 0 :=
  ⟨_, heap_new' w _ rfl, by rw [size_madeCells], fun i h hk => absurd hk (by omega)⟩
theorem PL.later {w w' : World} {p n : Nat} {l : List J} {k : Nat} (h : PL w p n l k) (hB : Below w.heap.size w w') : PL w' p n l k := by
  obtain ⟨arr, h1, h2⟩ := h
  exact ⟨arr, heap_kept2 h1 hB, h2⟩
theorem PL.cell {w : World} {p n : Nat} {l : List J} {k i : Nat} (h : PL w p n l k) (hi : i < n) : (∃ u, w.cell? ⟨p, i, none⟩ = some u) ∧ w.frozen? ⟨p, i, none⟩ = false := by
  obtain ⟨arr, h1, h2, -⟩ := h
  exact ⟨⟨arr[i], cell_at h1 (Array.getElem?_eq_getElem (by omega))⟩, frozen_at i h1⟩
theorem PL.put {w : World} {p n : Nat} {l : List J} {k : Nat} {u : Value} (h : PL w p n l k) (hk : k < n) (hl : k < l.length) (hu : PV1 l[k] u) : PL (w.setCell ⟨p, k, none⟩ u) p n l (k + 1) := by
  obtain ⟨arr, h1, h2, h3⟩ := h
  refine ⟨arr.setIfInBounds k u, heap_set k u h1, by simp [h2], fun i hi hik => ?_⟩
  by_cases e : i = k
  · subst e
    exact ⟨u, by rw [Array.getElem?_setIfInBounds_self_of_lt (by omega)], hu⟩
  · obtain ⟨x, hx, hp⟩ := h3 i hi (by omega)
    exact ⟨x, by rw [Array.getElem?_setIfInBounds_ne (by omega)]; exact hx, hp⟩
theorem PL.parts {w : World} {p : Nat} {l : List J} (h : PL w p l.length l l.length) {B : Nat → Prop} (hB : B p) : Parts w B l (some ⟨p, 0, none⟩) := by
  obtain ⟨arr, h1, h2, h3⟩ := h
  refine .inr ⟨p, rfl, hB, fun i hi => ?_⟩
  obtain ⟨u, hu, hp⟩ := h3 i hi hi
  exact ⟨u, cell_at h1 hu, hp⟩
end Go.Proofs.Ytkncpfhblciplaa
