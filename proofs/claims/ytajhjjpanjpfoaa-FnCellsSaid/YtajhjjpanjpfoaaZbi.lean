import Derived.Test.YtajhjjpanjpfoaaZbh
import Derived.Test.YtajhjjpanjpfoaaZau
import Derived.Deep.CutRange
import Derived.Deep.LoopGhost
import Derived.Test.YtajhjjpanjpfoaaZap
namespace Go.Proofs.Ytajhjjpanjpfoaa
open Go.RowKit
set_option linter.unusedSimpArgs false
variable {V W1 W W' : World} {p S : Nat} {a : Option Addr} {l : List UInt8} {c m m' s : Nat}
structure SX (V W1 W : World) (p S : Nat) (a : Option Addr) (l : List UInt8) (c m qc qx : Nat) (cl : Cl) (x : SetV) (va : Option Addr) (vc : Nat) (na : Option Addr) (nc : Nat) (L : List SetV) (v : Value) : Prop where
  src : ∃ s, Src W p S a l c m s
  fr : Frm (· = p) V W
  pl : p < V.heap.size
  sg : SG W V.heap.size (fun b => V.heap.size ≤ b ∧ b < W1.heap.size) 45 3 (lsF dSet L) L.length v
  ol : V.heap.size ≤ W1.heap.size ∧ ∀ g, v.ownBlock = some g → g < W1.heap.size
  cb : W.heap[qc]? = some (.cells #[.string ⟨cl.nm.toArray⟩, .int .i64 cl.k, .int .i64 cl.mn, .int .i64 cl.mx, .int .i64 cl.lo, .int .i64 cl.hi, .string ⟨cl.rf.toArray⟩, .bool cl.st] 47)
  bx : W.heap[qx]? = some (.cells #[.string ⟨x.col.toArray⟩, .slice va x.val.length vc, .slice na x.nms.length nc] 45)
  rv : Rd W (fun b => (W1.heap.size ≤ b ∧ b ≠ qx) ∧ b < W.heap.size) (dAtomS x.val) (.slice va x.val.length vc)
  rn : Rd W (fun b => (W1.heap.size ≤ b ∧ b ≠ qx) ∧ b < W.heap.size) (dStringS x.nms) (.slice na x.nms.length nc)
  ge : W1.heap.size ≤ qc ∧ W1.heap.size ≤ qx ∧ qc ≠ qx
  le : ∀ j, j < 3 → (dSet x j).le 1048576
variable {qc qx : Nat} {cl : Cl} {x : SetV} {va : Option Addr} {vc : Nat} {na : Option Addr} {nc : Nat} {L : List SetV} {v : Value}
theorem SX.draw (h : SX V W1 W p S a l c m qc qx cl x va vc na nc L v) (hF : Frm (· = p) W W') (hS : ∃ s', Src W' p S a l c m' s') : SX V W1 W' p S a l c m' qc qx cl x va vc na nc L v := by
  have hp := h.pl
  have ho := h.ol
  have hg := h.ge
  exact ⟨hS, h.fr.trans hF, hp, h.sg.frmP hF (fun g hg => by have := h.sg.low hg; omega) (fun b hb => by omega), ho, keepF h.cb hF (by omega), keepF h.bx hF (by omega), (h.rv.frm hF (fun b hb e => by have e' : b = p := e; omega)).mono (fun b hb => ⟨hb.1, Nat.lt_of_lt_of_le hb.2 hF.size⟩), (h.rn.frm hF (fun b hb e => by have e' : b = p := e; omega)).mono (fun b hb => ⟨hb.1, Nat.lt_of_lt_of_le hb.2 hF.size⟩), hg, h.le⟩
theorem SX.later (h : SX V W1 W p S a l c m qc qx cl x va vc na nc L v) (hB : Below W.heap.size W W') : SX V W1 W' p S a l c m qc qx cl x va vc na nc L v := by
  obtain ⟨s, hs⟩ := h.src
  exact h.draw (Frm.of_below hB) ⟨s, hs.on hB⟩
theorem SX.wle (h : SX V W1 W p S a l c m qc qx cl x va vc na nc L v) : W1.heap.size ≤ W.heap.size := by have := (Array.getElem?_eq_some_iff.1 h.bx).1; have := h.ge; omega
theorem SX.drew (h : SX V W1 W p S a l c m qc qx cl x va vc na nc L v) : SX V W1 W.drew p S a l c m qc qx cl x va vc na nc L v := h.later (Below.refl _ _).drew
theorem SX.dl (h : SX V W1 W p S a l c m qc qx cl x va vc na nc L v) : DL V W p S a l c m 45 3 (lsF dSet L) L.length v := ⟨h.src, h.fr, h.pl, h.sg.conv (fun _ _ _ => rfl) (fun _ _ hb => hb.1)⟩
theorem SX.put (h : SX V W1 W p S a l c m qc qx cl x va vc na nc L v) (o : Nat) (u : Value) {y : SetV} {va' : Option Addr} {vc' : Nat} {na' : Option Addr} {nc' : Nat} (hb : (W.setCell ⟨qx, o, none⟩ u).heap[qx]? = some (.cells #[.string ⟨y.col.toArray⟩, .slice va' y.val.length vc', .slice na' y.nms.length nc'] 45))
    (hv : Rd W (fun b => (W1.heap.size ≤ b ∧ b ≠ qx) ∧ b < W.heap.size) (dAtomS y.val) (.slice va' y.val.length vc')) (hn : Rd W (fun b => (W1.heap.size ≤ b ∧ b ≠ qx) ∧ b < W.heap.size) (dStringS y.nms) (.slice na' y.nms.length nc')) (hl : ∀ j, j < 3 → (dSet y j).le 1048576) : SX V W1 (W.setCell ⟨qx, o, none⟩ u) p S a l c m qc qx cl y va' vc' na' nc' L v := by
  obtain ⟨s, hs⟩ := h.src
  have hp := h.pl
  have ho := h.ol
  have hg := h.ge
  have hF : Frm (· = qx) W (W.setCell ⟨qx, o, none⟩ u) := frm_set _ _ _ _
  have sz : (W.setCell ⟨qx, o, none⟩ u).heap.size = W.heap.size := by simp [World.setCell]
  refine ⟨⟨s, hs.frm hF (by omega) (fun b hb e => by have := hs.le; have e' : b = qx := e; omega)⟩, frm_over h.fr (by omega) hF, hp, h.sg.frmP hF (fun g hg' => by have := ho.2 g hg'; omega) (fun b hb => by omega), ho, ?_, hb, ?_, ?_, hg, hl⟩
  · rw [hF.block _ (Array.getElem?_eq_some_iff.1 h.cb).1 (show ¬ qc = qx by omega)]; exact h.cb
  · rw [sz]; exact hv.frm hF (fun b hb e => hb.1.2 e)
  · rw [sz]; exact hn.frm hF (fun b hb e => hb.1.2 e)
theorem infoSet : ∃ i, Try.prog.info? 45 = some i ∧ i.zero = some (.agg #[.string ⟨#[]⟩, .slice none 0 0, .slice none 0 0]) ∧ i.size = 3 ∧ i.bytes = 64 := by
  have h : (Try.prog.info? 45).map (fun i => (i.zero, i.size, i.bytes)) = some (some (.agg #[.string ⟨#[]⟩, .slice none 0 0, .slice none 0 0]), 3, 64) := by kernel_rfl
  obtain ⟨i, hi, hzz⟩ := Option.map_eq_some_iff.1 h
  simp only [Prod.mk.injEq] at hzz
  exact ⟨i, hi, hzz⟩
theorem lsF_snoc {α : Type} {d : α → Nat → D} {L : List α} {x : α} : (∀ i j, i < L.length → lsF d (L ++ [x]) i j = lsF d L i j) ∧ ∀ j, lsF d (L ++ [x]) L.length j = d x j := by
  refine ⟨fun i j hi => ?_, fun j => ?_⟩
  · rw [lsF_at (by simp; omega), lsF_at hi, List.getElem_append_left hi]
  · rw [lsF_at (by simp)]; simp
theorem SX.push (h : SX V W1 W p S a l c m qc qx cl x va vc na nc L v) (hL : L.length ≤ 1000) : ∃ a' c' W', (Builtin.append_ #[37, 37] 37 #[v, .slice (some ⟨W.heap.size, 0, none⟩) 1 1]).run Try.prog (W.alloc (.cells #[.string ⟨x.col.toArray⟩, .slice va x.val.length vc, .slice na x.nms.length nc] 45)) = .ok (.slice a' (L.length + 1) c') W' ∧ DL V W' p S a l c m 45 3 (lsF dSet (L ++ [x])) (L.length + 1) (.slice a' (L.length + 1) c') := by
  obtain ⟨i, hi, hz, hsz, hby⟩ := infoSet
  have hA := below_allocD W (.cells #[.string ⟨x.col.toArray⟩, .slice va x.val.length vc, .slice na x.nms.length nc] 45)
  have hn := heap_newD W (.cells #[.string ⟨x.col.toArray⟩, .slice va x.val.length vc, .slice na x.nms.length nc] 45)
  have h2 := (h.later hA).dl
  refine h2.push (P := Try.prog) (f' := lsF dSet (L ++ [x])) lsF_snoc.1 _ _ i _ 64 Try.underlying37 hi hz hsz hby rfl (by omega) _ _ [.string ⟨x.col.toArray⟩, .slice va x.val.length vc, .slice na x.nms.length nc] rfl ?_ ?_ (by unfold maxLen; omega) (by omega) ?_
  · intro j u hj
    have hj3 := (List.getElem?_eq_some_iff.1 hj).1
    rcases (by simp at hj3; omega : j = 0 ∨ j = 1 ∨ j = 2) with rfl | rfl | rfl
    · cases hj; exact cell_at (o := 0) hn rfl
    · cases hj; exact cell_at (o := 1) hn rfl
    · cases hj; exact cell_at (o := 2) hn rfl
  · intro u hu
    simp only [List.mem_cons, List.not_mem_nil, or_false] at hu
    rcases hu with rfl | rfl | rfl <;> rfl
  · intro j hj
    rw [lsF_snoc.2]
    have hk : ∀ d u, Rd W (fun b => (W1.heap.size ≤ b ∧ b ≠ qx) ∧ b < W.heap.size) d u → Rd (W.alloc (.cells #[.string ⟨x.col.toArray⟩, .slice va x.val.length vc, .slice na x.nms.length nc] 45)) (fun b => (v.ownBlock ≠ some b ∧ b < (W.alloc (.cells #[.string ⟨x.col.toArray⟩, .slice va x.val.length vc, .slice na x.nms.length nc] 45)).heap.size) ∧ V.heap.size ≤ b) d u := fun d u hr => (hr.later hA).mono (fun b hb => ⟨⟨fun e => by have := h.ol.2 b e; omega, Nat.lt_of_lt_of_le hb.2 hA.size⟩, by have := h.ol.1; omega⟩)
    rcases (by omega : j = 0 ∨ j = 1 ∨ j = 2) with rfl | rfl | rfl
    · exact ⟨_, rfl, rfl⟩
    · exact ⟨_, rfl, hk _ _ h.rv⟩
    · exact ⟨_, rfl, hk _ _ h.rn⟩
end Go.Proofs.Ytajhjjpanjpfoaa
namespace Go.Proofs.Ytajhjjpanjpfoaa
open Go.RowKit
set_option linter.unusedSimpArgs false
def allocs (w : World) : List Obj → World
  | [] => w
  | o :: l => allocs (w.alloc o) l
theorem allocs_below : ∀ (bs : List Obj) (w : World), Below w.heap.size w (allocs w bs)
  | [], _ => Below.refl _ _
  | o :: l, w => (below_allocD w o).trans ((allocs_below l (w.alloc o)).mono (by simp))
theorem allocs_at : ∀ (bs : List Obj) (w : World) (i : Nat) (o : Obj), bs[i]? = some o → (allocs w bs).heap[w.heap.size + i]? = some o
  | [], _, i, o, h => by simp at h
  | x :: l, w, 0, o, h => by
    simp only [List.getElem?_cons_zero, Option.some.injEq] at h
    subst h
    exact heap_keptD (heap_newD w x) (allocs_below l (w.alloc x))
  | x :: l, w, i + 1, o, h => by
    rw [List.getElem?_cons_succ] at h
    have h2 := allocs_at l (w.alloc x) i o h
    rw [size_allocD] at h2
    rw [show w.heap.size + (i + 1) = w.heap.size + 1 + i by omega]
    exact h2
end Go.Proofs.Ytajhjjpanjpfoaa
