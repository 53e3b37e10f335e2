import Derived.Test.YtlbcaaodkggohaaGreatDoorZat
import Derived.Test.YtlbcaaodkggohaaGreatDoorZao
namespace Go.Proofs.YtlbcaaodkggohaaGreatDoor
open Go.RowKit
set_option linter.unusedSimpArgs false
variable {V W W' : World} {p S : Nat} {a : Option Addr} {l : List UInt8} {c m m' s g : Nat} {bs : List (Nat × Obj)} {D : List At}
structure EQ (V W : World) (p S : Nat) (a : Option Addr) (l : List UInt8) (c m : Nat) (bs : List (Nat × Obj)) (g : Nat) (D : List At) : Prop where
 fr : Frm (· = p) V W
 src : ∃ s, Src W p S a l c m s
 pl : p < V.heap.size
 bx : ∀ x ∈ bs, W.heap[x.1]? = some x.2 ∧ V.heap.size ≤ x.1 ∧ x.1 ≠ g
 gl : g < W.heap.size
 ats : D = [] ∨ (V.heap.size ≤ g ∧ Ats W (· = g) (some ⟨g, 0, none⟩) D)
theorem EQ.start (hF : Frm (· = p) V W) (hs : ∃ s, Src W p S a l c m s) (hp : p < V.heap.size) : EQ V W p S a l c m [] p [] := ⟨hF, hs, hp, fun _ h => absurd h List.not_mem_nil, Nat.lt_of_lt_of_le hp hF.size, .inl rfl⟩
theorem EQ.go (h : EQ V W p S a l c m bs g D) (hF : Frm (· = p) W W') (hs : ∃ s, Src W' p S a l c m' s) : EQ V W' p S a l c m' bs g D := by
 have hp := h.pl; refine ⟨h.fr.trans hF, hs, hp, fun x hx => ?_, Nat.lt_of_lt_of_le h.gl hF.size, h.ats.imp id (fun h2 => ⟨h2.1, h2.2.same (fun b hb => ?_) (fun _ h => h)⟩)⟩
 ·
  obtain ⟨h1, h2, h3⟩ := h.bx x hx; exact ⟨keepF h1 hF (by omega), h2, h3⟩
 ·
  have e : b = g := hb; subst e; exact hF.block _ h.gl (by omega)
theorem EQ.mk' (h : EQ V W p S a l c m bs g D) (O : Obj) : EQ V (W.alloc O) p S a l c m ((W.heap.size, O) :: bs) g D := by
 obtain ⟨s, hs⟩ := h.src; have hA := below_allocD W O; have h2 := h.go (Frm.of_below hA) ⟨s, hs.on hA⟩; have hgl := h.gl; refine ⟨h2.fr, h2.src, h2.pl, fun x hx => ?_, h2.gl, h2.ats⟩; rcases List.mem_cons.1 hx with rfl | hx
 ·
  exact ⟨heap_newD W O, h.fr.size, by show W.heap.size ≠ g; omega⟩
 ·
  exact h2.bx x hx
theorem EQ.dat (h : EQ V W p S a l c m bs g D) {g' : Nat} {D' : List At} (hF : Frm (· = p) W W') (hs : ∃ s, Src W' p S a l c m' s) (hg : W.heap.size ≤ g') (hl : g' < W'.heap.size) (ha : Ats W' (· = g') (some ⟨g', 0, none⟩) D') : EQ V W' p S a l c m' bs g' D' := by
 have h2 := h.go hF hs; refine ⟨h2.fr, h2.src, h2.pl, fun x hx => ?_, hl, .inr ⟨Nat.le_trans h.fr.size hg, ha⟩⟩; have h3 := (Array.getElem?_eq_some_iff.1 (h.bx x hx).1).1; exact ⟨(h2.bx x hx).1, (h2.bx x hx).2.1, by omega⟩
theorem EQ.one (h : EQ V W p S a l c m bs g D) (x : At) : EQ V (W.alloc (.cells #[.int .i64 x.k, .int .i64 x.n, .string ⟨x.t.toArray⟩] 132)) p S a l c m bs W.heap.size [x] := by
 obtain ⟨s, hs⟩ := h.src; have hA := below_allocD W (.cells #[.int .i64 x.k, .int .i64 x.n, .string ⟨x.t.toArray⟩] 132); have hn := heap_newD W (.cells #[.int .i64 x.k, .int .i64 x.n, .string ⟨x.t.toArray⟩] 132); refine h.dat (Frm.of_below hA) ⟨s, hs.on hA⟩ (Nat.le_refl _) (Array.getElem?_eq_some_iff.1 hn).1 (.inr ⟨_, 0, rfl, rfl, fun i hi => ?_⟩); rcases (by simp at hi; omega : i = 0 ∨ i = 1 ∨ i = 2) with rfl | rfl | rfl
 ·
  exact cell_at (o := 0) hn rfl
 ·
  exact cell_at (o := 1) hn rfl
 ·
  exact cell_at (o := 2) hn rfl
theorem EQ.box3 (h : EQ V W p S a l c m bs g D) {qm : Nat} {z0 z1 z2 : Value} {ty : TypeId} (hb : (qm, .cells #[z0, z1, z2] ty) ∈ bs) (v0 v1 v2 : Value) :
  (((W.setCell ⟨qm, 0, none⟩ v0).setCell ⟨qm, 1, none⟩ v1).setCell ⟨qm, 2, none⟩ v2).heap[qm]? = some (.cells #[v0, v1, v2] ty) ∧ Frm (· = p) V (((W.setCell ⟨qm, 0, none⟩ v0).setCell ⟨qm, 1, none⟩ v1).setCell ⟨qm, 2, none⟩ v2) ∧ (∃ s, Src (((W.setCell ⟨qm, 0, none⟩ v0).setCell ⟨qm, 1, none⟩ v1).setCell ⟨qm, 2, none⟩ v2) p S a l c m s) ∧ V.heap.size ≤ qm ∧
   ∀ cp, Rd (((W.setCell ⟨qm, 0, none⟩ v0).setCell ⟨qm, 1, none⟩ v1).setCell ⟨qm, 2, none⟩ v2) (fun b => (V.heap.size ≤ b ∧ b ≠ qm) ∧ b < (((W.setCell ⟨qm, 0, none⟩ v0).setCell ⟨qm, 1, none⟩ v1).setCell ⟨qm, 2, none⟩ v2).heap.size) (dAtomS D) (.slice (some ⟨g, 0, none⟩) D.length cp) := by
 obtain ⟨h1, h2, h3⟩ := h.bx _ hb; have hp := h.pl; have hF : Frm (· = qm) W (((W.setCell ⟨qm, 0, none⟩ v0).setCell ⟨qm, 1, none⟩ v1).setCell ⟨qm, 2, none⟩ v2) := ((frm_set _ _ _ _).trans (frm_set _ _ _ _)).trans (frm_set _ _ _ _); obtain ⟨s, hs⟩ := h.src; have hsz := hs.le; have h2' : V.heap.size ≤ qm := h2; have h3' : qm ≠ g := h3; refine ⟨by rw [heap_set 2 _ (heap_set 1 _ (heap_set 0 _ h1))]; rfl, frm_over h.fr h2' hF, ⟨s, hs.frm hF (by omega) (fun b hb e => by have e2 : b = qm := e; omega)⟩, h2', fun cp => ?_⟩; have hgl := Nat.lt_of_lt_of_le h.gl hF.size; rcases h.ats with e | ⟨h4, h5⟩
 ·
  subst e; exact ⟨_, cp, rfl, .inl rfl⟩
 ·
  exact ((ats_rd h5 cp).frm hF (fun b hb e => by have e1 : b = g := hb; have e2 : b = qm := e; omega)).mono (fun b hb => by have e1 : b = g := hb; subst e1; exact ⟨⟨h4, fun e => h3' e.symm⟩, hgl⟩)
theorem EQ.over (h : EQ V W p S a l c m bs g D) {qm : Nat} {O : Obj} (hb : (qm, O) ∈ bs) {Z : World} (hF : Frm (· = qm) W Z) : Frm (· = p) V Z ∧ (∃ s, Src Z p S a l c m s) ∧ V.heap.size ≤ qm ∧ W.heap[qm]? = some O := by
 obtain ⟨h1, h2, h3⟩ := h.bx _ hb; have hp := h.pl; obtain ⟨s, hs⟩ := h.src; have h2' : V.heap.size ≤ qm := h2; exact ⟨frm_over h.fr h2' hF, ⟨s, hs.frm hF (by omega) (fun b hb e => by have := hs.le; have e2 : b = qm := e; omega)⟩, h2', h1⟩
structure QCt (V W : World) (p S : Nat) (a : Option Addr) (l : List UInt8) (c m qc qm : Nat) (cl : Cl) (x : CondV) (va : Option Addr) (vc : Nat) : Prop where
 ms : QMs V W p S a l c m qc cl
 bx : W.heap[qm]? = some (.cells #[.string ⟨x.col.toArray⟩, .int .i64 x.fn, .slice va x.val.length vc] 111)
 rv : Rd W (fun b => (V.heap.size ≤ b ∧ b ≠ qm) ∧ b < W.heap.size) (dAtomS x.val) (.slice va x.val.length vc)
 ge : V.heap.size ≤ qm ∧ qm ≠ qc
variable {qc qm : Nat} {cl : Cl} {x : CondV} {va : Option Addr} {vc : Nat}
theorem QCt.draw (h : QCt V W p S a l c m qc qm cl x va vc) (hF : Frm (· = p) W W') (hS : ∃ s', Src W' p S a l c m' s') : QCt V W' p S a l c m' qc qm cl x va vc :=
 ⟨h.ms.draw hF hS, keepF h.bx hF (by have := h.ge; have := h.ms.ge; omega), (h.rv.frm hF (fun b hb e => by have e' : b = p := e; have := h.ms.ge; omega)).mono (fun b hb => ⟨hb.1, Nat.lt_of_lt_of_le hb.2 hF.size⟩), h.ge⟩
theorem QCt.later (h : QCt V W p S a l c m qc qm cl x va vc) (hB : Below W.heap.size W W') : QCt V W' p S a l c m qc qm cl x va vc := by
 obtain ⟨s, hs⟩ := h.ms.src; exact h.draw (Frm.of_below hB) ⟨s, hs.on hB⟩
theorem QCt.put (h : QCt V W p S a l c m qc qm cl x va vc) (o : Nat) (u : Value) {y : CondV} {va' : Option Addr} {vc' : Nat} (hb : (W.setCell ⟨qm, o, none⟩ u).heap[qm]? = some (.cells #[.string ⟨y.col.toArray⟩, .int .i64 y.fn, .slice va' y.val.length vc'] 111))
  (hv : Rd W (fun b => (V.heap.size ≤ b ∧ b ≠ qm) ∧ b < W.heap.size) (dAtomS y.val) (.slice va' y.val.length vc')) : QCt V (W.setCell ⟨qm, o, none⟩ u) p S a l c m qc qm cl y va' vc' := by
 obtain ⟨s, hs⟩ := h.ms.src; have hg := h.ge; have hp := h.ms.ge; have hF : Frm (· = qm) W (W.setCell ⟨qm, o, none⟩ u) := frm_set _ _ _ _; have sz : (W.setCell ⟨qm, o, none⟩ u).heap.size = W.heap.size := by simp [World.setCell]
 refine ⟨⟨⟨s, hs.frm hF (by omega) (fun b hb e => by have := hs.le; have e' : b = qm := e; omega)⟩, frm_over h.ms.fr (by omega) hF, ?_, hp⟩, hb, ?_, hg⟩
 ·
  rw [hF.block _ h.ms.lt (show ¬ qc = qm by omega)]; exact h.ms.cb
 ·
  rw [sz]; exact hv.frm hF (fun b hb e => hb.1.2 e)
def CdR (t : Nat) (x : CondV) : Prop := (x.col = [95, 117, 117, 105, 100] ∧ (x.fn = 1 ∨ x.fn = 2 ∨ x.fn = 7 ∨ x.fn = 8) ∧ x.val.length = 1 ∧ Drn 4 x.val) ∨
 ∃ cl ∈ (plT t).cols, x.col = cl.nm ∧ x.val.length ≤ 4 ∧ (∃ k : Nat, (k : Int) = cl.k ∧ Drn k x.val) ∧ ((x.fn = 1 ∨ x.fn = 2 ∨ x.fn = 7 ∨ x.fn = 8) ∨ (cl.k = 1 ∧ 3 ≤ x.fn ∧ x.fn ≤ 6 ∧ x.val.length = 1))
theorem cd_right {t : Nat} (ht : t < 3) {x : CondV} (h : CdR t x) : condB x = true ∧ ∀ j, j < 3 → (dCond x j).le 1048576 := by
 obtain ⟨k, hk, hd, hl, hn, hf⟩ : ∃ k : Nat, (1 ≤ k ∧ k ≤ 4) ∧ Drn k x.val ∧ x.val.length ≤ 4 ∧ x.col.length ≤ 40 ∧ (1 ≤ x.fn ∧ x.fn ≤ 8) := by
  rcases h with ⟨h1, h2, h3, h4⟩ | ⟨cl, hcl, h1, h2, ⟨k, hk, h3⟩, h4⟩
  ·
   exact ⟨4, by omega, h4, by omega, by rw [h1]; decide, by omega⟩
  ·
   have := (plT_cols t ht).2 cl hcl; exact ⟨k, by omega, h3, h2, by rw [h1]; exact this.2, by omega⟩
 refine ⟨?_, fun j hj => ?_⟩
 ·
  unfold condB; rw [Dk.datum (k := (k : Int)) hd (by omega), decide_eq_true hn]; unfold inB; rw [decide_eq_true hf]; rfl
 ·
  rcases (by omega : j = 0 ∨ j = 1 ∨ j = 2) with rfl | rfl | rfl
  ·
   show x.col.length ≤ 1048576; omega
  ·
   exact iOK_small (by omega)
  ·
   exact ats_leK (by omega) (fun z hz => ⟨by rw [(hd.2 z hz).1]; omega, (hd.2 z hz).2⟩)
def CondA (t : Nat) (W : World) (p S : Nat) (a : Option Addr) (l : List UInt8) (c m : Nat) (e : Ending) (W' : World) : Prop := ∃ (x : CondV) (va : Option Addr) (vc m' s' : Nat), e = .returned (.agg #[.string ⟨x.col.toArray⟩, .int .i64 x.fn, .slice va x.val.length vc]) ∧ CdR t x ∧ Rd W' (fun b => W.heap.size ≤ b ∧ b < W'.heap.size) (dAtomS x.val) (.slice va x.val.length vc) ∧ m' ≤ m + 20 ∧ Src W' p S a l c m' s' ∧ Frm (· = p) W W'
end Go.Proofs.YtlbcaaodkggohaaGreatDoor
