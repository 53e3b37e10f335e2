import Derived.Test.YtodgijhpokjjhaaDoorZao
import Derived.Test.YtodgijhpokjjhaaDoorZap
namespace Go.Proofs.YtodgijhpokjjhaaDoor
open Go.RowKit
set_option linter.unusedSimpArgs false
variable {W W' : World} {p S : Nat} {a : Option Addr} {l : List UInt8} {c m s : Nat}
def ChanceV (W : World) (p S : Nat) (a : Option Addr) (l : List UInt8) (c m : Nat) (e : Ending) (W' : World) : Prop := ∃ (b : Bool) (s' : Nat), e = .returned (.bool b) ∧ Src W' p S a l c (m + 1) s' ∧ Frm (· = p) W W'
set_option maxHeartbeats 1600000 in
theorem srcChanceV (h : Src W p S a l c m s) (hm : m < 1000000) (n : Nat) (h1 : 1 < n) (h2 : n ≤ 256) :
    Calls Tryd.prog 21 #[.pointer (some ⟨p, 0, none⟩), .int .i64 (n : Int)] W (ChanceV W p S a l c m) := by
  have NX := Lib.hid (srcNext h hm n h1 h2)
  have hw : IntKind.i64.wrap ((n : Int) - 1) = (n : Int) - 1 := by rw [IntKind.wrap_i64]; omega
  clear h hm
  go_enter Tryd.func21, Tryd.ntmps21
  go_wp2_with fail
  refine NX.out.mono ?_
  rintro e w1 ⟨b, s', rfl, hb, hS, hF⟩
  have HS := Lib.hid hS
  have HF := Lib.hid hF
  clear hS hF hb
  go_wp2_with fail
  go_ret
  exact ⟨_, s', rfl, HS.out, HF.out⟩
def eightT : List (List UInt8) := [[], [97], [98], [107], [116, 119, 111, 32, 119, 111, 114, 100, 115], [113, 34, 113], [98, 92, 98], [122, 122]]
theorem eight_ok : ∀ t ∈ eightT, textB t = true ∧ t.length ≤ 9 := by
  intro t ht
  simp only [eightT, List.mem_cons, List.not_mem_nil, or_false] at ht
  rcases ht with rfl | rfl | rfl | rfl | rfl | rfl | rfl | rfl <;> decide
def rowEight : Obj := .cells #[.string ⟨#[]⟩, .string ⟨#[97]⟩, .string ⟨#[98]⟩, .string ⟨#[107]⟩, .string ⟨#[116, 119, 111, 32, 119, 111, 114, 100, 115]⟩, .string ⟨#[113, 34, 113]⟩, .string ⟨#[98, 92, 98]⟩, .string ⟨#[122, 122]⟩] 9
def TextV (W : World) (p S : Nat) (a : Option Addr) (l : List UInt8) (c m : Nat) (e : Ending) (W' : World) : Prop := ∃ t s', e = .returned (.string ⟨t.toArray⟩) ∧ (textB t = true ∧ t.length ≤ 9) ∧ Src W' p S a l c (m + 1) s' ∧ Frm (· = p) W W'
set_option maxRecDepth 100000 in
set_option maxHeartbeats 3200000 in
theorem srcJsText (h : Src W p S a l c m s) (hm : m < 1000000) :
    Calls Tryd.prog 20 #[.pointer (some ⟨p, 0, none⟩)] W (TextV W p S a l c m) := by
  have HP : Hid (p < W.heap.size) := (Array.getElem?_eq_some_iff.1 h.box).1
  have hA : Below W.heap.size W (W.alloc rowEight) := (Below.refl _ _).alloc (Nat.le_refl _) _
  have hrow : (W.alloc rowEight).heap[W.heap.size]? = some rowEight := heap_newD _ _
  have hst : Strs (W.alloc rowEight) (· = W.heap.size) (some ⟨W.heap.size, 0, none⟩) eightT := by
    refine .inr ⟨_, 0, rfl, rfl, fun i hi => ?_⟩
    match i, hi with
    | 0, _ => exact cell_at (o := 0) hrow rfl
    | 1, _ => exact cell_at (o := 1) hrow rfl
    | 2, _ => exact cell_at (o := 2) hrow rfl
    | 3, _ => exact cell_at (o := 3) hrow rfl
    | 4, _ => exact cell_at (o := 4) hrow rfl
    | 5, _ => exact cell_at (o := 5) hrow rfl
    | 6, _ => exact cell_at (o := 6) hrow rfl
    | 7, _ => exact cell_at (o := 7) hrow rfl
  have PK : Hid (Calls Tryd.prog 27 #[.pointer (some ⟨p, 0, none⟩), .slice (some ⟨W.heap.size, 0, none⟩) 8 8] (W.alloc rowEight) (PickAns (W.alloc rowEight) p S a l c m eightT)) :=
    srcPick (h.on hA) hm eightT (· = W.heap.size) _ 8 hst (fun b hb => by have := HP.out; simp; omega) (by decide) (by decide)
  have HA := Lib.hid hA
  clear h hm hA hrow hst
  go_enter Tryd.func20, Tryd.ntmps20
  go_wp2_with fail
  refine PK.out.mono ?_
  rintro e w1 ⟨t, s', rfl, ht, hS, hF⟩
  have HS := Lib.hid hS
  have HF := Lib.hid hF
  have HT := Lib.hid ht
  clear hS hF ht
  go_wp2_with fail
  go_ret
  exact ⟨t, s', rfl, eight_ok t HT.out, HS.out, (Frm.of_below HA.out).trans HF.out⟩
def nd : Nat → Nat
  | 0 => 1
  | d + 1 => 1 + 4 * nd d
def kd : Nat → Nat
  | 0 => 4
  | d + 1 => 5 + 4 * kd d
def JsonV (W : World) (p S : Nat) (a : Option Addr) (l : List UInt8) (c m d : Nat) (e : Ending) (W' : World) : Prop :=
  ∃ (j : J) (ka : Option Addr) (kc : Nat) (ia : Option Addr) (ic n m' s' : Nat), e = .returned (.agg #[.int .i64 j.k, .int .i64 j.n, .string ⟨j.t.toArray⟩, .slice ka j.keys.length kc, .slice ia j.items.length ic]) ∧ cnt (d + 1) j = some n ∧ n ≤ nd d ∧ Small j ∧
    Rd W' (fun b => W.heap.size ≤ b ∧ b < W'.heap.size) (.l 1 j.keys.length (dKs j.keys)) (.slice ka j.keys.length kc) ∧ Rd W' (fun b => W.heap.size ≤ b ∧ b < W'.heap.size) (.l 5 j.items.length (dJs j.items)) (.slice ia j.items.length ic) ∧
    Src W' p S a l c m' s' ∧ m' ≤ m + kd d ∧ Frm (· = p) W W'
structure JL (W0 W : World) (p S : Nat) (a : Option Addr) (l : List UInt8) (c m q : Nat) (kk : Int) (keys : List (List UInt8)) (L : List J) (kv iv : Value) : Prop where
  src : ∃ s, Src W p S a l c m s
  rv : W.heap[W0.heap.size]? = some (.cells #[.int .i64 0, .int .i64 0, .string ⟨#[]⟩, .slice none 0 0, .slice none 0 0] 28)
  bx : W.heap[q]? = some (.cells #[.int .i64 kk, .int .i64 0, .string ⟨#[]⟩, kv, iv] 28)
  fr : Frm (· = p) W0 W
  lt : p < W0.heap.size ∧ W0.heap.size < q
  ks : SG W (W0.heap.size + 1) (fun _ => False) 9 1 (dKs keys) keys.length kv
  is : SG W (W0.heap.size + 1) (fun b => W0.heap.size < b ∧ b ≠ q ∧ kv.ownBlock ≠ some b) 28 5 (dJs L) L.length iv
  kn : ∀ g, kv.ownBlock = some g → W0.heap.size < g ∧ g ≠ q ∧ g < W.heap.size
  vn : ∀ g, iv.ownBlock = some g → W0.heap.size < g ∧ g ≠ q ∧ g < W.heap.size ∧ kv.ownBlock ≠ some g
variable {W0 : World} {q m' : Nat} {kk : Int} {keys : List (List UInt8)} {L : List J} {kv iv : Value}
theorem JL.qlt (h : JL W0 W p S a l c m q kk keys L kv iv) : q < W.heap.size := (Array.getElem?_eq_some_iff.1 h.bx).1
theorem JL.draw (h : JL W0 W p S a l c m q kk keys L kv iv) (hF : Frm (· = p) W W') (hS : ∃ s', Src W' p S a l c m' s') : JL W0 W' p S a l c m' q kk keys L kv iv := by
  have h1 := h.lt
  have h2 := h.qlt
  refine ⟨hS, by rw [hF.block _ (Array.getElem?_eq_some_iff.1 h.rv).1 (by omega)]; exact h.rv, by rw [hF.block _ h2 (by omega)]; exact h.bx, h.fr.trans hF, h1, h.ks.frmP hF (fun g hg => by have := h.kn g hg; omega) (fun b hb => hb.elim), h.is.frmP hF (fun g hg => by have := h.vn g hg; omega) (fun b hb => by omega), fun g hg => ?_, fun g hg => ?_⟩
  · have := h.kn g hg; have := hF.size; omega
  · have h3 := h.vn g hg; have := hF.size; exact ⟨h3.1, h3.2.1, by omega, h3.2.2.2⟩
theorem JL.later (h : JL W0 W p S a l c m q kk keys L kv iv) (hB : Below W.heap.size W W') : JL W0 W' p S a l c m q kk keys L kv iv := by
  obtain ⟨s, hs⟩ := h.src
  exact h.draw (Frm.of_below hB) ⟨s, hs.on hB⟩
theorem JL.drew (h : JL W0 W p S a l c m q kk keys L kv iv) : JL W0 W.drew p S a l c m q kk keys L kv iv := h.later (Below.refl _ _).drew
theorem JL.item (h : JL W0 W p S a l c m q kk keys L kv iv) {w3 : World} {x : J} {iv' : Value} (hs : SG w3 (W0.heap.size + 1) (fun b => W0.heap.size < b ∧ b ≠ q ∧ kv.ownBlock ≠ some b) 28 5 (dJs (L ++ [x])) (L.length + 1) iv') (hg : W.grownBy w3 iv.ownBlock) (ho : ∃ g, iv'.ownBlock = some g ∧ (iv.ownBlock = some g ∨ W.heap.size ≤ g)) :
    JL W0 (w3.setCell ⟨q, 4, none⟩ iv') p S a l c m q kk keys (L ++ [x]) kv iv' := by
  have h1 := h.lt
  have h2 := h.qlt
  have hFg : Frm (fun b => iv.ownBlock = some b) W w3 := ⟨hg.os, hg.tape, hg.output, hg.size, fun b hb hn => hg.block b hb (fun e => hn e.symm)⟩
  have hFq : Frm (· = q) w3 (w3.setCell ⟨q, 4, none⟩ iv') := frm_set _ _ _ _
  obtain ⟨s, hsr⟩ := h.src
  have hsr3 := hsr.frm hFg (fun e => by have := h.vn _ e; omega) (fun b hb e => by have := h.vn _ e; have := hsr.le; omega)
  have hsr4 := hsr3.frm hFq (by omega) (fun b hb e => by have := hsr.le; have e' : b = q := e; omega)
  have hbx : w3.heap[q]? = some (.cells #[.int .i64 kk, .int .i64 0, .string ⟨#[]⟩, kv, iv] 28) := by rw [hFg.block _ h2 (fun e => (h.vn _ e).2.1 rfl)]; exact h.bx
  have hrv : w3.heap[W0.heap.size]? = some (.cells #[.int .i64 0, .int .i64 0, .string ⟨#[]⟩, .slice none 0 0, .slice none 0 0] 28) := by rw [hFg.block _ (Array.getElem?_eq_some_iff.1 h.rv).1 (fun e => by have := h.vn _ e; omega)]; exact h.rv
  have sz : (w3.setCell ⟨q, 4, none⟩ iv').heap.size = w3.heap.size := by simp [World.setCell]
  obtain ⟨g, hg1, hg2⟩ := ho
  have hgn : W0.heap.size < g ∧ g ≠ q ∧ kv.ownBlock ≠ some g := by
    rcases hg2 with e | e
    · have h3 := h.vn g e; exact ⟨h3.1, h3.2.1, h3.2.2.2⟩
    · exact ⟨by have := h.fr.size; omega, by omega, fun e' => by have := h.kn g e'; omega⟩
  have hglt : g < w3.heap.size := by
    obtain ⟨xs, ⟨-, h4⟩, -⟩ := hs
    rcases h4 with ⟨e, -⟩ | ⟨g', cap, cur, e, -, hh, -⟩
    · rw [e] at hg1; cases hg1
    · rw [e] at hg1
      obtain rfl := Option.some.inj hg1
      exact (Array.getElem?_eq_some_iff.1 hh).1
  refine ⟨⟨s, hsr4⟩, ?_, heap_set 4 _ hbx, ?_, h1, ?_, ?_, fun g' hg' => ?_, fun g' hg' => ?_⟩
  · rw [Below.heap_setCell _ ⟨q, 4, none⟩ _ _ (show W0.heap.size ≠ q by omega)]; exact hrv
  · have hF3 : Frm (· = p) W0 w3 := ⟨hFg.os.trans h.fr.os, hFg.tape.trans h.fr.tape, hFg.output.trans h.fr.output, Nat.le_trans h.fr.size hFg.size, fun b hb hn => (hFg.block b (Nat.lt_of_lt_of_le hb h.fr.size) (fun e => by have := h.vn _ e; omega)).trans (h.fr.block b hb hn)⟩
    exact ⟨hFq.os.trans hF3.os, hFq.tape.trans hF3.tape, hFq.output.trans hF3.output, Nat.le_trans hF3.size hFq.size, fun b hb hn => (hFq.block b (Nat.lt_of_lt_of_le hb hF3.size) (show ¬ b = q by omega)).trans (hF3.block b hb hn)⟩
  · exact (h.ks.grown hg (fun g' hg' e => (h.vn _ e).2.2.2 hg') (fun b hb => hb.elim)).frmP hFq (fun g' hg' => (h.kn _ hg').2.1) (fun b hb => hb.elim)
  · rw [List.length_append]; exact (hs.frmP hFq (fun g' hg' => by rw [hg1] at hg'; obtain rfl := Option.some.inj hg'; exact hgn.2.1) (fun b hb => hb.2.1))
  · have h3 := h.kn g' hg'; rw [sz]; have := hg.size; exact ⟨h3.1, h3.2.1, by omega⟩
  · rw [hg1] at hg'
    obtain rfl := Option.some.inj hg'
    rw [sz]
    exact ⟨hgn.1, hgn.2.1, hglt, hgn.2.2⟩
theorem JL.key (h : JL W0 W p S a l c m q kk keys L kv iv) {w3 : World} {x : List UInt8} {kv' : Value} (hs : SG w3 (W0.heap.size + 1) (fun _ => False) 9 1 (dKs (keys ++ [x])) (keys.length + 1) kv') (hg : W.grownBy w3 kv.ownBlock) (ho : ∃ g, kv'.ownBlock = some g ∧ (kv.ownBlock = some g ∨ W.heap.size ≤ g)) :
    JL W0 (w3.setCell ⟨q, 3, none⟩ kv') p S a l c m q kk (keys ++ [x]) L kv' iv := by
  have h1 := h.lt
  have h2 := h.qlt
  have hFg : Frm (fun b => kv.ownBlock = some b) W w3 := ⟨hg.os, hg.tape, hg.output, hg.size, fun b hb hn => hg.block b hb (fun e => hn e.symm)⟩
  have hFq : Frm (· = q) w3 (w3.setCell ⟨q, 3, none⟩ kv') := frm_set _ _ _ _
  obtain ⟨s, hsr⟩ := h.src
  have hsr3 := hsr.frm hFg (fun e => by have := h.kn _ e; omega) (fun b hb e => by have := h.kn _ e; have := hsr.le; omega)
  have hsr4 := hsr3.frm hFq (by omega) (fun b hb e => by have := hsr.le; have e' : b = q := e; omega)
  have hbx : w3.heap[q]? = some (.cells #[.int .i64 kk, .int .i64 0, .string ⟨#[]⟩, kv, iv] 28) := by rw [hFg.block _ h2 (fun e => (h.kn _ e).2.1 rfl)]; exact h.bx
  have hrv : w3.heap[W0.heap.size]? = some (.cells #[.int .i64 0, .int .i64 0, .string ⟨#[]⟩, .slice none 0 0, .slice none 0 0] 28) := by rw [hFg.block _ (Array.getElem?_eq_some_iff.1 h.rv).1 (fun e => by have := h.kn _ e; omega)]; exact h.rv
  have sz : (w3.setCell ⟨q, 3, none⟩ kv').heap.size = w3.heap.size := by simp [World.setCell]
  obtain ⟨g, hg1, hg2⟩ := ho
  have hgn : W0.heap.size < g ∧ g ≠ q ∧ iv.ownBlock ≠ some g := by
    rcases hg2 with e | e
    · have h3 := h.kn g e; exact ⟨h3.1, h3.2.1, fun e' => (h.vn _ e').2.2.2 e⟩
    · exact ⟨by have := h.fr.size; omega, by omega, fun e' => by have := h.vn g e'; omega⟩
  have hglt : g < w3.heap.size := by
    obtain ⟨xs, ⟨-, h4⟩, -⟩ := hs
    rcases h4 with ⟨e, -⟩ | ⟨g', cap, cur, e, -, hh, -⟩
    · rw [e] at hg1; cases hg1
    · rw [e] at hg1
      obtain rfl := Option.some.inj hg1
      exact (Array.getElem?_eq_some_iff.1 hh).1
  have his := h.is.conv (G' := fun b => (W0.heap.size < b ∧ b ≠ q ∧ kv.ownBlock ≠ some b) ∧ b < W.heap.size) (fun _ _ _ => rfl) (fun b hb hG => ⟨hG, hb⟩)
  have his3 := (his.grown hg (fun g' hg' => (h.vn g' hg').2.2.2) (fun b hb => hb.1.2.2)).frmP hFq (fun g' hg' => (h.vn _ hg').2.1) (fun b hb => hb.1.2.1)
  refine ⟨⟨s, hsr4⟩, ?_, heap_set 3 _ hbx, ?_, h1, ?_, ?_, fun g' hg' => ?_, fun g' hg' => ?_⟩
  · rw [Below.heap_setCell _ ⟨q, 3, none⟩ _ _ (show W0.heap.size ≠ q by omega)]; exact hrv
  · have hF3 : Frm (· = p) W0 w3 := ⟨hFg.os.trans h.fr.os, hFg.tape.trans h.fr.tape, hFg.output.trans h.fr.output, Nat.le_trans h.fr.size hFg.size, fun b hb hn => (hFg.block b (Nat.lt_of_lt_of_le hb h.fr.size) (fun e => by have := h.kn _ e; omega)).trans (h.fr.block b hb hn)⟩
    exact ⟨hFq.os.trans hF3.os, hFq.tape.trans hF3.tape, hFq.output.trans hF3.output, Nat.le_trans hF3.size hFq.size, fun b hb hn => (hFq.block b (Nat.lt_of_lt_of_le hb hF3.size) (show ¬ b = q by omega)).trans (hF3.block b hb hn)⟩
  · rw [List.length_append]; exact (hs.frmP hFq (fun g' hg' => by rw [hg1] at hg'; obtain rfl := Option.some.inj hg'; exact hgn.2.1) (fun b hb => hb.elim))
  · refine his3.conv (fun _ _ _ => rfl) (fun b _ hG => ⟨hG.1.1, hG.1.2.1, fun e => ?_⟩)
    rw [hg1] at e
    obtain rfl := Option.some.inj e
    rcases hg2 with e | e
    · exact hG.1.2.2 e
    · have := hG.2; omega
  · rw [hg1] at hg'
    obtain rfl := Option.some.inj hg'
    rw [sz]
    exact ⟨hgn.1, hgn.2.1, hglt⟩
  · have h3 := h.vn g' hg'
    rw [sz]
    refine ⟨h3.1, h3.2.1, by have := hg.size; omega, fun e => ?_⟩
    rw [hg1] at e
    obtain rfl := Option.some.inj e
    exact hgn.2.2 hg'
end Go.Proofs.YtodgijhpokjjhaaDoor
