import Derived.Test.YtodgijhpokjjhaaDoorZbo
namespace Go.Proofs.YtodgijhpokjjhaaDoor
open Go.RowKit
set_option linter.unusedSimpArgs false
theorem step_pushS {ops : Array Oper} {o : Oper} {a : Act} {w : World} {K : Act → World → Prop} {Q : Exit → Act → World → Prop} {E : Prop} (hgd : o.guard = none) (s x : Operand)
    (ho : o.op = .call { callee := .builtin .append, args := #[s, x], argTypes := #[25, 25] })
    (B : Nat) (v : Value) (l ys : List (List UInt8)) (ad : Addr) (m cp : Nat) (hs : a.eval s = v) (hx : a.eval x = .slice (some ad) m cp) (hm : ys.length = m) (nn : Nat) (hnn : (l ++ ys).length = nn)
    (hb : OB w B 9 v (sc l)) (hB : B ≤ w.heap.size) (hl : l.length + ys.length ≤ 1000000000) (h0 : 0 < ys.length) (hc : ∀ j u, (sc ys)[j]? = some u → w.cell? (ad.add j) = some u)
    (h : ∀ a2 c2 w', OB w' B 9 (.slice a2 nn c2) (sc (l ++ ys)) → Gr w v w' (.slice a2 nn c2) → K (a.put o.dst (.slice a2 nn c2)) w') :
    if Region.wanted o (yielded ops a.tmps) = true then Oper.wp Tryd.prog o a w K Q else E := by
  rw [if_pos (by simp [Region.wanted, hgd])]
  subst hm
  obtain ⟨v', w', hr, h2, h3⟩ := run_pushS hb hB ys hl h0 ad cp o.type hc
  obtain ⟨a2, c2, e2, -⟩ := h2.shape
  rw [sc_len, hnn] at e2
  subst e2
  unfold Oper.wp execOp
  simp only [ho, resolve, invoke, builtin, Sem.run_bind, Sem.run_pure, Result.andThen_ok, List.map_toArray, List.map_cons, List.map_nil, hs, hx, hr]
  exact h a2 c2 w' h2 h3
theorem wpList_push1 {ops : Array Oper} {rest : List Oper} {o : Oper} {a : Act} {w : World} {Q : Exit → Act → World → Prop} (hgd : o.guard = none) (s x : Operand)
    (ho : o.op = .call { callee := .builtin .append, args := #[s, x], argTypes := #[22, 22] })
    (B : Nat) (v : Value) (bs : List UInt8) (c : UInt8) (ad : Addr) (cp : Nat) (hs : a.eval s = v) (hx : a.eval x = .slice (some ad) 1 cp) (nn : Nat) (hnn : (bs ++ [c]).length = nn)
    (hb : OB w B 5 v (bc bs)) (hB : B ≤ w.heap.size) (hl : bs.length ≤ 1000000) (hc : w.cell? ad = some (.int .u8 (c.toNat : Int))) (ha : ad.add 0 = ad)
    (h : ∀ a2 c2 w', OB w' B 5 (.slice a2 nn c2) (bc (bs ++ [c])) → Gr w v w' (.slice a2 nn c2) → wpList Tryd.prog ops Q rest (a.put o.dst (.slice a2 nn c2)) w') : wpList Tryd.prog ops Q (o :: rest) a w := by
  refine wpList_plain hgd fun K hK => ?_
  obtain ⟨v', w', hr, h2, h3⟩ := run_push1 hb hB hl c ad cp o.type hc ha
  obtain ⟨a2, c2, e2, -⟩ := h2.shape
  rw [bc_len, hnn] at e2
  subst e2
  unfold Oper.wp execOp
  simp only [ho, resolve, invoke, builtin, Sem.run_bind, Sem.run_pure, Result.andThen_ok, List.map_toArray, List.map_cons, List.map_nil, hs, hx, hr]
  exact hK _ _ (h a2 c2 w' h2 h3)
theorem news_str (w : World) (s : List UInt8) (t : TypeId) : ∀ j u, (sc [s])[j]? = some u → (w.alloc (.cells #[.string ⟨s.toArray⟩] t)).cell? ((⟨w.heap.size, 0, none⟩ : Addr).add j) = some u := news1 w (.string ⟨s.toArray⟩) t
theorem box_cell {W : World} {p : Nat} {f : Fr} {vb ve : Value} {t : TypeId} (h : W.heap[p]? = some (.cells (fcs f vb ve) t)) : W.cell? ⟨p, 0, none⟩ = some vb ∧ W.cell? ⟨p, 1, none⟩ = some (.int .i64 f.d) ∧ W.cell? ⟨p, 2, none⟩ = some (.bool f.q) ∧ W.cell? ⟨p, 3, none⟩ = some (.bool f.s) ∧ W.cell? ⟨p, 4, none⟩ = some (.bool f.c) ∧ W.cell? ⟨p, 5, none⟩ = some ve :=
  ⟨cell_at (o := 0) h rfl, cell_at (o := 1) h rfl, cell_at (o := 2) h rfl, cell_at (o := 3) h rfl, cell_at (o := 4) h rfl, cell_at (o := 5) h rfl⟩
def shutF (f : Fr) : Fr := if f.d - 1 = 0 then { f with buf := [], d := 0 } else { f with d := f.d - 1 }
def shutO (f : Fr) : List (List UInt8) := if f.d - 1 = 0 then [f.buf] else []
set_option maxRecDepth 100000 in
set_option maxHeartbeats 3200000 in
theorem shutI (w : World) (p : Nat) (f : Fr) (out : List (List UInt8)) (W : World) (hd0 : 0 ≤ f.d) (hd : f.d ≤ 12) (hn : 0 < f.buf.length) (hol : out.length ≤ 100000000) (h : FrS w p W f out) :
    Calls Tryd.prog 31 #[.pointer (some ⟨p, 0, none⟩)] W fun e W' => e = .returned (.tuple #[]) ∧ FrS w p W' (shutF f) (out ++ shutO f) := by
  obtain ⟨ba, bp, ea, ep, h⟩ := h.open
  have H := Lib.hid h
  obtain ⟨c0, c1, c2, c3, c4, c5⟩ := h.cell
  have z0 := h.fz 0; have z1 := h.fz 1; have z2 := h.fz 2; have z3 := h.fz 3; have z4 := h.fz 4; have z5 := h.fz 5
  have H1 := Lib.hid (h.put 1 (.int .i64 (f.d - 1)) { f with d := f.d - 1 } rfl rfl)
  clear h
  by_cases hc : f.d - 1 = 0
  · have HO : Hid (shutF f = { f with buf := [], d := 0 } ∧ shutO f = [f.buf]) := ⟨by unfold shutF; rw [if_pos hc], by unfold shutO; rw [if_pos hc]⟩
    rw [hc] at H1
    obtain ⟨g, rfl⟩ : ∃ g, ba = some ⟨g, 0, none⟩ := by
      rcases H.out.ob.2 with ⟨-, e⟩ | ⟨g, cap, cur, e, -⟩
      · rw [bc_len] at e; omega
      · injection e with e; exact ⟨g, e⟩
    have hcv := H1.out.drew.ob.conv
    have HS := Lib.hid (H1.out.on ((Below.refl _ _).alloc (Nat.le_refl _) (.cells #[.string ⟨f.buf.toArray⟩] 9))).drew
    have NS := Lib.hid (news_str (W.setCell ⟨p, 1, none⟩ (.int .i64 0)) f.buf 9)
    rw [size_setO] at NS
    have q5 : ((W.setCell ⟨p, 1, none⟩ (.int .i64 0)).alloc (.cells #[.string ⟨f.buf.toArray⟩] 9)).cell? ⟨p, 5, none⟩ = some (.slice ea out.length ep) := HS.out.cell.2.2.2.2.2
    obtain ⟨hle, hmx⟩ : f.buf.length ≤ bp ∧ bp ≤ maxLen := by
      obtain ⟨a1, c1', e1, hle, hmx⟩ := H.out.ob.shape
      injection e1 with e1 e2 e3
      subst e3
      rw [bc_len] at hle
      exact ⟨hle, hmx⟩
    unfold maxLen at hmx
    have hbp : ¬ (bp = 0) := by omega
    go_enter Tryd.func31, Tryd.ntmps31
    go_wp2_with fail
    go_region_law (refine step_pushS rfl (.tmp 18) (.tmp 24) rfl w.heap.size (.slice ea out.length ep) out [f.buf] ⟨W.heap.size, 0, none⟩ 1 1 rfl rfl rfl (out.length + 1) (by simp) HS.out.oe (by have := HS.out.bel.size; exact this) (by simp; omega) (by simp) NS.out ?_; intro a2 c2 w2 hb2 hg2; have HE := Lib.hid (HS.out.pushE hb2 hg2); have hbx : w2.heap[p]? = some (.cells (fcs { f with d := 0 } (.slice (some ⟨g, 0, none⟩) f.buf.length bp) (.slice ea out.length ep)) 42) := (by rw [hg2.block p HS.out.lt HS.out.ne]; exact HS.out.box); have y5 := (box_cell hbx).2.2.2.2.2; have zz := frozen_at 5 hbx; have y0 := (box_cell hbx).1; have zz0 := frozen_at 0 hbx; clear hbx hb2 hg2)
    all_goals
      have HF := Lib.hid HE.out.cutB
      go_wp2_with fail
      refine bodyPost_end (results_none rfl _ _ _) rfl ⟨rfl, ?_⟩
      rw [HO.out.1, HO.out.2]
      exact ⟨_, _, HF.out⟩
  · have HO : Hid (shutF f = { f with d := f.d - 1 } ∧ shutO f = []) := ⟨by unfold shutF; rw [if_neg hc], by unfold shutO; rw [if_neg hc]⟩
    have hcd : (f.d - 1 == 0) = false := by simpa using hc
    go_enter Tryd.func31, Tryd.ntmps31
    go_wp2_with fail
    refine bodyPost_end (results_none rfl _ _ _) rfl ⟨rfl, ?_⟩
    rw [HO.out.1, HO.out.2, List.append_nil]
    exact ⟨_, _, H1.out⟩
end Go.Proofs.YtodgijhpokjjhaaDoor
