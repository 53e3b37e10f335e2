import Derived.Test.YtmebbinolkohjaaGreatZbm
import Derived.Test.YtmebbinolkohjaaGreatZbn
import Derived.Test.YtmebbinolkohjaaGreatZTk
namespace Go.Proofs.YtmebbinolkohjaaGreat
open Go.RowKit
set_option linter.unusedSimpArgs false
theorem intsAt {w : World} {U : Nat → Prop} {l : List Int} {ua : Option Addr} {uc m : Nat} (h : Rd w U (dIntS l) (.slice ua l.length uc)) (hm : m < l.length) : ∃ ub uo, ua = some ⟨ub, uo, none⟩ ∧ ∀ W, Below w.heap.size w W → W.cell? ⟨ub, uo + m, none⟩ = some (.int .i64 l[m]) := by
  obtain ⟨b, off, rfl, -, hd⟩ := Rd.things (d := cInt) (n := 1) h m hm
  obtain ⟨u, q0, r0⟩ := hd 0 (by omega)
  obtain rfl : u = .int .i64 l[m] := r0
  rw [Nat.mul_one, Nat.add_zero] at q0
  exact ⟨b, off, rfl, fun W hB => cell_keptS q0 hB⟩
noncomputable def alikeP (uq : List Int) (a b : RowV) : Bool := uq.all (fun c => eqB (a.cells.getD c.toNat []) (b.cells.getD c.toNat []))
theorem alike_no {uq : List Int} {a b : RowV} {m : Nat} (hm : m < uq.length) (h : eqB (a.cells.getD uq[m].toNat []) (b.cells.getD uq[m].toNat []) = false) : alikeP uq a b = false := by
  unfold alikeP
  exact List.all_eq_false.2 ⟨_, List.getElem_mem hm, fun hn => Bool.false_ne_true (h.symm.trans hn)⟩
theorem alike_yes {uq : List Int} {a b : RowV} (h : ∀ m (hm : m < uq.length), eqB (a.cells.getD uq[m].toNat []) (b.cells.getD uq[m].toNat []) = true) : alikeP uq a b = true := by
  unfold alikeP
  exact List.all_eq_true.2 (fun c hc => by obtain ⟨m, hm, rfl⟩ := List.mem_iff_getElem.1 hc; exact h m hm)
theorem alike_sym (uq : List Int) (a b : RowV) : alikeP uq a b = alikeP uq b a := by
  unfold alikeP
  congr 1
  funext c
  rw [Bool.eq_iff_iff, eqB_iff, eqB_iff]
  exact eq_comm
theorem getDA {l : List (List At)} {i : Nat} (h : i < l.length) : l.getD i [] = l[i] := by rw [List.getD_eq_getElem?_getD, List.getElem?_eq_getElem h]; rfl
set_option maxRecDepth 100000 in
set_option maxHeartbeats 6400000 in
theorem sameInI (uq : List Int) (ua : Option Addr) (uc : Nat) (U : Nat → Prop) (a b : RowV) (pa oa pb ob : Nat) (aa : Option Addr) (ac : Nat) (ba : Option Addr) (bc : Nat) (B : Nat → Prop) (w : World) (hul : uq.length ≤ 1000) (hU : Rd w U (dIntS uq) (.slice ua uq.length uc)) (hb : ∀ m (h : m < uq.length), 0 ≤ uq[m] ∧ uq[m] < (a.cells.length : Int) ∧ uq[m] < (b.cells.length : Int)) (hla : (dAtomSS a.cells).le maxLen) (hlb : (dAtomSS b.cells).le maxLen)
    (hpa : w.cell? ⟨pa, oa + 1, none⟩ = some (.slice aa a.cells.length ac)) (hpb : w.cell? ⟨pb, ob + 1, none⟩ = some (.slice ba b.cells.length bc)) (hA : Rd w B (dAtomSS a.cells) (.slice aa a.cells.length ac)) (hB : Rd w B (dAtomSS b.cells) (.slice ba b.cells.length bc)) :
    Calls Tryz.prog 118 #[.slice ua uq.length uc, .pointer (some ⟨pa, oa, none⟩), .pointer (some ⟨pb, ob, none⟩)] w fun e w' => e = .returned (.bool (alikeP uq a b)) ∧ Below w.heap.size w w' := by
  have HU : Hid (∀ W, Below w.heap.size w W → Rd W U (dIntS uq) (.slice ua uq.length uc)) := fun W h => Rd.later hU h
  have HA : Hid (∀ W, Below w.heap.size w W → W.cell? ⟨pa, oa + 1, none⟩ = some (.slice aa a.cells.length ac) ∧ W.cell? ⟨pb, ob + 1, none⟩ = some (.slice ba b.cells.length bc) ∧ Rd W B (dAtomSS a.cells) (.slice aa a.cells.length ac) ∧ Rd W B (dAtomSS b.cells) (.slice ba b.cells.length bc)) := fun W h => ⟨cell_keptS hpa h, cell_keptS hpb h, hA.later h, hB.later h⟩
  have HO := Lib.hid (And.intro hb (And.intro hla hlb))
  clear hU hb hla hlb hpa hpb hA hB
  go_enter Tryz.func118, Tryz.ntmps118
  go_wp2_with fail
  go_loopw [11] (fun t wr => ∃ m : Nat, m ≤ uq.length ∧ t = .int .i64 m ∧ Hid ((∀ n (h : n < uq.length), n < m → eqB (a.cells.getD uq[n].toNat []) (b.cells.getD uq[n].toNat []) = true) ∧ Below w.heap.size w wr)) (fun t _ => uq.length - (intOf t).toNat)
  case atStart => exact ⟨0, Nat.zero_le _, rfl, fun n _ h => absurd h (by omega), Below.refl _ _⟩
  case round =>
    obtain ⟨m, hm, rfl, HW⟩ := hrel
    by_cases hlt : m < uq.length
    case neg =>
      have hmd : decide ((m : Int) < (uq.length : Int)) = false := by simp; omega
      have HE := Lib.hid (alike_yes (fun n h => HW.out.1 n h (by omega)))
      go_wp2_with fail
      go_ret
      exact ⟨ret_b HE.out.symm, HW.out.2⟩
    have hmi : (m : Int) < (uq.length : Int) := by omega
    obtain ⟨hb0, hb1, hb2⟩ := HO.out.1 m hlt
    obtain ⟨ub, uo, hua, hui⟩ := intsAt (HU.out _ HW.out.2) hlt
    subst hua
    obtain ⟨K, hK⟩ : ∃ K : Nat, uq[m] = (K : Int) := ⟨uq[m].toNat, by omega⟩
    have hKa : K < a.cells.length := by omega
    have hKb : K < b.cells.length := by omega
    have hKa1 : (K : Int) < (a.cells.length : Int) := by omega
    have hKb1 : (K : Int) < (b.cells.length : Int) := by omega
    obtain ⟨ab, ao, xa, xq, haa, hca⟩ := cellsAt (HA.out _ HW.out.2).2.2.1 hKa
    subst haa
    obtain ⟨bb, bo, ya, yq, hba, hcb⟩ := cellsAt (HA.out _ HW.out.2).2.2.2 hKb
    subst hba
    have hu0 := hui _ (Below.refl _ _)
    rw [hK] at hu0
    have SS : Hid (∀ W, Below wr.heap.size wr W → Calls Tryz.prog 137 #[.slice xa a.cells[K].length xq, .slice ya b.cells[K].length yq] W fun e w' => e = .returned (.bool (eqB a.cells[K] b.cells[K])) ∧ Below W.heap.size W w') := fun W h => sameSetI a.cells[K] b.cells[K] xa xq ya yq B B W ((Ls_le.1 HO.out.2.1).2.2 K hKa 0 (by omega)) ((Ls_le.1 HO.out.2.2).2.2 K hKb 0 (by omega)) (hca W h).2 (hcb W h).2
    have CX : Hid (∀ W, Below wr.heap.size wr W → W.cell? ⟨pa, oa + 1, none⟩ = some (.slice (some ⟨ab, ao, none⟩) a.cells.length ac) ∧ W.cell? ⟨pb, ob + 1, none⟩ = some (.slice (some ⟨bb, bo, none⟩) b.cells.length bc) ∧ W.cell? ⟨ab, ao + K, none⟩ = some (.slice xa a.cells[K].length xq) ∧ W.cell? ⟨bb, bo + K, none⟩ = some (.slice ya b.cells[K].length yq)) := fun W h => ⟨(HA.out W (HW.out.2.trans (h.mono HW.out.2.size))).1, (HA.out W (HW.out.2.trans (h.mono HW.out.2.size))).2.1, (hca W h).1, (hcb W h).1⟩
    have HNO : Hid (eqB a.cells[K] b.cells[K] = false → alikeP uq a b = false) := fun h => alike_no hlt (by rw [hK, Int.toNat_natCast, getDA hKa, getDA hKb]; exact h)
    have HNX : Hid (eqB a.cells[K] b.cells[K] = true → ∀ n (h : n < uq.length), n < m + 1 → eqB (a.cells.getD uq[n].toNat []) (b.cells.getD uq[n].toNat []) = true) := fun he n h hn => by
      by_cases e : n = m
      · subst e; rw [hK, Int.toNat_natCast, getDA hKa, getDA hKb]; exact he
      · exact HW.out.1 n h (by omega)
    clear hca hcb hui hK hb0 hb1 hb2
    generalize a.cells[K] = da at *
    generalize b.cells[K] = db at *
    clear hKa hKb
    go_wp2_with fail
    refine wp_region_held_drew (S := (fun W => W.cell? ⟨pa, oa + 1, none⟩ = some (.slice (some ⟨ab, ao, none⟩) a.cells.length ac) ∧ W.cell? ⟨pb, ob + 1, none⟩ = some (.slice (some ⟨bb, bo, none⟩) b.cells.length bc) ∧ W.cell? ⟨ab, ao + K, none⟩ = some (.slice xa da.length xq) ∧ W.cell? ⟨bb, bo + K, none⟩ = some (.slice ya db.length yq))) (by kernel_rfl) ?_ (fun hHeld => ?_)
    · (first | exact CX.out _ (Below.refl _ _) | exact CX.out _ (Below.refl _ _).drew | exact CX.out _ BW.out)
    refine wpAnyH_take (i := 0) (v := ?_) rfl (by kernel_rfl) (by kernel_rfl) (by kernel_rfl) (fun _ _ _ h => h) (Or.inl ⟨by kernel_rfl, ?_⟩) (by assumption) ?_
    rotate_left
    · (intro wS hSw; (try dsimp only at hSw); go_simp <;> with_reducible rfl)
    try simp only [Act.put, tkS]
    refine wpAnyH_take (i := 1) (v := ?_) rfl (by kernel_rfl) (by kernel_rfl) (by kernel_rfl) (fun _ _ _ h => h) (Or.inl ⟨by kernel_rfl, ?_⟩) (by assumption) ?_
    rotate_left
    · (intro wS hSw; (try dsimp only at hSw); go_simp <;> with_reducible rfl)
    try simp only [Act.put, tkS]
    refine wpAnyH_take (i := 2) (v := ?_) rfl (by kernel_rfl) (by kernel_rfl) (by kernel_rfl) (fun _ _ _ h => h) (Or.inl ⟨by kernel_rfl, ?_⟩) (by assumption) ?_
    rotate_left
    · (intro wS hSw; (try dsimp only at hSw); go_simp <;> with_reducible rfl)
    try simp only [Act.put, tkS]
    refine wpAnyH_take (i := 3) (v := ?_) rfl (by kernel_rfl) (by kernel_rfl) (by kernel_rfl) (fun _ _ _ h => h) (Or.inl ⟨by kernel_rfl, ?_⟩) (by assumption) ?_
    rotate_left
    · (intro wS hSw; (try dsimp only at hSw); go_simp <;> with_reducible rfl)
    try simp only [Act.put, tkS]
    refine wpAnyH_take (i := 4) (v := ?_) rfl (by kernel_rfl) (by kernel_rfl) (by kernel_rfl) (fun _ _ _ h => h) (Or.inl ⟨by kernel_rfl, ?_⟩) (by assumption) ?_
    rotate_left
    · (intro wS hSw; (try dsimp only at hSw); go_simp <;> with_reducible rfl)
    try simp only [Act.put, tkS]
    refine wpAnyH_take (i := 5) (v := ?_) rfl (by kernel_rfl) (by kernel_rfl) (by kernel_rfl) (fun _ _ _ h => h) (Or.inl ⟨by kernel_rfl, ?_⟩) (by assumption) ?_
    rotate_left
    · (intro wS hSw; (try dsimp only at hSw); go_simp <;> with_reducible rfl)
    try simp only [Act.put, tkS]
    refine wpAnyH_take (i := 6) (v := ?_) rfl (by kernel_rfl) (by kernel_rfl) (by kernel_rfl) (fun _ _ _ h => h) (Or.inl ⟨by kernel_rfl, ?_⟩) (by assumption) ?_
    rotate_left
    · (intro wS hSw; (try dsimp only at hSw); go_simp <;> with_reducible rfl)
    try simp only [Act.put, tkS]
    refine wpAnyH_take (i := 7) (v := ?_) rfl (by kernel_rfl) (by kernel_rfl) (by kernel_rfl) (fun _ _ _ h => h) (Or.inl ⟨by kernel_rfl, ?_⟩) (by assumption) ?_
    rotate_left
    · (intro wS hSw; (try dsimp only at hSw); go_simp <;> with_reducible rfl)
    try simp only [Act.put, tkS]
    refine wpAnyH_take (i := 8) (v := ?_) rfl (by kernel_rfl) (by kernel_rfl) (by kernel_rfl) (fun _ _ _ h => h) (Or.inl ⟨by kernel_rfl, ?_⟩) (by assumption) ?_
    rotate_left
    · (intro wS hSw; (try dsimp only at hSw); go_simp <;> with_reducible rfl)
    try simp only [Act.put, tkS]
    refine wpAnyH_take (i := 9) (v := ?_) rfl (by kernel_rfl) (by kernel_rfl) (by kernel_rfl) (fun _ _ _ h => h) (Or.inl ⟨by kernel_rfl, ?_⟩) (by assumption) ?_
    rotate_left
    · (intro wS hSw; (try dsimp only at hSw); go_simp <;> with_reducible rfl)
    try simp only [Act.put, tkS]
    refine wpAnyH_take (i := 10) (v := ?_) rfl (by kernel_rfl) (by kernel_rfl) (by kernel_rfl) (fun _ _ _ h => h) (Or.inl ⟨by kernel_rfl, ?_⟩) (by assumption) ?_
    rotate_left
    · (intro wS hSw; (try dsimp only at hSw); go_simp <;> with_reducible rfl)
    try simp only [Act.put, tkS]
    refine wpAnyH_take (i := 11) (v := ?_) rfl (by kernel_rfl) (by kernel_rfl) (by kernel_rfl) (fun _ _ _ h => h) (Or.inl ⟨by kernel_rfl, ?_⟩) (by assumption) ?_
    rotate_left
    · (intro wS hSw; (try dsimp only at hSw); go_simp <;> with_reducible rfl)
    try simp only [Act.put, tkS]
    refine wpAnyH_take (i := 12) (v := ?_) rfl (by kernel_rfl) (by kernel_rfl) (by kernel_rfl) (fun _ _ _ h => h) (Or.inl ⟨by kernel_rfl, ?_⟩) (by assumption) ?_
    rotate_left
    · (intro wS hSw; (try dsimp only at hSw); go_simp <;> with_reducible rfl)
    try simp only [Act.put, tkS]
    refine wpAnyH_take (i := 13) (v := ?_) rfl (by kernel_rfl) (by kernel_rfl) (by kernel_rfl) (fun _ _ _ h => h) (Or.inl ⟨by kernel_rfl, ?_⟩) (by assumption) ?_
    rotate_left
    · (intro wS hSw; (try dsimp only at hSw); go_simp <;> with_reducible rfl)
    try simp only [Act.put, tkS]
    refine wpAnyH_ready (rs := [14]) (by kernel_rfl) (by simp) (AllReadyH.cons rfl (fun K hK => ?_) AllReadyH.nil)
    go_simp
    (go_at_call 137; refine (SS.out _ (Below.refl _ _).drew).mono ?_; rintro e w1 ⟨rfl, hB⟩; have BW : Hid (Below wr.heap.size wr w1) := (Below.refl _ _).drew.trans hB; clear hB)
    refine hK.out _ _ ?_ (fun hHeld => ?_)
    · (first | exact CX.out _ (Below.refl _ _) | exact CX.out _ (Below.refl _ _).drew | exact CX.out _ BW.out)
    clear hK K
    try simp only [Act.put, tkS]
    refine wpAnyH_take (i := 15) (v := ?_) rfl (by kernel_rfl) (by kernel_rfl) (by kernel_rfl) (fun _ _ _ h => h) (Or.inl ⟨by kernel_rfl, ?_⟩) (by assumption) ?_
    rotate_left
    · (intro wS hSw; (try dsimp only at hSw); go_simp <;> with_reducible rfl)
    try simp only [Act.put, tkS]
    refine wpAnyH_done (by kernel_rfl) ?_ _
    have HB1 := Lib.hid (HW.out.2.trans (BW.out.mono HW.out.2.size))
    cases he : eqB da db
    case false =>
      have HE := Lib.hid (HNO.out he)
      clear he HNO HNX SS CX
      go_wp2_with fail
      go_ret
      exact ⟨ret_b HE.out.symm, HB1.out⟩
    have HN := Lib.hid (HNX.out he)
    clear he HNO HNX SS CX
    go_wp2_with fail
    go_roundw
    case rel => exact ⟨m + 1, by omega, by go_num, HN.out, HB1.out⟩
    case measure => simp [intOf]; omega
def twoP (uq : List Int) (rows : List RowV) (i : Nat) : Prop := ∀ (hi : i < rows.length) k (hk : k < i), alikeP uq (rows[k]'(by omega)) rows[i] = false
noncomputable def twinB (uq : List Int) (rows : List RowV) : Bool := !(@decide (∀ i, i < rows.length → twoP uq rows i) (Classical.propDecidable _))
theorem twin_no {uq : List Int} {rows : List RowV} (h : ∀ i, i < rows.length → twoP uq rows i) : twinB uq rows = false := by unfold twinB; rw [@decide_eq_true _ (Classical.propDecidable _) h]; rfl
theorem twin_yes {uq : List Int} {rows : List RowV} {i : Nat} (hi : i < rows.length) (h : ¬ twoP uq rows i) : twinB uq rows = true := by unfold twinB; rw [@decide_eq_false _ (Classical.propDecidable _) (fun hn => h (hn i hi))]; rfl
set_option maxRecDepth 100000 in
set_option maxHeartbeats 6400000 in
theorem alikeInI (uq : List Int) (ua : Option Addr) (uc : Nat) (U : Nat → Prop) (rows : List RowV) (ra : Option Addr) (rq : Nat) (B : Nat → Prop) (w : World) (hul : uq.length ≤ 1000) (hrl : rows.length ≤ 1000) (hU : Rd w U (dIntS uq) (.slice ua uq.length uc)) (hb : ∀ m (h : m < uq.length) k (hk : k < rows.length), 0 ≤ uq[m] ∧ uq[m] < (rows[k].cells.length : Int)) (ho : (dRowS rows).le maxLen) (hR : Rd w B (dRowS rows) (.slice ra rows.length rq)) :
    Calls Tryz.prog 96 #[.slice ua uq.length uc, .slice ra rows.length rq] w fun e w' => e = .returned (.bool (twinB uq rows)) ∧ Below w.heap.size w w' := by
  have HU : Hid (∀ W, Below w.heap.size w W → Rd W U (dIntS uq) (.slice ua uq.length uc)) := fun W h => Rd.later hU h
  have HR : Hid (∀ W, Below w.heap.size w W → Rd W B (dRowS rows) (.slice ra rows.length rq)) := fun W h => Rd.later hR h
  have HO := Lib.hid (And.intro hb (And.intro ho hul))
  clear hU hb ho hR hul
  go_enter Tryz.func96, Tryz.ntmps96
  go_wp2_with fail
  go_loopw [9] (fun t wr => ∃ i : Nat, i ≤ rows.length ∧ t = .int .i64 i ∧ Hid ((∀ n, n < rows.length → n < i → twoP uq rows n) ∧ Below w.heap.size w wr)) (fun t _ => rows.length - (intOf t).toNat)
  case atStart => exact ⟨0, Nat.zero_le _, rfl, fun n _ h => absurd h (by omega), Below.refl _ _⟩
  case round =>
    obtain ⟨i, hi, rfl, HW⟩ := hrel
    generalize wr = wo at *
    by_cases hlt : i < rows.length
    case neg =>
      have hmd : decide ((i : Int) < (rows.length : Int)) = false := by simp; omega
      have HE := Lib.hid (twin_no (uq := uq) (fun n h => HW.out.1 n h (by omega)))
      go_wp2_with fail
      go_ret
      exact ⟨ret_b HE.out.symm, HW.out.2⟩
    have hmi : (i : Int) < (rows.length : Int) := by omega
    obtain ⟨rb, ro, ia, iq, hra, hri⟩ := rowsAt (HR.out _ HW.out.2) hlt
    subst hra
    have HRI := Lib.hid hri
    clear hri
    go_wp2_with fail
    go_loopw [13] (fun t wr => ∃ k : Nat, k ≤ i ∧ t = .int .i64 k ∧ Hid ((∀ n (hn : n < i), n < k → alikeP uq (rows[n]'(by omega)) rows[i] = false) ∧ Below wo.heap.size wo wr)) (fun t _ => i - (intOf t).toNat)
    case atStart => exact ⟨0, Nat.zero_le _, rfl, fun n _ h => absurd h (by omega), Below.refl _ _⟩
    case round =>
      obtain ⟨k, hk, rfl, HV⟩ := hrel
      have HBO : Hid (Below w.heap.size w wr) := HW.out.2.trans (HV.out.2.mono HW.out.2.size)
      by_cases hkl : k < i
      case neg =>
        have hkd : decide ((k : Int) < (i : Int)) = false := by simp; omega
        have HN : Hid (∀ n, n < rows.length → n < i + 1 → twoP uq rows n) := fun n hn hni => by
          by_cases e : n = i
          · subst e; exact fun _ j hj => HV.out.1 j hj (by omega)
          · exact HW.out.1 n hn (by omega)
        go_wp2_with fail
        go_roundw
        case rel => exact ⟨i + 1, by omega, by go_num, HN.out, HBO.out⟩
        case measure => simp [intOf]; omega
      have hkk : (k : Int) < (i : Int) := by omega
      have hkr : k < rows.length := by omega
      have hkr1 : (k : Int) < (rows.length : Int) := by omega
      obtain ⟨rb2, ro2, ka, kq, e2, hrk⟩ := rowsAt (HR.out _ HBO.out) hkr
      simp only [Option.some.injEq, Addr.mk.injEq, and_true] at e2
      obtain ⟨rfl, rfl⟩ := e2
      have SA : Hid (∀ W, Below wr.heap.size wr W → Calls Tryz.prog 118 #[.slice ua uq.length uc, .pointer (some ⟨rb, ro + k * 2, none⟩), .pointer (some ⟨rb, ro + i * 2, none⟩)] W fun e w' => e = .returned (.bool (alikeP uq rows[k] rows[i])) ∧ Below W.heap.size W w') := fun W h =>
        have h2 := HV.out.2.trans (h.mono HV.out.2.size)
        have h3 := HBO.out.trans (h.mono HBO.out.size)
        sameInI uq ua uc U rows[k] rows[i] rb (ro + k * 2) rb (ro + i * 2) ka kq ia iq B W HO.out.2.2 (HU.out W h3) (fun m hm => ⟨(HO.out.1 m hm k hkr).1, (HO.out.1 m hm k hkr).2, (HO.out.1 m hm i hlt).2⟩) ((Ls_le.1 HO.out.2.1).2.2 k hkr 1 (by omega)) ((Ls_le.1 HO.out.2.1).2.2 i hlt 1 (by omega)) (hrk W h).2.1 (HRI.out W h2).2.1 (hrk W h).2.2 (HRI.out W h2).2.2
      have HYES : Hid (alikeP uq rows[k] rows[i] = true → twinB uq rows = true) := fun h => twin_yes hlt (fun hn => by have := hn hlt k hkl; rw [h] at this; cases this)
      have HNX : Hid (alikeP uq rows[k] rows[i] = false → ∀ n (hn : n < i), n < k + 1 → alikeP uq (rows[n]'(by omega)) rows[i] = false) := fun he n hn hnk => by
        by_cases e : n = k
        · subst e; exact he
        · exact HV.out.1 n hn (by omega)
      clear hrk
      go_wp2_with fail
      refine wp_region_held_drew (S := (fun _ => True)) (by kernel_rfl) ?_ (fun hHeld => ?_)
      · (first | trivial)
      refine wpAnyH_take (i := 0) (v := ?_) rfl (by kernel_rfl) (by kernel_rfl) (by kernel_rfl) (fun _ _ _ h => h) (Or.inl ⟨by kernel_rfl, ?_⟩) (by assumption) ?_
      rotate_left
      · (intro wS hSw; (try dsimp only at hSw); go_simp <;> with_reducible rfl)
      try simp only [Act.put, tkS]
      refine wpAnyH_take (i := 1) (v := ?_) rfl (by kernel_rfl) (by kernel_rfl) (by kernel_rfl) (fun _ _ _ h => h) (Or.inl ⟨by kernel_rfl, ?_⟩) (by assumption) ?_
      rotate_left
      · (intro wS hSw; (try dsimp only at hSw); go_simp <;> with_reducible rfl)
      try simp only [Act.put, tkS]
      refine wpAnyH_take (i := 2) (v := ?_) rfl (by kernel_rfl) (by kernel_rfl) (by kernel_rfl) (fun _ _ _ h => h) (Or.inl ⟨by kernel_rfl, ?_⟩) (by assumption) ?_
      rotate_left
      · (intro wS hSw; (try dsimp only at hSw); go_simp <;> with_reducible rfl)
      try simp only [Act.put, tkS]
      refine wpAnyH_take (i := 3) (v := ?_) rfl (by kernel_rfl) (by kernel_rfl) (by kernel_rfl) (fun _ _ _ h => h) (Or.inl ⟨by kernel_rfl, ?_⟩) (by assumption) ?_
      rotate_left
      · (intro wS hSw; (try dsimp only at hSw); go_simp <;> with_reducible rfl)
      try simp only [Act.put, tkS]
      refine wpAnyH_take (i := 4) (v := ?_) rfl (by kernel_rfl) (by kernel_rfl) (by kernel_rfl) (fun _ _ _ h => h) (Or.inl ⟨by kernel_rfl, ?_⟩) (by assumption) ?_
      rotate_left
      · (intro wS hSw; (try dsimp only at hSw); go_simp <;> with_reducible rfl)
      try simp only [Act.put, tkS]
      refine wpAnyH_take (i := 5) (v := ?_) rfl (by kernel_rfl) (by kernel_rfl) (by kernel_rfl) (fun _ _ _ h => h) (Or.inl ⟨by kernel_rfl, ?_⟩) (by assumption) ?_
      rotate_left
      · (intro wS hSw; (try dsimp only at hSw); go_simp <;> with_reducible rfl)
      try simp only [Act.put, tkS]
      refine wpAnyH_take (i := 6) (v := ?_) rfl (by kernel_rfl) (by kernel_rfl) (by kernel_rfl) (fun _ _ _ h => h) (Or.inl ⟨by kernel_rfl, ?_⟩) (by assumption) ?_
      rotate_left
      · (intro wS hSw; (try dsimp only at hSw); go_simp <;> with_reducible rfl)
      try simp only [Act.put, tkS]
      refine wpAnyH_ready (rs := [7]) (by kernel_rfl) (by simp) (AllReadyH.cons rfl (fun K hK => ?_) AllReadyH.nil)
      go_simp
      (go_at_call 118; refine (SA.out _ (Below.refl _ _).drew).mono ?_; rintro e w1 ⟨rfl, hB⟩; have BW : Hid (Below wr.heap.size wr w1) := (Below.refl _ _).drew.trans hB; clear hB)
      refine hK.out _ _ ?_ (fun hHeld => ?_)
      · (first | trivial)
      clear hK K
      try simp only [Act.put, tkS]
      refine wpAnyH_done (by kernel_rfl) ?_ _
      have HB1 := Lib.hid (HV.out.2.trans (BW.out.mono HV.out.2.size))
      have HB2 := Lib.hid (HBO.out.trans (BW.out.mono HBO.out.size))
      cases he : alikeP uq rows[k] rows[i]
      case true =>
        have HE := Lib.hid (HYES.out he)
        clear he HYES HNX SA
        go_wp2_with fail
        go_ret
        exact ⟨ret_b HE.out.symm, HB2.out⟩
      have HN := Lib.hid (HNX.out he)
      clear he HYES HNX SA
      go_wp2_with fail
      go_roundw
      case rel => exact ⟨k + 1, by omega, by go_num, HN.out, HB1.out⟩
      case measure => simp [intOf]; omega
end Go.Proofs.YtmebbinolkohjaaGreat
