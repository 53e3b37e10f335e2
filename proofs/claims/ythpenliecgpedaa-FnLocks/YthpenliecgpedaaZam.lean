import Derived.Test.YthpenliecgpedaaZal
import Derived.Test.YthpenliecgpedaaZTk
namespace Go.Proofs.Ythpenliecgpedaa
open Go.RowKit
set_option linter.unusedSimpArgs false
noncomputable def lkB (x : LkV) : Bool := nameB x.nm && (decide (1 ≤ x.qu.length) && onB x.qu)
theorem lkB_iff {x : LkV} : lkB x = true ↔ nameB x.nm = true ∧ QuP x.qu := by
  unfold lkB
  rw [Bool.and_eq_true, Bool.and_eq_true, decide_eq_true_eq]
  constructor
  · rintro ⟨h1, h2, h3⟩
    exact ⟨h1, on_que h2 (on_of h3)⟩
  · rintro ⟨h1, h2⟩
    exact ⟨h1, h2.len.1, on_yes (que_on h2)⟩
set_option maxHeartbeats 3200000 in
theorem lockOKi (x : LkV) (qa : Option Addr) (qc : Nat) (B : Nat → Prop) (w : World) (hn : x.nm.length ≤ maxLen) (hq : (dIntS x.qu).le maxLen) (hA : Rd w B (dIntS x.qu) (.slice qa x.qu.length qc)) :
    Calls Try.prog 35 #[.agg #[.string ⟨x.nm.toArray⟩, .slice qa x.qu.length qc]] w fun e w' => e = .returned (.bool (lkB x)) ∧ Below w.heap.size w w' := by
  have hx := boxD 54 w #[.string ⟨x.nm.toArray⟩, .slice qa x.qu.length qc]
  have x0 := cell_at (o := 0) hx.1 rfl
  have x1 := cell_at (o := 1) hx.1 rfl
  have HN := Lib.hid hn
  have HB := Lib.hid hx.2
  have CN : Hid (∀ W, Calls Try.prog 45 #[.string ⟨x.nm.toArray⟩] W fun e w' => e = .returned (.bool (nameB x.nm)) ∧ w' = W) := fun W => nameI x.nm W HN.out
  have CO : Hid (Calls Try.prog 64 #[.slice qa x.qu.length qc] (w.alloc (.cells #[.string ⟨x.nm.toArray⟩, .slice qa x.qu.length qc] 54)) fun e w' => e = .returned (.bool (onB x.qu)) ∧ Below (w.alloc (.cells #[.string ⟨x.nm.toArray⟩, .slice qa x.qu.length qc] 54)).heap.size (w.alloc (.cells #[.string ⟨x.nm.toArray⟩, .slice qa x.qu.length qc] 54)) w') := onceI x.qu qa qc B _ (Ls_le.1 hq).2.1 (hA.later hx.2)
  have HL : Hid (lkB x = (nameB x.nm && (decide (1 ≤ x.qu.length) && onB x.qu))) := rfl
  have hql : x.qu.length ≤ maxLen := (Ls_le.1 hq).2.1
  unfold maxLen at hql
  clear hn hq hA hx
  cases hnm : nameB x.nm
  case false =>
    have HR : Hid (lkB x = false) := by show lkB x = false; rw [HL.out, hnm]; rfl
    go_enter Try.func35, Try.ntmps35
    go_wp2_with (go_at_call 45; refine (CN.out _).mono ?_; rintro e w1 ⟨rfl, rfl⟩; rw [hnm])
    go_ret
    exact ⟨ret_b HR.out.symm, HB.out⟩
  by_cases hl : 0 < x.qu.length
  case neg =>
    have HR : Hid (lkB x = false) := by show lkB x = false; rw [HL.out, decide_eq_false (p := 1 ≤ x.qu.length) (by omega)]; simp
    have hd : decide (0 < x.qu.length) = false := decide_eq_false hl
    have hd2 : decide (0 < (x.qu.length : Int)) = false := decide_eq_false (by omega)
    go_enter Try.func35, Try.ntmps35
    go_wp2_with (go_at_call 45; refine (CN.out _).mono ?_; rintro e w1 ⟨rfl, rfl⟩; rw [hnm])
    go_ret
    exact ⟨ret_b HR.out.symm, HB.out⟩
  have hd : decide (0 < x.qu.length) = true := decide_eq_true hl
  have hd2 : decide (0 < (x.qu.length : Int)) = true := decide_eq_true (by omega)
  have HR : Hid (lkB x = onB x.qu) := by show lkB x = _; rw [HL.out, hnm, decide_eq_true (p := 1 ≤ x.qu.length) (by omega)]; simp
  go_enter Try.func35, Try.ntmps35
  go_wp2_with (first | (go_at_call 45; refine (CN.out _).mono ?_; rintro e w1 ⟨rfl, rfl⟩; rw [hnm]) | (go_at_call 64; refine CO.out.mono ?_; rintro e w1 ⟨rfl, hB⟩; rw [← HR.out]))
  go_ret
  exact ⟨rfl, HB.out.trans (hB.mono HB.out.size)⟩
structure FewL (l : List LkV) : Prop where
  len : l.length ≤ 6
  all : ∀ k (h : k < l.length), lkB l[k] = true
noncomputable def fewLB (l : List LkV) : Bool := @decide (FewL l) (Classical.propDecidable _)
theorem fewL_yes {l : List LkV} (h : FewL l) : fewLB l = true := @decide_eq_true _ (Classical.propDecidable _) h
theorem fewL_no {l : List LkV} (h : ¬ FewL l) : fewLB l = false := @decide_eq_false _ (Classical.propDecidable _) h
theorem fewL_of {l : List LkV} (h : fewLB l = true) : FewL l := @of_decide_eq_true _ (Classical.propDecidable _) h
set_option maxRecDepth 100000 in
set_option maxHeartbeats 3200000 in
theorem fewLk (list : List LkV) (a : Option Addr) (c : Nat) (B : Nat → Prop) (w : World) (ho : (dLockS list).le maxLen) (hL : Rd w B (dLockS list) (.slice a list.length c)) :
    Calls Try.prog 34 #[.slice a list.length c, .int .i64 6, .func (.func 35) #[] #[]] w fun e w' => e = .returned (.bool (fewLB list)) ∧ Below w.heap.size w w' := by
  have HL : Hid (∀ W, Below w.heap.size w W → Rd W B (dLockS list) (.slice a list.length c)) := fun W h => Rd.later hL h
  have HO := Lib.hid ho
  have hll : list.length ≤ maxLen := (Ls_le.1 ho).2.1
  unfold maxLen at hll
  clear ho hL
  by_cases h8 : 6 < list.length
  case pos =>
    have HR : Hid (fewLB list = false) := fewL_no (fun h => by have := h.len; omega)
    have hd : decide (6 < (list.length : Int)) = true := decide_eq_true (by omega)
    clear h8
    go_enter Try.func34, Try.ntmps34
    go_wp2_with fail
    go_ret
    exact ⟨ret_b HR.out.symm, Below.refl _ _⟩
  have hd : decide (6 < (list.length : Int)) = false := decide_eq_false (by omega)
  have H8 := Lib.hid h8
  clear h8
  go_enter Try.func34, Try.ntmps34
  go_wp2_with fail
  go_loopw [14] (fun i wr => ∃ k : Nat, k ≤ list.length ∧ i = .int .i64 k ∧ Hid ((∀ m (h : m < list.length), m < k → lkB list[m] = true) ∧ Below w.heap.size w wr)) (fun i _ => list.length - (intOf i).toNat)
  case atStart => exact ⟨0, Nat.zero_le _, rfl, fun m _ h => absurd h (by omega), Below.refl _ _⟩
  case round =>
    obtain ⟨k, hk, rfl, HW⟩ := hrel
    by_cases hlt : k < list.length
    case neg =>
      have hki : decide ((k : Int) < (list.length : Int)) = false := by simp; omega
      have HR : Hid (fewLB list = true) := fewL_yes ⟨by have := H8.out; omega, fun m h => HW.out.1 m h (by omega)⟩
      go_wp2_with fail
      go_ret
      exact ⟨ret_b HR.out.symm, HW.out.2⟩
    have hki : (k : Int) < (list.length : Int) := by omega
    obtain ⟨b, off, qa, qc, rfl, -, hq, hc⟩ := lockAt (HL.out _ HW.out.2) hlt
    obtain ⟨c0, c1⟩ := hc _ (Below.refl _ _)
    have CO := Lib.hid (lockOKi list[k] qa qc B wr (le_lock HO.out hlt).1 (le_lock HO.out hlt).2 hq)
    have HNO : Hid (lkB list[k] = false → fewLB list = false) := fun h => fewL_no (fun hf => by have := hf.all k hlt; rw [h] at this; cases this)
    have HNX : Hid (lkB list[k] = true → ∀ m (h : m < list.length), m < k + 1 → lkB list[m] = true) := fun he m h hm => by
      by_cases e : m = k
      · subst e; exact he
      · exact HW.out.1 m h (by omega)
    clear hq hc
    generalize list[k] = x at *
    go_wp2_with fail
    refine CO.out.mono ?_
    rintro e w1 ⟨rfl, hB1⟩
    have HB1 := Lib.hid (HW.out.2.trans (hB1.mono HW.out.2.size))
    clear hB1 c0 c1
    cases he : lkB x
    case false =>
      have HR := Lib.hid (HNO.out he)
      clear HNO HNX he CO
      go_wp2_with fail
      go_ret
      exact ⟨ret_b HR.out.symm, HB1.out⟩
    have HN := Lib.hid (HNX.out he)
    clear HNO HNX he CO
    go_wp2_with fail
    go_roundw
    case rel => exact ⟨k + 1, by omega, by go_num, HN.out, HB1.out⟩
    case measure => simp [intOf]; omega
def cmpL (x y : List UInt8) : Int := if x = y then 0 else if Op.bytesLess x y then -1 else 1
theorem cmpL_lt {x y : List UInt8} : cmpL x y < 0 ↔ Op.bytesLess x y = true := by
  unfold cmpL
  by_cases h : x = y
  · subst h; rw [if_pos rfl, bl_self]; simp
  · rw [if_neg h]
    cases hb : Op.bytesLess x y <;> simp
set_option maxHeartbeats 1600000 in
theorem cmpLocksI (x y : List UInt8) (a a' : Option Addr) (n c n' c' : Nat) (w : World) :
    Calls Try.prog 37 #[.agg #[.string ⟨x.toArray⟩, .slice a n c], .agg #[.string ⟨y.toArray⟩, .slice a' n' c']] w fun e w' => e = .returned (.int .i64 (cmpL x y)) ∧ Below w.heap.size w w' := by
  have hb := box2D 54 w #[.string ⟨x.toArray⟩, .slice a n c] #[.string ⟨y.toArray⟩, .slice a' n' c']
  have x0 := cell_at (o := 0) hb.a rfl
  have x1 := cell_at (o := 1) hb.a rfl
  have y0 := cell_at (o := 0) hb.b rfl
  have y1 := cell_at (o := 1) hb.b rfl
  have HC : Hid (cmpL x y = (if x = y then 0 else if Op.bytesLess x y then -1 else 1)) := rfl
  generalize cmpL x y = r at *
  go_enter Try.func37, Try.ntmps37
  go_wp2_with (go_at_call 65; refine (cmpStr _ _ _).mono ?_; rintro e w' ⟨rfl, rfl⟩; rw [← HC.out])
  go_ret
  exact ⟨rfl, hb.bel⟩
def UpL (l : List LkV) : Prop := ∀ i (h : i + 1 < l.length), Op.bytesLess l[i].nm l[i + 1].nm = true
noncomputable def upLB (l : List LkV) : Bool := @decide (UpL l) (Classical.propDecidable _)
theorem upL_yes {l : List LkV} (h : UpL l) : upLB l = true := @decide_eq_true _ (Classical.propDecidable _) h
theorem upL_no {l : List LkV} (h : ¬ UpL l) : upLB l = false := @decide_eq_false _ (Classical.propDecidable _) h
theorem upL_of {l : List LkV} (h : upLB l = true) : UpL l := @of_decide_eq_true _ (Classical.propDecidable _) h
set_option maxRecDepth 100000 in
set_option maxHeartbeats 3200000 in
theorem risesLk (l : List LkV) (a : Option Addr) (c : Nat) (B : Nat → Prop) (w : World) (hl : l.length ≤ maxLen) (hS : Rd w B (dLockS l) (.slice a l.length c)) :
    Calls Try.prog 36 #[.slice a l.length c, .func (.func 37) #[] #[]] w fun e w' => e = .returned (.bool (upLB l)) ∧ Below w.heap.size w w' := by
  unfold maxLen at hl
  have RA : Hid (∀ W, Below w.heap.size w W → Rd W B (dLockS l) (.slice a l.length c)) := fun W h => Rd.later hS h
  clear hS
  go_enter Try.func36, Try.ntmps36
  go_wp2_with fail
  go_loopw [5] (fun i wr => ∃ k : Nat, 1 ≤ k ∧ k ≤ maxLen + 1 ∧ i = .int .i64 k ∧ Hid ((∀ m (h : m + 1 < l.length), m + 1 < k → Op.bytesLess l[m].nm l[m + 1].nm = true) ∧ Below w.heap.size w wr)) (fun i _ => l.length - (intOf i).toNat)
  case atStart => exact ⟨1, by omega, by unfold maxLen; omega, rfl, fun m _ h => absurd h (by omega), Below.refl _ _⟩
  case round =>
    obtain ⟨k, hk1, hk, rfl, HW⟩ := hrel
    by_cases hkl : k < l.length
    case neg =>
      have HR : Hid (upLB l = true) := upL_yes (fun m h => HW.out.1 m h (by omega))
      have hmi : decide ((k : Int) < (l.length : Int)) = false := by simp; omega
      go_wp2_with fail
      go_ret
      exact ⟨ret_b HR.out.symm, HW.out.2⟩
    obtain ⟨m, hm⟩ : ∃ m, k = m + 1 := ⟨k - 1, by omega⟩
    have hk2 : (k : Int) < (l.length : Int) := by omega
    have hml : m < l.length := by omega
    have hm1 : (m : Int) < (l.length : Int) := by omega
    have hkm : (k : Int) - 1 = (m : Int) := by omega
    have hwm : IntKind.i64.wrap (m : Int) = (m : Int) := by rw [IntKind.wrap_i64]; omega
    have hm2 : (0 : Int) ≤ (m : Int) := by omega
    obtain ⟨b, off, ya, yq, rfl, -, -, hcy⟩ := lockAt (RA.out _ HW.out.2) hml
    obtain ⟨b', off', za, zq, e', -, -, hcz⟩ := lockAt (RA.out _ HW.out.2) hkl
    simp only [Option.some.injEq, Addr.mk.injEq, and_true] at e'
    obtain ⟨rfl, rfl⟩ := e'
    have CE : Hid (∀ W, Below wr.heap.size wr W → W.cell? ⟨b, off + m * 2, none⟩ = some (.string ⟨l[m].nm.toArray⟩) ∧ W.cell? ⟨b, off + m * 2 + 1, none⟩ = some (.slice ya l[m].qu.length yq) ∧ W.cell? ⟨b, off + k * 2, none⟩ = some (.string ⟨l[k].nm.toArray⟩) ∧ W.cell? ⟨b, off + k * 2 + 1, none⟩ = some (.slice za l[k].qu.length zq)) := fun W h => ⟨(hcy W h).1, (hcy W h).2, (hcz W h).1, (hcz W h).2⟩
    have CC : Hid (∀ W, Calls Try.prog 37 #[.agg #[.string ⟨l[m].nm.toArray⟩, .slice ya l[m].qu.length yq], .agg #[.string ⟨l[k].nm.toArray⟩, .slice za l[k].qu.length zq]] W fun e w' => e = .returned (.int .i64 (cmpL l[m].nm l[k].nm)) ∧ Below W.heap.size W w') := fun W => cmpLocksI _ _ _ _ _ _ _ _ W
    have hx := Below.refl wr.heap.size wr
    have HB1 := Lib.hid HW.out.2
    have HST : Hid (Op.bytesLess l[m].nm l[k].nm = true → ∀ q (h : q + 1 < l.length), q + 1 < k + 1 → Op.bytesLess l[q].nm l[q + 1].nm = true) := fun hr q h hq => by
      by_cases e : q = m
      · subst e; subst hm; exact hr
      · exact HW.out.1 q h (by omega)
    have HNO : Hid (Op.bytesLess l[m].nm l[k].nm = false → upLB l = false) := fun hr => upL_no (fun h => by have h1 := h m (by omega); subst hm; rw [hr] at h1; cases h1)
    have HCL : Hid (cmpL l[m].nm l[k].nm < 0 ↔ Op.bytesLess l[m].nm l[k].nm = true) := cmpL_lt
    clear hm HW hcy hcz
    generalize l[m] = y at *
    generalize l[k] = z at *
    cases hr : Op.bytesLess y.nm z.nm
    case true =>
      have hlt := HCL.out.2 hr
      have HG := Lib.hid (HST.out hr)
      clear HST HNO HCL hr
      generalize cmpL y.nm z.nm = q at *
      have hd : decide (q ≥ 0) = false := by simp; omega
      have hd2 : decide (0 ≤ q) = false := by simp; omega
      clear hlt
      go_wp2_with fail
      refine wp_region_held_drew (S := (fun W => W.cell? ⟨b, off + m * 2, none⟩ = some (.string ⟨y.nm.toArray⟩) ∧ W.cell? ⟨b, off + m * 2 + 1, none⟩ = some (.slice ya y.qu.length yq) ∧ W.cell? ⟨b, off + k * 2, none⟩ = some (.string ⟨z.nm.toArray⟩) ∧ W.cell? ⟨b, off + k * 2 + 1, none⟩ = some (.slice za z.qu.length zq))) (by kernel_rfl) ?_ (fun hHeld => ?_)
      · (first | exact CE.out _ hx | exact CE.out _ hx.drew)
      refine tkB (i := 0) ?_
      refine tkB (i := 1) ?_
      refine tkB (i := 2) ?_
      refine tkB (i := 3) ?_
      refine tkB (i := 4) ?_
      refine tkB (i := 5) ?_
      refine tkB (i := 6) ?_
      refine tkB (i := 7) ?_
      refine tkB (i := 8) ?_
      refine tkB (i := 9) ?_
      refine tkR (i := 10) (fun K hK => ?_)
      go_simp
      (go_at_call 37; refine (CC.out _).mono ?_; rintro e w1 ⟨rfl, hB⟩; have hx := (by first | exact hx.trans (hB.mono hx.size) | exact hx.drew.trans (hB.mono hx.drew.size) : Below wr.heap.size wr w1); clear hB)
      refine hK.out _ _ ?_ (fun hHeld => ?_)
      · (first | exact CE.out _ hx | exact CE.out _ hx.drew)
      clear hK K
      try simp only [Act.put, tkS]
      refine tkB (i := 11) ?_
      refine wpAnyH_done (by kernel_rfl) ?_ _
      go_wp2_with fail
      go_roundw
      case rel => exact ⟨k + 1, by omega, by unfold maxLen; omega, by go_num, HG.out, HB1.out.trans (hx.mono HB1.out.size)⟩
      case measure => simp [intOf]; omega
    case false =>
      have hlt : ¬ cmpL y.nm z.nm < 0 := fun h => by rw [HCL.out.1 h] at hr; cases hr
      have HR := Lib.hid (HNO.out hr)
      clear HST HNO HCL hr
      generalize cmpL y.nm z.nm = q at *
      have hd : decide (q ≥ 0) = true := by simp; omega
      have hd2 : decide (0 ≤ q) = true := by simp; omega
      clear hlt
      go_wp2_with fail
      refine wp_region_held_drew (S := (fun W => W.cell? ⟨b, off + m * 2, none⟩ = some (.string ⟨y.nm.toArray⟩) ∧ W.cell? ⟨b, off + m * 2 + 1, none⟩ = some (.slice ya y.qu.length yq) ∧ W.cell? ⟨b, off + k * 2, none⟩ = some (.string ⟨z.nm.toArray⟩) ∧ W.cell? ⟨b, off + k * 2 + 1, none⟩ = some (.slice za z.qu.length zq))) (by kernel_rfl) ?_ (fun hHeld => ?_)
      · (first | exact CE.out _ hx | exact CE.out _ hx.drew)
      refine tkB (i := 0) ?_
      refine tkB (i := 1) ?_
      refine tkB (i := 2) ?_
      refine tkB (i := 3) ?_
      refine tkB (i := 4) ?_
      refine tkB (i := 5) ?_
      refine tkB (i := 6) ?_
      refine tkB (i := 7) ?_
      refine tkB (i := 8) ?_
      refine tkB (i := 9) ?_
      refine tkR (i := 10) (fun K hK => ?_)
      go_simp
      (go_at_call 37; refine (CC.out _).mono ?_; rintro e w1 ⟨rfl, hB⟩; have hx := (by first | exact hx.trans (hB.mono hx.size) | exact hx.drew.trans (hB.mono hx.drew.size) : Below wr.heap.size wr w1); clear hB)
      refine hK.out _ _ ?_ (fun hHeld => ?_)
      · (first | exact CE.out _ hx | exact CE.out _ hx.drew)
      clear hK K
      try simp only [Act.put, tkS]
      refine tkB (i := 11) ?_
      refine wpAnyH_done (by kernel_rfl) ?_ _
      go_wp2_with fail
      go_ret
      exact ⟨ret_b HR.out.symm, HB1.out.trans (hx.mono HB1.out.size)⟩
set_option maxHeartbeats 3200000 in
theorem locksI (l : List LkV) (a : Option Addr) (c : Nat) (B : Nat → Prop) (w : World) (ho : (dLockS l).le maxLen) (hS : Rd w B (dLockS l) (.slice a l.length c)) :
    Calls Try.prog 16 #[.slice a l.length c] w fun e w' => e = .returned (.bool (lksB l)) ∧ Below w.heap.size w w' := by
  have CF := Lib.hid (fewLk l a c B w ho hS)
  have CR : Hid (∀ W, Below w.heap.size w W → Calls Try.prog 36 #[.slice a l.length c, .func (.func 37) #[] #[]] W fun e w' => e = .returned (.bool (upLB l)) ∧ Below W.heap.size W w') := fun W h => risesLk l a c B W (Ls_le.1 ho).2.1 (Rd.later hS h)
  clear ho hS
  cases hf : fewLB l
  case false =>
    have HR : Hid (lksB l = false) := lks_no (fun h => by
      rw [fewL_yes ⟨h.len, fun k hk => lkB_iff.2 ⟨h.nam k hk, h.que k hk⟩⟩] at hf; cases hf)
    go_enter Try.func16, Try.ntmps16
    go_wp2_with (go_at_call 34; refine CF.out.mono ?_; rintro e w1 ⟨rfl, hB⟩; rw [hf])
    go_ret
    exact ⟨ret_b HR.out.symm, hB⟩
  have HF := Lib.hid (fewL_of hf)
  have HR : Hid (lksB l = upLB l) := by
    show lksB l = upLB l
    cases hu : upLB l
    · exact lks_no (fun h => by rw [upL_yes h.up] at hu; cases hu)
    · exact lks_yes ⟨HF.out.len, fun k hk => (lkB_iff.1 (HF.out.all k hk)).1, fun k hk => (lkB_iff.1 (HF.out.all k hk)).2, upL_of hu⟩
  go_enter Try.func16, Try.ntmps16
  go_wp2_with (first | (go_at_call 34; refine CF.out.mono ?_; rintro e w1 ⟨rfl, hB⟩; rw [hf]) | (go_at_call 36; refine (CR.out _ hB).mono ?_; rintro e w2 ⟨rfl, hB2⟩; rw [← HR.out]))
  go_ret
  exact ⟨rfl, hB.trans (hB2.mono hB.size)⟩
end Go.Proofs.Ythpenliecgpedaa
