import Derived.Test.YthpenliecgpedaaYbx
import Derived.Test.YthpenliecgpedaaYby
namespace Go.Proofs.Ythpenliecgpedaa
open Go.RowKit Go.MuLone
set_option linter.unusedSimpArgs false
def ownSum (l : List LkV) : Nat → Nat
  | 0 => 0
  | k + 1 => ownSum l k + (ownN l (k : Int)).length
theorem ownSum_three {l : List LkV} (h : ∀ x ∈ l, QuP x.qu) : ownSum l 3 = l.length := by
  have h1 := own_sum h
  show 0 + (ownN l ((0 : Nat) : Int)).length + (ownN l ((1 : Nat) : Int)).length + (ownN l ((2 : Nat) : Int)).length = _
  simpa using h1
theorem ownSum_le (l : List LkV) : ∀ k, ownSum l k ≤ k * l.length
  | 0 => by simp [ownSum]
  | k + 1 => by
    have h1 := ownSum_le l k
    have h2 := ownN_len l (k : Int)
    rw [ownSum, Nat.succ_mul]; omega
set_option maxRecDepth 100000 in
set_option maxHeartbeats 25600000 in
theorem lawFnOneOwner (l1 l2 : List UInt8) (pa pb : Option Addr) (ca cb : Nat) (w : World) (h1 : Byts w (· < w.heap.size) pa l1) (h2 : Byts w (· < w.heap.size) pb l2) :
    Calls Try.prog 4 #[.slice pa l1.length ca, .slice pb l2.length cb] w fun e w' => e = .returned (.bool true) ∧ Below w.heap.size w w' := by
  by_cases g1 : 1048576 < l1.length
  case pos =>
    have d1a : decide (1048576 < (l1.length : Int)) = true := decide_eq_true (by omega)
    have d1b : decide (1048576 < l1.length) = true := decide_eq_true g1
    go_enter Try.func4, Try.ntmps4
    go_wp2_with fail
    go_ret
    exact ⟨rfl, Below.refl _ _⟩
  have d1a : decide (1048576 < (l1.length : Int)) = false := decide_eq_false (by omega)
  have d1b : decide (1048576 < l1.length) = false := decide_eq_false g1
  by_cases g2 : 1048576 < l2.length
  case pos =>
    have d2a : decide (1048576 < (l2.length : Int)) = true := decide_eq_true (by omega)
    have d2b : decide (1048576 < l2.length) = true := decide_eq_true g2
    go_enter Try.func4, Try.ntmps4
    go_wp2_with fail
    go_ret
    exact ⟨rfl, Below.refl _ _⟩
  have d2a : decide (1048576 < (l2.length : Int)) = false := decide_eq_false (by omega)
  have d2b : decide (1048576 < l2.length) = false := decide_eq_false g2
  have DA : Hid (∀ W, Below w.heap.size w W → Calls Try.prog 5 #[.slice pa l1.length ca] W (LocksV W)) := fun W h => locksOfS l1 pa ca W (h1.upP h)
  have DC : Hid (∀ W, Below w.heap.size w W → Calls Try.prog 7 #[.slice pb l2.length cb, .int .i64 0, .int .i64 3] W fun e w' => ∃ k : Nat, e = .returned (.int .i64 (k : Int)) ∧ k < 3 ∧ Below W.heap.size W w') := fun W h => atS l2 pb cb 3 _ W (h2.upP h) (by omega) (by omega) (by omega)
  clear h1 h2 g1 g2
  go_enter Try.func4, Try.ntmps4
  have M0 : Hid (Below w.heap.size w w) := Below.refl _ _
  go_wp2_with fail
  refine (DA.out _ (M0.out)).mono ?_
  rintro e w1 ⟨L, la, lc, rfl, hL, hr, hB⟩
  have M1 : Hid (Below w.heap.size w w1 ∧ Rd w1 (· < w1.heap.size) (dLockS L) (.slice la L.length lc)) := ⟨M0.out.trans (hB.mono M0.out.size), hr⟩
  clear  M0 hB hr DA
  have HP := Lib.hid hL.ok
  have HS : Hid (ownSum L 3 = L.length) := ownSum_three (fun x hx => by obtain ⟨k, hk, rfl⟩ := List.getElem_of_mem hx; exact HP.out.que k hk)
  have HL3 : Hid (L.length ≤ 3) := hL.len
  have OB : Hid (∀ n : Nat, n < 3 → ∀ W (a : Option Addr) (c : Nat), Rd W (· < W.heap.size) (dLockS L) (.slice a L.length c) → Calls Try.prog 17 #[.slice a L.length c, .int .i64 (n : Int)] W (ObA (ownN L (n : Int)) W)) := fun n hn W a c h => obI HP.out (ses_nat hn) h
  clear hL
  go_wp2_with fail
  go_loopw [6, 7] (fun nv iv wr => ∃ (k : Nat), k ≤ 3 ∧ iv = .int .i64 (k : Int) ∧ nv = .int .i64 ((ownSum L k : Nat) : Int) ∧ Hid (Below w.heap.size w wr ∧ Rd wr (· < wr.heap.size) (dLockS L) (.slice la L.length lc))) (fun _ iv _ => 3 - (intOf iv).toNat)
  case atStart => exact ⟨0, by omega, rfl, rfl, M1.out⟩
  case round =>
    obtain ⟨k, hk, rfl, rfl, HR⟩ := hrel
    by_cases hlt : k < 3
    case pos =>
      have hki : (k : Int) < 3 := by omega
      have f1 : IntKind.i64.wrap ((k : Int) + 1) = ((k + 1 : Nat) : Int) := by rw [IntKind.wrap_i64]; omega
      have CO := Lib.hid (OB.out k hlt _ _ _ HR.out.2)
      have hsm : ownSum L (k + 1) = ownSum L k + (ownN L (k : Int)).length := rfl
      have hsl := ownSum_le L (k + 1)
      have h33 : (k + 1) * L.length ≤ 9 := Nat.le_trans (Nat.mul_le_mul (by omega : k + 1 ≤ 3) HL3.out) (by omega)
      obtain ⟨s2, hs2⟩ : ∃ s2, s2 = ownSum L (k + 1) := ⟨_, rfl⟩
      rw [← hs2] at hsm hsl
      have HSE := Lib.hid hs2
      clear hs2
      generalize ownSum L k = s1 at *
      generalize ownN L (k : Int) = R at *
      have f2 : IntKind.i64.wrap ((s1 : Int) + (R.length : Int)) = (s2 : Int) := by rw [IntKind.wrap_i64]; omega
      have HS2 : Hid (s2 = s1 + R.length) := hsm
      clear hsm hsl h33
      go_wp2_with fail
      refine CO.out.mono ?_
      rintro e w2 ⟨ra, rc, rfl, -, hB⟩
      have HR2 : Hid (Below w.heap.size w w2 ∧ Rd w2 (· < w2.heap.size) (dLockS L) (.slice la L.length lc)) := ⟨HR.out.1.trans (hB.mono HR.out.1.size), HR.out.2.up hB⟩
      clear hB CO HR
      go_wp2_with fail
      go_roundw
      case rel => exact ⟨k + 1, by omega, by go_num, by rw [← HSE.out], HR2⟩
      case measure => simp [intOf]; omega
    have hkd : decide ((k : Int) < 3) = false := by simp; omega
    obtain rfl : k = 3 := by omega
    rw [HS.out]
    have M2 := HR
    clear M1 HR hk
    go_wp2_with fail
    refine (DC.out _ (M2.out.1)).mono ?_
    rintro e w3 ⟨i, rfl, hi, hB⟩
    have M3 : Hid (Below w.heap.size w w3 ∧ Rd w3 (· < w3.heap.size) (dLockS L) (.slice la L.length lc)) := ⟨M2.out.1.trans (hB.mono M2.out.1.size), M2.out.2.up hB⟩
    clear  M2 hB DC hkd
    have hn := ses_nat hi
    have LI : Hid (∀ W (a : Option Addr) (c : Nat), Rd W (· < W.heap.size) (dLockS L) (.slice a L.length c) → Calls Try.prog 18 #[.slice a L.length c, .int .i64 (i : Int)] W (LvA (laK L (i : Int) L.length).1 (laK L (i : Int) L.length).2 0 W)) := fun W a c h => laI HP.out hn h
    have LS : Hid (∀ W (a : Option Addr) (c : Nat), Rd W (· < W.heap.size) (dLockS L) (.slice a L.length c) → Calls Try.prog 19 #[.slice a L.length c, .int .i64 (i : Int)] W (LvA (laK L (i : Int) L.length).1 (laK L (i : Int) L.length).2 0 W)) := fun W a c h => laS HP.out hn h
    obtain ⟨hpx, hxt⟩ := laK_ok HP.out (i : Int) L.length (Nat.le_refl _)
    have hno := all_none HP.out (n := (i : Int)) hn
    generalize (laK L (i : Int) L.length).2 = T at *
    generalize (laK L (i : Int) L.length).1 = X at *
    have PX := Lib.hid hpx
    have OX : Hid (∀ W (a : Option Addr) (c : Nat), Rd W (· < W.heap.size) (dLockS X) (.slice a X.length c) → Calls Try.prog 17 #[.slice a X.length c, .int .i64 (i : Int)] W (ObA [] W)) := fun W a c h => by have h9 := obI PX.out hn h; rw [hno] at h9; exact h9
    have CX : Hid (∀ W (a a' : Option Addr) (c c' : Nat), Rd W (· < W.heap.size) (dLockS X) (.slice a X.length c) → Rd W (· < W.heap.size) (dLockS X) (.slice a' X.length c') → Calls Try.prog 14 #[.slice a X.length c, .slice a' X.length c'] W fun e w' => e = .returned (.bool true) ∧ Below W.heap.size W w') := fun W a a' c c' h h' => sameLocksL X a a' c c' _ _ W PX.out.qle.1 PX.out.qle.2 h h'
    have CT : Hid (∀ W (a a' : Option Addr) (c c' : Nat), Rd W (· < W.heap.size) (dToldS T) (.slice a T.length c) → Rd W (· < W.heap.size) (dToldS T) (.slice a' T.length c') → Calls Try.prog 15 #[.slice a T.length c, .slice a' T.length c'] W fun e w' => e = .returned (.bool true) ∧ Below W.heap.size W w') := fun W a a' c c' h h' => sameToldL T a a' c c' _ _ W (by have := HL3.out; omega) h h'
    have KX : Hid (∀ W (a : Option Addr) (c : Nat), Rd W (· < W.heap.size) (dLockS X) (.slice a X.length c) → Calls Try.prog 16 #[.slice a X.length c] W fun e w' => e = .returned (.bool true) ∧ Below W.heap.size W w') := fun W a c h => lokI PX.out h
    clear hpx hno hn hi
    go_wp2_with fail
    refine (LI.out _ _ _ (M3.out.2)).mono ?_
    rintro e w4 ⟨xia, xic, xit, xid, rfl, hr, hr2, hB⟩
    have M4 : Hid (Below w.heap.size w w4 ∧ Rd w4 (· < w4.heap.size) (dLockS L) (.slice la L.length lc) ∧ Rd w4 (· < w4.heap.size) (dLockS X) (.slice xia X.length xic) ∧ Rd w4 (· < w4.heap.size) (dToldS T) (.slice xit T.length xid)) := ⟨M3.out.1.trans (hB.mono M3.out.1.size), M3.out.2.up hB, hr, hr2⟩
    clear  M3 hB hr hr2 LI
    go_wp2_with fail
    refine (LS.out _ _ _ (M4.out.2.1)).mono ?_
    rintro e w5 ⟨xsa, xsc, xst, xsd, rfl, hr, hr2, hB⟩
    have M5 : Hid (Below w.heap.size w w5 ∧ Rd w5 (· < w5.heap.size) (dLockS L) (.slice la L.length lc) ∧ Rd w5 (· < w5.heap.size) (dLockS X) (.slice xia X.length xic) ∧ Rd w5 (· < w5.heap.size) (dToldS T) (.slice xit T.length xid) ∧ Rd w5 (· < w5.heap.size) (dLockS X) (.slice xsa X.length xsc) ∧ Rd w5 (· < w5.heap.size) (dToldS T) (.slice xst T.length xsd)) := ⟨M4.out.1.trans (hB.mono M4.out.1.size), M4.out.2.1.up hB, M4.out.2.2.1.up hB, M4.out.2.2.2.up hB, hr, hr2⟩
    clear  M4 hB hr hr2 LS
    go_wp2_with fail
    refine (OX.out _ _ _ (M5.out.2.2.1)).mono ?_
    rintro e w6 ⟨ma, mc, rfl, -, hB⟩
    have M6 : Hid (Below w.heap.size w w6 ∧ Rd w6 (· < w6.heap.size) (dLockS L) (.slice la L.length lc) ∧ Rd w6 (· < w6.heap.size) (dLockS X) (.slice xia X.length xic) ∧ Rd w6 (· < w6.heap.size) (dToldS T) (.slice xit T.length xid) ∧ Rd w6 (· < w6.heap.size) (dLockS X) (.slice xsa X.length xsc) ∧ Rd w6 (· < w6.heap.size) (dToldS T) (.slice xst T.length xsd)) := ⟨M5.out.1.trans (hB.mono M5.out.1.size), M5.out.2.1.up hB, M5.out.2.2.1.up hB, M5.out.2.2.2.1.up hB, M5.out.2.2.2.2.1.up hB, M5.out.2.2.2.2.2.up hB⟩
    clear  M5 hB OX
    have n1 : ((L.length : Int) == (L.length : Int)) = true := by simp
    go_wp2_with fail
    refine (CX.out _ _ _ _ _ (M6.out.2.2.1) (M6.out.2.2.2.2.1)).mono ?_
    rintro e w7 ⟨rfl, hB⟩
    have M7 : Hid (Below w.heap.size w w7 ∧ Rd w7 (· < w7.heap.size) (dLockS L) (.slice la L.length lc) ∧ Rd w7 (· < w7.heap.size) (dLockS X) (.slice xia X.length xic) ∧ Rd w7 (· < w7.heap.size) (dToldS T) (.slice xit T.length xid) ∧ Rd w7 (· < w7.heap.size) (dLockS X) (.slice xsa X.length xsc) ∧ Rd w7 (· < w7.heap.size) (dToldS T) (.slice xst T.length xsd)) := ⟨M6.out.1.trans (hB.mono M6.out.1.size), M6.out.2.1.up hB, M6.out.2.2.1.up hB, M6.out.2.2.2.1.up hB, M6.out.2.2.2.2.1.up hB, M6.out.2.2.2.2.2.up hB⟩
    clear  M6 hB CX
    go_wp2_with fail
    refine (CT.out _ _ _ _ _ (M7.out.2.2.2.1) (M7.out.2.2.2.2.2)).mono ?_
    rintro e w8 ⟨rfl, hB⟩
    have M8 : Hid (Below w.heap.size w w8 ∧ Rd w8 (· < w8.heap.size) (dLockS L) (.slice la L.length lc) ∧ Rd w8 (· < w8.heap.size) (dLockS X) (.slice xia X.length xic) ∧ Rd w8 (· < w8.heap.size) (dToldS T) (.slice xit T.length xid) ∧ Rd w8 (· < w8.heap.size) (dLockS X) (.slice xsa X.length xsc) ∧ Rd w8 (· < w8.heap.size) (dToldS T) (.slice xst T.length xsd)) := ⟨M7.out.1.trans (hB.mono M7.out.1.size), M7.out.2.1.up hB, M7.out.2.2.1.up hB, M7.out.2.2.2.1.up hB, M7.out.2.2.2.2.1.up hB, M7.out.2.2.2.2.2.up hB⟩
    clear  M7 hB CT
    go_wp2_with fail
    refine (KX.out _ _ _ (M8.out.2.2.1)).mono ?_
    rintro e w9 ⟨rfl, hB⟩
    have M9 : Hid (Below w.heap.size w w9 ∧ Rd w9 (· < w9.heap.size) (dLockS L) (.slice la L.length lc) ∧ Rd w9 (· < w9.heap.size) (dLockS X) (.slice xia X.length xic) ∧ Rd w9 (· < w9.heap.size) (dToldS T) (.slice xit T.length xid) ∧ Rd w9 (· < w9.heap.size) (dLockS X) (.slice xsa X.length xsc) ∧ Rd w9 (· < w9.heap.size) (dToldS T) (.slice xst T.length xsd)) := ⟨M8.out.1.trans (hB.mono M8.out.1.size), M8.out.2.1.up hB, M8.out.2.2.1.up hB, M8.out.2.2.2.1.up hB, M8.out.2.2.2.2.1.up hB, M8.out.2.2.2.2.2.up hB⟩
    clear  M8 hB KX
    go_wp2_with fail
    go_ret
    exact ⟨rfl, M9.out.1⟩
end Go.Proofs.Ythpenliecgpedaa
