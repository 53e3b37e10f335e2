import Derived.Test.YthpenliecgpedaaZbx
import Derived.Test.YthpenliecgpedaaZby
import Derived.Test.YthpenliecgpedaaZTk
namespace Go.Proofs.Ythpenliecgpedaa
open Go.RowKit Go.MuLone
set_option linter.unusedSimpArgs false
theorem take_mem {M : List (List UInt8)} {t : List UInt8} {k : Nat} (h : k < M.length) : t ∈ M.take (k + 1) ↔ t ∈ M.take k ∨ M[k] = t := by rw [List.take_succ_eq_append_getElem h, List.mem_append, List.mem_singleton, eq_comm (a := t)]
set_option maxRecDepth 100000 in
set_option maxHeartbeats 25600000 in
theorem lawFnLocks (l1 l2 : List UInt8) (pa pb : Option Addr) (ca cb : Nat) (w : World) (h1 : Byts w (· < w.heap.size) pa l1) (h2 : Byts w (· < w.heap.size) pb l2) :
    Calls Try.prog 3 #[.slice pa l1.length ca, .slice pb l2.length cb] w fun e w' => e = .returned (.bool true) ∧ Below w.heap.size w w' := by
  by_cases g1 : 1048576 < l1.length
  case pos =>
    have d1a : decide (1048576 < (l1.length : Int)) = true := decide_eq_true (by omega)
    have d1b : decide (1048576 < l1.length) = true := decide_eq_true g1
    go_enter Try.func3, Try.ntmps3
    go_wp2_with fail
    go_ret
    exact ⟨rfl, Below.refl _ _⟩
  have d1a : decide (1048576 < (l1.length : Int)) = false := decide_eq_false (by omega)
  have d1b : decide (1048576 < l1.length) = false := decide_eq_false g1
  by_cases g2 : 1048576 < l2.length
  case pos =>
    have d2a : decide (1048576 < (l2.length : Int)) = true := decide_eq_true (by omega)
    have d2b : decide (1048576 < l2.length) = true := decide_eq_true g2
    go_enter Try.func3, Try.ntmps3
    go_wp2_with fail
    go_ret
    exact ⟨rfl, Below.refl _ _⟩
  have d2a : decide (1048576 < (l2.length : Int)) = false := decide_eq_false (by omega)
  have d2b : decide (1048576 < l2.length) = false := decide_eq_false g2
  have DA : Hid (∀ W, Below w.heap.size w W → Calls Try.prog 5 #[.slice pa l1.length ca] W (LocksV W)) := fun W h => locksOfS l1 pa ca W (h1.upP h)
  have DB : Hid (∀ W, Below w.heap.size w W → Calls Try.prog 6 #[.slice pb l2.length cb] W fun e w' => ∃ t : List UInt8, e = .returned (.string ⟨t.toArray⟩) ∧ Thr t ∧ Below W.heap.size W w') := fun W h => lockNameOfS l2 pb cb W (h2.upP h)
  have DC : Hid (∀ W, Below w.heap.size w W → Calls Try.prog 7 #[.slice pb l2.length cb, .int .i64 0, .int .i64 3] W fun e w' => ∃ k : Nat, e = .returned (.int .i64 (k : Int)) ∧ k < 3 ∧ Below W.heap.size W w') := fun W h => atS l2 pb cb 3 _ W (h2.upP h) (by omega) (by omega) (by omega)
  clear h1 h2 g1 g2
  go_enter Try.func3, Try.ntmps3
  have M0 : Hid (Below w.heap.size w w) := Below.refl _ _
  go_wp2_with fail
  refine (DA.out _ (M0.out)).mono ?_
  rintro e w1 ⟨L, la, lc, rfl, hL, hr, hB⟩
  have M1 : Hid (Below w.heap.size w w1 ∧ Rd w1 (· < w1.heap.size) (dLockS L) (.slice la L.length lc)) := ⟨M0.out.trans (hB.mono M0.out.size), hr⟩
  clear  M0 hB hr DA
  go_wp2_with fail
  refine (DB.out _ (M1.out.1)).mono ?_
  rintro e w2 ⟨t, rfl, ht, hB⟩
  have M2 : Hid (Below w.heap.size w w2 ∧ Rd w2 (· < w2.heap.size) (dLockS L) (.slice la L.length lc)) := ⟨M1.out.1.trans (hB.mono M1.out.1.size), M1.out.2.up hB⟩
  clear  M1 hB DB
  go_wp2_with fail
  refine (DC.out _ (M2.out.1)).mono ?_
  rintro e w3 ⟨i, rfl, hi, hB⟩
  have M3 : Hid (Below w.heap.size w w3 ∧ Rd w3 (· < w3.heap.size) (dLockS L) (.slice la L.length lc)) := ⟨M2.out.1.trans (hB.mono M2.out.1.size), M2.out.2.up hB⟩
  clear  M2 hB DC
  have hn := ses_nat hi
  have hs := ht.name
  have hp := hL.ok
  have hpy := hp.steal hn hs
  have hpx := hp.take hn hs
  have hpz := hpy.leave (i : Int) t
  have hc0 : stealC L (i : Int) t = 0 := (steal_ok (hL.room t)).2.2
  have hm := steal_ownP (n := (i : Int)) (hL.room t)
  have hl0 := leave_ok hpy hm
  have hg := leave_ownP hpy (n := (i : Int)) (s := t) hn
  have hta := take_ans hL (i : Int) t
  have hyt := stealT_len L (i : Int) t
  have hzt := leaveT_len (stealL L (i : Int) t) (i : Int) t
  have TI : Hid (∀ W (a : Option Addr) (c : Nat), Rd W (· < W.heap.size) (dLockS L) (.slice a L.length c) → Calls Try.prog 8 #[.slice a L.length c, .int .i64 (i : Int), .string ⟨t.toArray⟩] W (TkA (takeL L (i : Int) t) (takeB L (i : Int) t) (takeC L (i : Int) t) W)) := fun W a c h => tkI hp hn hs h
  have TS : Hid (∀ W (a : Option Addr) (c : Nat), Rd W (· < W.heap.size) (dLockS L) (.slice a L.length c) → Calls Try.prog 9 #[.slice a L.length c, .int .i64 (i : Int), .string ⟨t.toArray⟩] W (TkA (takeL L (i : Int) t) (takeB L (i : Int) t) (takeC L (i : Int) t) W)) := fun W a c h => tkS' hp hn hs h
  have SI : Hid (∀ W (a : Option Addr) (c : Nat), Rd W (· < W.heap.size) (dLockS L) (.slice a L.length c) → Calls Try.prog 10 #[.slice a L.length c, .int .i64 (i : Int), .string ⟨t.toArray⟩] W (LvA (stealL L (i : Int) t) (stealT L (i : Int) t) 0 W)) := fun W a c h => by have h9 := slI hp hn hs h; rw [hc0] at h9; exact h9
  have SS : Hid (∀ W (a : Option Addr) (c : Nat), Rd W (· < W.heap.size) (dLockS L) (.slice a L.length c) → Calls Try.prog 11 #[.slice a L.length c, .int .i64 (i : Int), .string ⟨t.toArray⟩] W (LvA (stealL L (i : Int) t) (stealT L (i : Int) t) 0 W)) := fun W a c h => by have h9 := slS hp hn hs h; rw [hc0] at h9; exact h9
  have LI : Hid (∀ W (a : Option Addr) (c : Nat), Rd W (· < W.heap.size) (dLockS (stealL L (i : Int) t)) (.slice a (stealL L (i : Int) t).length c) → Calls Try.prog 12 #[.slice a (stealL L (i : Int) t).length c, .int .i64 (i : Int), .string ⟨t.toArray⟩] W (LvA (leaveL (stealL L (i : Int) t) (i : Int) t) (leaveT (stealL L (i : Int) t) (i : Int) t) 0 W)) := fun W a c h => by have h9 := lvI hpy hn hs h; rw [hl0] at h9; exact h9
  have LS : Hid (∀ W (a : Option Addr) (c : Nat), Rd W (· < W.heap.size) (dLockS (stealL L (i : Int) t)) (.slice a (stealL L (i : Int) t).length c) → Calls Try.prog 13 #[.slice a (stealL L (i : Int) t).length c, .int .i64 (i : Int), .string ⟨t.toArray⟩] W (LvA (leaveL (stealL L (i : Int) t) (i : Int) t) (leaveT (stealL L (i : Int) t) (i : Int) t) 0 W)) := fun W a c h => by have h9 := lvS hpy hn hs h; rw [hl0] at h9; exact h9
  clear hc0 hl0
  generalize leaveL (stealL L (i : Int) t) (i : Int) t = Z at *
  generalize leaveT (stealL L (i : Int) t) (i : Int) t = ZT at *
  generalize (stealL L (i : Int) t) = Y at *
  generalize stealT L (i : Int) t = YT at *
  generalize takeL L (i : Int) t = X at *
  generalize takeB L (i : Int) t = xb at *
  generalize takeC L (i : Int) t = xc at *
  have PX := Lib.hid hpx
  have PY := Lib.hid hpy
  have PZ := Lib.hid hpz
  have PL := Lib.hid hp
  have HM : Hid (t ∈ ownN Y (i : Int)) := hm
  have HG : Hid (t ∉ ownN Z (i : Int)) := hg
  have HN := Lib.hid hn
  have HTA : Hid (xc = 0 ∨ (xc = 8 ∧ X = L)) := hta
  have HYT := Lib.hid hyt
  have HZT := Lib.hid hzt
  have CX : Hid (∀ W (a a' : Option Addr) (c c' : Nat), Rd W (· < W.heap.size) (dLockS X) (.slice a X.length c) → Rd W (· < W.heap.size) (dLockS X) (.slice a' X.length c') → Calls Try.prog 14 #[.slice a X.length c, .slice a' X.length c'] W fun e w' => e = .returned (.bool true) ∧ Below W.heap.size W w') := fun W a a' c c' h h' => sameLocksL X a a' c c' _ _ W PX.out.qle.1 PX.out.qle.2 h h'
  have CY : Hid (∀ W (a a' : Option Addr) (c c' : Nat), Rd W (· < W.heap.size) (dLockS Y) (.slice a Y.length c) → Rd W (· < W.heap.size) (dLockS Y) (.slice a' Y.length c') → Calls Try.prog 14 #[.slice a Y.length c, .slice a' Y.length c'] W fun e w' => e = .returned (.bool true) ∧ Below W.heap.size W w') := fun W a a' c c' h h' => sameLocksL Y a a' c c' _ _ W PY.out.qle.1 PY.out.qle.2 h h'
  have CZ : Hid (∀ W (a a' : Option Addr) (c c' : Nat), Rd W (· < W.heap.size) (dLockS Z) (.slice a Z.length c) → Rd W (· < W.heap.size) (dLockS Z) (.slice a' Z.length c') → Calls Try.prog 14 #[.slice a Z.length c, .slice a' Z.length c'] W fun e w' => e = .returned (.bool true) ∧ Below W.heap.size W w') := fun W a a' c c' h h' => sameLocksL Z a a' c c' _ _ W PZ.out.qle.1 PZ.out.qle.2 h h'
  have CYT : Hid (∀ W (a a' : Option Addr) (c c' : Nat), Rd W (· < W.heap.size) (dToldS YT) (.slice a YT.length c) → Rd W (· < W.heap.size) (dToldS YT) (.slice a' YT.length c') → Calls Try.prog 15 #[.slice a YT.length c, .slice a' YT.length c'] W fun e w' => e = .returned (.bool true) ∧ Below W.heap.size W w') := fun W a a' c c' h h' => sameToldL YT a a' c c' _ _ W (by have := HYT.out; omega) h h'
  have CZT : Hid (∀ W (a a' : Option Addr) (c c' : Nat), Rd W (· < W.heap.size) (dToldS ZT) (.slice a ZT.length c) → Rd W (· < W.heap.size) (dToldS ZT) (.slice a' ZT.length c') → Calls Try.prog 15 #[.slice a ZT.length c, .slice a' ZT.length c'] W fun e w' => e = .returned (.bool true) ∧ Below W.heap.size W w') := fun W a a' c c' h h' => sameToldL ZT a a' c c' _ _ W (by have := HZT.out; omega) h h'
  have KX : Hid (∀ W (a : Option Addr) (c : Nat), Rd W (· < W.heap.size) (dLockS X) (.slice a X.length c) → Calls Try.prog 16 #[.slice a X.length c] W fun e w' => e = .returned (.bool true) ∧ Below W.heap.size W w') := fun W a c h => lokI PX.out h
  have KY : Hid (∀ W (a : Option Addr) (c : Nat), Rd W (· < W.heap.size) (dLockS Y) (.slice a Y.length c) → Calls Try.prog 16 #[.slice a Y.length c] W fun e w' => e = .returned (.bool true) ∧ Below W.heap.size W w') := fun W a c h => lokI PY.out h
  have KZ : Hid (∀ W (a : Option Addr) (c : Nat), Rd W (· < W.heap.size) (dLockS Z) (.slice a Z.length c) → Calls Try.prog 16 #[.slice a Z.length c] W fun e w' => e = .returned (.bool true) ∧ Below W.heap.size W w') := fun W a c h => lokI PZ.out h
  have OY : Hid (∀ W (a : Option Addr) (c : Nat), Rd W (· < W.heap.size) (dLockS Y) (.slice a Y.length c) → Calls Try.prog 17 #[.slice a Y.length c, .int .i64 (i : Int)] W (ObA (ownN Y (i : Int)) W)) := fun W a c h => obI PY.out HN.out h
  have OZ : Hid (∀ W (a : Option Addr) (c : Nat), Rd W (· < W.heap.size) (dLockS Z) (.slice a Z.length c) → Calls Try.prog 17 #[.slice a Z.length c, .int .i64 (i : Int)] W (ObA (ownN Z (i : Int)) W)) := fun W a c h => obI PZ.out HN.out h
  have HLY : Hid ((ownN Y (i : Int)).length ≤ 6 ∧ (ownN Z (i : Int)).length ≤ 6) := ⟨Nat.le_trans (ownN_len _ _) PY.out.len, Nat.le_trans (ownN_len _ _) PZ.out.len⟩
  clear hp hn hs hpy hpx hpz hm hg hta hyt hzt hL ht hi
  generalize ownN Y (i : Int) = M at *
  generalize ownN Z (i : Int) = G at *
  go_wp2_with fail
  refine (TI.out _ _ _ (M3.out.2)).mono ?_
  rintro e w4 ⟨xia, xic, rfl, hr, hB⟩
  have M4 : Hid (Below w.heap.size w w4 ∧ Rd w4 (· < w4.heap.size) (dLockS L) (.slice la L.length lc) ∧ Rd w4 (· < w4.heap.size) (dLockS X) (.slice xia X.length xic)) := ⟨M3.out.1.trans (hB.mono M3.out.1.size), M3.out.2.up hB, hr⟩
  clear  M3 hB hr TI
  go_wp2_with fail
  refine (TS.out _ _ _ (M4.out.2.1)).mono ?_
  rintro e w5 ⟨xsa, xsc, rfl, hr, hB⟩
  have M5 : Hid (Below w.heap.size w w5 ∧ Rd w5 (· < w5.heap.size) (dLockS L) (.slice la L.length lc) ∧ Rd w5 (· < w5.heap.size) (dLockS X) (.slice xia X.length xic) ∧ Rd w5 (· < w5.heap.size) (dLockS X) (.slice xsa X.length xsc)) := ⟨M4.out.1.trans (hB.mono M4.out.1.size), M4.out.2.1.up hB, M4.out.2.2.up hB, hr⟩
  clear  M4 hB hr TS
  go_wp2_with fail
  refine (SI.out _ _ _ (M5.out.2.1)).mono ?_
  rintro e w6 ⟨yia, yic, yit, yid, rfl, hr, hr2, hB⟩
  have M6 : Hid (Below w.heap.size w w6 ∧ Rd w6 (· < w6.heap.size) (dLockS L) (.slice la L.length lc) ∧ Rd w6 (· < w6.heap.size) (dLockS X) (.slice xia X.length xic) ∧ Rd w6 (· < w6.heap.size) (dLockS X) (.slice xsa X.length xsc) ∧ Rd w6 (· < w6.heap.size) (dLockS Y) (.slice yia Y.length yic) ∧ Rd w6 (· < w6.heap.size) (dToldS YT) (.slice yit YT.length yid)) := ⟨M5.out.1.trans (hB.mono M5.out.1.size), M5.out.2.1.up hB, M5.out.2.2.1.up hB, M5.out.2.2.2.up hB, hr, hr2⟩
  clear  M5 hB hr hr2 SI
  go_wp2_with fail
  refine (SS.out _ _ _ (M6.out.2.1)).mono ?_
  rintro e w7 ⟨ysa, ysc, yst, ysd, rfl, hr, hr2, hB⟩
  have M7 : Hid (Below w.heap.size w w7 ∧ Rd w7 (· < w7.heap.size) (dLockS L) (.slice la L.length lc) ∧ Rd w7 (· < w7.heap.size) (dLockS X) (.slice xia X.length xic) ∧ Rd w7 (· < w7.heap.size) (dLockS X) (.slice xsa X.length xsc) ∧ Rd w7 (· < w7.heap.size) (dLockS Y) (.slice yia Y.length yic) ∧ Rd w7 (· < w7.heap.size) (dToldS YT) (.slice yit YT.length yid) ∧ Rd w7 (· < w7.heap.size) (dLockS Y) (.slice ysa Y.length ysc) ∧ Rd w7 (· < w7.heap.size) (dToldS YT) (.slice yst YT.length ysd)) := ⟨M6.out.1.trans (hB.mono M6.out.1.size), M6.out.2.1.up hB, M6.out.2.2.1.up hB, M6.out.2.2.2.1.up hB, M6.out.2.2.2.2.1.up hB, M6.out.2.2.2.2.2.up hB, hr, hr2⟩
  clear  M6 hB hr hr2 SS
  go_wp2_with fail
  refine (LI.out _ _ _ (M7.out.2.2.2.2.1)).mono ?_
  rintro e w8 ⟨zia, zic, zit, zid, rfl, hr, hr2, hB⟩
  have M8 : Hid (Below w.heap.size w w8 ∧ Rd w8 (· < w8.heap.size) (dLockS L) (.slice la L.length lc) ∧ Rd w8 (· < w8.heap.size) (dLockS X) (.slice xia X.length xic) ∧ Rd w8 (· < w8.heap.size) (dLockS X) (.slice xsa X.length xsc) ∧ Rd w8 (· < w8.heap.size) (dLockS Y) (.slice yia Y.length yic) ∧ Rd w8 (· < w8.heap.size) (dToldS YT) (.slice yit YT.length yid) ∧ Rd w8 (· < w8.heap.size) (dLockS Y) (.slice ysa Y.length ysc) ∧ Rd w8 (· < w8.heap.size) (dToldS YT) (.slice yst YT.length ysd) ∧ Rd w8 (· < w8.heap.size) (dLockS Z) (.slice zia Z.length zic) ∧ Rd w8 (· < w8.heap.size) (dToldS ZT) (.slice zit ZT.length zid)) := ⟨M7.out.1.trans (hB.mono M7.out.1.size), M7.out.2.1.up hB, M7.out.2.2.1.up hB, M7.out.2.2.2.1.up hB, M7.out.2.2.2.2.1.up hB, M7.out.2.2.2.2.2.1.up hB, M7.out.2.2.2.2.2.2.1.up hB, M7.out.2.2.2.2.2.2.2.up hB, hr, hr2⟩
  clear  M7 hB hr hr2 LI
  go_wp2_with fail
  refine (LS.out _ _ _ (M8.out.2.2.2.2.1)).mono ?_
  rintro e w9 ⟨zsa, zsc, zst, zsd, rfl, hr, hr2, hB⟩
  have M9 : Hid (Below w.heap.size w w9 ∧ Rd w9 (· < w9.heap.size) (dLockS L) (.slice la L.length lc) ∧ Rd w9 (· < w9.heap.size) (dLockS X) (.slice xia X.length xic) ∧ Rd w9 (· < w9.heap.size) (dLockS X) (.slice xsa X.length xsc) ∧ Rd w9 (· < w9.heap.size) (dLockS Y) (.slice yia Y.length yic) ∧ Rd w9 (· < w9.heap.size) (dToldS YT) (.slice yit YT.length yid) ∧ Rd w9 (· < w9.heap.size) (dLockS Y) (.slice ysa Y.length ysc) ∧ Rd w9 (· < w9.heap.size) (dToldS YT) (.slice yst YT.length ysd) ∧ Rd w9 (· < w9.heap.size) (dLockS Z) (.slice zia Z.length zic) ∧ Rd w9 (· < w9.heap.size) (dToldS ZT) (.slice zit ZT.length zid) ∧ Rd w9 (· < w9.heap.size) (dLockS Z) (.slice zsa Z.length zsc) ∧ Rd w9 (· < w9.heap.size) (dToldS ZT) (.slice zst ZT.length zsd)) := ⟨M8.out.1.trans (hB.mono M8.out.1.size), M8.out.2.1.up hB, M8.out.2.2.1.up hB, M8.out.2.2.2.1.up hB, M8.out.2.2.2.2.1.up hB, M8.out.2.2.2.2.2.1.up hB, M8.out.2.2.2.2.2.2.1.up hB, M8.out.2.2.2.2.2.2.2.1.up hB, M8.out.2.2.2.2.2.2.2.2.1.up hB, M8.out.2.2.2.2.2.2.2.2.2.up hB, hr, hr2⟩
  clear  M8 hB hr hr2 LS
  have n1 : (xc != xc) = false := by simp
  have n2 : (xb != xb) = false := by simp
  go_wp2_with fail
  refine (CX.out _ _ _ _ _ (M9.out.2.2.1) (M9.out.2.2.2.1)).mono ?_
  rintro e w10 ⟨rfl, hB⟩
  have M10 : Hid (Below w.heap.size w w10 ∧ Rd w10 (· < w10.heap.size) (dLockS L) (.slice la L.length lc) ∧ Rd w10 (· < w10.heap.size) (dLockS X) (.slice xia X.length xic) ∧ Rd w10 (· < w10.heap.size) (dLockS X) (.slice xsa X.length xsc) ∧ Rd w10 (· < w10.heap.size) (dLockS Y) (.slice yia Y.length yic) ∧ Rd w10 (· < w10.heap.size) (dToldS YT) (.slice yit YT.length yid) ∧ Rd w10 (· < w10.heap.size) (dLockS Y) (.slice ysa Y.length ysc) ∧ Rd w10 (· < w10.heap.size) (dToldS YT) (.slice yst YT.length ysd) ∧ Rd w10 (· < w10.heap.size) (dLockS Z) (.slice zia Z.length zic) ∧ Rd w10 (· < w10.heap.size) (dToldS ZT) (.slice zit ZT.length zid) ∧ Rd w10 (· < w10.heap.size) (dLockS Z) (.slice zsa Z.length zsc) ∧ Rd w10 (· < w10.heap.size) (dToldS ZT) (.slice zst ZT.length zsd)) := ⟨M9.out.1.trans (hB.mono M9.out.1.size), M9.out.2.1.up hB, M9.out.2.2.1.up hB, M9.out.2.2.2.1.up hB, M9.out.2.2.2.2.1.up hB, M9.out.2.2.2.2.2.1.up hB, M9.out.2.2.2.2.2.2.1.up hB, M9.out.2.2.2.2.2.2.2.1.up hB, M9.out.2.2.2.2.2.2.2.2.1.up hB, M9.out.2.2.2.2.2.2.2.2.2.1.up hB, M9.out.2.2.2.2.2.2.2.2.2.2.1.up hB, M9.out.2.2.2.2.2.2.2.2.2.2.2.up hB⟩
  clear  M9 hB 
  go_wp2_with fail
  refine (CY.out _ _ _ _ _ (M10.out.2.2.2.2.1) (M10.out.2.2.2.2.2.2.1)).mono ?_
  rintro e w11 ⟨rfl, hB⟩
  have M11 : Hid (Below w.heap.size w w11 ∧ Rd w11 (· < w11.heap.size) (dLockS L) (.slice la L.length lc) ∧ Rd w11 (· < w11.heap.size) (dLockS X) (.slice xia X.length xic) ∧ Rd w11 (· < w11.heap.size) (dLockS X) (.slice xsa X.length xsc) ∧ Rd w11 (· < w11.heap.size) (dLockS Y) (.slice yia Y.length yic) ∧ Rd w11 (· < w11.heap.size) (dToldS YT) (.slice yit YT.length yid) ∧ Rd w11 (· < w11.heap.size) (dLockS Y) (.slice ysa Y.length ysc) ∧ Rd w11 (· < w11.heap.size) (dToldS YT) (.slice yst YT.length ysd) ∧ Rd w11 (· < w11.heap.size) (dLockS Z) (.slice zia Z.length zic) ∧ Rd w11 (· < w11.heap.size) (dToldS ZT) (.slice zit ZT.length zid) ∧ Rd w11 (· < w11.heap.size) (dLockS Z) (.slice zsa Z.length zsc) ∧ Rd w11 (· < w11.heap.size) (dToldS ZT) (.slice zst ZT.length zsd)) := ⟨M10.out.1.trans (hB.mono M10.out.1.size), M10.out.2.1.up hB, M10.out.2.2.1.up hB, M10.out.2.2.2.1.up hB, M10.out.2.2.2.2.1.up hB, M10.out.2.2.2.2.2.1.up hB, M10.out.2.2.2.2.2.2.1.up hB, M10.out.2.2.2.2.2.2.2.1.up hB, M10.out.2.2.2.2.2.2.2.2.1.up hB, M10.out.2.2.2.2.2.2.2.2.2.1.up hB, M10.out.2.2.2.2.2.2.2.2.2.2.1.up hB, M10.out.2.2.2.2.2.2.2.2.2.2.2.up hB⟩
  clear  M10 hB CY
  go_wp2_with fail
  refine (CYT.out _ _ _ _ _ (M11.out.2.2.2.2.2.1) (M11.out.2.2.2.2.2.2.2.1)).mono ?_
  rintro e w12 ⟨rfl, hB⟩
  have M12 : Hid (Below w.heap.size w w12 ∧ Rd w12 (· < w12.heap.size) (dLockS L) (.slice la L.length lc) ∧ Rd w12 (· < w12.heap.size) (dLockS X) (.slice xia X.length xic) ∧ Rd w12 (· < w12.heap.size) (dLockS X) (.slice xsa X.length xsc) ∧ Rd w12 (· < w12.heap.size) (dLockS Y) (.slice yia Y.length yic) ∧ Rd w12 (· < w12.heap.size) (dToldS YT) (.slice yit YT.length yid) ∧ Rd w12 (· < w12.heap.size) (dLockS Y) (.slice ysa Y.length ysc) ∧ Rd w12 (· < w12.heap.size) (dToldS YT) (.slice yst YT.length ysd) ∧ Rd w12 (· < w12.heap.size) (dLockS Z) (.slice zia Z.length zic) ∧ Rd w12 (· < w12.heap.size) (dToldS ZT) (.slice zit ZT.length zid) ∧ Rd w12 (· < w12.heap.size) (dLockS Z) (.slice zsa Z.length zsc) ∧ Rd w12 (· < w12.heap.size) (dToldS ZT) (.slice zst ZT.length zsd)) := ⟨M11.out.1.trans (hB.mono M11.out.1.size), M11.out.2.1.up hB, M11.out.2.2.1.up hB, M11.out.2.2.2.1.up hB, M11.out.2.2.2.2.1.up hB, M11.out.2.2.2.2.2.1.up hB, M11.out.2.2.2.2.2.2.1.up hB, M11.out.2.2.2.2.2.2.2.1.up hB, M11.out.2.2.2.2.2.2.2.2.1.up hB, M11.out.2.2.2.2.2.2.2.2.2.1.up hB, M11.out.2.2.2.2.2.2.2.2.2.2.1.up hB, M11.out.2.2.2.2.2.2.2.2.2.2.2.up hB⟩
  clear  M11 hB CYT
  go_wp2_with fail
  refine (CZ.out _ _ _ _ _ (M12.out.2.2.2.2.2.2.2.2.1) (M12.out.2.2.2.2.2.2.2.2.2.2.1)).mono ?_
  rintro e w13 ⟨rfl, hB⟩
  have M13 : Hid (Below w.heap.size w w13 ∧ Rd w13 (· < w13.heap.size) (dLockS L) (.slice la L.length lc) ∧ Rd w13 (· < w13.heap.size) (dLockS X) (.slice xia X.length xic) ∧ Rd w13 (· < w13.heap.size) (dLockS X) (.slice xsa X.length xsc) ∧ Rd w13 (· < w13.heap.size) (dLockS Y) (.slice yia Y.length yic) ∧ Rd w13 (· < w13.heap.size) (dToldS YT) (.slice yit YT.length yid) ∧ Rd w13 (· < w13.heap.size) (dLockS Y) (.slice ysa Y.length ysc) ∧ Rd w13 (· < w13.heap.size) (dToldS YT) (.slice yst YT.length ysd) ∧ Rd w13 (· < w13.heap.size) (dLockS Z) (.slice zia Z.length zic) ∧ Rd w13 (· < w13.heap.size) (dToldS ZT) (.slice zit ZT.length zid) ∧ Rd w13 (· < w13.heap.size) (dLockS Z) (.slice zsa Z.length zsc) ∧ Rd w13 (· < w13.heap.size) (dToldS ZT) (.slice zst ZT.length zsd)) := ⟨M12.out.1.trans (hB.mono M12.out.1.size), M12.out.2.1.up hB, M12.out.2.2.1.up hB, M12.out.2.2.2.1.up hB, M12.out.2.2.2.2.1.up hB, M12.out.2.2.2.2.2.1.up hB, M12.out.2.2.2.2.2.2.1.up hB, M12.out.2.2.2.2.2.2.2.1.up hB, M12.out.2.2.2.2.2.2.2.2.1.up hB, M12.out.2.2.2.2.2.2.2.2.2.1.up hB, M12.out.2.2.2.2.2.2.2.2.2.2.1.up hB, M12.out.2.2.2.2.2.2.2.2.2.2.2.up hB⟩
  clear  M12 hB CZ
  go_wp2_with fail
  refine (CZT.out _ _ _ _ _ (M13.out.2.2.2.2.2.2.2.2.2.1) (M13.out.2.2.2.2.2.2.2.2.2.2.2)).mono ?_
  rintro e w14 ⟨rfl, hB⟩
  have M14 : Hid (Below w.heap.size w w14 ∧ Rd w14 (· < w14.heap.size) (dLockS L) (.slice la L.length lc) ∧ Rd w14 (· < w14.heap.size) (dLockS X) (.slice xia X.length xic) ∧ Rd w14 (· < w14.heap.size) (dLockS X) (.slice xsa X.length xsc) ∧ Rd w14 (· < w14.heap.size) (dLockS Y) (.slice yia Y.length yic) ∧ Rd w14 (· < w14.heap.size) (dToldS YT) (.slice yit YT.length yid) ∧ Rd w14 (· < w14.heap.size) (dLockS Y) (.slice ysa Y.length ysc) ∧ Rd w14 (· < w14.heap.size) (dToldS YT) (.slice yst YT.length ysd) ∧ Rd w14 (· < w14.heap.size) (dLockS Z) (.slice zia Z.length zic) ∧ Rd w14 (· < w14.heap.size) (dToldS ZT) (.slice zit ZT.length zid) ∧ Rd w14 (· < w14.heap.size) (dLockS Z) (.slice zsa Z.length zsc) ∧ Rd w14 (· < w14.heap.size) (dToldS ZT) (.slice zst ZT.length zsd)) := ⟨M13.out.1.trans (hB.mono M13.out.1.size), M13.out.2.1.up hB, M13.out.2.2.1.up hB, M13.out.2.2.2.1.up hB, M13.out.2.2.2.2.1.up hB, M13.out.2.2.2.2.2.1.up hB, M13.out.2.2.2.2.2.2.1.up hB, M13.out.2.2.2.2.2.2.2.1.up hB, M13.out.2.2.2.2.2.2.2.2.1.up hB, M13.out.2.2.2.2.2.2.2.2.2.1.up hB, M13.out.2.2.2.2.2.2.2.2.2.2.1.up hB, M13.out.2.2.2.2.2.2.2.2.2.2.2.up hB⟩
  clear  M13 hB CZT
  go_wp2_with fail
  refine (KX.out _ _ _ (M14.out.2.2.1)).mono ?_
  rintro e w15 ⟨rfl, hB⟩
  have M15 : Hid (Below w.heap.size w w15 ∧ Rd w15 (· < w15.heap.size) (dLockS L) (.slice la L.length lc) ∧ Rd w15 (· < w15.heap.size) (dLockS X) (.slice xia X.length xic) ∧ Rd w15 (· < w15.heap.size) (dLockS X) (.slice xsa X.length xsc) ∧ Rd w15 (· < w15.heap.size) (dLockS Y) (.slice yia Y.length yic) ∧ Rd w15 (· < w15.heap.size) (dToldS YT) (.slice yit YT.length yid) ∧ Rd w15 (· < w15.heap.size) (dLockS Y) (.slice ysa Y.length ysc) ∧ Rd w15 (· < w15.heap.size) (dToldS YT) (.slice yst YT.length ysd) ∧ Rd w15 (· < w15.heap.size) (dLockS Z) (.slice zia Z.length zic) ∧ Rd w15 (· < w15.heap.size) (dToldS ZT) (.slice zit ZT.length zid) ∧ Rd w15 (· < w15.heap.size) (dLockS Z) (.slice zsa Z.length zsc) ∧ Rd w15 (· < w15.heap.size) (dToldS ZT) (.slice zst ZT.length zsd)) := ⟨M14.out.1.trans (hB.mono M14.out.1.size), M14.out.2.1.up hB, M14.out.2.2.1.up hB, M14.out.2.2.2.1.up hB, M14.out.2.2.2.2.1.up hB, M14.out.2.2.2.2.2.1.up hB, M14.out.2.2.2.2.2.2.1.up hB, M14.out.2.2.2.2.2.2.2.1.up hB, M14.out.2.2.2.2.2.2.2.2.1.up hB, M14.out.2.2.2.2.2.2.2.2.2.1.up hB, M14.out.2.2.2.2.2.2.2.2.2.2.1.up hB, M14.out.2.2.2.2.2.2.2.2.2.2.2.up hB⟩
  clear  M14 hB KX
  go_wp2_with fail
  refine (KY.out _ _ _ (M15.out.2.2.2.2.1)).mono ?_
  rintro e w16 ⟨rfl, hB⟩
  have M16 : Hid (Below w.heap.size w w16 ∧ Rd w16 (· < w16.heap.size) (dLockS L) (.slice la L.length lc) ∧ Rd w16 (· < w16.heap.size) (dLockS X) (.slice xia X.length xic) ∧ Rd w16 (· < w16.heap.size) (dLockS X) (.slice xsa X.length xsc) ∧ Rd w16 (· < w16.heap.size) (dLockS Y) (.slice yia Y.length yic) ∧ Rd w16 (· < w16.heap.size) (dToldS YT) (.slice yit YT.length yid) ∧ Rd w16 (· < w16.heap.size) (dLockS Y) (.slice ysa Y.length ysc) ∧ Rd w16 (· < w16.heap.size) (dToldS YT) (.slice yst YT.length ysd) ∧ Rd w16 (· < w16.heap.size) (dLockS Z) (.slice zia Z.length zic) ∧ Rd w16 (· < w16.heap.size) (dToldS ZT) (.slice zit ZT.length zid) ∧ Rd w16 (· < w16.heap.size) (dLockS Z) (.slice zsa Z.length zsc) ∧ Rd w16 (· < w16.heap.size) (dToldS ZT) (.slice zst ZT.length zsd)) := ⟨M15.out.1.trans (hB.mono M15.out.1.size), M15.out.2.1.up hB, M15.out.2.2.1.up hB, M15.out.2.2.2.1.up hB, M15.out.2.2.2.2.1.up hB, M15.out.2.2.2.2.2.1.up hB, M15.out.2.2.2.2.2.2.1.up hB, M15.out.2.2.2.2.2.2.2.1.up hB, M15.out.2.2.2.2.2.2.2.2.1.up hB, M15.out.2.2.2.2.2.2.2.2.2.1.up hB, M15.out.2.2.2.2.2.2.2.2.2.2.1.up hB, M15.out.2.2.2.2.2.2.2.2.2.2.2.up hB⟩
  clear  M15 hB KY
  go_wp2_with fail
  refine (KZ.out _ _ _ (M16.out.2.2.2.2.2.2.2.2.1)).mono ?_
  rintro e w17 ⟨rfl, hB⟩
  have M17 : Hid (Below w.heap.size w w17 ∧ Rd w17 (· < w17.heap.size) (dLockS L) (.slice la L.length lc) ∧ Rd w17 (· < w17.heap.size) (dLockS X) (.slice xia X.length xic) ∧ Rd w17 (· < w17.heap.size) (dLockS X) (.slice xsa X.length xsc) ∧ Rd w17 (· < w17.heap.size) (dLockS Y) (.slice yia Y.length yic) ∧ Rd w17 (· < w17.heap.size) (dToldS YT) (.slice yit YT.length yid) ∧ Rd w17 (· < w17.heap.size) (dLockS Y) (.slice ysa Y.length ysc) ∧ Rd w17 (· < w17.heap.size) (dToldS YT) (.slice yst YT.length ysd) ∧ Rd w17 (· < w17.heap.size) (dLockS Z) (.slice zia Z.length zic) ∧ Rd w17 (· < w17.heap.size) (dToldS ZT) (.slice zit ZT.length zid) ∧ Rd w17 (· < w17.heap.size) (dLockS Z) (.slice zsa Z.length zsc) ∧ Rd w17 (· < w17.heap.size) (dToldS ZT) (.slice zst ZT.length zsd)) := ⟨M16.out.1.trans (hB.mono M16.out.1.size), M16.out.2.1.up hB, M16.out.2.2.1.up hB, M16.out.2.2.2.1.up hB, M16.out.2.2.2.2.1.up hB, M16.out.2.2.2.2.2.1.up hB, M16.out.2.2.2.2.2.2.1.up hB, M16.out.2.2.2.2.2.2.2.1.up hB, M16.out.2.2.2.2.2.2.2.2.1.up hB, M16.out.2.2.2.2.2.2.2.2.2.1.up hB, M16.out.2.2.2.2.2.2.2.2.2.2.1.up hB, M16.out.2.2.2.2.2.2.2.2.2.2.2.up hB⟩
  clear  M16 hB KZ
  go_wp2_with fail
  refine (OY.out _ _ _ (M17.out.2.2.2.2.1)).mono ?_
  rintro e w20 ⟨ma, mc, rfl, hr, hB⟩
  have M18 : Hid (Below w.heap.size w w20 ∧ Rd w20 (· < w20.heap.size) (dLockS L) (.slice la L.length lc) ∧ Rd w20 (· < w20.heap.size) (dLockS X) (.slice xia X.length xic) ∧ Rd w20 (· < w20.heap.size) (dLockS Z) (.slice zia Z.length zic) ∧ Rd w20 (· < w20.heap.size) (dStringS M) (.slice ma M.length mc)) := ⟨M17.out.1.trans (hB.mono M17.out.1.size), M17.out.2.1.up hB, M17.out.2.2.1.up hB, M17.out.2.2.2.2.2.2.2.2.1.up hB, hr⟩
  clear  M17 hB hr OY
  go_wp2_with fail
  go_loopw [28, 29] (fun hv iv wr => ∃ (k : Nat) (b : Bool), k ≤ M.length ∧ iv = .int .i64 (k : Int) ∧ hv = .bool b ∧ Hid (b = decide (t ∈ M.take k)) ∧ wr = w20) (fun _ iv _ => M.length - (intOf iv).toNat)
  case atStart => exact ⟨0, false, Nat.zero_le _, rfl, rfl, by show _ = _; simp, rfl⟩
  case round =>
    obtain ⟨k, b, hk, rfl, rfl, HBV, rfl⟩ := hrel
    by_cases hlt : k < M.length
    case pos =>
      obtain ⟨mb, mo, rfl, m0⟩ := textAt (M18.out.2.2.2.2) hlt
      have hki : (k : Int) < (M.length : Int) := by omega
      have f1 : IntKind.i64.wrap ((k : Int) + 1) = ((k + 1 : Nat) : Int) := by have := HLY.out.1; rw [IntKind.wrap_i64]; omega
      cases b
      · by_cases he : M[k] = t
        · have e1 : (M[k] == t) = true := by simpa using he
          have HV : Hid (true = decide (t ∈ M.take (k + 1))) := (decide_eq_true ((take_mem hlt).2 (.inr he))).symm
          clear he
          generalize M[k] = mk at *
          go_wp2_with fail
          go_roundw
          case rel => exact ⟨k + 1, true, by omega, by go_num, rfl, HV, trivial⟩
          case measure => simp [intOf]; omega
        · have e1 : (M[k] == t) = false := by simpa using he
          have HV : Hid (false = decide (t ∈ M.take (k + 1))) := (decide_eq_false (fun h => ((take_mem hlt).1 h).elim (of_decide_eq_false HBV.out.symm) he)).symm
          clear he
          generalize M[k] = mk at *
          go_wp2_with fail
          go_roundw
          case rel => exact ⟨k + 1, false, by omega, by go_num, rfl, HV, trivial⟩
          case measure => simp [intOf]; omega
      · have HV : Hid (true = decide (t ∈ M.take (k + 1))) := (decide_eq_true ((take_mem hlt).2 (.inl (of_decide_eq_true HBV.out.symm)))).symm
        go_wp2_with fail
        go_roundw
        case rel => exact ⟨k + 1, true, by omega, by go_num, rfl, HV, trivial⟩
        case measure => simp [intOf]; omega
    have hkd : decide ((k : Int) < (M.length : Int)) = false := by simp; omega
    obtain rfl : b = true := by have h9 := HBV.out; rw [List.take_of_length_le (by omega), decide_eq_true HM.out] at h9; exact h9
    clear HBV hk
    go_wp2_with fail
    refine (OZ.out _ _ _ (M18.out.2.2.2.1)).mono ?_
    rintro e w21 ⟨ga, gc, rfl, hr, hB⟩
    have M19 : Hid (Below w.heap.size w w21 ∧ Rd w21 (· < w21.heap.size) (dLockS L) (.slice la L.length lc) ∧ Rd w21 (· < w21.heap.size) (dLockS X) (.slice xia X.length xic) ∧ Rd w21 (· < w21.heap.size) (dStringS G) (.slice ga G.length gc)) := ⟨M18.out.1.trans (hB.mono M18.out.1.size), M18.out.2.1.up hB, M18.out.2.2.1.up hB, hr⟩
    clear  M18 hB hr OZ hkd hlt
    go_wp2_with fail
    go_loopw [32] (fun iv wr => ∃ (k : Nat), k ≤ G.length ∧ iv = .int .i64 (k : Int) ∧ wr = w21) (fun iv _ => G.length - (intOf iv).toNat)
    case atStart => exact ⟨0, Nat.zero_le _, rfl, rfl⟩
    case round =>
      obtain ⟨k, hk, rfl, rfl⟩ := hrel
      by_cases hlt : k < G.length
      case pos =>
        obtain ⟨mb, mo, rfl, m0⟩ := textAt (M19.out.2.2.2) hlt
        have hki : (k : Int) < (G.length : Int) := by omega
        have f1 : IntKind.i64.wrap ((k : Int) + 1) = ((k + 1 : Nat) : Int) := by have := HLY.out.2; rw [IntKind.wrap_i64]; omega
        have e1 : (G[k] == t) = false := by have : G[k] ≠ t := fun e => HG.out (e ▸ List.getElem_mem hlt); simpa using this
        generalize G[k] = mk at *
        go_wp2_with fail
        go_roundw
        case rel => exact ⟨k + 1, by omega, by go_num, trivial⟩
        case measure => simp [intOf]; omega
      have hkd : decide ((k : Int) < (G.length : Int)) = false := by simp; omega
      clear hk
      rcases HTA.out with rfl | ⟨rfl, rfl⟩
      · go_wp2_with fail
        go_ret
        exact ⟨rfl, M19.out.1⟩
      · go_wp2_with fail
        refine (CX.out _ _ _ _ _ (M19.out.2.2.1) (M19.out.2.1)).mono ?_
        rintro e w22 ⟨rfl, hB⟩
        have HF := Lib.hid ((M19.out.1).trans (hB.mono (M19.out.1).size))
        clear hB
        go_wp2_with fail
        go_ret
        exact ⟨rfl, HF.out⟩
end Go.Proofs.Ythpenliecgpedaa
