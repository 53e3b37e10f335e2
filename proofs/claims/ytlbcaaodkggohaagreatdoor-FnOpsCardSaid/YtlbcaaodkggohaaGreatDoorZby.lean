import Derived.Test.YtlbcaaodkggohaaGreatDoorZbi
import Derived.Test.YtlbcaaodkggohaaGreatDoorZbw
import Derived.Test.YtlbcaaodkggohaaGreatDoorZbx
import Derived.BigQuiet
import Derived.Test.YtlbcaaodkggohaaGreatDoorZaa
import Derived.Test.YtlbcaaodkggohaaGreatDoorProg
import Derived.ProofKit
import Derived.OpenShut
import Derived.Deep.Slices
namespace Go.Proofs.YtlbcaaodkggohaaGreatDoor
open Go.RowKit
set_option linter.unusedSimpArgs false
theorem Rd.up {W W' : World} {d : D} {v : Value} (h : Rd W (· < W.heap.size) d v) (hB : Below W.heap.size W W') : Rd W' (· < W'.heap.size) d v := (h.later hB).mono (fun _ hb => Nat.lt_of_lt_of_le hb hB.size)
theorem Byts.upP {w W : World} {q : Option Addr} {l : List UInt8} (h : Byts w (· < w.heap.size) q l) (hB : Below w.heap.size w W) : Byts W (· < W.heap.size) q l := h.same (fun b hb => hB.block b hb) (fun _ hb => Nat.lt_of_lt_of_le hb hB.size)
structure OpC (w : World) (b k : Nat) (o : OpV) (a3 : Option Addr) (c3 : Nat) (a4 : Option Addr) (c4 : Nat) (a5 : Option Addr) (c5 : Nat) (a6 : Option Addr) (c6 : Nat) : Prop where
 d0 : w.cell? ⟨b, k * 8, none⟩ = some (.int .i64 o.kd)
 d1 : w.cell? ⟨b, k * 8 + 1, none⟩ = some (.string ⟨o.tb.toArray⟩)
 d2 : w.cell? ⟨b, k * 8 + 2, none⟩ = some (.string ⟨o.nm.toArray⟩)
 d3 : w.cell? ⟨b, k * 8 + 3, none⟩ = some (.slice a3 o.wh.length c3)
 d4 : w.cell? ⟨b, k * 8 + 4, none⟩ = some (.slice a4 o.row.length c4)
 d5 : w.cell? ⟨b, k * 8 + 5, none⟩ = some (.slice a5 o.mu.length c5)
 d6 : w.cell? ⟨b, k * 8 + 6, none⟩ = some (.slice a6 o.cs.length c6)
 d7 : w.cell? ⟨b, k * 8 + 7, none⟩ = some (.bool o.un)
theorem OpC.later {w W : World} {b k : Nat} {o : OpV} {a3 : Option Addr} {c3 : Nat} {a4 : Option Addr} {c4 : Nat} {a5 : Option Addr} {c5 : Nat} {a6 : Option Addr} {c6 : Nat} (h : OpC w b k o a3 c3 a4 c4 a5 c5 a6 c6) (hB : Below w.heap.size w W) : OpC W b k o a3 c3 a4 c4 a5 c5 a6 c6 := by
 have g : ∀ (j : Nat) (v : Value), w.cell? ⟨b, j, none⟩ = some v → W.cell? ⟨b, j, none⟩ = some v := fun j v hv => by rw [World.cell?_of_block (w := w) (a := ⟨b, j, none⟩) (hB.block _ (World.block_lt_of_cell? _ _ hv))]; exact hv
 exact ⟨g _ _ h.d0, g _ _ h.d1, g _ _ h.d2, g _ _ h.d3, g _ _ h.d4, g _ _ h.d5, g _ _ h.d6, g _ _ h.d7⟩
structure OpsSt (w W : World) (p : Nat) (sa : Option Addr) (sc base : Nat) (L : List OpV) (va : Option Addr) (vc : Nat) : Prop where
 below : Below w.heap.size w W
 bx : W.heap[p]? = some (.cells #[.slice sa plL.length sc] 25)
 rT : Rd W (· < W.heap.size) (dTableS plL) (.slice sa plL.length sc)
 sq : SQ W base (base ≤ ·) 36 8 (lsF dOp L) CapQ L.length (.slice va L.length vc)
theorem OpsSt.up {w W W' : World} {p : Nat} {sa : Option Addr} {sc base : Nat} {L : List OpV} {va : Option Addr} {vc : Nat} (h : OpsSt w W p sa sc base L va vc) (hB : Below W.heap.size W W') : OpsSt w W' p sa sc base L va vc :=
 ⟨h.below.trans (hB.mono h.below.size), heap_keptD h.bx hB, h.rT.up hB, h.sq.later hB⟩
theorem opB7 : opB ⟨7, [], [], [], [], [], [], false⟩ = true := by decide
theorem opB7p : opB ⟨7, [112, 111, 114, 116], [], [], [], [], [], false⟩ = false := by decide
theorem resB13 : resB ⟨13, 0, 0, [], []⟩ = true := by decide
theorem resB13i : resB ⟨13, 0, 1, [], []⟩ = false := by decide
theorem op_le {o : OpV} (h : OpR o) : (o.tb.length ≤ maxLen ∧ o.nm.length ≤ maxLen) ∧ (dCondS o.wh).le maxLen ∧ (dSetS o.row).le maxLen ∧ (dMutS o.mu).le maxLen ∧ (dStringS o.cs).le maxLen := by
 have g : ∀ j, j < 8 → (dOp o j).le maxLen := fun j hj => D.le.mono (by unfold maxLen; omega) _ (h.2 j hj)
 exact ⟨⟨g 1 (by omega), g 2 (by omega)⟩, g 3 (by omega), g 4 (by omega), g 5 (by omega), g 6 (by omega)⟩
set_option maxRecDepth 100000 in
set_option maxHeartbeats 25600000 in
theorem lawFnOps (l : List UInt8) (a : Option Addr) (c : Nat) (w : World) (h1 : Byts w (· < w.heap.size) a l) (hT : TabR w) (h0 : 0 < w.heap.size) :
  Calls Tryz.prog 3 #[.slice a l.length c] w fun e w' => e = .returned (.bool true) ∧ Below w.heap.size w w' := by
 by_cases g1 : 1048576 < l.length
 case pos =>
  have d1a : decide (1048576 < (l.length : Int)) = true := decide_eq_true (by omega); have d1b : decide (1048576 < l.length) = true := decide_eq_true g1; (go_enter Tryz.func3, Tryz.ntmps3); (go_wp2_with fail); go_ret; exact ⟨rfl, Below.refl _ _⟩
 have d1a : decide (1048576 < (l.length : Int)) = false := decide_eq_false (by omega); have d1b : decide (1048576 < l.length) = false := decide_eq_false g1; have DA : Hid (∀ W, Below w.heap.size w W → Calls Tryz.prog 5 #[.slice a l.length c] W (OpsW W)) := fun W h => opsOfS l a c _ W (Nat.le_refl _) (h1.upP h)
 have K7 : Hid (∀ W, Calls Tryz.prog 8 #[.agg #[.int .i64 7, .string ⟨#[]⟩, .string ⟨#[]⟩, .slice none 0 0, .slice none 0 0, .slice none 0 0, .slice none 0 0, .bool false]] W fun e w' => e = .returned (.bool true) ∧ Below W.heap.size W w') := fun W => by
  have h9 := opOKi 7 [] [] [] [] [] [] false none 0 none 0 none 0 none 0 (fun _ => True) W (by unfold maxLen; simp) (by unfold maxLen; simp) (Ls_le.2 ⟨by omega, by simp, fun i hi => absurd hi (by simp)⟩) (Ls_le.2 ⟨by omega, by simp, fun i hi => absurd hi (by simp)⟩) (Ls_le.2 ⟨by omega, by simp, fun i hi => absurd hi (by simp)⟩) (Ls_le.2 ⟨by omega, by simp, fun i hi => absurd hi (by simp)⟩) (Rd.lsNil _ _) (Rd.lsNil _ _) (Rd.lsNil _ _) (Rd.lsNil _ _); rw [opB7] at h9; exact h9
 have K7p : Hid (∀ W, Calls Tryz.prog 8 #[.agg #[.int .i64 7, .string ⟨#[112, 111, 114, 116]⟩, .string ⟨#[]⟩, .slice none 0 0, .slice none 0 0, .slice none 0 0, .slice none 0 0, .bool false]] W fun e w' => e = .returned (.bool false) ∧ Below W.heap.size W w') := fun W => by
  have h9 := opOKi 7 [112, 111, 114, 116] [] [] [] [] [] false none 0 none 0 none 0 none 0 (fun _ => True) W (by unfold maxLen; simp) (by unfold maxLen; simp) (Ls_le.2 ⟨by omega, by simp, fun i hi => absurd hi (by simp)⟩) (Ls_le.2 ⟨by omega, by simp, fun i hi => absurd hi (by simp)⟩) (Ls_le.2 ⟨by omega, by simp, fun i hi => absurd hi (by simp)⟩) (Ls_le.2 ⟨by omega, by simp, fun i hi => absurd hi (by simp)⟩) (Rd.lsNil _ _) (Rd.lsNil _ _) (Rd.lsNil _ _) (Rd.lsNil _ _); rw [opB7p] at h9; exact h9
 have KR : Hid (∀ W, Below w.heap.size w W → Calls Tryz.prog 9 #[.agg #[.int .i64 13, .int .i64 0, .int .i64 0, .slice none 0 0, .slice none 0 0]] W fun e w' => e = .returned (.bool true) ∧ Below W.heap.size W w') := fun W h => by
  have h9 := resI ⟨13, 0, 0, [], []⟩ none 0 none 0 (fun _ => True) W (Ls_le.2 ⟨by omega, by simp, fun i hi => absurd hi (by simp)⟩) (Ls_le.2 ⟨by omega, by simp, fun i hi => absurd hi (by simp)⟩) (hT.later h0 h) (Nat.lt_of_lt_of_le h0 h.size) (Rd.lsNil _ _) (Rd.lsNil _ _); rw [resB13] at h9; exact h9
 have KRi : Hid (∀ W, Below w.heap.size w W → Calls Tryz.prog 9 #[.agg #[.int .i64 13, .int .i64 0, .int .i64 1, .slice none 0 0, .slice none 0 0]] W fun e w' => e = .returned (.bool false) ∧ Below W.heap.size W w') := fun W h => by
  have h9 := resI ⟨13, 0, 1, [], []⟩ none 0 none 0 (fun _ => True) W (Ls_le.2 ⟨by omega, by simp, fun i hi => absurd hi (by simp)⟩) (Ls_le.2 ⟨by omega, by simp, fun i hi => absurd hi (by simp)⟩) (hT.later h0 h) (Nat.lt_of_lt_of_le h0 h.size) (Rd.lsNil _ _) (Rd.lsNil _ _); rw [resB13i] at h9; exact h9
 clear h1 g1 hT h0; (go_enter Tryz.func3, Tryz.ntmps3); (go_wp2_with fail); refine (plainR _).mono ?_; rintro e w1 ⟨sa, sc, rfl, hr, hB1⟩; have HV : Hid (Below w.heap.size w (w1.alloc (.cells #[.slice sa plL.length sc] 25)) ∧ (w1.alloc (.cells #[.slice sa plL.length sc] 25)).heap[w1.heap.size]? = some (.cells #[.slice sa plL.length sc] 25) ∧ Rd (w1.alloc (.cells #[.slice sa plL.length sc] 25)) (· < (w1.alloc (.cells #[.slice sa plL.length sc] 25)).heap.size) (dTableS plL) (.slice sa plL.length sc)) := ⟨hB1.trans ((below_allocD w1 _).mono hB1.size), heap_newD _ _, (hr.mono (fun b hb => hb.2)).up (below_allocD w1 _)⟩; clear hr hB1; (go_wp2_with fail); refine (DA.out _ HV.out.1).mono ?_; rintro e w2 ⟨L, va, vc, rfl, hl5, hLR, hsg, hB2⟩; obtain ⟨qs, hqs⟩ : ∃ n, n = w1.heap.size := ⟨_, rfl⟩; obtain ⟨base, hbase⟩ : ∃ n, n = (w1.alloc (.cells #[.slice sa plL.length sc] 25)).heap.size := ⟨_, rfl⟩
 have HS : Hid (OpsSt w w2 qs sa sc base L va vc) := by
  rw [hqs, hbase]; exact ⟨HV.out.1.trans (hB2.mono HV.out.1.size), heap_keptD HV.out.2.1 hB2, HV.out.2.2.up hB2, hsg⟩
 have HL : Hid (L.length ≤ 5 ∧ ∀ x ∈ L, OpR x) := ⟨hl5, hLR⟩; rw [← hqs]; clear hqs hbase hsg hB2 hl5 hLR HV DA; (go_wp2_with fail); go_loopw [5] (fun iv wr => ∃ k : Nat, k ≤ L.length ∧ iv = .int .i64 (k : Int) ∧ Hid (OpsSt w wr qs sa sc base L va vc)) (fun iv _ => L.length - (intOf iv).toNat)
 case atStart => exact ⟨0, Nat.zero_le _, rfl, HS.out⟩
 case round =>
  clear HS; obtain ⟨k, hk, rfl, HJ⟩ := hrel
  by_cases hlt : k < L.length
  case pos =>
   obtain ⟨b, a3, c3, a4, c4, a5, c5, a6, c6, rfl, hcap, d0, d1, d2, d3, d4, d5, d6, d7, r3, r4, r5, r6⟩ := SQ.opAt HJ.out.sq hlt; have HO : Hid (OpR L[k]) := HL.out.2 _ (List.getElem_mem hlt); have hki : (k : Int) < (L.length : Int) := by omega
   have f1 : IntKind.i64.wrap ((k : Int) + 1) = ((k + 1 : Nat) : Int) := by have := HL.out.1; rw [IntKind.wrap_i64]; omega
   have HC : Hid (OpC wr b k L[k] a3 c3 a4 c4 a5 c5 a6 c6) := ⟨d0, d1, d2, d3, d4, d5, d6, d7⟩; clear d0 d1 d2 d3 d4 d5 d6 d7; generalize L[k] = o at *; obtain ⟨n, hn⟩ : ∃ n, n = ocC plL o := ⟨_, rfl⟩
   have OI : Hid (∀ W, Below wr.heap.size wr W → Calls Tryz.prog 6 #[.agg #[.slice sa plL.length sc], .agg #[.int .i64 o.kd, .string ⟨o.tb.toArray⟩, .string ⟨o.nm.toArray⟩, .slice a3 o.wh.length c3, .slice a4 o.row.length c4, .slice a5 o.mu.length c5, .slice a6 o.cs.length c6, .bool o.un]] W fun e w' => e = .returned (.tuple #[.int .i64 n, .int .i64 0]) ∧ Below W.heap.size W w') := fun W h => by
    obtain ⟨⟨e1, e2⟩, e3, e4, e5, e6⟩ := op_le HO.out; have h9 := opCodeI plL sa sc _ o a3 c3 a4 c4 a5 c5 a6 c6 _ W (D.le.mono (by unfold maxLen; omega) _ plain_le) e1 e2 e3 e4 e5 e6 hcap (HJ.out.rT.later h) (r3.later h) (r4.later h) (r5.later h) (r6.later h); rw [ocR_ok (by rw [plain_right, HO.out.1]; rfl), ← hn] at h9; exact h9
   have OS : Hid (∀ W, Below wr.heap.size wr W → Calls Tryz.prog 7 #[.agg #[.slice sa plL.length sc], .agg #[.int .i64 o.kd, .string ⟨o.tb.toArray⟩, .string ⟨o.nm.toArray⟩, .slice a3 o.wh.length c3, .slice a4 o.row.length c4, .slice a5 o.mu.length c5, .slice a6 o.cs.length c6, .bool o.un]] W fun e w' => e = .returned (.tuple #[.int .i64 n, .int .i64 0]) ∧ Below W.heap.size W w') := fun W h => by
    obtain ⟨⟨e1, e2⟩, e3, e4, e5, e6⟩ := op_le HO.out; have h9 := opCodeSR plL sa sc _ o a3 c3 a4 c4 a5 c5 a6 c6 _ W HO.out.1 (D.le.mono (by unfold maxLen; omega) _ plain_le) e1 e2 e3 e4 e5 e6 (HJ.out.rT.later h) (r3.later h) (r4.later h) (r5.later h) (r6.later h); rw [ocR_ok (by rw [plain_right, HO.out.1]; rfl), ← hn] at h9; exact h9
   have OK : Hid (∀ W, Below wr.heap.size wr W → Calls Tryz.prog 8 #[.agg #[.int .i64 o.kd, .string ⟨o.tb.toArray⟩, .string ⟨o.nm.toArray⟩, .slice a3 o.wh.length c3, .slice a4 o.row.length c4, .slice a5 o.mu.length c5, .slice a6 o.cs.length c6, .bool o.un]] W fun e w' => e = .returned (.bool true) ∧ Below W.heap.size W w') := fun W h => by
    obtain ⟨⟨e1, e2⟩, e3, e4, e5, e6⟩ := op_le HO.out; have h9 := opOKi o.kd o.tb o.nm o.wh o.row o.mu o.cs o.un a3 c3 a4 c4 a5 c5 a6 c6 _ W e1 e2 e3 e4 e5 e6 (r3.later h) (r4.later h) (r5.later h) (r6.later h); rw [show opB ⟨o.kd, o.tb, o.nm, o.wh, o.row, o.mu, o.cs, o.un⟩ = true from HO.out.1] at h9; exact h9
   have nn : (n != n) = false := by simp
   clear hcap r3 r4 r5 r6 hn HO; have BR : Hid (Below wr.heap.size wr wr) := Below.refl _ _; have s0 := cell_at (o := 0) (heap_keptD HJ.out.bx BR.out) rfl; have d0 := (HC.out.later BR.out).d0; have d1 := (HC.out.later BR.out).d1; have d2 := (HC.out.later BR.out).d2; have d3 := (HC.out.later BR.out).d3; have d4 := (HC.out.later BR.out).d4; have d5 := (HC.out.later BR.out).d5; have d6 := (HC.out.later BR.out).d6; have d7 := (HC.out.later BR.out).d7; (go_wp2_with fail); go_region_with (go_at_call 6; refine (OI.out _ (by first | exact BR.out | exact BR.out.drew)).mono ?_; rintro e w3 ⟨rfl, hB1⟩; have C3 : Hid (Below wr.heap.size wr w3) := (by first | exact BR.out.trans (hB1.mono BR.out.size) | exact BR.out.drew.trans (hB1.mono BR.out.drew.size)); clear hB1; clear s0 d0 d1 d2 d3 d4 d5 d6 d7; have s0 := cell_at (o := 0) (heap_keptD HJ.out.bx C3.out) rfl; have d0 := (HC.out.later C3.out).d0; have d1 := (HC.out.later C3.out).d1; have d2 := (HC.out.later C3.out).d2; have d3 := (HC.out.later C3.out).d3; have d4 := (HC.out.later C3.out).d4; have d5 := (HC.out.later C3.out).d5; have d6 := (HC.out.later C3.out).d6; have d7 := (HC.out.later C3.out).d7)
   all_goals
    (go_wp2_with fail); go_region_with (go_at_call 7; refine (OS.out _ (by first | exact C3.out | exact C3.out.drew)).mono ?_; rintro e w4 ⟨rfl, hB1⟩; have C4 : Hid (Below wr.heap.size wr w4) := (by first | exact C3.out.trans (hB1.mono C3.out.size) | exact C3.out.drew.trans (hB1.mono C3.out.drew.size)); clear hB1; clear s0 d0 d1 d2 d3 d4 d5 d6 d7; have s0 := cell_at (o := 0) (heap_keptD HJ.out.bx C4.out) rfl; have d0 := (HC.out.later C4.out).d0; have d1 := (HC.out.later C4.out).d1; have d2 := (HC.out.later C4.out).d2; have d3 := (HC.out.later C4.out).d3; have d4 := (HC.out.later C4.out).d4; have d5 := (HC.out.later C4.out).d5; have d6 := (HC.out.later C4.out).d6; have d7 := (HC.out.later C4.out).d7)
    all_goals
     (go_wp2_with fail); refine (OK.out _ C4.out).mono ?_; rintro e w5 ⟨rfl, hB5⟩; have H5 : Hid (OpsSt w w5 qs sa sc base L (some ⟨b, 0, none⟩) vc) := HJ.out.up (C4.out.trans (hB5.mono C4.out.size)); clear hB5 C3 C4 BR s0 d0 d1 d2 d3 d4 d5 d6 d7 OI OS OK; (go_wp2_with fail); go_roundw
     case rel => exact ⟨k + 1, by omega, by go_num, H5.out⟩
     case measure => simp [intOf]; omega
  have hkd : decide ((k : Int) < (L.length : Int)) = false := by simp; omega
  have hz : k = L.length := by omega
  clear hk HL; have B0 : Hid (Below w.heap.size w wr) := HJ.out.below; clear HJ; (go_wp2_with fail); refine (K7.out _).mono ?_; rintro e u1 ⟨rfl, hB⟩; have B1 : Hid (Below w.heap.size w u1) := B0.out.trans (hB.mono B0.out.size); clear hB; (go_wp2_with fail); refine (K7p.out _).mono ?_; rintro e u2 ⟨rfl, hB⟩; have B2 : Hid (Below w.heap.size w u2) := B1.out.trans (hB.mono B1.out.size); clear hB; (go_wp2_with fail); refine (KR.out _ B2.out).mono ?_; rintro e u3 ⟨rfl, hB⟩; have B3 : Hid (Below w.heap.size w u3) := B2.out.trans (hB.mono B2.out.size); clear hB; (go_wp2_with fail); refine (KRi.out _ B3.out).mono ?_; rintro e u4 ⟨rfl, hB⟩; have B4 : Hid (Below w.heap.size w u4) := B3.out.trans (hB.mono B3.out.size); clear hB; (go_wp2_with fail); go_ret; exact ⟨rfl, B4.out⟩
end Go.Proofs.YtlbcaaodkggohaaGreatDoor
namespace Go.Proofs.YtlbcaaodkggohaaGreatDoor
open Go.RowKit Go.Deep
theorem cells5 : Tryz.prog.cellsOf 5 = 1 := by kernel_rfl
section
variable {H : Type} {enc : TypeId × Value → H} {W : World} {sp : Nat → Bool} {held : Bool}
theorem addr_spotB {a : Addr} {v : Value} (h : W.cell? (a.add 0) = some v) : a = ⟨a.block, a.off, none⟩ := by
 obtain ⟨b, off, spot⟩ := a
 have : spot = none := by
  cases spot with
  | none => rfl
  | some s => have := World.cell?_spot h; simp [Addr.add] at this
 rw [this]
theorem bytes_of (a : Addr) : ∀ len, (∀ i, i < len → ∃ n : Int, W.cell? (a.add i) = some (.int .u8 n) ∧ 0 ≤ n ∧ n ≤ 255) →
  ∃ l : List UInt8, l.length = len ∧ ∀ i (h : i < l.length), W.cell? (a.add i) = some (.int .u8 (l[i].toNat : Nat))
 | 0, _ => ⟨[], rfl, fun i h => absurd h (by simp)⟩
 | len + 1, hel => by
  obtain ⟨ks, hk, hks⟩ := bytes_of a len (fun i hi => hel i (by omega)); obtain ⟨n, h1, h2, h3⟩ := hel len (by omega); refine ⟨ks ++ [UInt8.ofNat n.toNat], by simp [hk], fun i hi => ?_⟩
  by_cases e : i < ks.length
  ·
   rw [List.getElem_append_left e]; exact hks i e
  ·
   have e2 : i = ks.length := by simp at hi; omega
   subst e2; rw [List.getElem_append_right (by omega)]; simp only [Nat.sub_self, List.getElem_cons_zero]; rw [hk, h1]
   have : ((UInt8.ofNat n.toNat).toNat : Int) = n := by
    rw [UInt8.toNat_ofNat']
    omega
   rw [this]
theorem readByts {fuel : Nat} {cs : List Value} {x : DataW H × List MemPlace} (h : DataW.trod enc Tryz.prog W 0 sp held fuel 22 cs = some x) :
  ∃ a c l, cs = [.slice a (List.length l) c] ∧ Byts W (· < W.heap.size) a l := by
 rcases open_slice Tryz.underlying22 h with ⟨rfl, -⟩ | ⟨a, len, cap, m, n, D, Pl, rfl, -, hl, hc, hm, -, hall⟩
 ·
  exact ⟨none, 0, [], rfl, .inl rfl⟩
 ·
  have hlm : len ≤ m := by rw [hm]; split <;> omega
  have hel : ∀ i, i < len → ∃ n : Int, W.cell? (a.add i) = some (.int .u8 n) ∧ 0 ≤ n ∧ n ≤ 255 := fun i hi => by
   obtain ⟨cs', h1, h2⟩ := hall i (by omega); rw [cells5, Nat.mul_one] at h1; obtain ⟨n, rfl, -, hs⟩ := DataW.trod_int Tryz.underlying5 h2; obtain ⟨-, -, h3⟩ := World.cells?_some h1; have h4 := h3 0 (by omega); rw [show (a.add i).add 0 = a.add i by unfold Addr.add; split <;> simp_all] at h4
   simp only [Lit.wf, Bool.and_eq_true, decide_eq_true_eq] at hs; exact ⟨n, by simpa using h4, hs.1, hs.2⟩
  obtain ⟨l, hk, hkeys⟩ := bytes_of a len hel; refine ⟨some a, cap, l, by rw [hk], ?_⟩
  by_cases h0 : l.length = 0
  ·
   exact .inl h0
  ·
   have h1 := hkeys 0 (by omega); have ha := addr_spotB h1; refine .inr ⟨a.block, a.off, by rw [← ha], ?_, fun i hi => ?_⟩
   ·
    have := World.block_lt_of_cell? _ _ h1; rw [ha] at this
    simpa [Addr.add] using this
   ·
    have := hkeys i hi; rw [ha, Addr.add_mid] at this; exact this
end
end Go.Proofs.YtlbcaaodkggohaaGreatDoor
