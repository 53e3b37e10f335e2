import Derived.Test.YtnegmpdllbbnhaaZbf
import Derived.Test.YtnegmpdllbbnhaaZbc
import Derived.Test.YtnegmpdllbbnhaaZbd
import Derived.Test.YtnegmpdllbbnhaaZaq
import Derived.Test.YtnegmpdllbbnhaaZak
import Derived.Deep.CutRange
import Derived.Test.YtnegmpdllbbnhaaZTk
namespace Go.Proofs.Ytnegmpdllbbnhaa
open Go.RowKit
set_option linter.unusedSimpArgs false
theorem one_le {l : List RowV} (h : (dRowS l).le 1048576) : (dRowSS [l]).le 1048576 := Ls_le.2 ⟨by omega, by simp, fun i hi j hj => by
  have e : i = 0 := by simpa using hi
  subst e
  exact h⟩
theorem rd_one {W : World} {l : List RowV} {b : Nat} {v : Value} (hc : W.cell? ⟨b, 0, none⟩ = some v) (hr : Rd W (fun _ => True) (dRowS l) v) : Rd W (fun _ => True) (dRowSS [l]) (.slice (some ⟨b, 0, none⟩) 1 1) :=
  ⟨_, _, rfl, .inr ⟨b, 0, rfl, trivial, by omega, fun i j hi hj => by
    have e : i = 0 := by have h : i < [l].length := hi; simpa using h
    have e2 : j = 0 := by omega
    subst e; subst e2
    exact ⟨v, hc, hr⟩⟩⟩
structure UpB (w W : World) (l : List RowV) (xa : Option Addr) (xc : Nat) : Prop where
  bx : W.heap[w.heap.size + 1]? = some (.cells #[.slice xa 1 xc, .int .i64 0] 46)
  rd : Rd W (fun d => w.heap.size + 1 < d) (dRowSS [l]) (.slice xa 1 xc)
  bel : Below w.heap.size w W
theorem UpB.later {w W W' : World} {l : List RowV} {xa : Option Addr} {xc : Nat} (h : UpB w W l xa xc) (hB : Below W.heap.size W W') : UpB w W' l xa xc := ⟨heap_keptD h.bx hB, h.rd.later hB, h.bel.trans (hB.mono h.bel.size)⟩
theorem UpB.put {w W W' : World} {l l' : List RowV} {xa xa' : Option Addr} {xc xc' : Nat} (h : UpB w W l xa xc) (hB : Below W.heap.size W W') (hr : Rd W' (fun d => W.heap.size ≤ d) (dRowSS [l']) (.slice xa' 1 xc')) : UpB w ((W'.setCell ⟨w.heap.size + 1, 0, none⟩ (.slice xa' 1 xc')).setCell ⟨w.heap.size + 1, 1, none⟩ (.int .i64 0)) l' xa' xc' := by
  have h2 := h.later hB
  refine ⟨by rw [heap_set 1 _ (heap_set 0 _ h2.bx)]; rfl, ?_, (h2.bel.setCell (by show w.heap.size ≤ w.heap.size + 1; omega) _).setCell (by show w.heap.size ≤ w.heap.size + 1; omega) _⟩
  have hlt := (Array.getElem?_eq_some_iff.1 h.bx).1
  exact (hr.frm (F := (· = w.heap.size + 1)) ((frm_set _ _ _ _).trans (frm_set _ _ _ _)) (fun d hd e => by have e2 : d = w.heap.size + 1 := e; omega)).mono (fun d hd => by omega)
def UpAns (w : World) (R : List RowV × Int) (e : Ending) (w' : World) : Prop := ∃ a c, e = .returned (.tuple #[.slice a R.1.length c, .int .i64 R.2]) ∧ Rd w' (fun d => w.heap.size ≤ d ∧ d < w'.heap.size) (dRowS R.1) (.slice a R.1.length c) ∧ Below w.heap.size w w'
theorem UpAns.nil {w w' : World} {R : List RowV × Int} {n : Int} {a : Option Addr} {c : Nat} (hR : R = ([], n)) (hB : Below w.heap.size w w') : UpAns w R (.returned (.tuple #[.slice a 0 c, .int .i64 n])) w' := by
  subst hR; exact ⟨a, c, rfl, Rd.lsNil _ _, hB⟩
theorem UpB.ans {w W : World} {l : List RowV} {xa : Option Addr} {xc : Nat} {R : List RowV × Int} {n : Int} {ra : Option Addr} {rc : Nat} (h : UpB w W l xa xc) (hR : R = (l, n)) (hr : Rd W (fun d => w.heap.size + 1 < d) (dRowS l) (.slice ra l.length rc)) : UpAns w R (.returned (.tuple #[.slice ra l.length rc, .int .i64 n])) W := by
  subst hR
  exact ⟨ra, rc, rfl, (Rd.inside _ _ hr).mono (fun d hd => ⟨by have := hd.1; omega, hd.2⟩), h.bel⟩
theorem UpB.tab {w W : World} {l : List RowV} {xa : Option Addr} {xc : Nat} (h : UpB w W l xa xc) : ∃ tb to' ra rc, xa = some ⟨tb, to', none⟩ ∧ w.heap.size + 1 < tb ∧ W.cell? ⟨tb, to', none⟩ = some (.slice ra l.length rc) ∧ Rd W (fun d => w.heap.size + 1 < d) (dRowS l) (.slice ra l.length rc) := by
  obtain ⟨tb, to', rfl, htb, tc⟩ := Rd.things (d := cRowS) (n := 1) (l := [l]) h.rd 0 (by simp)
  obtain ⟨u0, t0, q0⟩ := tc 0 (by omega)
  replace q0 : Rd W (fun d => w.heap.size + 1 < d) (dRowS l) u0 := q0
  obtain ⟨ra, rc, rfl⟩ := q0.lsSlice
  rw [Nat.zero_mul, Nat.add_zero] at t0
  exact ⟨tb, to', ra, rc, rfl, htb, t0, q0⟩
structure UpC (w W : World) (l : List RowV) (xa : Option Addr) (xc : Nat) (q q' : Nat) (us cs : Array Value) : Prop where
  ap : UpB w W l xa xc
  ub : W.heap[q]? = some (.cells us 53)
  cb : W.heap[q']? = some (.cells cs 55)
  lo : w.heap.size + 1 < q ∧ w.heap.size + 1 < q'
theorem UpC.later {w W W' : World} {l : List RowV} {xa : Option Addr} {xc : Nat} {q q' : Nat} {us cs : Array Value} (h : UpC w W l xa xc q q' us cs) (hB : Below W.heap.size W W') : UpC w W' l xa xc q q' us cs := ⟨h.ap.later hB, heap_keptD h.ub hB, heap_keptD h.cb hB, h.lo⟩
theorem UpC.drew {w W : World} {l : List RowV} {xa : Option Addr} {xc : Nat} {q q' : Nat} {us cs : Array Value} (h : UpC w W l xa xc q q' us cs) : UpC w W.drew l xa xc q q' us cs := h.later (Below.refl _ _).drew
set_option maxRecDepth 100000 in
set_option maxHeartbeats 25600000 in
theorem upS (l : List RowV) (us : List UpV) (la : Option Addr) (lc : Nat) (A : Nat → Prop) (ua : Option Addr) (uc : Nat) (B : Nat → Prop) (w : World) (hl : (dRowS l).le 1048576) (hu : (dUpdateS us).le 1048576) (rl : Rd w A (dRowS l) (.slice la l.length lc)) (ru : Rd w B (dUpdateS us) (.slice ua us.length uc)) :
    Calls Try.prog 6 #[.slice la l.length lc, .slice ua us.length uc] w (UpAns w (upR l us)) := by
  generalize hR : upR l us = R
  have HR := Lib.hid hR
  clear hR
  have hll : l.length ≤ 1048576 := (Ls_le.1 hl).2.1
  have hul : us.length ≤ 1048576 := (Ls_le.1 hu).2.1
  by_cases h1 : 4096 < l.length
  · have HV := Lib.hid (HR.out.symm.trans (upR_long (.inl h1)))
    have d1 : decide ((l.length : Int) > 4096) = true := by simp; omega
    have d2 : decide ((4096 : Int) < (l.length : Int)) = true := by simp; omega
    clear h1 rl ru hl hu
    go_enter Try.func6, Try.ntmps6
    go_wp2_with fail
    go_ret2
    exact UpAns.nil HV.out ((Below.refl _ _).alloc (Nat.le_refl _) _)
  have d1 : decide ((l.length : Int) > 4096) = false := by simp; omega
  have d2 : decide ((4096 : Int) < (l.length : Int)) = false := by simp; omega
  by_cases h2 : 4096 < us.length
  · have HV := Lib.hid (HR.out.symm.trans (upR_long (.inr h2)))
    have d3 : decide ((us.length : Int) > 4096) = true := by simp; omega
    have d4 : decide ((4096 : Int) < (us.length : Int)) = true := by simp; omega
    clear h1 h2 rl ru hl hu
    go_enter Try.func6, Try.ntmps6
    go_wp2_with fail
    go_ret2
    exact UpAns.nil HV.out ((Below.refl _ _).alloc (Nat.le_refl _) _)
  have d3 : decide ((us.length : Int) > 4096) = false := by simp; omega
  have d4 : decide ((4096 : Int) < (us.length : Int)) = false := by simp; omega
  obtain ⟨V0, hV0⟩ : ∃ V0, V0 = ((w.alloc (.cells #[.slice la l.length lc] 26)).alloc (.cells #[.slice (some ⟨w.heap.size, 0, none⟩) 1 1, .int .i64 0] 46)) := ⟨_, rfl⟩
  have hs0 : V0.heap.size = w.heap.size + 1 + 1 := by rw [hV0]; simp
  have hB0 : Below w.heap.size w V0 := by rw [hV0]; exact (below_allocD _ _).trans ((below_allocD _ _).mono (by simp))
  have h00 : V0.heap[w.heap.size]? = some (.cells #[.slice la l.length lc] 26) := by rw [hV0]; exact heap_keptD (heap_newD _ _) (below_allocD _ _)
  have h01 : V0.heap[w.heap.size + 1]? = some (.cells #[.slice (some ⟨w.heap.size, 0, none⟩) 1 1, .int .i64 0] 46) := by
    have h := heap_newD (w.alloc (.cells #[.slice la l.length lc] 26)) (.cells #[.slice (some ⟨w.heap.size, 0, none⟩) 1 1, .int .i64 0] 46)
    rw [size_allocD] at h
    rw [hV0]; exact h
  have HRD : Hid (∀ W, Below V0.heap.size V0 W → Rd W (fun _ => True) (dRowSS [l]) (.slice (some ⟨w.heap.size, 0, none⟩) 1 1)) := fun W h => rd_one (cell_at (o := 0) (heap_keptD h00 h) rfl) ((rl.later (hB0.trans (h.mono hB0.size))).any)
  have HBX : Hid (∀ W, Below V0.heap.size V0 W → W.heap[w.heap.size + 1]? = some (.cells #[.slice (some ⟨w.heap.size, 0, none⟩) 1 1, .int .i64 0] 46)) := fun W h => heap_keptD h01 h
  have hle1 := one_le hl
  have PL : Hid (∀ W, Below V0.heap.size V0 W → Calls Try.prog 17 #[.agg #[.slice (some ⟨w.heap.size, 0, none⟩) 1 1, .int .i64 0]] W fun e w' => e = .returned (.bool (plainB ⟨[l], 0⟩)) ∧ Below W.heap.size W w') := fun W h => plainS ⟨[l], 0⟩ (some ⟨w.heap.size, 0, none⟩) 1 _ W (D.le.mono (by unfold maxLen; omega) _ hle1) (HRD.out W h)
  have OS : Hid (∀ W, Below V0.heap.size V0 W → Calls Try.prog 18 #[.agg #[.slice (some ⟨w.heap.size, 0, none⟩) 1 1, .int .i64 0]] W fun e w' => ∃ ra rc, e = .returned (.agg #[.slice ra 1 rc, .int .i64 0]) ∧ Rd w' (fun d => W.heap.size ≤ d) (dRowSS [l]) (.slice ra 1 rc) ∧ Below W.heap.size W w') := fun W h => (ownS ⟨[l], 0⟩ (some ⟨w.heap.size, 0, none⟩) 1 _ W hle1 (HRD.out W h)).mono (fun e w' ⟨ra, rc, he, hsq, hB⟩ => ⟨ra, rc, he, (hsq.rd (by omega) (fun g hg => (hsq.low hg).1)).mono (fun d hd => hd.1), hB⟩)
  have HL : Hid (Rd w B (Ls 5 dUpdate us) (.slice ua us.length uc)) := ru
  have HLO : Hid (∀ k (h : k < us.length) j, j < 5 → (dUpdate us[k] j).le 1048576) := (Ls_le.1 hu).2.2
  have HLL := Lib.hid hl
  have H12 := Lib.hid (And.intro h1 h2)
  have HS0 := Lib.hid hs0
  have HB0 := Lib.hid hB0
  have HV0 := Lib.hid hV0
  have x0 := cell_at (o := 0) h01 rfl
  have x1 := cell_at (o := 1) h01 rfl
  rw [hV0] at x0 x1
  clear hl hu rl ru hle1 h1 h2 h00 h01 hB0 hV0 hs0
  cases hp : plainB ⟨[l], 0⟩
  case false =>
    have HV : Hid (R = ([], 1)) := HR.out.symm.trans (upR_bad H12.out.1 H12.out.2 (fun h => by
      have hy : plainB ⟨[l], 0⟩ = true := plain_yes (fun i hi => by
        have e : i = 0 := by simpa using hi
        subst e; exact h)
      rw [hy] at hp; simp at hp))
    rw [hp] at PL
    clear hp
    go_enter Try.func6, Try.ntmps6
    go_wp2_with fail
    rw [← HV0.out]
    refine (PL.out _ (Below.refl _ _)).mono ?_
    rintro e w1 ⟨rfl, hB⟩
    have HB1 := Lib.hid (HB0.out.trans (hB.mono HB0.out.size))
    clear hB x0 x1
    go_wp2_with fail
    go_ret2
    exact UpAns.nil HV.out (HB1.out.alloc HB1.out.size _)
  have HRI : Hid (riseIds l) := (plain_of hp) 0 (by simp)
  have HRU : Hid (R = upL l us) := HR.out.symm.trans (upR_ok H12.out.1 H12.out.2 HRI.out)
  have HUP : Hid (UpP l (4096 + 0)) := ⟨asc_of HRI.out, le_rows HLL.out, by have := H12.out.1; omega⟩
  rw [hp] at PL
  clear hp HR
  go_enter Try.func6, Try.ntmps6
  go_wp2_with fail
  rw [← HV0.out]
  refine (PL.out _ (Below.refl _ _)).mono ?_
  rintro e w1 ⟨rfl, hB⟩
  have HB1 := Lib.hid hB
  clear hB x0 x1
  have x0 := cell_at (o := 0) (HBX.out _ HB1.out) rfl
  have x1 := cell_at (o := 1) (HBX.out _ HB1.out) rfl
  go_wp2_with fail
  refine (OS.out _ HB1.out).mono ?_
  rintro e w2 ⟨oa, oc, rfl, hrd, hB⟩
  have hB2 := HB1.out.trans (hB.mono HB1.out.size)
  have hbx := HBX.out _ hB2
  have H1 : Hid (UpB w ((w2.setCell ⟨w.heap.size + 1, 0, none⟩ (.slice oa 1 oc)).setCell ⟨w.heap.size + 1, 1, none⟩ (.int .i64 0)) l oa oc) := by
    have hlo : w.heap.size + 1 + 1 ≤ w1.heap.size := by have h3 := HB1.out.size; have h4 := HS0.out; omega
    refine ⟨by rw [heap_set 1 _ (heap_set 0 _ hbx)]; rfl, ?_, ((HB0.out.trans (hB2.mono HB0.out.size)).setCell (by show w.heap.size ≤ w.heap.size + 1; omega) _).setCell (by show w.heap.size ≤ w.heap.size + 1; omega) _⟩
    exact (hrd.frm (F := (· = w.heap.size + 1)) ((frm_set _ _ _ _).trans (frm_set _ _ _ _)) (fun d hd e => by have e2 : d = w.heap.size + 1 := e; omega)).mono (fun d hd => by omega)
  clear x0 x1
  have x0 := cell_at (o := 0) hbx rfl
  have x1 := cell_at (o := 1) hbx rfl
  have f0 := frozen_at 0 hbx
  have f1 := frozen_at 1 hbx
  clear hrd hB hB2 hbx
  go_wp2_with fail
  clear x0 x1 f0 f1
  go_loopw [7] (fun i wr => ∃ k : Nat, k ≤ us.length ∧ i = .int .i64 k ∧ Hid (∃ (X : List RowV) (xa : Option Addr) (xc : Nat), R = upL X (us.drop k) ∧ UpP X (4096 + k) ∧ UpB w wr X xa xc)) (fun i _ => us.length - (intOf i).toNat)
  case atStart => exact ⟨0, Nat.zero_le _, rfl, l, oa, oc, HRU.out, HUP.out, H1.out⟩
  case round =>
    obtain ⟨k, hk, rfl, HW0⟩ := hrel
    obtain ⟨X, xa, xc, hRX, hXP, hAB⟩ := HW0.out
    obtain ⟨tb, to', ra, rc, rfl, htb, ht0, hrt⟩ := hAB.tab
    have HRX := Lib.hid hRX
    have HP := Lib.hid hXP
    have HW := Lib.hid hAB
    have TC : Hid (∀ W, Below wr.heap.size wr W → W.cell? ⟨tb, to', none⟩ = some (.slice ra X.length rc)) := fun W h => (h.cell (p := ⟨tb, to', none⟩) (World.block_lt_of_cell? _ _ ht0)).trans ht0
    have RT : Hid (∀ W, Below wr.heap.size wr W → Rd W (fun d => w.heap.size + 1 < d) (dRowS X) (.slice ra X.length rc)) := fun W h => hrt.later h
    have HTB : Hid (w.heap.size + 1 < tb) := htb
    clear hRX hXP hAB HW0 ht0 hrt htb H1
    by_cases hlt : k < us.length
    case neg =>
      have hki : decide ((k : Int) < (us.length : Int)) = false := by simp; omega
      have HE : Hid (R = (X, 0)) := by rw [HRX.out, List.drop_of_length_le (by omega)]; rfl
      have x0 := cell_at (o := 0) HW.out.bx rfl
      have t0 := TC.out _ (Below.refl _ _)
      go_wp2_with fail
      go_ret2
      exact HW.out.ans HE.out (RT.out _ (Below.refl _ _))
    have hki : (k : Int) < (us.length : Int) := by omega
    obtain ⟨b, off, rfl, -, hc⟩ := HL.out.things k hlt
    have HCK : Hid (us.drop k = us[k] :: us.drop (k + 1)) := drop_at hlt
    obtain ⟨u0, c0, r0⟩ := hc 0 (by omega)
    obtain rfl : u0 = .int .i64 us[k].uid := r0
    rw [Nat.add_zero] at c0
    obtain ⟨u1, c1, r1⟩ := hc 1 (by omega)
    obtain rfl : u1 = .int .i64 us[k].oid := r1
    obtain ⟨u3, c3, r3⟩ := hc 3 (by omega)
    obtain rfl : u3 = .int .i64 us[k].nid := r3
    obtain ⟨u2, c2, r2⟩ := hc 2 (by omega)
    replace r2 : Rd w B (dAtomSS us[k].ocs) u2 := r2
    obtain ⟨a2, q2, rfl⟩ := r2.lsSlice
    obtain ⟨u4, c4, r4⟩ := hc 4 (by omega)
    replace r4 : Rd w B (dAtomSS us[k].ncs) u4 := r4
    obtain ⟨a4, q4, rfl⟩ := r4.lsSlice
    have HRO : Hid (∀ W, Below w.heap.size w W → Rd W B (dAtomSS us[k].ocs) (.slice a2 us[k].ocs.length q2) ∧ Rd W B (dAtomSS us[k].ncs) (.slice a4 us[k].ncs.length q4)) := fun W h => ⟨r2.later h, r4.later h⟩
    have HCO : Hid (iOK us[k].nid ∧ (dAtomSS us[k].ocs).le 1048576 ∧ (dAtomSS us[k].ncs).le 1048576) := ⟨HLO.out k hlt 3 (by omega), HLO.out k hlt 2 (by omega), HLO.out k hlt 4 (by omega)⟩
    have HCC : Hid (∀ W, Below w.heap.size w W → W.cell? ⟨b, off + k * 5, none⟩ = some (.int .i64 us[k].uid) ∧ W.cell? ⟨b, off + k * 5 + 1, none⟩ = some (.int .i64 us[k].oid) ∧ W.cell? ⟨b, off + k * 5 + 2, none⟩ = some (.slice a2 us[k].ocs.length q2) ∧ W.cell? ⟨b, off + k * 5 + 3, none⟩ = some (.int .i64 us[k].nid) ∧ W.cell? ⟨b, off + k * 5 + 4, none⟩ = some (.slice a4 us[k].ncs.length q4)) := fun W h => ⟨(h.cell (p := ⟨b, off + k * 5, none⟩) (World.block_lt_of_cell? _ _ c0)).trans c0, (h.cell (p := ⟨b, off + k * 5 + 1, none⟩) (World.block_lt_of_cell? _ _ c1)).trans c1, (h.cell (p := ⟨b, off + k * 5 + 2, none⟩) (World.block_lt_of_cell? _ _ c2)).trans c2, (h.cell (p := ⟨b, off + k * 5 + 3, none⟩) (World.block_lt_of_cell? _ _ c3)).trans c3, (h.cell (p := ⟨b, off + k * 5 + 4, none⟩) (World.block_lt_of_cell? _ _ c4)).trans c4⟩
    clear hc r2 r4 c0 c1 c2 c3 c4
    have HRC : Hid (R = upL X (us[k] :: us.drop (k + 1))) := by rw [← HCK.out]; exact HRX.out
    clear HCK
    generalize us[k] = u at *
    obtain ⟨uid, oid, ocs, nid, ncs⟩ := u
    dsimp only at *
    have h70 := heap_newD wr (.cells #[.int .i64 uid, .int .i64 oid, .slice a2 ocs.length q2, .int .i64 nid, .slice a4 ncs.length q4] 53)
    have m0 := cell_at (o := 0) h70 rfl
    have m1 := cell_at (o := 1) h70 rfl
    have m2 := cell_at (o := 2) h70 rfl
    have m3 := cell_at (o := 3) h70 rfl
    have m4 := cell_at (o := 4) h70 rfl
    obtain ⟨c0, c1, c2, c3, c4⟩ := HCC.out _ HW.out.bel
    have HV : Hid (UpC w ((wr.alloc (.cells #[.int .i64 uid, .int .i64 oid, .slice a2 ocs.length q2, .int .i64 nid, .slice a4 ncs.length q4] 53)).alloc (.cells #[.int .i64 0, .int .i64 uid, .int .i64 oid, .slice a2 ocs.length q2, .int .i64 nid, .slice a4 ncs.length q4] 55)) X (some ⟨tb, to', none⟩) xc wr.heap.size (wr.heap.size + 1) #[.int .i64 uid, .int .i64 oid, .slice a2 ocs.length q2, .int .i64 nid, .slice a4 ncs.length q4] #[.int .i64 0, .int .i64 uid, .int .i64 oid, .slice a2 ocs.length q2, .int .i64 nid, .slice a4 ncs.length q4]) := ⟨(HW.out.later (below_allocD _ _)).later (below_allocD _ _), heap_keptD h70 (below_allocD _ _), by have h := heap_newD (wr.alloc (.cells #[.int .i64 uid, .int .i64 oid, .slice a2 ocs.length q2, .int .i64 nid, .slice a4 ncs.length q4] 53)) (.cells #[.int .i64 0, .int .i64 uid, .int .i64 oid, .slice a2 ocs.length q2, .int .i64 nid, .slice a4 ncs.length q4] 55); rw [size_allocD] at h; exact h, by have := (Array.getElem?_eq_some_iff.1 HW.out.bx).1; omega⟩
    have HBV0 : Hid (Below wr.heap.size wr ((wr.alloc (.cells #[.int .i64 uid, .int .i64 oid, .slice a2 ocs.length q2, .int .i64 nid, .slice a4 ncs.length q4] 53)).alloc (.cells #[.int .i64 0, .int .i64 uid, .int .i64 oid, .slice a2 ocs.length q2, .int .i64 nid, .slice a4 ncs.length q4] 55))) := (below_allocD _ _).trans ((below_allocD _ _).mono (by simp))
    clear h70
    go_upto_region 12 with fail
    clear c0 c1 c2 c3 c4 m0 m1 m2 m3 m4
    obtain ⟨V, hV⟩ : ∃ V, V = ((wr.alloc (.cells #[.int .i64 uid, .int .i64 oid, .slice a2 ocs.length q2, .int .i64 nid, .slice a4 ncs.length q4] 53)).alloc (.cells #[.int .i64 0, .int .i64 uid, .int .i64 oid, .slice a2 ocs.length q2, .int .i64 nid, .slice a4 ncs.length q4] 55)) := ⟨_, rfl⟩
    rw [← hV] at HV HBV0 ⊢
    have HBV := HBV0
    clear hV HBV0
    obtain ⟨qb, hqb⟩ : ∃ qb, qb = wr.heap.size := ⟨_, rfl⟩
    obtain ⟨qc, hqc⟩ : ∃ qc, qc = wr.heap.size + 1 := ⟨_, rfl⟩
    rw [← hqc, ← hqb] at HV
    rw [← hqc, ← hqb]
    clear hqb hqc
    have KI : Hid (∀ W, UpC w W X (some ⟨tb, to', none⟩) xc qb qc #[.int .i64 uid, .int .i64 oid, .slice a2 ocs.length q2, .int .i64 nid, .slice a4 ncs.length q4] #[.int .i64 0, .int .i64 uid, .int .i64 oid, .slice a2 ocs.length q2, .int .i64 nid, .slice a4 ncs.length q4] → Calls Try.prog 19 #[.agg #[.int .i64 0, .int .i64 uid, .int .i64 oid, .slice a2 ocs.length q2, .int .i64 nid, .slice a4 ncs.length q4]] W fun e w' => e = .returned (.int .i64 (kindC ⟨0, uid, oid, ocs, nid, ncs⟩)) ∧ UpC w w' X (some ⟨tb, to', none⟩) xc qb qc #[.int .i64 uid, .int .i64 oid, .slice a2 ocs.length q2, .int .i64 nid, .slice a4 ncs.length q4] #[.int .i64 0, .int .i64 uid, .int .i64 oid, .slice a2 ocs.length q2, .int .i64 nid, .slice a4 ncs.length q4] ∧ Below W.heap.size W w') := fun W h => (kindS ⟨0, uid, oid, ocs, nid, ncs⟩ a2 q2 a4 q4 W).mono (fun e w' ⟨he, hB⟩ => ⟨he, h.later hB, hB⟩)
    have y0 := cell_at (o := 0) HV.out.ub rfl
    have y1 := cell_at (o := 1) HV.out.ub rfl
    have y2 := cell_at (o := 2) HV.out.ub rfl
    have y3 := cell_at (o := 3) HV.out.ub rfl
    have y4 := cell_at (o := 4) HV.out.ub rfl
    have z0 := cell_at (o := 0) HV.out.cb rfl
    have z1 := cell_at (o := 1) HV.out.cb rfl
    have z2 := cell_at (o := 2) HV.out.cb rfl
    have z3 := cell_at (o := 3) HV.out.cb rfl
    have z4 := cell_at (o := 4) HV.out.cb rfl
    have z5 := cell_at (o := 5) HV.out.cb rfl
    have x0 := cell_at (o := 0) HV.out.ap.bx rfl
    have x1 := cell_at (o := 1) HV.out.ap.bx rfl
    have t0 := TC.out _ HBV.out
    by_cases h1 : uid < 1
    case pos =>
      have e1 : decide (uid < 1) = true := decide_eq_true h1
      have HE : Hid (R = (X, 1)) := HRC.out.trans (up_end (in_bad (.inl h1)) (by decide))
      clear h1 KI
      go_wp2_with fail
      go_ret2
      exact HV.out.ap.ans HE.out (RT.out _ HBV.out)
    have e1 : decide (uid < 1) = false := decide_eq_false h1
    go_wp2_with fail
    refine (KI.out _ HV.out).mono ?_
    rintro e v1 ⟨rfl, hb, hB⟩
    have HV1 := Lib.hid hb
    have HB1v : Hid (Below wr.heap.size wr v1) := HBV.out.trans (hB.mono HBV.out.size)
    clear y0 y1 y2 y3 y4 z0 z1 z2 z3 z4 z5 x0 x1 t0
    clear hb hB
    have y0 := cell_at (o := 0) HV1.out.ub rfl
    have y1 := cell_at (o := 1) HV1.out.ub rfl
    have y2 := cell_at (o := 2) HV1.out.ub rfl
    have y3 := cell_at (o := 3) HV1.out.ub rfl
    have y4 := cell_at (o := 4) HV1.out.ub rfl
    have z0 := cell_at (o := 0) HV1.out.cb rfl
    have z1 := cell_at (o := 1) HV1.out.cb rfl
    have z2 := cell_at (o := 2) HV1.out.cb rfl
    have z3 := cell_at (o := 3) HV1.out.cb rfl
    have z4 := cell_at (o := 4) HV1.out.cb rfl
    have z5 := cell_at (o := 5) HV1.out.cb rfl
    have x0 := cell_at (o := 0) HV1.out.ap.bx rfl
    have x1 := cell_at (o := 1) HV1.out.ap.bx rfl
    have t0 := TC.out _ HB1v.out
    by_cases h3 : kindC ⟨0, uid, oid, ocs, nid, ncs⟩ = 0
    case pos =>
      have HE : Hid (R = (X, 1)) := HRC.out.trans (up_end (in_bad (.inr h3)) (by decide))
      have k0 : (kindC ⟨0, uid, oid, ocs, nid, ncs⟩ == 0) = true := by simpa using h3
      clear h3 KI
      generalize kindC ⟨0, uid, oid, ocs, nid, ncs⟩ = kc at *
      go_wp2_with fail
      go_ret2
      exact HV1.out.ap.ans HE.out (RT.out _ HB1v.out)
    have HNB : Hid (¬ ((chU ⟨uid, oid, ocs, nid, ncs⟩).cid < 1 ∨ kindC (chU ⟨uid, oid, ocs, nid, ncs⟩) = 0)) := fun h => by rcases h with h | h; (have h9 : uid < 1 := h; omega); exact h3 h
    have HKD := Lib.hid (up_kindd (u := ⟨uid, oid, ocs, nid, ncs⟩) (by show 1 ≤ uid; omega) h3)
    have HU1 : Hid (1 ≤ uid) := by show 1 ≤ uid; omega
    have k0 : (kindC ⟨0, uid, oid, ocs, nid, ncs⟩ == 0) = false := by simpa using h3
    clear h3 h1 KI
    have HTA : Hid ((dRowS X).le 1048576) := HP.out.le (by have := H12.out.2; omega)
    generalize hkc : kindC ⟨0, uid, oid, ocs, nid, ncs⟩ = kc at k0 ⊢
    have HKC := Lib.hid hkc
    clear hkc
    have L1 : Hid (∀ W, Below wr.heap.size wr W → Calls Try.prog 21 #[.slice ra X.length rc, .int .i64 uid] W (RowNew W (rowD X uid))) := fun W h => l10RowS X uid ra rc _ W HTA.out (RT.out W h)
    have HOL : Hid ((dAtomSS (rowD X uid).cells).le maxLen ∧ (dAtomSS ocs).le maxLen) := ⟨rowD_le6 HTA.out _, D.le.mono (by unfold maxLen; omega) _ HCO.out.2.1⟩
    have CE : Hid (∀ W, Below v1.heap.size v1 W → W.cell? ⟨w.heap.size + 1, 0, none⟩ = some (.slice (some ⟨tb, to', none⟩) 1 xc) ∧ W.cell? ⟨tb, to', none⟩ = some (.slice ra X.length rc) ∧ W.cell? ⟨qb, 0, none⟩ = some (.int .i64 uid) ∧ W.cell? ⟨qb, 1, none⟩ = some (.int .i64 oid) ∧ W.cell? ⟨qb, 2, none⟩ = some (.slice a2 ocs.length q2)) := fun W h => by
      have h2 := HV1.out.later h
      exact ⟨cell_at (o := 0) h2.ap.bx rfl, TC.out W (HB1v.out.trans (h.mono HB1v.out.size)), cell_at (o := 0) h2.ub rfl, cell_at (o := 1) h2.ub rfl, cell_at (o := 2) h2.ub rfl⟩
    go_wp2_with fail
    clear y0 y1 y2 y3 y4 z0 z1 z2 z3 z4 z5 x0 x1 t0
    refine wp_region_held_drew (S := (fun W => W.cell? ⟨w.heap.size + 1, 0, none⟩ = some (.slice (some ⟨tb, to', none⟩) 1 xc) ∧ W.cell? ⟨tb, to', none⟩ = some (.slice ra X.length rc) ∧ W.cell? ⟨qb, 0, none⟩ = some (.int .i64 uid) ∧ W.cell? ⟨qb, 1, none⟩ = some (.int .i64 oid) ∧ W.cell? ⟨qb, 2, none⟩ = some (.slice a2 ocs.length q2))) (by kernel_rfl) ?_ (fun hHeld => ?_)
    · (exact CE.out _ (by first | exact HB3.out | exact HB2.out | exact (Below.refl _ _).drew | exact Below.refl _ _))
    refine wpAnyH_take (i := 0) (v := ?_) rfl (by kernel_rfl) (by kernel_rfl) (by kernel_rfl) (fun _ _ _ h => h) (Or.inl ⟨by kernel_rfl, ?_⟩) (by assumption) ?_
    rotate_left
    · (intro wS hSw; (try dsimp only at hSw); go_simp <;> with_reducible rfl)
    try simp only [Act.put, tkS]
    refine wpAnyH_take (i := 1) (v := ?_) rfl (by kernel_rfl) (by kernel_rfl) (by kernel_rfl) (fun _ _ _ h => h) (Or.inl ⟨by kernel_rfl, ?_⟩) (by assumption) ?_
    rotate_left
    · (intro wS hSw; (try dsimp only at hSw); go_simp <;> with_reducible rfl)
    try simp only [Act.put, tkS]
    refine wpAnyH_take (i := 2) (v := ?_) rfl (by kernel_rfl) (by kernel_rfl) (by kernel_rfl) (fun _ _ _ h => h) (Or.inl ⟨by kernel_rfl, ?_⟩) (by assumption) ?_
    rotate_left
    · (intro wS hSw; (try dsimp only at hSw); go_simp <;> with_reducible rfl)
    try simp only [Act.put, tkS]
    refine wpAnyH_take (i := 3) (v := ?_) rfl (by kernel_rfl) (by kernel_rfl) (by kernel_rfl) (fun _ _ _ h => h) (Or.inl ⟨by kernel_rfl, ?_⟩) (by assumption) ?_
    rotate_left
    · (intro wS hSw; (try dsimp only at hSw); go_simp <;> with_reducible rfl)
    try simp only [Act.put, tkS]
    refine wpAnyH_take (i := 4) (v := ?_) rfl (by kernel_rfl) (by kernel_rfl) (by kernel_rfl) (fun _ _ _ h => h) (Or.inl ⟨by kernel_rfl, ?_⟩) (by assumption) ?_
    rotate_left
    · (intro wS hSw; (try dsimp only at hSw); go_simp <;> with_reducible rfl)
    try simp only [Act.put, tkS]
    refine wpAnyH_take (i := 5) (v := ?_) rfl (by kernel_rfl) (by kernel_rfl) (by kernel_rfl) (fun _ _ _ h => h) (Or.inl ⟨by kernel_rfl, ?_⟩) (by assumption) ?_
    rotate_left
    · (intro wS hSw; (try dsimp only at hSw); go_simp <;> with_reducible rfl)
    try simp only [Act.put, tkS]
    refine wpAnyH_take (i := 7) (v := ?_) rfl (by kernel_rfl) (by kernel_rfl) (by kernel_rfl) (fun _ _ _ h => h) (Or.inl ⟨by kernel_rfl, ?_⟩) (by assumption) ?_
    rotate_left
    · (intro wS hSw; (try dsimp only at hSw); go_simp <;> with_reducible rfl)
    try simp only [Act.put, tkS]
    refine wpAnyH_take (i := 8) (v := ?_) rfl (by kernel_rfl) (by kernel_rfl) (by kernel_rfl) (fun _ _ _ h => h) (Or.inl ⟨by kernel_rfl, ?_⟩) (by assumption) ?_
    rotate_left
    · (intro wS hSw; (try dsimp only at hSw); go_simp <;> with_reducible rfl)
    try simp only [Act.put, tkS]
    refine wpAnyH_ready (rs := [6]) (by kernel_rfl) (by simp) (AllReadyH.cons rfl (fun K hK => ?_) AllReadyH.nil)
    go_simp
    (go_at_call 21; refine (L1.out _ (HB1v.out.trans (Below.mono (by first | exact (Below.refl _ _).drew | exact Below.refl _ _) HB1v.out.size))).mono ?_; rintro e v2 ⟨oa2, oc2, rfl, hro, hB2⟩; have HB2 : Hid (Below v1.heap.size v1 v2) := (by first | exact (Below.refl _ _).drew.trans hB2 | exact hB2); have HRO2 := Lib.hid hro; clear hro hB2)
    refine hK.out _ _ ?_ (fun hHeld => ?_)
    · (exact CE.out _ (by first | exact HB3.out | exact HB2.out | exact (Below.refl _ _).drew | exact Below.refl _ _))
    clear hK K
    try simp only [Act.put, tkS]
    refine wpAnyH_ready (rs := [9]) (by kernel_rfl) (by simp) (AllReadyH.cons rfl (fun K hK => ?_) AllReadyH.nil)
    go_simp
    (go_at_call 20; refine (sameRowS (rowD X uid) ⟨oid, ocs⟩ oa2 oc2 a2 q2 _ _ v2 HOL.out.1 HOL.out.2 HRO2.out (HRO.out v2 ((HV1.out.ap.later HB2.out).bel)).1).mono ?_; rintro e v3 ⟨rfl, hB3⟩; have HB3 : Hid (Below v1.heap.size v1 v3) := HB2.out.trans (hB3.mono HB2.out.size); clear hB3)
    refine hK.out _ _ ?_ (fun hHeld => ?_)
    · (exact CE.out _ (by first | exact HB3.out | exact HB2.out | exact (Below.refl _ _).drew | exact Below.refl _ _))
    clear hK K
    try simp only [Act.put, tkS]
    refine wpAnyH_take (i := 10) (v := ?_) rfl (by kernel_rfl) (by kernel_rfl) (by kernel_rfl) (fun _ _ _ h => h) (Or.inl ⟨by kernel_rfl, ?_⟩) (by assumption) ?_
    rotate_left
    · (intro wS hSw; (try dsimp only at hSw); go_simp <;> with_reducible rfl)
    try simp only [Act.put, tkS]
    refine wpAnyH_done (by kernel_rfl) ?_ _
    have HV3 := Lib.hid (HV1.out.later HB3.out)
    have HB3w : Hid (Below wr.heap.size wr v3) := HB1v.out.trans (HB3.out.mono HB1v.out.size)
    clear HRO2 L1
    cases he : eqB (rowD X uid) ⟨oid, ocs⟩
    case false =>
      have HE : Hid (R = (X, 13)) := HRC.out.trans (up_end (in_ref HNB.out he) (by decide))
      clear he
      have y0 := cell_at (o := 0) HV3.out.ub rfl
      have y1 := cell_at (o := 1) HV3.out.ub rfl
      have y2 := cell_at (o := 2) HV3.out.ub rfl
      have y3 := cell_at (o := 3) HV3.out.ub rfl
      have y4 := cell_at (o := 4) HV3.out.ub rfl
      have z0 := cell_at (o := 0) HV3.out.cb rfl
      have z1 := cell_at (o := 1) HV3.out.cb rfl
      have z2 := cell_at (o := 2) HV3.out.cb rfl
      have z3 := cell_at (o := 3) HV3.out.cb rfl
      have z4 := cell_at (o := 4) HV3.out.cb rfl
      have z5 := cell_at (o := 5) HV3.out.cb rfl
      have x0 := cell_at (o := 0) HV3.out.ap.bx rfl
      have x1 := cell_at (o := 1) HV3.out.ap.bx rfl
      have t0 := TC.out _ HB3w.out
      go_wp2_with fail
      go_ret2
      exact HV3.out.ap.ans HE.out (RT.out _ HB3w.out)
    have HEQ : Hid (eqB (rowD X uid) ⟨oid, ocs⟩ = true ∧ rowD X uid = ⟨oid, ocs⟩) := ⟨he, eqB_iff.1 he⟩
    clear he
    have y0 := cell_at (o := 0) HV3.out.ub rfl
    have y1 := cell_at (o := 1) HV3.out.ub rfl
    have y2 := cell_at (o := 2) HV3.out.ub rfl
    have y3 := cell_at (o := 3) HV3.out.ub rfl
    have y4 := cell_at (o := 4) HV3.out.ub rfl
    have z0 := cell_at (o := 0) HV3.out.cb rfl
    have z1 := cell_at (o := 1) HV3.out.cb rfl
    have z2 := cell_at (o := 2) HV3.out.cb rfl
    have z3 := cell_at (o := 3) HV3.out.cb rfl
    have z4 := cell_at (o := 4) HV3.out.cb rfl
    have z5 := cell_at (o := 5) HV3.out.cb rfl
    have x0 := cell_at (o := 0) HV3.out.ap.bx rfl
    have x1 := cell_at (o := 1) HV3.out.ap.bx rfl
    have t0 := TC.out _ HB3w.out
    by_cases h2 : nid = 0
    case pos =>
      have k2 : (nid == 0) = true := by simpa using h2
      have hk2 : kindC (chU ⟨uid, oid, ocs, nid, ncs⟩) = 2 := HKD.out.1 h2
      have HD : Hid (∃ k5 : Nat, ∃ hk5 : k5 < X.length, rplI X uid = k5) := by
        obtain ⟨k5, hk5, h5, -⟩ := rowD_there HU1.out (kind_old hk2) HEQ.out.2
        exact ⟨k5, hk5, h5⟩
      obtain ⟨k5, hk5, hp5⟩ := HD.out
      have HRD2 : Hid (R = upL (X.eraseIdx k5) (us.drop (k + 1))) := by
        have h := in_drop (m := 9223372036854775807) HNB.out HEQ.out.1 hk2
        rw [show (chU ⟨uid, oid, ocs, nid, ncs⟩).cid = uid from rfl, hp5, Int.toNat_natCast] at h
        exact HRC.out.trans (up_go h)
      have HP5 : Hid (UpP (X.eraseIdx k5) (4096 + (k + 1))) := HP.out.drop k5
      clear HD h2 hk2
      have L2 : Hid (∀ W, Below v1.heap.size v1 W → Calls Try.prog 23 #[.slice ra X.length rc, .int .i64 uid] W fun e w' => e = .returned (.int .i64 (k5 : Int)) ∧ Below W.heap.size W w') := fun W h => by
        have h9 := rplS X ra rc uid _ W (by have := (Ls_le.1 HTA.out).2.1; unfold maxLen; omega) (RT.out W (HB1v.out.trans (h.mono HB1v.out.size)))
        rw [hp5] at h9; exact h9
      have L3 : Hid (∀ W, Below v1.heap.size v1 W → Calls Try.prog 22 #[.agg #[.slice (some ⟨tb, to', none⟩) 1 xc, .int .i64 0], .int .i64 0, .int .i64 (k5 : Int)] W fun e w' => ∃ da dc, e = .returned (.agg #[.slice da 1 dc, .int .i64 0]) ∧ Rd w' (fun d => W.heap.size ≤ d ∧ d < w'.heap.size) (dRowSS [X.eraseIdx k5]) (.slice da 1 dc) ∧ Below W.heap.size W w') := fun W h => ldropS ⟨[X], 0⟩ 0 k5 (by simp) hk5 (some ⟨tb, to', none⟩) xc _ W (one_le HTA.out) (HV1.out.later h).ap.rd
      have CE2 : Hid (∀ W, Below v1.heap.size v1 W → W.cell? ⟨tb, to', none⟩ = some (.slice ra X.length rc) ∧ W.cell? ⟨qb, 0, none⟩ = some (.int .i64 uid)) := fun W h => by
        have h2 := HV1.out.later h
        exact ⟨TC.out W (HB1v.out.trans (h.mono HB1v.out.size)), cell_at (o := 0) h2.ub rfl⟩
      have CE3 : Hid (∀ W u v, Below v1.heap.size v1 W → ((W.setCell ⟨w.heap.size + 1, 0, none⟩ u).setCell ⟨w.heap.size + 1, 1, none⟩ v).cell? ⟨tb, to', none⟩ = some (.slice ra X.length rc) ∧ ((W.setCell ⟨w.heap.size + 1, 0, none⟩ u).setCell ⟨w.heap.size + 1, 1, none⟩ v).cell? ⟨qb, 0, none⟩ = some (.int .i64 uid)) := fun W u v h => by
        have h2 := CE2.out W h
        have hlo := HV1.out.lo; have htb := HTB.out
        have e : ∀ (b o : Nat), b ≠ w.heap.size + 1 → ((W.setCell ⟨w.heap.size + 1, 0, none⟩ u).setCell ⟨w.heap.size + 1, 1, none⟩ v).cell? ⟨b, o, none⟩ = W.cell? ⟨b, o, none⟩ := fun b o hb => World.cell?_of_block (by show ((W.setCell ⟨w.heap.size + 1, 0, none⟩ u).setCell ⟨w.heap.size + 1, 1, none⟩ v).heap[b]? = _; rw [Below.heap_setCell _ _ _ _ (by show b ≠ w.heap.size + 1; exact hb), Below.heap_setCell _ _ _ _ (by show b ≠ w.heap.size + 1; exact hb)])
        rw [e _ _ (by omega), e _ _ (by omega)]; exact h2
      clear z0 z1 z2 z3 z4 z5 y1 y2 y4
      go_wp2_with fail
      clear t0 y0 y3
      refine wp_region_held_drew (S := (fun W => W.cell? ⟨tb, to', none⟩ = some (.slice ra X.length rc) ∧ W.cell? ⟨qb, 0, none⟩ = some (.int .i64 uid))) (by kernel_rfl) ?_ (fun hHeld => ?_)
      · (first | exact CE2.out _ HB6.out | exact CE2.out _ HB5.out | exact CE2.out _ HB3.out.drew | exact CE2.out _ HB3.out | exact CE3.out _ _ _ HB6.out)
      refine wpAnyH_take (i := 1) (v := ?_) rfl (by kernel_rfl) (by kernel_rfl) (by kernel_rfl) (fun _ _ _ h => h) (Or.inl ⟨by kernel_rfl, ?_⟩) (by assumption) ?_
      rotate_left
      · (intro wS hSw; (try dsimp only at hSw); go_simp <;> with_reducible rfl)
      try simp only [Act.put, tkS]
      refine wpAnyH_take (i := 5) (v := ?_) rfl (by kernel_rfl) (by kernel_rfl) (by kernel_rfl) (fun _ _ _ h => h) (Or.inl ⟨by kernel_rfl, ?_⟩) (by assumption) ?_
      rotate_left
      · (intro wS hSw; (try dsimp only at hSw); go_simp <;> with_reducible rfl)
      try simp only [Act.put, tkS]
      refine wpAnyH_take (i := 6) (v := ?_) rfl (by kernel_rfl) (by kernel_rfl) (by kernel_rfl) (fun _ _ _ h => h) (Or.inl ⟨by kernel_rfl, ?_⟩) (by assumption) ?_
      rotate_left
      · (intro wS hSw; (try dsimp only at hSw); go_simp <;> with_reducible rfl)
      try simp only [Act.put, tkS]
      refine wpAnyH_ready (rs := [0, 2]) (by kernel_rfl) (by simp) (AllReadyH.cons rfl (fun K hK => ?_) (AllReadyH.cons rfl (fun K hK => ?_) AllReadyH.nil))
      ·
        go_simp
        refine hK.out _ _ ?_ (fun hHeld => ?_)
        · (first | exact CE2.out _ HB6.out | exact CE2.out _ HB5.out | exact CE2.out _ HB3.out.drew | exact CE2.out _ HB3.out | exact CE3.out _ _ _ HB6.out)
        clear hK K
        try simp only [Act.put, tkS]
        refine wpAnyH_ready (rs := [2]) (by kernel_rfl) (by simp) (AllReadyH.cons rfl (fun K hK => ?_) AllReadyH.nil)
        go_simp
        refine hK.out _ _ ?_ (fun hHeld => ?_)
        · (first | exact CE2.out _ HB6.out | exact CE2.out _ HB5.out | exact CE2.out _ HB3.out.drew | exact CE2.out _ HB3.out | exact CE3.out _ _ _ HB6.out)
        clear hK K
        try simp only [Act.put, tkS]
        refine wpAnyH_take (i := 3) (v := ?_) rfl (by kernel_rfl) (by kernel_rfl) (by kernel_rfl) (fun _ _ _ h => h) (Or.inl ⟨by kernel_rfl, ?_⟩) (by assumption) ?_
        rotate_left
        · (intro wS hSw; (try dsimp only at hSw); go_simp <;> with_reducible rfl)
        try simp only [Act.put, tkS]
        refine wpAnyH_take (i := 4) (v := ?_) rfl (by kernel_rfl) (by kernel_rfl) (by kernel_rfl) (fun _ _ _ h => h) (Or.inl ⟨by kernel_rfl, ?_⟩) (by assumption) ?_
        rotate_left
        · (intro wS hSw; (try dsimp only at hSw); go_simp <;> with_reducible rfl)
        try simp only [Act.put, tkS]
        refine wpAnyH_ready (rs := [7]) (by kernel_rfl) (by simp) (AllReadyH.cons rfl (fun K hK => ?_) AllReadyH.nil)
        go_simp
        go_at_call 23
        refine (L2.out _ (by first | exact HB3.out.drew | exact HB3.out)).mono ?_
        rintro e v5 ⟨rfl, hB5⟩
        have HB5 : Hid (Below v1.heap.size v1 v5) := (by first | exact HB3.out.drew.trans (hB5.mono HB3.out.size) | exact HB3.out.trans (hB5.mono HB3.out.size))
        clear hB5
        refine hK.out _ _ ?_ (fun hHeld => ?_)
        · (first | exact CE2.out _ HB6.out | exact CE2.out _ HB5.out | exact CE2.out _ HB3.out.drew | exact CE2.out _ HB3.out | exact CE3.out _ _ _ HB6.out)
        clear hK K
        try simp only [Act.put, tkS]
        refine wpAnyH_ready (rs := [8]) (by kernel_rfl) (by simp) (AllReadyH.cons rfl (fun K hK => ?_) AllReadyH.nil)
        go_simp
        go_at_call 22
        refine (L3.out _ HB5.out).mono ?_
        rintro e v6 ⟨da, dc, rfl, hrd, hB6⟩
        have HB6 : Hid (Below v1.heap.size v1 v6) := HB5.out.trans (hB6.mono HB5.out.size)
        have hv6 := (HV1.out.later HB6.out).ap
        have HN6 : Hid (UpB w ((v6.setCell ⟨w.heap.size + 1, 0, none⟩ (.slice da 1 dc)).setCell ⟨w.heap.size + 1, 1, none⟩ (.int .i64 0)) (X.eraseIdx k5) da dc) := (HV1.out.later HB5.out).ap.put hB6 (hrd.mono (fun d hd => hd.1))
        clear hrd hB6 x0 x1
        have x0 := cell_at (o := 0) hv6.bx rfl
        have x1 := cell_at (o := 1) hv6.bx rfl
        have f0 := frozen_at 0 hv6.bx
        have f1 := frozen_at 1 hv6.bx
        clear hv6
        refine hK.out _ _ ?_ (fun hHeld => ?_)
        · (first | exact CE2.out _ HB6.out | exact CE2.out _ HB5.out | exact CE2.out _ HB3.out.drew | exact CE2.out _ HB3.out | exact CE3.out _ _ _ HB6.out)
        clear hK K
        try simp only [Act.put, tkS]
        refine wpAnyH_ready (rs := [9]) (by kernel_rfl) (by simp) (AllReadyH.cons rfl (fun K hK => ?_) AllReadyH.nil)
        go_simp
        refine hK.out _ _ ?_ (fun hHeld => ?_)
        · (first | exact CE2.out _ HB6.out | exact CE2.out _ HB5.out | exact CE2.out _ HB3.out.drew | exact CE2.out _ HB3.out | exact CE3.out _ _ _ HB6.out)
        clear hK K
        try simp only [Act.put, tkS]
        refine wpAnyH_done (by kernel_rfl) ?_ _
        clear x0 x1 f0 f1
        go_wp2_with fail
        go_roundw
        case rel => exact ⟨k + 1, by omega, by go_num, X.eraseIdx k5, da, dc, HRD2.out, HP5.out, HN6.out⟩
        case measure => simp [intOf]; omega
      ·
        go_simp
        refine hK.out _ _ ?_ (fun hHeld => ?_)
        · (first | exact CE2.out _ HB6.out | exact CE2.out _ HB5.out | exact CE2.out _ HB3.out.drew | exact CE2.out _ HB3.out | exact CE3.out _ _ _ HB6.out)
        clear hK K
        try simp only [Act.put, tkS]
        refine wpAnyH_take (i := 3) (v := ?_) rfl (by kernel_rfl) (by kernel_rfl) (by kernel_rfl) (fun _ _ _ h => h) (Or.inl ⟨by kernel_rfl, ?_⟩) (by assumption) ?_
        rotate_left
        · (intro wS hSw; (try dsimp only at hSw); go_simp <;> with_reducible rfl)
        try simp only [Act.put, tkS]
        refine wpAnyH_take (i := 4) (v := ?_) rfl (by kernel_rfl) (by kernel_rfl) (by kernel_rfl) (fun _ _ _ h => h) (Or.inl ⟨by kernel_rfl, ?_⟩) (by assumption) ?_
        rotate_left
        · (intro wS hSw; (try dsimp only at hSw); go_simp <;> with_reducible rfl)
        try simp only [Act.put, tkS]
        refine wpAnyH_ready (rs := [0, 7]) (by kernel_rfl) (by simp) (AllReadyH.cons rfl (fun K hK => ?_) (AllReadyH.cons rfl (fun K hK => ?_) AllReadyH.nil))
        ·
          go_simp
          refine hK.out _ _ ?_ (fun hHeld => ?_)
          · (first | exact CE2.out _ HB6.out | exact CE2.out _ HB5.out | exact CE2.out _ HB3.out.drew | exact CE2.out _ HB3.out | exact CE3.out _ _ _ HB6.out)
          clear hK K
          try simp only [Act.put, tkS]
          refine wpAnyH_ready (rs := [7]) (by kernel_rfl) (by simp) (AllReadyH.cons rfl (fun K hK => ?_) AllReadyH.nil)
          go_simp
          go_at_call 23
          refine (L2.out _ (by first | exact HB3.out.drew | exact HB3.out)).mono ?_
          rintro e v5 ⟨rfl, hB5⟩
          have HB5 : Hid (Below v1.heap.size v1 v5) := (by first | exact HB3.out.drew.trans (hB5.mono HB3.out.size) | exact HB3.out.trans (hB5.mono HB3.out.size))
          clear hB5
          refine hK.out _ _ ?_ (fun hHeld => ?_)
          · (first | exact CE2.out _ HB6.out | exact CE2.out _ HB5.out | exact CE2.out _ HB3.out.drew | exact CE2.out _ HB3.out | exact CE3.out _ _ _ HB6.out)
          clear hK K
          try simp only [Act.put, tkS]
          refine wpAnyH_ready (rs := [8]) (by kernel_rfl) (by simp) (AllReadyH.cons rfl (fun K hK => ?_) AllReadyH.nil)
          go_simp
          go_at_call 22
          refine (L3.out _ HB5.out).mono ?_
          rintro e v6 ⟨da, dc, rfl, hrd, hB6⟩
          have HB6 : Hid (Below v1.heap.size v1 v6) := HB5.out.trans (hB6.mono HB5.out.size)
          have hv6 := (HV1.out.later HB6.out).ap
          have HN6 : Hid (UpB w ((v6.setCell ⟨w.heap.size + 1, 0, none⟩ (.slice da 1 dc)).setCell ⟨w.heap.size + 1, 1, none⟩ (.int .i64 0)) (X.eraseIdx k5) da dc) := (HV1.out.later HB5.out).ap.put hB6 (hrd.mono (fun d hd => hd.1))
          clear hrd hB6 x0 x1
          have x0 := cell_at (o := 0) hv6.bx rfl
          have x1 := cell_at (o := 1) hv6.bx rfl
          have f0 := frozen_at 0 hv6.bx
          have f1 := frozen_at 1 hv6.bx
          clear hv6
          refine hK.out _ _ ?_ (fun hHeld => ?_)
          · (first | exact CE2.out _ HB6.out | exact CE2.out _ HB5.out | exact CE2.out _ HB3.out.drew | exact CE2.out _ HB3.out | exact CE3.out _ _ _ HB6.out)
          clear hK K
          try simp only [Act.put, tkS]
          refine wpAnyH_ready (rs := [9]) (by kernel_rfl) (by simp) (AllReadyH.cons rfl (fun K hK => ?_) AllReadyH.nil)
          go_simp
          refine hK.out _ _ ?_ (fun hHeld => ?_)
          · (first | exact CE2.out _ HB6.out | exact CE2.out _ HB5.out | exact CE2.out _ HB3.out.drew | exact CE2.out _ HB3.out | exact CE3.out _ _ _ HB6.out)
          clear hK K
          try simp only [Act.put, tkS]
          refine wpAnyH_done (by kernel_rfl) ?_ _
          clear x0 x1 f0 f1
          go_wp2_with fail
          go_roundw
          case rel => exact ⟨k + 1, by omega, by go_num, X.eraseIdx k5, da, dc, HRD2.out, HP5.out, HN6.out⟩
          case measure => simp [intOf]; omega
        ·
          go_simp
          go_at_call 23
          refine (L2.out _ (by first | exact HB3.out.drew | exact HB3.out)).mono ?_
          rintro e v5 ⟨rfl, hB5⟩
          have HB5 : Hid (Below v1.heap.size v1 v5) := (by first | exact HB3.out.drew.trans (hB5.mono HB3.out.size) | exact HB3.out.trans (hB5.mono HB3.out.size))
          clear hB5
          have hv5 := HV1.out.later HB5.out
          clear x0 x1
          have x0 := cell_at (o := 0) hv5.ap.bx rfl
          have x1 := cell_at (o := 1) hv5.ap.bx rfl
          clear hv5
          refine hK.out _ _ ?_ (fun hHeld => ?_)
          · (first | exact CE2.out _ HB6.out | exact CE2.out _ HB5.out | exact CE2.out _ HB3.out.drew | exact CE2.out _ HB3.out | exact CE3.out _ _ _ HB6.out)
          clear hK K
          try simp only [Act.put, tkS]
          refine wpAnyH_ready (rs := [0]) (by kernel_rfl) (by simp) (AllReadyH.cons rfl (fun K hK => ?_) AllReadyH.nil)
          go_simp
          refine hK.out _ _ ?_ (fun hHeld => ?_)
          · (first | exact CE2.out _ HB6.out | exact CE2.out _ HB5.out | exact CE2.out _ HB3.out.drew | exact CE2.out _ HB3.out | exact CE3.out _ _ _ HB6.out)
          clear hK K
          try simp only [Act.put, tkS]
          refine wpAnyH_ready (rs := [8]) (by kernel_rfl) (by simp) (AllReadyH.cons rfl (fun K hK => ?_) AllReadyH.nil)
          go_simp
          go_at_call 22
          refine (L3.out _ HB5.out).mono ?_
          rintro e v6 ⟨da, dc, rfl, hrd, hB6⟩
          have HB6 : Hid (Below v1.heap.size v1 v6) := HB5.out.trans (hB6.mono HB5.out.size)
          have hv6 := (HV1.out.later HB6.out).ap
          have HN6 : Hid (UpB w ((v6.setCell ⟨w.heap.size + 1, 0, none⟩ (.slice da 1 dc)).setCell ⟨w.heap.size + 1, 1, none⟩ (.int .i64 0)) (X.eraseIdx k5) da dc) := (HV1.out.later HB5.out).ap.put hB6 (hrd.mono (fun d hd => hd.1))
          clear hrd hB6 x0 x1
          have x0 := cell_at (o := 0) hv6.bx rfl
          have x1 := cell_at (o := 1) hv6.bx rfl
          have f0 := frozen_at 0 hv6.bx
          have f1 := frozen_at 1 hv6.bx
          clear hv6
          refine hK.out _ _ ?_ (fun hHeld => ?_)
          · (first | exact CE2.out _ HB6.out | exact CE2.out _ HB5.out | exact CE2.out _ HB3.out.drew | exact CE2.out _ HB3.out | exact CE3.out _ _ _ HB6.out)
          clear hK K
          try simp only [Act.put, tkS]
          refine wpAnyH_ready (rs := [9]) (by kernel_rfl) (by simp) (AllReadyH.cons rfl (fun K hK => ?_) AllReadyH.nil)
          go_simp
          refine hK.out _ _ ?_ (fun hHeld => ?_)
          · (first | exact CE2.out _ HB6.out | exact CE2.out _ HB5.out | exact CE2.out _ HB3.out.drew | exact CE2.out _ HB3.out | exact CE3.out _ _ _ HB6.out)
          clear hK K
          try simp only [Act.put, tkS]
          refine wpAnyH_done (by kernel_rfl) ?_ _
          clear x0 x1 f0 f1
          go_wp2_with fail
          go_roundw
          case rel => exact ⟨k + 1, by omega, by go_num, X.eraseIdx k5, da, dc, HRD2.out, HP5.out, HN6.out⟩
          case measure => simp [intOf]; omega
    have k2 : (nid == 0) = false := by simpa using h2
    have hk2 : kindC (chU ⟨uid, oid, ocs, nid, ncs⟩) ≠ 2 := HKD.out.2 h2
    have HRP : Hid (R = upL (putL X ⟨nid, ncs⟩) (us.drop (k + 1))) := HRC.out.trans (up_go (in_put HNB.out HEQ.out.1 hk2 (fun h => by have h5 := h.2; have h6 := HP.out.2.2; have h7 := H12.out.2; omega)))
    have HP6 : Hid (UpP (putL X ⟨nid, ncs⟩) (4096 + (k + 1))) := HP.out.put ⟨HCO.out.1, HCO.out.2.2⟩
    have L4 : Hid (Calls Try.prog 24 #[.agg #[.slice (some ⟨tb, to', none⟩) 1 xc, .int .i64 0], .int .i64 0, .agg #[.int .i64 nid, .slice a4 ncs.length q4]] v3 fun e w' => ∃ da dc, e = .returned (.agg #[.slice da 1 dc, .int .i64 0]) ∧ Rd w' (fun d => v3.heap.size ≤ d ∧ d < w'.heap.size) (dRowSS [putL X ⟨nid, ncs⟩]) (.slice da 1 dc) ∧ Below v3.heap.size v3 w') := lputS ⟨[X], 0⟩ 0 ⟨nid, ncs⟩ (by simp) (some ⟨tb, to', none⟩) xc a4 q4 _ _ v3 (one_le HTA.out) HCO.out.2.2 HV3.out.ap.rd (HRO.out v3 HV3.out.ap.bel).2
    clear h2 hk2
    go_wp2_with fail
    refine L4.out.mono ?_
    rintro e v6 ⟨da, dc, rfl, hrd, hB6⟩
    have HN6 : Hid (UpB w ((v6.setCell ⟨w.heap.size + 1, 0, none⟩ (.slice da 1 dc)).setCell ⟨w.heap.size + 1, 1, none⟩ (.int .i64 0)) (putL X ⟨nid, ncs⟩) da dc) := HV3.out.ap.put hB6 (hrd.mono (fun d hd => hd.1))
    have hv6 := (HV3.out.later hB6).ap
    clear hrd hB6 L4
    clear y0 y1 y2 y3 y4 z0 z1 z2 z3 z4 z5 x0 x1 t0
    have x0 := cell_at (o := 0) hv6.bx rfl
    have f0 := frozen_at 0 hv6.bx
    have x1 := cell_at (o := 1) hv6.bx rfl
    have f1 := frozen_at 1 hv6.bx
    clear hv6
    go_wp2_with fail
    go_roundw
    case rel => exact ⟨k + 1, by omega, by go_num, putL X ⟨nid, ncs⟩, da, dc, HRP.out, HP6.out, HN6.out⟩
    case measure => simp [intOf]; omega
end Go.Proofs.Ytnegmpdllbbnhaa
