import Derived.Test.YtomocmmionnppaaZbl
import Derived.WalkArith
import Derived.Deep.RegionHeld3
import Derived.Deep.Cut
import Derived.Test.YtomocmmionnppaaZTk
namespace Go.Proofs.Ytomocmmionnppaa
open Go.RowKit
set_option linter.unusedSimpArgs false
set_option maxRecDepth 100000 in
set_option maxHeartbeats 1600000 in
theorem nextI_I (n id : Int) (w : World) (hn : iOK n) (hi : iOK id) : Calls Try.prog 55 #[.int .i64 n, .int .i64 id] w fun e w' => e = .returned (.int .i64 (nextI n id)) ∧ Below w.heap.size w w' := by
  have HB := Lib.hid (Below.refl w.heap.size w)
  have hr := iOK_rng hi
  have hrn := iOK_rng hn
  generalize hR : nextI n id = R
  have HR := Lib.hid hR
  clear hR
  by_cases h1 : id = 9223372036854775807
  · have HV : Hid (R = n) := by show R = _; rw [← HR.out, h1]; exact next_max hn
    have d1 : (id == 9223372036854775807) = true := by simpa using h1
    clear h1 hr hrn hn hi
    go_enter Try.func55, Try.ntmps55
    go_wp2_with fail
    go_ret
    exact ⟨ret_i HV.out.symm, HB.out⟩
  · have HV : Hid (R = if n < id + 1 then id + 1 else n) := by show R = _; rw [← HR.out]; exact next_in hi h1
    have d1 : (id == 9223372036854775807) = false := by simpa using h1
    have hw : IntKind.i64.wrap (id + 1) = id + 1 := by rw [IntKind.wrap_i64]; omega
    have hlt : id < 9223372036854775807 := by omega
    clear hn hi
    by_cases h2 : n < id + 1
    · have HV2 : Hid (R = id + 1) := by show R = _; rw [HV.out, if_pos h2]
      have d2 : decide (n < id + 1) = true := decide_eq_true h2
      clear h1 HV
      go_enter Try.func55, Try.ntmps55
      go_wp2_with fail
      go_ret
      exact ⟨ret_i HV2.out.symm, HB.out⟩
    · have HV2 : Hid (R = n) := by show R = _; rw [HV.out, if_neg h2]
      have d2 : decide (n < id + 1) = false := decide_eq_false h2
      clear h1 HV
      go_enter Try.func55, Try.ntmps55
      go_wp2_with fail
      go_ret
      exact ⟨ret_i HV2.out.symm, HB.out⟩
structure DnB (w W : World) (lo m q : Nat) (Ts : List Tab3) (n : Int) (cs : Array Value) : Prop where
  bx : W.heap[w.heap.size]? = some (.cells cs 55)
  ms : MSt W lo m q Ts n
  nb : ∀ i (h : i < Ts.length), ¬ Ts[i].bl w.heap.size
  nm : w.heap.size ≠ q ∧ w.heap.size ≠ m ∧ lo ≤ w.heap.size
  bel : Below w.heap.size w W
theorem DnB.first {w : World} {lo m q : Nat} {Ts : List Tab3} {n : Int} (h : MSt w lo m q Ts n) (cs : Array Value) : DnB w (w.alloc (.cells cs 55)) lo m q Ts n cs :=
  ⟨heap_newD _ _, h.later (below_allocD _ _), fun i hi hb => by have := (h.tb i hi).lt _ hb; omega, ⟨fun e => by have := (Array.getElem?_eq_some_iff.1 h.rq).1; omega, fun e => by have := (Array.getElem?_eq_some_iff.1 h.bx).1; omega, by have h1 := (Array.getElem?_eq_some_iff.1 h.bx).1; have h2 := h.lo.1; omega⟩, below_allocD _ _⟩
theorem DnB.later {w W W' : World} {lo m q : Nat} {Ts : List Tab3} {n : Int} {cs : Array Value} (h : DnB w W lo m q Ts n cs) (hB : Below W.heap.size W W') : DnB w W' lo m q Ts n cs :=
  ⟨heap_keptD h.bx hB, h.ms.later hB, h.nb, h.nm, h.bel.trans (hB.mono h.bel.size)⟩
theorem DnB.drew {w W : World} {lo m q : Nat} {Ts : List Tab3} {n : Int} {cs : Array Value} (h : DnB w W lo m q Ts n cs) : DnB w W.drew lo m q Ts n cs := h.later (Below.refl _ _).drew
structure DnE (w W : World) (lo m q : Nat) (Ts : List Tab3) (n : Int) (cs : Array Value) : Prop where
  bx : W.heap[w.heap.size]? = some (.cells cs 55)
  ms : MSt W lo m q Ts n
  nm : w.heap.size ≠ m
  bel : Below lo w W
theorem DnE.later {w W W' : World} {lo m q : Nat} {Ts : List Tab3} {n : Int} {cs : Array Value} (h : DnE w W lo m q Ts n cs) (hB : Below W.heap.size W W') : DnE w W' lo m q Ts n cs :=
  ⟨heap_keptD h.bx hB, h.ms.later hB, h.nm, ⟨hB.os.trans h.bel.os, hB.tape.trans h.bel.tape, hB.output.trans h.bel.output, Nat.le_trans h.bel.size hB.size, fun b hb => (hB.block b (by have h1 := (Array.getElem?_eq_some_iff.1 h.ms.bx).1; have h2 := h.ms.lo.1; omega)).trans (h.bel.block b hb)⟩⟩
theorem DnB.e {w W W' : World} {lo m q : Nat} {Ts Ts' : List Tab3} {n : Int} {cs : Array Value} (h : DnB w W lo m q Ts n cs) {i : Nat} (hi : i < Ts.length) (hM : MSt W' lo m q Ts' n) (hos : W'.os = W.os) (ht : W'.tape = W.tape) (hout : W'.output = W.output) (hs : W.heap.size ≤ W'.heap.size) (hF : ∀ c, c < W.heap.size → ¬ Ts[i].bl c → c ≠ q → W'.heap[c]? = W.heap[c]?) : DnE w W' lo m q Ts' n cs := by
  have hb := (Array.getElem?_eq_some_iff.1 h.bx).1
  refine ⟨by rw [hF _ hb (h.nb i hi) h.nm.1]; exact h.bx, hM, h.nm.2.1, ⟨hos.trans h.bel.os, ht.trans h.bel.tape, hout.trans h.bel.output, Nat.le_trans h.bel.size hs, fun b hb' => ?_⟩⟩
  have hlo := h.nm.2.2
  have h2 := h.bel.size
  rw [hF b (by omega) (fun hx => by have := h.ms.lo.2.2 i hi b hx; omega) (fun e => by have := h.ms.lo.2.1; omega), h.bel.block b (by omega)]
def DoneAns (w : World) (lo m q : Nat) (R : StV × Int) (e : Ending) (w' : World) : Prop := ∃ Ts' n', e = .returned (.int .i64 R.2) ∧ MSt w' lo m q Ts' n' ∧ stOf Ts' n' = R.1 ∧ Below lo w w'
theorem DnB.ans {w W : World} {lo m q : Nat} {Ts : List Tab3} {n : Int} {cs : Array Value} {R : StV × Int} {r : Int} (h : DnB w W lo m q Ts n cs) (hR : R = (stOf Ts n, r)) : DoneAns w lo m q R (.returned (.int .i64 r)) W :=
  ⟨Ts, n, by rw [hR], h.ms, by rw [hR], h.bel.mono h.nm.2.2⟩
theorem DnE.ans {w W : World} {lo m q : Nat} {Ts : List Tab3} {n : Int} {cs : Array Value} {R : StV × Int} {r : Int} (h : DnE w W lo m q Ts n cs) (hR : R = (stOf Ts n, r)) : DoneAns w lo m q R (.returned (.int .i64 r)) W := ⟨Ts, n, by rw [hR], h.ms, by rw [hR], h.bel⟩
theorem DnE.ansN {w W : World} {lo m q : Nat} {Ts : List Tab3} {n n' : Int} {cs : Array Value} {R : StV × Int} {r : Int} (h : DnE w W lo m q Ts n cs) (hR : R = (stOf Ts n', r)) : DoneAns w lo m q R (.returned (.int .i64 r)) (W.setCell ⟨m, 1, none⟩ (.int .i64 n')) :=
  ⟨Ts, n', by rw [hR], h.ms.next n', by rw [hR], h.bel.setCell h.ms.lo.1 _⟩
set_option maxRecDepth 100000 in
set_option maxHeartbeats 12800000 in
theorem doneI (tab cid oid nid : Int) (ocs ncs : List (List At)) (a3 : Option Addr) (c3 : Nat) (a5 : Option Addr) (c5 : Nat) (lo m q : Nat) (Ts : List Tab3) (n : Int) (B : Nat → Prop) (w : World) (hM : MSt w lo m q Ts n) (hP : ApP (stOf Ts n)) (hn : iOK n) (hid : iOK cid) (hoo : (dAtomSS ocs).le 1048576) (hon : (dAtomSS ncs).le 1048576) (hO : Rd w B (dAtomSS ocs) (.slice a3 ocs.length c3)) (hN : Rd w B (dAtomSS ncs) (.slice a5 ncs.length c5)) :
    Calls Try.prog 26 #[.agg #[.int .i64 tab, .int .i64 cid, .int .i64 oid, .slice a3 ocs.length c3, .int .i64 nid, .slice a5 ncs.length c5], .pointer (some ⟨m, 0, none⟩)] w (DoneAns w lo m q (dnC (stOf Ts n) ⟨tab, cid, oid, ocs, nid, ncs⟩)) := by
  have hd := DnB.first hM #[.int .i64 tab, .int .i64 cid, .int .i64 oid, .slice a3 ocs.length c3, .int .i64 nid, .slice a5 ncs.length c5]
  have KI : Hid (∀ W, DnB w W lo m q Ts n #[.int .i64 tab, .int .i64 cid, .int .i64 oid, .slice a3 ocs.length c3, .int .i64 nid, .slice a5 ncs.length c5] → Calls Try.prog 48 #[.agg #[.int .i64 tab, .int .i64 cid, .int .i64 oid, .slice a3 ocs.length c3, .int .i64 nid, .slice a5 ncs.length c5]] W fun e w' => e = .returned (.int .i64 (kndI ⟨tab, cid, oid, ocs, nid, ncs⟩)) ∧ Below W.heap.size W w') := fun W _ => kndS ⟨tab, cid, oid, ocs, nid, ncs⟩ a3 c3 a5 c5 W
  have HT : Hid (∀ W, DnB w W lo m q Ts n #[.int .i64 tab, .int .i64 cid, .int .i64 oid, .slice a3 ocs.length c3, .int .i64 nid, .slice a5 ncs.length c5] → Calls Try.prog 49 #[.agg #[.slice (some ⟨q, 0, none⟩) Ts.length Ts.length, .int .i64 n], .int .i64 tab] W fun e w' => e = .returned (.bool (hasT (stOf Ts n) tab)) ∧ Below W.heap.size W w') := fun W _ => by
    have h := hasTableI (stOf Ts n) tab (some ⟨q, 0, none⟩) Ts.length W
    rw [stOf_len] at h
    exact h
  have CE : Hid (∀ W, DnB w W lo m q Ts n #[.int .i64 tab, .int .i64 cid, .int .i64 oid, .slice a3 ocs.length c3, .int .i64 nid, .slice a5 ncs.length c5] → W.cell? ⟨w.heap.size, 0, none⟩ = some (.int .i64 tab) ∧ W.cell? ⟨w.heap.size, 1, none⟩ = some (.int .i64 cid) ∧ W.cell? ⟨w.heap.size, 1 + 1, none⟩ = some (.int .i64 oid) ∧ W.cell? ⟨w.heap.size, 1 + 1 + 1, none⟩ = some (.slice a3 ocs.length c3) ∧ W.cell? ⟨w.heap.size, 2, none⟩ = some (.int .i64 oid) ∧ W.cell? ⟨w.heap.size, 2 + 1, none⟩ = some (.slice a3 ocs.length c3) ∧ W.cell? ⟨w.heap.size, 3, none⟩ = some (.slice a3 ocs.length c3) ∧ W.cell? ⟨w.heap.size, 4, none⟩ = some (.int .i64 nid) ∧ W.cell? ⟨w.heap.size, 5, none⟩ = some (.slice a5 ncs.length c5) ∧ W.cell? ⟨m, 0, none⟩ = some (.slice (some ⟨q, 0, none⟩) Ts.length Ts.length) ∧ W.cell? ⟨m, 1, none⟩ = some (.int .i64 n)) := fun W h => ⟨cell_at (o := 0) h.bx rfl, cell_at (o := 1) h.bx rfl, cell_at (o := 2) h.bx rfl, cell_at (o := 3) h.bx rfl, cell_at (o := 2) h.bx rfl, cell_at (o := 3) h.bx rfl, cell_at (o := 3) h.bx rfl, cell_at (o := 4) h.bx rfl, cell_at (o := 5) h.bx rfl, cell_at (o := 0) h.ms.bx rfl, cell_at (o := 1) h.ms.bx rfl⟩
  have HOO : Hid (∀ W, DnB w W lo m q Ts n #[.int .i64 tab, .int .i64 cid, .int .i64 oid, .slice a3 ocs.length c3, .int .i64 nid, .slice a5 ncs.length c5] → Rd W B (dAtomSS ocs) (.slice a3 ocs.length c3)) := fun W h => hO.later h.bel
  have HNN : Hid (∀ W, DnB w W lo m q Ts n #[.int .i64 tab, .int .i64 cid, .int .i64 oid, .slice a3 ocs.length c3, .int .i64 nid, .slice a5 ncs.length c5] → Rd W B (dAtomSS ncs) (.slice a5 ncs.length c5)) := fun W h => hN.later h.bel
  have HP := Lib.hid (And.intro hP (And.intro hn (And.intro hid (And.intro hoo hon))))
  clear hM hO hN hP hn hid hoo hon
  generalize hR : dnC (stOf Ts n) ⟨tab, cid, oid, ocs, nid, ncs⟩ = R
  have HR := Lib.hid hR
  clear hR
  obtain ⟨x0, x1, -, -, x2, -, x3, x4, x5, y0, y1⟩ := CE.out _ hd
  by_cases hk0 : kndI ⟨tab, cid, oid, ocs, nid, ncs⟩ = 0
  case pos =>
    have HE : Hid (R = (stOf Ts n, 1)) := by
      show R = _
      rw [← HR.out]
      refine dn_bad ?_
      unfold kndI at hk0
      by_cases h : cid < 1
      · exact .inl h
      · rw [if_neg h] at hk0; exact .inr (.inr hk0)
    rw [hk0] at KI
    clear hk0
    go_enter Try.func26, Try.ntmps26
    go_wp2_with fail
    refine (KI.out _ hd).mono ?_
    rintro e w1 ⟨rfl, hB⟩
    replace hd := hd.later hB
    clear hB x0 x1 x2 x3 x4 x5 y0 y1
    go_wp2_with fail
    refine wp_region_held_drew (S := (fun W => W.cell? ⟨w.heap.size, 0, none⟩ = some (.int .i64 tab) ∧ W.cell? ⟨w.heap.size, 1, none⟩ = some (.int .i64 cid) ∧ W.cell? ⟨w.heap.size, 1 + 1, none⟩ = some (.int .i64 oid) ∧ W.cell? ⟨w.heap.size, 1 + 1 + 1, none⟩ = some (.slice a3 ocs.length c3) ∧ W.cell? ⟨w.heap.size, 2, none⟩ = some (.int .i64 oid) ∧ W.cell? ⟨w.heap.size, 2 + 1, none⟩ = some (.slice a3 ocs.length c3) ∧ W.cell? ⟨w.heap.size, 3, none⟩ = some (.slice a3 ocs.length c3) ∧ W.cell? ⟨w.heap.size, 4, none⟩ = some (.int .i64 nid) ∧ W.cell? ⟨w.heap.size, 5, none⟩ = some (.slice a5 ncs.length c5) ∧ W.cell? ⟨m, 0, none⟩ = some (.slice (some ⟨q, 0, none⟩) Ts.length Ts.length) ∧ W.cell? ⟨m, 1, none⟩ = some (.int .i64 n))) (by kernel_rfl) ?_ (fun hHeld => ?_)
    · (first | exact CE.out _ hd | exact CE.out _ hd.drew)
    refine wpAnyH_take (i := 0) (v := ?_) rfl (by kernel_rfl) (by kernel_rfl) (by kernel_rfl) (fun _ _ _ h => h) (Or.inl ⟨by kernel_rfl, ?_⟩) (by assumption) ?_
    rotate_left
    · (intro wS hSw; (try dsimp only at hSw); go_simp <;> with_reducible rfl)
    try simp only [Act.put, tkS]
    refine wpAnyH_take (i := 1) (v := ?_) rfl (by kernel_rfl) (by kernel_rfl) (by kernel_rfl) (fun _ _ _ h => h) (Or.inl ⟨by kernel_rfl, ?_⟩) (by assumption) ?_
    rotate_left
    · (intro wS hSw; (try dsimp only at hSw); go_simp <;> with_reducible rfl)
    try simp only [Act.put, tkS]
    refine wpAnyH_take (i := 2) (v := ?_) rfl (by kernel_rfl) (by kernel_rfl) (by kernel_rfl) (fun _ _ _ h => h) (Or.inl ⟨by kernel_rfl, ?_⟩) (by assumption) ?_
    rotate_left
    · (intro wS hSw; (try dsimp only at hSw); go_simp <;> with_reducible rfl)
    try simp only [Act.put, tkS]
    refine wpAnyH_take (i := 3) (v := undef) rfl (by kernel_rfl) (by kernel_rfl) (by kernel_rfl) (fun _ _ _ h => h) (Or.inr ⟨by kernel_rfl, rfl⟩) (by assumption) ?_
    try simp only [Act.put, tkS]
    refine wpAnyH_take (i := 4) (v := undef) rfl (by kernel_rfl) (by kernel_rfl) (by kernel_rfl) (fun _ _ _ h => h) (Or.inr ⟨by kernel_rfl, rfl⟩) (by assumption) ?_
    try simp only [Act.put, tkS]
    refine wpAnyH_take (i := 5) (v := undef) rfl (by kernel_rfl) (by kernel_rfl) (by kernel_rfl) (fun _ _ _ h => h) (Or.inr ⟨by kernel_rfl, rfl⟩) (by assumption) ?_
    try simp only [Act.put, tkS]
    refine wpAnyH_take (i := 6) (v := undef) rfl (by kernel_rfl) (by kernel_rfl) (by kernel_rfl) (fun _ _ _ h => h) (Or.inr ⟨by kernel_rfl, rfl⟩) (by assumption) ?_
    try simp only [Act.put, tkS]
    refine wpAnyH_take (i := 7) (v := undef) rfl (by kernel_rfl) (by kernel_rfl) (by kernel_rfl) (fun _ _ _ h => h) (Or.inr ⟨by kernel_rfl, rfl⟩) (by assumption) ?_
    try simp only [Act.put, tkS]
    refine wpAnyH_take (i := 8) (v := undef) rfl (by kernel_rfl) (by kernel_rfl) (by kernel_rfl) (fun _ _ _ h => h) (Or.inr ⟨by kernel_rfl, rfl⟩) (by assumption) ?_
    try simp only [Act.put, tkS]
    refine wpAnyH_take (i := 9) (v := undef) rfl (by kernel_rfl) (by kernel_rfl) (by kernel_rfl) (fun _ _ _ h => h) (Or.inr ⟨by kernel_rfl, rfl⟩) (by assumption) ?_
    try simp only [Act.put, tkS]
    refine wpAnyH_take (i := 10) (v := ?_) rfl (by kernel_rfl) (by kernel_rfl) (by kernel_rfl) (fun _ _ _ h => h) (Or.inl ⟨by kernel_rfl, ?_⟩) (by assumption) ?_
    rotate_left
    · (intro wS hSw; (try dsimp only at hSw); go_simp <;> with_reducible rfl)
    try simp only [Act.put, tkS]
    refine wpAnyH_done (by kernel_rfl) ?_ _
    go_wp2_with fail
    go_ret
    exact (show DnB w _ lo m q Ts n _ from (by first | exact hd | exact hd.drew)).ans HE.out
  have hcid : 1 ≤ cid := by
    unfold kndI at hk0
    by_cases h : cid < 1
    · rw [if_pos h] at hk0; exact absurd rfl hk0
    · omega
  have hkk : kndI ⟨tab, cid, oid, ocs, nid, ncs⟩ = kindC ⟨tab, cid, oid, ocs, nid, ncs⟩ := by unfold kndI; rw [if_neg (by show ¬ cid < 1; omega)]
  rw [hkk] at KI hk0
  clear hkk
  have HK : Hid (1 ≤ cid ∧ kindC ⟨tab, cid, oid, ocs, nid, ncs⟩ ≠ 0) := ⟨hcid, hk0⟩
  have hkz : (kindC ⟨tab, cid, oid, ocs, nid, ncs⟩ == 0) = false := by simpa using hk0
  clear hcid hk0
  by_cases hT : hasT (stOf Ts n) tab = true
  case neg =>
    have hT' : hasT (stOf Ts n) tab = false := by simpa using hT
    have HE : Hid (R = (stOf Ts n, 1)) := by
      show R = _
      rw [← HR.out]
      refine dn_bad (.inr (.inl ?_))
      unfold hasT at hT'
      exact of_decide_eq_false hT'
    rw [hT'] at HT
    clear hT hT' HR
    generalize kindC ⟨tab, cid, oid, ocs, nid, ncs⟩ = kd at *
    go_enter Try.func26, Try.ntmps26
    go_wp2_with fail
    refine (KI.out _ hd).mono ?_
    rintro e w1 ⟨rfl, hB⟩
    replace hd := hd.later hB
    clear hB x0 x1 x2 x3 x4 x5 y0 y1
    go_wp2_with fail
    refine wp_region_held_drew (S := (fun W => W.cell? ⟨w.heap.size, 0, none⟩ = some (.int .i64 tab) ∧ W.cell? ⟨w.heap.size, 1, none⟩ = some (.int .i64 cid) ∧ W.cell? ⟨w.heap.size, 1 + 1, none⟩ = some (.int .i64 oid) ∧ W.cell? ⟨w.heap.size, 1 + 1 + 1, none⟩ = some (.slice a3 ocs.length c3) ∧ W.cell? ⟨w.heap.size, 2, none⟩ = some (.int .i64 oid) ∧ W.cell? ⟨w.heap.size, 2 + 1, none⟩ = some (.slice a3 ocs.length c3) ∧ W.cell? ⟨w.heap.size, 3, none⟩ = some (.slice a3 ocs.length c3) ∧ W.cell? ⟨w.heap.size, 4, none⟩ = some (.int .i64 nid) ∧ W.cell? ⟨w.heap.size, 5, none⟩ = some (.slice a5 ncs.length c5) ∧ W.cell? ⟨m, 0, none⟩ = some (.slice (some ⟨q, 0, none⟩) Ts.length Ts.length) ∧ W.cell? ⟨m, 1, none⟩ = some (.int .i64 n))) (by kernel_rfl) ?_ (fun hHeld => ?_)
    · (first | exact CE.out _ hd | exact CE.out _ hd.drew)
    refine wpAnyH_take (i := 0) (v := ?_) rfl (by kernel_rfl) (by kernel_rfl) (by kernel_rfl) (fun _ _ _ h => h) (Or.inl ⟨by kernel_rfl, ?_⟩) (by assumption) ?_
    rotate_left
    · (intro wS hSw; (try dsimp only at hSw); go_simp <;> with_reducible rfl)
    try simp only [Act.put, tkS]
    refine wpAnyH_take (i := 1) (v := ?_) rfl (by kernel_rfl) (by kernel_rfl) (by kernel_rfl) (fun _ _ _ h => h) (Or.inl ⟨by kernel_rfl, ?_⟩) (by assumption) ?_
    rotate_left
    · (intro wS hSw; (try dsimp only at hSw); go_simp <;> with_reducible rfl)
    try simp only [Act.put, tkS]
    refine wpAnyH_take (i := 2) (v := ?_) rfl (by kernel_rfl) (by kernel_rfl) (by kernel_rfl) (fun _ _ _ h => h) (Or.inl ⟨by kernel_rfl, ?_⟩) (by assumption) ?_
    rotate_left
    · (intro wS hSw; (try dsimp only at hSw); go_simp <;> with_reducible rfl)
    try simp only [Act.put, tkS]
    refine wpAnyH_take (i := 3) (v := ?_) rfl (by kernel_rfl) (by kernel_rfl) (by kernel_rfl) (fun _ _ _ h => h) (Or.inl ⟨by kernel_rfl, ?_⟩) (by assumption) ?_
    rotate_left
    · (intro wS hSw; (try dsimp only at hSw); go_simp <;> with_reducible rfl)
    try simp only [Act.put, tkS]
    refine wpAnyH_take (i := 4) (v := ?_) rfl (by kernel_rfl) (by kernel_rfl) (by kernel_rfl) (fun _ _ _ h => h) (Or.inl ⟨by kernel_rfl, ?_⟩) (by assumption) ?_
    rotate_left
    · (intro wS hSw; (try dsimp only at hSw); go_simp <;> with_reducible rfl)
    try simp only [Act.put, tkS]
    refine wpAnyH_take (i := 5) (v := ?_) rfl (by kernel_rfl) (by kernel_rfl) (by kernel_rfl) (fun _ _ _ h => h) (Or.inl ⟨by kernel_rfl, ?_⟩) (by assumption) ?_
    rotate_left
    · (intro wS hSw; (try dsimp only at hSw); go_simp <;> with_reducible rfl)
    try simp only [Act.put, tkS]
    refine wpAnyH_take (i := 6) (v := ?_) rfl (by kernel_rfl) (by kernel_rfl) (by kernel_rfl) (fun _ _ _ h => h) (Or.inl ⟨by kernel_rfl, ?_⟩) (by assumption) ?_
    rotate_left
    · (intro wS hSw; (try dsimp only at hSw); go_simp <;> with_reducible rfl)
    try simp only [Act.put, tkS]
    refine wpAnyH_take (i := 7) (v := ?_) rfl (by kernel_rfl) (by kernel_rfl) (by kernel_rfl) (fun _ _ _ h => h) (Or.inl ⟨by kernel_rfl, ?_⟩) (by assumption) ?_
    rotate_left
    · (intro wS hSw; (try dsimp only at hSw); go_simp <;> with_reducible rfl)
    try simp only [Act.put, tkS]
    refine wpAnyH_ready (rs := [8]) (by kernel_rfl) (by simp) (AllReadyH.cons rfl (fun K hK => ?_) AllReadyH.nil)
    go_simp
    (go_at_call 49; refine (HT.out _ (by first | exact hd | exact hd.drew)).mono ?_; rintro e w1 ⟨rfl, hB⟩; have hd := (show DnB w _ lo m q Ts n _ from (by first | exact hd | exact hd.drew)).later hB; clear hB)
    refine hK.out _ _ ?_ (fun hHeld => ?_)
    · (first | exact CE.out _ hd | exact CE.out _ hd.drew)
    clear hK K
    try simp only [Act.put, tkS]
    refine wpAnyH_take (i := 9) (v := ?_) rfl (by kernel_rfl) (by kernel_rfl) (by kernel_rfl) (fun _ _ _ h => h) (Or.inl ⟨by kernel_rfl, ?_⟩) (by assumption) ?_
    rotate_left
    · (intro wS hSw; (try dsimp only at hSw); go_simp <;> with_reducible rfl)
    try simp only [Act.put, tkS]
    refine wpAnyH_take (i := 10) (v := ?_) rfl (by kernel_rfl) (by kernel_rfl) (by kernel_rfl) (fun _ _ _ h => h) (Or.inl ⟨by kernel_rfl, ?_⟩) (by assumption) ?_
    rotate_left
    · (intro wS hSw; (try dsimp only at hSw); go_simp <;> with_reducible rfl)
    try simp only [Act.put, tkS]
    refine wpAnyH_done (by kernel_rfl) ?_ _
    go_wp2_with fail
    go_ret
    exact (show DnB w _ lo m q Ts n _ from (by first | exact hd | exact hd.drew)).ans HE.out
  have hrange : 0 ≤ tab ∧ tab < ((stOf Ts n).tables.length : Int) := by unfold hasT at hT; exact of_decide_eq_true hT
  rw [stOf_len] at hrange
  obtain ⟨i, rfl⟩ : ∃ i : Nat, tab = (i : Int) := ⟨tab.toNat, by omega⟩
  have hi : i < Ts.length := by omega
  have hii : (i : Int) < (Ts.length : Int) := by omega
  rw [hT] at HT
  clear hT hrange
  obtain ⟨p, cap, ts, hTi⟩ : ∃ p cap ts, Ts[i] = ⟨p, cap, ts⟩ := ⟨_, _, _, rfl⟩
  have hir : i < (stOf Ts n).tables.length := by rw [stOf_len]; exact hi
  have htab : tabI (stOf Ts n) (i : Int) = Ts[i].rows := by rw [tabI_at hir, stOf_at hi]
  have hPt := HP.out.1.tab hir
  rw [stOf_at hi] at hPt
  have HTI := Lib.hid (And.intro hTi (And.intro htab (And.intro hPt hi)))
  have hrl : Ts[i].rows.length = ts.length := by rw [Tab3.rows_len, hTi]
  have BS : Hid (∀ W, DnB w W lo m q Ts n #[.int .i64 (i : Int), .int .i64 cid, .int .i64 oid, .slice a3 ocs.length c3, .int .i64 nid, .slice a5 ncs.length c5] → Calls Try.prog 50 #[.slice (some ⟨p, 0, none⟩) ts.length cap, .agg #[.int .i64 cid, .slice none 0 0], .func (.func 51) #[] #[]] W (BinR Ts[i].rows cid W)) := fun W h => by
    have hrd := (h.ms.tb i hi).rd
    have hb := binR Ts[i].rows (some ⟨p, 0, none⟩) cap cid Ts[i].bl W (Ls_le.1 hPt.2).2.1 hPt.1 (by
      have : Ts[i].v = .slice (some ⟨p, 0, none⟩) Ts[i].rows.length cap := by rw [hrl, hTi]; rfl
      rw [← this]; exact hrd)
    rw [hrl] at hb
    exact hb
  have CE1 : Hid (∀ W, DnB w W lo m q Ts n #[.int .i64 (i : Int), .int .i64 cid, .int .i64 oid, .slice a3 ocs.length c3, .int .i64 nid, .slice a5 ncs.length c5] → W.cell? ⟨q, i, none⟩ = some (.slice (some ⟨p, 0, none⟩) ts.length cap) ∧ W.cell? ⟨w.heap.size, 0, none⟩ = some (.int .i64 (i : Int)) ∧ W.cell? ⟨w.heap.size, 1, none⟩ = some (.int .i64 cid) ∧ W.cell? ⟨w.heap.size, 1 + 1, none⟩ = some (.int .i64 oid) ∧ W.cell? ⟨w.heap.size, 1 + 1 + 1, none⟩ = some (.slice a3 ocs.length c3) ∧ W.cell? ⟨w.heap.size, 2, none⟩ = some (.int .i64 oid) ∧ W.cell? ⟨w.heap.size, 2 + 1, none⟩ = some (.slice a3 ocs.length c3) ∧ W.cell? ⟨w.heap.size, 3, none⟩ = some (.slice a3 ocs.length c3) ∧ W.cell? ⟨w.heap.size, 4, none⟩ = some (.int .i64 nid) ∧ W.cell? ⟨w.heap.size, 5, none⟩ = some (.slice a5 ncs.length c5) ∧ W.cell? ⟨m, 0, none⟩ = some (.slice (some ⟨q, 0, none⟩) Ts.length Ts.length) ∧ W.cell? ⟨m, 1, none⟩ = some (.int .i64 n)) := fun W h => ⟨by have := (h.ms.cellQ hi).1; rw [hTi] at this; exact this, CE.out W h⟩
  have HRL := Lib.hid hrl
  clear htab hPt hir hTi hrl CE
  have CE := CE1
  clear CE1
  obtain ⟨z0, -⟩ := CE.out _ hd
  have HOK : Hid (¬ ((⟨(i : Int), cid, oid, ocs, nid, ncs⟩ : ChV).cid < 1 ∨ ¬ (0 ≤ (⟨(i : Int), cid, oid, ocs, nid, ncs⟩ : ChV).tab ∧ (⟨(i : Int), cid, oid, ocs, nid, ncs⟩ : ChV).tab < ((stOf Ts n).tables.length : Int)) ∨ kindC ⟨(i : Int), cid, oid, ocs, nid, ncs⟩ = 0)) := by
    show ¬ _
    rintro (h | h | h)
    · have h1 := HK.out.1; have h2 : cid < 1 := h; omega
    · exact h ⟨by show (0 : Int) ≤ (i : Int); omega, by show (i : Int) < _; rw [stOf_len]; omega⟩
    · exact HK.out.2 h
  have HK1 := Lib.hid HK.out.1
  have HKN := Lib.hid HK.out.2
  clear HK
  generalize hkd : kindC ⟨(i : Int), cid, oid, ocs, nid, ncs⟩ = kd at KI hkz
  have HKD := Lib.hid hkd
  clear hkd
  go_enter Try.func26, Try.ntmps26
  go_wp2_with fail
  refine (KI.out _ hd).mono ?_
  rintro e w1 ⟨rfl, hB⟩
  replace hd := hd.later hB
  clear hB x0 x1 x2 x3 x4 x5 y0 y1 z0
  go_wp2_with fail
  refine wp_region_held_drew (S := (fun W => W.cell? ⟨q, i, none⟩ = some (.slice (some ⟨p, 0, none⟩) ts.length cap) ∧ W.cell? ⟨w.heap.size, 0, none⟩ = some (.int .i64 (i : Int)) ∧ W.cell? ⟨w.heap.size, 1, none⟩ = some (.int .i64 cid) ∧ W.cell? ⟨w.heap.size, 1 + 1, none⟩ = some (.int .i64 oid) ∧ W.cell? ⟨w.heap.size, 1 + 1 + 1, none⟩ = some (.slice a3 ocs.length c3) ∧ W.cell? ⟨w.heap.size, 2, none⟩ = some (.int .i64 oid) ∧ W.cell? ⟨w.heap.size, 2 + 1, none⟩ = some (.slice a3 ocs.length c3) ∧ W.cell? ⟨w.heap.size, 3, none⟩ = some (.slice a3 ocs.length c3) ∧ W.cell? ⟨w.heap.size, 4, none⟩ = some (.int .i64 nid) ∧ W.cell? ⟨w.heap.size, 5, none⟩ = some (.slice a5 ncs.length c5) ∧ W.cell? ⟨m, 0, none⟩ = some (.slice (some ⟨q, 0, none⟩) Ts.length Ts.length) ∧ W.cell? ⟨m, 1, none⟩ = some (.int .i64 n))) (by kernel_rfl) ?_ (fun hHeld => ?_)
  · (first | exact CE.out _ hd | exact CE.out _ hd.drew)
  refine wpAnyH_take (i := 0) (v := ?_) rfl (by kernel_rfl) (by kernel_rfl) (by kernel_rfl) (fun _ _ _ h => h) (Or.inl ⟨by kernel_rfl, ?_⟩) (by assumption) ?_
  rotate_left
  · (intro wS hSw; (try dsimp only at hSw); go_simp <;> with_reducible rfl)
  try simp only [Act.put, tkS]
  refine wpAnyH_take (i := 1) (v := ?_) rfl (by kernel_rfl) (by kernel_rfl) (by kernel_rfl) (fun _ _ _ h => h) (Or.inl ⟨by kernel_rfl, ?_⟩) (by assumption) ?_
  rotate_left
  · (intro wS hSw; (try dsimp only at hSw); go_simp <;> with_reducible rfl)
  try simp only [Act.put, tkS]
  refine wpAnyH_take (i := 2) (v := ?_) rfl (by kernel_rfl) (by kernel_rfl) (by kernel_rfl) (fun _ _ _ h => h) (Or.inl ⟨by kernel_rfl, ?_⟩) (by assumption) ?_
  rotate_left
  · (intro wS hSw; (try dsimp only at hSw); go_simp <;> with_reducible rfl)
  try simp only [Act.put, tkS]
  refine wpAnyH_take (i := 3) (v := ?_) rfl (by kernel_rfl) (by kernel_rfl) (by kernel_rfl) (fun _ _ _ h => h) (Or.inl ⟨by kernel_rfl, ?_⟩) (by assumption) ?_
  rotate_left
  · (intro wS hSw; (try dsimp only at hSw); go_simp <;> with_reducible rfl)
  try simp only [Act.put, tkS]
  refine wpAnyH_take (i := 4) (v := ?_) rfl (by kernel_rfl) (by kernel_rfl) (by kernel_rfl) (fun _ _ _ h => h) (Or.inl ⟨by kernel_rfl, ?_⟩) (by assumption) ?_
  rotate_left
  · (intro wS hSw; (try dsimp only at hSw); go_simp <;> with_reducible rfl)
  try simp only [Act.put, tkS]
  refine wpAnyH_take (i := 5) (v := ?_) rfl (by kernel_rfl) (by kernel_rfl) (by kernel_rfl) (fun _ _ _ h => h) (Or.inl ⟨by kernel_rfl, ?_⟩) (by assumption) ?_
  rotate_left
  · (intro wS hSw; (try dsimp only at hSw); go_simp <;> with_reducible rfl)
  try simp only [Act.put, tkS]
  refine wpAnyH_take (i := 6) (v := ?_) rfl (by kernel_rfl) (by kernel_rfl) (by kernel_rfl) (fun _ _ _ h => h) (Or.inl ⟨by kernel_rfl, ?_⟩) (by assumption) ?_
  rotate_left
  · (intro wS hSw; (try dsimp only at hSw); go_simp <;> with_reducible rfl)
  try simp only [Act.put, tkS]
  refine wpAnyH_take (i := 7) (v := ?_) rfl (by kernel_rfl) (by kernel_rfl) (by kernel_rfl) (fun _ _ _ h => h) (Or.inl ⟨by kernel_rfl, ?_⟩) (by assumption) ?_
  rotate_left
  · (intro wS hSw; (try dsimp only at hSw); go_simp <;> with_reducible rfl)
  try simp only [Act.put, tkS]
  refine wpAnyH_ready (rs := [8]) (by kernel_rfl) (by simp) (AllReadyH.cons rfl (fun K hK => ?_) AllReadyH.nil)
  go_simp
  (go_at_call 49; refine (HT.out _ (by first | exact hd | exact hd.drew)).mono ?_; rintro e w1 ⟨rfl, hB⟩; have hd := (show DnB w _ lo m q Ts n _ from (by first | exact hd | exact hd.drew)).later hB; clear hB)
  refine hK.out _ _ ?_ (fun hHeld => ?_)
  · (first | exact CE.out _ hd | exact CE.out _ hd.drew)
  clear hK K
  try simp only [Act.put, tkS]
  refine wpAnyH_take (i := 9) (v := ?_) rfl (by kernel_rfl) (by kernel_rfl) (by kernel_rfl) (fun _ _ _ h => h) (Or.inl ⟨by kernel_rfl, ?_⟩) (by assumption) ?_
  rotate_left
  · (intro wS hSw; (try dsimp only at hSw); go_simp <;> with_reducible rfl)
  try simp only [Act.put, tkS]
  refine wpAnyH_take (i := 10) (v := ?_) rfl (by kernel_rfl) (by kernel_rfl) (by kernel_rfl) (fun _ _ _ h => h) (Or.inl ⟨by kernel_rfl, ?_⟩) (by assumption) ?_
  rotate_left
  · (intro wS hSw; (try dsimp only at hSw); go_simp <;> with_reducible rfl)
  try simp only [Act.put, tkS]
  refine wpAnyH_done (by kernel_rfl) ?_ _
  go_wp2_with fail
  refine wp_region_held_drew (S := (fun W => W.cell? ⟨q, i, none⟩ = some (.slice (some ⟨p, 0, none⟩) ts.length cap) ∧ W.cell? ⟨w.heap.size, 0, none⟩ = some (.int .i64 (i : Int)) ∧ W.cell? ⟨w.heap.size, 1, none⟩ = some (.int .i64 cid) ∧ W.cell? ⟨w.heap.size, 1 + 1, none⟩ = some (.int .i64 oid) ∧ W.cell? ⟨w.heap.size, 1 + 1 + 1, none⟩ = some (.slice a3 ocs.length c3) ∧ W.cell? ⟨w.heap.size, 2, none⟩ = some (.int .i64 oid) ∧ W.cell? ⟨w.heap.size, 2 + 1, none⟩ = some (.slice a3 ocs.length c3) ∧ W.cell? ⟨w.heap.size, 3, none⟩ = some (.slice a3 ocs.length c3) ∧ W.cell? ⟨w.heap.size, 4, none⟩ = some (.int .i64 nid) ∧ W.cell? ⟨w.heap.size, 5, none⟩ = some (.slice a5 ncs.length c5) ∧ W.cell? ⟨m, 0, none⟩ = some (.slice (some ⟨q, 0, none⟩) Ts.length Ts.length) ∧ W.cell? ⟨m, 1, none⟩ = some (.int .i64 n))) (by kernel_rfl) ?_ (fun hHeld => ?_)
  · (first | exact CE.out _ hd | exact CE.out _ hd.drew)
  refine wpAnyH_take (i := 0) (v := ?_) rfl (by kernel_rfl) (by kernel_rfl) (by kernel_rfl) (fun _ _ _ h => h) (Or.inl ⟨by kernel_rfl, ?_⟩) (by assumption) ?_
  rotate_left
  · (intro wS hSw; (try dsimp only at hSw); go_simp <;> with_reducible rfl)
  try simp only [Act.put, tkS]
  refine wpAnyH_take (i := 1) (v := ?_) rfl (by kernel_rfl) (by kernel_rfl) (by kernel_rfl) (fun _ _ _ h => h) (Or.inl ⟨by kernel_rfl, ?_⟩) (by assumption) ?_
  rotate_left
  · (intro wS hSw; (try dsimp only at hSw); go_simp <;> with_reducible rfl)
  try simp only [Act.put, tkS]
  refine wpAnyH_take (i := 2) (v := ?_) rfl (by kernel_rfl) (by kernel_rfl) (by kernel_rfl) (fun _ _ _ h => h) (Or.inl ⟨by kernel_rfl, ?_⟩) (by assumption) ?_
  rotate_left
  · (intro wS hSw; (try dsimp only at hSw); go_simp <;> with_reducible rfl)
  try simp only [Act.put, tkS]
  refine wpAnyH_take (i := 3) (v := ?_) rfl (by kernel_rfl) (by kernel_rfl) (by kernel_rfl) (fun _ _ _ h => h) (Or.inl ⟨by kernel_rfl, ?_⟩) (by assumption) ?_
  rotate_left
  · (intro wS hSw; (try dsimp only at hSw); go_simp <;> with_reducible rfl)
  try simp only [Act.put, tkS]
  refine wpAnyH_take (i := 4) (v := ?_) rfl (by kernel_rfl) (by kernel_rfl) (by kernel_rfl) (fun _ _ _ h => h) (Or.inl ⟨by kernel_rfl, ?_⟩) (by assumption) ?_
  rotate_left
  · (intro wS hSw; (try dsimp only at hSw); go_simp <;> with_reducible rfl)
  try simp only [Act.put, tkS]
  refine wpAnyH_take (i := 5) (v := ?_) rfl (by kernel_rfl) (by kernel_rfl) (by kernel_rfl) (fun _ _ _ h => h) (Or.inl ⟨by kernel_rfl, ?_⟩) (by assumption) ?_
  rotate_left
  · (intro wS hSw; (try dsimp only at hSw); go_simp <;> with_reducible rfl)
  try simp only [Act.put, tkS]
  refine wpAnyH_take (i := 6) (v := ?_) rfl (by kernel_rfl) (by kernel_rfl) (by kernel_rfl) (fun _ _ _ h => h) (Or.inl ⟨by kernel_rfl, ?_⟩) (by assumption) ?_
  rotate_left
  · (intro wS hSw; (try dsimp only at hSw); go_simp <;> with_reducible rfl)
  try simp only [Act.put, tkS]
  refine wpAnyH_take (i := 7) (v := ?_) rfl (by kernel_rfl) (by kernel_rfl) (by kernel_rfl) (fun _ _ _ h => h) (Or.inl ⟨by kernel_rfl, ?_⟩) (by assumption) ?_
  rotate_left
  · (intro wS hSw; (try dsimp only at hSw); go_simp <;> with_reducible rfl)
  try simp only [Act.put, tkS]
  refine wpAnyH_take (i := 8) (v := ?_) rfl (by kernel_rfl) (by kernel_rfl) (by kernel_rfl) (fun _ _ _ h => h) (Or.inl ⟨by kernel_rfl, ?_⟩) (by assumption) ?_
  rotate_left
  · (intro wS hSw; (try dsimp only at hSw); go_simp <;> with_reducible rfl)
  try simp only [Act.put, tkS]
  refine wpAnyH_done (by kernel_rfl) ?_ _
  replace hd := hd.drew
  obtain ⟨z0, x0, x1, -, -, x2, -, x3, x4, x5, y0, y1⟩ := CE.out _ hd
  go_wp2_with fail
  refine (BS.out _ hd).mono ?_
  rintro e w2 ⟨k, f, rfl, hk, hlt, hge, hft, hff, hB⟩
  replace hd := hd.later hB
  have HPL := Lib.hid (And.intro hlt (And.intro hge (And.intro hft hff)))
  rw [HRL.out] at hk
  clear hB x0 x1 x2 x3 x4 x5 y0 y1 z0 hlt hge hft hff
  cases f
  case true =>
    obtain ⟨hkr, hke⟩ := HPL.out.2.2.1 rfl
    have hkt : k < Ts[i].ts.length := by rw [← Tab3.rows_len]; exact hkr
    have hkl : (k : Int) < (ts.length : Int) := by rw [HRL.out] at hkr; omega
    obtain ⟨z, hz⟩ : ∃ z, z = Ts[i].rows[k] := ⟨_, rfl⟩
    have hzt : Ts[i].ts[k].r = z := by rw [hz, Tab3.rows_at]
    have hzle : (dAtomSS z.cells).le 1048576 := by rw [hz]; exact (Ls_le.1 HTI.out.2.2.1.2).2.2 k hkr 1 (by omega)
    obtain ⟨za, zq, hzv⟩ : ∃ za zq, Ts[i].ts[k].v = .slice za z.cells.length zq := by
      obtain ⟨a, c, h, -⟩ := ((hd.ms.tb i hi).ow _ (List.getElem_mem hkt)).1
      rw [hzt] at h
      exact ⟨a, c, h⟩
    have SR : Hid (∀ W, DnB w W lo m q Ts n #[.int .i64 (i : Int), .int .i64 cid, .int .i64 oid, .slice a3 ocs.length c3, .int .i64 nid, .slice a5 ncs.length c5] → Calls Try.prog 52 #[.agg #[.int .i64 z.id, .slice za z.cells.length zq], .agg #[.int .i64 oid, .slice a3 ocs.length c3]] W fun e w' => e = .returned (.bool (eqB z ⟨oid, ocs⟩)) ∧ Below W.heap.size W w') := fun W h => by
      have ho := ((h.ms.tb i hi).ow _ (List.getElem_mem hkt)).1
      rw [hzv, hzt] at ho
      exact sameRowI z ⟨oid, ocs⟩ za zq a3 c3 _ B W (D.le.mono (by unfold maxLen; omega) _ hzle) (D.le.mono (by unfold maxLen; omega) _ HP.out.2.2.2.1) ho.rd' (HOO.out W h)
    have CE2 : Hid (∀ W, DnB w W lo m q Ts n #[.int .i64 (i : Int), .int .i64 cid, .int .i64 oid, .slice a3 ocs.length c3, .int .i64 nid, .slice a5 ncs.length c5] → W.cell? ⟨p, k * 2, none⟩ = some (.int .i64 z.id) ∧ W.cell? ⟨p, k * 2 + 1, none⟩ = some (.slice za z.cells.length zq) ∧ W.cell? ⟨q, i, none⟩ = some (.slice (some ⟨p, 0, none⟩) ts.length cap) ∧ W.cell? ⟨w.heap.size, 0, none⟩ = some (.int .i64 (i : Int)) ∧ W.cell? ⟨w.heap.size, 1, none⟩ = some (.int .i64 cid) ∧ W.cell? ⟨w.heap.size, 1 + 1, none⟩ = some (.int .i64 oid) ∧ W.cell? ⟨w.heap.size, 1 + 1 + 1, none⟩ = some (.slice a3 ocs.length c3) ∧ W.cell? ⟨w.heap.size, 2, none⟩ = some (.int .i64 oid) ∧ W.cell? ⟨w.heap.size, 2 + 1, none⟩ = some (.slice a3 ocs.length c3) ∧ W.cell? ⟨w.heap.size, 3, none⟩ = some (.slice a3 ocs.length c3) ∧ W.cell? ⟨w.heap.size, 4, none⟩ = some (.int .i64 nid) ∧ W.cell? ⟨w.heap.size, 5, none⟩ = some (.slice a5 ncs.length c5) ∧ W.cell? ⟨m, 0, none⟩ = some (.slice (some ⟨q, 0, none⟩) Ts.length Ts.length) ∧ W.cell? ⟨m, 1, none⟩ = some (.int .i64 n)) := fun W h => by
      have hc := (h.ms.tb i hi).cells hkt
      rw [hzv, hzt] at hc
      have hp : Ts[i].p = p := by rw [HTI.out.1]
      rw [hp] at hc
      exact ⟨hc.1, hc.2.1, CE.out W h⟩
    have hrow : rowD (tabI (stOf Ts n) (i : Int)) cid = z := by
      rw [HTI.out.2.1, hz]
      exact rowD_at hkr (rpl_at hkr hke (fun j hj hjk => by have := HPL.out.1 j hj hjk; omega))
    have HZ : Hid (rowD (tabI (stOf Ts n) (i : Int)) cid = z ∧ z.id = cid ∧ rplI Ts[i].rows cid = k ∧ k < Ts[i].ts.length ∧ ∃ h : k < Ts[i].rows.length, Ts[i].rows[k].id = cid) := ⟨hrow, by rw [hz]; exact hke, rpl_at hkr hke (fun j hj hjk => by have := HPL.out.1 j hj hjk; omega), hkt, hkr, hke⟩
    clear hz hzt hzle hzv hrow hke CE
    have CE := CE2
    clear CE2
    cases hs : eqB z ⟨oid, ocs⟩
    case false =>
      have HE : Hid (R = (stOf Ts n, 13)) := by
        show R = _
        rw [← HR.out]
        exact dn_ref HOK.out (by show eqB (rowD (tabI (stOf Ts n) (i : Int)) cid) ⟨oid, ocs⟩ = false; rw [HZ.out.1]; exact hs)
      rw [hs] at SR
      clear hs hkr hkt
      go_wp2_with fail
      refine wp_region_held_drew (S := (fun W => W.cell? ⟨p, k * 2, none⟩ = some (.int .i64 z.id) ∧ W.cell? ⟨p, k * 2 + 1, none⟩ = some (.slice za z.cells.length zq) ∧ W.cell? ⟨q, i, none⟩ = some (.slice (some ⟨p, 0, none⟩) ts.length cap) ∧ W.cell? ⟨w.heap.size, 0, none⟩ = some (.int .i64 (i : Int)) ∧ W.cell? ⟨w.heap.size, 1, none⟩ = some (.int .i64 cid) ∧ W.cell? ⟨w.heap.size, 1 + 1, none⟩ = some (.int .i64 oid) ∧ W.cell? ⟨w.heap.size, 1 + 1 + 1, none⟩ = some (.slice a3 ocs.length c3) ∧ W.cell? ⟨w.heap.size, 2, none⟩ = some (.int .i64 oid) ∧ W.cell? ⟨w.heap.size, 2 + 1, none⟩ = some (.slice a3 ocs.length c3) ∧ W.cell? ⟨w.heap.size, 3, none⟩ = some (.slice a3 ocs.length c3) ∧ W.cell? ⟨w.heap.size, 4, none⟩ = some (.int .i64 nid) ∧ W.cell? ⟨w.heap.size, 5, none⟩ = some (.slice a5 ncs.length c5) ∧ W.cell? ⟨m, 0, none⟩ = some (.slice (some ⟨q, 0, none⟩) Ts.length Ts.length) ∧ W.cell? ⟨m, 1, none⟩ = some (.int .i64 n))) (by kernel_rfl) ?_ (fun hHeld => ?_)
      · (first | exact CE.out _ hd | exact CE.out _ hd.drew)
      refine wpAnyH_take (i := 0) (v := ?_) rfl (by kernel_rfl) (by kernel_rfl) (by kernel_rfl) (fun _ _ _ h => h) (Or.inl ⟨by kernel_rfl, ?_⟩) (by assumption) ?_
      rotate_left
      · (intro wS hSw; (try dsimp only at hSw); go_simp <;> with_reducible rfl)
      try simp only [Act.put, tkS]
      refine wpAnyH_take (i := 1) (v := ?_) rfl (by kernel_rfl) (by kernel_rfl) (by kernel_rfl) (fun _ _ _ h => h) (Or.inl ⟨by kernel_rfl, ?_⟩) (by assumption) ?_
      rotate_left
      · (intro wS hSw; (try dsimp only at hSw); go_simp <;> with_reducible rfl)
      try simp only [Act.put, tkS]
      refine wpAnyH_take (i := 2) (v := ?_) rfl (by kernel_rfl) (by kernel_rfl) (by kernel_rfl) (fun _ _ _ h => h) (Or.inl ⟨by kernel_rfl, ?_⟩) (by assumption) ?_
      rotate_left
      · (intro wS hSw; (try dsimp only at hSw); go_simp <;> with_reducible rfl)
      try simp only [Act.put, tkS]
      refine wpAnyH_take (i := 3) (v := ?_) rfl (by kernel_rfl) (by kernel_rfl) (by kernel_rfl) (fun _ _ _ h => h) (Or.inl ⟨by kernel_rfl, ?_⟩) (by assumption) ?_
      rotate_left
      · (intro wS hSw; (try dsimp only at hSw); go_simp <;> with_reducible rfl)
      try simp only [Act.put, tkS]
      refine wpAnyH_take (i := 4) (v := ?_) rfl (by kernel_rfl) (by kernel_rfl) (by kernel_rfl) (fun _ _ _ h => h) (Or.inl ⟨by kernel_rfl, ?_⟩) (by assumption) ?_
      rotate_left
      · (intro wS hSw; (try dsimp only at hSw); go_simp <;> with_reducible rfl)
      try simp only [Act.put, tkS]
      refine wpAnyH_take (i := 5) (v := ?_) rfl (by kernel_rfl) (by kernel_rfl) (by kernel_rfl) (fun _ _ _ h => h) (Or.inl ⟨by kernel_rfl, ?_⟩) (by assumption) ?_
      rotate_left
      · (intro wS hSw; (try dsimp only at hSw); go_simp <;> with_reducible rfl)
      try simp only [Act.put, tkS]
      refine wpAnyH_take (i := 6) (v := ?_) rfl (by kernel_rfl) (by kernel_rfl) (by kernel_rfl) (fun _ _ _ h => h) (Or.inl ⟨by kernel_rfl, ?_⟩) (by assumption) ?_
      rotate_left
      · (intro wS hSw; (try dsimp only at hSw); go_simp <;> with_reducible rfl)
      try simp only [Act.put, tkS]
      refine wpAnyH_take (i := 7) (v := ?_) rfl (by kernel_rfl) (by kernel_rfl) (by kernel_rfl) (fun _ _ _ h => h) (Or.inl ⟨by kernel_rfl, ?_⟩) (by assumption) ?_
      rotate_left
      · (intro wS hSw; (try dsimp only at hSw); go_simp <;> with_reducible rfl)
      try simp only [Act.put, tkS]
      refine wpAnyH_ready (rs := [8]) (by kernel_rfl) (by simp) (AllReadyH.cons rfl (fun K hK => ?_) AllReadyH.nil)
      go_simp
      (go_at_call 52; refine (SR.out _ (by first | exact hd | exact hd.drew)).mono ?_; rintro e w1 ⟨rfl, hB⟩; have hd := (show DnB w _ lo m q Ts n _ from (by first | exact hd | exact hd.drew)).later hB; clear hB)
      refine hK.out _ _ ?_ (fun hHeld => ?_)
      · (first | exact CE.out _ hd | exact CE.out _ hd.drew)
      clear hK K
      try simp only [Act.put, tkS]
      refine wpAnyH_take (i := 9) (v := ?_) rfl (by kernel_rfl) (by kernel_rfl) (by kernel_rfl) (fun _ _ _ h => h) (Or.inl ⟨by kernel_rfl, ?_⟩) (by assumption) ?_
      rotate_left
      · (intro wS hSw; (try dsimp only at hSw); go_simp <;> with_reducible rfl)
      try simp only [Act.put, tkS]
      refine wpAnyH_take (i := 10) (v := ?_) rfl (by kernel_rfl) (by kernel_rfl) (by kernel_rfl) (fun _ _ _ h => h) (Or.inl ⟨by kernel_rfl, ?_⟩) (by assumption) ?_
      rotate_left
      · (intro wS hSw; (try dsimp only at hSw); go_simp <;> with_reducible rfl)
      try simp only [Act.put, tkS]
      refine wpAnyH_take (i := 11) (v := ?_) rfl (by kernel_rfl) (by kernel_rfl) (by kernel_rfl) (fun _ _ _ h => h) (Or.inl ⟨by kernel_rfl, ?_⟩) (by assumption) ?_
      rotate_left
      · (intro wS hSw; (try dsimp only at hSw); go_simp <;> with_reducible rfl)
      try simp only [Act.put, tkS]
      refine wpAnyH_take (i := 12) (v := undef) rfl (by kernel_rfl) (by kernel_rfl) (by kernel_rfl) (fun _ _ _ h => h) (Or.inr ⟨by kernel_rfl, rfl⟩) (by assumption) ?_
      try simp only [Act.put, tkS]
      refine wpAnyH_take (i := 13) (v := undef) rfl (by kernel_rfl) (by kernel_rfl) (by kernel_rfl) (fun _ _ _ h => h) (Or.inr ⟨by kernel_rfl, rfl⟩) (by assumption) ?_
      try simp only [Act.put, tkS]
      refine wpAnyH_take (i := 14) (v := undef) rfl (by kernel_rfl) (by kernel_rfl) (by kernel_rfl) (fun _ _ _ h => h) (Or.inr ⟨by kernel_rfl, rfl⟩) (by assumption) ?_
      try simp only [Act.put, tkS]
      refine wpAnyH_take (i := 15) (v := undef) rfl (by kernel_rfl) (by kernel_rfl) (by kernel_rfl) (fun _ _ _ h => h) (Or.inr ⟨by kernel_rfl, rfl⟩) (by assumption) ?_
      try simp only [Act.put, tkS]
      refine wpAnyH_take (i := 16) (v := undef) rfl (by kernel_rfl) (by kernel_rfl) (by kernel_rfl) (fun _ _ _ h => h) (Or.inr ⟨by kernel_rfl, rfl⟩) (by assumption) ?_
      try simp only [Act.put, tkS]
      refine wpAnyH_take (i := 17) (v := undef) rfl (by kernel_rfl) (by kernel_rfl) (by kernel_rfl) (fun _ _ _ h => h) (Or.inr ⟨by kernel_rfl, rfl⟩) (by assumption) ?_
      try simp only [Act.put, tkS]
      refine wpAnyH_take (i := 18) (v := undef) rfl (by kernel_rfl) (by kernel_rfl) (by kernel_rfl) (fun _ _ _ h => h) (Or.inr ⟨by kernel_rfl, rfl⟩) (by assumption) ?_
      try simp only [Act.put, tkS]
      refine wpAnyH_take (i := 19) (v := undef) rfl (by kernel_rfl) (by kernel_rfl) (by kernel_rfl) (fun _ _ _ h => h) (Or.inr ⟨by kernel_rfl, rfl⟩) (by assumption) ?_
      try simp only [Act.put, tkS]
      refine wpAnyH_take (i := 20) (v := undef) rfl (by kernel_rfl) (by kernel_rfl) (by kernel_rfl) (fun _ _ _ h => h) (Or.inr ⟨by kernel_rfl, rfl⟩) (by assumption) ?_
      try simp only [Act.put, tkS]
      refine wpAnyH_take (i := 21) (v := ?_) rfl (by kernel_rfl) (by kernel_rfl) (by kernel_rfl) (fun _ _ _ h => h) (Or.inl ⟨by kernel_rfl, ?_⟩) (by assumption) ?_
      rotate_left
      · (intro wS hSw; (try dsimp only at hSw); go_simp <;> with_reducible rfl)
      try simp only [Act.put, tkS]
      refine wpAnyH_done (by kernel_rfl) ?_ _
      go_wp2_with fail
      go_ret
      exact (show DnB w _ lo m q Ts n _ from (by first | exact hd | exact hd.drew)).ans HE.out
    have hze : z = ⟨oid, ocs⟩ := eqB_iff.1 hs
    have hoid : oid = cid := by have := HZ.out.2.1; rw [hze] at this; exact this
    have HS2 : Hid (eqB (rowD (tabI (stOf Ts n) (⟨(i : Int), cid, oid, ocs, nid, ncs⟩ : ChV).tab) (⟨(i : Int), cid, oid, ocs, nid, ncs⟩ : ChV).cid) ⟨(⟨(i : Int), cid, oid, ocs, nid, ncs⟩ : ChV).oid, (⟨(i : Int), cid, oid, ocs, nid, ncs⟩ : ChV).ocs⟩ = true) := by
      show eqB (rowD (tabI (stOf Ts n) (i : Int)) cid) ⟨oid, ocs⟩ = true
      rw [HZ.out.1]; exact hs
    have hks := kind_there (t := (i : Int)) (ocs := ocs) (ncs := ncs) (nid := nid) HK1.out hoid HKN.out
    rw [hs] at SR
    clear hs hze hoid hkr hkt
    rcases hks with hk2 | ⟨hk3, hnid⟩
    · have HE : Hid (∀ p' cap', R = (stOf (Ts.set i (Ts[i].spl p' cap' k (k + 1) [])) n, 0)) := fun p' cap' => by
        rw [← HR.out, dn_drop HOK.out HS2.out hk2, drop_at3 hi HZ.out.2.2.1]
      obtain rfl : kd = 2 := HKD.out.symm.trans hk2
      clear hk2
      have hkb : k < 1048576 := by have h1 := (Ls_le.1 HTI.out.2.2.1.2).2.1; have h2 := HZ.out.2.2.2.2.1; omega
      have hwk : IntKind.i64.wrap ((k : Int) + 1) = (k : Int) + 1 := by rw [IntKind.wrap_i64]; omega
      go_wp2_with fail
      refine wp_region_held_drew (S := (fun W => W.cell? ⟨p, k * 2, none⟩ = some (.int .i64 z.id) ∧ W.cell? ⟨p, k * 2 + 1, none⟩ = some (.slice za z.cells.length zq) ∧ W.cell? ⟨q, i, none⟩ = some (.slice (some ⟨p, 0, none⟩) ts.length cap) ∧ W.cell? ⟨w.heap.size, 0, none⟩ = some (.int .i64 (i : Int)) ∧ W.cell? ⟨w.heap.size, 1, none⟩ = some (.int .i64 cid) ∧ W.cell? ⟨w.heap.size, 1 + 1, none⟩ = some (.int .i64 oid) ∧ W.cell? ⟨w.heap.size, 1 + 1 + 1, none⟩ = some (.slice a3 ocs.length c3) ∧ W.cell? ⟨w.heap.size, 2, none⟩ = some (.int .i64 oid) ∧ W.cell? ⟨w.heap.size, 2 + 1, none⟩ = some (.slice a3 ocs.length c3) ∧ W.cell? ⟨w.heap.size, 3, none⟩ = some (.slice a3 ocs.length c3) ∧ W.cell? ⟨w.heap.size, 4, none⟩ = some (.int .i64 nid) ∧ W.cell? ⟨w.heap.size, 5, none⟩ = some (.slice a5 ncs.length c5) ∧ W.cell? ⟨m, 0, none⟩ = some (.slice (some ⟨q, 0, none⟩) Ts.length Ts.length) ∧ W.cell? ⟨m, 1, none⟩ = some (.int .i64 n))) (by kernel_rfl) ?_ (fun hHeld => ?_)
      · (first | exact CE.out _ hd | exact CE.out _ hd.drew)
      refine wpAnyH_take (i := 0) (v := ?_) rfl (by kernel_rfl) (by kernel_rfl) (by kernel_rfl) (fun _ _ _ h => h) (Or.inl ⟨by kernel_rfl, ?_⟩) (by assumption) ?_
      rotate_left
      · (intro wS hSw; (try dsimp only at hSw); go_simp <;> with_reducible rfl)
      try simp only [Act.put, tkS]
      refine wpAnyH_take (i := 1) (v := ?_) rfl (by kernel_rfl) (by kernel_rfl) (by kernel_rfl) (fun _ _ _ h => h) (Or.inl ⟨by kernel_rfl, ?_⟩) (by assumption) ?_
      rotate_left
      · (intro wS hSw; (try dsimp only at hSw); go_simp <;> with_reducible rfl)
      try simp only [Act.put, tkS]
      refine wpAnyH_take (i := 2) (v := ?_) rfl (by kernel_rfl) (by kernel_rfl) (by kernel_rfl) (fun _ _ _ h => h) (Or.inl ⟨by kernel_rfl, ?_⟩) (by assumption) ?_
      rotate_left
      · (intro wS hSw; (try dsimp only at hSw); go_simp <;> with_reducible rfl)
      try simp only [Act.put, tkS]
      refine wpAnyH_take (i := 3) (v := ?_) rfl (by kernel_rfl) (by kernel_rfl) (by kernel_rfl) (fun _ _ _ h => h) (Or.inl ⟨by kernel_rfl, ?_⟩) (by assumption) ?_
      rotate_left
      · (intro wS hSw; (try dsimp only at hSw); go_simp <;> with_reducible rfl)
      try simp only [Act.put, tkS]
      refine wpAnyH_take (i := 4) (v := ?_) rfl (by kernel_rfl) (by kernel_rfl) (by kernel_rfl) (fun _ _ _ h => h) (Or.inl ⟨by kernel_rfl, ?_⟩) (by assumption) ?_
      rotate_left
      · (intro wS hSw; (try dsimp only at hSw); go_simp <;> with_reducible rfl)
      try simp only [Act.put, tkS]
      refine wpAnyH_take (i := 5) (v := ?_) rfl (by kernel_rfl) (by kernel_rfl) (by kernel_rfl) (fun _ _ _ h => h) (Or.inl ⟨by kernel_rfl, ?_⟩) (by assumption) ?_
      rotate_left
      · (intro wS hSw; (try dsimp only at hSw); go_simp <;> with_reducible rfl)
      try simp only [Act.put, tkS]
      refine wpAnyH_take (i := 6) (v := ?_) rfl (by kernel_rfl) (by kernel_rfl) (by kernel_rfl) (fun _ _ _ h => h) (Or.inl ⟨by kernel_rfl, ?_⟩) (by assumption) ?_
      rotate_left
      · (intro wS hSw; (try dsimp only at hSw); go_simp <;> with_reducible rfl)
      try simp only [Act.put, tkS]
      refine wpAnyH_take (i := 7) (v := ?_) rfl (by kernel_rfl) (by kernel_rfl) (by kernel_rfl) (fun _ _ _ h => h) (Or.inl ⟨by kernel_rfl, ?_⟩) (by assumption) ?_
      rotate_left
      · (intro wS hSw; (try dsimp only at hSw); go_simp <;> with_reducible rfl)
      try simp only [Act.put, tkS]
      refine wpAnyH_ready (rs := [8]) (by kernel_rfl) (by simp) (AllReadyH.cons rfl (fun K hK => ?_) AllReadyH.nil)
      go_simp
      (go_at_call 52; refine (SR.out _ (by first | exact hd | exact hd.drew)).mono ?_; rintro e w1 ⟨rfl, hB⟩; have hd := (show DnB w _ lo m q Ts n _ from (by first | exact hd | exact hd.drew)).later hB; clear hB)
      refine hK.out _ _ ?_ (fun hHeld => ?_)
      · (first | exact CE.out _ hd | exact CE.out _ hd.drew)
      clear hK K
      try simp only [Act.put, tkS]
      refine wpAnyH_take (i := 9) (v := ?_) rfl (by kernel_rfl) (by kernel_rfl) (by kernel_rfl) (fun _ _ _ h => h) (Or.inl ⟨by kernel_rfl, ?_⟩) (by assumption) ?_
      rotate_left
      · (intro wS hSw; (try dsimp only at hSw); go_simp <;> with_reducible rfl)
      try simp only [Act.put, tkS]
      refine wpAnyH_take (i := 10) (v := ?_) rfl (by kernel_rfl) (by kernel_rfl) (by kernel_rfl) (fun _ _ _ h => h) (Or.inl ⟨by kernel_rfl, ?_⟩) (by assumption) ?_
      rotate_left
      · (intro wS hSw; (try dsimp only at hSw); go_simp <;> with_reducible rfl)
      try simp only [Act.put, tkS]
      refine wpAnyH_take (i := 11) (v := ?_) rfl (by kernel_rfl) (by kernel_rfl) (by kernel_rfl) (fun _ _ _ h => h) (Or.inl ⟨by kernel_rfl, ?_⟩) (by assumption) ?_
      rotate_left
      · (intro wS hSw; (try dsimp only at hSw); go_simp <;> with_reducible rfl)
      try simp only [Act.put, tkS]
      refine wpAnyH_take (i := 12) (v := ?_) rfl (by kernel_rfl) (by kernel_rfl) (by kernel_rfl) (fun _ _ _ h => h) (Or.inl ⟨by kernel_rfl, ?_⟩) (by assumption) ?_
      rotate_left
      · (intro wS hSw; (try dsimp only at hSw); go_simp <;> with_reducible rfl)
      try simp only [Act.put, tkS]
      refine wpAnyH_take (i := 13) (v := ?_) rfl (by kernel_rfl) (by kernel_rfl) (by kernel_rfl) (fun _ _ _ h => h) (Or.inl ⟨by kernel_rfl, ?_⟩) (by assumption) ?_
      rotate_left
      · (intro wS hSw; (try dsimp only at hSw); go_simp <;> with_reducible rfl)
      try simp only [Act.put, tkS]
      refine wpAnyH_take (i := 14) (v := ?_) rfl (by kernel_rfl) (by kernel_rfl) (by kernel_rfl) (fun _ _ _ h => h) (Or.inl ⟨by kernel_rfl, ?_⟩) (by assumption) ?_
      rotate_left
      · (intro wS hSw; (try dsimp only at hSw); go_simp <;> with_reducible rfl)
      try simp only [Act.put, tkS]
      refine wpAnyH_take (i := 15) (v := undef) rfl (by kernel_rfl) (by kernel_rfl) (by kernel_rfl) (fun _ _ _ h => h) (Or.inr ⟨by kernel_rfl, rfl⟩) (by assumption) ?_
      try simp only [Act.put, tkS]
      refine wpAnyH_take (i := 16) (v := undef) rfl (by kernel_rfl) (by kernel_rfl) (by kernel_rfl) (fun _ _ _ h => h) (Or.inr ⟨by kernel_rfl, rfl⟩) (by assumption) ?_
      try simp only [Act.put, tkS]
      refine wpAnyH_take (i := 17) (v := undef) rfl (by kernel_rfl) (by kernel_rfl) (by kernel_rfl) (fun _ _ _ h => h) (Or.inr ⟨by kernel_rfl, rfl⟩) (by assumption) ?_
      try simp only [Act.put, tkS]
      refine wpAnyH_take (i := 18) (v := undef) rfl (by kernel_rfl) (by kernel_rfl) (by kernel_rfl) (fun _ _ _ h => h) (Or.inr ⟨by kernel_rfl, rfl⟩) (by assumption) ?_
      try simp only [Act.put, tkS]
      refine wpAnyH_take (i := 19) (v := undef) rfl (by kernel_rfl) (by kernel_rfl) (by kernel_rfl) (fun _ _ _ h => h) (Or.inr ⟨by kernel_rfl, rfl⟩) (by assumption) ?_
      try simp only [Act.put, tkS]
      refine wpAnyH_take (i := 20) (v := ?_) rfl (by kernel_rfl) (by kernel_rfl) (by kernel_rfl) (fun _ _ _ h => h) (Or.inl ⟨by kernel_rfl, ?_⟩) (by assumption) ?_
      rotate_left
      · (intro wS hSw; (try dsimp only at hSw); go_simp <;> with_reducible rfl)
      try simp only [Act.put, tkS]
      refine wpAnyH_take (i := 21) (v := ?_) rfl (by kernel_rfl) (by kernel_rfl) (by kernel_rfl) (fun _ _ _ h => h) (Or.inl ⟨by kernel_rfl, ?_⟩) (by assumption) ?_
      rotate_left
      · (intro wS hSw; (try dsimp only at hSw); go_simp <;> with_reducible rfl)
      try simp only [Act.put, tkS]
      refine wpAnyH_done (by kernel_rfl) ?_ _
      go_wp2_with fail
      have K14 : Hid (∀ W, DnB w W lo m q Ts n #[.int .i64 (i : Int), .int .i64 cid, .int .i64 oid, .slice a3 ocs.length c3, .int .i64 nid, .slice a5 ncs.length c5] → W.cell? ⟨m, 0, none⟩ = some (.slice (some ⟨q, 0, none⟩) Ts.length Ts.length) ∧ W.cell? ⟨w.heap.size, 0, none⟩ = some (.int .i64 (i : Int))) := fun W h => ⟨cell_at (o := 0) h.ms.bx rfl, cell_at (o := 0) h.bx rfl⟩
      refine wp_region_held_drew (S := (fun W => W.cell? ⟨m, 0, none⟩ = some (.slice (some ⟨q, 0, none⟩) Ts.length Ts.length) ∧ W.cell? ⟨w.heap.size, 0, none⟩ = some (.int .i64 (i : Int)))) (by kernel_rfl) ?_ (fun hHeld => ?_)
      · (first | exact (K14.out _ hd) | exact (K14.out _ hd.drew) | exact HK6.out | exact HK7.out)
      refine wpAnyH_take (i := 0) (v := ?_) rfl (by kernel_rfl) (by kernel_rfl) (by kernel_rfl) (fun _ _ _ h => h) (Or.inl ⟨by kernel_rfl, ?_⟩) (by assumption) ?_
      rotate_left
      · (intro wS hSw; (try dsimp only at hSw); go_simp <;> with_reducible rfl)
      try simp only [Act.put, tkS]
      refine wpAnyH_take (i := 1) (v := ?_) rfl (by kernel_rfl) (by kernel_rfl) (by kernel_rfl) (fun _ _ _ h => h) (Or.inl ⟨by kernel_rfl, ?_⟩) (by assumption) ?_
      rotate_left
      · (intro wS hSw; (try dsimp only at hSw); go_simp <;> with_reducible rfl)
      try simp only [Act.put, tkS]
      refine wpAnyH_take (i := 2) (v := ?_) rfl (by kernel_rfl) (by kernel_rfl) (by kernel_rfl) (fun _ _ _ h => h) (Or.inl ⟨by kernel_rfl, ?_⟩) (by assumption) ?_
      rotate_left
      · (intro wS hSw; (try dsimp only at hSw); go_simp <;> with_reducible rfl)
      try simp only [Act.put, tkS]
      refine wpAnyH_take (i := 3) (v := ?_) rfl (by kernel_rfl) (by kernel_rfl) (by kernel_rfl) (fun _ _ _ h => h) (Or.inl ⟨by kernel_rfl, ?_⟩) (by assumption) ?_
      rotate_left
      · (intro wS hSw; (try dsimp only at hSw); go_simp <;> with_reducible rfl)
      try simp only [Act.put, tkS]
      refine wpAnyH_take (i := 4) (v := ?_) rfl (by kernel_rfl) (by kernel_rfl) (by kernel_rfl) (fun _ _ _ h => h) (Or.inl ⟨by kernel_rfl, ?_⟩) (by assumption) ?_
      rotate_left
      · (intro wS hSw; (try dsimp only at hSw); go_simp <;> with_reducible rfl)
      try simp only [Act.put, tkS]
      refine wpAnyH_take (i := 5) (v := ?_) rfl (by kernel_rfl) (by kernel_rfl) (by kernel_rfl) (fun _ _ _ h => h) (Or.inl ⟨by kernel_rfl, ?_⟩) (by assumption) ?_
      rotate_left
      · (intro wS hSw; (try dsimp only at hSw); go_simp <;> with_reducible rfl)
      try simp only [Act.put, tkS]
      refine wpAnyH_take (i := 6) (v := ?_) rfl (by kernel_rfl) (by kernel_rfl) (by kernel_rfl) (fun _ _ _ h => h) (Or.inl ⟨by kernel_rfl, ?_⟩) (by assumption) ?_
      rotate_left
      · (intro wS hSw; (try dsimp only at hSw); go_simp <;> with_reducible rfl)
      try simp only [Act.put, tkS]
      refine wpAnyH_take (i := 7) (v := ?_) rfl (by kernel_rfl) (by kernel_rfl) (by kernel_rfl) (fun _ _ _ h => h) (Or.inl ⟨by kernel_rfl, ?_⟩) (by assumption) ?_
      rotate_left
      · (intro wS hSw; (try dsimp only at hSw); go_simp <;> with_reducible rfl)
      try simp only [Act.put, tkS]
      refine wpAnyH_take (i := 8) (v := ?_) rfl (by kernel_rfl) (by kernel_rfl) (by kernel_rfl) (fun _ _ _ h => h) (Or.inl ⟨by kernel_rfl, ?_⟩) (by assumption) ?_
      rotate_left
      · (intro wS hSw; (try dsimp only at hSw); go_simp <;> with_reducible rfl)
      try simp only [Act.put, tkS]
      refine wpAnyH_take (i := 9) (v := ?_) rfl (by kernel_rfl) (by kernel_rfl) (by kernel_rfl) (fun _ _ _ h => h) (Or.inl ⟨by kernel_rfl, ?_⟩) (by assumption) ?_
      rotate_left
      · (intro wS hSw; (try dsimp only at hSw); go_simp <;> with_reducible rfl)
      try simp only [Act.put, tkS]
      refine wpAnyH_ready (rs := [10]) (by kernel_rfl) (by simp) (AllReadyH.cons rfl (fun K hK => ?_) AllReadyH.nil)
      go_simp
      go_at_call 54
      obtain ⟨mm, hmm⟩ : ∃ mm, ts.length = mm + 1 := ⟨ts.length - 1, by have := HZ.out.2.2.2.1; rw [HTI.out.1] at this; have h3 : k < ts.length := this; omega⟩
      have HMM := Lib.hid hmm
      have hd2 : DnB w _ lo m q Ts n _ := hd.drew
      have HTB := Lib.hid (hd2.ms.tb i hi)
      rw [HTI.out.1] at HTB
      have hcp : 0 < cap := by have h1 : ts.length ≤ cap := HTB.out.le; omega
      obtain ⟨cur, hh, hsz, htk⟩ := HTB.out.hp hcp
      have hkm : k ≤ mm := by have := HZ.out.2.2.2.1; rw [HTI.out.1] at this; have h3 : k < ts.length := this; omega
      have hml : mm < 1048576 := by have h1 := (Ls_le.1 HTI.out.2.2.1.2).2.1; rw [HRL.out] at h1; omega
      rw [show (Tab3.mk p cap ts).ts = ts from rfl, hmm] at htk
      have DL := Lib.hid (deleteR mm k cap p cur (cs3 ts) _ hml hkm (by have h1 : ts.length ≤ cap := HTB.out.le; omega) HTB.out.cm hh hsz htk HTB.out.one)
      rw [← hmm] at DL
      clear hmm
      with_reducible refine DL.out.mono ?_
      rintro e w6 ⟨cur', rfl, hh6, htk6, hsz6, hF6⟩
      have hq6 : w6.heap[q]? = some (.cells (Ts.map Tab3.v).toArray 73) := by rw [hF6.block q (Array.getElem?_eq_some_iff.1 hd2.ms.rq).1 (fun e => (hd2.ms.nq i hi).1 (.inl ⟨by rw [HTI.out.1]; exact e, by rw [HTI.out.1]; exact hcp⟩))]; exact hd2.ms.rq
      have e0 : w6.cell? ⟨q, i, none⟩ = some Ts[i].v := by simp [World.cell?, hq6, hi]
      rw [HTI.out.1] at e0
      replace e0 : w6.cell? ⟨q, i, none⟩ = some (.slice (some ⟨p, 0, none⟩) ts.length cap) := e0
      have f0 : w6.frozen? ⟨q, i, none⟩ = false := by simp [World.frozen?, hq6]
      have hMD := hd2.ms.del hi (k := k) (mm := mm) (cur := cur') (w' := w6) (by rw [HTI.out.1]; exact HMM.out) hkm (by rw [HTI.out.1]; exact hh6) (by rw [HTI.out.1]; exact htk6) (by rw [HTI.out.1]; exact hsz6) (by rw [HTI.out.1]; exact hF6)
      have HE2 := Lib.hid (hd2.e hi hMD (by exact hF6.os) (by exact hF6.tape) (by exact hF6.output) (by simpa [World.setCell] using hF6.size) (fun c hc hnb hcq => by rw [Below.heap_setCell _ _ _ _ hcq, hF6.block c hc (fun e => hnb (.inl ⟨by rw [HTI.out.1]; exact e, by rw [HTI.out.1]; exact hcp⟩))]))
      have hpp : Ts[i].p = p ∧ Ts[i].cap = cap := by rw [HTI.out.1]; exact ⟨rfl, rfl⟩
      rw [hpp.1, hpp.2] at HE2
      have HK6 : Hid (w6.cell? ⟨m, 0, none⟩ = some (.slice (some ⟨q, 0, none⟩) Ts.length Ts.length) ∧ w6.cell? ⟨w.heap.size, 0, none⟩ = some (.int .i64 (i : Int))) := by
        refine ⟨cell_at (o := 0) ((hF6.block m (Array.getElem?_eq_some_iff.1 hd2.ms.bx).1 (fun e => (hd2.ms.nq i hi).2 (.inl ⟨by rw [hpp.1]; exact e, by rw [hpp.2]; exact hcp⟩))).trans hd2.ms.bx) rfl, cell_at (o := 0) ((hF6.block w.heap.size (Array.getElem?_eq_some_iff.1 hd2.bx).1 (fun e => hd2.nb i hi (.inl ⟨by rw [hpp.1]; exact e, by rw [hpp.2]; exact hcp⟩))).trans hd2.bx) rfl⟩
      have HK7 : Hid ((w6.setCell ⟨q, i, none⟩ (.slice (some ⟨p, 0, none⟩) mm cap)).cell? ⟨m, 0, none⟩ = some (.slice (some ⟨q, 0, none⟩) Ts.length Ts.length) ∧ (w6.setCell ⟨q, i, none⟩ (.slice (some ⟨p, 0, none⟩) mm cap)).cell? ⟨w.heap.size, 0, none⟩ = some (.int .i64 (i : Int))) := by
        have h1 := hMD.bx
        rw [hpp.1, hpp.2] at h1
        refine ⟨by have h2 := cell_at (o := 0) h1 rfl; rw [List.length_set] at h2; exact h2, cell_at (o := 0) HE2.out.bx rfl⟩
      clear hMD hh6 htk6 hsz6 hF6 hq6 hd2 htk hsz hh HTB DL hpp
      refine hK.out _ _ ?_ (fun hHeld => ?_)
      · (first | exact (K14.out _ hd) | exact (K14.out _ hd.drew) | exact HK6.out | exact HK7.out)
      clear hK K
      try simp only [Act.put, tkS]
      refine wpAnyH_take (i := 11) (v := ?_) rfl (by kernel_rfl) (by kernel_rfl) (by kernel_rfl) (fun _ _ _ h => h) (Or.inl ⟨by kernel_rfl, ?_⟩) (by assumption) ?_
      rotate_left
      · (intro wS hSw; (try dsimp only at hSw); go_simp <;> with_reducible rfl)
      try simp only [Act.put, tkS]
      refine wpAnyH_ready (rs := [12]) (by kernel_rfl) (by simp) (AllReadyH.cons rfl (fun K hK => ?_) AllReadyH.nil)
      go_simp
      skip
      refine hK.out _ _ ?_ (fun hHeld => ?_)
      · (first | exact (K14.out _ hd) | exact (K14.out _ hd.drew) | exact HK6.out | exact HK7.out)
      clear hK K
      try simp only [Act.put, tkS]
      refine wpAnyH_done (by kernel_rfl) ?_ _
      go_wp2_with fail
      go_ret
      exact HE2.out.ans (HE.out _ _)
    · have HPU : Hid (putL Ts[i].rows ⟨nid, ncs⟩ = Ts[i].rows.take k ++ ⟨nid, ncs⟩ :: Ts[i].rows.drop (k + 1)) :=
        putL_at (by have := HZ.out.2.2.2.2.1; omega) (fun j hj hjk => by show _ < nid; rw [hnid]; exact HPL.out.1 j hj hjk) (fun h => by show ¬ _ < nid; rw [hnid]; have := HPL.out.2.1 k h (Nat.le_refl _); omega) (.inl ⟨rfl, HZ.out.2.2.2.2.1, by show _ = nid; rw [hnid]; exact HZ.out.2.2.2.2.2⟩)
      have HE : Hid (∀ p' cap' v X, R = (stOf (Ts.set i (Ts[i].spl p' cap' k (k + 1) [⟨⟨nid, ncs⟩, v, X⟩])) (nextI n cid), 0)) := fun p' cap' v X => by
        rw [← HR.out, dn_put HOK.out HS2.out (by rw [hk3]; omega) (by rw [hk3]; omega), put_at3 hi HPU.out]
      obtain rfl : kd = 3 := HKD.out.symm.trans hk3
      clear hk3 hnid
      go_wp2_with fail
      refine wp_region_held_drew (S := (fun W => W.cell? ⟨p, k * 2, none⟩ = some (.int .i64 z.id) ∧ W.cell? ⟨p, k * 2 + 1, none⟩ = some (.slice za z.cells.length zq) ∧ W.cell? ⟨q, i, none⟩ = some (.slice (some ⟨p, 0, none⟩) ts.length cap) ∧ W.cell? ⟨w.heap.size, 0, none⟩ = some (.int .i64 (i : Int)) ∧ W.cell? ⟨w.heap.size, 1, none⟩ = some (.int .i64 cid) ∧ W.cell? ⟨w.heap.size, 1 + 1, none⟩ = some (.int .i64 oid) ∧ W.cell? ⟨w.heap.size, 1 + 1 + 1, none⟩ = some (.slice a3 ocs.length c3) ∧ W.cell? ⟨w.heap.size, 2, none⟩ = some (.int .i64 oid) ∧ W.cell? ⟨w.heap.size, 2 + 1, none⟩ = some (.slice a3 ocs.length c3) ∧ W.cell? ⟨w.heap.size, 3, none⟩ = some (.slice a3 ocs.length c3) ∧ W.cell? ⟨w.heap.size, 4, none⟩ = some (.int .i64 nid) ∧ W.cell? ⟨w.heap.size, 5, none⟩ = some (.slice a5 ncs.length c5) ∧ W.cell? ⟨m, 0, none⟩ = some (.slice (some ⟨q, 0, none⟩) Ts.length Ts.length) ∧ W.cell? ⟨m, 1, none⟩ = some (.int .i64 n))) (by kernel_rfl) ?_ (fun hHeld => ?_)
      · (first | exact CE.out _ hd | exact CE.out _ hd.drew)
      refine wpAnyH_take (i := 0) (v := ?_) rfl (by kernel_rfl) (by kernel_rfl) (by kernel_rfl) (fun _ _ _ h => h) (Or.inl ⟨by kernel_rfl, ?_⟩) (by assumption) ?_
      rotate_left
      · (intro wS hSw; (try dsimp only at hSw); go_simp <;> with_reducible rfl)
      try simp only [Act.put, tkS]
      refine wpAnyH_take (i := 1) (v := ?_) rfl (by kernel_rfl) (by kernel_rfl) (by kernel_rfl) (fun _ _ _ h => h) (Or.inl ⟨by kernel_rfl, ?_⟩) (by assumption) ?_
      rotate_left
      · (intro wS hSw; (try dsimp only at hSw); go_simp <;> with_reducible rfl)
      try simp only [Act.put, tkS]
      refine wpAnyH_take (i := 2) (v := ?_) rfl (by kernel_rfl) (by kernel_rfl) (by kernel_rfl) (fun _ _ _ h => h) (Or.inl ⟨by kernel_rfl, ?_⟩) (by assumption) ?_
      rotate_left
      · (intro wS hSw; (try dsimp only at hSw); go_simp <;> with_reducible rfl)
      try simp only [Act.put, tkS]
      refine wpAnyH_take (i := 3) (v := ?_) rfl (by kernel_rfl) (by kernel_rfl) (by kernel_rfl) (fun _ _ _ h => h) (Or.inl ⟨by kernel_rfl, ?_⟩) (by assumption) ?_
      rotate_left
      · (intro wS hSw; (try dsimp only at hSw); go_simp <;> with_reducible rfl)
      try simp only [Act.put, tkS]
      refine wpAnyH_take (i := 4) (v := ?_) rfl (by kernel_rfl) (by kernel_rfl) (by kernel_rfl) (fun _ _ _ h => h) (Or.inl ⟨by kernel_rfl, ?_⟩) (by assumption) ?_
      rotate_left
      · (intro wS hSw; (try dsimp only at hSw); go_simp <;> with_reducible rfl)
      try simp only [Act.put, tkS]
      refine wpAnyH_take (i := 5) (v := ?_) rfl (by kernel_rfl) (by kernel_rfl) (by kernel_rfl) (fun _ _ _ h => h) (Or.inl ⟨by kernel_rfl, ?_⟩) (by assumption) ?_
      rotate_left
      · (intro wS hSw; (try dsimp only at hSw); go_simp <;> with_reducible rfl)
      try simp only [Act.put, tkS]
      refine wpAnyH_take (i := 6) (v := ?_) rfl (by kernel_rfl) (by kernel_rfl) (by kernel_rfl) (fun _ _ _ h => h) (Or.inl ⟨by kernel_rfl, ?_⟩) (by assumption) ?_
      rotate_left
      · (intro wS hSw; (try dsimp only at hSw); go_simp <;> with_reducible rfl)
      try simp only [Act.put, tkS]
      refine wpAnyH_take (i := 7) (v := ?_) rfl (by kernel_rfl) (by kernel_rfl) (by kernel_rfl) (fun _ _ _ h => h) (Or.inl ⟨by kernel_rfl, ?_⟩) (by assumption) ?_
      rotate_left
      · (intro wS hSw; (try dsimp only at hSw); go_simp <;> with_reducible rfl)
      try simp only [Act.put, tkS]
      refine wpAnyH_ready (rs := [8]) (by kernel_rfl) (by simp) (AllReadyH.cons rfl (fun K hK => ?_) AllReadyH.nil)
      go_simp
      (go_at_call 52; refine (SR.out _ (by first | exact hd | exact hd.drew)).mono ?_; rintro e w1 ⟨rfl, hB⟩; have hd := (show DnB w _ lo m q Ts n _ from (by first | exact hd | exact hd.drew)).later hB; clear hB)
      refine hK.out _ _ ?_ (fun hHeld => ?_)
      · (first | exact CE.out _ hd | exact CE.out _ hd.drew)
      clear hK K
      try simp only [Act.put, tkS]
      refine wpAnyH_take (i := 9) (v := ?_) rfl (by kernel_rfl) (by kernel_rfl) (by kernel_rfl) (fun _ _ _ h => h) (Or.inl ⟨by kernel_rfl, ?_⟩) (by assumption) ?_
      rotate_left
      · (intro wS hSw; (try dsimp only at hSw); go_simp <;> with_reducible rfl)
      try simp only [Act.put, tkS]
      refine wpAnyH_take (i := 10) (v := ?_) rfl (by kernel_rfl) (by kernel_rfl) (by kernel_rfl) (fun _ _ _ h => h) (Or.inl ⟨by kernel_rfl, ?_⟩) (by assumption) ?_
      rotate_left
      · (intro wS hSw; (try dsimp only at hSw); go_simp <;> with_reducible rfl)
      try simp only [Act.put, tkS]
      refine wpAnyH_take (i := 11) (v := ?_) rfl (by kernel_rfl) (by kernel_rfl) (by kernel_rfl) (fun _ _ _ h => h) (Or.inl ⟨by kernel_rfl, ?_⟩) (by assumption) ?_
      rotate_left
      · (intro wS hSw; (try dsimp only at hSw); go_simp <;> with_reducible rfl)
      try simp only [Act.put, tkS]
      refine wpAnyH_take (i := 12) (v := ?_) rfl (by kernel_rfl) (by kernel_rfl) (by kernel_rfl) (fun _ _ _ h => h) (Or.inl ⟨by kernel_rfl, ?_⟩) (by assumption) ?_
      rotate_left
      · (intro wS hSw; (try dsimp only at hSw); go_simp <;> with_reducible rfl)
      try simp only [Act.put, tkS]
      refine wpAnyH_take (i := 13) (v := ?_) rfl (by kernel_rfl) (by kernel_rfl) (by kernel_rfl) (fun _ _ _ h => h) (Or.inl ⟨by kernel_rfl, ?_⟩) (by assumption) ?_
      rotate_left
      · (intro wS hSw; (try dsimp only at hSw); go_simp <;> with_reducible rfl)
      try simp only [Act.put, tkS]
      refine wpAnyH_take (i := 14) (v := ?_) rfl (by kernel_rfl) (by kernel_rfl) (by kernel_rfl) (fun _ _ _ h => h) (Or.inl ⟨by kernel_rfl, ?_⟩) (by assumption) ?_
      rotate_left
      · (intro wS hSw; (try dsimp only at hSw); go_simp <;> with_reducible rfl)
      try simp only [Act.put, tkS]
      refine wpAnyH_take (i := 15) (v := undef) rfl (by kernel_rfl) (by kernel_rfl) (by kernel_rfl) (fun _ _ _ h => h) (Or.inr ⟨by kernel_rfl, rfl⟩) (by assumption) ?_
      try simp only [Act.put, tkS]
      refine wpAnyH_take (i := 16) (v := undef) rfl (by kernel_rfl) (by kernel_rfl) (by kernel_rfl) (fun _ _ _ h => h) (Or.inr ⟨by kernel_rfl, rfl⟩) (by assumption) ?_
      try simp only [Act.put, tkS]
      refine wpAnyH_take (i := 17) (v := undef) rfl (by kernel_rfl) (by kernel_rfl) (by kernel_rfl) (fun _ _ _ h => h) (Or.inr ⟨by kernel_rfl, rfl⟩) (by assumption) ?_
      try simp only [Act.put, tkS]
      refine wpAnyH_take (i := 18) (v := undef) rfl (by kernel_rfl) (by kernel_rfl) (by kernel_rfl) (fun _ _ _ h => h) (Or.inr ⟨by kernel_rfl, rfl⟩) (by assumption) ?_
      try simp only [Act.put, tkS]
      refine wpAnyH_take (i := 19) (v := undef) rfl (by kernel_rfl) (by kernel_rfl) (by kernel_rfl) (fun _ _ _ h => h) (Or.inr ⟨by kernel_rfl, rfl⟩) (by assumption) ?_
      try simp only [Act.put, tkS]
      refine wpAnyH_take (i := 20) (v := ?_) rfl (by kernel_rfl) (by kernel_rfl) (by kernel_rfl) (fun _ _ _ h => h) (Or.inl ⟨by kernel_rfl, ?_⟩) (by assumption) ?_
      rotate_left
      · (intro wS hSw; (try dsimp only at hSw); go_simp <;> with_reducible rfl)
      try simp only [Act.put, tkS]
      refine wpAnyH_take (i := 21) (v := ?_) rfl (by kernel_rfl) (by kernel_rfl) (by kernel_rfl) (fun _ _ _ h => h) (Or.inl ⟨by kernel_rfl, ?_⟩) (by assumption) ?_
      rotate_left
      · (intro wS hSw; (try dsimp only at hSw); go_simp <;> with_reducible rfl)
      try simp only [Act.put, tkS]
      refine wpAnyH_done (by kernel_rfl) ?_ _
      have CR := Lib.hid (copyRowI ⟨nid, ncs⟩ w.heap.size 4 a5 c5 B _ HP.out.2.2.2.2 (HNN.out _ hd) (cell_at (o := 4) hd.bx rfl) (cell_at (o := 5) hd.bx rfl))
      obtain ⟨zp0, zp1, z0, x0, x1, -, -, x2, -, x3, x4, x5, y0, y1⟩ := CE.out _ hd
      go_wp2_with fail
      refine CR.out.mono ?_
      rintro e w4 ⟨q2, rfl, hown4, hB4⟩
      have hc4 := (hd.later hB4).ms
      have hc5 := (hc4.tb i hi).cells HZ.out.2.2.2.1
      have hpp : Ts[i].p = p := by rw [HTI.out.1]
      rw [hpp] at hc5
      have HM4 := Lib.hid (hd.ms.rep (r := ⟨nid, ncs⟩) hi HZ.out.2.2.2.1 hB4 hown4)
      rw [hpp] at HM4
      have HE4 : Hid (DnE w ((w4.setCell ⟨p, k * 2, none⟩ (.int .i64 nid)).setCell ⟨p, k * 2 + 1, none⟩ (.slice (some ⟨q2, 0, none⟩) ncs.length ncs.length)) lo m q _ n _) := hd.e hi HM4.out hB4.os hB4.tape hB4.output (by simpa [World.setCell] using hB4.size) (fun c hc hnb _ => by
        have hne : c ≠ p := fun e => hnb (.inl ⟨by rw [hpp]; exact e, by have h1 := (hc4.tb i hi).le; have h2 := HZ.out.2.2.2.1; omega⟩)
        rw [Below.heap_setCell _ _ _ _ hne, Below.heap_setCell _ _ _ _ hne, hB4.block c hc])
      obtain ⟨e0, e1, f0, f1⟩ := hc5
      clear hc4 hpp HM4 hown4 hB4 x0 x1 x2 x3 x4 x5 y0 y1 z0 zp0 zp1
      go_upto_region 18 with fail
      have hE := HE4.out
      generalize (w4.setCell ⟨p, k * 2, none⟩ (.int .i64 nid)).setCell ⟨p, k * 2 + 1, none⟩ (.slice (some ⟨q2, 0, none⟩) ncs.length ncs.length) = WE at *
      have HE3 := Lib.hid hE
      clear hE HE4 e0 e1 f0 f1
      have m1d := cell_at (o := 1) (HE3.out.later (Below.refl _ _).drew).ms.bx rfl
      refine wp_region_held_drew (S := (fun W => W.cell? ⟨w.heap.size, 1, none⟩ = some (.int .i64 cid))) (by kernel_rfl) ?_ (fun hHeld => ?_)
      · (first | exact cell_at (o := 1) HE3.out.bx rfl | exact cell_at (o := 1) (HE3.out.later (Below.refl _ _).drew).bx rfl | exact cell_at (o := 1) HE7.out.bx rfl | exact HX7.out)
      refine wpAnyH_take (i := 0) (v := ?_) rfl (by kernel_rfl) (by kernel_rfl) (by kernel_rfl) (fun _ _ _ h => h) (Or.inl ⟨by kernel_rfl, ?_⟩) (by assumption) ?_
      rotate_left
      · (intro wS hSw; (try dsimp only at hSw); go_simp <;> with_reducible rfl)
      try simp only [Act.put, tkS]
      refine wpAnyH_take (i := 1) (v := ?_) rfl (by kernel_rfl) (by kernel_rfl) (by kernel_rfl) (fun _ _ _ h => h) (Or.inl ⟨by kernel_rfl, ?_⟩) (by assumption) ?_
      rotate_left
      · (intro wS hSw; (try dsimp only at hSw); go_simp <;> with_reducible rfl)
      try simp only [Act.put, tkS]
      refine wpAnyH_take (i := 2) (v := ?_) rfl (by kernel_rfl) (by kernel_rfl) (by kernel_rfl) (fun _ _ _ h => h) (Or.inl ⟨by kernel_rfl, ?_⟩) (by assumption) ?_
      rotate_left
      · (intro wS hSw; (try dsimp only at hSw); go_simp <;> with_reducible rfl)
      try simp only [Act.put, tkS]
      refine wpAnyH_take (i := 3) (v := ?_) rfl (by kernel_rfl) (by kernel_rfl) (by kernel_rfl) (fun _ _ _ h => h) (Or.inl ⟨by kernel_rfl, ?_⟩) (by assumption) ?_
      rotate_left
      · (intro wS hSw; (try dsimp only at hSw); go_simp <;> with_reducible rfl)
      try simp only [Act.put, tkS]
      refine wpAnyH_take (i := 5) (v := ?_) rfl (by kernel_rfl) (by kernel_rfl) (by kernel_rfl) (fun _ _ _ h => h) (Or.inl ⟨by kernel_rfl, ?_⟩) (by assumption) ?_
      rotate_left
      · (intro wS hSw; (try dsimp only at hSw); go_simp <;> with_reducible rfl)
      try simp only [Act.put, tkS]
      refine wpAnyH_take (i := 6) (v := ?_) rfl (by kernel_rfl) (by kernel_rfl) (by kernel_rfl) (fun _ _ _ h => h) (Or.inl ⟨by kernel_rfl, ?_⟩) (by assumption) ?_
      rotate_left
      · (intro wS hSw; (try dsimp only at hSw); go_simp <;> with_reducible rfl)
      try simp only [Act.put, tkS]
      refine wpAnyH_ready (rs := [4]) (by kernel_rfl) (by simp) (AllReadyH.cons rfl (fun K hK => ?_) AllReadyH.nil)
      go_simp
      skip
      refine hK.out _ _ ?_ (fun hHeld => ?_)
      · (first | exact cell_at (o := 1) HE3.out.bx rfl | exact cell_at (o := 1) (HE3.out.later (Below.refl _ _).drew).bx rfl | exact cell_at (o := 1) HE7.out.bx rfl | exact HX7.out)
      clear hK K
      try simp only [Act.put, tkS]
      refine wpAnyH_ready (rs := [7]) (by kernel_rfl) (by simp) (AllReadyH.cons rfl (fun K hK => ?_) AllReadyH.nil)
      go_simp
      (go_at_call 55; refine (nextI_I n cid _ HP.out.2.1 HP.out.2.2.1).mono ?_; rintro e w7 ⟨rfl, hB7⟩; have HE7 := Lib.hid ((HE3.out.later (Below.refl _ _).drew).later hB7); have m1 := cell_at (o := 1) HE7.out.ms.bx rfl; have g1 := frozen_at 1 HE7.out.ms.bx; have HX7 : Hid ((w7.setCell ⟨m, 1, none⟩ (.int .i64 (nextI n cid))).cell? ⟨w.heap.size, 1, none⟩ = some (.int .i64 cid)) := cell_at (o := 1) ((Below.heap_setCell w7 ⟨m, 1, none⟩ _ w.heap.size HE7.out.nm).trans HE7.out.bx) rfl; clear hB7)
      refine hK.out _ _ ?_ (fun hHeld => ?_)
      · (first | exact cell_at (o := 1) HE3.out.bx rfl | exact cell_at (o := 1) (HE3.out.later (Below.refl _ _).drew).bx rfl | exact cell_at (o := 1) HE7.out.bx rfl | exact HX7.out)
      clear hK K
      try simp only [Act.put, tkS]
      refine wpAnyH_take (i := 8) (v := ?_) rfl (by kernel_rfl) (by kernel_rfl) (by kernel_rfl) (fun _ _ _ h => h) (Or.inl ⟨by kernel_rfl, ?_⟩) (by assumption) ?_
      rotate_left
      · (intro wS hSw; (try dsimp only at hSw); go_simp <;> with_reducible rfl)
      try simp only [Act.put, tkS]
      refine wpAnyH_take (i := 9) (v := ?_) rfl (by kernel_rfl) (by kernel_rfl) (by kernel_rfl) (fun _ _ _ h => h) (Or.inl ⟨by kernel_rfl, ?_⟩) (by assumption) ?_
      rotate_left
      · (intro wS hSw; (try dsimp only at hSw); go_simp <;> with_reducible rfl)
      try simp only [Act.put, tkS]
      refine wpAnyH_ready (rs := [10]) (by kernel_rfl) (by simp) (AllReadyH.cons rfl (fun K hK => ?_) AllReadyH.nil)
      go_simp
      skip
      refine hK.out _ _ ?_ (fun hHeld => ?_)
      · (first | exact cell_at (o := 1) HE3.out.bx rfl | exact cell_at (o := 1) (HE3.out.later (Below.refl _ _).drew).bx rfl | exact cell_at (o := 1) HE7.out.bx rfl | exact HX7.out)
      clear hK K
      try simp only [Act.put, tkS]
      refine wpAnyH_done (by kernel_rfl) ?_ _
      clear m1d m1 g1
      go_wp2_with fail
      go_ret
      exact HE7.out.ansN (HE.out _ _ _ _)
  have hno := HPL.out.2.2.2 rfl
  have hrow : rowD (tabI (stOf Ts n) (i : Int)) cid = rowZ := by rw [HTI.out.2.1]; exact rowD_none (rpl_none hno)
  have SR : Hid (∀ W, DnB w W lo m q Ts n #[.int .i64 (i : Int), .int .i64 cid, .int .i64 oid, .slice a3 ocs.length c3, .int .i64 nid, .slice a5 ncs.length c5] → Calls Try.prog 52 #[.agg #[.int .i64 0, .slice none 0 0], .agg #[.int .i64 oid, .slice a3 ocs.length c3]] W fun e w' => e = .returned (.bool (eqB rowZ ⟨oid, ocs⟩)) ∧ Below W.heap.size W w') := fun W h => sameRowI rowZ ⟨oid, ocs⟩ none 0 a3 c3 B B W (Ls_le.2 ⟨by omega, Nat.zero_le _, fun i hi => absurd hi (by simp [rowZ])⟩) (D.le.mono (by unfold maxLen; omega) _ HP.out.2.2.2.1) (Rd.lsNil _ _) (HOO.out W h)
  have HNO := Lib.hid hno
  cases hs : eqB rowZ ⟨oid, ocs⟩
  case false =>
    have HE : Hid (R = (stOf Ts n, 13)) := by
      show R = _
      rw [← HR.out]
      exact dn_ref HOK.out (by show eqB (rowD (tabI (stOf Ts n) (i : Int)) cid) ⟨oid, ocs⟩ = false; rw [hrow]; exact hs)
    rw [hs] at SR
    clear hs hno hrow
    go_wp2_with fail
    refine wp_region_held_drew (S := (fun W => W.cell? ⟨q, i, none⟩ = some (.slice (some ⟨p, 0, none⟩) ts.length cap) ∧ W.cell? ⟨w.heap.size, 0, none⟩ = some (.int .i64 (i : Int)) ∧ W.cell? ⟨w.heap.size, 1, none⟩ = some (.int .i64 cid) ∧ W.cell? ⟨w.heap.size, 1 + 1, none⟩ = some (.int .i64 oid) ∧ W.cell? ⟨w.heap.size, 1 + 1 + 1, none⟩ = some (.slice a3 ocs.length c3) ∧ W.cell? ⟨w.heap.size, 2, none⟩ = some (.int .i64 oid) ∧ W.cell? ⟨w.heap.size, 2 + 1, none⟩ = some (.slice a3 ocs.length c3) ∧ W.cell? ⟨w.heap.size, 3, none⟩ = some (.slice a3 ocs.length c3) ∧ W.cell? ⟨w.heap.size, 4, none⟩ = some (.int .i64 nid) ∧ W.cell? ⟨w.heap.size, 5, none⟩ = some (.slice a5 ncs.length c5) ∧ W.cell? ⟨m, 0, none⟩ = some (.slice (some ⟨q, 0, none⟩) Ts.length Ts.length) ∧ W.cell? ⟨m, 1, none⟩ = some (.int .i64 n))) (by kernel_rfl) ?_ (fun hHeld => ?_)
    · (first | exact CE.out _ hd | exact CE.out _ hd.drew)
    refine wpAnyH_take (i := 0) (v := ?_) rfl (by kernel_rfl) (by kernel_rfl) (by kernel_rfl) (fun _ _ _ h => h) (Or.inl ⟨by kernel_rfl, ?_⟩) (by assumption) ?_
    rotate_left
    · (intro wS hSw; (try dsimp only at hSw); go_simp <;> with_reducible rfl)
    try simp only [Act.put, tkS]
    refine wpAnyH_take (i := 1) (v := ?_) rfl (by kernel_rfl) (by kernel_rfl) (by kernel_rfl) (fun _ _ _ h => h) (Or.inl ⟨by kernel_rfl, ?_⟩) (by assumption) ?_
    rotate_left
    · (intro wS hSw; (try dsimp only at hSw); go_simp <;> with_reducible rfl)
    try simp only [Act.put, tkS]
    refine wpAnyH_take (i := 2) (v := undef) rfl (by kernel_rfl) (by kernel_rfl) (by kernel_rfl) (fun _ _ _ h => h) (Or.inr ⟨by kernel_rfl, rfl⟩) (by assumption) ?_
    try simp only [Act.put, tkS]
    refine wpAnyH_take (i := 3) (v := undef) rfl (by kernel_rfl) (by kernel_rfl) (by kernel_rfl) (fun _ _ _ h => h) (Or.inr ⟨by kernel_rfl, rfl⟩) (by assumption) ?_
    try simp only [Act.put, tkS]
    refine wpAnyH_take (i := 4) (v := undef) rfl (by kernel_rfl) (by kernel_rfl) (by kernel_rfl) (fun _ _ _ h => h) (Or.inr ⟨by kernel_rfl, rfl⟩) (by assumption) ?_
    try simp only [Act.put, tkS]
    refine wpAnyH_take (i := 5) (v := undef) rfl (by kernel_rfl) (by kernel_rfl) (by kernel_rfl) (fun _ _ _ h => h) (Or.inr ⟨by kernel_rfl, rfl⟩) (by assumption) ?_
    try simp only [Act.put, tkS]
    refine wpAnyH_take (i := 6) (v := undef) rfl (by kernel_rfl) (by kernel_rfl) (by kernel_rfl) (fun _ _ _ h => h) (Or.inr ⟨by kernel_rfl, rfl⟩) (by assumption) ?_
    try simp only [Act.put, tkS]
    refine wpAnyH_take (i := 7) (v := undef) rfl (by kernel_rfl) (by kernel_rfl) (by kernel_rfl) (fun _ _ _ h => h) (Or.inr ⟨by kernel_rfl, rfl⟩) (by assumption) ?_
    try simp only [Act.put, tkS]
    refine wpAnyH_take (i := 8) (v := undef) rfl (by kernel_rfl) (by kernel_rfl) (by kernel_rfl) (fun _ _ _ h => h) (Or.inr ⟨by kernel_rfl, rfl⟩) (by assumption) ?_
    try simp only [Act.put, tkS]
    refine wpAnyH_take (i := 9) (v := undef) rfl (by kernel_rfl) (by kernel_rfl) (by kernel_rfl) (fun _ _ _ h => h) (Or.inr ⟨by kernel_rfl, rfl⟩) (by assumption) ?_
    try simp only [Act.put, tkS]
    refine wpAnyH_take (i := 10) (v := ?_) rfl (by kernel_rfl) (by kernel_rfl) (by kernel_rfl) (fun _ _ _ h => h) (Or.inl ⟨by kernel_rfl, ?_⟩) (by assumption) ?_
    rotate_left
    · (intro wS hSw; (try dsimp only at hSw); go_simp <;> with_reducible rfl)
    try simp only [Act.put, tkS]
    refine wpAnyH_take (i := 11) (v := ?_) rfl (by kernel_rfl) (by kernel_rfl) (by kernel_rfl) (fun _ _ _ h => h) (Or.inl ⟨by kernel_rfl, ?_⟩) (by assumption) ?_
    rotate_left
    · (intro wS hSw; (try dsimp only at hSw); go_simp <;> with_reducible rfl)
    try simp only [Act.put, tkS]
    refine wpAnyH_take (i := 12) (v := ?_) rfl (by kernel_rfl) (by kernel_rfl) (by kernel_rfl) (fun _ _ _ h => h) (Or.inl ⟨by kernel_rfl, ?_⟩) (by assumption) ?_
    rotate_left
    · (intro wS hSw; (try dsimp only at hSw); go_simp <;> with_reducible rfl)
    try simp only [Act.put, tkS]
    refine wpAnyH_take (i := 13) (v := ?_) rfl (by kernel_rfl) (by kernel_rfl) (by kernel_rfl) (fun _ _ _ h => h) (Or.inl ⟨by kernel_rfl, ?_⟩) (by assumption) ?_
    rotate_left
    · (intro wS hSw; (try dsimp only at hSw); go_simp <;> with_reducible rfl)
    try simp only [Act.put, tkS]
    refine wpAnyH_take (i := 14) (v := ?_) rfl (by kernel_rfl) (by kernel_rfl) (by kernel_rfl) (fun _ _ _ h => h) (Or.inl ⟨by kernel_rfl, ?_⟩) (by assumption) ?_
    rotate_left
    · (intro wS hSw; (try dsimp only at hSw); go_simp <;> with_reducible rfl)
    try simp only [Act.put, tkS]
    refine wpAnyH_take (i := 15) (v := ?_) rfl (by kernel_rfl) (by kernel_rfl) (by kernel_rfl) (fun _ _ _ h => h) (Or.inl ⟨by kernel_rfl, ?_⟩) (by assumption) ?_
    rotate_left
    · (intro wS hSw; (try dsimp only at hSw); go_simp <;> with_reducible rfl)
    try simp only [Act.put, tkS]
    refine wpAnyH_take (i := 16) (v := ?_) rfl (by kernel_rfl) (by kernel_rfl) (by kernel_rfl) (fun _ _ _ h => h) (Or.inl ⟨by kernel_rfl, ?_⟩) (by assumption) ?_
    rotate_left
    · (intro wS hSw; (try dsimp only at hSw); go_simp <;> with_reducible rfl)
    try simp only [Act.put, tkS]
    refine wpAnyH_take (i := 17) (v := ?_) rfl (by kernel_rfl) (by kernel_rfl) (by kernel_rfl) (fun _ _ _ h => h) (Or.inl ⟨by kernel_rfl, ?_⟩) (by assumption) ?_
    rotate_left
    · (intro wS hSw; (try dsimp only at hSw); go_simp <;> with_reducible rfl)
    try simp only [Act.put, tkS]
    refine wpAnyH_ready (rs := [18]) (by kernel_rfl) (by simp) (AllReadyH.cons rfl (fun K hK => ?_) AllReadyH.nil)
    go_simp
    (go_at_call 52; refine (SR.out _ (by first | exact hd | exact hd.drew)).mono ?_; rintro e w1 ⟨rfl, hB⟩; have hd := (show DnB w _ lo m q Ts n _ from (by first | exact hd | exact hd.drew)).later hB; clear hB)
    refine hK.out _ _ ?_ (fun hHeld => ?_)
    · (first | exact CE.out _ hd | exact CE.out _ hd.drew)
    clear hK K
    try simp only [Act.put, tkS]
    refine wpAnyH_take (i := 19) (v := ?_) rfl (by kernel_rfl) (by kernel_rfl) (by kernel_rfl) (fun _ _ _ h => h) (Or.inl ⟨by kernel_rfl, ?_⟩) (by assumption) ?_
    rotate_left
    · (intro wS hSw; (try dsimp only at hSw); go_simp <;> with_reducible rfl)
    try simp only [Act.put, tkS]
    refine wpAnyH_take (i := 20) (v := ?_) rfl (by kernel_rfl) (by kernel_rfl) (by kernel_rfl) (fun _ _ _ h => h) (Or.inl ⟨by kernel_rfl, ?_⟩) (by assumption) ?_
    rotate_left
    · (intro wS hSw; (try dsimp only at hSw); go_simp <;> with_reducible rfl)
    try simp only [Act.put, tkS]
    refine wpAnyH_take (i := 21) (v := ?_) rfl (by kernel_rfl) (by kernel_rfl) (by kernel_rfl) (fun _ _ _ h => h) (Or.inl ⟨by kernel_rfl, ?_⟩) (by assumption) ?_
    rotate_left
    · (intro wS hSw; (try dsimp only at hSw); go_simp <;> with_reducible rfl)
    try simp only [Act.put, tkS]
    refine wpAnyH_done (by kernel_rfl) ?_ _
    go_wp2_with fail
    go_ret
    exact (show DnB w _ lo m q Ts n _ from (by first | exact hd | exact hd.drew)).ans HE.out
  have hze : rowZ = ⟨oid, ocs⟩ := eqB_iff.1 hs
  have hoid : oid = 0 := (congrArg RowV.id hze).symm
  have HS2 : Hid (eqB (rowD (tabI (stOf Ts n) (⟨(i : Int), cid, oid, ocs, nid, ncs⟩ : ChV).tab) (⟨(i : Int), cid, oid, ocs, nid, ncs⟩ : ChV).cid) ⟨(⟨(i : Int), cid, oid, ocs, nid, ncs⟩ : ChV).oid, (⟨(i : Int), cid, oid, ocs, nid, ncs⟩ : ChV).ocs⟩ = true) := by
    show eqB (rowD (tabI (stOf Ts n) (i : Int)) cid) ⟨oid, ocs⟩ = true
    rw [hrow]; exact hs
  obtain ⟨hk1, hnid⟩ := kind_not (t := (i : Int)) (ocs := ocs) (ncs := ncs) (nid := nid) HK1.out hoid HKN.out
  rw [hs] at SR
  clear hs hze hoid hno hrow
  have HRN : Hid ((tabI (stOf Ts n) (⟨(i : Int), cid, oid, ocs, nid, ncs⟩ : ChV).tab).length = ts.length) := by
    show (tabI (stOf Ts n) (i : Int)).length = _
    rw [HTI.out.2.1]; exact HRL.out
  by_cases h12 : 12 ≤ ts.length
  case pos =>
    have HE : Hid (R = (stOf Ts n, 7)) := by
      show R = _
      rw [← HR.out]
      exact dn_full HOK.out HS2.out hk1 (by rw [HRN.out]; exact h12)
    obtain rfl : kd = 1 := HKD.out.symm.trans hk1
    have d12 : decide ((ts.length : Int) ≥ 12) = true := decide_eq_true (by omega)
    have d13 : decide ((12 : Int) ≤ (ts.length : Int)) = true := decide_eq_true (by omega)
    clear hk1 hnid
    go_wp2_with fail
    refine wp_region_held_drew (S := (fun W => W.cell? ⟨q, i, none⟩ = some (.slice (some ⟨p, 0, none⟩) ts.length cap) ∧ W.cell? ⟨w.heap.size, 0, none⟩ = some (.int .i64 (i : Int)) ∧ W.cell? ⟨w.heap.size, 1, none⟩ = some (.int .i64 cid) ∧ W.cell? ⟨w.heap.size, 1 + 1, none⟩ = some (.int .i64 oid) ∧ W.cell? ⟨w.heap.size, 1 + 1 + 1, none⟩ = some (.slice a3 ocs.length c3) ∧ W.cell? ⟨w.heap.size, 2, none⟩ = some (.int .i64 oid) ∧ W.cell? ⟨w.heap.size, 2 + 1, none⟩ = some (.slice a3 ocs.length c3) ∧ W.cell? ⟨w.heap.size, 3, none⟩ = some (.slice a3 ocs.length c3) ∧ W.cell? ⟨w.heap.size, 4, none⟩ = some (.int .i64 nid) ∧ W.cell? ⟨w.heap.size, 5, none⟩ = some (.slice a5 ncs.length c5) ∧ W.cell? ⟨m, 0, none⟩ = some (.slice (some ⟨q, 0, none⟩) Ts.length Ts.length) ∧ W.cell? ⟨m, 1, none⟩ = some (.int .i64 n))) (by kernel_rfl) ?_ (fun hHeld => ?_)
    · (first | exact CE.out _ hd | exact CE.out _ hd.drew)
    refine wpAnyH_take (i := 0) (v := ?_) rfl (by kernel_rfl) (by kernel_rfl) (by kernel_rfl) (fun _ _ _ h => h) (Or.inl ⟨by kernel_rfl, ?_⟩) (by assumption) ?_
    rotate_left
    · (intro wS hSw; (try dsimp only at hSw); go_simp <;> with_reducible rfl)
    try simp only [Act.put, tkS]
    refine wpAnyH_take (i := 1) (v := ?_) rfl (by kernel_rfl) (by kernel_rfl) (by kernel_rfl) (fun _ _ _ h => h) (Or.inl ⟨by kernel_rfl, ?_⟩) (by assumption) ?_
    rotate_left
    · (intro wS hSw; (try dsimp only at hSw); go_simp <;> with_reducible rfl)
    try simp only [Act.put, tkS]
    refine wpAnyH_take (i := 2) (v := undef) rfl (by kernel_rfl) (by kernel_rfl) (by kernel_rfl) (fun _ _ _ h => h) (Or.inr ⟨by kernel_rfl, rfl⟩) (by assumption) ?_
    try simp only [Act.put, tkS]
    refine wpAnyH_take (i := 3) (v := undef) rfl (by kernel_rfl) (by kernel_rfl) (by kernel_rfl) (fun _ _ _ h => h) (Or.inr ⟨by kernel_rfl, rfl⟩) (by assumption) ?_
    try simp only [Act.put, tkS]
    refine wpAnyH_take (i := 4) (v := undef) rfl (by kernel_rfl) (by kernel_rfl) (by kernel_rfl) (fun _ _ _ h => h) (Or.inr ⟨by kernel_rfl, rfl⟩) (by assumption) ?_
    try simp only [Act.put, tkS]
    refine wpAnyH_take (i := 5) (v := undef) rfl (by kernel_rfl) (by kernel_rfl) (by kernel_rfl) (fun _ _ _ h => h) (Or.inr ⟨by kernel_rfl, rfl⟩) (by assumption) ?_
    try simp only [Act.put, tkS]
    refine wpAnyH_take (i := 6) (v := undef) rfl (by kernel_rfl) (by kernel_rfl) (by kernel_rfl) (fun _ _ _ h => h) (Or.inr ⟨by kernel_rfl, rfl⟩) (by assumption) ?_
    try simp only [Act.put, tkS]
    refine wpAnyH_take (i := 7) (v := undef) rfl (by kernel_rfl) (by kernel_rfl) (by kernel_rfl) (fun _ _ _ h => h) (Or.inr ⟨by kernel_rfl, rfl⟩) (by assumption) ?_
    try simp only [Act.put, tkS]
    refine wpAnyH_take (i := 8) (v := undef) rfl (by kernel_rfl) (by kernel_rfl) (by kernel_rfl) (fun _ _ _ h => h) (Or.inr ⟨by kernel_rfl, rfl⟩) (by assumption) ?_
    try simp only [Act.put, tkS]
    refine wpAnyH_take (i := 9) (v := undef) rfl (by kernel_rfl) (by kernel_rfl) (by kernel_rfl) (fun _ _ _ h => h) (Or.inr ⟨by kernel_rfl, rfl⟩) (by assumption) ?_
    try simp only [Act.put, tkS]
    refine wpAnyH_take (i := 10) (v := ?_) rfl (by kernel_rfl) (by kernel_rfl) (by kernel_rfl) (fun _ _ _ h => h) (Or.inl ⟨by kernel_rfl, ?_⟩) (by assumption) ?_
    rotate_left
    · (intro wS hSw; (try dsimp only at hSw); go_simp <;> with_reducible rfl)
    try simp only [Act.put, tkS]
    refine wpAnyH_take (i := 11) (v := ?_) rfl (by kernel_rfl) (by kernel_rfl) (by kernel_rfl) (fun _ _ _ h => h) (Or.inl ⟨by kernel_rfl, ?_⟩) (by assumption) ?_
    rotate_left
    · (intro wS hSw; (try dsimp only at hSw); go_simp <;> with_reducible rfl)
    try simp only [Act.put, tkS]
    refine wpAnyH_take (i := 12) (v := ?_) rfl (by kernel_rfl) (by kernel_rfl) (by kernel_rfl) (fun _ _ _ h => h) (Or.inl ⟨by kernel_rfl, ?_⟩) (by assumption) ?_
    rotate_left
    · (intro wS hSw; (try dsimp only at hSw); go_simp <;> with_reducible rfl)
    try simp only [Act.put, tkS]
    refine wpAnyH_take (i := 13) (v := ?_) rfl (by kernel_rfl) (by kernel_rfl) (by kernel_rfl) (fun _ _ _ h => h) (Or.inl ⟨by kernel_rfl, ?_⟩) (by assumption) ?_
    rotate_left
    · (intro wS hSw; (try dsimp only at hSw); go_simp <;> with_reducible rfl)
    try simp only [Act.put, tkS]
    refine wpAnyH_take (i := 14) (v := ?_) rfl (by kernel_rfl) (by kernel_rfl) (by kernel_rfl) (fun _ _ _ h => h) (Or.inl ⟨by kernel_rfl, ?_⟩) (by assumption) ?_
    rotate_left
    · (intro wS hSw; (try dsimp only at hSw); go_simp <;> with_reducible rfl)
    try simp only [Act.put, tkS]
    refine wpAnyH_take (i := 15) (v := ?_) rfl (by kernel_rfl) (by kernel_rfl) (by kernel_rfl) (fun _ _ _ h => h) (Or.inl ⟨by kernel_rfl, ?_⟩) (by assumption) ?_
    rotate_left
    · (intro wS hSw; (try dsimp only at hSw); go_simp <;> with_reducible rfl)
    try simp only [Act.put, tkS]
    refine wpAnyH_take (i := 16) (v := ?_) rfl (by kernel_rfl) (by kernel_rfl) (by kernel_rfl) (fun _ _ _ h => h) (Or.inl ⟨by kernel_rfl, ?_⟩) (by assumption) ?_
    rotate_left
    · (intro wS hSw; (try dsimp only at hSw); go_simp <;> with_reducible rfl)
    try simp only [Act.put, tkS]
    refine wpAnyH_take (i := 17) (v := ?_) rfl (by kernel_rfl) (by kernel_rfl) (by kernel_rfl) (fun _ _ _ h => h) (Or.inl ⟨by kernel_rfl, ?_⟩) (by assumption) ?_
    rotate_left
    · (intro wS hSw; (try dsimp only at hSw); go_simp <;> with_reducible rfl)
    try simp only [Act.put, tkS]
    refine wpAnyH_ready (rs := [18]) (by kernel_rfl) (by simp) (AllReadyH.cons rfl (fun K hK => ?_) AllReadyH.nil)
    go_simp
    (go_at_call 52; refine (SR.out _ (by first | exact hd | exact hd.drew)).mono ?_; rintro e w1 ⟨rfl, hB⟩; have hd := (show DnB w _ lo m q Ts n _ from (by first | exact hd | exact hd.drew)).later hB; clear hB)
    refine hK.out _ _ ?_ (fun hHeld => ?_)
    · (first | exact CE.out _ hd | exact CE.out _ hd.drew)
    clear hK K
    try simp only [Act.put, tkS]
    refine wpAnyH_take (i := 19) (v := ?_) rfl (by kernel_rfl) (by kernel_rfl) (by kernel_rfl) (fun _ _ _ h => h) (Or.inl ⟨by kernel_rfl, ?_⟩) (by assumption) ?_
    rotate_left
    · (intro wS hSw; (try dsimp only at hSw); go_simp <;> with_reducible rfl)
    try simp only [Act.put, tkS]
    refine wpAnyH_take (i := 20) (v := ?_) rfl (by kernel_rfl) (by kernel_rfl) (by kernel_rfl) (fun _ _ _ h => h) (Or.inl ⟨by kernel_rfl, ?_⟩) (by assumption) ?_
    rotate_left
    · (intro wS hSw; (try dsimp only at hSw); go_simp <;> with_reducible rfl)
    try simp only [Act.put, tkS]
    refine wpAnyH_take (i := 21) (v := ?_) rfl (by kernel_rfl) (by kernel_rfl) (by kernel_rfl) (fun _ _ _ h => h) (Or.inl ⟨by kernel_rfl, ?_⟩) (by assumption) ?_
    rotate_left
    · (intro wS hSw; (try dsimp only at hSw); go_simp <;> with_reducible rfl)
    try simp only [Act.put, tkS]
    refine wpAnyH_done (by kernel_rfl) ?_ _
    go_wp2_with fail
    go_ret
    exact (show DnB w _ lo m q Ts n _ from (by first | exact hd | exact hd.drew)).ans HE.out
  have HPU : Hid (putL Ts[i].rows ⟨nid, ncs⟩ = Ts[i].rows.take k ++ ⟨nid, ncs⟩ :: Ts[i].rows.drop k) :=
    putL_at (by rw [HRL.out]; exact hk) (fun j hj hjk => by show _ < nid; rw [hnid]; exact HPL.out.1 j hj hjk) (fun h => by show ¬ _ < nid; rw [hnid]; have := HPL.out.2.1 k h (Nat.le_refl _); omega) (.inr ⟨rfl, fun h => by show _ ≠ nid; rw [hnid]; exact HNO.out k h⟩)
  have HE : Hid (∀ p' cap' v X, R = (stOf (Ts.set i (Ts[i].spl p' cap' k k [⟨⟨nid, ncs⟩, v, X⟩])) (nextI n cid), 0)) := fun p' cap' v X => by
    rw [← HR.out, dn_put HOK.out HS2.out (by rw [hk1]; omega) (by rw [HRN.out]; omega), put_at3 hi HPU.out]
  obtain rfl : kd = 1 := HKD.out.symm.trans hk1
  have d12 : decide ((ts.length : Int) ≥ 12) = false := decide_eq_false (by omega)
  have d13 : decide ((12 : Int) ≤ (ts.length : Int)) = false := decide_eq_false (by omega)
  clear hk1 hnid
  go_wp2_with fail
  refine wp_region_held_drew (S := (fun W => W.cell? ⟨q, i, none⟩ = some (.slice (some ⟨p, 0, none⟩) ts.length cap) ∧ W.cell? ⟨w.heap.size, 0, none⟩ = some (.int .i64 (i : Int)) ∧ W.cell? ⟨w.heap.size, 1, none⟩ = some (.int .i64 cid) ∧ W.cell? ⟨w.heap.size, 1 + 1, none⟩ = some (.int .i64 oid) ∧ W.cell? ⟨w.heap.size, 1 + 1 + 1, none⟩ = some (.slice a3 ocs.length c3) ∧ W.cell? ⟨w.heap.size, 2, none⟩ = some (.int .i64 oid) ∧ W.cell? ⟨w.heap.size, 2 + 1, none⟩ = some (.slice a3 ocs.length c3) ∧ W.cell? ⟨w.heap.size, 3, none⟩ = some (.slice a3 ocs.length c3) ∧ W.cell? ⟨w.heap.size, 4, none⟩ = some (.int .i64 nid) ∧ W.cell? ⟨w.heap.size, 5, none⟩ = some (.slice a5 ncs.length c5) ∧ W.cell? ⟨m, 0, none⟩ = some (.slice (some ⟨q, 0, none⟩) Ts.length Ts.length) ∧ W.cell? ⟨m, 1, none⟩ = some (.int .i64 n))) (by kernel_rfl) ?_ (fun hHeld => ?_)
  · (first | exact CE.out _ hd | exact CE.out _ hd.drew)
  refine wpAnyH_take (i := 0) (v := ?_) rfl (by kernel_rfl) (by kernel_rfl) (by kernel_rfl) (fun _ _ _ h => h) (Or.inl ⟨by kernel_rfl, ?_⟩) (by assumption) ?_
  rotate_left
  · (intro wS hSw; (try dsimp only at hSw); go_simp <;> with_reducible rfl)
  try simp only [Act.put, tkS]
  refine wpAnyH_take (i := 1) (v := ?_) rfl (by kernel_rfl) (by kernel_rfl) (by kernel_rfl) (fun _ _ _ h => h) (Or.inl ⟨by kernel_rfl, ?_⟩) (by assumption) ?_
  rotate_left
  · (intro wS hSw; (try dsimp only at hSw); go_simp <;> with_reducible rfl)
  try simp only [Act.put, tkS]
  refine wpAnyH_take (i := 2) (v := undef) rfl (by kernel_rfl) (by kernel_rfl) (by kernel_rfl) (fun _ _ _ h => h) (Or.inr ⟨by kernel_rfl, rfl⟩) (by assumption) ?_
  try simp only [Act.put, tkS]
  refine wpAnyH_take (i := 3) (v := undef) rfl (by kernel_rfl) (by kernel_rfl) (by kernel_rfl) (fun _ _ _ h => h) (Or.inr ⟨by kernel_rfl, rfl⟩) (by assumption) ?_
  try simp only [Act.put, tkS]
  refine wpAnyH_take (i := 4) (v := undef) rfl (by kernel_rfl) (by kernel_rfl) (by kernel_rfl) (fun _ _ _ h => h) (Or.inr ⟨by kernel_rfl, rfl⟩) (by assumption) ?_
  try simp only [Act.put, tkS]
  refine wpAnyH_take (i := 5) (v := undef) rfl (by kernel_rfl) (by kernel_rfl) (by kernel_rfl) (fun _ _ _ h => h) (Or.inr ⟨by kernel_rfl, rfl⟩) (by assumption) ?_
  try simp only [Act.put, tkS]
  refine wpAnyH_take (i := 6) (v := undef) rfl (by kernel_rfl) (by kernel_rfl) (by kernel_rfl) (fun _ _ _ h => h) (Or.inr ⟨by kernel_rfl, rfl⟩) (by assumption) ?_
  try simp only [Act.put, tkS]
  refine wpAnyH_take (i := 7) (v := undef) rfl (by kernel_rfl) (by kernel_rfl) (by kernel_rfl) (fun _ _ _ h => h) (Or.inr ⟨by kernel_rfl, rfl⟩) (by assumption) ?_
  try simp only [Act.put, tkS]
  refine wpAnyH_take (i := 8) (v := undef) rfl (by kernel_rfl) (by kernel_rfl) (by kernel_rfl) (fun _ _ _ h => h) (Or.inr ⟨by kernel_rfl, rfl⟩) (by assumption) ?_
  try simp only [Act.put, tkS]
  refine wpAnyH_take (i := 9) (v := undef) rfl (by kernel_rfl) (by kernel_rfl) (by kernel_rfl) (fun _ _ _ h => h) (Or.inr ⟨by kernel_rfl, rfl⟩) (by assumption) ?_
  try simp only [Act.put, tkS]
  refine wpAnyH_take (i := 10) (v := ?_) rfl (by kernel_rfl) (by kernel_rfl) (by kernel_rfl) (fun _ _ _ h => h) (Or.inl ⟨by kernel_rfl, ?_⟩) (by assumption) ?_
  rotate_left
  · (intro wS hSw; (try dsimp only at hSw); go_simp <;> with_reducible rfl)
  try simp only [Act.put, tkS]
  refine wpAnyH_take (i := 11) (v := ?_) rfl (by kernel_rfl) (by kernel_rfl) (by kernel_rfl) (fun _ _ _ h => h) (Or.inl ⟨by kernel_rfl, ?_⟩) (by assumption) ?_
  rotate_left
  · (intro wS hSw; (try dsimp only at hSw); go_simp <;> with_reducible rfl)
  try simp only [Act.put, tkS]
  refine wpAnyH_take (i := 12) (v := ?_) rfl (by kernel_rfl) (by kernel_rfl) (by kernel_rfl) (fun _ _ _ h => h) (Or.inl ⟨by kernel_rfl, ?_⟩) (by assumption) ?_
  rotate_left
  · (intro wS hSw; (try dsimp only at hSw); go_simp <;> with_reducible rfl)
  try simp only [Act.put, tkS]
  refine wpAnyH_take (i := 13) (v := ?_) rfl (by kernel_rfl) (by kernel_rfl) (by kernel_rfl) (fun _ _ _ h => h) (Or.inl ⟨by kernel_rfl, ?_⟩) (by assumption) ?_
  rotate_left
  · (intro wS hSw; (try dsimp only at hSw); go_simp <;> with_reducible rfl)
  try simp only [Act.put, tkS]
  refine wpAnyH_take (i := 14) (v := ?_) rfl (by kernel_rfl) (by kernel_rfl) (by kernel_rfl) (fun _ _ _ h => h) (Or.inl ⟨by kernel_rfl, ?_⟩) (by assumption) ?_
  rotate_left
  · (intro wS hSw; (try dsimp only at hSw); go_simp <;> with_reducible rfl)
  try simp only [Act.put, tkS]
  refine wpAnyH_take (i := 15) (v := ?_) rfl (by kernel_rfl) (by kernel_rfl) (by kernel_rfl) (fun _ _ _ h => h) (Or.inl ⟨by kernel_rfl, ?_⟩) (by assumption) ?_
  rotate_left
  · (intro wS hSw; (try dsimp only at hSw); go_simp <;> with_reducible rfl)
  try simp only [Act.put, tkS]
  refine wpAnyH_take (i := 16) (v := ?_) rfl (by kernel_rfl) (by kernel_rfl) (by kernel_rfl) (fun _ _ _ h => h) (Or.inl ⟨by kernel_rfl, ?_⟩) (by assumption) ?_
  rotate_left
  · (intro wS hSw; (try dsimp only at hSw); go_simp <;> with_reducible rfl)
  try simp only [Act.put, tkS]
  refine wpAnyH_take (i := 17) (v := ?_) rfl (by kernel_rfl) (by kernel_rfl) (by kernel_rfl) (fun _ _ _ h => h) (Or.inl ⟨by kernel_rfl, ?_⟩) (by assumption) ?_
  rotate_left
  · (intro wS hSw; (try dsimp only at hSw); go_simp <;> with_reducible rfl)
  try simp only [Act.put, tkS]
  refine wpAnyH_ready (rs := [18]) (by kernel_rfl) (by simp) (AllReadyH.cons rfl (fun K hK => ?_) AllReadyH.nil)
  go_simp
  (go_at_call 52; refine (SR.out _ (by first | exact hd | exact hd.drew)).mono ?_; rintro e w1 ⟨rfl, hB⟩; have hd := (show DnB w _ lo m q Ts n _ from (by first | exact hd | exact hd.drew)).later hB; clear hB)
  refine hK.out _ _ ?_ (fun hHeld => ?_)
  · (first | exact CE.out _ hd | exact CE.out _ hd.drew)
  clear hK K
  try simp only [Act.put, tkS]
  refine wpAnyH_take (i := 19) (v := ?_) rfl (by kernel_rfl) (by kernel_rfl) (by kernel_rfl) (fun _ _ _ h => h) (Or.inl ⟨by kernel_rfl, ?_⟩) (by assumption) ?_
  rotate_left
  · (intro wS hSw; (try dsimp only at hSw); go_simp <;> with_reducible rfl)
  try simp only [Act.put, tkS]
  refine wpAnyH_take (i := 20) (v := ?_) rfl (by kernel_rfl) (by kernel_rfl) (by kernel_rfl) (fun _ _ _ h => h) (Or.inl ⟨by kernel_rfl, ?_⟩) (by assumption) ?_
  rotate_left
  · (intro wS hSw; (try dsimp only at hSw); go_simp <;> with_reducible rfl)
  try simp only [Act.put, tkS]
  refine wpAnyH_take (i := 21) (v := ?_) rfl (by kernel_rfl) (by kernel_rfl) (by kernel_rfl) (fun _ _ _ h => h) (Or.inl ⟨by kernel_rfl, ?_⟩) (by assumption) ?_
  rotate_left
  · (intro wS hSw; (try dsimp only at hSw); go_simp <;> with_reducible rfl)
  try simp only [Act.put, tkS]
  refine wpAnyH_done (by kernel_rfl) ?_ _
  go_wp2_with fail
  have K14 : Hid (∀ W, DnB w W lo m q Ts n #[.int .i64 (i : Int), .int .i64 cid, .int .i64 oid, .slice a3 ocs.length c3, .int .i64 nid, .slice a5 ncs.length c5] → W.cell? ⟨m, 0, none⟩ = some (.slice (some ⟨q, 0, none⟩) Ts.length Ts.length) ∧ W.cell? ⟨w.heap.size, 0, none⟩ = some (.int .i64 (i : Int))) := fun W h => ⟨cell_at (o := 0) h.ms.bx rfl, cell_at (o := 0) h.bx rfl⟩
  refine wp_region_held_drew (S := (fun W => W.cell? ⟨m, 0, none⟩ = some (.slice (some ⟨q, 0, none⟩) Ts.length Ts.length) ∧ W.cell? ⟨w.heap.size, 0, none⟩ = some (.int .i64 (i : Int)))) (by kernel_rfl) ?_ (fun hHeld => ?_)
  · (first | exact (K14.out _ hd) | exact (K14.out _ hd.drew) | exact (K14.out _ HD.out.2.2.2.1) | exact (K14.out _ HD.out.2.2.2.2) | exact HK6.out | exact HK7.out)
  refine wpAnyH_take (i := 0) (v := ?_) rfl (by kernel_rfl) (by kernel_rfl) (by kernel_rfl) (fun _ _ _ h => h) (Or.inl ⟨by kernel_rfl, ?_⟩) (by assumption) ?_
  rotate_left
  · (intro wS hSw; (try dsimp only at hSw); go_simp <;> with_reducible rfl)
  try simp only [Act.put, tkS]
  refine wpAnyH_take (i := 1) (v := ?_) rfl (by kernel_rfl) (by kernel_rfl) (by kernel_rfl) (fun _ _ _ h => h) (Or.inl ⟨by kernel_rfl, ?_⟩) (by assumption) ?_
  rotate_left
  · (intro wS hSw; (try dsimp only at hSw); go_simp <;> with_reducible rfl)
  try simp only [Act.put, tkS]
  refine wpAnyH_take (i := 2) (v := ?_) rfl (by kernel_rfl) (by kernel_rfl) (by kernel_rfl) (fun _ _ _ h => h) (Or.inl ⟨by kernel_rfl, ?_⟩) (by assumption) ?_
  rotate_left
  · (intro wS hSw; (try dsimp only at hSw); go_simp <;> with_reducible rfl)
  try simp only [Act.put, tkS]
  refine wpAnyH_take (i := 3) (v := ?_) rfl (by kernel_rfl) (by kernel_rfl) (by kernel_rfl) (fun _ _ _ h => h) (Or.inl ⟨by kernel_rfl, ?_⟩) (by assumption) ?_
  rotate_left
  · (intro wS hSw; (try dsimp only at hSw); go_simp <;> with_reducible rfl)
  try simp only [Act.put, tkS]
  refine wpAnyH_take (i := 4) (v := ?_) rfl (by kernel_rfl) (by kernel_rfl) (by kernel_rfl) (fun _ _ _ h => h) (Or.inl ⟨by kernel_rfl, ?_⟩) (by assumption) ?_
  rotate_left
  · (intro wS hSw; (try dsimp only at hSw); go_simp <;> with_reducible rfl)
  try simp only [Act.put, tkS]
  refine wpAnyH_take (i := 5) (v := ?_) rfl (by kernel_rfl) (by kernel_rfl) (by kernel_rfl) (fun _ _ _ h => h) (Or.inl ⟨by kernel_rfl, ?_⟩) (by assumption) ?_
  rotate_left
  · (intro wS hSw; (try dsimp only at hSw); go_simp <;> with_reducible rfl)
  try simp only [Act.put, tkS]
  refine wpAnyH_take (i := 6) (v := ?_) rfl (by kernel_rfl) (by kernel_rfl) (by kernel_rfl) (fun _ _ _ h => h) (Or.inl ⟨by kernel_rfl, ?_⟩) (by assumption) ?_
  rotate_left
  · (intro wS hSw; (try dsimp only at hSw); go_simp <;> with_reducible rfl)
  try simp only [Act.put, tkS]
  refine wpAnyH_take (i := 7) (v := ?_) rfl (by kernel_rfl) (by kernel_rfl) (by kernel_rfl) (fun _ _ _ h => h) (Or.inl ⟨by kernel_rfl, ?_⟩) (by assumption) ?_
  rotate_left
  · (intro wS hSw; (try dsimp only at hSw); go_simp <;> with_reducible rfl)
  try simp only [Act.put, tkS]
  refine wpAnyH_take (i := 8) (v := ?_) rfl (by kernel_rfl) (by kernel_rfl) (by kernel_rfl) (fun _ _ _ h => h) (Or.inl ⟨by kernel_rfl, ?_⟩) (by assumption) ?_
  rotate_left
  · (intro wS hSw; (try dsimp only at hSw); go_simp <;> with_reducible rfl)
  try simp only [Act.put, tkS]
  refine wpAnyH_ready (rs := [9]) (by kernel_rfl) (by simp) (AllReadyH.cons rfl (fun K hK => ?_) AllReadyH.nil)
  go_simp
  go_at_call 47
  have hd2 : DnB w _ lo m q Ts n _ := hd.drew
  refine (copyRowI ⟨nid, ncs⟩ w.heap.size 4 a5 c5 B _ HP.out.2.2.2.2 (HNN.out _ hd2) (cell_at (o := 4) hd2.bx rfl) (cell_at (o := 5) hd2.bx rfl)).mono ?_
  rintro e w4 ⟨q2, rfl, hown4, hB4⟩
  have hd4 := hd2.later hB4
  have hd5 := hd4.later (below_allocD w4 (.cells #[.int .i64 nid, .slice (some ⟨q2, 0, none⟩) ncs.length ncs.length] 53))
  have HD := Lib.hid (And.intro hd2 (And.intro hB4 (And.intro hown4 (And.intro hd4 hd5))))
  have IN := Lib.hid (insert2 Ts[i] k w4.heap.size (.int .i64 nid) (.slice (some ⟨q2, 0, none⟩) ncs.length ncs.length) _ (hd5.ms.tb i hi) (by rw [HTI.out.1]; show ts.length ≤ 1000; omega) (by rw [HTI.out.1]; exact hk) (fun u hu => by simp only [List.mem_cons, List.not_mem_nil, or_false] at hu; rcases hu with rfl | rfl <;> rfl) (heap_newD _ _) (fun h e => by have h1 := (hd4.ms.tb i hi).lt _ (.inl ⟨e, h⟩); omega) (hd5.ms.tb i hi).one)
  have hvv : Ts[i].v = .slice (some ⟨p, 0, none⟩) ts.length cap := by rw [HTI.out.1]; rfl
  rw [hvv] at IN
  clear hd2 hown4 hB4 hd4 hd5 hvv
  refine hK.out _ _ ?_ (fun hHeld => ?_)
  · (first | exact (K14.out _ hd) | exact (K14.out _ hd.drew) | exact (K14.out _ HD.out.2.2.2.1) | exact (K14.out _ HD.out.2.2.2.2) | exact HK6.out | exact HK7.out)
  clear hK K
  try simp only [Act.put, tkS]
  refine wpAnyH_ready (rs := [10]) (by kernel_rfl) (by simp) (AllReadyH.cons rfl (fun K hK => ?_) AllReadyH.nil)
  go_simp
  skip
  refine hK.out _ _ ?_ (fun hHeld => ?_)
  · (first | exact (K14.out _ hd) | exact (K14.out _ hd.drew) | exact (K14.out _ HD.out.2.2.2.1) | exact (K14.out _ HD.out.2.2.2.2) | exact HK6.out | exact HK7.out)
  clear hK K
  try simp only [Act.put, tkS]
  refine wpAnyH_ready (rs := [11]) (by kernel_rfl) (by simp) (AllReadyH.cons rfl (fun K hK => ?_) AllReadyH.nil)
  go_simp
  go_at_call 53
  with_reducible refine IN.out.mono ?_
  rintro e w6 ⟨gn, cn, cur, he, hgn, hcur, htake, hcap, hcm, hsz, hF6⟩
  have htl : Ts[i].ts.length = ts.length := by rw [HTI.out.1]
  rw [htl] at he
  obtain rfl := he
  have hd2 := HD.out.1
  have hMI := hd2.ms.ins hi (r := ⟨nid, ncs⟩) (k := k) (by rw [htl]; exact hk) HD.out.2.1 HD.out.2.2.1 (below_allocD _ _) hgn hcur htake hcap hcm hsz hF6
  rw [htl] at hMI
  have s4 := HD.out.2.1.size
  have hkeep : ∀ c, c < _ → ¬ Ts[i].bl c → w6.heap[c]? = _ := fun c hc hnb => (hF6.block c (by rw [size_allocD]; exact Nat.lt_succ_of_lt (Nat.lt_of_lt_of_le hc s4)) (fun e => hnb (.inl e))).trans (((below_allocD w4 _).block c (Nat.lt_of_lt_of_le hc s4)).trans (HD.out.2.1.block c hc))
  have hq6 : w6.heap[q]? = some (.cells (Ts.map Tab3.v).toArray 73) := (hkeep q (Array.getElem?_eq_some_iff.1 hd2.ms.rq).1 (hd2.ms.nq i hi).1).trans hd2.ms.rq
  have e0 : w6.cell? ⟨q, i, none⟩ = some Ts[i].v := by simp [World.cell?, hq6, hi]
  rw [HTI.out.1] at e0
  replace e0 : w6.cell? ⟨q, i, none⟩ = some (.slice (some ⟨p, 0, none⟩) ts.length cap) := e0
  have f0 : w6.frozen? ⟨q, i, none⟩ = false := by simp [World.frozen?, hq6]
  have hsz6 : (w6.setCell ⟨q, i, none⟩ (.slice (some ⟨gn, 0, none⟩) (ts.length + 1) cn)).heap.size = w6.heap.size := by simp [World.setCell]
  have HE2 := Lib.hid (hd2.e hi hMI (by exact hF6.os.trans HD.out.2.1.os) (by exact hF6.tape.trans HD.out.2.1.tape) (by exact hF6.output.trans HD.out.2.1.output) (by have h := hF6.size; rw [size_allocD] at h; rw [hsz6]; omega) (fun c hc hnb hcq => by rw [Below.heap_setCell _ _ _ _ hcq]; exact hkeep c hc hnb))
  have HK6 : Hid (w6.cell? ⟨m, 0, none⟩ = some (.slice (some ⟨q, 0, none⟩) Ts.length Ts.length) ∧ w6.cell? ⟨w.heap.size, 0, none⟩ = some (.int .i64 (i : Int))) := ⟨cell_at (o := 0) ((hkeep m (Array.getElem?_eq_some_iff.1 hd2.ms.bx).1 (hd2.ms.nq i hi).2).trans hd2.ms.bx) rfl, cell_at (o := 0) ((hkeep w.heap.size (Array.getElem?_eq_some_iff.1 hd2.bx).1 (hd2.nb i hi)).trans hd2.bx) rfl⟩
  have HK7 : Hid ((w6.setCell ⟨q, i, none⟩ (.slice (some ⟨gn, 0, none⟩) (ts.length + 1) cn)).cell? ⟨m, 0, none⟩ = some (.slice (some ⟨q, 0, none⟩) Ts.length Ts.length) ∧ (w6.setCell ⟨q, i, none⟩ (.slice (some ⟨gn, 0, none⟩) (ts.length + 1) cn)).cell? ⟨w.heap.size, 0, none⟩ = some (.int .i64 (i : Int))) := ⟨by have h2 := cell_at (o := 0) hMI.bx rfl; rw [List.length_set] at h2; exact h2, cell_at (o := 0) HE2.out.bx rfl⟩
  clear hMI hgn hcur htake hcap hcm hsz hF6 hq6 hd2 htl hkeep s4 hsz6
  refine hK.out _ _ ?_ (fun hHeld => ?_)
  · (first | exact (K14.out _ hd) | exact (K14.out _ hd.drew) | exact (K14.out _ HD.out.2.2.2.1) | exact (K14.out _ HD.out.2.2.2.2) | exact HK6.out | exact HK7.out)
  clear hK K
  try simp only [Act.put, tkS]
  refine wpAnyH_take (i := 12) (v := ?_) rfl (by kernel_rfl) (by kernel_rfl) (by kernel_rfl) (fun _ _ _ h => h) (Or.inl ⟨by kernel_rfl, ?_⟩) (by assumption) ?_
  rotate_left
  · (intro wS hSw; (try dsimp only at hSw); go_simp <;> with_reducible rfl)
  try simp only [Act.put, tkS]
  refine wpAnyH_ready (rs := [13]) (by kernel_rfl) (by simp) (AllReadyH.cons rfl (fun K hK => ?_) AllReadyH.nil)
  go_simp
  skip
  refine hK.out _ _ ?_ (fun hHeld => ?_)
  · (first | exact (K14.out _ hd) | exact (K14.out _ hd.drew) | exact (K14.out _ HD.out.2.2.2.1) | exact (K14.out _ HD.out.2.2.2.2) | exact HK6.out | exact HK7.out)
  clear hK K
  try simp only [Act.put, tkS]
  refine wpAnyH_done (by kernel_rfl) ?_ _
  have hE := HE2.out
  generalize w6.setCell ⟨q, i, none⟩ (.slice (some ⟨gn, 0, none⟩) (ts.length + 1) cn) = WE at *
  have HE3 := Lib.hid hE
  clear hE HE2 HK6 HK7 e0 f0 HD IN
  go_upto_region 18 with fail
  have m1d := cell_at (o := 1) (HE3.out.later (Below.refl _ _).drew).ms.bx rfl
  refine wp_region_held_drew (S := (fun W => W.cell? ⟨w.heap.size, 1, none⟩ = some (.int .i64 cid))) (by kernel_rfl) ?_ (fun hHeld => ?_)
  · (first | exact cell_at (o := 1) HE3.out.bx rfl | exact cell_at (o := 1) (HE3.out.later (Below.refl _ _).drew).bx rfl | exact cell_at (o := 1) HE7.out.bx rfl | exact HX7.out)
  refine wpAnyH_take (i := 0) (v := ?_) rfl (by kernel_rfl) (by kernel_rfl) (by kernel_rfl) (fun _ _ _ h => h) (Or.inl ⟨by kernel_rfl, ?_⟩) (by assumption) ?_
  rotate_left
  · (intro wS hSw; (try dsimp only at hSw); go_simp <;> with_reducible rfl)
  try simp only [Act.put, tkS]
  refine wpAnyH_take (i := 1) (v := ?_) rfl (by kernel_rfl) (by kernel_rfl) (by kernel_rfl) (fun _ _ _ h => h) (Or.inl ⟨by kernel_rfl, ?_⟩) (by assumption) ?_
  rotate_left
  · (intro wS hSw; (try dsimp only at hSw); go_simp <;> with_reducible rfl)
  try simp only [Act.put, tkS]
  refine wpAnyH_take (i := 2) (v := ?_) rfl (by kernel_rfl) (by kernel_rfl) (by kernel_rfl) (fun _ _ _ h => h) (Or.inl ⟨by kernel_rfl, ?_⟩) (by assumption) ?_
  rotate_left
  · (intro wS hSw; (try dsimp only at hSw); go_simp <;> with_reducible rfl)
  try simp only [Act.put, tkS]
  refine wpAnyH_take (i := 3) (v := ?_) rfl (by kernel_rfl) (by kernel_rfl) (by kernel_rfl) (fun _ _ _ h => h) (Or.inl ⟨by kernel_rfl, ?_⟩) (by assumption) ?_
  rotate_left
  · (intro wS hSw; (try dsimp only at hSw); go_simp <;> with_reducible rfl)
  try simp only [Act.put, tkS]
  refine wpAnyH_take (i := 5) (v := ?_) rfl (by kernel_rfl) (by kernel_rfl) (by kernel_rfl) (fun _ _ _ h => h) (Or.inl ⟨by kernel_rfl, ?_⟩) (by assumption) ?_
  rotate_left
  · (intro wS hSw; (try dsimp only at hSw); go_simp <;> with_reducible rfl)
  try simp only [Act.put, tkS]
  refine wpAnyH_take (i := 6) (v := ?_) rfl (by kernel_rfl) (by kernel_rfl) (by kernel_rfl) (fun _ _ _ h => h) (Or.inl ⟨by kernel_rfl, ?_⟩) (by assumption) ?_
  rotate_left
  · (intro wS hSw; (try dsimp only at hSw); go_simp <;> with_reducible rfl)
  try simp only [Act.put, tkS]
  refine wpAnyH_ready (rs := [4]) (by kernel_rfl) (by simp) (AllReadyH.cons rfl (fun K hK => ?_) AllReadyH.nil)
  go_simp
  skip
  refine hK.out _ _ ?_ (fun hHeld => ?_)
  · (first | exact cell_at (o := 1) HE3.out.bx rfl | exact cell_at (o := 1) (HE3.out.later (Below.refl _ _).drew).bx rfl | exact cell_at (o := 1) HE7.out.bx rfl | exact HX7.out)
  clear hK K
  try simp only [Act.put, tkS]
  refine wpAnyH_ready (rs := [7]) (by kernel_rfl) (by simp) (AllReadyH.cons rfl (fun K hK => ?_) AllReadyH.nil)
  go_simp
  (go_at_call 55; refine (nextI_I n cid _ HP.out.2.1 HP.out.2.2.1).mono ?_; rintro e w7 ⟨rfl, hB7⟩; have HE7 := Lib.hid ((HE3.out.later (Below.refl _ _).drew).later hB7); have m1 := cell_at (o := 1) HE7.out.ms.bx rfl; have g1 := frozen_at 1 HE7.out.ms.bx; have HX7 : Hid ((w7.setCell ⟨m, 1, none⟩ (.int .i64 (nextI n cid))).cell? ⟨w.heap.size, 1, none⟩ = some (.int .i64 cid)) := cell_at (o := 1) ((Below.heap_setCell w7 ⟨m, 1, none⟩ _ w.heap.size HE7.out.nm).trans HE7.out.bx) rfl; clear hB7)
  refine hK.out _ _ ?_ (fun hHeld => ?_)
  · (first | exact cell_at (o := 1) HE3.out.bx rfl | exact cell_at (o := 1) (HE3.out.later (Below.refl _ _).drew).bx rfl | exact cell_at (o := 1) HE7.out.bx rfl | exact HX7.out)
  clear hK K
  try simp only [Act.put, tkS]
  refine wpAnyH_take (i := 8) (v := ?_) rfl (by kernel_rfl) (by kernel_rfl) (by kernel_rfl) (fun _ _ _ h => h) (Or.inl ⟨by kernel_rfl, ?_⟩) (by assumption) ?_
  rotate_left
  · (intro wS hSw; (try dsimp only at hSw); go_simp <;> with_reducible rfl)
  try simp only [Act.put, tkS]
  refine wpAnyH_take (i := 9) (v := ?_) rfl (by kernel_rfl) (by kernel_rfl) (by kernel_rfl) (fun _ _ _ h => h) (Or.inl ⟨by kernel_rfl, ?_⟩) (by assumption) ?_
  rotate_left
  · (intro wS hSw; (try dsimp only at hSw); go_simp <;> with_reducible rfl)
  try simp only [Act.put, tkS]
  refine wpAnyH_ready (rs := [10]) (by kernel_rfl) (by simp) (AllReadyH.cons rfl (fun K hK => ?_) AllReadyH.nil)
  go_simp
  skip
  refine hK.out _ _ ?_ (fun hHeld => ?_)
  · (first | exact cell_at (o := 1) HE3.out.bx rfl | exact cell_at (o := 1) (HE3.out.later (Below.refl _ _).drew).bx rfl | exact cell_at (o := 1) HE7.out.bx rfl | exact HX7.out)
  clear hK K
  try simp only [Act.put, tkS]
  refine wpAnyH_done (by kernel_rfl) ?_ _
  clear m1d m1 g1
  go_wp2_with fail
  go_ret
  exact HE7.out.ansN (HE.out _ _ _ _)
end Go.Proofs.Ytomocmmionnppaa
