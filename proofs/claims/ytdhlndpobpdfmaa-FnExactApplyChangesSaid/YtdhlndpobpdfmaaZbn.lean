import Derived.Test.YtdhlndpobpdfmaaZbm
import Derived.WalkArith
import Derived.Deep.RegionHeld3
import Derived.Deep.Cut
import Derived.Test.YtdhlndpobpdfmaaZTk
namespace Go.Proofs.Ytdhlndpobpdfmaa
open Go.RowKit
set_option linter.unusedSimpArgs false
set_option maxRecDepth 100000 in
set_option maxHeartbeats 1600000 in
theorem nextI_I (n id : Int) (w : World) (hn : iOK n) (hi : iOK id) : Calls Try.prog 51 #[.int .i64 n, .int .i64 id] w fun e w' => e = .returned (.int .i64 (nextI n id)) ∧ Below w.heap.size w w' := by
  have HB := Lib.hid (Below.refl w.heap.size w)
  have hr := iOK_rng hi
  have hrn := iOK_rng hn
  generalize hR : nextI n id = R
  have HR := Lib.hid hR
  clear hR
  by_cases h1 : id = 9223372036854775807
  · have HV : Hid (R = n) := by show R = _; rw [← HR.out, h1]; exact next_max hn
    have d1 : (id == 9223372036854775807) = true := by simpa using h1
    clear h1 hr hrn hn hi
    go_enter Try.func51, Try.ntmps51
    go_wp2_with fail
    go_ret
    exact ⟨ret_i HV.out.symm, HB.out⟩
  · have HV : Hid (R = if n < id + 1 then id + 1 else n) := by show R = _; rw [← HR.out]; exact next_in hi h1
    have d1 : (id == 9223372036854775807) = false := by simpa using h1
    have hw : IntKind.i64.wrap (id + 1) = id + 1 := by rw [IntKind.wrap_i64]; omega
    have hlt : id < 9223372036854775807 := by omega
    clear hn hi
    by_cases h2 : n < id + 1
    · have HV2 : Hid (R = id + 1) := by show R = _; rw [HV.out, if_pos h2]
      have d2 : decide (n < id + 1) = true := decide_eq_true h2
      clear h1 HV
      go_enter Try.func51, Try.ntmps51
      go_wp2_with fail
      go_ret
      exact ⟨ret_i HV2.out.symm, HB.out⟩
    · have HV2 : Hid (R = n) := by show R = _; rw [HV.out, if_neg h2]
      have d2 : decide (n < id + 1) = false := decide_eq_false h2
      clear h1 HV
      go_enter Try.func51, Try.ntmps51
      go_wp2_with fail
      go_ret
      exact ⟨ret_i HV2.out.symm, HB.out⟩
structure DnB (w W : World) (lo m q : Nat) (Ts : List Tab3) (n : Int) (cs : Array Value) : Prop where
  bx : W.heap[w.heap.size]? = some (.cells cs 55)
  ms : MSt W lo m q Ts n
  nb : ∀ i (h : i < Ts.length), ¬ Ts[i].bl w.heap.size
  nm : w.heap.size ≠ q ∧ w.heap.size ≠ m ∧ lo ≤ w.heap.size
  bel : Below w.heap.size w W
theorem DnB.first {w : World} {lo m q : Nat} {Ts : List Tab3} {n : Int} (h : MSt w lo m q Ts n) (cs : Array Value) : DnB w (w.alloc (.cells cs 55)) lo m q Ts n cs :=
  ⟨heap_newD _ _, h.later (below_allocD _ _), fun i hi hb => by have := (h.tb i hi).lt _ hb; omega, ⟨fun e => by have := (Array.getElem?_eq_some_iff.1 h.rq).1; omega, fun e => by have := (Array.getElem?_eq_some_iff.1 h.bx).1; omega, by have h1 := (Array.getElem?_eq_some_iff.1 h.bx).1; have h2 := h.lo.1; omega⟩, below_allocD _ _⟩
theorem DnB.later {w W W' : World} {lo m q : Nat} {Ts : List Tab3} {n : Int} {cs : Array Value} (h : DnB w W lo m q Ts n cs) (hB : Below W.heap.size W W') : DnB w W' lo m q Ts n cs :=
  ⟨heap_keptD h.bx hB, h.ms.later hB, h.nb, h.nm, h.bel.trans (hB.mono h.bel.size)⟩
theorem DnB.drew {w W : World} {lo m q : Nat} {Ts : List Tab3} {n : Int} {cs : Array Value} (h : DnB w W lo m q Ts n cs) : DnB w W.drew lo m q Ts n cs := h.later (Below.refl _ _).drew
structure DnE (w W : World) (lo m q : Nat) (Ts : List Tab3) (n : Int) (cs : Array Value) : Prop where
  bx : W.heap[w.heap.size]? = some (.cells cs 55)
  ms : MSt W lo m q Ts n
  nm : w.heap.size ≠ m
  bel : Below lo w W
theorem DnE.later {w W W' : World} {lo m q : Nat} {Ts : List Tab3} {n : Int} {cs : Array Value} (h : DnE w W lo m q Ts n cs) (hB : Below W.heap.size W W') : DnE w W' lo m q Ts n cs :=
  ⟨heap_keptD h.bx hB, h.ms.later hB, h.nm, ⟨hB.os.trans h.bel.os, hB.tape.trans h.bel.tape, hB.output.trans h.bel.output, Nat.le_trans h.bel.size hB.size, fun b hb => (hB.block b (by have h1 := (Array.getElem?_eq_some_iff.1 h.ms.bx).1; have h2 := h.ms.lo.1; omega)).trans (h.bel.block b hb)⟩⟩
theorem DnB.e {w W W' : World} {lo m q : Nat} {Ts Ts' : List Tab3} {n : Int} {cs : Array Value} (h : DnB w W lo m q Ts n cs) {i : Nat} (hi : i < Ts.length) (hM : MSt W' lo m q Ts' n) (hos : W'.os = W.os) (ht : W'.tape = W.tape) (hout : W'.output = W.output) (hs : W.heap.size ≤ W'.heap.size) (hF : ∀ c, c < W.heap.size → ¬ Ts[i].bl c → c ≠ q → W'.heap[c]? = W.heap[c]?) : DnE w W' lo m q Ts' n cs := by
  have hb := (Array.getElem?_eq_some_iff.1 h.bx).1
  refine ⟨by rw [hF _ hb (h.nb i hi) h.nm.1]; exact h.bx, hM, h.nm.2.1, ⟨hos.trans h.bel.os, ht.trans h.bel.tape, hout.trans h.bel.output, Nat.le_trans h.bel.size hs, fun b hb' => ?_⟩⟩
  have hlo := h.nm.2.2
  have h2 := h.bel.size
  rw [hF b (by omega) (fun hx => by have := h.ms.lo.2.2 i hi b hx; omega) (fun e => by have := h.ms.lo.2.1; omega), h.bel.block b (by omega)]
def DoneAns (w : World) (lo m q : Nat) (R : StV × Int) (e : Ending) (w' : World) : Prop := ∃ Ts' n', e = .returned (.int .i64 R.2) ∧ MSt w' lo m q Ts' n' ∧ stOf Ts' n' = R.1 ∧ Below lo w w'
theorem DnB.ans {w W : World} {lo m q : Nat} {Ts : List Tab3} {n : Int} {cs : Array Value} {R : StV × Int} {r : Int} (h : DnB w W lo m q Ts n cs) (hR : R = (stOf Ts n, r)) : DoneAns w lo m q R (.returned (.int .i64 r)) W :=
  ⟨Ts, n, by rw [hR], h.ms, by rw [hR], h.bel.mono h.nm.2.2⟩
theorem DnE.ans {w W : World} {lo m q : Nat} {Ts : List Tab3} {n : Int} {cs : Array Value} {R : StV × Int} {r : Int} (h : DnE w W lo m q Ts n cs) (hR : R = (stOf Ts n, r)) : DoneAns w lo m q R (.returned (.int .i64 r)) W := ⟨Ts, n, by rw [hR], h.ms, by rw [hR], h.bel⟩
theorem DnE.ansN {w W : World} {lo m q : Nat} {Ts : List Tab3} {n n' : Int} {cs : Array Value} {R : StV × Int} {r : Int} (h : DnE w W lo m q Ts n cs) (hR : R = (stOf Ts n', r)) : DoneAns w lo m q R (.returned (.int .i64 r)) (W.setCell ⟨m, 1, none⟩ (.int .i64 n')) :=
  ⟨Ts, n', by rw [hR], h.ms.next n', by rw [hR], h.bel.setCell h.ms.lo.1 _⟩
theorem dn_in0 {Ts : List Tab3} {n : Int} {i : Nat} (hi : i < Ts.length) {cid oid nid : Int} {ocs ncs : List (List At)} {T' : Tab3} (hr : T'.rows = (inC Ts[i].rows 12 ⟨(i : Int), cid, oid, ocs, nid, ncs⟩).1) (h0 : (inC Ts[i].rows 12 ⟨(i : Int), cid, oid, ocs, nid, ncs⟩).2 = 0) :
    dnC (stOf Ts n) ⟨(i : Int), cid, oid, ocs, nid, ncs⟩ = (stOf (Ts.set i T') (if kindC ⟨(i : Int), cid, oid, ocs, nid, ncs⟩ = 2 then n else nextI n cid), 0) := by
  have hrg : 0 ≤ (i : Int) ∧ (i : Int) < ((stOf Ts n).tables.length : Int) := by rw [stOf_len]; omega
  by_cases h1 : cid < 1 ∨ kindC ⟨(i : Int), cid, oid, ocs, nid, ncs⟩ = 0
  · rw [in_bad h1] at h0; simp at h0
  have h1' : ¬ ((⟨(i : Int), cid, oid, ocs, nid, ncs⟩ : ChV).cid < 1 ∨ ¬ (0 ≤ (⟨(i : Int), cid, oid, ocs, nid, ncs⟩ : ChV).tab ∧ (⟨(i : Int), cid, oid, ocs, nid, ncs⟩ : ChV).tab < ((stOf Ts n).tables.length : Int)) ∨ kindC ⟨(i : Int), cid, oid, ocs, nid, ncs⟩ = 0) := by
    rintro (h | h | h)
    · exact h1 (.inl h)
    · exact h hrg
    · exact h1 (.inr h)
  have ht : tabI (stOf Ts n) (i : Int) = Ts[i].rows := tab_at3 hi
  cases h2 : eqB (rowD Ts[i].rows cid) ⟨oid, ocs⟩
  · rw [in_ref h1 h2] at h0; simp at h0
  have h2' : eqB (rowD (tabI (stOf Ts n) (i : Int)) cid) ⟨oid, ocs⟩ = true := by rw [ht]; exact h2
  by_cases h3 : kindC ⟨(i : Int), cid, oid, ocs, nid, ncs⟩ = 2
  · rw [in_drop h1 h2 h3] at hr
    rw [dn_drop h1' h2' h3, if_pos h3, st_set (n := n), hr]
    unfold dropC
    simp only [ht, Int.toNat_natCast]
    rfl
  by_cases h4 : kindC ⟨(i : Int), cid, oid, ocs, nid, ncs⟩ = 1 ∧ (12 : Int) ≤ (Ts[i].rows.length : Int)
  · rw [in_full h1 h2 h4.1 h4.2] at h0; simp at h0
  rw [in_put h1 h2 h3 h4] at hr
  rw [dn_put h1' h2' h3 (by rw [ht]; intro h; exact h4 ⟨h.1, by have := h.2; omega⟩), if_neg h3, st_set (n := n), hr]
  unfold putC'
  simp only [ht, Int.toNat_natCast]
  rfl
theorem dn_in1 {Ts : List Tab3} {n : Int} {i : Nat} (hi : i < Ts.length) {cid oid nid : Int} {ocs ncs : List (List At)} (h0 : (inC Ts[i].rows 12 ⟨(i : Int), cid, oid, ocs, nid, ncs⟩).2 ≠ 0) :
    dnC (stOf Ts n) ⟨(i : Int), cid, oid, ocs, nid, ncs⟩ = (stOf Ts n, (inC Ts[i].rows 12 ⟨(i : Int), cid, oid, ocs, nid, ncs⟩).2) := by
  have hrg : 0 ≤ (i : Int) ∧ (i : Int) < ((stOf Ts n).tables.length : Int) := by rw [stOf_len]; omega
  by_cases h1 : cid < 1 ∨ kindC ⟨(i : Int), cid, oid, ocs, nid, ncs⟩ = 0
  · rw [in_bad h1]; exact dn_bad (by rcases h1 with h | h; exact .inl h; exact .inr (.inr h))
  have h1' : ¬ ((⟨(i : Int), cid, oid, ocs, nid, ncs⟩ : ChV).cid < 1 ∨ ¬ (0 ≤ (⟨(i : Int), cid, oid, ocs, nid, ncs⟩ : ChV).tab ∧ (⟨(i : Int), cid, oid, ocs, nid, ncs⟩ : ChV).tab < ((stOf Ts n).tables.length : Int)) ∨ kindC ⟨(i : Int), cid, oid, ocs, nid, ncs⟩ = 0) := by
    rintro (h | h | h)
    · exact h1 (.inl h)
    · exact h hrg
    · exact h1 (.inr h)
  have ht : tabI (stOf Ts n) (i : Int) = Ts[i].rows := tab_at3 hi
  cases h2 : eqB (rowD Ts[i].rows cid) ⟨oid, ocs⟩
  · rw [in_ref h1 h2]; exact dn_ref h1' (by rw [ht]; exact h2)
  by_cases h3 : kindC ⟨(i : Int), cid, oid, ocs, nid, ncs⟩ = 2
  · rw [in_drop h1 h2 h3] at h0; simp at h0
  by_cases h4 : kindC ⟨(i : Int), cid, oid, ocs, nid, ncs⟩ = 1 ∧ (12 : Int) ≤ (Ts[i].rows.length : Int)
  · rw [in_full h1 h2 h4.1 h4.2]; exact dn_full h1' (by rw [ht]; exact h2) h4.1 (by rw [ht]; have := h4.2; omega)
  rw [in_put h1 h2 h3 h4] at h0; simp at h0
set_option maxRecDepth 100000 in
set_option maxHeartbeats 12800000 in
theorem doneI (tab cid oid nid : Int) (ocs ncs : List (List At)) (a3 : Option Addr) (c3 : Nat) (a5 : Option Addr) (c5 : Nat) (lo m q : Nat) (Ts : List Tab3) (n : Int) (B : Nat → Prop) (w : World) (hM : MSt w lo m q Ts n) (hP : ApP (stOf Ts n)) (hn : iOK n) (hid : iOK cid) (hoo : (dAtomSS ocs).le 1048576) (hon : (dAtomSS ncs).le 1048576) (hO : Rd w B (dAtomSS ocs) (.slice a3 ocs.length c3)) (hN : Rd w B (dAtomSS ncs) (.slice a5 ncs.length c5)) :
    Calls Try.prog 26 #[.agg #[.int .i64 tab, .int .i64 cid, .int .i64 oid, .slice a3 ocs.length c3, .int .i64 nid, .slice a5 ncs.length c5], .pointer (some ⟨m, 0, none⟩)] w (DoneAns w lo m q (dnC (stOf Ts n) ⟨tab, cid, oid, ocs, nid, ncs⟩)) := by
  have hd := DnB.first hM #[.int .i64 tab, .int .i64 cid, .int .i64 oid, .slice a3 ocs.length c3, .int .i64 nid, .slice a5 ncs.length c5]
  have HT : Hid (∀ W, DnB w W lo m q Ts n #[.int .i64 tab, .int .i64 cid, .int .i64 oid, .slice a3 ocs.length c3, .int .i64 nid, .slice a5 ncs.length c5] → Calls Try.prog 48 #[.agg #[.slice (some ⟨q, 0, none⟩) Ts.length Ts.length, .int .i64 n], .int .i64 tab] W fun e w' => e = .returned (.bool (hasT (stOf Ts n) tab)) ∧ Below W.heap.size W w') := fun W _ => by
    have h := hasTableI (stOf Ts n) tab (some ⟨q, 0, none⟩) Ts.length W
    rw [stOf_len] at h
    exact h
  have CE : Hid (∀ W, DnB w W lo m q Ts n #[.int .i64 tab, .int .i64 cid, .int .i64 oid, .slice a3 ocs.length c3, .int .i64 nid, .slice a5 ncs.length c5] → W.cell? ⟨w.heap.size, 0, none⟩ = some (.int .i64 tab) ∧ W.cell? ⟨w.heap.size, 1, none⟩ = some (.int .i64 cid) ∧ W.cell? ⟨w.heap.size, 2, none⟩ = some (.int .i64 oid) ∧ W.cell? ⟨w.heap.size, 3, none⟩ = some (.slice a3 ocs.length c3) ∧ W.cell? ⟨w.heap.size, 4, none⟩ = some (.int .i64 nid) ∧ W.cell? ⟨w.heap.size, 5, none⟩ = some (.slice a5 ncs.length c5) ∧ W.cell? ⟨m, 0, none⟩ = some (.slice (some ⟨q, 0, none⟩) Ts.length Ts.length) ∧ W.cell? ⟨m, 1, none⟩ = some (.int .i64 n)) := fun W h => ⟨cell_at (o := 0) h.bx rfl, cell_at (o := 1) h.bx rfl, cell_at (o := 2) h.bx rfl, cell_at (o := 3) h.bx rfl, cell_at (o := 4) h.bx rfl, cell_at (o := 5) h.bx rfl, cell_at (o := 0) h.ms.bx rfl, cell_at (o := 1) h.ms.bx rfl⟩
  have HOO : Hid (∀ W, DnB w W lo m q Ts n #[.int .i64 tab, .int .i64 cid, .int .i64 oid, .slice a3 ocs.length c3, .int .i64 nid, .slice a5 ncs.length c5] → Rd W B (dAtomSS ocs) (.slice a3 ocs.length c3)) := fun W h => hO.later h.bel
  have HNN : Hid (∀ W, DnB w W lo m q Ts n #[.int .i64 tab, .int .i64 cid, .int .i64 oid, .slice a3 ocs.length c3, .int .i64 nid, .slice a5 ncs.length c5] → Rd W B (dAtomSS ncs) (.slice a5 ncs.length c5)) := fun W h => hN.later h.bel
  have HP := Lib.hid (And.intro hP (And.intro hn (And.intro hid (And.intro hoo hon))))
  clear hM hO hN hP hn hid hoo hon
  generalize hR : dnC (stOf Ts n) ⟨tab, cid, oid, ocs, nid, ncs⟩ = R
  have HR := Lib.hid hR
  clear hR
  by_cases hT : hasT (stOf Ts n) tab = true
  case neg =>
    have hT' : hasT (stOf Ts n) tab = false := by simpa using hT
    have HE : Hid (R = (stOf Ts n, 1)) := by
      show R = _
      rw [← HR.out]
      refine dn_bad (.inr (.inl ?_))
      unfold hasT at hT'
      exact of_decide_eq_false hT'
    rw [hT'] at HT
    clear hT hT' HR
    go_enter Try.func26, Try.ntmps26
    go_wp2_with fail
    refine wp_region_held_drew (S := (fun W => W.cell? ⟨w.heap.size, 0, none⟩ = some (.int .i64 tab) ∧ W.cell? ⟨w.heap.size, 1, none⟩ = some (.int .i64 cid) ∧ W.cell? ⟨w.heap.size, 2, none⟩ = some (.int .i64 oid) ∧ W.cell? ⟨w.heap.size, 3, none⟩ = some (.slice a3 ocs.length c3) ∧ W.cell? ⟨w.heap.size, 4, none⟩ = some (.int .i64 nid) ∧ W.cell? ⟨w.heap.size, 5, none⟩ = some (.slice a5 ncs.length c5) ∧ W.cell? ⟨m, 0, none⟩ = some (.slice (some ⟨q, 0, none⟩) Ts.length Ts.length) ∧ W.cell? ⟨m, 1, none⟩ = some (.int .i64 n))) (by kernel_rfl) ?_ (fun hHeld => ?_)
    · (first | exact CE.out _ hd | exact CE.out _ hd.drew)
    refine wpAnyH_take (i := 0) (v := ?_) rfl (by kernel_rfl) (by kernel_rfl) (by kernel_rfl) (fun _ _ _ h => h) (Or.inl ⟨by kernel_rfl, ?_⟩) (by assumption) ?_
    rotate_left
    · (intro wS hSw; (try dsimp only at hSw); go_simp <;> with_reducible rfl)
    try simp only [Act.put, tkS]
    refine wpAnyH_take (i := 1) (v := ?_) rfl (by kernel_rfl) (by kernel_rfl) (by kernel_rfl) (fun _ _ _ h => h) (Or.inl ⟨by kernel_rfl, ?_⟩) (by assumption) ?_
    rotate_left
    · (intro wS hSw; (try dsimp only at hSw); go_simp <;> with_reducible rfl)
    try simp only [Act.put, tkS]
    refine wpAnyH_take (i := 2) (v := ?_) rfl (by kernel_rfl) (by kernel_rfl) (by kernel_rfl) (fun _ _ _ h => h) (Or.inl ⟨by kernel_rfl, ?_⟩) (by assumption) ?_
    rotate_left
    · (intro wS hSw; (try dsimp only at hSw); go_simp <;> with_reducible rfl)
    try simp only [Act.put, tkS]
    refine wpAnyH_take (i := 3) (v := ?_) rfl (by kernel_rfl) (by kernel_rfl) (by kernel_rfl) (fun _ _ _ h => h) (Or.inl ⟨by kernel_rfl, ?_⟩) (by assumption) ?_
    rotate_left
    · (intro wS hSw; (try dsimp only at hSw); go_simp <;> with_reducible rfl)
    try simp only [Act.put, tkS]
    refine wpAnyH_take (i := 4) (v := ?_) rfl (by kernel_rfl) (by kernel_rfl) (by kernel_rfl) (fun _ _ _ h => h) (Or.inl ⟨by kernel_rfl, ?_⟩) (by assumption) ?_
    rotate_left
    · (intro wS hSw; (try dsimp only at hSw); go_simp <;> with_reducible rfl)
    try simp only [Act.put, tkS]
    refine wpAnyH_ready (rs := [5]) (by kernel_rfl) (by simp) (AllReadyH.cons rfl (fun K hK => ?_) AllReadyH.nil)
    go_simp
    (go_at_call 48; refine (HT.out _ (by first | exact hd | exact hd.drew)).mono ?_; rintro e w1 ⟨rfl, hB⟩; have hd := (show DnB w _ lo m q Ts n _ from (by first | exact hd | exact hd.drew)).later hB; clear hB)
    refine hK.out _ _ ?_ (fun hHeld => ?_)
    · (first | exact CE.out _ hd | exact CE.out _ hd.drew)
    clear hK K
    try simp only [Act.put, tkS]
    refine wpAnyH_take (i := 6) (v := ?_) rfl (by kernel_rfl) (by kernel_rfl) (by kernel_rfl) (fun _ _ _ h => h) (Or.inl ⟨by kernel_rfl, ?_⟩) (by assumption) ?_
    rotate_left
    · (intro wS hSw; (try dsimp only at hSw); go_simp <;> with_reducible rfl)
    try simp only [Act.put, tkS]
    refine wpAnyH_done (by kernel_rfl) ?_ _
    go_wp2_with fail
    go_ret
    exact (show DnB w _ lo m q Ts n _ from (by first | exact hd | exact hd.drew)).ans HE.out
  have hrange : 0 ≤ tab ∧ tab < ((stOf Ts n).tables.length : Int) := by unfold hasT at hT; exact of_decide_eq_true hT
  rw [stOf_len] at hrange
  obtain ⟨i, rfl⟩ : ∃ i : Nat, tab = (i : Int) := ⟨tab.toNat, by omega⟩
  have hi : i < Ts.length := by omega
  have hii : (i : Int) < (Ts.length : Int) := by omega
  rw [hT] at HT
  clear hT hrange
  obtain ⟨p, cap, ts, hTi⟩ : ∃ p cap ts, Ts[i] = ⟨p, cap, ts⟩ := ⟨_, _, _, rfl⟩
  have hir : i < (stOf Ts n).tables.length := by rw [stOf_len]; exact hi
  have hPt := HP.out.1.tab hir
  rw [stOf_at hi] at hPt
  have IT : Hid (∀ W, DnB w W lo m q Ts n #[.int .i64 (i : Int), .int .i64 cid, .int .i64 oid, .slice a3 ocs.length c3, .int .i64 nid, .slice a5 ncs.length c5] → Calls Try.prog 49 #[.agg #[.int .i64 (i : Int), .int .i64 cid, .int .i64 oid, .slice a3 ocs.length c3, .int .i64 nid, .slice a5 ncs.length c5], .slice (some ⟨p, 0, none⟩) ts.length cap, .int .i64 12] W fun e w' => ∃ p' cap' ts', e = .returned (.tuple #[.slice (some ⟨p', 0, none⟩) ts'.length cap', .int .i64 (inC Ts[i].rows 12 ⟨(i : Int), cid, oid, ocs, nid, ncs⟩).2]) ∧ TabW w' ⟨p', cap', ts'⟩ ∧ (Tab3.mk p' cap' ts').rows = (inC Ts[i].rows 12 ⟨(i : Int), cid, oid, ocs, nid, ncs⟩).1 ∧ (∀ c, (Tab3.mk p' cap' ts').bl c → Ts[i].bl c ∨ W.heap.size ≤ c) ∧ Frm Ts[i].bl W w' ∧ ((inC Ts[i].rows 12 ⟨(i : Int), cid, oid, ocs, nid, ncs⟩).2 ≠ 0 → (Tab3.mk p' cap' ts') = Ts[i] ∧ Below W.heap.size W w')) := fun W h => by
    have h0 := h.ms.tb i hi
    rw [hTi] at hPt h0
    have h1 := intoI (i : Int) cid oid nid 12 ocs ncs a3 c3 a5 c5 p cap ts B W h0 hPt.1 hPt.2 (by omega) HP.out.2.2.2.1 HP.out.2.2.2.2 (HOO.out W h) (HNN.out W h)
    rw [hTi]
    refine h1.mono ?_
    rintro e w' ⟨T', he, h2⟩
    obtain ⟨p', cap', ts'⟩ := T'
    exact ⟨p', cap', ts', he, h2⟩
  have CE1 : Hid (∀ W, DnB w W lo m q Ts n #[.int .i64 (i : Int), .int .i64 cid, .int .i64 oid, .slice a3 ocs.length c3, .int .i64 nid, .slice a5 ncs.length c5] → W.cell? ⟨q, i, none⟩ = some (.slice (some ⟨p, 0, none⟩) ts.length cap) ∧ W.cell? ⟨w.heap.size, 0, none⟩ = some (.int .i64 (i : Int)) ∧ W.cell? ⟨w.heap.size, 1, none⟩ = some (.int .i64 cid) ∧ W.cell? ⟨w.heap.size, 2, none⟩ = some (.int .i64 oid) ∧ W.cell? ⟨w.heap.size, 3, none⟩ = some (.slice a3 ocs.length c3) ∧ W.cell? ⟨w.heap.size, 4, none⟩ = some (.int .i64 nid) ∧ W.cell? ⟨w.heap.size, 5, none⟩ = some (.slice a5 ncs.length c5) ∧ W.cell? ⟨m, 0, none⟩ = some (.slice (some ⟨q, 0, none⟩) Ts.length Ts.length) ∧ W.cell? ⟨m, 1, none⟩ = some (.int .i64 n)) := fun W h => ⟨by have := (h.ms.cellQ hi).1; rw [hTi] at this; exact this, CE.out W h⟩
  have HTI : Hid (Ts[i] = ⟨p, cap, ts⟩ ∧ True) := ⟨hTi, trivial⟩
  clear hPt hir hTi HOO HNN
  generalize hin : inC Ts[i].rows 12 ⟨(i : Int), cid, oid, ocs, nid, ncs⟩ = IR at *
  have HIN := Lib.hid hin
  clear hin
  go_enter Try.func26, Try.ntmps26
  go_wp2_with fail
  refine wp_region_held_drew (S := (fun W => W.cell? ⟨w.heap.size, 0, none⟩ = some (.int .i64 (i : Int)) ∧ W.cell? ⟨w.heap.size, 1, none⟩ = some (.int .i64 cid) ∧ W.cell? ⟨w.heap.size, 2, none⟩ = some (.int .i64 oid) ∧ W.cell? ⟨w.heap.size, 3, none⟩ = some (.slice a3 ocs.length c3) ∧ W.cell? ⟨w.heap.size, 4, none⟩ = some (.int .i64 nid) ∧ W.cell? ⟨w.heap.size, 5, none⟩ = some (.slice a5 ncs.length c5) ∧ W.cell? ⟨m, 0, none⟩ = some (.slice (some ⟨q, 0, none⟩) Ts.length Ts.length) ∧ W.cell? ⟨m, 1, none⟩ = some (.int .i64 n))) (by kernel_rfl) ?_ (fun hHeld => ?_)
  · (first | exact CE.out _ hd | exact CE.out _ hd.drew)
  refine wpAnyH_take (i := 0) (v := ?_) rfl (by kernel_rfl) (by kernel_rfl) (by kernel_rfl) (fun _ _ _ h => h) (Or.inl ⟨by kernel_rfl, ?_⟩) (by assumption) ?_
  rotate_left
  · (intro wS hSw; (try dsimp only at hSw); go_simp <;> with_reducible rfl)
  try simp only [Act.put, tkS]
  refine wpAnyH_take (i := 1) (v := ?_) rfl (by kernel_rfl) (by kernel_rfl) (by kernel_rfl) (fun _ _ _ h => h) (Or.inl ⟨by kernel_rfl, ?_⟩) (by assumption) ?_
  rotate_left
  · (intro wS hSw; (try dsimp only at hSw); go_simp <;> with_reducible rfl)
  try simp only [Act.put, tkS]
  refine wpAnyH_take (i := 2) (v := ?_) rfl (by kernel_rfl) (by kernel_rfl) (by kernel_rfl) (fun _ _ _ h => h) (Or.inl ⟨by kernel_rfl, ?_⟩) (by assumption) ?_
  rotate_left
  · (intro wS hSw; (try dsimp only at hSw); go_simp <;> with_reducible rfl)
  try simp only [Act.put, tkS]
  refine wpAnyH_take (i := 3) (v := ?_) rfl (by kernel_rfl) (by kernel_rfl) (by kernel_rfl) (fun _ _ _ h => h) (Or.inl ⟨by kernel_rfl, ?_⟩) (by assumption) ?_
  rotate_left
  · (intro wS hSw; (try dsimp only at hSw); go_simp <;> with_reducible rfl)
  try simp only [Act.put, tkS]
  refine wpAnyH_take (i := 4) (v := ?_) rfl (by kernel_rfl) (by kernel_rfl) (by kernel_rfl) (fun _ _ _ h => h) (Or.inl ⟨by kernel_rfl, ?_⟩) (by assumption) ?_
  rotate_left
  · (intro wS hSw; (try dsimp only at hSw); go_simp <;> with_reducible rfl)
  try simp only [Act.put, tkS]
  refine wpAnyH_ready (rs := [5]) (by kernel_rfl) (by simp) (AllReadyH.cons rfl (fun K hK => ?_) AllReadyH.nil)
  go_simp
  (go_at_call 48; refine (HT.out _ (by first | exact hd | exact hd.drew)).mono ?_; rintro e w1 ⟨rfl, hB⟩; have hd := (show DnB w _ lo m q Ts n _ from (by first | exact hd | exact hd.drew)).later hB; clear hB)
  refine hK.out _ _ ?_ (fun hHeld => ?_)
  · (first | exact CE.out _ hd | exact CE.out _ hd.drew)
  clear hK K
  try simp only [Act.put, tkS]
  refine wpAnyH_take (i := 6) (v := ?_) rfl (by kernel_rfl) (by kernel_rfl) (by kernel_rfl) (fun _ _ _ h => h) (Or.inl ⟨by kernel_rfl, ?_⟩) (by assumption) ?_
  rotate_left
  · (intro wS hSw; (try dsimp only at hSw); go_simp <;> with_reducible rfl)
  try simp only [Act.put, tkS]
  refine wpAnyH_done (by kernel_rfl) ?_ _
  go_wp2_with fail
  refine wp_region_held_drew (S := (fun W => W.cell? ⟨q, i, none⟩ = some (.slice (some ⟨p, 0, none⟩) ts.length cap) ∧ W.cell? ⟨w.heap.size, 0, none⟩ = some (.int .i64 (i : Int)) ∧ W.cell? ⟨w.heap.size, 1, none⟩ = some (.int .i64 cid) ∧ W.cell? ⟨w.heap.size, 2, none⟩ = some (.int .i64 oid) ∧ W.cell? ⟨w.heap.size, 3, none⟩ = some (.slice a3 ocs.length c3) ∧ W.cell? ⟨w.heap.size, 4, none⟩ = some (.int .i64 nid) ∧ W.cell? ⟨w.heap.size, 5, none⟩ = some (.slice a5 ncs.length c5) ∧ W.cell? ⟨m, 0, none⟩ = some (.slice (some ⟨q, 0, none⟩) Ts.length Ts.length) ∧ W.cell? ⟨m, 1, none⟩ = some (.int .i64 n))) (by kernel_rfl) ?_ (fun hHeld => ?_)
  · (first | exact CE1.out _ hd | exact CE1.out _ hd.drew | exact HK3.out)
  refine wpAnyH_take (i := 0) (v := ?_) rfl (by kernel_rfl) (by kernel_rfl) (by kernel_rfl) (fun _ _ _ h => h) (Or.inl ⟨by kernel_rfl, ?_⟩) (by assumption) ?_
  rotate_left
  · (intro wS hSw; (try dsimp only at hSw); go_simp <;> with_reducible rfl)
  try simp only [Act.put, tkS]
  refine wpAnyH_take (i := 1) (v := ?_) rfl (by kernel_rfl) (by kernel_rfl) (by kernel_rfl) (fun _ _ _ h => h) (Or.inl ⟨by kernel_rfl, ?_⟩) (by assumption) ?_
  rotate_left
  · (intro wS hSw; (try dsimp only at hSw); go_simp <;> with_reducible rfl)
  try simp only [Act.put, tkS]
  refine wpAnyH_take (i := 2) (v := ?_) rfl (by kernel_rfl) (by kernel_rfl) (by kernel_rfl) (fun _ _ _ h => h) (Or.inl ⟨by kernel_rfl, ?_⟩) (by assumption) ?_
  rotate_left
  · (intro wS hSw; (try dsimp only at hSw); go_simp <;> with_reducible rfl)
  try simp only [Act.put, tkS]
  refine wpAnyH_take (i := 3) (v := ?_) rfl (by kernel_rfl) (by kernel_rfl) (by kernel_rfl) (fun _ _ _ h => h) (Or.inl ⟨by kernel_rfl, ?_⟩) (by assumption) ?_
  rotate_left
  · (intro wS hSw; (try dsimp only at hSw); go_simp <;> with_reducible rfl)
  try simp only [Act.put, tkS]
  refine wpAnyH_take (i := 4) (v := ?_) rfl (by kernel_rfl) (by kernel_rfl) (by kernel_rfl) (fun _ _ _ h => h) (Or.inl ⟨by kernel_rfl, ?_⟩) (by assumption) ?_
  rotate_left
  · (intro wS hSw; (try dsimp only at hSw); go_simp <;> with_reducible rfl)
  try simp only [Act.put, tkS]
  refine wpAnyH_take (i := 5) (v := ?_) rfl (by kernel_rfl) (by kernel_rfl) (by kernel_rfl) (fun _ _ _ h => h) (Or.inl ⟨by kernel_rfl, ?_⟩) (by assumption) ?_
  rotate_left
  · (intro wS hSw; (try dsimp only at hSw); go_simp <;> with_reducible rfl)
  try simp only [Act.put, tkS]
  refine wpAnyH_take (i := 6) (v := ?_) rfl (by kernel_rfl) (by kernel_rfl) (by kernel_rfl) (fun _ _ _ h => h) (Or.inl ⟨by kernel_rfl, ?_⟩) (by assumption) ?_
  rotate_left
  · (intro wS hSw; (try dsimp only at hSw); go_simp <;> with_reducible rfl)
  try simp only [Act.put, tkS]
  refine wpAnyH_take (i := 7) (v := ?_) rfl (by kernel_rfl) (by kernel_rfl) (by kernel_rfl) (fun _ _ _ h => h) (Or.inl ⟨by kernel_rfl, ?_⟩) (by assumption) ?_
  rotate_left
  · (intro wS hSw; (try dsimp only at hSw); go_simp <;> with_reducible rfl)
  try simp only [Act.put, tkS]
  refine wpAnyH_take (i := 8) (v := ?_) rfl (by kernel_rfl) (by kernel_rfl) (by kernel_rfl) (fun _ _ _ h => h) (Or.inl ⟨by kernel_rfl, ?_⟩) (by assumption) ?_
  rotate_left
  · (intro wS hSw; (try dsimp only at hSw); go_simp <;> with_reducible rfl)
  try simp only [Act.put, tkS]
  refine wpAnyH_ready (rs := [9]) (by kernel_rfl) (by simp) (AllReadyH.cons rfl (fun K hK => ?_) AllReadyH.nil)
  go_simp
  go_at_call 49
  have hd2 : DnB w _ lo m q Ts n _ := hd.drew
  with_reducible refine (IT.out _ hd2).mono ?_
  rintro e w3 ⟨p', cap', ts', rfl, hT3, hrw, hbl3, hF3, hne3⟩
  have hb3 : w3.heap[w.heap.size]? = some (.cells #[.int .i64 (i : Int), .int .i64 cid, .int .i64 oid, .slice a3 ocs.length c3, .int .i64 nid, .slice a5 ncs.length c5] 55) := (hF3.block _ (Array.getElem?_eq_some_iff.1 hd2.bx).1 (hd2.nb i hi)).trans hd2.bx
  have hm3 : w3.heap[m]? = some (.cells #[.slice (some ⟨q, 0, none⟩) Ts.length Ts.length, .int .i64 n] 30) := (hF3.block _ (Array.getElem?_eq_some_iff.1 hd2.ms.bx).1 (hd2.ms.nq i hi).2).trans hd2.ms.bx
  have hq3 : w3.heap[q]? = some (.cells (Ts.map Tab3.v).toArray 73) := (hF3.block _ (Array.getElem?_eq_some_iff.1 hd2.ms.rq).1 (hd2.ms.nq i hi).1).trans hd2.ms.rq
  have e3 : w3.cell? ⟨q, i, none⟩ = some Ts[i].v := by simp [World.cell?, hq3, hi]
  have f3 : w3.frozen? ⟨q, i, none⟩ = false := by simp [World.frozen?, hq3]
  rw [HTI.out.1] at e3
  replace e3 : w3.cell? ⟨q, i, none⟩ = some (.slice (some ⟨p, 0, none⟩) ts.length cap) := e3
  have HK3 : Hid (w3.cell? ⟨q, i, none⟩ = some (.slice (some ⟨p, 0, none⟩) ts.length cap) ∧ w3.cell? ⟨w.heap.size, 0, none⟩ = some (.int .i64 (i : Int)) ∧ w3.cell? ⟨w.heap.size, 1, none⟩ = some (.int .i64 cid) ∧ w3.cell? ⟨w.heap.size, 2, none⟩ = some (.int .i64 oid) ∧ w3.cell? ⟨w.heap.size, 3, none⟩ = some (.slice a3 ocs.length c3) ∧ w3.cell? ⟨w.heap.size, 4, none⟩ = some (.int .i64 nid) ∧ w3.cell? ⟨w.heap.size, 5, none⟩ = some (.slice a5 ncs.length c5) ∧ w3.cell? ⟨m, 0, none⟩ = some (.slice (some ⟨q, 0, none⟩) Ts.length Ts.length) ∧ w3.cell? ⟨m, 1, none⟩ = some (.int .i64 n)) := ⟨e3, cell_at (o := 0) hb3 rfl, cell_at (o := 1) hb3 rfl, cell_at (o := 2) hb3 rfl, cell_at (o := 3) hb3 rfl, cell_at (o := 4) hb3 rfl, cell_at (o := 5) hb3 rfl, cell_at (o := 0) hm3 rfl, cell_at (o := 1) hm3 rfl⟩
  have HD2 := Lib.hid (And.intro hd2 (And.intro hT3 (And.intro hrw (And.intro hbl3 (And.intro hF3 hne3)))))
  have HB3 := Lib.hid (And.intro hb3 (And.intro hm3 hq3))
  clear hd2 hT3 hrw hbl3 hF3 hne3 hb3 hm3 hq3 e3 f3
  refine hK.out _ _ ?_ (fun hHeld => ?_)
  · (first | exact CE1.out _ hd | exact CE1.out _ hd.drew | exact HK3.out)
  clear hK K
  try simp only [Act.put, tkS]
  refine wpAnyH_take (i := 10) (v := ?_) rfl (by kernel_rfl) (by kernel_rfl) (by kernel_rfl) (fun _ _ _ h => h) (Or.inl ⟨by kernel_rfl, ?_⟩) (by assumption) ?_
  rotate_left
  · (intro wS hSw; (try dsimp only at hSw); go_simp <;> with_reducible rfl)
  try simp only [Act.put, tkS]
  refine wpAnyH_take (i := 11) (v := ?_) rfl (by kernel_rfl) (by kernel_rfl) (by kernel_rfl) (fun _ _ _ h => h) (Or.inl ⟨by kernel_rfl, ?_⟩) (by assumption) ?_
  rotate_left
  · (intro wS hSw; (try dsimp only at hSw); go_simp <;> with_reducible rfl)
  try simp only [Act.put, tkS]
  refine wpAnyH_take (i := 12) (v := ?_) rfl (by kernel_rfl) (by kernel_rfl) (by kernel_rfl) (fun _ _ _ h => h) (Or.inl ⟨by kernel_rfl, ?_⟩) (by assumption) ?_
  rotate_left
  · (intro wS hSw; (try dsimp only at hSw); go_simp <;> with_reducible rfl)
  try simp only [Act.put, tkS]
  refine wpAnyH_take (i := 13) (v := ?_) rfl (by kernel_rfl) (by kernel_rfl) (by kernel_rfl) (fun _ _ _ h => h) (Or.inl ⟨by kernel_rfl, ?_⟩) (by assumption) ?_
  rotate_left
  · (intro wS hSw; (try dsimp only at hSw); go_simp <;> with_reducible rfl)
  try simp only [Act.put, tkS]
  refine wpAnyH_take (i := 14) (v := ?_) rfl (by kernel_rfl) (by kernel_rfl) (by kernel_rfl) (fun _ _ _ h => h) (Or.inl ⟨by kernel_rfl, ?_⟩) (by assumption) ?_
  rotate_left
  · (intro wS hSw; (try dsimp only at hSw); go_simp <;> with_reducible rfl)
  try simp only [Act.put, tkS]
  refine wpAnyH_done (by kernel_rfl) ?_ _
  clear IT hd
  by_cases hz : IR.2 = 0
  case neg =>
    have HE : Hid (R = (stOf Ts n, IR.2)) := by
      show R = _
      have h9 := HIN.out
      rw [← HR.out, ← h9]
      exact dn_in1 hi (by rw [h9]; exact hz)
    have hTB := HD2.out.2.2.2.2.2 hz
    have HD3 := Lib.hid (HD2.out.1.later hTB.2)
    have hzn : (IR.2 != 0) = true := by simpa using hz
    clear hz hTB
    generalize IR.2 = cd at *
    go_wp2_with fail
    go_ret
    exact HD3.out.ans HE.out
  have HE : Hid (R = (stOf (Ts.set i ⟨p', cap', ts'⟩) (if kindC ⟨(i : Int), cid, oid, ocs, nid, ncs⟩ = 2 then n else nextI n cid), 0)) := by
    show R = _
    have h9 := HIN.out
    rw [← HR.out]
    exact dn_in0 hi (by rw [h9]; exact HD2.out.2.2.1) (by rw [h9]; exact hz)
  have HKC := Lib.hid (in_kind (by rw [HIN.out]; exact hz))
  rw [hz]
  clear hz
  have hqT : ¬ (Tab3.mk p' cap' ts').bl q := fun h => by
    rcases HD2.out.2.2.2.1 q h with h1 | h1
    · exact (HD2.out.1.ms.nq i hi).1 h1
    · have := (Array.getElem?_eq_some_iff.1 HD2.out.1.ms.rq).1; omega
  have hT5 : TabW (w3.setCell ⟨q, i, none⟩ (.slice (some ⟨p', 0, none⟩) ts'.length cap')) ⟨p', cap', ts'⟩ := HD2.out.2.1.same (by simp [World.setCell]) (fun c hc => Below.heap_setCell w3 _ _ _ (fun e => hqT (by have e2 : c = q := e; rw [← e2]; exact hc)))
  have hM5 : MSt (w3.setCell ⟨q, i, none⟩ (.slice (some ⟨p', 0, none⟩) ts'.length cap')) lo m q (Ts.set i ⟨p', cap', ts'⟩) n := HD2.out.1.ms.tab hi (by have h := HD2.out.2.2.2.2.1.size; simp [World.setCell]; exact h) (fun c hc hn => (Below.heap_setCell w3 ⟨q, i, none⟩ _ c (fun e => hn (.inr e))).trans (HD2.out.2.2.2.2.1.block c hc (fun h => hn (.inl h)))) (by
      rw [heap_set (w := w3) i _ HB3.out.2.2]
      have := map_setV Ts i ⟨p', cap', ts'⟩
      rw [← this]
      rfl) hT5 HD2.out.2.2.2.1
  have HE3 : Hid (DnE w (w3.setCell ⟨q, i, none⟩ (.slice (some ⟨p', 0, none⟩) ts'.length cap')) lo m q (Ts.set i ⟨p', cap', ts'⟩) n #[.int .i64 (i : Int), .int .i64 cid, .int .i64 oid, .slice a3 ocs.length c3, .int .i64 nid, .slice a5 ncs.length c5]) := HD2.out.1.e hi hM5 HD2.out.2.2.2.2.1.os HD2.out.2.2.2.2.1.tape HD2.out.2.2.2.2.1.output (by have h := HD2.out.2.2.2.2.1.size; simp [World.setCell]; exact h) (fun c hc hnb hcq => (Below.heap_setCell w3 ⟨q, i, none⟩ _ c hcq).trans (HD2.out.2.2.2.2.1.block c hc hnb))
  have e3d : w3.drew.cell? ⟨q, i, none⟩ = some (.slice (some ⟨p, 0, none⟩) ts.length cap) := HK3.out.1
  have f3d : w3.drew.frozen? ⟨q, i, none⟩ = false := by have h : w3.frozen? ⟨q, i, none⟩ = false := (by simp [World.frozen?, HB3.out.2.2]); exact h
  have HK6 : Hid (w3.cell? ⟨m, 0, none⟩ = some (.slice (some ⟨q, 0, none⟩) Ts.length Ts.length) ∧ w3.cell? ⟨w.heap.size, 0, none⟩ = some (.int .i64 (i : Int))) := ⟨cell_at (o := 0) HB3.out.2.1 rfl, cell_at (o := 0) HB3.out.1 rfl⟩
  have HK6d : Hid (w3.drew.cell? ⟨m, 0, none⟩ = some (.slice (some ⟨q, 0, none⟩) Ts.length Ts.length) ∧ w3.drew.cell? ⟨w.heap.size, 0, none⟩ = some (.int .i64 (i : Int))) := HK6.out
  have HK7 : Hid ((w3.setCell ⟨q, i, none⟩ (.slice (some ⟨p', 0, none⟩) ts'.length cap')).cell? ⟨m, 0, none⟩ = some (.slice (some ⟨q, 0, none⟩) Ts.length Ts.length) ∧ (w3.setCell ⟨q, i, none⟩ (.slice (some ⟨p', 0, none⟩) ts'.length cap')).cell? ⟨w.heap.size, 0, none⟩ = some (.int .i64 (i : Int))) := ⟨by have h2 := cell_at (o := 0) HE3.out.ms.bx rfl; rw [List.length_set] at h2; exact h2, cell_at (o := 0) HE3.out.bx rfl⟩
  clear hqT hT5 hM5
  go_wp2_with fail
  refine wp_region_held_drew (S := (fun W => W.cell? ⟨m, 0, none⟩ = some (.slice (some ⟨q, 0, none⟩) Ts.length Ts.length) ∧ W.cell? ⟨w.heap.size, 0, none⟩ = some (.int .i64 (i : Int)))) (by kernel_rfl) ?_ (fun hHeld => ?_)
  · (first | exact HK6.out | exact HK6d.out | exact HK7.out)
  refine wpAnyH_take (i := 0) (v := ?_) rfl (by kernel_rfl) (by kernel_rfl) (by kernel_rfl) (fun _ _ _ h => h) (Or.inl ⟨by kernel_rfl, ?_⟩) (by assumption) ?_
  rotate_left
  · (intro wS hSw; (try dsimp only at hSw); go_simp <;> with_reducible rfl)
  try simp only [Act.put, tkS]
  refine wpAnyH_take (i := 1) (v := ?_) rfl (by kernel_rfl) (by kernel_rfl) (by kernel_rfl) (fun _ _ _ h => h) (Or.inl ⟨by kernel_rfl, ?_⟩) (by assumption) ?_
  rotate_left
  · (intro wS hSw; (try dsimp only at hSw); go_simp <;> with_reducible rfl)
  try simp only [Act.put, tkS]
  refine wpAnyH_take (i := 2) (v := ?_) rfl (by kernel_rfl) (by kernel_rfl) (by kernel_rfl) (fun _ _ _ h => h) (Or.inl ⟨by kernel_rfl, ?_⟩) (by assumption) ?_
  rotate_left
  · (intro wS hSw; (try dsimp only at hSw); go_simp <;> with_reducible rfl)
  try simp only [Act.put, tkS]
  refine wpAnyH_take (i := 3) (v := ?_) rfl (by kernel_rfl) (by kernel_rfl) (by kernel_rfl) (fun _ _ _ h => h) (Or.inl ⟨by kernel_rfl, ?_⟩) (by assumption) ?_
  rotate_left
  · (intro wS hSw; (try dsimp only at hSw); go_simp <;> with_reducible rfl)
  try simp only [Act.put, tkS]
  refine wpAnyH_take (i := 4) (v := ?_) rfl (by kernel_rfl) (by kernel_rfl) (by kernel_rfl) (fun _ _ _ h => h) (Or.inl ⟨by kernel_rfl, ?_⟩) (by assumption) ?_
  rotate_left
  · (intro wS hSw; (try dsimp only at hSw); go_simp <;> with_reducible rfl)
  try simp only [Act.put, tkS]
  refine wpAnyH_take (i := 5) (v := ?_) rfl (by kernel_rfl) (by kernel_rfl) (by kernel_rfl) (fun _ _ _ h => h) (Or.inl ⟨by kernel_rfl, ?_⟩) (by assumption) ?_
  rotate_left
  · (intro wS hSw; (try dsimp only at hSw); go_simp <;> with_reducible rfl)
  try simp only [Act.put, tkS]
  refine wpAnyH_take (i := 6) (v := ?_) rfl (by kernel_rfl) (by kernel_rfl) (by kernel_rfl) (fun _ _ _ h => h) (Or.inl ⟨by kernel_rfl, ?_⟩) (by assumption) ?_
  rotate_left
  · (intro wS hSw; (try dsimp only at hSw); go_simp <;> with_reducible rfl)
  try simp only [Act.put, tkS]
  refine wpAnyH_take (i := 7) (v := ?_) rfl (by kernel_rfl) (by kernel_rfl) (by kernel_rfl) (fun _ _ _ h => h) (Or.inl ⟨by kernel_rfl, ?_⟩) (by assumption) ?_
  rotate_left
  · (intro wS hSw; (try dsimp only at hSw); go_simp <;> with_reducible rfl)
  try simp only [Act.put, tkS]
  refine wpAnyH_ready (rs := [8]) (by kernel_rfl) (by simp) (AllReadyH.cons rfl (fun K hK => ?_) AllReadyH.nil)
  go_simp
  skip
  refine hK.out _ _ ?_ (fun hHeld => ?_)
  · (first | exact HK6.out | exact HK6d.out | exact HK7.out)
  clear hK K
  try simp only [Act.put, tkS]
  refine wpAnyH_done (by kernel_rfl) ?_ _
  have hE := HE3.out.later (Below.refl _ _).drew
  have hlen : (Ts.set i ⟨p', cap', ts'⟩).length = Ts.length := List.length_set
  generalize (w3.setCell ⟨q, i, none⟩ (.slice (some ⟨p', 0, none⟩) ts'.length cap')).drew = WE at *
  have HE4 := Lib.hid hE
  clear hE HE3 HK7 HK6 HK6d HK3 HB3 HD2 e3d f3d hlen
  have y0 := cell_at (o := 0) HE4.out.bx rfl
  have y1 := cell_at (o := 1) HE4.out.bx rfl
  have y2 := cell_at (o := 2) HE4.out.bx rfl
  have y3 := cell_at (o := 3) HE4.out.bx rfl
  have y4 := cell_at (o := 4) HE4.out.bx rfl
  have y5 := cell_at (o := 5) HE4.out.bx rfl
  have KI := Lib.hid (fun W => kndS ⟨(i : Int), cid, oid, ocs, nid, ncs⟩ a3 c3 a5 c5 W)
  have hkk : kndI ⟨(i : Int), cid, oid, ocs, nid, ncs⟩ = kindC ⟨(i : Int), cid, oid, ocs, nid, ncs⟩ := by unfold kndI; rw [if_neg (by have h := HKC.out.1; show ¬ cid < 1; have h2 : 1 ≤ cid := h; omega)]
  rw [hkk] at KI
  clear hkk
  by_cases h2 : kindC ⟨(i : Int), cid, oid, ocs, nid, ncs⟩ = 2
  · have HE2 : Hid (R = (stOf (Ts.set i ⟨p', cap', ts'⟩) n, 0)) := by
      have h9 := HE.out
      rw [if_pos h2] at h9
      exact h9
    rw [h2] at KI
    clear h2 HE
    go_wp2_with fail
    refine (KI.out _).mono ?_
    rintro e w5 ⟨rfl, hB5⟩
    have HE5 := Lib.hid (HE4.out.later hB5)
    clear hB5 y0 y1 y2 y3 y4 y5
    go_wp2_with fail
    go_ret
    exact HE5.out.ans HE2.out
  have HE2 : Hid (R = (stOf (Ts.set i ⟨p', cap', ts'⟩) (nextI n cid), 0)) := by
    have h9 := HE.out
    rw [if_neg h2] at h9
    exact h9
  have hk2 : (kindC ⟨(i : Int), cid, oid, ocs, nid, ncs⟩ != 2) = true := by simpa using h2
  clear h2 HE HKC
  generalize kindC ⟨(i : Int), cid, oid, ocs, nid, ncs⟩ = kd at *
  go_wp2_with fail
  refine (KI.out _).mono ?_
  rintro e w5 ⟨rfl, hB5⟩
  have HE5 := Lib.hid (HE4.out.later hB5)
  clear hB5 y0 y1 y2 y3 y4 y5 HE4
  go_wp2_with fail
  have m1d := cell_at (o := 1) (HE5.out.later (Below.refl _ _).drew).ms.bx rfl
  refine wp_region_held_drew (S := (fun W => W.cell? ⟨w.heap.size, 1, none⟩ = some (.int .i64 cid))) (by kernel_rfl) ?_ (fun hHeld => ?_)
  · (first | exact cell_at (o := 1) HE5.out.bx rfl | exact cell_at (o := 1) (HE5.out.later (Below.refl _ _).drew).bx rfl | exact cell_at (o := 1) HE7.out.bx rfl | exact HX7.out)
  refine wpAnyH_take (i := 0) (v := ?_) rfl (by kernel_rfl) (by kernel_rfl) (by kernel_rfl) (fun _ _ _ h => h) (Or.inl ⟨by kernel_rfl, ?_⟩) (by assumption) ?_
  rotate_left
  · (intro wS hSw; (try dsimp only at hSw); go_simp <;> with_reducible rfl)
  try simp only [Act.put, tkS]
  refine wpAnyH_take (i := 1) (v := ?_) rfl (by kernel_rfl) (by kernel_rfl) (by kernel_rfl) (fun _ _ _ h => h) (Or.inl ⟨by kernel_rfl, ?_⟩) (by assumption) ?_
  rotate_left
  · (intro wS hSw; (try dsimp only at hSw); go_simp <;> with_reducible rfl)
  try simp only [Act.put, tkS]
  refine wpAnyH_take (i := 2) (v := ?_) rfl (by kernel_rfl) (by kernel_rfl) (by kernel_rfl) (fun _ _ _ h => h) (Or.inl ⟨by kernel_rfl, ?_⟩) (by assumption) ?_
  rotate_left
  · (intro wS hSw; (try dsimp only at hSw); go_simp <;> with_reducible rfl)
  try simp only [Act.put, tkS]
  refine wpAnyH_take (i := 3) (v := ?_) rfl (by kernel_rfl) (by kernel_rfl) (by kernel_rfl) (fun _ _ _ h => h) (Or.inl ⟨by kernel_rfl, ?_⟩) (by assumption) ?_
  rotate_left
  · (intro wS hSw; (try dsimp only at hSw); go_simp <;> with_reducible rfl)
  try simp only [Act.put, tkS]
  refine wpAnyH_take (i := 5) (v := ?_) rfl (by kernel_rfl) (by kernel_rfl) (by kernel_rfl) (fun _ _ _ h => h) (Or.inl ⟨by kernel_rfl, ?_⟩) (by assumption) ?_
  rotate_left
  · (intro wS hSw; (try dsimp only at hSw); go_simp <;> with_reducible rfl)
  try simp only [Act.put, tkS]
  refine wpAnyH_take (i := 6) (v := ?_) rfl (by kernel_rfl) (by kernel_rfl) (by kernel_rfl) (fun _ _ _ h => h) (Or.inl ⟨by kernel_rfl, ?_⟩) (by assumption) ?_
  rotate_left
  · (intro wS hSw; (try dsimp only at hSw); go_simp <;> with_reducible rfl)
  try simp only [Act.put, tkS]
  refine wpAnyH_ready (rs := [4]) (by kernel_rfl) (by simp) (AllReadyH.cons rfl (fun K hK => ?_) AllReadyH.nil)
  go_simp
  skip
  refine hK.out _ _ ?_ (fun hHeld => ?_)
  · (first | exact cell_at (o := 1) HE5.out.bx rfl | exact cell_at (o := 1) (HE5.out.later (Below.refl _ _).drew).bx rfl | exact cell_at (o := 1) HE7.out.bx rfl | exact HX7.out)
  clear hK K
  try simp only [Act.put, tkS]
  refine wpAnyH_ready (rs := [7]) (by kernel_rfl) (by simp) (AllReadyH.cons rfl (fun K hK => ?_) AllReadyH.nil)
  go_simp
  (go_at_call 51; refine (nextI_I n cid _ HP.out.2.1 HP.out.2.2.1).mono ?_; rintro e w7 ⟨rfl, hB7⟩; have HE7 := Lib.hid ((HE5.out.later (Below.refl _ _).drew).later hB7); have m1 := cell_at (o := 1) HE7.out.ms.bx rfl; have g1 := frozen_at 1 HE7.out.ms.bx; have HX7 : Hid ((w7.setCell ⟨m, 1, none⟩ (.int .i64 (nextI n cid))).cell? ⟨w.heap.size, 1, none⟩ = some (.int .i64 cid)) := cell_at (o := 1) ((Below.heap_setCell w7 ⟨m, 1, none⟩ _ w.heap.size HE7.out.nm).trans HE7.out.bx) rfl; clear hB7)
  refine hK.out _ _ ?_ (fun hHeld => ?_)
  · (first | exact cell_at (o := 1) HE5.out.bx rfl | exact cell_at (o := 1) (HE5.out.later (Below.refl _ _).drew).bx rfl | exact cell_at (o := 1) HE7.out.bx rfl | exact HX7.out)
  clear hK K
  try simp only [Act.put, tkS]
  refine wpAnyH_take (i := 8) (v := ?_) rfl (by kernel_rfl) (by kernel_rfl) (by kernel_rfl) (fun _ _ _ h => h) (Or.inl ⟨by kernel_rfl, ?_⟩) (by assumption) ?_
  rotate_left
  · (intro wS hSw; (try dsimp only at hSw); go_simp <;> with_reducible rfl)
  try simp only [Act.put, tkS]
  refine wpAnyH_take (i := 9) (v := ?_) rfl (by kernel_rfl) (by kernel_rfl) (by kernel_rfl) (fun _ _ _ h => h) (Or.inl ⟨by kernel_rfl, ?_⟩) (by assumption) ?_
  rotate_left
  · (intro wS hSw; (try dsimp only at hSw); go_simp <;> with_reducible rfl)
  try simp only [Act.put, tkS]
  refine wpAnyH_ready (rs := [10]) (by kernel_rfl) (by simp) (AllReadyH.cons rfl (fun K hK => ?_) AllReadyH.nil)
  go_simp
  skip
  refine hK.out _ _ ?_ (fun hHeld => ?_)
  · (first | exact cell_at (o := 1) HE5.out.bx rfl | exact cell_at (o := 1) (HE5.out.later (Below.refl _ _).drew).bx rfl | exact cell_at (o := 1) HE7.out.bx rfl | exact HX7.out)
  clear hK K
  try simp only [Act.put, tkS]
  refine wpAnyH_done (by kernel_rfl) ?_ _
  clear m1d m1 g1
  go_wp2_with fail
  go_ret
  exact HE7.out.ansN HE2.out
end Go.Proofs.Ytdhlndpobpdfmaa
