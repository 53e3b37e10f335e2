import Derived.Test.YtajhjjpanjpfoaaZbi
import Derived.Test.YtajhjjpanjpfoaaZTk
namespace Go.Proofs.Ytajhjjpanjpfoaa
open Go.RowKit
set_option linter.unusedSimpArgs false
variable {V W1 W W' : World} {p S : Nat} {a : Option Addr} {l : List UInt8} {c m m' s : Nat}
theorem plT_small : ∀ t, t < 3 → (1 ≤ (plT t).cols.length ∧ (plT t).cols.length ≤ 3) ∧ ∀ cl ∈ (plT t).cols, (1 ≤ cl.k ∧ cl.k ≤ 4) ∧ cl.nm.length ≤ 40 := by
  intro t ht
  rcases (by omega : t = 0 ∨ t = 1 ∨ t = 2) with rfl | rfl | rfl
  · refine ⟨by simp [plT], fun cl h => ?_⟩
    simp only [plT, List.mem_cons, List.not_mem_nil, or_false] at h
    rcases h with rfl | rfl <;> simp
  · refine ⟨by simp [plT], fun cl h => ?_⟩
    simp only [plT, List.mem_cons, List.not_mem_nil, or_false] at h
    rcases h with rfl | rfl | rfl <;> simp
  · refine ⟨by simp [plT], fun cl h => ?_⟩
    simp only [plT, List.mem_cons, List.not_mem_nil, or_false] at h
    rcases h with rfl | rfl | rfl <;> simp
theorem SX.first {Z : World} {m1 m2 qc qx g1 g2 : Nat} {cl : Cl} {y : At} {L : List SetV} {v z0 z1 z2 : Value} (hD : DL V W1 p S a l c m1 45 3 (lsF dSet L) L.length v) (hF : Frm (· = p) W1 Z) (hs : ∃ s, Src Z p S a l c m2 s) (hc : Z.heap[qc]? = some (.cells #[.string ⟨cl.nm.toArray⟩, .int .i64 cl.k, .int .i64 cl.mn, .int .i64 cl.mx, .int .i64 cl.lo, .int .i64 cl.hi, .string ⟨cl.rf.toArray⟩, .bool cl.st] 47)) (hx : Z.heap[qx]? = some (.cells #[z0, z1, z2] 45)) (h1 : Z.heap[g1]? = some (.cells #[.int .i64 y.k, .int .i64 y.n, .string ⟨y.t.toArray⟩] 51)) (hg : W1.heap.size ≤ qc ∧ W1.heap.size ≤ qx ∧ qc ≠ qx ∧ W1.heap.size ≤ g1 ∧ g1 ≠ qx)
    (hy : (1 ≤ y.k ∧ y.k ≤ 4) ∧ atOK y = true) (hn : cl.nm.length ≤ 40) :
    SX V W1 (((Z.setCell ⟨qx, 0, none⟩ (.string ⟨cl.nm.toArray⟩)).setCell ⟨qx, 1, none⟩ (.slice (some ⟨g1, 0, none⟩) 1 1)).setCell ⟨qx, 2, none⟩ (.slice (some ⟨g2, 0, none⟩) 0 0)) p S a l c m2 qc qx cl ⟨cl.nm, [y], []⟩ (some ⟨g1, 0, none⟩) 1 (some ⟨g2, 0, none⟩) 0 L v := by
  have hp := hD.pl
  have hFx : Frm (· = qx) Z (((Z.setCell ⟨qx, 0, none⟩ (.string ⟨cl.nm.toArray⟩)).setCell ⟨qx, 1, none⟩ (.slice (some ⟨g1, 0, none⟩) 1 1)).setCell ⟨qx, 2, none⟩ (.slice (some ⟨g2, 0, none⟩) 0 0)) := ((frm_set _ _ _ _).trans (frm_set _ _ _ _)).trans (frm_set _ _ _ _)
  obtain ⟨s, hs⟩ := hs
  have hV := hD.fr.size
  have hsg : SG W1 V.heap.size (fun b => V.heap.size ≤ b ∧ b < W1.heap.size) 45 3 (lsF dSet L) L.length v := hD.sg.conv (fun _ _ _ => rfl) (fun b hb h => ⟨h, hb⟩)
  have hg1 := (Array.getElem?_eq_some_iff.1 h1).1
  refine ⟨⟨s, hs.frm hFx (by omega) (fun b hb e => by have := hs.le; have e' : b = qx := e; omega)⟩, frm_over (hD.fr.trans hF) (by omega) hFx, hp, ?_, ⟨hV, fun g hg' => (hD.sg.low hg').2⟩, ?_, ?_, ?_, ⟨_, _, rfl, .inl rfl⟩, ⟨hg.1, hg.2.1, hg.2.2.1⟩, ?_⟩
  · exact (hsg.frmP hF (fun g hg' => by have := hD.sg.low hg'; omega) (fun b hb => by omega)).frmP hFx (fun g hg' => by have := (hD.sg.low hg').2; omega) (fun b hb => by omega)
  · rw [hFx.block _ (Array.getElem?_eq_some_iff.1 hc).1 (show ¬ qc = qx by omega)]; exact hc
  · rw [heap_set 2 _ (heap_set 1 _ (heap_set 0 _ hx))]; rfl
  · have hr : Rd Z (· = g1) (dAtomS [y]) (.slice (some ⟨g1, 0, none⟩) [y].length 1) := ats_rd (L := [y]) (B := (· = g1)) (.inr ⟨g1, 0, rfl, rfl, fun m hm => by
      rcases (by simp at hm; omega : m = 0 ∨ m = 1 ∨ m = 2) with rfl | rfl | rfl
      · exact cell_at (o := 0) h1 rfl
      · exact cell_at (o := 1) h1 rfl
      · exact cell_at (o := 2) h1 rfl⟩) 1
    refine (hr.frm hFx (fun b hb e => by have e' : b = qx := e; omega)).mono (fun b hb => ⟨⟨by omega, by omega⟩, ?_⟩)
    have := hFx.size; omega
  · intro j hj
    rcases (by omega : j = 0 ∨ j = 1 ∨ j = 2) with rfl | rfl | rfl
    · show cl.nm.length ≤ 1048576; omega
    · exact ats_leK (by simp) (fun x hx => by rw [List.mem_singleton.1 hx]; exact hy)
    · exact Ls_le.2 ⟨by omega, by simp, fun i hi => absurd hi (by simp)⟩
theorem SX.made {Z : World} {m1 m2 qc qx g1 g2 : Nat} {cl : Cl} {y : At} {L : List SetV} {v : Value} (hD : DL V W1 p S a l c m1 45 3 (lsF dSet L) L.length v) (hF : Frm (· = p) W1 Z) (hs : ∃ s, Src Z p S a l c m2 s) (hc : Z.heap[qc]? = some (.cells #[.string ⟨cl.nm.toArray⟩, .int .i64 cl.k, .int .i64 cl.mn, .int .i64 cl.mx, .int .i64 cl.lo, .int .i64 cl.hi, .string ⟨cl.rf.toArray⟩, .bool cl.st] 47)) (hx : Z.heap[qx]? = some (.cells #[.string ⟨cl.nm.toArray⟩, .slice (some ⟨g1, 0, none⟩) 1 1, .slice (some ⟨g2, 0, none⟩) 0 0] 45)) (h1 : Z.heap[g1]? = some (.cells #[.int .i64 y.k, .int .i64 y.n, .string ⟨y.t.toArray⟩] 51)) (hg : W1.heap.size ≤ qc ∧ W1.heap.size ≤ qx ∧ qc ≠ qx ∧ W1.heap.size ≤ g1 ∧ g1 ≠ qx)
    (hy : (1 ≤ y.k ∧ y.k ≤ 4) ∧ atOK y = true) (hn : cl.nm.length ≤ 40) :
    SX V W1 Z p S a l c m2 qc qx cl ⟨cl.nm, [y], []⟩ (some ⟨g1, 0, none⟩) 1 (some ⟨g2, 0, none⟩) 0 L v := by
  have hp := hD.pl
  have hV := hD.fr.size
  have hsg : SG W1 V.heap.size (fun b => V.heap.size ≤ b ∧ b < W1.heap.size) 45 3 (lsF dSet L) L.length v := hD.sg.conv (fun _ _ _ => rfl) (fun b hb h => ⟨h, hb⟩)
  have hg1 := (Array.getElem?_eq_some_iff.1 h1).1
  refine ⟨hs, hD.fr.trans hF, hp, ?_, ⟨hV, fun g hg' => (hD.sg.low hg').2⟩, hc, hx, ?_, ⟨_, _, rfl, .inl rfl⟩, ⟨hg.1, hg.2.1, hg.2.2.1⟩, ?_⟩
  · exact hsg.frmP hF (fun g hg' => by have := hD.sg.low hg'; omega) (fun b hb => by omega)
  · have hr : Rd Z (· = g1) (dAtomS [y]) (.slice (some ⟨g1, 0, none⟩) [y].length 1) := ats_rd (L := [y]) (B := (· = g1)) (.inr ⟨g1, 0, rfl, rfl, fun m hm => by
      rcases (by simp at hm; omega : m = 0 ∨ m = 1 ∨ m = 2) with rfl | rfl | rfl
      · exact cell_at (o := 0) h1 rfl
      · exact cell_at (o := 1) h1 rfl
      · exact cell_at (o := 2) h1 rfl⟩) 1
    exact hr.mono (fun b hb => ⟨⟨by omega, by omega⟩, by omega⟩)
  · intro j hj
    rcases (by omega : j = 0 ∨ j = 1 ∨ j = 2) with rfl | rfl | rfl
    · show cl.nm.length ≤ 1048576; omega
    · exact ats_leK (by simp) (fun x hx => by rw [List.mem_singleton.1 hx]; exact hy)
    · exact Ls_le.2 ⟨by omega, by simp, fun i hi => absurd hi (by simp)⟩
def pqT : List (List UInt8) := [[112], [113]]
def SetsV (W : World) (p S : Nat) (a : Option Addr) (l : List UInt8) (c m : Nat) (e : Ending) (W' : World) : Prop := ∃ (L : List SetV) (va : Option Addr) (vc m' s' : Nat), e = .returned (.slice va L.length vc) ∧ L.length ≤ 3 ∧ (∀ x ∈ L, ∀ j, j < 3 → (dSet x j).le 1048576) ∧ SG W' W.heap.size (W.heap.size ≤ ·) 45 3 (lsF dSet L) L.length (.slice va L.length vc) ∧ m' ≤ m + 30 ∧ Src W' p S a l c m' s' ∧ Frm (· = p) W W'
set_option maxRecDepth 100000 in
set_option maxHeartbeats 12800000 in
theorem srcSets (t : Nat) (ht : t < 3) (h : Src W p S a l c m s) (hm : m < 900000) :
    Calls Try.prog 18 #[.pointer (some ⟨p, 0, none⟩), .int .i64 (t : Int)] W (SetsV W p S a l c m) := by
  have hpl : p < W.heap.size := (Array.getElem?_eq_some_iff.1 h.box).1
  have PL := Lib.hid (plainT W)
  have HS0 : Hid (∀ W2, Below W.heap.size W W2 → ∃ s, Src W2 p S a l c m s) := fun W2 hB => ⟨s, h.on hB⟩
  have HM := Lib.hid hm
  have HPT := Lib.hid (plT_small t ht)
  have ht3 : (t : Int) < 3 := by omega
  clear h hm
  go_enter Try.func18, Try.ntmps18
  go_wp2_with fail
  refine PL.out.mono ?_
  rintro e w1 ⟨A, rb, off, rfl, hT, hB⟩
  obtain ⟨⟨c0, c1, c2, c3⟩, hth⟩ := hT t ht
  clear hT PL
  generalize plT t = tb at *
  generalize A t = ad at *
  have H0 : Hid (DL (w1.alloc (.cells #[.string ⟨tb.nm.toArray⟩, .slice ad.ca tb.cols.length ad.cc, .slice ad.ua tb.uq.length ad.uc, .bool tb.rt] 27)) ((w1.alloc (.cells #[.string ⟨tb.nm.toArray⟩, .slice ad.ca tb.cols.length ad.cc, .slice ad.ua tb.uq.length ad.uc, .bool tb.rt] 27)).alloc (.cells #[] 45)) p S a l c m 45 3 (lsF dSet []) 0 (.slice (some ⟨w1.heap.size + 1, 0, none⟩) 0 0)) := by
    have hA := below_allocD w1 (.cells #[.string ⟨tb.nm.toArray⟩, .slice ad.ca tb.cols.length ad.cc, .slice ad.ua tb.uq.length ad.uc, .bool tb.rt] 27)
    have hA2 := below_allocD (w1.alloc (.cells #[.string ⟨tb.nm.toArray⟩, .slice ad.ca tb.cols.length ad.cc, .slice ad.ua tb.uq.length ad.uc, .bool tb.rt] 27)) (.cells #[] 45)
    have e1 : (w1.alloc (.cells #[.string ⟨tb.nm.toArray⟩, .slice ad.ca tb.cols.length ad.cc, .slice ad.ua tb.uq.length ad.uc, .bool tb.rt] 27)).heap.size = w1.heap.size + 1 := by simp
    refine ⟨HS0.out _ ((hB.trans (hA.mono hB.size)).trans (hA2.mono (Nat.le_trans hB.size hA.size))), Frm.of_below hA2, Nat.lt_of_lt_of_le hpl (Nat.le_trans hB.size hA.size), ?_⟩
    refine SG.start (by omega) ?_
    have hn := heap_newD (w1.alloc (.cells #[.string ⟨tb.nm.toArray⟩, .slice ad.ca tb.cols.length ad.cc, .slice ad.ua tb.uq.length ad.uc, .bool tb.rt] 27)) (.cells #[] 45)
    rwa [e1] at hn
  have TF : Hid (∀ W2, Frm (· = p) (w1.alloc (.cells #[.string ⟨tb.nm.toArray⟩, .slice ad.ca tb.cols.length ad.cc, .slice ad.ua tb.uq.length ad.uc, .bool tb.rt] 27)) W2 → W2.heap[w1.heap.size]? = some (.cells #[.string ⟨tb.nm.toArray⟩, .slice ad.ca tb.cols.length ad.cc, .slice ad.ua tb.uq.length ad.uc, .bool tb.rt] 27) ∧ Cols W2 (fun _ => True) ad.ca tb.cols) := fun W2 hF => by
    have hA := below_allocD w1 (.cells #[.string ⟨tb.nm.toArray⟩, .slice ad.ca tb.cols.length ad.cc, .slice ad.ua tb.uq.length ad.uc, .bool tb.rt] 27)
    refine ⟨keepF (heap_newD _ _) hF (by have := hB.size; omega), ?_⟩
    exact Rw.same (Cols.later hth.1 hA) (fun b hb => hF.block b (Nat.lt_of_lt_of_le hb.2 hA.size) (by omega)) (fun _ _ => trivial)
  have HV : Hid (Frm (· = p) W (w1.alloc (.cells #[.string ⟨tb.nm.toArray⟩, .slice ad.ca tb.cols.length ad.cc, .slice ad.ua tb.uq.length ad.uc, .bool tb.rt] 27)) ∧ W.heap.size ≤ (w1.alloc (.cells #[.string ⟨tb.nm.toArray⟩, .slice ad.ca tb.cols.length ad.cc, .slice ad.ua tb.uq.length ad.uc, .bool tb.rt] 27)).heap.size) := ⟨(Frm.of_below hB).trans (Frm.of_below (below_allocD _ _)), Nat.le_trans hB.size (below_allocD _ _).size⟩
  have hfd : ∀ w : World, (Instr.field 30 (.agg #[.slice (some ⟨rb, off, none⟩) 3 3]) 0).run Try.prog w = .ok (.slice (some ⟨rb, off, none⟩) 3 3) w := fun _ => by kernel_rfl
  have HT3 := Lib.hid ht
  clear HS0 hth hB ht
  go_wp2_with fail
  clear c0 c1 c2 c3 ht3 hfd
  obtain ⟨V, hV⟩ : ∃ V, V = (w1.alloc (.cells #[.string ⟨tb.nm.toArray⟩, .slice ad.ca tb.cols.length ad.cc, .slice ad.ua tb.uq.length ad.uc, .bool tb.rt] 27)) := ⟨_, rfl⟩
  rw [← hV] at H0 TF HV ⊢
  clear hV
  obtain ⟨qt, hqt⟩ : ∃ n, n = w1.heap.size := ⟨_, rfl⟩
  rw [← hqt] at H0 TF ⊢
  clear hqt
  have CH : Hid (∀ W2 mm, (∃ s, Src W2 p S a l c mm s) → mm < 1000000 → Calls Try.prog 36 #[.pointer (some ⟨p, 0, none⟩), .int .i64 2] W2 (ChanceW W2 p S a l c mm)) := fun W2 mm ⟨s, h⟩ hb => srcChanceW h hb 2 (by omega) (by omega)
  go_loopg [6, 7] tb.cols.length (fun g o i wr => ∃ (k mm : Nat) (L : List SetV) (va : Option Addr) (vc : Nat), k + g = tb.cols.length ∧ i = .int .i64 (k : Int) ∧ o = .slice va L.length vc ∧ Hid (DL V wr p S a l c mm 45 3 (lsF dSet L) L.length (.slice va L.length vc) ∧ mm ≤ m + k * 10 ∧ L.length ≤ k ∧ ∀ x ∈ L, ∀ j, j < 3 → (dSet x j).le 1048576))
  case atStart => exact ⟨0, m, [], _, _, by omega, rfl, rfl, H0.out, by omega, by simp, fun _ h => absurd h List.not_mem_nil⟩
  case round =>
    obtain ⟨k, mm, L, va, vc, hkg, rfl, rfl, HR⟩ := hrel
    have HD := Lib.hid HR.out.1
    obtain ⟨hbx, hcl⟩ := TF.out _ HD.out.fr
    have t1 := cell_at (o := 1) hbx rfl
    have HKG := Lib.hid hkg
    have HKM : Hid (k * 10 ≤ 30) := by have := HPT.out.1; show _ ≤ _; omega
    by_cases hlt : k < tb.cols.length
    case neg =>
      have hkd : decide ((k : Int) < (tb.cols.length : Int)) = false := by simp; omega
      clear hbx hcl
      go_wp2_with fail
      go_ret
      obtain ⟨s9, hs9⟩ := HD.out.src
      have hk3 := HPT.out.1
      exact ⟨L, va, vc, mm, s9, rfl, by have := HR.out.2.2.1; have := HKG.out; omega, HR.out.2.2.2, HD.out.sg.wide HV.out.2 (fun b hb => Nat.le_trans HV.out.2 hb), by have := HR.out.2.1; have := HKM.out; omega, hs9, HV.out.1.trans HD.out.fr⟩
    have hki : (k : Int) < (tb.cols.length : Int) := by omega
    have f1 : IntKind.i64.wrap ((k : Int) + 1) = ((k + 1 : Nat) : Int) := by have := HPT.out.1; rw [IntKind.wrap_i64]; omega
    have hmb : mm + 20 < 1000000 := by have := HR.out.2.1; have := HM.out; have := HKM.out; omega
    have HMB := Lib.hid hmb
    clear hbx hcl hmb hkg
    go_upto_region 6 with fail
    go_cut [29] from 16 to 64 (fun s wx => ∃ bb : Bool, s = .bool bb ∧ Hid (DL V wx p S a l c (mm + 1) 45 3 (lsF dSet L) L.length (.slice va L.length vc)))
    case first =>
      clear t1
      go_wp2_with fail
      refine (CH.out _ _ HD.out.src (by have := HMB.out; omega)).mono ?_
      rintro e w2 ⟨b2, s2, rfl, hS, hF⟩
      have HD2 : Hid (DL V w2 p S a l c (mm + 1) 45 3 (lsF dSet L) L.length (.slice va L.length vc)) := HD.out.draw hF ⟨s2, hS⟩
      clear hS hF
      by_cases hk0 : 0 < k
      · have d1 : decide (0 < (k : Int)) = true := by simp; omega
        have d2 : decide (0 < k) = true := by simp; omega
        cases b2
        · (go_wp2_with fail; go_meet; exact ⟨_, rfl, HD2⟩)
        · (go_wp2_with fail; go_meet; exact ⟨_, rfl, HD2⟩)
      · have d1 : decide (0 < (k : Int)) = false := by simp; omega
        have d2 : decide (0 < k) = false := by simp; omega
        cases b2
        · (go_wp2_with fail; go_meet; exact ⟨_, rfl, HD2⟩)
        · (go_wp2_with fail; go_meet; exact ⟨_, rfl, HD2⟩)
    obtain ⟨bb, rfl, HD2⟩ := hcut
    clear t1
    generalize wc = wa at *
    cases bb
    case true =>
      go_wp2_with fail
      go_roundg (tb.cols.length - (k + 1))
      case measure => have := HKG.out; omega
      case rel => exact ⟨k + 1, mm + 1, L, va, vc, by have := HKG.out; omega, by go_num, rfl, HD2.out, by have := HR.out.2.1; omega, Nat.le_succ_of_le HR.out.2.2.1, HR.out.2.2.2⟩
    case false =>
      obtain ⟨hbx, hcl⟩ := TF.out _ HD2.out.fr
      have t1 := cell_at (o := 1) hbx rfl
      obtain ⟨cb, co, hca, -, hcs⟩ := Cols.at hcl k hlt
      obtain ⟨cl, hcl2⟩ : ∃ cl, cl = tb.cols[k] := ⟨_, rfl⟩
      have HCL : Hid ((1 ≤ cl.k ∧ cl.k ≤ 4) ∧ cl.nm.length ≤ 40) := by rw [hcl2]; exact HPT.out.2 _ (List.getElem_mem hlt)
      have hck := hcs k hlt
      rw [← hcl2] at hck
      obtain ⟨k0, k1, k2, k3, k4, k5, k6, k7⟩ := hck
      rw [hca] at t1
      clear hbx hcl hcs hcl2 hca
      go_upto_region 8 with fail
      clear t1 k0 k1 k2 k3 k4 k5 k6 k7
      obtain ⟨w2, hw2⟩ : ∃ W2, W2 = wa.alloc (.cells #[.string ⟨cl.nm.toArray⟩, .int .i64 cl.k, .int .i64 cl.mn, .int .i64 cl.mx, .int .i64 cl.lo, .int .i64 cl.hi, .string ⟨cl.rf.toArray⟩, .bool cl.st] 47) := ⟨_, rfl⟩
      have HW2 : Hid (Frm (· = p) wa w2 ∧ w2.heap[wa.heap.size]? = some (.cells #[.string ⟨cl.nm.toArray⟩, .int .i64 cl.k, .int .i64 cl.mn, .int .i64 cl.mx, .int .i64 cl.lo, .int .i64 cl.hi, .string ⟨cl.rf.toArray⟩, .bool cl.st] 47) ∧ (∃ s, Src w2 p S a l c (mm + 1) s) ∧ wa.heap.size < w2.heap.size) := by
        rw [hw2]
        have hA := below_allocD wa (.cells #[.string ⟨cl.nm.toArray⟩, .int .i64 cl.k, .int .i64 cl.mn, .int .i64 cl.mx, .int .i64 cl.lo, .int .i64 cl.hi, .string ⟨cl.rf.toArray⟩, .bool cl.st] 47)
        obtain ⟨s, hs⟩ := HD2.out.src
        exact ⟨Frm.of_below hA, heap_newD _ _, ⟨s, hs.on hA⟩, by simp⟩
      rw [← hw2]
      clear hw2
      have HPW : Hid (p < wa.heap.size) := Nat.lt_of_lt_of_le HD2.out.pl HD2.out.fr.size
      have HNP : Hid (∀ i, w2.heap.size + i ≠ p) := fun i => by have := HPW.out; have := HW2.out.2.2.2; omega
      have CE : Hid (∀ W2, Frm (· = p) w2 W2 → W2.cell? ⟨wa.heap.size, 0, none⟩ = some (.string ⟨cl.nm.toArray⟩) ∧ W2.cell? ⟨wa.heap.size, 1, none⟩ = some (.int .i64 cl.k)) := fun W2 hF => by
        have hb := keepF HW2.out.2.1 hF (by have := HPW.out; omega)
        exact ⟨cell_at (o := 0) hb rfl, cell_at (o := 1) hb rfl⟩
      obtain ⟨kk, hkk⟩ : ∃ n : Nat, (n : Int) = cl.k := ⟨cl.k.toNat, by have := HCL.out.1; omega⟩
      have AT : Hid (∀ W2, (∃ s, Src W2 p S a l c (mm + 1) s) → Calls Try.prog 37 #[.pointer (some ⟨p, 0, none⟩), .int .i64 cl.k] W2 (AtomAns W2 p S a l c (mm + 1) kk)) := fun W2 ⟨s, hs⟩ => by
        have := srcAtom hs (by have := HMB.out; omega) kk (by have := HCL.out.1; omega) (by have := HCL.out.1; omega)
        rwa [hkk] at this
      have HKK := Lib.hid hkk
      clear hkk
      go_cut [9] from 16 to 64 (fun s wx => ∃ (qx : Nat) (x : SetV) (va' : Option Addr) (vc' : Nat) (na' : Option Addr) (nc' : Nat), s = .pointer (some ⟨qx, 0, none⟩) ∧ Hid (SX V wa wx p S a l c (mm + 1 + 1) wa.heap.size qx cl x va' vc' na' nc' L (.slice va L.length vc)))
      case first =>
        have fb0 : Below w2.heap.size w2 w2.drew := (Below.refl _ _).drew
        have FR0 : Hid (Frm (· = p) w2 w2.drew) := Frm.of_below fb0
        have SR0 : Hid (∃ s, Src w2.drew p S a l c (mm + 1) s) := by obtain ⟨s, hs⟩ := HW2.out.2.2.1; exact ⟨s, hs.on fb0⟩
        refine wp_region_held_drew (S := (fun W => W.cell? ⟨wa.heap.size, 0, none⟩ = some (.string ⟨cl.nm.toArray⟩) ∧ W.cell? ⟨wa.heap.size, 1, none⟩ = some (.int .i64 cl.k))) (by kernel_rfl) ?_ (fun hHeld => ?_)
        · (exact CE.out _ (by first | exact FRX.out | exact FR4.out | exact FR3.out | exact FR2.out | exact FR1.out | exact FR0.out))
        refine wpAnyH_take (i := 0) (v := ?_) rfl (by kernel_rfl) (by kernel_rfl) (by kernel_rfl) (fun _ _ _ h => h) (Or.inl ⟨by kernel_rfl, ?_⟩) (by assumption) ?_
        rotate_left
        · (intro wS hSw; (try dsimp only at hSw); go_simp <;> with_reducible rfl)
        try simp only [Act.put, tkS]
        refine wpAnyH_take (i := 1) (v := ?_) rfl (by kernel_rfl) (by kernel_rfl) (by kernel_rfl) (fun _ _ _ h => h) (Or.inl ⟨by kernel_rfl, ?_⟩) (by assumption) ?_
        rotate_left
        · (intro wS hSw; (try dsimp only at hSw); go_simp <;> with_reducible rfl)
        try simp only [Act.put, tkS]
        refine wpAnyH_take (i := 2) (v := ?_) rfl (by kernel_rfl) (by kernel_rfl) (by kernel_rfl) (fun _ _ _ h => h) (Or.inl ⟨by kernel_rfl, ?_⟩) (by assumption) ?_
        rotate_left
        · (intro wS hSw; (try dsimp only at hSw); go_simp <;> with_reducible rfl)
        try simp only [Act.put, tkS]
        refine wpAnyH_take (i := 3) (v := ?_) rfl (by kernel_rfl) (by kernel_rfl) (by kernel_rfl) (fun _ _ _ h => h) (Or.inl ⟨by kernel_rfl, ?_⟩) (by assumption) ?_
        rotate_left
        · (intro wS hSw; (try dsimp only at hSw); go_simp <;> with_reducible rfl)
        try simp only [Act.put, tkS]
        refine wpAnyH_take (i := 4) (v := ?_) rfl (by kernel_rfl) (by kernel_rfl) (by kernel_rfl) (fun _ _ _ h => h) (Or.inl ⟨by kernel_rfl, ?_⟩) (by assumption) ?_
        rotate_left
        · (intro wS hSw; (try dsimp only at hSw); go_simp <;> with_reducible rfl)
        try simp only [Act.put, tkS]
        refine wpAnyH_ready (rs := [5, 7, 9]) (by kernel_rfl) (by simp) (AllReadyH.cons rfl (fun K hK => ?_) (AllReadyH.cons rfl (fun K hK => ?_) (AllReadyH.cons rfl (fun K hK => ?_) AllReadyH.nil)))
        ·
          go_simp
          go_at_call 37
          refine (AT.out _ SR0.out).mono ?_
          rintro e w5 ⟨y, s5, rfl, hyk, hyo, hS5, hF5⟩
          have HS5 := Lib.hid hS5
          have HF5 : Hid (Frm (· = p) w2.drew w5) := hF5
          have HY : Hid (y.k = (kk : Int) ∧ atOK y = true) := ⟨hyk, hyo⟩
          have HZ5 : Hid (w2.heap.size + 0 ≤ w5.heap.size) := by have := hF5.size; simp at this; show _ ≤ _; omega
          have FRC : Hid (Frm (· = p) w2 w5) := FR0.out.trans hF5
          clear hS5 hF5 hyk hyo
          have fb1 : Below w5.heap.size w5 w5 := (by repeat' (first | exact Below.refl _ _ | refine Below.drew ?_ | refine Below.alloc ?_ (by simp <;> omega) _))
          have FR1 : Hid (Frm (· = p) w2 w5) := FRC.out.trans (Frm.of_below fb1)
          have SR1 : Hid (∃ s, Src w5 p S a l c (mm + 1 + 1) s) := ⟨s5, HS5.out.on fb1⟩
          refine hK.out _ _ ?_ (fun hHeld => ?_)
          · (exact CE.out _ (by first | exact FRX.out | exact FR4.out | exact FR3.out | exact FR2.out | exact FR1.out | exact FR0.out))
          clear hK K
          try simp only [Act.put, tkS]
          refine wpAnyH_ready (rs := [6, 7, 9]) (by kernel_rfl) (by simp) (AllReadyH.cons rfl (fun K hK => ?_) (AllReadyH.cons rfl (fun K hK => ?_) (AllReadyH.cons rfl (fun K hK => ?_) AllReadyH.nil)))
          ·
            go_simp
            have fb2 : Below w5.heap.size w5 (w5.alloc (.cells #[.int .i64 y.k, .int .i64 y.n, .string ⟨y.t.toArray⟩] 51)) := (by repeat' (first | exact Below.refl _ _ | refine Below.drew ?_ | refine Below.alloc ?_ (by simp <;> omega) _))
            have FR2 : Hid (Frm (· = p) w2 (w5.alloc (.cells #[.int .i64 y.k, .int .i64 y.n, .string ⟨y.t.toArray⟩] 51))) := FRC.out.trans (Frm.of_below fb2)
            have SR2 : Hid (∃ s, Src (w5.alloc (.cells #[.int .i64 y.k, .int .i64 y.n, .string ⟨y.t.toArray⟩] 51)) p S a l c (mm + 1 + 1) s) := ⟨s5, HS5.out.on fb2⟩
            refine hK.out _ _ ?_ (fun hHeld => ?_)
            · (exact CE.out _ (by first | exact FRX.out | exact FR4.out | exact FR3.out | exact FR2.out | exact FR1.out | exact FR0.out))
            clear hK K
            try simp only [Act.put, tkS]
            refine wpAnyH_ready (rs := [7, 9]) (by kernel_rfl) (by simp) (AllReadyH.cons rfl (fun K hK => ?_) (AllReadyH.cons rfl (fun K hK => ?_) AllReadyH.nil))
            ·
              go_simp
              have fb3 : Below w5.heap.size w5 ((w5.alloc (.cells #[.int .i64 y.k, .int .i64 y.n, .string ⟨y.t.toArray⟩] 51)).alloc (.cells #[] 9)) := (by repeat' (first | exact Below.refl _ _ | refine Below.drew ?_ | refine Below.alloc ?_ (by simp <;> omega) _))
              have FR3 : Hid (Frm (· = p) w2 ((w5.alloc (.cells #[.int .i64 y.k, .int .i64 y.n, .string ⟨y.t.toArray⟩] 51)).alloc (.cells #[] 9))) := FRC.out.trans (Frm.of_below fb3)
              have SR3 : Hid (∃ s, Src ((w5.alloc (.cells #[.int .i64 y.k, .int .i64 y.n, .string ⟨y.t.toArray⟩] 51)).alloc (.cells #[] 9)) p S a l c (mm + 1 + 1) s) := ⟨s5, HS5.out.on fb3⟩
              refine hK.out _ _ ?_ (fun hHeld => ?_)
              · (exact CE.out _ (by first | exact FRX.out | exact FR4.out | exact FR3.out | exact FR2.out | exact FR1.out | exact FR0.out))
              clear hK K
              try simp only [Act.put, tkS]
              refine wpAnyH_take (i := 8) (v := ?_) rfl (by kernel_rfl) (by kernel_rfl) (by kernel_rfl) (fun _ _ _ h => h) (Or.inl ⟨by kernel_rfl, ?_⟩) (by assumption) ?_
              rotate_left
              · (intro wS hSw; (try dsimp only at hSw); go_simp <;> with_reducible rfl)
              try simp only [Act.put, tkS]
              refine wpAnyH_ready (rs := [9]) (by kernel_rfl) (by simp) (AllReadyH.cons rfl (fun K hK => ?_) AllReadyH.nil)
              go_simp
              have fb4 : Below w5.heap.size w5 (((w5.alloc (.cells #[.int .i64 y.k, .int .i64 y.n, .string ⟨y.t.toArray⟩] 51)).alloc (.cells #[] 9)).alloc (.cells #[.string ⟨#[]⟩, .slice none 0 0, .slice none 0 0] 45)) := (by repeat' (first | exact Below.refl _ _ | refine Below.drew ?_ | refine Below.alloc ?_ (by simp <;> omega) _))
              have FR4 : Hid (Frm (· = p) w2 (((w5.alloc (.cells #[.int .i64 y.k, .int .i64 y.n, .string ⟨y.t.toArray⟩] 51)).alloc (.cells #[] 9)).alloc (.cells #[.string ⟨#[]⟩, .slice none 0 0, .slice none 0 0] 45))) := FRC.out.trans (Frm.of_below fb4)
              have SR4 : Hid (∃ s, Src (((w5.alloc (.cells #[.int .i64 y.k, .int .i64 y.n, .string ⟨y.t.toArray⟩] 51)).alloc (.cells #[] 9)).alloc (.cells #[.string ⟨#[]⟩, .slice none 0 0, .slice none 0 0] 45)) p S a l c (mm + 1 + 1) s) := ⟨s5, HS5.out.on fb4⟩
              refine hK.out _ _ ?_ (fun hHeld => ?_)
              · (exact CE.out _ (by first | exact FRX.out | exact FR4.out | exact FR3.out | exact FR2.out | exact FR1.out | exact FR0.out))
              clear hK K
              try simp only [Act.put, tkS]
              refine wpAnyH_ready (rs := [10]) (by kernel_rfl) (by simp) (AllReadyH.cons rfl (fun K hK => ?_) AllReadyH.nil)
              have fbX : Below w5.heap.size w5 (((w5.alloc (.cells #[.int .i64 y.k, .int .i64 y.n, .string ⟨y.t.toArray⟩] 51)).alloc (.cells #[] 9)).alloc (.cells #[.string ⟨cl.nm.toArray⟩, .slice (some ⟨(w5.heap.size), 0, none⟩) 1 1, .slice (some ⟨(w5.heap.size + 1), 0, none⟩) 0 0] 45)) := (by repeat' (first | exact Below.refl _ _ | refine Below.drew ?_ | refine Below.alloc ?_ (by simp <;> omega) _))
              have FRX : Hid (Frm (· = p) w2 (((w5.alloc (.cells #[.int .i64 y.k, .int .i64 y.n, .string ⟨y.t.toArray⟩] 51)).alloc (.cells #[] 9)).alloc (.cells #[.string ⟨cl.nm.toArray⟩, .slice (some ⟨(w5.heap.size), 0, none⟩) 1 1, .slice (some ⟨(w5.heap.size + 1), 0, none⟩) 0 0] 45))) := FRC.out.trans (Frm.of_below fbX)
              have HX : Hid (SX V wa (((w5.alloc (.cells #[.int .i64 y.k, .int .i64 y.n, .string ⟨y.t.toArray⟩] 51)).alloc (.cells #[] 9)).alloc (.cells #[.string ⟨cl.nm.toArray⟩, .slice (some ⟨(w5.heap.size), 0, none⟩) 1 1, .slice (some ⟨(w5.heap.size + 1), 0, none⟩) 0 0] 45)) p S a l c (mm + 1 + 1) wa.heap.size (w5.heap.size + 1 + 1) cl ⟨cl.nm, [y], []⟩ (some ⟨(w5.heap.size), 0, none⟩) 1 (some ⟨(w5.heap.size + 1), 0, none⟩) 0 L (.slice va L.length vc)) := SX.made HD2.out (HW2.out.1.trans FRX.out) ⟨s5, HS5.out.on fbX⟩ (keepF HW2.out.2.1 FRX.out (by have := HPW.out; omega)) (show (((w5.alloc (.cells #[.int .i64 y.k, .int .i64 y.n, .string ⟨y.t.toArray⟩] 51)).alloc (.cells #[] 9)).alloc (.cells #[.string ⟨cl.nm.toArray⟩, .slice (some ⟨(w5.heap.size), 0, none⟩) 1 1, .slice (some ⟨(w5.heap.size + 1), 0, none⟩) 0 0] 45)).heap[(w5.heap.size + 1 + 1)]? = some (.cells #[.string ⟨cl.nm.toArray⟩, .slice (some ⟨(w5.heap.size), 0, none⟩) 1 1, .slice (some ⟨(w5.heap.size + 1), 0, none⟩) 0 0] 45) from allocs_at [(.cells #[.int .i64 y.k, .int .i64 y.n, .string ⟨y.t.toArray⟩] 51), (.cells #[] 9), (.cells #[.string ⟨cl.nm.toArray⟩, .slice (some ⟨(w5.heap.size), 0, none⟩) 1 1, .slice (some ⟨(w5.heap.size + 1), 0, none⟩) 0 0] 45)] w5 2 _ rfl) (show (((w5.alloc (.cells #[.int .i64 y.k, .int .i64 y.n, .string ⟨y.t.toArray⟩] 51)).alloc (.cells #[] 9)).alloc (.cells #[.string ⟨cl.nm.toArray⟩, .slice (some ⟨(w5.heap.size), 0, none⟩) 1 1, .slice (some ⟨(w5.heap.size + 1), 0, none⟩) 0 0] 45)).heap[(w5.heap.size)]? = some (.cells #[.int .i64 y.k, .int .i64 y.n, .string ⟨y.t.toArray⟩] 51) from allocs_at [(.cells #[.int .i64 y.k, .int .i64 y.n, .string ⟨y.t.toArray⟩] 51), (.cells #[] 9), (.cells #[.string ⟨cl.nm.toArray⟩, .slice (some ⟨(w5.heap.size), 0, none⟩) 1 1, .slice (some ⟨(w5.heap.size + 1), 0, none⟩) 0 0] 45)] w5 0 _ rfl) (by have := HW2.out.2.2.2; have := HZ5.out; omega) ⟨by rw [HY.out.1, HKK.out]; exact HCL.out.1, HY.out.2⟩ HCL.out.2
              clear fbX
              go_simp
              refine hK.out _ _ ?_ (fun hHeld => ?_)
              · (exact CE.out _ (by first | exact FRX.out | exact FR4.out | exact FR3.out | exact FR2.out | exact FR1.out | exact FR0.out))
              clear hK K
              try simp only [Act.put, tkS]
              refine wpAnyH_done (by kernel_rfl) ?_ _
              go_wp2_with fail
              go_meet
              exact ⟨_, _, _, _, _, _, rfl, HX⟩
            ·
              go_simp
              have fb3 : Below w5.heap.size w5 ((w5.alloc (.cells #[.int .i64 y.k, .int .i64 y.n, .string ⟨y.t.toArray⟩] 51)).alloc (.cells #[.string ⟨#[]⟩, .slice none 0 0, .slice none 0 0] 45)) := (by repeat' (first | exact Below.refl _ _ | refine Below.drew ?_ | refine Below.alloc ?_ (by simp <;> omega) _))
              have FR3 : Hid (Frm (· = p) w2 ((w5.alloc (.cells #[.int .i64 y.k, .int .i64 y.n, .string ⟨y.t.toArray⟩] 51)).alloc (.cells #[.string ⟨#[]⟩, .slice none 0 0, .slice none 0 0] 45))) := FRC.out.trans (Frm.of_below fb3)
              have SR3 : Hid (∃ s, Src ((w5.alloc (.cells #[.int .i64 y.k, .int .i64 y.n, .string ⟨y.t.toArray⟩] 51)).alloc (.cells #[.string ⟨#[]⟩, .slice none 0 0, .slice none 0 0] 45)) p S a l c (mm + 1 + 1) s) := ⟨s5, HS5.out.on fb3⟩
              refine hK.out _ _ ?_ (fun hHeld => ?_)
              · (exact CE.out _ (by first | exact FRX.out | exact FR4.out | exact FR3.out | exact FR2.out | exact FR1.out | exact FR0.out))
              clear hK K
              try simp only [Act.put, tkS]
              refine wpAnyH_ready (rs := [7]) (by kernel_rfl) (by simp) (AllReadyH.cons rfl (fun K hK => ?_) AllReadyH.nil)
              go_simp
              have fb4 : Below w5.heap.size w5 (((w5.alloc (.cells #[.int .i64 y.k, .int .i64 y.n, .string ⟨y.t.toArray⟩] 51)).alloc (.cells #[.string ⟨#[]⟩, .slice none 0 0, .slice none 0 0] 45)).alloc (.cells #[] 9)) := (by repeat' (first | exact Below.refl _ _ | refine Below.drew ?_ | refine Below.alloc ?_ (by simp <;> omega) _))
              have FR4 : Hid (Frm (· = p) w2 (((w5.alloc (.cells #[.int .i64 y.k, .int .i64 y.n, .string ⟨y.t.toArray⟩] 51)).alloc (.cells #[.string ⟨#[]⟩, .slice none 0 0, .slice none 0 0] 45)).alloc (.cells #[] 9))) := FRC.out.trans (Frm.of_below fb4)
              have SR4 : Hid (∃ s, Src (((w5.alloc (.cells #[.int .i64 y.k, .int .i64 y.n, .string ⟨y.t.toArray⟩] 51)).alloc (.cells #[.string ⟨#[]⟩, .slice none 0 0, .slice none 0 0] 45)).alloc (.cells #[] 9)) p S a l c (mm + 1 + 1) s) := ⟨s5, HS5.out.on fb4⟩
              refine hK.out _ _ ?_ (fun hHeld => ?_)
              · (exact CE.out _ (by first | exact FRX.out | exact FR4.out | exact FR3.out | exact FR2.out | exact FR1.out | exact FR0.out))
              clear hK K
              try simp only [Act.put, tkS]
              refine wpAnyH_take (i := 8) (v := ?_) rfl (by kernel_rfl) (by kernel_rfl) (by kernel_rfl) (fun _ _ _ h => h) (Or.inl ⟨by kernel_rfl, ?_⟩) (by assumption) ?_
              rotate_left
              · (intro wS hSw; (try dsimp only at hSw); go_simp <;> with_reducible rfl)
              try simp only [Act.put, tkS]
              refine wpAnyH_ready (rs := [10]) (by kernel_rfl) (by simp) (AllReadyH.cons rfl (fun K hK => ?_) AllReadyH.nil)
              have fbX : Below w5.heap.size w5 (((w5.alloc (.cells #[.int .i64 y.k, .int .i64 y.n, .string ⟨y.t.toArray⟩] 51)).alloc (.cells #[.string ⟨cl.nm.toArray⟩, .slice (some ⟨(w5.heap.size), 0, none⟩) 1 1, .slice (some ⟨(w5.heap.size + 1 + 1), 0, none⟩) 0 0] 45)).alloc (.cells #[] 9)) := (by repeat' (first | exact Below.refl _ _ | refine Below.drew ?_ | refine Below.alloc ?_ (by simp <;> omega) _))
              have FRX : Hid (Frm (· = p) w2 (((w5.alloc (.cells #[.int .i64 y.k, .int .i64 y.n, .string ⟨y.t.toArray⟩] 51)).alloc (.cells #[.string ⟨cl.nm.toArray⟩, .slice (some ⟨(w5.heap.size), 0, none⟩) 1 1, .slice (some ⟨(w5.heap.size + 1 + 1), 0, none⟩) 0 0] 45)).alloc (.cells #[] 9))) := FRC.out.trans (Frm.of_below fbX)
              have HX : Hid (SX V wa (((w5.alloc (.cells #[.int .i64 y.k, .int .i64 y.n, .string ⟨y.t.toArray⟩] 51)).alloc (.cells #[.string ⟨cl.nm.toArray⟩, .slice (some ⟨(w5.heap.size), 0, none⟩) 1 1, .slice (some ⟨(w5.heap.size + 1 + 1), 0, none⟩) 0 0] 45)).alloc (.cells #[] 9)) p S a l c (mm + 1 + 1) wa.heap.size (w5.heap.size + 1) cl ⟨cl.nm, [y], []⟩ (some ⟨(w5.heap.size), 0, none⟩) 1 (some ⟨(w5.heap.size + 1 + 1), 0, none⟩) 0 L (.slice va L.length vc)) := SX.made HD2.out (HW2.out.1.trans FRX.out) ⟨s5, HS5.out.on fbX⟩ (keepF HW2.out.2.1 FRX.out (by have := HPW.out; omega)) (show (((w5.alloc (.cells #[.int .i64 y.k, .int .i64 y.n, .string ⟨y.t.toArray⟩] 51)).alloc (.cells #[.string ⟨cl.nm.toArray⟩, .slice (some ⟨(w5.heap.size), 0, none⟩) 1 1, .slice (some ⟨(w5.heap.size + 1 + 1), 0, none⟩) 0 0] 45)).alloc (.cells #[] 9)).heap[(w5.heap.size + 1)]? = some (.cells #[.string ⟨cl.nm.toArray⟩, .slice (some ⟨(w5.heap.size), 0, none⟩) 1 1, .slice (some ⟨(w5.heap.size + 1 + 1), 0, none⟩) 0 0] 45) from allocs_at [(.cells #[.int .i64 y.k, .int .i64 y.n, .string ⟨y.t.toArray⟩] 51), (.cells #[.string ⟨cl.nm.toArray⟩, .slice (some ⟨(w5.heap.size), 0, none⟩) 1 1, .slice (some ⟨(w5.heap.size + 1 + 1), 0, none⟩) 0 0] 45), (.cells #[] 9)] w5 1 _ rfl) (show (((w5.alloc (.cells #[.int .i64 y.k, .int .i64 y.n, .string ⟨y.t.toArray⟩] 51)).alloc (.cells #[.string ⟨cl.nm.toArray⟩, .slice (some ⟨(w5.heap.size), 0, none⟩) 1 1, .slice (some ⟨(w5.heap.size + 1 + 1), 0, none⟩) 0 0] 45)).alloc (.cells #[] 9)).heap[(w5.heap.size)]? = some (.cells #[.int .i64 y.k, .int .i64 y.n, .string ⟨y.t.toArray⟩] 51) from allocs_at [(.cells #[.int .i64 y.k, .int .i64 y.n, .string ⟨y.t.toArray⟩] 51), (.cells #[.string ⟨cl.nm.toArray⟩, .slice (some ⟨(w5.heap.size), 0, none⟩) 1 1, .slice (some ⟨(w5.heap.size + 1 + 1), 0, none⟩) 0 0] 45), (.cells #[] 9)] w5 0 _ rfl) (by have := HW2.out.2.2.2; have := HZ5.out; omega) ⟨by rw [HY.out.1, HKK.out]; exact HCL.out.1, HY.out.2⟩ HCL.out.2
              clear fbX
              go_simp
              refine hK.out _ _ ?_ (fun hHeld => ?_)
              · (exact CE.out _ (by first | exact FRX.out | exact FR4.out | exact FR3.out | exact FR2.out | exact FR1.out | exact FR0.out))
              clear hK K
              try simp only [Act.put, tkS]
              refine wpAnyH_done (by kernel_rfl) ?_ _
              go_wp2_with fail
              go_meet
              exact ⟨_, _, _, _, _, _, rfl, HX⟩
          ·
            go_simp
            have fb2 : Below w5.heap.size w5 (w5.alloc (.cells #[] 9)) := (by repeat' (first | exact Below.refl _ _ | refine Below.drew ?_ | refine Below.alloc ?_ (by simp <;> omega) _))
            have FR2 : Hid (Frm (· = p) w2 (w5.alloc (.cells #[] 9))) := FRC.out.trans (Frm.of_below fb2)
            have SR2 : Hid (∃ s, Src (w5.alloc (.cells #[] 9)) p S a l c (mm + 1 + 1) s) := ⟨s5, HS5.out.on fb2⟩
            refine hK.out _ _ ?_ (fun hHeld => ?_)
            · (exact CE.out _ (by first | exact FRX.out | exact FR4.out | exact FR3.out | exact FR2.out | exact FR1.out | exact FR0.out))
            clear hK K
            try simp only [Act.put, tkS]
            refine wpAnyH_ready (rs := [6, 9]) (by kernel_rfl) (by simp) (AllReadyH.cons rfl (fun K hK => ?_) (AllReadyH.cons rfl (fun K hK => ?_) AllReadyH.nil))
            ·
              go_simp
              have fb3 : Below w5.heap.size w5 ((w5.alloc (.cells #[] 9)).alloc (.cells #[.int .i64 y.k, .int .i64 y.n, .string ⟨y.t.toArray⟩] 51)) := (by repeat' (first | exact Below.refl _ _ | refine Below.drew ?_ | refine Below.alloc ?_ (by simp <;> omega) _))
              have FR3 : Hid (Frm (· = p) w2 ((w5.alloc (.cells #[] 9)).alloc (.cells #[.int .i64 y.k, .int .i64 y.n, .string ⟨y.t.toArray⟩] 51))) := FRC.out.trans (Frm.of_below fb3)
              have SR3 : Hid (∃ s, Src ((w5.alloc (.cells #[] 9)).alloc (.cells #[.int .i64 y.k, .int .i64 y.n, .string ⟨y.t.toArray⟩] 51)) p S a l c (mm + 1 + 1) s) := ⟨s5, HS5.out.on fb3⟩
              refine hK.out _ _ ?_ (fun hHeld => ?_)
              · (exact CE.out _ (by first | exact FRX.out | exact FR4.out | exact FR3.out | exact FR2.out | exact FR1.out | exact FR0.out))
              clear hK K
              try simp only [Act.put, tkS]
              refine wpAnyH_take (i := 8) (v := ?_) rfl (by kernel_rfl) (by kernel_rfl) (by kernel_rfl) (fun _ _ _ h => h) (Or.inl ⟨by kernel_rfl, ?_⟩) (by assumption) ?_
              rotate_left
              · (intro wS hSw; (try dsimp only at hSw); go_simp <;> with_reducible rfl)
              try simp only [Act.put, tkS]
              refine wpAnyH_ready (rs := [9]) (by kernel_rfl) (by simp) (AllReadyH.cons rfl (fun K hK => ?_) AllReadyH.nil)
              go_simp
              have fb4 : Below w5.heap.size w5 (((w5.alloc (.cells #[] 9)).alloc (.cells #[.int .i64 y.k, .int .i64 y.n, .string ⟨y.t.toArray⟩] 51)).alloc (.cells #[.string ⟨#[]⟩, .slice none 0 0, .slice none 0 0] 45)) := (by repeat' (first | exact Below.refl _ _ | refine Below.drew ?_ | refine Below.alloc ?_ (by simp <;> omega) _))
              have FR4 : Hid (Frm (· = p) w2 (((w5.alloc (.cells #[] 9)).alloc (.cells #[.int .i64 y.k, .int .i64 y.n, .string ⟨y.t.toArray⟩] 51)).alloc (.cells #[.string ⟨#[]⟩, .slice none 0 0, .slice none 0 0] 45))) := FRC.out.trans (Frm.of_below fb4)
              have SR4 : Hid (∃ s, Src (((w5.alloc (.cells #[] 9)).alloc (.cells #[.int .i64 y.k, .int .i64 y.n, .string ⟨y.t.toArray⟩] 51)).alloc (.cells #[.string ⟨#[]⟩, .slice none 0 0, .slice none 0 0] 45)) p S a l c (mm + 1 + 1) s) := ⟨s5, HS5.out.on fb4⟩
              refine hK.out _ _ ?_ (fun hHeld => ?_)
              · (exact CE.out _ (by first | exact FRX.out | exact FR4.out | exact FR3.out | exact FR2.out | exact FR1.out | exact FR0.out))
              clear hK K
              try simp only [Act.put, tkS]
              refine wpAnyH_ready (rs := [10]) (by kernel_rfl) (by simp) (AllReadyH.cons rfl (fun K hK => ?_) AllReadyH.nil)
              have fbX : Below w5.heap.size w5 (((w5.alloc (.cells #[] 9)).alloc (.cells #[.int .i64 y.k, .int .i64 y.n, .string ⟨y.t.toArray⟩] 51)).alloc (.cells #[.string ⟨cl.nm.toArray⟩, .slice (some ⟨(w5.heap.size + 1), 0, none⟩) 1 1, .slice (some ⟨(w5.heap.size), 0, none⟩) 0 0] 45)) := (by repeat' (first | exact Below.refl _ _ | refine Below.drew ?_ | refine Below.alloc ?_ (by simp <;> omega) _))
              have FRX : Hid (Frm (· = p) w2 (((w5.alloc (.cells #[] 9)).alloc (.cells #[.int .i64 y.k, .int .i64 y.n, .string ⟨y.t.toArray⟩] 51)).alloc (.cells #[.string ⟨cl.nm.toArray⟩, .slice (some ⟨(w5.heap.size + 1), 0, none⟩) 1 1, .slice (some ⟨(w5.heap.size), 0, none⟩) 0 0] 45))) := FRC.out.trans (Frm.of_below fbX)
              have HX : Hid (SX V wa (((w5.alloc (.cells #[] 9)).alloc (.cells #[.int .i64 y.k, .int .i64 y.n, .string ⟨y.t.toArray⟩] 51)).alloc (.cells #[.string ⟨cl.nm.toArray⟩, .slice (some ⟨(w5.heap.size + 1), 0, none⟩) 1 1, .slice (some ⟨(w5.heap.size), 0, none⟩) 0 0] 45)) p S a l c (mm + 1 + 1) wa.heap.size (w5.heap.size + 1 + 1) cl ⟨cl.nm, [y], []⟩ (some ⟨(w5.heap.size + 1), 0, none⟩) 1 (some ⟨(w5.heap.size), 0, none⟩) 0 L (.slice va L.length vc)) := SX.made HD2.out (HW2.out.1.trans FRX.out) ⟨s5, HS5.out.on fbX⟩ (keepF HW2.out.2.1 FRX.out (by have := HPW.out; omega)) (show (((w5.alloc (.cells #[] 9)).alloc (.cells #[.int .i64 y.k, .int .i64 y.n, .string ⟨y.t.toArray⟩] 51)).alloc (.cells #[.string ⟨cl.nm.toArray⟩, .slice (some ⟨(w5.heap.size + 1), 0, none⟩) 1 1, .slice (some ⟨(w5.heap.size), 0, none⟩) 0 0] 45)).heap[(w5.heap.size + 1 + 1)]? = some (.cells #[.string ⟨cl.nm.toArray⟩, .slice (some ⟨(w5.heap.size + 1), 0, none⟩) 1 1, .slice (some ⟨(w5.heap.size), 0, none⟩) 0 0] 45) from allocs_at [(.cells #[] 9), (.cells #[.int .i64 y.k, .int .i64 y.n, .string ⟨y.t.toArray⟩] 51), (.cells #[.string ⟨cl.nm.toArray⟩, .slice (some ⟨(w5.heap.size + 1), 0, none⟩) 1 1, .slice (some ⟨(w5.heap.size), 0, none⟩) 0 0] 45)] w5 2 _ rfl) (show (((w5.alloc (.cells #[] 9)).alloc (.cells #[.int .i64 y.k, .int .i64 y.n, .string ⟨y.t.toArray⟩] 51)).alloc (.cells #[.string ⟨cl.nm.toArray⟩, .slice (some ⟨(w5.heap.size + 1), 0, none⟩) 1 1, .slice (some ⟨(w5.heap.size), 0, none⟩) 0 0] 45)).heap[(w5.heap.size + 1)]? = some (.cells #[.int .i64 y.k, .int .i64 y.n, .string ⟨y.t.toArray⟩] 51) from allocs_at [(.cells #[] 9), (.cells #[.int .i64 y.k, .int .i64 y.n, .string ⟨y.t.toArray⟩] 51), (.cells #[.string ⟨cl.nm.toArray⟩, .slice (some ⟨(w5.heap.size + 1), 0, none⟩) 1 1, .slice (some ⟨(w5.heap.size), 0, none⟩) 0 0] 45)] w5 1 _ rfl) (by have := HW2.out.2.2.2; have := HZ5.out; omega) ⟨by rw [HY.out.1, HKK.out]; exact HCL.out.1, HY.out.2⟩ HCL.out.2
              clear fbX
              go_simp
              refine hK.out _ _ ?_ (fun hHeld => ?_)
              · (exact CE.out _ (by first | exact FRX.out | exact FR4.out | exact FR3.out | exact FR2.out | exact FR1.out | exact FR0.out))
              clear hK K
              try simp only [Act.put, tkS]
              refine wpAnyH_done (by kernel_rfl) ?_ _
              go_wp2_with fail
              go_meet
              exact ⟨_, _, _, _, _, _, rfl, HX⟩
            ·
              go_simp
              have fb3 : Below w5.heap.size w5 ((w5.alloc (.cells #[] 9)).alloc (.cells #[.string ⟨#[]⟩, .slice none 0 0, .slice none 0 0] 45)) := (by repeat' (first | exact Below.refl _ _ | refine Below.drew ?_ | refine Below.alloc ?_ (by simp <;> omega) _))
              have FR3 : Hid (Frm (· = p) w2 ((w5.alloc (.cells #[] 9)).alloc (.cells #[.string ⟨#[]⟩, .slice none 0 0, .slice none 0 0] 45))) := FRC.out.trans (Frm.of_below fb3)
              have SR3 : Hid (∃ s, Src ((w5.alloc (.cells #[] 9)).alloc (.cells #[.string ⟨#[]⟩, .slice none 0 0, .slice none 0 0] 45)) p S a l c (mm + 1 + 1) s) := ⟨s5, HS5.out.on fb3⟩
              refine hK.out _ _ ?_ (fun hHeld => ?_)
              · (exact CE.out _ (by first | exact FRX.out | exact FR4.out | exact FR3.out | exact FR2.out | exact FR1.out | exact FR0.out))
              clear hK K
              try simp only [Act.put, tkS]
              refine wpAnyH_ready (rs := [6]) (by kernel_rfl) (by simp) (AllReadyH.cons rfl (fun K hK => ?_) AllReadyH.nil)
              go_simp
              have fb4 : Below w5.heap.size w5 (((w5.alloc (.cells #[] 9)).alloc (.cells #[.string ⟨#[]⟩, .slice none 0 0, .slice none 0 0] 45)).alloc (.cells #[.int .i64 y.k, .int .i64 y.n, .string ⟨y.t.toArray⟩] 51)) := (by repeat' (first | exact Below.refl _ _ | refine Below.drew ?_ | refine Below.alloc ?_ (by simp <;> omega) _))
              have FR4 : Hid (Frm (· = p) w2 (((w5.alloc (.cells #[] 9)).alloc (.cells #[.string ⟨#[]⟩, .slice none 0 0, .slice none 0 0] 45)).alloc (.cells #[.int .i64 y.k, .int .i64 y.n, .string ⟨y.t.toArray⟩] 51))) := FRC.out.trans (Frm.of_below fb4)
              have SR4 : Hid (∃ s, Src (((w5.alloc (.cells #[] 9)).alloc (.cells #[.string ⟨#[]⟩, .slice none 0 0, .slice none 0 0] 45)).alloc (.cells #[.int .i64 y.k, .int .i64 y.n, .string ⟨y.t.toArray⟩] 51)) p S a l c (mm + 1 + 1) s) := ⟨s5, HS5.out.on fb4⟩
              refine hK.out _ _ ?_ (fun hHeld => ?_)
              · (exact CE.out _ (by first | exact FRX.out | exact FR4.out | exact FR3.out | exact FR2.out | exact FR1.out | exact FR0.out))
              clear hK K
              try simp only [Act.put, tkS]
              refine wpAnyH_take (i := 8) (v := ?_) rfl (by kernel_rfl) (by kernel_rfl) (by kernel_rfl) (fun _ _ _ h => h) (Or.inl ⟨by kernel_rfl, ?_⟩) (by assumption) ?_
              rotate_left
              · (intro wS hSw; (try dsimp only at hSw); go_simp <;> with_reducible rfl)
              try simp only [Act.put, tkS]
              refine wpAnyH_ready (rs := [10]) (by kernel_rfl) (by simp) (AllReadyH.cons rfl (fun K hK => ?_) AllReadyH.nil)
              have fbX : Below w5.heap.size w5 (((w5.alloc (.cells #[] 9)).alloc (.cells #[.string ⟨cl.nm.toArray⟩, .slice (some ⟨(w5.heap.size + 1 + 1), 0, none⟩) 1 1, .slice (some ⟨(w5.heap.size), 0, none⟩) 0 0] 45)).alloc (.cells #[.int .i64 y.k, .int .i64 y.n, .string ⟨y.t.toArray⟩] 51)) := (by repeat' (first | exact Below.refl _ _ | refine Below.drew ?_ | refine Below.alloc ?_ (by simp <;> omega) _))
              have FRX : Hid (Frm (· = p) w2 (((w5.alloc (.cells #[] 9)).alloc (.cells #[.string ⟨cl.nm.toArray⟩, .slice (some ⟨(w5.heap.size + 1 + 1), 0, none⟩) 1 1, .slice (some ⟨(w5.heap.size), 0, none⟩) 0 0] 45)).alloc (.cells #[.int .i64 y.k, .int .i64 y.n, .string ⟨y.t.toArray⟩] 51))) := FRC.out.trans (Frm.of_below fbX)
              have HX : Hid (SX V wa (((w5.alloc (.cells #[] 9)).alloc (.cells #[.string ⟨cl.nm.toArray⟩, .slice (some ⟨(w5.heap.size + 1 + 1), 0, none⟩) 1 1, .slice (some ⟨(w5.heap.size), 0, none⟩) 0 0] 45)).alloc (.cells #[.int .i64 y.k, .int .i64 y.n, .string ⟨y.t.toArray⟩] 51)) p S a l c (mm + 1 + 1) wa.heap.size (w5.heap.size + 1) cl ⟨cl.nm, [y], []⟩ (some ⟨(w5.heap.size + 1 + 1), 0, none⟩) 1 (some ⟨(w5.heap.size), 0, none⟩) 0 L (.slice va L.length vc)) := SX.made HD2.out (HW2.out.1.trans FRX.out) ⟨s5, HS5.out.on fbX⟩ (keepF HW2.out.2.1 FRX.out (by have := HPW.out; omega)) (show (((w5.alloc (.cells #[] 9)).alloc (.cells #[.string ⟨cl.nm.toArray⟩, .slice (some ⟨(w5.heap.size + 1 + 1), 0, none⟩) 1 1, .slice (some ⟨(w5.heap.size), 0, none⟩) 0 0] 45)).alloc (.cells #[.int .i64 y.k, .int .i64 y.n, .string ⟨y.t.toArray⟩] 51)).heap[(w5.heap.size + 1)]? = some (.cells #[.string ⟨cl.nm.toArray⟩, .slice (some ⟨(w5.heap.size + 1 + 1), 0, none⟩) 1 1, .slice (some ⟨(w5.heap.size), 0, none⟩) 0 0] 45) from allocs_at [(.cells #[] 9), (.cells #[.string ⟨cl.nm.toArray⟩, .slice (some ⟨(w5.heap.size + 1 + 1), 0, none⟩) 1 1, .slice (some ⟨(w5.heap.size), 0, none⟩) 0 0] 45), (.cells #[.int .i64 y.k, .int .i64 y.n, .string ⟨y.t.toArray⟩] 51)] w5 1 _ rfl) (show (((w5.alloc (.cells #[] 9)).alloc (.cells #[.string ⟨cl.nm.toArray⟩, .slice (some ⟨(w5.heap.size + 1 + 1), 0, none⟩) 1 1, .slice (some ⟨(w5.heap.size), 0, none⟩) 0 0] 45)).alloc (.cells #[.int .i64 y.k, .int .i64 y.n, .string ⟨y.t.toArray⟩] 51)).heap[(w5.heap.size + 1 + 1)]? = some (.cells #[.int .i64 y.k, .int .i64 y.n, .string ⟨y.t.toArray⟩] 51) from allocs_at [(.cells #[] 9), (.cells #[.string ⟨cl.nm.toArray⟩, .slice (some ⟨(w5.heap.size + 1 + 1), 0, none⟩) 1 1, .slice (some ⟨(w5.heap.size), 0, none⟩) 0 0] 45), (.cells #[.int .i64 y.k, .int .i64 y.n, .string ⟨y.t.toArray⟩] 51)] w5 2 _ rfl) (by have := HW2.out.2.2.2; have := HZ5.out; omega) ⟨by rw [HY.out.1, HKK.out]; exact HCL.out.1, HY.out.2⟩ HCL.out.2
              clear fbX
              go_simp
              refine hK.out _ _ ?_ (fun hHeld => ?_)
              · (exact CE.out _ (by first | exact FRX.out | exact FR4.out | exact FR3.out | exact FR2.out | exact FR1.out | exact FR0.out))
              clear hK K
              try simp only [Act.put, tkS]
              refine wpAnyH_done (by kernel_rfl) ?_ _
              go_wp2_with fail
              go_meet
              exact ⟨_, _, _, _, _, _, rfl, HX⟩
          ·
            go_simp
            have fb2 : Below w5.heap.size w5 (w5.alloc (.cells #[.string ⟨#[]⟩, .slice none 0 0, .slice none 0 0] 45)) := (by repeat' (first | exact Below.refl _ _ | refine Below.drew ?_ | refine Below.alloc ?_ (by simp <;> omega) _))
            have FR2 : Hid (Frm (· = p) w2 (w5.alloc (.cells #[.string ⟨#[]⟩, .slice none 0 0, .slice none 0 0] 45))) := FRC.out.trans (Frm.of_below fb2)
            have SR2 : Hid (∃ s, Src (w5.alloc (.cells #[.string ⟨#[]⟩, .slice none 0 0, .slice none 0 0] 45)) p S a l c (mm + 1 + 1) s) := ⟨s5, HS5.out.on fb2⟩
            refine hK.out _ _ ?_ (fun hHeld => ?_)
            · (exact CE.out _ (by first | exact FRX.out | exact FR4.out | exact FR3.out | exact FR2.out | exact FR1.out | exact FR0.out))
            clear hK K
            try simp only [Act.put, tkS]
            refine wpAnyH_ready (rs := [6, 7]) (by kernel_rfl) (by simp) (AllReadyH.cons rfl (fun K hK => ?_) (AllReadyH.cons rfl (fun K hK => ?_) AllReadyH.nil))
            ·
              go_simp
              have fb3 : Below w5.heap.size w5 ((w5.alloc (.cells #[.string ⟨#[]⟩, .slice none 0 0, .slice none 0 0] 45)).alloc (.cells #[.int .i64 y.k, .int .i64 y.n, .string ⟨y.t.toArray⟩] 51)) := (by repeat' (first | exact Below.refl _ _ | refine Below.drew ?_ | refine Below.alloc ?_ (by simp <;> omega) _))
              have FR3 : Hid (Frm (· = p) w2 ((w5.alloc (.cells #[.string ⟨#[]⟩, .slice none 0 0, .slice none 0 0] 45)).alloc (.cells #[.int .i64 y.k, .int .i64 y.n, .string ⟨y.t.toArray⟩] 51))) := FRC.out.trans (Frm.of_below fb3)
              have SR3 : Hid (∃ s, Src ((w5.alloc (.cells #[.string ⟨#[]⟩, .slice none 0 0, .slice none 0 0] 45)).alloc (.cells #[.int .i64 y.k, .int .i64 y.n, .string ⟨y.t.toArray⟩] 51)) p S a l c (mm + 1 + 1) s) := ⟨s5, HS5.out.on fb3⟩
              refine hK.out _ _ ?_ (fun hHeld => ?_)
              · (exact CE.out _ (by first | exact FRX.out | exact FR4.out | exact FR3.out | exact FR2.out | exact FR1.out | exact FR0.out))
              clear hK K
              try simp only [Act.put, tkS]
              refine wpAnyH_ready (rs := [7]) (by kernel_rfl) (by simp) (AllReadyH.cons rfl (fun K hK => ?_) AllReadyH.nil)
              go_simp
              have fb4 : Below w5.heap.size w5 (((w5.alloc (.cells #[.string ⟨#[]⟩, .slice none 0 0, .slice none 0 0] 45)).alloc (.cells #[.int .i64 y.k, .int .i64 y.n, .string ⟨y.t.toArray⟩] 51)).alloc (.cells #[] 9)) := (by repeat' (first | exact Below.refl _ _ | refine Below.drew ?_ | refine Below.alloc ?_ (by simp <;> omega) _))
              have FR4 : Hid (Frm (· = p) w2 (((w5.alloc (.cells #[.string ⟨#[]⟩, .slice none 0 0, .slice none 0 0] 45)).alloc (.cells #[.int .i64 y.k, .int .i64 y.n, .string ⟨y.t.toArray⟩] 51)).alloc (.cells #[] 9))) := FRC.out.trans (Frm.of_below fb4)
              have SR4 : Hid (∃ s, Src (((w5.alloc (.cells #[.string ⟨#[]⟩, .slice none 0 0, .slice none 0 0] 45)).alloc (.cells #[.int .i64 y.k, .int .i64 y.n, .string ⟨y.t.toArray⟩] 51)).alloc (.cells #[] 9)) p S a l c (mm + 1 + 1) s) := ⟨s5, HS5.out.on fb4⟩
              refine hK.out _ _ ?_ (fun hHeld => ?_)
              · (exact CE.out _ (by first | exact FRX.out | exact FR4.out | exact FR3.out | exact FR2.out | exact FR1.out | exact FR0.out))
              clear hK K
              try simp only [Act.put, tkS]
              refine wpAnyH_take (i := 8) (v := ?_) rfl (by kernel_rfl) (by kernel_rfl) (by kernel_rfl) (fun _ _ _ h => h) (Or.inl ⟨by kernel_rfl, ?_⟩) (by assumption) ?_
              rotate_left
              · (intro wS hSw; (try dsimp only at hSw); go_simp <;> with_reducible rfl)
              try simp only [Act.put, tkS]
              refine wpAnyH_ready (rs := [10]) (by kernel_rfl) (by simp) (AllReadyH.cons rfl (fun K hK => ?_) AllReadyH.nil)
              have fbX : Below w5.heap.size w5 (((w5.alloc (.cells #[.string ⟨cl.nm.toArray⟩, .slice (some ⟨(w5.heap.size + 1), 0, none⟩) 1 1, .slice (some ⟨(w5.heap.size + 1 + 1), 0, none⟩) 0 0] 45)).alloc (.cells #[.int .i64 y.k, .int .i64 y.n, .string ⟨y.t.toArray⟩] 51)).alloc (.cells #[] 9)) := (by repeat' (first | exact Below.refl _ _ | refine Below.drew ?_ | refine Below.alloc ?_ (by simp <;> omega) _))
              have FRX : Hid (Frm (· = p) w2 (((w5.alloc (.cells #[.string ⟨cl.nm.toArray⟩, .slice (some ⟨(w5.heap.size + 1), 0, none⟩) 1 1, .slice (some ⟨(w5.heap.size + 1 + 1), 0, none⟩) 0 0] 45)).alloc (.cells #[.int .i64 y.k, .int .i64 y.n, .string ⟨y.t.toArray⟩] 51)).alloc (.cells #[] 9))) := FRC.out.trans (Frm.of_below fbX)
              have HX : Hid (SX V wa (((w5.alloc (.cells #[.string ⟨cl.nm.toArray⟩, .slice (some ⟨(w5.heap.size + 1), 0, none⟩) 1 1, .slice (some ⟨(w5.heap.size + 1 + 1), 0, none⟩) 0 0] 45)).alloc (.cells #[.int .i64 y.k, .int .i64 y.n, .string ⟨y.t.toArray⟩] 51)).alloc (.cells #[] 9)) p S a l c (mm + 1 + 1) wa.heap.size (w5.heap.size) cl ⟨cl.nm, [y], []⟩ (some ⟨(w5.heap.size + 1), 0, none⟩) 1 (some ⟨(w5.heap.size + 1 + 1), 0, none⟩) 0 L (.slice va L.length vc)) := SX.made HD2.out (HW2.out.1.trans FRX.out) ⟨s5, HS5.out.on fbX⟩ (keepF HW2.out.2.1 FRX.out (by have := HPW.out; omega)) (show (((w5.alloc (.cells #[.string ⟨cl.nm.toArray⟩, .slice (some ⟨(w5.heap.size + 1), 0, none⟩) 1 1, .slice (some ⟨(w5.heap.size + 1 + 1), 0, none⟩) 0 0] 45)).alloc (.cells #[.int .i64 y.k, .int .i64 y.n, .string ⟨y.t.toArray⟩] 51)).alloc (.cells #[] 9)).heap[(w5.heap.size)]? = some (.cells #[.string ⟨cl.nm.toArray⟩, .slice (some ⟨(w5.heap.size + 1), 0, none⟩) 1 1, .slice (some ⟨(w5.heap.size + 1 + 1), 0, none⟩) 0 0] 45) from allocs_at [(.cells #[.string ⟨cl.nm.toArray⟩, .slice (some ⟨(w5.heap.size + 1), 0, none⟩) 1 1, .slice (some ⟨(w5.heap.size + 1 + 1), 0, none⟩) 0 0] 45), (.cells #[.int .i64 y.k, .int .i64 y.n, .string ⟨y.t.toArray⟩] 51), (.cells #[] 9)] w5 0 _ rfl) (show (((w5.alloc (.cells #[.string ⟨cl.nm.toArray⟩, .slice (some ⟨(w5.heap.size + 1), 0, none⟩) 1 1, .slice (some ⟨(w5.heap.size + 1 + 1), 0, none⟩) 0 0] 45)).alloc (.cells #[.int .i64 y.k, .int .i64 y.n, .string ⟨y.t.toArray⟩] 51)).alloc (.cells #[] 9)).heap[(w5.heap.size + 1)]? = some (.cells #[.int .i64 y.k, .int .i64 y.n, .string ⟨y.t.toArray⟩] 51) from allocs_at [(.cells #[.string ⟨cl.nm.toArray⟩, .slice (some ⟨(w5.heap.size + 1), 0, none⟩) 1 1, .slice (some ⟨(w5.heap.size + 1 + 1), 0, none⟩) 0 0] 45), (.cells #[.int .i64 y.k, .int .i64 y.n, .string ⟨y.t.toArray⟩] 51), (.cells #[] 9)] w5 1 _ rfl) (by have := HW2.out.2.2.2; have := HZ5.out; omega) ⟨by rw [HY.out.1, HKK.out]; exact HCL.out.1, HY.out.2⟩ HCL.out.2
              clear fbX
              go_simp
              refine hK.out _ _ ?_ (fun hHeld => ?_)
              · (exact CE.out _ (by first | exact FRX.out | exact FR4.out | exact FR3.out | exact FR2.out | exact FR1.out | exact FR0.out))
              clear hK K
              try simp only [Act.put, tkS]
              refine wpAnyH_done (by kernel_rfl) ?_ _
              go_wp2_with fail
              go_meet
              exact ⟨_, _, _, _, _, _, rfl, HX⟩
            ·
              go_simp
              have fb3 : Below w5.heap.size w5 ((w5.alloc (.cells #[.string ⟨#[]⟩, .slice none 0 0, .slice none 0 0] 45)).alloc (.cells #[] 9)) := (by repeat' (first | exact Below.refl _ _ | refine Below.drew ?_ | refine Below.alloc ?_ (by simp <;> omega) _))
              have FR3 : Hid (Frm (· = p) w2 ((w5.alloc (.cells #[.string ⟨#[]⟩, .slice none 0 0, .slice none 0 0] 45)).alloc (.cells #[] 9))) := FRC.out.trans (Frm.of_below fb3)
              have SR3 : Hid (∃ s, Src ((w5.alloc (.cells #[.string ⟨#[]⟩, .slice none 0 0, .slice none 0 0] 45)).alloc (.cells #[] 9)) p S a l c (mm + 1 + 1) s) := ⟨s5, HS5.out.on fb3⟩
              refine hK.out _ _ ?_ (fun hHeld => ?_)
              · (exact CE.out _ (by first | exact FRX.out | exact FR4.out | exact FR3.out | exact FR2.out | exact FR1.out | exact FR0.out))
              clear hK K
              try simp only [Act.put, tkS]
              refine wpAnyH_ready (rs := [6]) (by kernel_rfl) (by simp) (AllReadyH.cons rfl (fun K hK => ?_) AllReadyH.nil)
              go_simp
              have fb4 : Below w5.heap.size w5 (((w5.alloc (.cells #[.string ⟨#[]⟩, .slice none 0 0, .slice none 0 0] 45)).alloc (.cells #[] 9)).alloc (.cells #[.int .i64 y.k, .int .i64 y.n, .string ⟨y.t.toArray⟩] 51)) := (by repeat' (first | exact Below.refl _ _ | refine Below.drew ?_ | refine Below.alloc ?_ (by simp <;> omega) _))
              have FR4 : Hid (Frm (· = p) w2 (((w5.alloc (.cells #[.string ⟨#[]⟩, .slice none 0 0, .slice none 0 0] 45)).alloc (.cells #[] 9)).alloc (.cells #[.int .i64 y.k, .int .i64 y.n, .string ⟨y.t.toArray⟩] 51))) := FRC.out.trans (Frm.of_below fb4)
              have SR4 : Hid (∃ s, Src (((w5.alloc (.cells #[.string ⟨#[]⟩, .slice none 0 0, .slice none 0 0] 45)).alloc (.cells #[] 9)).alloc (.cells #[.int .i64 y.k, .int .i64 y.n, .string ⟨y.t.toArray⟩] 51)) p S a l c (mm + 1 + 1) s) := ⟨s5, HS5.out.on fb4⟩
              refine hK.out _ _ ?_ (fun hHeld => ?_)
              · (exact CE.out _ (by first | exact FRX.out | exact FR4.out | exact FR3.out | exact FR2.out | exact FR1.out | exact FR0.out))
              clear hK K
              try simp only [Act.put, tkS]
              refine wpAnyH_take (i := 8) (v := ?_) rfl (by kernel_rfl) (by kernel_rfl) (by kernel_rfl) (fun _ _ _ h => h) (Or.inl ⟨by kernel_rfl, ?_⟩) (by assumption) ?_
              rotate_left
              · (intro wS hSw; (try dsimp only at hSw); go_simp <;> with_reducible rfl)
              try simp only [Act.put, tkS]
              refine wpAnyH_ready (rs := [10]) (by kernel_rfl) (by simp) (AllReadyH.cons rfl (fun K hK => ?_) AllReadyH.nil)
              have fbX : Below w5.heap.size w5 (((w5.alloc (.cells #[.string ⟨cl.nm.toArray⟩, .slice (some ⟨(w5.heap.size + 1 + 1), 0, none⟩) 1 1, .slice (some ⟨(w5.heap.size + 1), 0, none⟩) 0 0] 45)).alloc (.cells #[] 9)).alloc (.cells #[.int .i64 y.k, .int .i64 y.n, .string ⟨y.t.toArray⟩] 51)) := (by repeat' (first | exact Below.refl _ _ | refine Below.drew ?_ | refine Below.alloc ?_ (by simp <;> omega) _))
              have FRX : Hid (Frm (· = p) w2 (((w5.alloc (.cells #[.string ⟨cl.nm.toArray⟩, .slice (some ⟨(w5.heap.size + 1 + 1), 0, none⟩) 1 1, .slice (some ⟨(w5.heap.size + 1), 0, none⟩) 0 0] 45)).alloc (.cells #[] 9)).alloc (.cells #[.int .i64 y.k, .int .i64 y.n, .string ⟨y.t.toArray⟩] 51))) := FRC.out.trans (Frm.of_below fbX)
              have HX : Hid (SX V wa (((w5.alloc (.cells #[.string ⟨cl.nm.toArray⟩, .slice (some ⟨(w5.heap.size + 1 + 1), 0, none⟩) 1 1, .slice (some ⟨(w5.heap.size + 1), 0, none⟩) 0 0] 45)).alloc (.cells #[] 9)).alloc (.cells #[.int .i64 y.k, .int .i64 y.n, .string ⟨y.t.toArray⟩] 51)) p S a l c (mm + 1 + 1) wa.heap.size (w5.heap.size) cl ⟨cl.nm, [y], []⟩ (some ⟨(w5.heap.size + 1 + 1), 0, none⟩) 1 (some ⟨(w5.heap.size + 1), 0, none⟩) 0 L (.slice va L.length vc)) := SX.made HD2.out (HW2.out.1.trans FRX.out) ⟨s5, HS5.out.on fbX⟩ (keepF HW2.out.2.1 FRX.out (by have := HPW.out; omega)) (show (((w5.alloc (.cells #[.string ⟨cl.nm.toArray⟩, .slice (some ⟨(w5.heap.size + 1 + 1), 0, none⟩) 1 1, .slice (some ⟨(w5.heap.size + 1), 0, none⟩) 0 0] 45)).alloc (.cells #[] 9)).alloc (.cells #[.int .i64 y.k, .int .i64 y.n, .string ⟨y.t.toArray⟩] 51)).heap[(w5.heap.size)]? = some (.cells #[.string ⟨cl.nm.toArray⟩, .slice (some ⟨(w5.heap.size + 1 + 1), 0, none⟩) 1 1, .slice (some ⟨(w5.heap.size + 1), 0, none⟩) 0 0] 45) from allocs_at [(.cells #[.string ⟨cl.nm.toArray⟩, .slice (some ⟨(w5.heap.size + 1 + 1), 0, none⟩) 1 1, .slice (some ⟨(w5.heap.size + 1), 0, none⟩) 0 0] 45), (.cells #[] 9), (.cells #[.int .i64 y.k, .int .i64 y.n, .string ⟨y.t.toArray⟩] 51)] w5 0 _ rfl) (show (((w5.alloc (.cells #[.string ⟨cl.nm.toArray⟩, .slice (some ⟨(w5.heap.size + 1 + 1), 0, none⟩) 1 1, .slice (some ⟨(w5.heap.size + 1), 0, none⟩) 0 0] 45)).alloc (.cells #[] 9)).alloc (.cells #[.int .i64 y.k, .int .i64 y.n, .string ⟨y.t.toArray⟩] 51)).heap[(w5.heap.size + 1 + 1)]? = some (.cells #[.int .i64 y.k, .int .i64 y.n, .string ⟨y.t.toArray⟩] 51) from allocs_at [(.cells #[.string ⟨cl.nm.toArray⟩, .slice (some ⟨(w5.heap.size + 1 + 1), 0, none⟩) 1 1, .slice (some ⟨(w5.heap.size + 1), 0, none⟩) 0 0] 45), (.cells #[] 9), (.cells #[.int .i64 y.k, .int .i64 y.n, .string ⟨y.t.toArray⟩] 51)] w5 2 _ rfl) (by have := HW2.out.2.2.2; have := HZ5.out; omega) ⟨by rw [HY.out.1, HKK.out]; exact HCL.out.1, HY.out.2⟩ HCL.out.2
              clear fbX
              go_simp
              refine hK.out _ _ ?_ (fun hHeld => ?_)
              · (exact CE.out _ (by first | exact FRX.out | exact FR4.out | exact FR3.out | exact FR2.out | exact FR1.out | exact FR0.out))
              clear hK K
              try simp only [Act.put, tkS]
              refine wpAnyH_done (by kernel_rfl) ?_ _
              go_wp2_with fail
              go_meet
              exact ⟨_, _, _, _, _, _, rfl, HX⟩
        ·
          go_simp
          have fb1 : Below w2.heap.size w2 (w2.alloc (.cells #[] 9)).drew := (by repeat' (first | exact Below.refl _ _ | refine Below.drew ?_ | refine Below.alloc ?_ (by simp <;> omega) _))
          have FR1 : Hid (Frm (· = p) w2 (w2.alloc (.cells #[] 9)).drew) := Frm.of_below fb1
          have SR1 : Hid (∃ s, Src (w2.alloc (.cells #[] 9)).drew p S a l c (mm + 1) s) := by obtain ⟨s, hs⟩ := HW2.out.2.2.1; exact ⟨s, hs.on fb1⟩
          refine hK.out _ _ ?_ (fun hHeld => ?_)
          · (exact CE.out _ (by first | exact FRX.out | exact FR4.out | exact FR3.out | exact FR2.out | exact FR1.out | exact FR0.out))
          clear hK K
          try simp only [Act.put, tkS]
          refine wpAnyH_ready (rs := [5, 9]) (by kernel_rfl) (by simp) (AllReadyH.cons rfl (fun K hK => ?_) (AllReadyH.cons rfl (fun K hK => ?_) AllReadyH.nil))
          ·
            go_simp
            go_at_call 37
            refine (AT.out _ SR1.out).mono ?_
            rintro e w5 ⟨y, s5, rfl, hyk, hyo, hS5, hF5⟩
            have HS5 := Lib.hid hS5
            have HF5 : Hid (Frm (· = p) (w2.alloc (.cells #[] 9)).drew w5) := hF5
            have HY : Hid (y.k = (kk : Int) ∧ atOK y = true) := ⟨hyk, hyo⟩
            have HZ5 : Hid (w2.heap.size + 1 ≤ w5.heap.size) := by have := hF5.size; simp at this; show _ ≤ _; omega
            have FRC : Hid (Frm (· = p) w2 w5) := FR1.out.trans hF5
            clear hS5 hF5 hyk hyo
            have fb2 : Below w5.heap.size w5 w5 := (by repeat' (first | exact Below.refl _ _ | refine Below.drew ?_ | refine Below.alloc ?_ (by simp <;> omega) _))
            have FR2 : Hid (Frm (· = p) w2 w5) := FRC.out.trans (Frm.of_below fb2)
            have SR2 : Hid (∃ s, Src w5 p S a l c (mm + 1 + 1) s) := ⟨s5, HS5.out.on fb2⟩
            refine hK.out _ _ ?_ (fun hHeld => ?_)
            · (exact CE.out _ (by first | exact FRX.out | exact FR4.out | exact FR3.out | exact FR2.out | exact FR1.out | exact FR0.out))
            clear hK K
            try simp only [Act.put, tkS]
            refine wpAnyH_ready (rs := [6, 9]) (by kernel_rfl) (by simp) (AllReadyH.cons rfl (fun K hK => ?_) (AllReadyH.cons rfl (fun K hK => ?_) AllReadyH.nil))
            ·
              go_simp
              have fb3 : Below w5.heap.size w5 (w5.alloc (.cells #[.int .i64 y.k, .int .i64 y.n, .string ⟨y.t.toArray⟩] 51)) := (by repeat' (first | exact Below.refl _ _ | refine Below.drew ?_ | refine Below.alloc ?_ (by simp <;> omega) _))
              have FR3 : Hid (Frm (· = p) w2 (w5.alloc (.cells #[.int .i64 y.k, .int .i64 y.n, .string ⟨y.t.toArray⟩] 51))) := FRC.out.trans (Frm.of_below fb3)
              have SR3 : Hid (∃ s, Src (w5.alloc (.cells #[.int .i64 y.k, .int .i64 y.n, .string ⟨y.t.toArray⟩] 51)) p S a l c (mm + 1 + 1) s) := ⟨s5, HS5.out.on fb3⟩
              refine hK.out _ _ ?_ (fun hHeld => ?_)
              · (exact CE.out _ (by first | exact FRX.out | exact FR4.out | exact FR3.out | exact FR2.out | exact FR1.out | exact FR0.out))
              clear hK K
              try simp only [Act.put, tkS]
              refine wpAnyH_take (i := 8) (v := ?_) rfl (by kernel_rfl) (by kernel_rfl) (by kernel_rfl) (fun _ _ _ h => h) (Or.inl ⟨by kernel_rfl, ?_⟩) (by assumption) ?_
              rotate_left
              · (intro wS hSw; (try dsimp only at hSw); go_simp <;> with_reducible rfl)
              try simp only [Act.put, tkS]
              refine wpAnyH_ready (rs := [9]) (by kernel_rfl) (by simp) (AllReadyH.cons rfl (fun K hK => ?_) AllReadyH.nil)
              go_simp
              have fb4 : Below w5.heap.size w5 ((w5.alloc (.cells #[.int .i64 y.k, .int .i64 y.n, .string ⟨y.t.toArray⟩] 51)).alloc (.cells #[.string ⟨#[]⟩, .slice none 0 0, .slice none 0 0] 45)) := (by repeat' (first | exact Below.refl _ _ | refine Below.drew ?_ | refine Below.alloc ?_ (by simp <;> omega) _))
              have FR4 : Hid (Frm (· = p) w2 ((w5.alloc (.cells #[.int .i64 y.k, .int .i64 y.n, .string ⟨y.t.toArray⟩] 51)).alloc (.cells #[.string ⟨#[]⟩, .slice none 0 0, .slice none 0 0] 45))) := FRC.out.trans (Frm.of_below fb4)
              have SR4 : Hid (∃ s, Src ((w5.alloc (.cells #[.int .i64 y.k, .int .i64 y.n, .string ⟨y.t.toArray⟩] 51)).alloc (.cells #[.string ⟨#[]⟩, .slice none 0 0, .slice none 0 0] 45)) p S a l c (mm + 1 + 1) s) := ⟨s5, HS5.out.on fb4⟩
              refine hK.out _ _ ?_ (fun hHeld => ?_)
              · (exact CE.out _ (by first | exact FRX.out | exact FR4.out | exact FR3.out | exact FR2.out | exact FR1.out | exact FR0.out))
              clear hK K
              try simp only [Act.put, tkS]
              refine wpAnyH_ready (rs := [10]) (by kernel_rfl) (by simp) (AllReadyH.cons rfl (fun K hK => ?_) AllReadyH.nil)
              have fbX : Below w5.heap.size w5 ((w5.alloc (.cells #[.int .i64 y.k, .int .i64 y.n, .string ⟨y.t.toArray⟩] 51)).alloc (.cells #[.string ⟨cl.nm.toArray⟩, .slice (some ⟨(w5.heap.size), 0, none⟩) 1 1, .slice (some ⟨(w2.heap.size), 0, none⟩) 0 0] 45)) := (by repeat' (first | exact Below.refl _ _ | refine Below.drew ?_ | refine Below.alloc ?_ (by simp <;> omega) _))
              have FRX : Hid (Frm (· = p) w2 ((w5.alloc (.cells #[.int .i64 y.k, .int .i64 y.n, .string ⟨y.t.toArray⟩] 51)).alloc (.cells #[.string ⟨cl.nm.toArray⟩, .slice (some ⟨(w5.heap.size), 0, none⟩) 1 1, .slice (some ⟨(w2.heap.size), 0, none⟩) 0 0] 45))) := FRC.out.trans (Frm.of_below fbX)
              have HX : Hid (SX V wa ((w5.alloc (.cells #[.int .i64 y.k, .int .i64 y.n, .string ⟨y.t.toArray⟩] 51)).alloc (.cells #[.string ⟨cl.nm.toArray⟩, .slice (some ⟨(w5.heap.size), 0, none⟩) 1 1, .slice (some ⟨(w2.heap.size), 0, none⟩) 0 0] 45)) p S a l c (mm + 1 + 1) wa.heap.size (w5.heap.size + 1) cl ⟨cl.nm, [y], []⟩ (some ⟨(w5.heap.size), 0, none⟩) 1 (some ⟨(w2.heap.size), 0, none⟩) 0 L (.slice va L.length vc)) := SX.made HD2.out (HW2.out.1.trans FRX.out) ⟨s5, HS5.out.on fbX⟩ (keepF HW2.out.2.1 FRX.out (by have := HPW.out; omega)) (show ((w5.alloc (.cells #[.int .i64 y.k, .int .i64 y.n, .string ⟨y.t.toArray⟩] 51)).alloc (.cells #[.string ⟨cl.nm.toArray⟩, .slice (some ⟨(w5.heap.size), 0, none⟩) 1 1, .slice (some ⟨(w2.heap.size), 0, none⟩) 0 0] 45)).heap[(w5.heap.size + 1)]? = some (.cells #[.string ⟨cl.nm.toArray⟩, .slice (some ⟨(w5.heap.size), 0, none⟩) 1 1, .slice (some ⟨(w2.heap.size), 0, none⟩) 0 0] 45) from allocs_at [(.cells #[.int .i64 y.k, .int .i64 y.n, .string ⟨y.t.toArray⟩] 51), (.cells #[.string ⟨cl.nm.toArray⟩, .slice (some ⟨(w5.heap.size), 0, none⟩) 1 1, .slice (some ⟨(w2.heap.size), 0, none⟩) 0 0] 45)] w5 1 _ rfl) (show ((w5.alloc (.cells #[.int .i64 y.k, .int .i64 y.n, .string ⟨y.t.toArray⟩] 51)).alloc (.cells #[.string ⟨cl.nm.toArray⟩, .slice (some ⟨(w5.heap.size), 0, none⟩) 1 1, .slice (some ⟨(w2.heap.size), 0, none⟩) 0 0] 45)).heap[(w5.heap.size)]? = some (.cells #[.int .i64 y.k, .int .i64 y.n, .string ⟨y.t.toArray⟩] 51) from allocs_at [(.cells #[.int .i64 y.k, .int .i64 y.n, .string ⟨y.t.toArray⟩] 51), (.cells #[.string ⟨cl.nm.toArray⟩, .slice (some ⟨(w5.heap.size), 0, none⟩) 1 1, .slice (some ⟨(w2.heap.size), 0, none⟩) 0 0] 45)] w5 0 _ rfl) (by have := HW2.out.2.2.2; have := HZ5.out; omega) ⟨by rw [HY.out.1, HKK.out]; exact HCL.out.1, HY.out.2⟩ HCL.out.2
              clear fbX
              go_simp
              refine hK.out _ _ ?_ (fun hHeld => ?_)
              · (exact CE.out _ (by first | exact FRX.out | exact FR4.out | exact FR3.out | exact FR2.out | exact FR1.out | exact FR0.out))
              clear hK K
              try simp only [Act.put, tkS]
              refine wpAnyH_done (by kernel_rfl) ?_ _
              go_wp2_with fail
              go_meet
              exact ⟨_, _, _, _, _, _, rfl, HX⟩
            ·
              go_simp
              have fb3 : Below w5.heap.size w5 (w5.alloc (.cells #[.string ⟨#[]⟩, .slice none 0 0, .slice none 0 0] 45)) := (by repeat' (first | exact Below.refl _ _ | refine Below.drew ?_ | refine Below.alloc ?_ (by simp <;> omega) _))
              have FR3 : Hid (Frm (· = p) w2 (w5.alloc (.cells #[.string ⟨#[]⟩, .slice none 0 0, .slice none 0 0] 45))) := FRC.out.trans (Frm.of_below fb3)
              have SR3 : Hid (∃ s, Src (w5.alloc (.cells #[.string ⟨#[]⟩, .slice none 0 0, .slice none 0 0] 45)) p S a l c (mm + 1 + 1) s) := ⟨s5, HS5.out.on fb3⟩
              refine hK.out _ _ ?_ (fun hHeld => ?_)
              · (exact CE.out _ (by first | exact FRX.out | exact FR4.out | exact FR3.out | exact FR2.out | exact FR1.out | exact FR0.out))
              clear hK K
              try simp only [Act.put, tkS]
              refine wpAnyH_ready (rs := [6]) (by kernel_rfl) (by simp) (AllReadyH.cons rfl (fun K hK => ?_) AllReadyH.nil)
              go_simp
              have fb4 : Below w5.heap.size w5 ((w5.alloc (.cells #[.string ⟨#[]⟩, .slice none 0 0, .slice none 0 0] 45)).alloc (.cells #[.int .i64 y.k, .int .i64 y.n, .string ⟨y.t.toArray⟩] 51)) := (by repeat' (first | exact Below.refl _ _ | refine Below.drew ?_ | refine Below.alloc ?_ (by simp <;> omega) _))
              have FR4 : Hid (Frm (· = p) w2 ((w5.alloc (.cells #[.string ⟨#[]⟩, .slice none 0 0, .slice none 0 0] 45)).alloc (.cells #[.int .i64 y.k, .int .i64 y.n, .string ⟨y.t.toArray⟩] 51))) := FRC.out.trans (Frm.of_below fb4)
              have SR4 : Hid (∃ s, Src ((w5.alloc (.cells #[.string ⟨#[]⟩, .slice none 0 0, .slice none 0 0] 45)).alloc (.cells #[.int .i64 y.k, .int .i64 y.n, .string ⟨y.t.toArray⟩] 51)) p S a l c (mm + 1 + 1) s) := ⟨s5, HS5.out.on fb4⟩
              refine hK.out _ _ ?_ (fun hHeld => ?_)
              · (exact CE.out _ (by first | exact FRX.out | exact FR4.out | exact FR3.out | exact FR2.out | exact FR1.out | exact FR0.out))
              clear hK K
              try simp only [Act.put, tkS]
              refine wpAnyH_take (i := 8) (v := ?_) rfl (by kernel_rfl) (by kernel_rfl) (by kernel_rfl) (fun _ _ _ h => h) (Or.inl ⟨by kernel_rfl, ?_⟩) (by assumption) ?_
              rotate_left
              · (intro wS hSw; (try dsimp only at hSw); go_simp <;> with_reducible rfl)
              try simp only [Act.put, tkS]
              refine wpAnyH_ready (rs := [10]) (by kernel_rfl) (by simp) (AllReadyH.cons rfl (fun K hK => ?_) AllReadyH.nil)
              have fbX : Below w5.heap.size w5 ((w5.alloc (.cells #[.string ⟨cl.nm.toArray⟩, .slice (some ⟨(w5.heap.size + 1), 0, none⟩) 1 1, .slice (some ⟨(w2.heap.size), 0, none⟩) 0 0] 45)).alloc (.cells #[.int .i64 y.k, .int .i64 y.n, .string ⟨y.t.toArray⟩] 51)) := (by repeat' (first | exact Below.refl _ _ | refine Below.drew ?_ | refine Below.alloc ?_ (by simp <;> omega) _))
              have FRX : Hid (Frm (· = p) w2 ((w5.alloc (.cells #[.string ⟨cl.nm.toArray⟩, .slice (some ⟨(w5.heap.size + 1), 0, none⟩) 1 1, .slice (some ⟨(w2.heap.size), 0, none⟩) 0 0] 45)).alloc (.cells #[.int .i64 y.k, .int .i64 y.n, .string ⟨y.t.toArray⟩] 51))) := FRC.out.trans (Frm.of_below fbX)
              have HX : Hid (SX V wa ((w5.alloc (.cells #[.string ⟨cl.nm.toArray⟩, .slice (some ⟨(w5.heap.size + 1), 0, none⟩) 1 1, .slice (some ⟨(w2.heap.size), 0, none⟩) 0 0] 45)).alloc (.cells #[.int .i64 y.k, .int .i64 y.n, .string ⟨y.t.toArray⟩] 51)) p S a l c (mm + 1 + 1) wa.heap.size (w5.heap.size) cl ⟨cl.nm, [y], []⟩ (some ⟨(w5.heap.size + 1), 0, none⟩) 1 (some ⟨(w2.heap.size), 0, none⟩) 0 L (.slice va L.length vc)) := SX.made HD2.out (HW2.out.1.trans FRX.out) ⟨s5, HS5.out.on fbX⟩ (keepF HW2.out.2.1 FRX.out (by have := HPW.out; omega)) (show ((w5.alloc (.cells #[.string ⟨cl.nm.toArray⟩, .slice (some ⟨(w5.heap.size + 1), 0, none⟩) 1 1, .slice (some ⟨(w2.heap.size), 0, none⟩) 0 0] 45)).alloc (.cells #[.int .i64 y.k, .int .i64 y.n, .string ⟨y.t.toArray⟩] 51)).heap[(w5.heap.size)]? = some (.cells #[.string ⟨cl.nm.toArray⟩, .slice (some ⟨(w5.heap.size + 1), 0, none⟩) 1 1, .slice (some ⟨(w2.heap.size), 0, none⟩) 0 0] 45) from allocs_at [(.cells #[.string ⟨cl.nm.toArray⟩, .slice (some ⟨(w5.heap.size + 1), 0, none⟩) 1 1, .slice (some ⟨(w2.heap.size), 0, none⟩) 0 0] 45), (.cells #[.int .i64 y.k, .int .i64 y.n, .string ⟨y.t.toArray⟩] 51)] w5 0 _ rfl) (show ((w5.alloc (.cells #[.string ⟨cl.nm.toArray⟩, .slice (some ⟨(w5.heap.size + 1), 0, none⟩) 1 1, .slice (some ⟨(w2.heap.size), 0, none⟩) 0 0] 45)).alloc (.cells #[.int .i64 y.k, .int .i64 y.n, .string ⟨y.t.toArray⟩] 51)).heap[(w5.heap.size + 1)]? = some (.cells #[.int .i64 y.k, .int .i64 y.n, .string ⟨y.t.toArray⟩] 51) from allocs_at [(.cells #[.string ⟨cl.nm.toArray⟩, .slice (some ⟨(w5.heap.size + 1), 0, none⟩) 1 1, .slice (some ⟨(w2.heap.size), 0, none⟩) 0 0] 45), (.cells #[.int .i64 y.k, .int .i64 y.n, .string ⟨y.t.toArray⟩] 51)] w5 1 _ rfl) (by have := HW2.out.2.2.2; have := HZ5.out; omega) ⟨by rw [HY.out.1, HKK.out]; exact HCL.out.1, HY.out.2⟩ HCL.out.2
              clear fbX
              go_simp
              refine hK.out _ _ ?_ (fun hHeld => ?_)
              · (exact CE.out _ (by first | exact FRX.out | exact FR4.out | exact FR3.out | exact FR2.out | exact FR1.out | exact FR0.out))
              clear hK K
              try simp only [Act.put, tkS]
              refine wpAnyH_done (by kernel_rfl) ?_ _
              go_wp2_with fail
              go_meet
              exact ⟨_, _, _, _, _, _, rfl, HX⟩
          ·
            go_simp
            have fb2 : Below w2.heap.size w2 ((w2.alloc (.cells #[] 9)).alloc (.cells #[.string ⟨#[]⟩, .slice none 0 0, .slice none 0 0] 45)).drew := (by repeat' (first | exact Below.refl _ _ | refine Below.drew ?_ | refine Below.alloc ?_ (by simp <;> omega) _))
            have FR2 : Hid (Frm (· = p) w2 ((w2.alloc (.cells #[] 9)).alloc (.cells #[.string ⟨#[]⟩, .slice none 0 0, .slice none 0 0] 45)).drew) := Frm.of_below fb2
            have SR2 : Hid (∃ s, Src ((w2.alloc (.cells #[] 9)).alloc (.cells #[.string ⟨#[]⟩, .slice none 0 0, .slice none 0 0] 45)).drew p S a l c (mm + 1) s) := by obtain ⟨s, hs⟩ := HW2.out.2.2.1; exact ⟨s, hs.on fb2⟩
            refine hK.out _ _ ?_ (fun hHeld => ?_)
            · (exact CE.out _ (by first | exact FRX.out | exact FR4.out | exact FR3.out | exact FR2.out | exact FR1.out | exact FR0.out))
            clear hK K
            try simp only [Act.put, tkS]
            refine wpAnyH_ready (rs := [5]) (by kernel_rfl) (by simp) (AllReadyH.cons rfl (fun K hK => ?_) AllReadyH.nil)
            go_simp
            go_at_call 37
            refine (AT.out _ SR2.out).mono ?_
            rintro e w5 ⟨y, s5, rfl, hyk, hyo, hS5, hF5⟩
            have HS5 := Lib.hid hS5
            have HF5 : Hid (Frm (· = p) ((w2.alloc (.cells #[] 9)).alloc (.cells #[.string ⟨#[]⟩, .slice none 0 0, .slice none 0 0] 45)).drew w5) := hF5
            have HY : Hid (y.k = (kk : Int) ∧ atOK y = true) := ⟨hyk, hyo⟩
            have HZ5 : Hid (w2.heap.size + 2 ≤ w5.heap.size) := by have := hF5.size; simp at this; show _ ≤ _; omega
            have FRC : Hid (Frm (· = p) w2 w5) := FR2.out.trans hF5
            clear hS5 hF5 hyk hyo
            have fb3 : Below w5.heap.size w5 w5 := (by repeat' (first | exact Below.refl _ _ | refine Below.drew ?_ | refine Below.alloc ?_ (by simp <;> omega) _))
            have FR3 : Hid (Frm (· = p) w2 w5) := FRC.out.trans (Frm.of_below fb3)
            have SR3 : Hid (∃ s, Src w5 p S a l c (mm + 1 + 1) s) := ⟨s5, HS5.out.on fb3⟩
            refine hK.out _ _ ?_ (fun hHeld => ?_)
            · (exact CE.out _ (by first | exact FRX.out | exact FR4.out | exact FR3.out | exact FR2.out | exact FR1.out | exact FR0.out))
            clear hK K
            try simp only [Act.put, tkS]
            refine wpAnyH_ready (rs := [6]) (by kernel_rfl) (by simp) (AllReadyH.cons rfl (fun K hK => ?_) AllReadyH.nil)
            go_simp
            have fb4 : Below w5.heap.size w5 (w5.alloc (.cells #[.int .i64 y.k, .int .i64 y.n, .string ⟨y.t.toArray⟩] 51)) := (by repeat' (first | exact Below.refl _ _ | refine Below.drew ?_ | refine Below.alloc ?_ (by simp <;> omega) _))
            have FR4 : Hid (Frm (· = p) w2 (w5.alloc (.cells #[.int .i64 y.k, .int .i64 y.n, .string ⟨y.t.toArray⟩] 51))) := FRC.out.trans (Frm.of_below fb4)
            have SR4 : Hid (∃ s, Src (w5.alloc (.cells #[.int .i64 y.k, .int .i64 y.n, .string ⟨y.t.toArray⟩] 51)) p S a l c (mm + 1 + 1) s) := ⟨s5, HS5.out.on fb4⟩
            refine hK.out _ _ ?_ (fun hHeld => ?_)
            · (exact CE.out _ (by first | exact FRX.out | exact FR4.out | exact FR3.out | exact FR2.out | exact FR1.out | exact FR0.out))
            clear hK K
            try simp only [Act.put, tkS]
            refine wpAnyH_take (i := 8) (v := ?_) rfl (by kernel_rfl) (by kernel_rfl) (by kernel_rfl) (fun _ _ _ h => h) (Or.inl ⟨by kernel_rfl, ?_⟩) (by assumption) ?_
            rotate_left
            · (intro wS hSw; (try dsimp only at hSw); go_simp <;> with_reducible rfl)
            try simp only [Act.put, tkS]
            refine wpAnyH_ready (rs := [10]) (by kernel_rfl) (by simp) (AllReadyH.cons rfl (fun K hK => ?_) AllReadyH.nil)
            have fbZ := fb4
            have hq : (w5.alloc (.cells #[.int .i64 y.k, .int .i64 y.n, .string ⟨y.t.toArray⟩] 51)).heap[(w2.heap.size + 1)]? = some (.cells #[.string ⟨#[]⟩, .slice none 0 0, .slice none 0 0] 45) := (keepF (b := (w2.heap.size + 1)) (keepF (b := (w2.heap.size + 1)) (show ((w2.alloc (.cells #[] 9)).alloc (.cells #[.string ⟨#[]⟩, .slice none 0 0, .slice none 0 0] 45)).drew.heap[(w2.heap.size + 1)]? = some (.cells #[.string ⟨#[]⟩, .slice none 0 0, .slice none 0 0] 45) from (allocs_at [(.cells #[] 9), (.cells #[.string ⟨#[]⟩, .slice none 0 0, .slice none 0 0] 45)] w2 1 _ rfl)) HF5.out (HNP.out 1)) (Frm.of_below fbZ) (HNP.out 1))
            have h1 : (w5.alloc (.cells #[.int .i64 y.k, .int .i64 y.n, .string ⟨y.t.toArray⟩] 51)).heap[(w5.heap.size)]? = some (.cells #[.int .i64 y.k, .int .i64 y.n, .string ⟨y.t.toArray⟩] 51) := (show (w5.alloc (.cells #[.int .i64 y.k, .int .i64 y.n, .string ⟨y.t.toArray⟩] 51)).heap[(w5.heap.size)]? = some (.cells #[.int .i64 y.k, .int .i64 y.n, .string ⟨y.t.toArray⟩] 51) from allocs_at [(.cells #[.int .i64 y.k, .int .i64 y.n, .string ⟨y.t.toArray⟩] 51)] w5 0 _ rfl)
            have HX : Hid (SX V wa ((((w5.alloc (.cells #[.int .i64 y.k, .int .i64 y.n, .string ⟨y.t.toArray⟩] 51)).setCell ⟨(w2.heap.size + 1), 0, none⟩ (.string ⟨cl.nm.toArray⟩)).setCell ⟨(w2.heap.size + 1), 1, none⟩ (.slice (some ⟨(w5.heap.size), 0, none⟩) 1 1)).setCell ⟨(w2.heap.size + 1), 2, none⟩ (.slice (some ⟨(w2.heap.size), 0, none⟩) 0 0)) p S a l c (mm + 1 + 1) wa.heap.size (w2.heap.size + 1) cl ⟨cl.nm, [y], []⟩ (some ⟨(w5.heap.size), 0, none⟩) 1 (some ⟨(w2.heap.size), 0, none⟩) 0 L (.slice va L.length vc)) := SX.first HD2.out (HW2.out.1.trans FR4.out) SR4.out (keepF HW2.out.2.1 FR4.out (by have := HPW.out; omega)) hq h1 (by have := HW2.out.2.2.2; have := HZ5.out; omega) ⟨by rw [HY.out.1, HKK.out]; exact HCL.out.1, HY.out.2⟩ HCL.out.2
            have FRX : Hid (Frm (· = p) w2 ((((w5.alloc (.cells #[.int .i64 y.k, .int .i64 y.n, .string ⟨y.t.toArray⟩] 51)).setCell ⟨(w2.heap.size + 1), 0, none⟩ (.string ⟨cl.nm.toArray⟩)).setCell ⟨(w2.heap.size + 1), 1, none⟩ (.slice (some ⟨(w5.heap.size), 0, none⟩) 1 1)).setCell ⟨(w2.heap.size + 1), 2, none⟩ (.slice (some ⟨(w2.heap.size), 0, none⟩) 0 0))) := frm_over FR4.out (b := (w2.heap.size + 1)) (by have := HZ5.out; omega) (((frm_set _ _ _ _).trans (frm_set _ _ _ _)).trans (frm_set _ _ _ _))
            have q0 := cell_at (o := 0) hq rfl
            have f0 := frozen_at 0 hq
            have q1 := cell_at (o := 1) hq rfl
            have f1 := frozen_at 1 hq
            have q2 := cell_at (o := 2) hq rfl
            have f2 := frozen_at 2 hq
            clear hq h1 fbZ
            go_simp
            refine hK.out _ _ ?_ (fun hHeld => ?_)
            · (exact CE.out _ (by first | exact FRX.out | exact FR4.out | exact FR3.out | exact FR2.out | exact FR1.out | exact FR0.out))
            clear hK K
            try simp only [Act.put, tkS]
            refine wpAnyH_done (by kernel_rfl) ?_ _
            go_wp2_with fail
            go_meet
            exact ⟨_, _, _, _, _, _, rfl, HX⟩
        ·
          go_simp
          have fb1 : Below w2.heap.size w2 (w2.alloc (.cells #[.string ⟨#[]⟩, .slice none 0 0, .slice none 0 0] 45)).drew := (by repeat' (first | exact Below.refl _ _ | refine Below.drew ?_ | refine Below.alloc ?_ (by simp <;> omega) _))
          have FR1 : Hid (Frm (· = p) w2 (w2.alloc (.cells #[.string ⟨#[]⟩, .slice none 0 0, .slice none 0 0] 45)).drew) := Frm.of_below fb1
          have SR1 : Hid (∃ s, Src (w2.alloc (.cells #[.string ⟨#[]⟩, .slice none 0 0, .slice none 0 0] 45)).drew p S a l c (mm + 1) s) := by obtain ⟨s, hs⟩ := HW2.out.2.2.1; exact ⟨s, hs.on fb1⟩
          refine hK.out _ _ ?_ (fun hHeld => ?_)
          · (exact CE.out _ (by first | exact FRX.out | exact FR4.out | exact FR3.out | exact FR2.out | exact FR1.out | exact FR0.out))
          clear hK K
          try simp only [Act.put, tkS]
          refine wpAnyH_ready (rs := [5, 7]) (by kernel_rfl) (by simp) (AllReadyH.cons rfl (fun K hK => ?_) (AllReadyH.cons rfl (fun K hK => ?_) AllReadyH.nil))
          ·
            go_simp
            go_at_call 37
            refine (AT.out _ SR1.out).mono ?_
            rintro e w5 ⟨y, s5, rfl, hyk, hyo, hS5, hF5⟩
            have HS5 := Lib.hid hS5
            have HF5 : Hid (Frm (· = p) (w2.alloc (.cells #[.string ⟨#[]⟩, .slice none 0 0, .slice none 0 0] 45)).drew w5) := hF5
            have HY : Hid (y.k = (kk : Int) ∧ atOK y = true) := ⟨hyk, hyo⟩
            have HZ5 : Hid (w2.heap.size + 1 ≤ w5.heap.size) := by have := hF5.size; simp at this; show _ ≤ _; omega
            have FRC : Hid (Frm (· = p) w2 w5) := FR1.out.trans hF5
            clear hS5 hF5 hyk hyo
            have fb2 : Below w5.heap.size w5 w5 := (by repeat' (first | exact Below.refl _ _ | refine Below.drew ?_ | refine Below.alloc ?_ (by simp <;> omega) _))
            have FR2 : Hid (Frm (· = p) w2 w5) := FRC.out.trans (Frm.of_below fb2)
            have SR2 : Hid (∃ s, Src w5 p S a l c (mm + 1 + 1) s) := ⟨s5, HS5.out.on fb2⟩
            refine hK.out _ _ ?_ (fun hHeld => ?_)
            · (exact CE.out _ (by first | exact FRX.out | exact FR4.out | exact FR3.out | exact FR2.out | exact FR1.out | exact FR0.out))
            clear hK K
            try simp only [Act.put, tkS]
            refine wpAnyH_ready (rs := [6, 7]) (by kernel_rfl) (by simp) (AllReadyH.cons rfl (fun K hK => ?_) (AllReadyH.cons rfl (fun K hK => ?_) AllReadyH.nil))
            ·
              go_simp
              have fb3 : Below w5.heap.size w5 (w5.alloc (.cells #[.int .i64 y.k, .int .i64 y.n, .string ⟨y.t.toArray⟩] 51)) := (by repeat' (first | exact Below.refl _ _ | refine Below.drew ?_ | refine Below.alloc ?_ (by simp <;> omega) _))
              have FR3 : Hid (Frm (· = p) w2 (w5.alloc (.cells #[.int .i64 y.k, .int .i64 y.n, .string ⟨y.t.toArray⟩] 51))) := FRC.out.trans (Frm.of_below fb3)
              have SR3 : Hid (∃ s, Src (w5.alloc (.cells #[.int .i64 y.k, .int .i64 y.n, .string ⟨y.t.toArray⟩] 51)) p S a l c (mm + 1 + 1) s) := ⟨s5, HS5.out.on fb3⟩
              refine hK.out _ _ ?_ (fun hHeld => ?_)
              · (exact CE.out _ (by first | exact FRX.out | exact FR4.out | exact FR3.out | exact FR2.out | exact FR1.out | exact FR0.out))
              clear hK K
              try simp only [Act.put, tkS]
              refine wpAnyH_ready (rs := [7]) (by kernel_rfl) (by simp) (AllReadyH.cons rfl (fun K hK => ?_) AllReadyH.nil)
              go_simp
              have fb4 : Below w5.heap.size w5 ((w5.alloc (.cells #[.int .i64 y.k, .int .i64 y.n, .string ⟨y.t.toArray⟩] 51)).alloc (.cells #[] 9)) := (by repeat' (first | exact Below.refl _ _ | refine Below.drew ?_ | refine Below.alloc ?_ (by simp <;> omega) _))
              have FR4 : Hid (Frm (· = p) w2 ((w5.alloc (.cells #[.int .i64 y.k, .int .i64 y.n, .string ⟨y.t.toArray⟩] 51)).alloc (.cells #[] 9))) := FRC.out.trans (Frm.of_below fb4)
              have SR4 : Hid (∃ s, Src ((w5.alloc (.cells #[.int .i64 y.k, .int .i64 y.n, .string ⟨y.t.toArray⟩] 51)).alloc (.cells #[] 9)) p S a l c (mm + 1 + 1) s) := ⟨s5, HS5.out.on fb4⟩
              refine hK.out _ _ ?_ (fun hHeld => ?_)
              · (exact CE.out _ (by first | exact FRX.out | exact FR4.out | exact FR3.out | exact FR2.out | exact FR1.out | exact FR0.out))
              clear hK K
              try simp only [Act.put, tkS]
              refine wpAnyH_take (i := 8) (v := ?_) rfl (by kernel_rfl) (by kernel_rfl) (by kernel_rfl) (fun _ _ _ h => h) (Or.inl ⟨by kernel_rfl, ?_⟩) (by assumption) ?_
              rotate_left
              · (intro wS hSw; (try dsimp only at hSw); go_simp <;> with_reducible rfl)
              try simp only [Act.put, tkS]
              refine wpAnyH_ready (rs := [10]) (by kernel_rfl) (by simp) (AllReadyH.cons rfl (fun K hK => ?_) AllReadyH.nil)
              have fbZ := fb4
              have hq : ((w5.alloc (.cells #[.int .i64 y.k, .int .i64 y.n, .string ⟨y.t.toArray⟩] 51)).alloc (.cells #[] 9)).heap[(w2.heap.size)]? = some (.cells #[.string ⟨#[]⟩, .slice none 0 0, .slice none 0 0] 45) := (keepF (b := (w2.heap.size)) (keepF (b := (w2.heap.size)) (show (w2.alloc (.cells #[.string ⟨#[]⟩, .slice none 0 0, .slice none 0 0] 45)).drew.heap[(w2.heap.size)]? = some (.cells #[.string ⟨#[]⟩, .slice none 0 0, .slice none 0 0] 45) from (allocs_at [(.cells #[.string ⟨#[]⟩, .slice none 0 0, .slice none 0 0] 45)] w2 0 _ rfl)) HF5.out (HNP.out 0)) (Frm.of_below fbZ) (HNP.out 0))
              have h1 : ((w5.alloc (.cells #[.int .i64 y.k, .int .i64 y.n, .string ⟨y.t.toArray⟩] 51)).alloc (.cells #[] 9)).heap[(w5.heap.size)]? = some (.cells #[.int .i64 y.k, .int .i64 y.n, .string ⟨y.t.toArray⟩] 51) := (show ((w5.alloc (.cells #[.int .i64 y.k, .int .i64 y.n, .string ⟨y.t.toArray⟩] 51)).alloc (.cells #[] 9)).heap[(w5.heap.size)]? = some (.cells #[.int .i64 y.k, .int .i64 y.n, .string ⟨y.t.toArray⟩] 51) from allocs_at [(.cells #[.int .i64 y.k, .int .i64 y.n, .string ⟨y.t.toArray⟩] 51), (.cells #[] 9)] w5 0 _ rfl)
              have HX : Hid (SX V wa (((((w5.alloc (.cells #[.int .i64 y.k, .int .i64 y.n, .string ⟨y.t.toArray⟩] 51)).alloc (.cells #[] 9)).setCell ⟨(w2.heap.size), 0, none⟩ (.string ⟨cl.nm.toArray⟩)).setCell ⟨(w2.heap.size), 1, none⟩ (.slice (some ⟨(w5.heap.size), 0, none⟩) 1 1)).setCell ⟨(w2.heap.size), 2, none⟩ (.slice (some ⟨(w5.heap.size + 1), 0, none⟩) 0 0)) p S a l c (mm + 1 + 1) wa.heap.size (w2.heap.size) cl ⟨cl.nm, [y], []⟩ (some ⟨(w5.heap.size), 0, none⟩) 1 (some ⟨(w5.heap.size + 1), 0, none⟩) 0 L (.slice va L.length vc)) := SX.first HD2.out (HW2.out.1.trans FR4.out) SR4.out (keepF HW2.out.2.1 FR4.out (by have := HPW.out; omega)) hq h1 (by have := HW2.out.2.2.2; have := HZ5.out; omega) ⟨by rw [HY.out.1, HKK.out]; exact HCL.out.1, HY.out.2⟩ HCL.out.2
              have FRX : Hid (Frm (· = p) w2 (((((w5.alloc (.cells #[.int .i64 y.k, .int .i64 y.n, .string ⟨y.t.toArray⟩] 51)).alloc (.cells #[] 9)).setCell ⟨(w2.heap.size), 0, none⟩ (.string ⟨cl.nm.toArray⟩)).setCell ⟨(w2.heap.size), 1, none⟩ (.slice (some ⟨(w5.heap.size), 0, none⟩) 1 1)).setCell ⟨(w2.heap.size), 2, none⟩ (.slice (some ⟨(w5.heap.size + 1), 0, none⟩) 0 0))) := frm_over FR4.out (b := (w2.heap.size)) (by have := HZ5.out; omega) (((frm_set _ _ _ _).trans (frm_set _ _ _ _)).trans (frm_set _ _ _ _))
              have q0 := cell_at (o := 0) hq rfl
              have f0 := frozen_at 0 hq
              have q1 := cell_at (o := 1) hq rfl
              have f1 := frozen_at 1 hq
              have q2 := cell_at (o := 2) hq rfl
              have f2 := frozen_at 2 hq
              clear hq h1 fbZ
              go_simp
              refine hK.out _ _ ?_ (fun hHeld => ?_)
              · (exact CE.out _ (by first | exact FRX.out | exact FR4.out | exact FR3.out | exact FR2.out | exact FR1.out | exact FR0.out))
              clear hK K
              try simp only [Act.put, tkS]
              refine wpAnyH_done (by kernel_rfl) ?_ _
              go_wp2_with fail
              go_meet
              exact ⟨_, _, _, _, _, _, rfl, HX⟩
            ·
              go_simp
              have fb3 : Below w5.heap.size w5 (w5.alloc (.cells #[] 9)) := (by repeat' (first | exact Below.refl _ _ | refine Below.drew ?_ | refine Below.alloc ?_ (by simp <;> omega) _))
              have FR3 : Hid (Frm (· = p) w2 (w5.alloc (.cells #[] 9))) := FRC.out.trans (Frm.of_below fb3)
              have SR3 : Hid (∃ s, Src (w5.alloc (.cells #[] 9)) p S a l c (mm + 1 + 1) s) := ⟨s5, HS5.out.on fb3⟩
              refine hK.out _ _ ?_ (fun hHeld => ?_)
              · (exact CE.out _ (by first | exact FRX.out | exact FR4.out | exact FR3.out | exact FR2.out | exact FR1.out | exact FR0.out))
              clear hK K
              try simp only [Act.put, tkS]
              refine wpAnyH_ready (rs := [6]) (by kernel_rfl) (by simp) (AllReadyH.cons rfl (fun K hK => ?_) AllReadyH.nil)
              go_simp
              have fb4 : Below w5.heap.size w5 ((w5.alloc (.cells #[] 9)).alloc (.cells #[.int .i64 y.k, .int .i64 y.n, .string ⟨y.t.toArray⟩] 51)) := (by repeat' (first | exact Below.refl _ _ | refine Below.drew ?_ | refine Below.alloc ?_ (by simp <;> omega) _))
              have FR4 : Hid (Frm (· = p) w2 ((w5.alloc (.cells #[] 9)).alloc (.cells #[.int .i64 y.k, .int .i64 y.n, .string ⟨y.t.toArray⟩] 51))) := FRC.out.trans (Frm.of_below fb4)
              have SR4 : Hid (∃ s, Src ((w5.alloc (.cells #[] 9)).alloc (.cells #[.int .i64 y.k, .int .i64 y.n, .string ⟨y.t.toArray⟩] 51)) p S a l c (mm + 1 + 1) s) := ⟨s5, HS5.out.on fb4⟩
              refine hK.out _ _ ?_ (fun hHeld => ?_)
              · (exact CE.out _ (by first | exact FRX.out | exact FR4.out | exact FR3.out | exact FR2.out | exact FR1.out | exact FR0.out))
              clear hK K
              try simp only [Act.put, tkS]
              refine wpAnyH_take (i := 8) (v := ?_) rfl (by kernel_rfl) (by kernel_rfl) (by kernel_rfl) (fun _ _ _ h => h) (Or.inl ⟨by kernel_rfl, ?_⟩) (by assumption) ?_
              rotate_left
              · (intro wS hSw; (try dsimp only at hSw); go_simp <;> with_reducible rfl)
              try simp only [Act.put, tkS]
              refine wpAnyH_ready (rs := [10]) (by kernel_rfl) (by simp) (AllReadyH.cons rfl (fun K hK => ?_) AllReadyH.nil)
              have fbZ := fb4
              have hq : ((w5.alloc (.cells #[] 9)).alloc (.cells #[.int .i64 y.k, .int .i64 y.n, .string ⟨y.t.toArray⟩] 51)).heap[(w2.heap.size)]? = some (.cells #[.string ⟨#[]⟩, .slice none 0 0, .slice none 0 0] 45) := (keepF (b := (w2.heap.size)) (keepF (b := (w2.heap.size)) (show (w2.alloc (.cells #[.string ⟨#[]⟩, .slice none 0 0, .slice none 0 0] 45)).drew.heap[(w2.heap.size)]? = some (.cells #[.string ⟨#[]⟩, .slice none 0 0, .slice none 0 0] 45) from (allocs_at [(.cells #[.string ⟨#[]⟩, .slice none 0 0, .slice none 0 0] 45)] w2 0 _ rfl)) HF5.out (HNP.out 0)) (Frm.of_below fbZ) (HNP.out 0))
              have h1 : ((w5.alloc (.cells #[] 9)).alloc (.cells #[.int .i64 y.k, .int .i64 y.n, .string ⟨y.t.toArray⟩] 51)).heap[(w5.heap.size + 1)]? = some (.cells #[.int .i64 y.k, .int .i64 y.n, .string ⟨y.t.toArray⟩] 51) := (show ((w5.alloc (.cells #[] 9)).alloc (.cells #[.int .i64 y.k, .int .i64 y.n, .string ⟨y.t.toArray⟩] 51)).heap[(w5.heap.size + 1)]? = some (.cells #[.int .i64 y.k, .int .i64 y.n, .string ⟨y.t.toArray⟩] 51) from allocs_at [(.cells #[] 9), (.cells #[.int .i64 y.k, .int .i64 y.n, .string ⟨y.t.toArray⟩] 51)] w5 1 _ rfl)
              have HX : Hid (SX V wa (((((w5.alloc (.cells #[] 9)).alloc (.cells #[.int .i64 y.k, .int .i64 y.n, .string ⟨y.t.toArray⟩] 51)).setCell ⟨(w2.heap.size), 0, none⟩ (.string ⟨cl.nm.toArray⟩)).setCell ⟨(w2.heap.size), 1, none⟩ (.slice (some ⟨(w5.heap.size + 1), 0, none⟩) 1 1)).setCell ⟨(w2.heap.size), 2, none⟩ (.slice (some ⟨(w5.heap.size), 0, none⟩) 0 0)) p S a l c (mm + 1 + 1) wa.heap.size (w2.heap.size) cl ⟨cl.nm, [y], []⟩ (some ⟨(w5.heap.size + 1), 0, none⟩) 1 (some ⟨(w5.heap.size), 0, none⟩) 0 L (.slice va L.length vc)) := SX.first HD2.out (HW2.out.1.trans FR4.out) SR4.out (keepF HW2.out.2.1 FR4.out (by have := HPW.out; omega)) hq h1 (by have := HW2.out.2.2.2; have := HZ5.out; omega) ⟨by rw [HY.out.1, HKK.out]; exact HCL.out.1, HY.out.2⟩ HCL.out.2
              have FRX : Hid (Frm (· = p) w2 (((((w5.alloc (.cells #[] 9)).alloc (.cells #[.int .i64 y.k, .int .i64 y.n, .string ⟨y.t.toArray⟩] 51)).setCell ⟨(w2.heap.size), 0, none⟩ (.string ⟨cl.nm.toArray⟩)).setCell ⟨(w2.heap.size), 1, none⟩ (.slice (some ⟨(w5.heap.size + 1), 0, none⟩) 1 1)).setCell ⟨(w2.heap.size), 2, none⟩ (.slice (some ⟨(w5.heap.size), 0, none⟩) 0 0))) := frm_over FR4.out (b := (w2.heap.size)) (by have := HZ5.out; omega) (((frm_set _ _ _ _).trans (frm_set _ _ _ _)).trans (frm_set _ _ _ _))
              have q0 := cell_at (o := 0) hq rfl
              have f0 := frozen_at 0 hq
              have q1 := cell_at (o := 1) hq rfl
              have f1 := frozen_at 1 hq
              have q2 := cell_at (o := 2) hq rfl
              have f2 := frozen_at 2 hq
              clear hq h1 fbZ
              go_simp
              refine hK.out _ _ ?_ (fun hHeld => ?_)
              · (exact CE.out _ (by first | exact FRX.out | exact FR4.out | exact FR3.out | exact FR2.out | exact FR1.out | exact FR0.out))
              clear hK K
              try simp only [Act.put, tkS]
              refine wpAnyH_done (by kernel_rfl) ?_ _
              go_wp2_with fail
              go_meet
              exact ⟨_, _, _, _, _, _, rfl, HX⟩
          ·
            go_simp
            have fb2 : Below w2.heap.size w2 ((w2.alloc (.cells #[.string ⟨#[]⟩, .slice none 0 0, .slice none 0 0] 45)).alloc (.cells #[] 9)).drew := (by repeat' (first | exact Below.refl _ _ | refine Below.drew ?_ | refine Below.alloc ?_ (by simp <;> omega) _))
            have FR2 : Hid (Frm (· = p) w2 ((w2.alloc (.cells #[.string ⟨#[]⟩, .slice none 0 0, .slice none 0 0] 45)).alloc (.cells #[] 9)).drew) := Frm.of_below fb2
            have SR2 : Hid (∃ s, Src ((w2.alloc (.cells #[.string ⟨#[]⟩, .slice none 0 0, .slice none 0 0] 45)).alloc (.cells #[] 9)).drew p S a l c (mm + 1) s) := by obtain ⟨s, hs⟩ := HW2.out.2.2.1; exact ⟨s, hs.on fb2⟩
            refine hK.out _ _ ?_ (fun hHeld => ?_)
            · (exact CE.out _ (by first | exact FRX.out | exact FR4.out | exact FR3.out | exact FR2.out | exact FR1.out | exact FR0.out))
            clear hK K
            try simp only [Act.put, tkS]
            refine wpAnyH_ready (rs := [5]) (by kernel_rfl) (by simp) (AllReadyH.cons rfl (fun K hK => ?_) AllReadyH.nil)
            go_simp
            go_at_call 37
            refine (AT.out _ SR2.out).mono ?_
            rintro e w5 ⟨y, s5, rfl, hyk, hyo, hS5, hF5⟩
            have HS5 := Lib.hid hS5
            have HF5 : Hid (Frm (· = p) ((w2.alloc (.cells #[.string ⟨#[]⟩, .slice none 0 0, .slice none 0 0] 45)).alloc (.cells #[] 9)).drew w5) := hF5
            have HY : Hid (y.k = (kk : Int) ∧ atOK y = true) := ⟨hyk, hyo⟩
            have HZ5 : Hid (w2.heap.size + 2 ≤ w5.heap.size) := by have := hF5.size; simp at this; show _ ≤ _; omega
            have FRC : Hid (Frm (· = p) w2 w5) := FR2.out.trans hF5
            clear hS5 hF5 hyk hyo
            have fb3 : Below w5.heap.size w5 w5 := (by repeat' (first | exact Below.refl _ _ | refine Below.drew ?_ | refine Below.alloc ?_ (by simp <;> omega) _))
            have FR3 : Hid (Frm (· = p) w2 w5) := FRC.out.trans (Frm.of_below fb3)
            have SR3 : Hid (∃ s, Src w5 p S a l c (mm + 1 + 1) s) := ⟨s5, HS5.out.on fb3⟩
            refine hK.out _ _ ?_ (fun hHeld => ?_)
            · (exact CE.out _ (by first | exact FRX.out | exact FR4.out | exact FR3.out | exact FR2.out | exact FR1.out | exact FR0.out))
            clear hK K
            try simp only [Act.put, tkS]
            refine wpAnyH_ready (rs := [6]) (by kernel_rfl) (by simp) (AllReadyH.cons rfl (fun K hK => ?_) AllReadyH.nil)
            go_simp
            have fb4 : Below w5.heap.size w5 (w5.alloc (.cells #[.int .i64 y.k, .int .i64 y.n, .string ⟨y.t.toArray⟩] 51)) := (by repeat' (first | exact Below.refl _ _ | refine Below.drew ?_ | refine Below.alloc ?_ (by simp <;> omega) _))
            have FR4 : Hid (Frm (· = p) w2 (w5.alloc (.cells #[.int .i64 y.k, .int .i64 y.n, .string ⟨y.t.toArray⟩] 51))) := FRC.out.trans (Frm.of_below fb4)
            have SR4 : Hid (∃ s, Src (w5.alloc (.cells #[.int .i64 y.k, .int .i64 y.n, .string ⟨y.t.toArray⟩] 51)) p S a l c (mm + 1 + 1) s) := ⟨s5, HS5.out.on fb4⟩
            refine hK.out _ _ ?_ (fun hHeld => ?_)
            · (exact CE.out _ (by first | exact FRX.out | exact FR4.out | exact FR3.out | exact FR2.out | exact FR1.out | exact FR0.out))
            clear hK K
            try simp only [Act.put, tkS]
            refine wpAnyH_take (i := 8) (v := ?_) rfl (by kernel_rfl) (by kernel_rfl) (by kernel_rfl) (fun _ _ _ h => h) (Or.inl ⟨by kernel_rfl, ?_⟩) (by assumption) ?_
            rotate_left
            · (intro wS hSw; (try dsimp only at hSw); go_simp <;> with_reducible rfl)
            try simp only [Act.put, tkS]
            refine wpAnyH_ready (rs := [10]) (by kernel_rfl) (by simp) (AllReadyH.cons rfl (fun K hK => ?_) AllReadyH.nil)
            have fbZ := fb4
            have hq : (w5.alloc (.cells #[.int .i64 y.k, .int .i64 y.n, .string ⟨y.t.toArray⟩] 51)).heap[(w2.heap.size)]? = some (.cells #[.string ⟨#[]⟩, .slice none 0 0, .slice none 0 0] 45) := (keepF (b := (w2.heap.size)) (keepF (b := (w2.heap.size)) (show ((w2.alloc (.cells #[.string ⟨#[]⟩, .slice none 0 0, .slice none 0 0] 45)).alloc (.cells #[] 9)).drew.heap[(w2.heap.size)]? = some (.cells #[.string ⟨#[]⟩, .slice none 0 0, .slice none 0 0] 45) from (allocs_at [(.cells #[.string ⟨#[]⟩, .slice none 0 0, .slice none 0 0] 45), (.cells #[] 9)] w2 0 _ rfl)) HF5.out (HNP.out 0)) (Frm.of_below fbZ) (HNP.out 0))
            have h1 : (w5.alloc (.cells #[.int .i64 y.k, .int .i64 y.n, .string ⟨y.t.toArray⟩] 51)).heap[(w5.heap.size)]? = some (.cells #[.int .i64 y.k, .int .i64 y.n, .string ⟨y.t.toArray⟩] 51) := (show (w5.alloc (.cells #[.int .i64 y.k, .int .i64 y.n, .string ⟨y.t.toArray⟩] 51)).heap[(w5.heap.size)]? = some (.cells #[.int .i64 y.k, .int .i64 y.n, .string ⟨y.t.toArray⟩] 51) from allocs_at [(.cells #[.int .i64 y.k, .int .i64 y.n, .string ⟨y.t.toArray⟩] 51)] w5 0 _ rfl)
            have HX : Hid (SX V wa ((((w5.alloc (.cells #[.int .i64 y.k, .int .i64 y.n, .string ⟨y.t.toArray⟩] 51)).setCell ⟨(w2.heap.size), 0, none⟩ (.string ⟨cl.nm.toArray⟩)).setCell ⟨(w2.heap.size), 1, none⟩ (.slice (some ⟨(w5.heap.size), 0, none⟩) 1 1)).setCell ⟨(w2.heap.size), 2, none⟩ (.slice (some ⟨(w2.heap.size + 1), 0, none⟩) 0 0)) p S a l c (mm + 1 + 1) wa.heap.size (w2.heap.size) cl ⟨cl.nm, [y], []⟩ (some ⟨(w5.heap.size), 0, none⟩) 1 (some ⟨(w2.heap.size + 1), 0, none⟩) 0 L (.slice va L.length vc)) := SX.first HD2.out (HW2.out.1.trans FR4.out) SR4.out (keepF HW2.out.2.1 FR4.out (by have := HPW.out; omega)) hq h1 (by have := HW2.out.2.2.2; have := HZ5.out; omega) ⟨by rw [HY.out.1, HKK.out]; exact HCL.out.1, HY.out.2⟩ HCL.out.2
            have FRX : Hid (Frm (· = p) w2 ((((w5.alloc (.cells #[.int .i64 y.k, .int .i64 y.n, .string ⟨y.t.toArray⟩] 51)).setCell ⟨(w2.heap.size), 0, none⟩ (.string ⟨cl.nm.toArray⟩)).setCell ⟨(w2.heap.size), 1, none⟩ (.slice (some ⟨(w5.heap.size), 0, none⟩) 1 1)).setCell ⟨(w2.heap.size), 2, none⟩ (.slice (some ⟨(w2.heap.size + 1), 0, none⟩) 0 0))) := frm_over FR4.out (b := (w2.heap.size)) (by have := HZ5.out; omega) (((frm_set _ _ _ _).trans (frm_set _ _ _ _)).trans (frm_set _ _ _ _))
            have q0 := cell_at (o := 0) hq rfl
            have f0 := frozen_at 0 hq
            have q1 := cell_at (o := 1) hq rfl
            have f1 := frozen_at 1 hq
            have q2 := cell_at (o := 2) hq rfl
            have f2 := frozen_at 2 hq
            clear hq h1 fbZ
            go_simp
            refine hK.out _ _ ?_ (fun hHeld => ?_)
            · (exact CE.out _ (by first | exact FRX.out | exact FR4.out | exact FR3.out | exact FR2.out | exact FR1.out | exact FR0.out))
            clear hK K
            try simp only [Act.put, tkS]
            refine wpAnyH_done (by kernel_rfl) ?_ _
            go_wp2_with fail
            go_meet
            exact ⟨_, _, _, _, _, _, rfl, HX⟩
      obtain ⟨qx, x, va', vc', na', nc', rfl, HX⟩ := hcut
      generalize wc = wb at *
      clear CE AT HW2 HPW HKK
      have hcb := HX.out.cb
      have y1 := cell_at (o := 1) hcb rfl
      clear hcb
      go_upto_if 46 with fail
      clear y1
      go_cut [] from 16 to 64 (fun wx => ∃ (x : SetV) (va' : Option Addr) (vc' : Nat) (na' : Option Addr) (nc' m2 : Nat), Hid (SX V wa wx p S a l c m2 wa.heap.size qx cl x va' vc' na' nc' L (.slice va L.length vc) ∧ m2 ≤ mm + 10))
      case first =>
        by_cases hk4 : cl.k = 4
        case neg =>
          have g1 : (cl.k == 4) = false := by simpa using hk4
          clear hk4
          go_wp2_with fail
          go_meet
          exact ⟨x, va', vc', na', nc', mm + 1 + 1, HX.out, by omega⟩
        have g1 : (cl.k == 4) = true := by simpa using hk4
        clear hk4
        have HX2 := Lib.hid (HX.out.later (below_allocD wb (.cells #[] 51)))
        have hb2 := HX2.out.bx
        have z1 := cell_at (o := 1) hb2 rfl
        have fz1 := frozen_at 1 hb2
        have HX3 : Hid (SX V wa ((wb.alloc (.cells #[] 51)).setCell ⟨qx, 1, none⟩ (.slice (some ⟨wb.heap.size, 0, none⟩) 0 0)) p S a l c (mm + 1 + 1) wa.heap.size qx cl ⟨x.col, [], x.nms⟩ (some ⟨wb.heap.size, 0, none⟩) 0 na' nc' L (.slice va L.length vc)) := HX2.out.put 1 _ (y := ⟨x.col, [], x.nms⟩) (by rw [heap_set 1 _ hb2]; rfl) ⟨_, _, rfl, .inl rfl⟩ HX2.out.rn (fun j hj => by rcases (by omega : j = 0 ∨ j = 1 ∨ j = 2) with rfl | rfl | rfl; exact HX2.out.le 0 (by omega); exact Ls_le.2 ⟨by omega, by simp, fun i hi => absurd hi (by simp)⟩; exact HX2.out.le 2 (by omega))
        clear hb2 HX HX2
        go_wp2_with fail
        clear z1 fz1
        refine (CH.out _ _ HX3.out.src (by have := HMB.out; omega)).mono ?_
        rintro e w6 ⟨b6, s6, rfl, hS, hF⟩
        have HX4 := Lib.hid (HX3.out.draw hF ⟨s6, hS⟩)
        clear hS hF HX3
        cases b6
        case false =>
          go_wp2_with fail
          refine (CH.out _ _ HX4.out.src (by have := HMB.out; omega)).mono ?_
          rintro e w7 ⟨b7, s7, rfl, hS, hF⟩
          have HX5 := Lib.hid (HX4.out.draw hF ⟨s7, hS⟩)
          clear hS hF HX4
          cases b7
          case false =>
            go_wp2_with fail
            go_meet
            exact ⟨_, _, _, _, _, _, HX5.out, by omega⟩
          case true =>
            have DV : Hid (Calls Try.prog 39 #[.pointer (some ⟨p, 0, none⟩), .int .i64 4] w7 (DatumV w7 p S a l c (mm + 1 + 1 + 1 + 1) 4)) := by obtain ⟨s8, hs8⟩ := HX5.out.src; exact srcDatumV (k := 4) hs8 (by have := HMB.out; have := HM.out; have := HR.out.2.1; have := HKM.out; omega) (by omega) (by omega)
            go_wp2_with fail
            refine DV.out.mono ?_
            rintro e w8 ⟨g8, cp8, D8, m8, s8, rfl, hl8, hd8, ha8, hg8, hlt8, hcp8, hm8, hS, hF⟩
            have HX6 := Lib.hid (HX5.out.draw hF ⟨s8, hS⟩)
            have hb2 := HX6.out.bx
            have z1 := cell_at (o := 1) hb2 rfl
            have fz1 := frozen_at 1 hb2
            have HX7 : Hid (SX V wa (w8.setCell ⟨qx, 1, none⟩ (.slice (some ⟨g8, 0, none⟩) D8.length cp8)) p S a l c m8 wa.heap.size qx cl ⟨x.col, D8, x.nms⟩ (some ⟨g8, 0, none⟩) cp8 na' nc' L (.slice va L.length vc)) := HX6.out.put 1 _ (y := ⟨x.col, D8, x.nms⟩) (by rw [heap_set 1 _ hb2]; rfl) ((ats_rd ha8 cp8).mono (fun b hb => by have e8 : b = g8 := hb; have h1 := HX5.out.fr.size; have h2 := HX5.out.ol.1; have h3 := (Array.getElem?_eq_some_iff.1 HX5.out.bx).1; have h4 := HX5.out.ge; have h5 := HX5.out.wle; omega)) HX6.out.rn (fun j hj => by rcases (by omega : j = 0 ∨ j = 1 ∨ j = 2) with rfl | rfl | rfl; exact HX6.out.le 0 (by omega); exact ats_leK (L := D8) (by omega) (fun z hz => ⟨by rw [(hd8.2 z hz).1]; omega, (hd8.2 z hz).2⟩); exact HX6.out.le 2 (by omega))
            have HM8 : Hid (m8 ≤ mm + 10) := by show _ ≤ _; omega
            clear hb2 HX5 HX6 ha8 hd8 hS hF hg8 hlt8 hl8 hcp8 hm8 DV
            go_wp2_with fail
            go_meet
            exact ⟨_, _, _, _, _, _, HX7.out, HM8.out⟩
        case true =>
          have HX5 := Lib.hid (HX4.out.later (below_allocD w6 (.cells #[.string ⟨#[112]⟩, .string ⟨#[113]⟩] 9)))
          have PK : Hid (Calls Try.prog 38 #[.pointer (some ⟨p, 0, none⟩), .slice (some ⟨w6.heap.size, 0, none⟩) 2 2] (w6.alloc (.cells #[.string ⟨#[112]⟩, .string ⟨#[113]⟩] 9)) (PickAns (w6.alloc (.cells #[.string ⟨#[112]⟩, .string ⟨#[113]⟩] 9)) p S a l c (mm + 1 + 1 + 1) pqT)) := by
            obtain ⟨s8, hs8⟩ := HX5.out.src
            have hn := heap_newD w6 (.cells #[.string ⟨#[112]⟩, .string ⟨#[113]⟩] 9)
            refine srcPick hs8 (by have := HMB.out; omega) pqT (· = w6.heap.size) _ 2 (.inr ⟨_, 0, rfl, rfl, fun i hi => ?_⟩) (fun b hb => ?_) (by decide) (by decide)
            · match i, hi with
              | 0, _ => exact cell_at (o := 0) hn rfl
              | 1, _ => exact cell_at (o := 1) hn rfl
            · have h1 := HX4.out.fr.size; have h2 := HX4.out.pl; have e9 : b = w6.heap.size := hb; subst e9; exact ⟨by omega, by simp⟩
          go_wp2_with fail
          refine PK.out.mono ?_
          rintro e w8 ⟨t8, s8, rfl, ht8, hS, hF⟩
          have HX6 := Lib.hid ((HX5.out.draw hF ⟨s8, hS⟩).later (below_allocD w8 (.cells #[.string ⟨t8.toArray⟩] 9)))
          have hb2 := HX6.out.bx
          have z1 := cell_at (o := 2) hb2 rfl
          have fz1 := frozen_at 2 hb2
          have HX7 : Hid (SX V wa ((w8.alloc (.cells #[.string ⟨t8.toArray⟩] 9)).setCell ⟨qx, 2, none⟩ (.slice (some ⟨w8.heap.size, 0, none⟩) 1 1)) p S a l c (mm + 1 + 1 + 1 + 1) wa.heap.size qx cl ⟨x.col, [], [t8]⟩ (some ⟨wb.heap.size, 0, none⟩) 0 (some ⟨w8.heap.size, 0, none⟩) 1 L (.slice va L.length vc)) := HX6.out.put 2 _ (y := ⟨x.col, [], [t8]⟩) (by rw [heap_set 2 _ hb2]; rfl) HX6.out.rv ⟨_, _, rfl, .inr ⟨w8.heap.size, 0, rfl, ⟨⟨by have h1 := HX5.out.wle; have h2 := hF.size; omega, by have h3 := (Array.getElem?_eq_some_iff.1 HX5.out.bx).1; have h2 := hF.size; omega⟩, by simp⟩, by omega, fun i j hi hj => ⟨_, by obtain rfl : i = 0 := (by simpa using hi); obtain rfl : j = 0 := (by omega); exact cell_at (o := 0) (heap_newD w8 (.cells #[.string ⟨t8.toArray⟩] 9)) rfl, by obtain rfl : i = 0 := (by simpa using hi); obtain rfl : j = 0 := (by omega); exact rfl⟩⟩⟩ (fun j hj => by rcases (by omega : j = 0 ∨ j = 1 ∨ j = 2) with rfl | rfl | rfl; exact HX6.out.le 0 (by omega); exact HX6.out.le 1 (by omega); exact Ls_le.2 ⟨by omega, by simp, fun i hi j hj => by obtain rfl : i = 0 := (by simpa using hi); obtain rfl : j = 0 := (by omega); show t8.length ≤ 1048576; simp only [pqT, List.mem_cons, List.not_mem_nil, or_false] at ht8; rcases ht8 with rfl | rfl <;> simp⟩)
          clear hb2 HX4 HX5 HX6 ht8 hS hF PK
          go_wp2_with fail
          go_meet
          exact ⟨_, _, _, _, _, _, HX7.out, by omega⟩
      obtain ⟨x2, va2, vc2, na2, nc2, m2, HY⟩ := hcut
      generalize wc = wd at *
      have hb2 := HY.out.1.bx
      have y0 := cell_at (o := 0) hb2 rfl
      have y1 := cell_at (o := 1) hb2 rfl
      have y2 := cell_at (o := 2) hb2 rfl
      obtain ⟨a9, c9, w9, hr, hdl⟩ := HY.out.1.push (by have := HR.out.2.2.1; have := HPT.out.1; omega)
      have HRUN := Lib.hid hr
      have HDL : Hid (DL V w9 p S a l c m2 45 3 (lsF dSet (L ++ [x2])) (L ++ [x2]).length (.slice a9 (L ++ [x2]).length c9)) := by have := hdl; rw [List.length_append]; exact this
      clear hb2 hr hdl
      go_wp2_with (at_builtin; go_must (refine wpList_append_is rfl (.tmp 61) (.tmp 63) 37 rfl _ _ rfl rfl _ _ HRUN.out ?_))
      go_roundg (tb.cols.length - (k + 1))
      case measure => have := HKG.out; omega
      case rel => exact ⟨k + 1, m2, L ++ [x2], a9, c9, by have := HKG.out; omega, by go_num, by rw [List.length_append]; rfl, HDL.out, by have := HR.out.2.1; have := HY.out.2; omega, by have := HR.out.2.2.1; rw [List.length_append]; simp; omega, fun z hz => by rcases List.mem_append.1 hz with h1 | h1; exact HR.out.2.2.2 z h1; rw [List.mem_singleton.1 h1]; exact HY.out.1.le⟩
#print axioms srcSets
end Go.Proofs.Ytajhjjpanjpfoaa
