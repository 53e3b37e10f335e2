import Derived.Test.YtkjfefjkelckiaaZal
import Derived.Test.YtkjfefjkelckiaaZbg
import Derived.Test.YtkjfefjkelckiaaZbi
import Derived.Test.YtkjfefjkelckiaaZaz
import Derived.Test.YtkjfefjkelckiaaZbd
import Derived.Test.YtkjfefjkelckiaaZao
import Derived.Test.YtkjfefjkelckiaaZTk
namespace Go.Proofs.Ytkjfefjkelckiaa
open Go.RowKit
set_option linter.unusedSimpArgs false
noncomputable def frC (t : Tb) (id : Int) : Int := if tabB t = true then (if inB 1 id 1000000 = true then 0 else 4) else 1
noncomputable def frR (t : Tb) (id : Int) : RowV := if tabB t = true ∧ inB 1 id 1000000 = true then ⟨id, t.cols.map dfL⟩ else rowZ
theorem fr_bad {t : Tb} {id : Int} (h : tabB t = false) : frR t id = rowZ ∧ frC t id = 1 := by unfold frR frC; simp [h]
theorem fr_rng {t : Tb} {id : Int} (h : tabB t = true) (h2 : inB 1 id 1000000 = false) : frR t id = rowZ ∧ frC t id = 4 := by unfold frR frC; simp [h, h2]
theorem fr_ok {t : Tb} {id : Int} (h : tabB t = true) (h2 : inB 1 id 1000000 = true) : frR t id = ⟨id, t.cols.map dfL⟩ ∧ frC t id = 0 := by unfold frR frC; simp [h, h2]
theorem tab_of {t : Tb} (h : tabB t = true) : TabP t := by unfold tabB at h; exact @of_decide_eq_true _ (Classical.propDecidable _) h
structure MB2 (w W : World) (tc zc : Array Value) : Prop where
  tb : W.heap[w.heap.size]? = some (.cells tc 55)
  zr : W.heap[w.heap.size + 1]? = some (.cells zc 50)
  bel : Below w.heap.size w W
theorem MB2.later {w W W' : World} {tc zc : Array Value} (h : MB2 w W tc zc) (hB : Below W.heap.size W W') : MB2 w W' tc zc := ⟨heap_keptD h.tb hB, heap_keptD h.zr hB, h.bel.trans (hB.mono h.bel.size)⟩
theorem mb2 (w : World) (tc zc : Array Value) : MB2 w ((w.alloc (.cells tc 55)).alloc (.cells zc 50)) tc zc := by
  have h := heap_newD (w.alloc (.cells tc 55)) (.cells zc 50)
  rw [size_allocD] at h
  exact ⟨heap_keptD (heap_newD _ _) (below_allocD _ _), h, ((Below.refl _ _).alloc (Nat.le_refl _) _).alloc (by simp) _⟩
theorem dfF {l : List Cl} {k : Nat} (h : k < l.length) : lsF cAtomS (l.map dfL) k = cAtomS (dfL l[k]) := by rw [lsF_at (by simpa using h)]; simp
set_option maxRecDepth 100000 in
set_option maxHeartbeats 12800000 in
theorem freshS (t : Tb) (ca : Option Addr) (cc : Nat) (ua : Option Addr) (uc : Nat) (A : Nat → Prop) (id : Int) (w : World) (hto : t.ok) (h6 : t.cols.length ≤ 6) (hT : t.Has w A ca ua) :
    Calls Try.prog 67 #[.agg #[.string ⟨t.nm.toArray⟩, .slice ca t.cols.length cc, .slice ua t.uq.length uc, .bool t.rt], .int .i64 id] w fun e w' => ∃ ra rc, e = .returned (.agg #[.int .i64 id, .slice ra (t.cols.map dfL).length rc]) ∧ Rd w' (fun b => w.heap.size ≤ b ∧ b < w'.heap.size) (dAtomSS (t.cols.map dfL)) (.slice ra (t.cols.map dfL).length rc) ∧ Below w.heap.size w w' := by
  obtain ⟨iA, hiA⟩ := infoAs
  have HIA := Lib.hid hiA
  have HT : Hid (t.ok ∧ ∀ W, Below w.heap.size w W → t.Has W A ca ua) := ⟨hto, fun W h => hT.later h⟩
  have H0 : Hid (GQ w ((((w.alloc (.cells #[.string ⟨t.nm.toArray⟩, .slice ca t.cols.length cc, .slice ua t.uq.length uc, .bool t.rt] 55)).alloc (.cells #[.int .i64 0, .slice none 0 0] 50)).alloc (.cells #[] 74)).alloc (.cells #[.int .i64 id, .slice (some ⟨w.heap.size + 1 + 1, 0, none⟩) 0 0] 50)) [.cells #[.string ⟨t.nm.toArray⟩, .slice ca t.cols.length cc, .slice ua t.uq.length uc, .bool t.rt] 55, .cells #[.int .i64 0, .slice none 0 0] 50] (w.heap.size + 1 + 1) 50 (fun v => #[.int .i64 id, v]) 74 1 (lsF cAtomS (t.cols.map dfL)) 0 (.slice (some ⟨w.heap.size + 1 + 1, 0, none⟩) 0 0)) := GQ.first w [.cells #[.string ⟨t.nm.toArray⟩, .slice ca t.cols.length cc, .slice ua t.uq.length uc, .bool t.rt] 55, .cells #[.int .i64 0, .slice none 0 0] 50] (w.heap.size + 1 + 1) rfl 50 (fun v => #[.int .i64 id, v]) 74 1 (lsF cAtomS (t.cols.map dfL))
  have HL := Lib.hid h6
  clear hiA hT hto
  go_enter Try.func67, Try.ntmps67
  go_wp2_with fail
  go_loopw [6] (fun i wr => ∃ k : Nat, k ≤ t.cols.length ∧ i = .int .i64 k ∧ Hid (∃ va vc, GQ w wr [.cells #[.string ⟨t.nm.toArray⟩, .slice ca t.cols.length cc, .slice ua t.uq.length uc, .bool t.rt] 55, .cells #[.int .i64 0, .slice none 0 0] 50] (w.heap.size + 1 + 1) 50 (fun v => #[.int .i64 id, v]) 74 1 (lsF cAtomS (t.cols.map dfL)) k (.slice va k vc))) (fun i _ => t.cols.length - (intOf i).toNat)
  case atStart => exact ⟨0, Nat.zero_le _, rfl, _, _, H0.out⟩
  case round =>
    obtain ⟨k, hk, rfl, HW⟩ := hrel
    obtain ⟨va, vc, hN⟩ := HW.out
    have HN := Lib.hid hN
    clear HW
    have hbx : wr.heap[w.heap.size]? = some (.cells #[.string ⟨t.nm.toArray⟩, .slice ca t.cols.length cc, .slice ua t.uq.length uc, .bool t.rt] 55) := hN.bx 0 _ rfl
    have b1 := cell_at (o := 1) hbx rfl
    have t0 := cell_at (o := 0) hN.ot rfl
    have t1 := cell_at (o := 1) hN.ot rfl
    by_cases hlt : k < t.cols.length
    case neg =>
      have hkd : decide ((k : Int) < (t.cols.length : Int)) = false := by simp; omega
      have hkm : k = t.cols.length := by omega
      have HKM := Lib.hid hkm
      have hrv : wr.heap[w.heap.size + 1]? = some (.cells #[.int .i64 0, .slice none 0 0] 50) := hN.bx 1 _ rfl
      have r0 := cell_at (o := 0) hrv rfl
      have r1 := cell_at (o := 1) hrv rfl
      have g0 := frozen_at 0 hrv
      have g1 := frozen_at 1 hrv
      clear hN hkm hbx hrv
      go_wp2_with fail
      refine bodyPost_ret (v := .agg #[.int .i64 id, .slice va k vc]) (by simp [results, Try.results67, go_sem, *]) rfl ?_
      have hkm := HKM.out
      subst hkm
      have hfr : Frm (· = w.heap.size + 1) wr ((wr.setCell ⟨w.heap.size + 1, 0, none⟩ (.int .i64 id)).setCell ⟨w.heap.size + 1, 1, none⟩ (.slice va t.cols.length vc)) := (frm_set _ _ _ _).trans (frm_set _ _ _ _)
      refine ⟨va, vc, by rw [List.length_map], ?_, (HN.out.bel.setCell (by simp <;> omega) _).setCell (by simp <;> omega) _⟩
      have hr := HN.out.rd (by omega)
      have hr2 := (hr.frm hfr (fun b hb e => by have h1 := hb.1.1; have e' : b = w.heap.size + 1 := e; omega)).mono (B' := fun b => w.heap.size ≤ b ∧ b < ((wr.setCell ⟨w.heap.size + 1, 0, none⟩ (.int .i64 id)).setCell ⟨w.heap.size + 1, 1, none⟩ (.slice va t.cols.length vc)).heap.size) (fun b hb => ⟨by have := hb.1.1; omega, by simpa using hb.2⟩)
      unfold dAtomSS Ls
      rw [List.length_map]
      exact hr2
    have hki : (k : Int) < (t.cols.length : Int) := by omega
    obtain ⟨b, off, hca, -, -⟩ := (HT.out.2 _ hN.bel).1.at k hlt
    subst hca
    have CE : Hid (∀ W, (Below w.heap.size w W ∧ W.heap[w.heap.size]? = some (.cells #[.string ⟨t.nm.toArray⟩, .slice (some ⟨b, off, none⟩) t.cols.length cc, .slice ua t.uq.length uc, .bool t.rt] 55)) → W.cell? ⟨w.heap.size, 1, none⟩ = some (.slice (some ⟨b, off, none⟩) t.cols.length cc) ∧ W.cell? ⟨b, off + k * 8, none⟩ = some (.string ⟨t.cols[k].nm.toArray⟩) ∧ W.cell? ⟨b, off + k * 8 + 1, none⟩ = some (.int .i64 t.cols[k].k) ∧ W.cell? ⟨b, off + k * 8 + 2, none⟩ = some (.int .i64 t.cols[k].mn) ∧ W.cell? ⟨b, off + k * 8 + 3, none⟩ = some (.int .i64 t.cols[k].mx) ∧ W.cell? ⟨b, off + k * 8 + 4, none⟩ = some (.int .i64 t.cols[k].lo) ∧ W.cell? ⟨b, off + k * 8 + 5, none⟩ = some (.int .i64 t.cols[k].hi) ∧ W.cell? ⟨b, off + k * 8 + 6, none⟩ = some (.string ⟨t.cols[k].rf.toArray⟩) ∧ W.cell? ⟨b, off + k * 8 + 7, none⟩ = some (.bool t.cols[k].st)) := fun W h => by
      obtain ⟨b2, off2, e2, -, hc2⟩ := (HT.out.2 W h.1).1.at k hlt
      simp only [Option.some.injEq, Addr.mk.injEq, and_true] at e2
      obtain ⟨rfl, rfl⟩ := e2
      exact ⟨cell_at (o := 1) h.2 rfl, hc2 k hlt⟩
    have BW0 : Hid (Below w.heap.size w wr.drew ∧ wr.drew.heap[w.heap.size]? = some (.cells #[.string ⟨t.nm.toArray⟩, .slice (some ⟨b, off, none⟩) t.cols.length cc, .slice ua t.uq.length uc, .bool t.rt] 55)) := ⟨hN.bel.drew, hbx⟩
    have PU : Hid (∀ (V : World) (a8 : Option Addr) (c8 : Nat), Below wr.heap.size wr V → OwnAts V (fun b => wr.heap.size ≤ b ∧ b < V.heap.size) a8 (dfL t.cols[k]) → ∃ a' c' W4, (Builtin.append_ #[48, 48] 48 #[.slice va k vc, .slice (some ⟨V.heap.size, 0, none⟩) 1 1]).run Try.prog (V.alloc (.cells #[.slice a8 (dfL t.cols[k]).length c8] 74)) = .ok (.slice a' (k + 1) c') W4 ∧ GQ w (W4.setCell ⟨w.heap.size + 1 + 1 + 1, 1, none⟩ (.slice a' (k + 1) c')) [.cells #[.string ⟨t.nm.toArray⟩, .slice (some ⟨b, off, none⟩) t.cols.length cc, .slice ua t.uq.length uc, .bool t.rt] 55, .cells #[.int .i64 0, .slice none 0 0] 50] (w.heap.size + 1 + 1) 50 (fun v => #[.int .i64 id, v]) 74 1 (lsF cAtomS (t.cols.map dfL)) (k + 1) (.slice a' (k + 1) c') ∧ W4.heap[w.heap.size + 1 + 1 + 1]? = some (.cells #[.int .i64 id, .slice va k vc] 50) ∧ (Below w.heap.size w W4 ∧ W4.heap[w.heap.size]? = some (.cells #[.string ⟨t.nm.toArray⟩, .slice (some ⟨b, off, none⟩) t.cols.length cc, .slice ua t.uq.length uc, .bool t.rt] 55))) := fun V a8 c8 hB ho => by
      obtain ⟨a', c', W4, h1, h2, h3, h4, h5⟩ := HN.out.push (P := Try.prog) 48 48 iA (.slice none 0 0) 24 Try.underlying48 HIA.out.1 HIA.out.2.1 HIA.out.2.2.1 HIA.out.2.2.2 rfl 1 (fun _ => rfl) hB (.slice a8 (dfL t.cols[k]).length c8) rfl (by have := HL.out; unfold maxLen; omega) (by have := HL.out; omega) (by rw [dfF hlt]; exact (ho.own c8).rd')
      exact ⟨a', c', W4, h1, h2, h3, h5, h4 0 _ rfl⟩
    have DF : Hid (∀ W, Calls Try.prog 107 #[.agg #[.string ⟨t.cols[k].nm.toArray⟩, .int .i64 t.cols[k].k, .int .i64 t.cols[k].mn, .int .i64 t.cols[k].mx, .int .i64 t.cols[k].lo, .int .i64 t.cols[k].hi, .string ⟨t.cols[k].rf.toArray⟩, .bool t.cols[k].st]] W (AAns W (dfL t.cols[k]))) := fun W => defaultS t.cols[k] W
    have KB : Hid (∀ V, Below wr.heap.size wr V → (Below w.heap.size w V ∧ V.heap[w.heap.size]? = some (.cells #[.string ⟨t.nm.toArray⟩, .slice (some ⟨b, off, none⟩) t.cols.length cc, .slice ua t.uq.length uc, .bool t.rt] 55)) ∧ V.cell? ⟨w.heap.size + 1 + 1 + 1, 1, none⟩ = some (.slice va k vc)) := fun V hB => ⟨⟨hN.bel.trans (hB.mono hN.bel.size), heap_keptD hbx hB⟩, cell_at (o := 1) (heap_keptD hN.ot hB) rfl⟩
    have HN2 := Lib.hid hN
    clear hN hbx
    generalize t.cols[k] = x at *
    go_wp2_with fail
    have p0 := (KB.out _ (Below.refl _ _).drew).2
    refine wp_region_held_drew (S := (fun W => W.cell? ⟨w.heap.size, 1, none⟩ = some (.slice (some ⟨b, off, none⟩) t.cols.length cc) ∧ W.cell? ⟨b, off + k * 8, none⟩ = some (.string ⟨x.nm.toArray⟩) ∧ W.cell? ⟨b, off + k * 8 + 1, none⟩ = some (.int .i64 x.k) ∧ W.cell? ⟨b, off + k * 8 + 2, none⟩ = some (.int .i64 x.mn) ∧ W.cell? ⟨b, off + k * 8 + 3, none⟩ = some (.int .i64 x.mx) ∧ W.cell? ⟨b, off + k * 8 + 4, none⟩ = some (.int .i64 x.lo) ∧ W.cell? ⟨b, off + k * 8 + 5, none⟩ = some (.int .i64 x.hi) ∧ W.cell? ⟨b, off + k * 8 + 6, none⟩ = some (.string ⟨x.rf.toArray⟩) ∧ W.cell? ⟨b, off + k * 8 + 7, none⟩ = some (.bool x.st))) (by kernel_rfl) ?_ (fun hHeld => ?_)
    · (exact CE.out _ (by first | exact BW0.out | exact BW1.out | exact BW3.out | exact BW4.out | exact BW5.out))
    refine wpAnyH_take (i := 0) (v := ?_) rfl (by kernel_rfl) (by kernel_rfl) (by kernel_rfl) (fun _ _ _ h => h) (Or.inl ⟨by kernel_rfl, ?_⟩) (by assumption) ?_
    rotate_left
    · (intro wS hSw; (try dsimp only at hSw); go_simp <;> with_reducible rfl)
    try simp only [Act.put, tkS]
    refine wpAnyH_take (i := 2) (v := ?_) rfl (by kernel_rfl) (by kernel_rfl) (by kernel_rfl) (fun _ _ _ h => h) (Or.inl ⟨by kernel_rfl, ?_⟩) (by assumption) ?_
    rotate_left
    · (intro wS hSw; (try dsimp only at hSw); go_simp <;> with_reducible rfl)
    try simp only [Act.put, tkS]
    refine wpAnyH_take (i := 3) (v := ?_) rfl (by kernel_rfl) (by kernel_rfl) (by kernel_rfl) (fun _ _ _ h => h) (Or.inl ⟨by kernel_rfl, ?_⟩) (by assumption) ?_
    rotate_left
    · (intro wS hSw; (try dsimp only at hSw); go_simp <;> with_reducible rfl)
    try simp only [Act.put, tkS]
    refine wpAnyH_take (i := 4) (v := ?_) rfl (by kernel_rfl) (by kernel_rfl) (by kernel_rfl) (fun _ _ _ h => h) (Or.inl ⟨by kernel_rfl, ?_⟩) (by assumption) ?_
    rotate_left
    · (intro wS hSw; (try dsimp only at hSw); go_simp <;> with_reducible rfl)
    try simp only [Act.put, tkS]
    refine wpAnyH_take (i := 5) (v := ?_) rfl (by kernel_rfl) (by kernel_rfl) (by kernel_rfl) (fun _ _ _ h => h) (Or.inl ⟨by kernel_rfl, ?_⟩) (by assumption) ?_
    rotate_left
    · (intro wS hSw; (try dsimp only at hSw); go_simp <;> with_reducible rfl)
    try simp only [Act.put, tkS]
    refine wpAnyH_take (i := 6) (v := ?_) rfl (by kernel_rfl) (by kernel_rfl) (by kernel_rfl) (fun _ _ _ h => h) (Or.inl ⟨by kernel_rfl, ?_⟩) (by assumption) ?_
    rotate_left
    · (intro wS hSw; (try dsimp only at hSw); go_simp <;> with_reducible rfl)
    try simp only [Act.put, tkS]
    refine wpAnyH_ready (rs := [1, 7]) (by kernel_rfl) (by simp) (AllReadyH.cons rfl (fun K hK => ?_) (AllReadyH.cons rfl (fun K hK => ?_) AllReadyH.nil))
    ·
      go_simp
      refine hK.out _ _ ?_ (fun hHeld => ?_)
      · (exact CE.out _ (by first | exact BW0.out | exact BW1.out | exact BW3.out | exact BW4.out | exact BW5.out))
      clear hK K
      try simp only [Act.put, tkS]
      refine wpAnyH_ready (rs := [7]) (by kernel_rfl) (by simp) (AllReadyH.cons rfl (fun K hK => ?_) AllReadyH.nil)
      go_simp
      go_at_call 107
      refine (DF.out _).mono ?_
      rintro e w1 ⟨a8, c8, rfl, ho, hB⟩
      have bW1 : Below wr.heap.size wr w1 := (Below.refl _ _).drew.trans hB
      have BW1 : Hid (Below w.heap.size w w1 ∧ w1.heap[w.heap.size]? = some (.cells #[.string ⟨t.nm.toArray⟩, .slice (some ⟨b, off, none⟩) t.cols.length cc, .slice ua t.uq.length uc, .bool t.rt] 55)) := (KB.out _ bW1).1
      have BW3 : Hid (Below w.heap.size w (w1.alloc (.cells #[.slice a8 (dfL x).length c8] 74)) ∧ (w1.alloc (.cells #[.slice a8 (dfL x).length c8] 74)).heap[w.heap.size]? = some (.cells #[.string ⟨t.nm.toArray⟩, .slice (some ⟨b, off, none⟩) t.cols.length cc, .slice ua t.uq.length uc, .bool t.rt] 55)) := (KB.out _ (bW1.alloc bW1.size _)).1
      have p1 := (KB.out _ bW1).2
      have p3 := (KB.out _ (bW1.alloc bW1.size (.cells #[.slice a8 (dfL x).length c8] 74))).2
      obtain ⟨a', c', W4, hr9, hst, o4, hk4⟩ := PU.out w1 a8 c8 bW1 (ho.same (fun _ _ => rfl) (fun _ hb => hb))
      have RUN9 := Lib.hid hr9
      have HST := Lib.hid hst
      have BW4 : Hid (Below w.heap.size w W4 ∧ W4.heap[w.heap.size]? = some (.cells #[.string ⟨t.nm.toArray⟩, .slice (some ⟨b, off, none⟩) t.cols.length cc, .slice ua t.uq.length uc, .bool t.rt] 55)) := hk4
      have BW5 : Hid (Below w.heap.size w (W4.setCell ⟨w.heap.size + 1 + 1 + 1, 1, none⟩ (.slice a' (k + 1) c')) ∧ (W4.setCell ⟨w.heap.size + 1 + 1 + 1, 1, none⟩ (.slice a' (k + 1) c')).heap[w.heap.size]? = some (.cells #[.string ⟨t.nm.toArray⟩, .slice (some ⟨b, off, none⟩) t.cols.length cc, .slice ua t.uq.length uc, .bool t.rt] 55)) := ⟨hst.bel, hst.bx 0 _ rfl⟩
      have t4 := cell_at (o := 1) o4 rfl
      have z4 := frozen_at 1 o4
      clear hr9 hst o4 hk4 ho hB bW1
      refine hK.out _ _ ?_ (fun hHeld => ?_)
      · (exact CE.out _ (by first | exact BW0.out | exact BW1.out | exact BW3.out | exact BW4.out | exact BW5.out))
      clear hK K
      try simp only [Act.put, tkS]
      refine wpAnyH_ready (rs := [8]) (by kernel_rfl) (by simp) (AllReadyH.cons rfl (fun K hK => ?_) AllReadyH.nil)
      go_simp
      refine hK.out _ _ ?_ (fun hHeld => ?_)
      · (exact CE.out _ (by first | exact BW0.out | exact BW1.out | exact BW3.out | exact BW4.out | exact BW5.out))
      clear hK K
      try simp only [Act.put, tkS]
      refine wpAnyH_ready (rs := [9]) (by kernel_rfl) (by simp) (AllReadyH.cons rfl (fun K hK => ?_) AllReadyH.nil)
      refine step_append_is rfl (.tmp 18) (.tmp 25) 48 rfl _ _ (by rfl) (by rfl) _ _ RUN9.out ?_
      refine hK.out _ _ ?_ (fun hHeld => ?_)
      · (exact CE.out _ (by first | exact BW0.out | exact BW1.out | exact BW3.out | exact BW4.out | exact BW5.out))
      clear hK K
      try simp only [Act.put, tkS]
      refine wpAnyH_take (i := 10) (v := ?_) rfl (by kernel_rfl) (by kernel_rfl) (by kernel_rfl) (fun _ _ _ h => h) (Or.inl ⟨by kernel_rfl, ?_⟩) (by assumption) ?_
      rotate_left
      · (intro wS hSw; (try dsimp only at hSw); go_simp <;> with_reducible rfl)
      try simp only [Act.put, tkS]
      refine wpAnyH_ready (rs := [11]) (by kernel_rfl) (by simp) (AllReadyH.cons rfl (fun K hK => ?_) AllReadyH.nil)
      go_simp
      refine hK.out _ _ ?_ (fun hHeld => ?_)
      · (exact CE.out _ (by first | exact BW0.out | exact BW1.out | exact BW3.out | exact BW4.out | exact BW5.out))
      clear hK K
      try simp only [Act.put, tkS]
      refine wpAnyH_done (by kernel_rfl) ?_ _
      go_wp2_with fail
      go_roundw
      case rel => exact ⟨k + 1, by omega, by go_num, a', c', HST.out⟩
      case measure => simp [intOf]; omega
    ·
      go_simp
      go_at_call 107
      refine (DF.out _).mono ?_
      rintro e w1 ⟨a8, c8, rfl, ho, hB⟩
      have bW1 : Below wr.heap.size wr w1 := (Below.refl _ _).drew.trans hB
      have BW1 : Hid (Below w.heap.size w w1 ∧ w1.heap[w.heap.size]? = some (.cells #[.string ⟨t.nm.toArray⟩, .slice (some ⟨b, off, none⟩) t.cols.length cc, .slice ua t.uq.length uc, .bool t.rt] 55)) := (KB.out _ bW1).1
      have BW3 : Hid (Below w.heap.size w (w1.alloc (.cells #[.slice a8 (dfL x).length c8] 74)) ∧ (w1.alloc (.cells #[.slice a8 (dfL x).length c8] 74)).heap[w.heap.size]? = some (.cells #[.string ⟨t.nm.toArray⟩, .slice (some ⟨b, off, none⟩) t.cols.length cc, .slice ua t.uq.length uc, .bool t.rt] 55)) := (KB.out _ (bW1.alloc bW1.size _)).1
      have p1 := (KB.out _ bW1).2
      have p3 := (KB.out _ (bW1.alloc bW1.size (.cells #[.slice a8 (dfL x).length c8] 74))).2
      obtain ⟨a', c', W4, hr9, hst, o4, hk4⟩ := PU.out w1 a8 c8 bW1 (ho.same (fun _ _ => rfl) (fun _ hb => hb))
      have RUN9 := Lib.hid hr9
      have HST := Lib.hid hst
      have BW4 : Hid (Below w.heap.size w W4 ∧ W4.heap[w.heap.size]? = some (.cells #[.string ⟨t.nm.toArray⟩, .slice (some ⟨b, off, none⟩) t.cols.length cc, .slice ua t.uq.length uc, .bool t.rt] 55)) := hk4
      have BW5 : Hid (Below w.heap.size w (W4.setCell ⟨w.heap.size + 1 + 1 + 1, 1, none⟩ (.slice a' (k + 1) c')) ∧ (W4.setCell ⟨w.heap.size + 1 + 1 + 1, 1, none⟩ (.slice a' (k + 1) c')).heap[w.heap.size]? = some (.cells #[.string ⟨t.nm.toArray⟩, .slice (some ⟨b, off, none⟩) t.cols.length cc, .slice ua t.uq.length uc, .bool t.rt] 55)) := ⟨hst.bel, hst.bx 0 _ rfl⟩
      have t4 := cell_at (o := 1) o4 rfl
      have z4 := frozen_at 1 o4
      clear hr9 hst o4 hk4 ho hB bW1
      refine hK.out _ _ ?_ (fun hHeld => ?_)
      · (exact CE.out _ (by first | exact BW0.out | exact BW1.out | exact BW3.out | exact BW4.out | exact BW5.out))
      clear hK K
      try simp only [Act.put, tkS]
      refine wpAnyH_ready (rs := [1, 8]) (by kernel_rfl) (by simp) (AllReadyH.cons rfl (fun K hK => ?_) (AllReadyH.cons rfl (fun K hK => ?_) AllReadyH.nil))
      ·
        go_simp
        refine hK.out _ _ ?_ (fun hHeld => ?_)
        · (exact CE.out _ (by first | exact BW0.out | exact BW1.out | exact BW3.out | exact BW4.out | exact BW5.out))
        clear hK K
        try simp only [Act.put, tkS]
        refine wpAnyH_ready (rs := [8]) (by kernel_rfl) (by simp) (AllReadyH.cons rfl (fun K hK => ?_) AllReadyH.nil)
        go_simp
        refine hK.out _ _ ?_ (fun hHeld => ?_)
        · (exact CE.out _ (by first | exact BW0.out | exact BW1.out | exact BW3.out | exact BW4.out | exact BW5.out))
        clear hK K
        try simp only [Act.put, tkS]
        refine wpAnyH_ready (rs := [9]) (by kernel_rfl) (by simp) (AllReadyH.cons rfl (fun K hK => ?_) AllReadyH.nil)
        refine step_append_is rfl (.tmp 18) (.tmp 25) 48 rfl _ _ (by rfl) (by rfl) _ _ RUN9.out ?_
        refine hK.out _ _ ?_ (fun hHeld => ?_)
        · (exact CE.out _ (by first | exact BW0.out | exact BW1.out | exact BW3.out | exact BW4.out | exact BW5.out))
        clear hK K
        try simp only [Act.put, tkS]
        refine wpAnyH_take (i := 10) (v := ?_) rfl (by kernel_rfl) (by kernel_rfl) (by kernel_rfl) (fun _ _ _ h => h) (Or.inl ⟨by kernel_rfl, ?_⟩) (by assumption) ?_
        rotate_left
        · (intro wS hSw; (try dsimp only at hSw); go_simp <;> with_reducible rfl)
        try simp only [Act.put, tkS]
        refine wpAnyH_ready (rs := [11]) (by kernel_rfl) (by simp) (AllReadyH.cons rfl (fun K hK => ?_) AllReadyH.nil)
        go_simp
        refine hK.out _ _ ?_ (fun hHeld => ?_)
        · (exact CE.out _ (by first | exact BW0.out | exact BW1.out | exact BW3.out | exact BW4.out | exact BW5.out))
        clear hK K
        try simp only [Act.put, tkS]
        refine wpAnyH_done (by kernel_rfl) ?_ _
        go_wp2_with fail
        go_roundw
        case rel => exact ⟨k + 1, by omega, by go_num, a', c', HST.out⟩
        case measure => simp [intOf]; omega
      ·
        go_simp
        refine hK.out _ _ ?_ (fun hHeld => ?_)
        · (exact CE.out _ (by first | exact BW0.out | exact BW1.out | exact BW3.out | exact BW4.out | exact BW5.out))
        clear hK K
        try simp only [Act.put, tkS]
        refine wpAnyH_ready (rs := [1]) (by kernel_rfl) (by simp) (AllReadyH.cons rfl (fun K hK => ?_) AllReadyH.nil)
        go_simp
        refine hK.out _ _ ?_ (fun hHeld => ?_)
        · (exact CE.out _ (by first | exact BW0.out | exact BW1.out | exact BW3.out | exact BW4.out | exact BW5.out))
        clear hK K
        try simp only [Act.put, tkS]
        refine wpAnyH_ready (rs := [9]) (by kernel_rfl) (by simp) (AllReadyH.cons rfl (fun K hK => ?_) AllReadyH.nil)
        refine step_append_is rfl (.tmp 18) (.tmp 25) 48 rfl _ _ (by rfl) (by rfl) _ _ RUN9.out ?_
        refine hK.out _ _ ?_ (fun hHeld => ?_)
        · (exact CE.out _ (by first | exact BW0.out | exact BW1.out | exact BW3.out | exact BW4.out | exact BW5.out))
        clear hK K
        try simp only [Act.put, tkS]
        refine wpAnyH_take (i := 10) (v := ?_) rfl (by kernel_rfl) (by kernel_rfl) (by kernel_rfl) (fun _ _ _ h => h) (Or.inl ⟨by kernel_rfl, ?_⟩) (by assumption) ?_
        rotate_left
        · (intro wS hSw; (try dsimp only at hSw); go_simp <;> with_reducible rfl)
        try simp only [Act.put, tkS]
        refine wpAnyH_ready (rs := [11]) (by kernel_rfl) (by simp) (AllReadyH.cons rfl (fun K hK => ?_) AllReadyH.nil)
        go_simp
        refine hK.out _ _ ?_ (fun hHeld => ?_)
        · (exact CE.out _ (by first | exact BW0.out | exact BW1.out | exact BW3.out | exact BW4.out | exact BW5.out))
        clear hK K
        try simp only [Act.put, tkS]
        refine wpAnyH_done (by kernel_rfl) ?_ _
        go_wp2_with fail
        go_roundw
        case rel => exact ⟨k + 1, by omega, by go_num, a', c', HST.out⟩
        case measure => simp [intOf]; omega
set_option maxRecDepth 100000 in
set_option maxHeartbeats 6400000 in
theorem freshRowS (t : Tb) (ca : Option Addr) (cc : Nat) (ua : Option Addr) (uc : Nat) (A : Nat → Prop) (id : Int) (w : World) (hto : t.ok) (hT : t.Has w A ca ua) :
    Calls Try.prog 26 #[.agg #[.string ⟨t.nm.toArray⟩, .slice ca t.cols.length cc, .slice ua t.uq.length uc, .bool t.rt], .int .i64 id] w (RowAns w (frR t id) (frC t id)) := by
  have TA : Hid (∀ W, MB2 w W #[.string ⟨t.nm.toArray⟩, .slice ca t.cols.length cc, .slice ua t.uq.length uc, .bool t.rt] #[.int .i64 0, .slice none 0 0] → Calls Try.prog 66 #[.agg #[.string ⟨t.nm.toArray⟩, .slice ca t.cols.length cc, .slice ua t.uq.length uc, .bool t.rt]] W fun e w' => e = .returned (.bool (tabB t)) ∧ MB2 w w' #[.string ⟨t.nm.toArray⟩, .slice ca t.cols.length cc, .slice ua t.uq.length uc, .bool t.rt] #[.int .i64 0, .slice none 0 0]) := fun W h => (tableS t ca cc ua uc A W hto (hT.later h.bel)).mono (fun e w' ⟨he, hB⟩ => ⟨he, h.later hB⟩)
  have IN : Hid (∀ W, Calls Try.prog 31 #[.int .i64 id, .int .i64 1, .int .i64 1000000] W fun e w' => e = .returned (.bool (inB 1 id 1000000)) ∧ w' = W) := fun W => inS id 1 1000000 W
  have FR : Hid (t.cols.length ≤ 6 → ∀ W, MB2 w W #[.string ⟨t.nm.toArray⟩, .slice ca t.cols.length cc, .slice ua t.uq.length uc, .bool t.rt] #[.int .i64 0, .slice none 0 0] → Calls Try.prog 67 #[.agg #[.string ⟨t.nm.toArray⟩, .slice ca t.cols.length cc, .slice ua t.uq.length uc, .bool t.rt], .int .i64 id] W fun e w' => ∃ ra rc, e = .returned (.agg #[.int .i64 id, .slice ra (t.cols.map dfL).length rc]) ∧ Rd w' (fun b => W.heap.size ≤ b ∧ b < w'.heap.size) (dAtomSS (t.cols.map dfL)) (.slice ra (t.cols.map dfL).length rc) ∧ Below W.heap.size W w') := fun h6 W h => freshS t ca cc ua uc A id W hto h6 (hT.later h.bel)
  have hb := mb2 w #[.string ⟨t.nm.toArray⟩, .slice ca t.cols.length cc, .slice ua t.uq.length uc, .bool t.rt] #[.int .i64 0, .slice none 0 0]
  have HB := Lib.hid hb
  have x0 := cell_at (o := 0) hb.tb rfl
  have x1 := cell_at (o := 1) hb.tb rfl
  have x2 := cell_at (o := 2) hb.tb rfl
  have x3 := cell_at (o := 3) hb.tb rfl
  have z0 := cell_at (o := 0) hb.zr rfl
  have f0 := frozen_at 0 hb.zr
  have z1 := cell_at (o := 1) hb.zr rfl
  have f1 := frozen_at 1 hb.zr
  clear hto hT hb
  cases hta : tabB t
  case false =>
    have HP := Lib.hid (fr_bad (id := id) hta)
    rw [hta] at TA
    clear hta
    go_enter Try.func26, Try.ntmps26
    go_wp2_with fail
    refine (TA.out _ HB.out).mono ?_
    rintro e w1 ⟨rfl, hb⟩
    have HB1 := Lib.hid hb
    clear x0 x1 x2 x3 z0 z1 f0 f1
    have x0 := cell_at (o := 0) hb.tb rfl
    have x1 := cell_at (o := 1) hb.tb rfl
    have x2 := cell_at (o := 2) hb.tb rfl
    have x3 := cell_at (o := 3) hb.tb rfl
    have z0 := cell_at (o := 0) hb.zr rfl
    have f0 := frozen_at 0 hb.zr
    have z1 := cell_at (o := 1) hb.zr rfl
    have f1 := frozen_at 1 hb.zr
    clear hb
    go_wp2_with fail
    refine bodyPost_ret (v := .tuple #[.agg #[.int .i64 0, .slice none 0 0], .int .i64 1]) (by simp [results, Try.results26, go_sem, *]) rfl ?_
    rw [HP.out.1, HP.out.2]
    exact ⟨none, 0, rfl, Rd.lsNil _ _, by first | exact HB1.out.bel | exact (HB1.out.bel.setCell (by show w.heap.size ≤ w.heap.size + 1; omega) _).setCell (by show w.heap.size ≤ w.heap.size + 1; omega) _⟩
  cases hin : inB 1 id 1000000
  case false =>
    have HP := Lib.hid (fr_rng hta hin)
    rw [hta] at TA
    rw [hin] at IN
    clear hta hin
    go_enter Try.func26, Try.ntmps26
    go_wp2_with fail
    refine (TA.out _ HB.out).mono ?_
    rintro e w1 ⟨rfl, hb⟩
    have HB1 := Lib.hid hb
    clear x0 x1 x2 x3 z0 z1 f0 f1
    have x0 := cell_at (o := 0) hb.tb rfl
    have x1 := cell_at (o := 1) hb.tb rfl
    have x2 := cell_at (o := 2) hb.tb rfl
    have x3 := cell_at (o := 3) hb.tb rfl
    have z0 := cell_at (o := 0) hb.zr rfl
    have f0 := frozen_at 0 hb.zr
    have z1 := cell_at (o := 1) hb.zr rfl
    have f1 := frozen_at 1 hb.zr
    clear hb
    go_wp2_with fail
    refine (IN.out _).mono ?_
    rintro e w2 ⟨rfl, rfl⟩
    go_wp2_with fail
    refine bodyPost_ret (v := .tuple #[.agg #[.int .i64 0, .slice none 0 0], .int .i64 4]) (by simp [results, Try.results26, go_sem, *]) rfl ?_
    rw [HP.out.1, HP.out.2]
    exact ⟨none, 0, rfl, Rd.lsNil _ _, by first | exact HB1.out.bel | exact (HB1.out.bel.setCell (by show w.heap.size ≤ w.heap.size + 1; omega) _).setCell (by show w.heap.size ≤ w.heap.size + 1; omega) _⟩
  have HP := Lib.hid (fr_ok hta hin)
  have H6 := Lib.hid (tab_of hta)
  rw [hta] at TA
  rw [hin] at IN
  clear hta hin
  go_enter Try.func26, Try.ntmps26
  go_wp2_with fail
  refine (TA.out _ HB.out).mono ?_
  rintro e w1 ⟨rfl, hb⟩
  have HB1 := Lib.hid hb
  clear x0 x1 x2 x3 z0 z1 f0 f1
  have x0 := cell_at (o := 0) hb.tb rfl
  have x1 := cell_at (o := 1) hb.tb rfl
  have x2 := cell_at (o := 2) hb.tb rfl
  have x3 := cell_at (o := 3) hb.tb rfl
  have z0 := cell_at (o := 0) hb.zr rfl
  have f0 := frozen_at 0 hb.zr
  have z1 := cell_at (o := 1) hb.zr rfl
  have f1 := frozen_at 1 hb.zr
  clear hb
  go_wp2_with fail
  refine (IN.out _).mono ?_
  rintro e w2 ⟨rfl, rfl⟩
  go_wp2_with fail
  refine (FR.out H6.out.len.2 _ HB1.out).mono ?_
  rintro e w4 ⟨oa, oc, rfl, hrd, hB⟩
  have HB4 := Lib.hid (HB1.out.later hB)
  have HRD : Hid (Rd w4 (fun b => w.heap.size + 1 + 1 ≤ b ∧ b < w4.heap.size) (dAtomSS (t.cols.map dfL)) (.slice oa (t.cols.map dfL).length oc)) := hrd.mono (fun b hb => ⟨by have h1 := hb.1; have h2 := (Array.getElem?_eq_some_iff.1 HB1.out.zr).1; omega, hb.2⟩)
  clear hrd hB
  clear x0 x1 x2 x3 z0 z1 f0 f1
  generalize t.cols.map dfL = y at *
  have z0 := cell_at (o := 0) HB4.out.zr rfl
  have f0 := frozen_at 0 HB4.out.zr
  have z1 := cell_at (o := 1) HB4.out.zr rfl
  have f1 := frozen_at 1 HB4.out.zr
  go_wp2_with fail
  refine bodyPost_ret (v := .tuple #[.agg #[.int .i64 id, .slice oa y.length oc], .int .i64 0]) (by simp [results, Try.results26, go_sem, *]) rfl ?_
  rw [HP.out.1, HP.out.2]
  refine ⟨oa, oc, rfl, ?_, (HB4.out.bel.setCell (by show w.heap.size ≤ w.heap.size + 1; omega) _).setCell (by show w.heap.size ≤ w.heap.size + 1; omega) _⟩
  exact (HRD.out.frm (F := (· = w.heap.size + 1)) ((frm_set _ _ _ _).trans (frm_set _ _ _ _)) (fun b hb e => by have h1 := hb.1; have e2 : b = w.heap.size + 1 := e; omega)).mono (fun b hb => ⟨by have := hb.1; omega, by simpa using hb.2⟩)
end Go.Proofs.Ytkjfefjkelckiaa
