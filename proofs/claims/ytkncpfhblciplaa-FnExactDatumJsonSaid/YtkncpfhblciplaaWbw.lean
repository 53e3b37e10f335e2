import Derived.Test.YtkncpfhblciplaaWbv
namespace Go.Proofs.Ytkncpfhblciplaa
open Go.RowKit
set_option linter.unusedSimpArgs false
set_option maxRecDepth 100000 in
set_option maxHeartbeats 12800000 in
theorem listOfAt (d : List At) (a : Option Addr) (c S : Nat) (w : World) (hl : d.length ≤ 100000) (hx : ∀ x ∈ d, x.t.length ≤ maxLen) (hw : S ≤ w.heap.size) (hA : Ats w (· < S) a d) :
    Calls Try.prog 102 #[.slice a d.length c] w (JoE (⟨4, 0, [], [], d.map ajJ⟩ : J) w) := by
  have HL := Lib.hid hl
  have HX : Hid (∀ i (h : i < d.length), d[i].t.length ≤ maxLen) := fun i h => hx _ (List.getElem_mem h)
  have AT : Hid (∀ W, Below w.heap.size w W → Ats W (· < S) a d) := fun W h => hA.below (h.mono hw)
  have HA := Lib.hid hA
  clear hl hx hw hA
  obtain ⟨iJ, hiJ⟩ := infoJ
  have HIJ := Lib.hid hiJ
  clear hiJ
  have hb := Lib.hid (one_box w #[.int .i64 0, .int .i64 0, .string ⟨#[]⟩, .slice none 0 0, .slice none 0 0] 28)
  go_enter Try.func102, Try.ntmps102
  go_upto_region 1 with fail
  obtain ⟨W0, hW0⟩ : ∃ W, W = w.alloc (.cells #[.int .i64 0, .int .i64 0, .string ⟨#[]⟩, .slice none 0 0, .slice none 0 0] 28) := ⟨_, rfl⟩
  have HS0 : Hid (W0.heap.size = w.heap.size + 1) := by rw [hW0]; show _ = _; simp
  rw [← hW0] at hb ⊢
  clear hW0
  go_upto_region 2 with fail
  have HI0 : Hid (LInvG W0 (W0.alloc (.cells #[.int .i64 4, .int .i64 0, .string ⟨#[]⟩, .slice none 0 0, .slice none 0 0] 28)) (⟨4, 0, [], [], d.map ajJ⟩ : J) W0.heap.size W0.heap.size 0 (.slice none 0 0) [] (fun _ _ => False)) :=
    linvg_start (one_box W0 _ _).1 ⟨rfl, .inl ⟨rfl, rfl⟩⟩ (fun g h => by simp [Value.ownBlock] at h) (Nat.le_refl _) (one_box W0 _ _).2
  obtain ⟨B, hBB⟩ : ∃ n, n = W0.heap.size := ⟨_, rfl⟩
  obtain ⟨W1, hW1⟩ : ∃ W, W = W0.alloc (.cells #[.int .i64 4, .int .i64 0, .string ⟨#[]⟩, .slice none 0 0, .slice none 0 0] 28) := ⟨_, rfl⟩
  rw [← hW1] at HI0 ⊢
  rw [← hBB] at HI0 HS0 ⊢
  clear hW1
  have HBB := Lib.hid hBB
  clear hBB
  go_wp2_with fail
  go_loopw [9] (fun iv wr => ∃ m : Nat, m ≤ d.length ∧ iv = .int .i64 (m : Int) ∧ Hid (∃ v xs X, LInvG W0 wr (⟨4, 0, [], [], d.map ajJ⟩ : J) B B m v xs X)) (fun iv _ => d.length - (intOf iv).toNat)
  case atStart => exact ⟨0, Nat.zero_le _, rfl, _, _, _, HI0.out⟩
  case round =>
    obtain ⟨m, hm, rfl, HX9⟩ := hrel
    obtain ⟨v, xs, X, hv⟩ := HX9.out
    obtain ⟨va, vc, rfl⟩ := own_shape hv.row
    have HV := Lib.hid hv
    clear HX9 hv
    have HBW : Hid (Below w.heap.size w wr) := hb.out.2.trans (HV.out.bel.mono (by have := HS0.out; omega))
    by_cases hlt : m < d.length
    case pos =>
      have hki : (m : Int) < (d.length : Int) := by omega
      have f1 : IntKind.i64.wrap ((m : Int) + 1) = ((m + 1 : Nat) : Int) := by have := HL.out; rw [IntKind.wrap_i64]; omega
      obtain ⟨b, off, rfl, -, -⟩ := HA.out.item m hlt
      obtain ⟨x, hx⟩ : ∃ x, x = d[m] := ⟨_, rfl⟩
      have HT : Hid (x.t.length ≤ maxLen) := by rw [hx]; exact HX.out m hlt
      have CE : Hid (∀ W, Below w.heap.size w W → W.cell? ⟨b, off + m * 3, none⟩ = some (.int .i64 x.k) ∧ W.cell? ⟨b, off + m * 3 + 1, none⟩ = some (.int .i64 x.n) ∧ W.cell? ⟨b, off + m * 3 + 2, none⟩ = some (.string ⟨x.t.toArray⟩)) := fun W hB => by rw [hx]; exact (AT.out _ hB).three m hlt
      obtain ⟨c0, c1, c2⟩ := CE.out _ HBW.out
      have HXE : Hid (∀ (h : m < ((⟨4, 0, [], [], d.map ajJ⟩ : J)).items.length), ((⟨4, 0, [], [], d.map ajJ⟩ : J)).items[m] = ajJ x) := fun h => by simp [hx]
      clear hx
      have H63 : Hid (m + 1 ≤ maxLen) := by have := HL.out; show m + 1 ≤ maxLen; unfold maxLen; omega
      have HBY : Hid ((m + 1) * 80 ≤ 140737488355328) := by have := HL.out; show (m + 1) * 80 ≤ 140737488355328; omega
      have HLT : Hid (m < ((⟨4, 0, [], [], d.map ajJ⟩ : J)).items.length) := by show _ < _; simpa using hlt
      go_upto_region 5 with fail
      have HW2 := Lib.hid (one_box wr #[.int .i64 x.k, .int .i64 x.n, .string ⟨x.t.toArray⟩] 31)
      obtain ⟨W2, hW2⟩ : ∃ W, W = wr.alloc (.cells #[.int .i64 x.k, .int .i64 x.n, .string ⟨x.t.toArray⟩] 31) := ⟨_, rfl⟩
      obtain ⟨pb, hpb⟩ : ∃ n, n = wr.heap.size := ⟨_, rfl⟩
      rw [← hW2] at HW2 ⊢
      rw [← hpb]
      have HPB := Lib.hid hpb
      clear hW2 hpb c0 c1 c2
      have b0 := cell_at (o := 0) (by rw [HPB.out]; exact HW2.out.1) rfl (w := W2) (b := pb)
      have b1 := cell_at (o := 1) (by rw [HPB.out]; exact HW2.out.1) rfl (w := W2) (b := pb)
      have b2 := cell_at (o := 2) (by rw [HPB.out]; exact HW2.out.1) rfl (w := W2) (b := pb)
      have t4 := cell_at (o := 4) (HV.out.t1 HW2.out.2) rfl
      have z4 := frozen_at 4 (HV.out.t1 HW2.out.2)
      go_wp2_with fail
      go_region_law (first
        | (refine step_append_own2 rfl (.tmp 14) (.tmp 18) 26 rfl B 28 iJ (.agg zero5) 5 80 Try.underlying26 HIJ.out.1 HIJ.out.2.1 HIJ.out.2.2.1 HIJ.out.2.2.2 rfl (Nat.lt_of_sub_eq_succ rfl) (.slice va m vc) m xs rfl ?_ ⟨w2.heap.size, 0, none⟩ 1 1 [.int .i64 y.k, .int .i64 y.n, .string ⟨y.t.toArray⟩, .slice kx2 y.keys.length kcx2, .slice ix2 y.items.length icx2] rfl rfl ?_ ?_ ?_ ?_ ?_ Nat.one_pos ?_
           exact HV.out.row1 HB1.out _
           exact news5 _ _ _ _ _ _ _
           exact ONE.out
           exact H63.out
           exact HBY.out
           exact HBA.out
           intro v' w3 hrow2 hgr2 hg2
           obtain ⟨va2, vc2, rfl⟩ := own_shape hrow2
           have t5 := cell_at (o := 4) (HV.out.t2 HB1.out hgr2) rfl
           have z5 := frozen_at 4 (HV.out.t2 HB1.out hgr2))
        | (go_simp; go_at_call 43; refine (jsonOfA x _ HT.out).mono ?_; rintro e w2 ⟨cs', rfl, hO, hBx⟩
           obtain ⟨kx2, kcx2, ix2, icx2, rfl⟩ := (OwnJ.rj _ _ _ hO).cells
           obtain ⟨y, hy⟩ : ∃ y, y = ajJ x := ⟨_, rfl⟩
           rw [← hy] at hO ⊢
           have HXF : Hid (∀ (h : m < ((⟨4, 0, [], [], d.map ajJ⟩ : J)).items.length), ((⟨4, 0, [], [], d.map ajJ⟩ : J)).items[m] = y) := fun h => (HXE.out h).trans hy.symm
           clear hy
           have HO : Hid (OwnJ w2 y (fun b => wr.heap.size ≤ b ∧ b < w2.heap.size) _) := OwnJ.same _ _ _ _ (fun _ _ => rfl) (fun b hb2 => ⟨by have h1 := hb2.1; have h2 := HW2.out.2.size; simp at h1; omega, hb2.2⟩) hO
           have HB1 : Hid (Below wr.heap.size wr w2) := HW2.out.2.trans ((show Below W2.heap.size W2 w2 from by first | exact (Below.refl _ _).drew.trans hBx | exact hBx).mono HW2.out.2.size)
           have t4' := cell_at (o := 4) (HV.out.t1 HB1.out) rfl
           have z4' := frozen_at 4 (HV.out.t1 HB1.out)
           have hlt1 : B < w2.heap.size := (Array.getElem?_eq_some_iff.1 (HV.out.t1 HB1.out)).1
           have HBA : Hid (B ≤ (w2.alloc (.cells #[.int .i64 y.k, .int .i64 y.n, .string ⟨y.t.toArray⟩, .slice kx2 y.keys.length kcx2, .slice ix2 y.items.length icx2] 28)).heap.size) := by
             show _ ≤ _
             simp; omega
           have t4a : (w2.alloc (.cells #[.int .i64 y.k, .int .i64 y.n, .string ⟨y.t.toArray⟩, .slice kx2 y.keys.length kcx2, .slice ix2 y.items.length icx2] 28)).cell? ⟨B, 4, none⟩ = some (.slice va m vc) := cell_at (o := 4) (by rw [Below.heap_alloc _ _ _ hlt1]; exact HV.out.t1 HB1.out) rfl
           have ONE : Hid (∀ u ∈ [Value.int .i64 y.k, .int .i64 y.n, .string ⟨y.t.toArray⟩, .slice kx2 y.keys.length kcx2, .slice ix2 y.items.length icx2], u.oneCell' = true) := by
             intro u hu
             simp only [List.mem_cons, List.not_mem_nil, or_false] at hu
             rcases hu with rfl | rfl | rfl | rfl | rfl <;> rfl
           clear hO hBx))
      all_goals
        have HNX : Hid (∃ v xs X, LInvG W0 (w3.setCell ⟨B, 4, none⟩ (.slice va2 (m + 1) vc2)) (⟨4, 0, [], [], d.map ajJ⟩ : J) B B (m + 1) v xs X) := by
          exact ⟨_, _, _, HV.out.step HLT.out HB1.out hgr2 hrow2 hg2 rfl (by rw [HXF.out HLT.out]; exact HO.out)⟩
        clear t4 z4 b0 b1 b2 t4' z4' t4a t5 z5 hrow2 hgr2 hg2 hlt1
        go_wp2_with fail
        go_roundw
        case rel => exact ⟨m + 1, by omega, by go_num, HNX.out⟩
        case measure => simp [intOf]; omega
    have hkd : decide ((m : Int) < (d.length : Int)) = false := by simp; omega
    obtain rfl : m = d.length := by omega
    have t0 := cell_at (o := 0) HV.out.b2 rfl
    have t1 := cell_at (o := 1) HV.out.b2 rfl
    have t2 := cell_at (o := 2) HV.out.b2 rfl
    have t3 := cell_at (o := 3) HV.out.b2 rfl
    have t4 := cell_at (o := 4) HV.out.b2 rfl
    have HZ : Hid (wr.heap[w.heap.size]? = some (.cells #[.int .i64 0, .int .i64 0, .string ⟨#[]⟩, .slice none 0 0, .slice none 0 0] 28)) := heap_kept2 hb.out.1 (by rw [← HBB.out]; exact HV.out.bel)
    have HO : Hid (OwnJ wr (⟨4, 0, [], [], d.map ajJ⟩ : J) (fun b => w.heap.size < b ∧ b < wr.heap.size) [.int .i64 4, .int .i64 0, .string ⟨#[]⟩, .slice none 0 0, .slice va d.length vc]) := by
      have hV := HV.out
      have hlm : d.length = ((⟨4, 0, [], [], d.map ajJ⟩ : J)).items.length := by simp
      have h := LInvG.fin (j := (⟨4, 0, [], [], d.map ajJ⟩ : J)) (va := va) (vc := vc) (xs := xs) (X := X) (by rw [← hlm]; exact hV) (by simp) rfl (by rw [← hlm]; have := HL.out; unfold maxLen; omega)
      rw [← hlm] at h
      exact OwnJ.same _ _ _ _ (fun _ _ => rfl) (fun b hb2 => ⟨by have := hb2.1; have := HS0.out; omega, hb2.2⟩) h
    have g0 := cell_at (o := 0) HZ.out rfl
    have y0 := frozen_at 0 HZ.out
    have g1 := cell_at (o := 1) HZ.out rfl
    have y1 := frozen_at 1 HZ.out
    have g2 := cell_at (o := 2) HZ.out rfl
    have y2 := frozen_at 2 HZ.out
    have g3 := cell_at (o := 3) HZ.out rfl
    have y3 := frozen_at 3 HZ.out
    have g4 := cell_at (o := 4) HZ.out rfl
    have y4 := frozen_at 4 HZ.out
    go_wp2_with fail
    exact bodyPost_ret (v := .agg #[.int .i64 4, .int .i64 0, .string ⟨#[]⟩, .slice none 0 0, .slice va d.length vc]) (by simp [results, Try.results102, go_sem, g0, g1, g2, g3, g4]) rfl (JoE.fin HBW.out (Nat.le_refl _) HO.out)
end Go.Proofs.Ytkncpfhblciplaa
