import Derived.Test.YtkncpfhblciplaaWbo
import Derived.Test.YtkncpfhblciplaaWbf
namespace Go.Proofs.Ytkncpfhblciplaa
open Go.RowKit
set_option linter.unusedSimpArgs false
theorem jaBB (v : Value) (w : World) : (Instr.typeAssert (.iface 4 v) 20 4 true).run Try.prog w = .ok (.tuple #[v, .bool true]) w := by kernel_rfl
theorem jaIB (v : Value) (w : World) : (Instr.typeAssert (.iface 3 v) 20 4 true).run Try.prog w = .ok (.tuple #[.bool false, .bool false]) w := by kernel_rfl
theorem jaII (v : Value) (w : World) : (Instr.typeAssert (.iface 3 v) 20 3 true).run Try.prog w = .ok (.tuple #[v, .bool true]) w := by kernel_rfl
theorem jaTB (v : Value) (w : World) : (Instr.typeAssert (.iface 9 v) 20 4 true).run Try.prog w = .ok (.tuple #[.bool false, .bool false]) w := by kernel_rfl
theorem jaTI (v : Value) (w : World) : (Instr.typeAssert (.iface 9 v) 20 3 true).run Try.prog w = .ok (.tuple #[.int .i64 0, .bool false]) w := by kernel_rfl
theorem jaTT (v : Value) (w : World) : (Instr.typeAssert (.iface 9 v) 20 9 true).run Try.prog w = .ok (.tuple #[v, .bool true]) w := by kernel_rfl
theorem jaAB (v : Value) (w : World) : (Instr.typeAssert (.iface 31 v) 20 4 true).run Try.prog w = .ok (.tuple #[.bool false, .bool false]) w := by kernel_rfl
theorem jaAI (v : Value) (w : World) : (Instr.typeAssert (.iface 31 v) 20 3 true).run Try.prog w = .ok (.tuple #[.int .i64 0, .bool false]) w := by kernel_rfl
theorem jaAT (v : Value) (w : World) : (Instr.typeAssert (.iface 31 v) 20 9 true).run Try.prog w = .ok (.tuple #[.string ⟨#[]⟩, .bool false]) w := by kernel_rfl
theorem jaAA (v : Value) (w : World) : (Instr.typeAssert (.iface 31 v) 20 31 true).run Try.prog w = .ok (.tuple #[v, .bool true]) w := by kernel_rfl
def JoE (j : J) (w : World) (e : Ending) (w' : World) : Prop := ∃ cs, e = .returned (.agg cs.toArray) ∧ OwnJ w' j (fun b => w.heap.size ≤ b ∧ b < w'.heap.size) cs ∧ Below w.heap.size w w'
theorem JoE.flat {k n : Int} {t : List UInt8} {w w' : World} (ht : t.length ≤ maxLen) (hB : Below w.heap.size w w') : JoE (flJ k n t) w (.returned (.agg #[.int .i64 k, .int .i64 n, .string ⟨t.toArray⟩, .slice none 0 0, .slice none 0 0])) w' := ⟨_, rfl, own_flat _ _ _ _ _ ht, hB⟩
set_option maxRecDepth 100000 in
set_option maxHeartbeats 6400000 in
theorem boolJ (b : Bool) (w : World) : Calls Try.prog 80 #[.bool b] w (JoE (flJ 1 (if b = true then 1 else 0) []) w) := by
  have hb := Lib.hid (one_box w #[.int .i64 0, .int .i64 0, .string ⟨#[]⟩, .slice none 0 0, .slice none 0 0] 28)
  go_enter Try.func80, Try.ntmps80
  go_upto_region 1 with fail
  obtain ⟨W0, hW0⟩ : ∃ W, W = w.alloc (.cells #[.int .i64 0, .int .i64 0, .string ⟨#[]⟩, .slice none 0 0, .slice none 0 0] 28) := ⟨_, rfl⟩
  rw [← hW0] at hb ⊢
  clear hW0
  have g0 := cell_at (o := 0) hb.out.1 rfl
  have y0 := frozen_at 0 hb.out.1
  have g1 := cell_at (o := 1) hb.out.1 rfl
  have y1 := frozen_at 1 hb.out.1
  have g2 := cell_at (o := 2) hb.out.1 rfl
  have y2 := frozen_at 2 hb.out.1
  have g3 := cell_at (o := 3) hb.out.1 rfl
  have y3 := frozen_at 3 hb.out.1
  have g4 := cell_at (o := 4) hb.out.1 rfl
  have y4 := frozen_at 4 hb.out.1
  cases b
  · go_wp2_with fail
    exact bodyPost_ret (v := .agg #[.int .i64 1, .int .i64 0, .string ⟨#[]⟩, .slice none 0 0, .slice none 0 0]) (by simp [results, Try.results80, go_sem, g0, g1, g2, g3, g4]) rfl (JoE.flat (by simp [maxLen]) (fiveAt_below hb.out.2 (Nat.le_refl _) _ _ _ _ _))
  · go_wp2_with fail
    exact bodyPost_ret (v := .agg #[.int .i64 1, .int .i64 1, .string ⟨#[]⟩, .slice none 0 0, .slice none 0 0]) (by simp [results, Try.results80, go_sem, g0, g1, g2, g3, g4]) rfl (JoE.flat (by simp [maxLen]) (fiveAt_below hb.out.2 (Nat.le_refl _) _ _ _ _ _))
set_option maxRecDepth 100000 in
set_option maxHeartbeats 6400000 in
theorem jsonOfI (n : Int) (w : World) : Calls Try.prog 43 #[.iface 3 (.int .i64 n)] w (JoE (flJ 2 n []) w) := by
  have hb := Lib.hid (one_box w #[.int .i64 0, .int .i64 0, .string ⟨#[]⟩, .slice none 0 0, .slice none 0 0] 28)
  go_enter Try.func43, Try.ntmps43
  go_upto_region 1 with fail
  obtain ⟨W0, hW0⟩ : ∃ W, W = w.alloc (.cells #[.int .i64 0, .int .i64 0, .string ⟨#[]⟩, .slice none 0 0, .slice none 0 0] 28) := ⟨_, rfl⟩
  rw [← hW0] at hb ⊢
  clear hW0
  have g0 := cell_at (o := 0) hb.out.1 rfl
  have y0 := frozen_at 0 hb.out.1
  have g1 := cell_at (o := 1) hb.out.1 rfl
  have y1 := frozen_at 1 hb.out.1
  have g2 := cell_at (o := 2) hb.out.1 rfl
  have y2 := frozen_at 2 hb.out.1
  have g3 := cell_at (o := 3) hb.out.1 rfl
  have y3 := frozen_at 3 hb.out.1
  have g4 := cell_at (o := 4) hb.out.1 rfl
  have y4 := frozen_at 4 hb.out.1
  have ta0 := jaIB (.int .i64 n) W0
  have ta1 := jaII (.int .i64 n) W0
  go_wp2_with fail
  exact bodyPost_ret (v := .agg #[.int .i64 2, .int .i64 n, .string ⟨#[]⟩, .slice none 0 0, .slice none 0 0]) (by simp [results, Try.results43, go_sem, g0, g1, g2, g3, g4]) rfl (JoE.flat (by simp [maxLen]) (fiveAt_below hb.out.2 (Nat.le_refl _) _ _ _ _ _))
set_option maxRecDepth 100000 in
set_option maxHeartbeats 6400000 in
theorem jsonOfT (t : List UInt8) (ht : t.length ≤ maxLen) (w : World) : Calls Try.prog 43 #[.iface 9 (.string ⟨t.toArray⟩)] w (JoE (flJ 3 0 t) w) := by
  have HT := Lib.hid ht
  clear ht
  have hb := Lib.hid (one_box w #[.int .i64 0, .int .i64 0, .string ⟨#[]⟩, .slice none 0 0, .slice none 0 0] 28)
  go_enter Try.func43, Try.ntmps43
  go_upto_region 1 with fail
  obtain ⟨W0, hW0⟩ : ∃ W, W = w.alloc (.cells #[.int .i64 0, .int .i64 0, .string ⟨#[]⟩, .slice none 0 0, .slice none 0 0] 28) := ⟨_, rfl⟩
  rw [← hW0] at hb ⊢
  clear hW0
  have g0 := cell_at (o := 0) hb.out.1 rfl
  have y0 := frozen_at 0 hb.out.1
  have g1 := cell_at (o := 1) hb.out.1 rfl
  have y1 := frozen_at 1 hb.out.1
  have g2 := cell_at (o := 2) hb.out.1 rfl
  have y2 := frozen_at 2 hb.out.1
  have g3 := cell_at (o := 3) hb.out.1 rfl
  have y3 := frozen_at 3 hb.out.1
  have g4 := cell_at (o := 4) hb.out.1 rfl
  have y4 := frozen_at 4 hb.out.1
  have ta0 := jaTB (.string ⟨t.toArray⟩) W0
  have ta1 := jaTI (.string ⟨t.toArray⟩) W0
  have ta2 := jaTT (.string ⟨t.toArray⟩) W0
  go_wp2_with fail
  exact bodyPost_ret (v := .agg #[.int .i64 3, .int .i64 0, .string ⟨t.toArray⟩, .slice none 0 0, .slice none 0 0]) (by simp [results, Try.results43, go_sem, g0, g1, g2, g3, g4]) rfl (JoE.flat HT.out (fiveAt_below hb.out.2 (Nat.le_refl _) _ _ _ _ _))
set_option maxRecDepth 100000 in
set_option maxHeartbeats 6400000 in
theorem jsonOfB (b : Bool) (w : World) : Calls Try.prog 43 #[.iface 4 (.bool b)] w (JoE (flJ 1 (if b = true then 1 else 0) []) w) := by
  have hb := Lib.hid (one_box w #[.int .i64 0, .int .i64 0, .string ⟨#[]⟩, .slice none 0 0, .slice none 0 0] 28)
  go_enter Try.func43, Try.ntmps43
  go_upto_region 1 with fail
  obtain ⟨W0, hW0⟩ : ∃ W, W = w.alloc (.cells #[.int .i64 0, .int .i64 0, .string ⟨#[]⟩, .slice none 0 0, .slice none 0 0] 28) := ⟨_, rfl⟩
  rw [← hW0] at hb ⊢
  clear hW0
  cases b
  case false =>
    have ta0 := jaBB (.bool false) W0
    go_wp2_with fail
    refine (boolJ false _).mono ?_
    rintro e w1 ⟨cs1, rfl, ho, hB⟩
    have hz := heap_kept2 hb.out.1 hB
    have hbel := Lib.hid (hb.out.2.trans (hB.mono hb.out.2.size))
    rw [OwnJ_eq] at ho
    obtain ⟨k9, kc9, i9, ic9, K9, I9, rfl, -, -, -, -, h1, -, -, h2⟩ := ho
    have g0 := cell_at (o := 0) hz rfl
    have y0 := frozen_at 0 hz
    have g1 := cell_at (o := 1) hz rfl
    have y1 := frozen_at 1 hz
    have g2 := cell_at (o := 2) hz rfl
    have y2 := frozen_at 2 hz
    have g3 := cell_at (o := 3) hz rfl
    have y3 := frozen_at 3 hz
    have g4 := cell_at (o := 4) hz rfl
    have y4 := frozen_at 4 hz
    clear hz hB h1 h2
    simp only [flJ, Bool.false_eq_true, if_false, if_true, List.length_nil]
    go_wp2_with fail
    refine bodyPost_ret (v := .agg #[.int .i64 1, .int .i64 0, .string ⟨#[]⟩, .slice k9 0 kc9, .slice i9 0 ic9]) (by simp [results, Try.results43, go_sem, g0, g1, g2, g3, g4]) rfl ⟨[.int .i64 1, .int .i64 0, .string ⟨#[]⟩, .slice k9 0 kc9, .slice i9 0 ic9], rfl, ?_, fiveAt_below hbel.out (Nat.le_refl _) _ _ _ _ _⟩
    rw [OwnJ_eq]
    exact ⟨k9, kc9, i9, ic9, fun _ => False, fun _ => False, rfl, by simp [flJ, maxLen], by simp [flJ], by simp [flJ], by simp [flJ], .inl rfl, fun _ h => h.elim, fun _ h => h.elim, .inl rfl⟩
  case true =>
    have ta0 := jaBB (.bool true) W0
    go_wp2_with fail
    refine (boolJ true _).mono ?_
    rintro e w1 ⟨cs1, rfl, ho, hB⟩
    have hz := heap_kept2 hb.out.1 hB
    have hbel := Lib.hid (hb.out.2.trans (hB.mono hb.out.2.size))
    rw [OwnJ_eq] at ho
    obtain ⟨k9, kc9, i9, ic9, K9, I9, rfl, -, -, -, -, h1, -, -, h2⟩ := ho
    have g0 := cell_at (o := 0) hz rfl
    have y0 := frozen_at 0 hz
    have g1 := cell_at (o := 1) hz rfl
    have y1 := frozen_at 1 hz
    have g2 := cell_at (o := 2) hz rfl
    have y2 := frozen_at 2 hz
    have g3 := cell_at (o := 3) hz rfl
    have y3 := frozen_at 3 hz
    have g4 := cell_at (o := 4) hz rfl
    have y4 := frozen_at 4 hz
    clear hz hB h1 h2
    simp only [flJ, Bool.false_eq_true, if_false, if_true, List.length_nil]
    go_wp2_with fail
    refine bodyPost_ret (v := .agg #[.int .i64 1, .int .i64 1, .string ⟨#[]⟩, .slice k9 0 kc9, .slice i9 0 ic9]) (by simp [results, Try.results43, go_sem, g0, g1, g2, g3, g4]) rfl ⟨[.int .i64 1, .int .i64 1, .string ⟨#[]⟩, .slice k9 0 kc9, .slice i9 0 ic9], rfl, ?_, fiveAt_below hbel.out (Nat.le_refl _) _ _ _ _ _⟩
    rw [OwnJ_eq]
    exact ⟨k9, kc9, i9, ic9, fun _ => False, fun _ => False, rfl, by simp [flJ, maxLen], by simp [flJ], by simp [flJ], by simp [flJ], .inl rfl, fun _ h => h.elim, fun _ h => h.elim, .inl rfl⟩
set_option maxRecDepth 100000 in
set_option maxHeartbeats 12800000 in
theorem listOfAny (L : List J) (g c : Nat) (w : World) (hl : L.length ≤ 100000) (hp : ∀ i (h : i < L.length), ∃ u, w.cell? ⟨g, i, none⟩ = some u ∧ ∀ W, Below w.heap.size w W → Calls Try.prog 43 #[u] W (JoE L[i] W)) :
    Calls Try.prog 101 #[.slice (some ⟨g, 0, none⟩) L.length c] w (JoE (⟨4, 0, [], [], L⟩ : J) w) := by
  have HPP := Lib.hid hp
  have HL := Lib.hid hl
  clear hp hl
  obtain ⟨iJ, hiJ⟩ := infoJ
  have HIJ := Lib.hid hiJ
  clear hiJ
  have hb := Lib.hid (one_box w #[.int .i64 0, .int .i64 0, .string ⟨#[]⟩, .slice none 0 0, .slice none 0 0] 28)
  go_enter Try.func101, Try.ntmps101
  go_upto_region 1 with fail
  obtain ⟨W0, hW0⟩ : ∃ W, W = w.alloc (.cells #[.int .i64 0, .int .i64 0, .string ⟨#[]⟩, .slice none 0 0, .slice none 0 0] 28) := ⟨_, rfl⟩
  have hs0 : W0.heap.size = w.heap.size + 1 := by rw [hW0]; simp
  rw [← hW0] at hb ⊢
  clear hW0
  go_upto_region 2 with fail
  have HI0 : Hid (LInv w (W0.alloc (.cells #[.int .i64 4, .int .i64 0, .string ⟨#[]⟩, .slice none 0 0, .slice none 0 0] 28)) (⟨4, 0, [], [], L⟩ : J) w.heap.size 0 (.slice none 0 0) none (fun _ => False) (.slice none 0 0) [] (fun _ _ => False)) :=
    linv_start (heap_kept2 hb.out.1 (one_box W0 _ _).2) (by rw [← hs0]; exact (one_box W0 _ _).1) (.inl rfl) (fun _ h => h.elim) (hb.out.2.trans ((one_box W0 _ _).2.mono hb.out.2.size))
  obtain ⟨W1, hW1⟩ : ∃ W, W = W0.alloc (.cells #[.int .i64 4, .int .i64 0, .string ⟨#[]⟩, .slice none 0 0, .slice none 0 0] 28) := ⟨_, rfl⟩
  rw [← hW1] at HI0 ⊢
  clear hW1 hs0 hb
  go_wp2_with fail
  go_loopw [9] (fun iv wr => ∃ m : Nat, m ≤ L.length ∧ iv = .int .i64 (m : Int) ∧ Hid (∃ v xs X, LInv w wr (⟨4, 0, [], [], L⟩ : J) w.heap.size m (.slice none 0 0) none (fun _ => False) v xs X)) (fun iv _ => L.length - (intOf iv).toNat)
  case atStart => exact ⟨0, Nat.zero_le _, rfl, _, _, _, HI0.out⟩
  case round =>
    obtain ⟨m, hm, rfl, HX⟩ := hrel
    obtain ⟨v, xs, X, hv⟩ := HX.out
    obtain ⟨va, vc, rfl⟩ := own_shape hv.row
    have HV := Lib.hid hv
    clear HX hv
    by_cases hlt : m < L.length
    case pos =>
      have hki : (m : Int) < (L.length : Int) := by omega
      have f1 : IntKind.i64.wrap ((m : Int) + 1) = ((m + 1 : Nat) : Int) := by have := HL.out; rw [IntKind.wrap_i64]; omega
      obtain ⟨u, hu, hcall⟩ := HPP.out m hlt
      have c0 := cell_later HV.out.bel hu
      have HC := Lib.hid hcall
      clear hu hcall
      have t4 := cell_at (o := 4) HV.out.b2 rfl
      have z4 := frozen_at 4 HV.out.b2
      have H63 : Hid (m + 1 ≤ maxLen) := by have := HL.out; show m + 1 ≤ maxLen; unfold maxLen; omega
      have HBY : Hid ((m + 1) * 80 ≤ 140737488355328) := by have := HL.out; show (m + 1) * 80 ≤ 140737488355328; omega
      obtain ⟨x, hx⟩ : ∃ x, x = L[m] := ⟨_, rfl⟩
      rw [← hx] at HC
      have HXE := Lib.hid hx
      clear hx
      have HLT : Hid (m < L.length) := hlt
      go_wp2_with fail
      go_region_law (first
        | (refine step_append_own2 rfl (.tmp 14) (.tmp 17) 26 rfl (w.heap.size + 2) 28 iJ (.agg zero5) 5 80 Try.underlying26 HIJ.out.1 HIJ.out.2.1 HIJ.out.2.2.1 HIJ.out.2.2.2 rfl (Nat.lt_of_sub_eq_succ rfl) (.slice va m vc) m xs rfl ?_ ⟨w1.heap.size, 0, none⟩ 1 1 [.int .i64 x.k, .int .i64 x.n, .string ⟨x.t.toArray⟩, .slice kx2 x.keys.length kcx2, .slice ix2 x.items.length icx2] rfl rfl ?_ ?_ ?_ ?_ ?_ Nat.one_pos ?_
           exact HV.out.row1 HB1.out _
           exact news5 _ _ _ _ _ _ _
           exact ONE.out
           exact H63.out
           exact HBY.out
           exact HBA.out
           intro v' w2 hrow2 hgr2 hg2
           obtain ⟨va2, vc2, rfl⟩ := own_shape hrow2
           have t5 := cell_at (o := 4) (HV.out.t2 HB1.out hgr2) rfl
           have z5 := frozen_at 4 (HV.out.t2 HB1.out hgr2))
        | (go_simp; go_at_call 43; refine (HC.out _ (by first | exact HV.out.bel | exact HV.out.bel.drew)).mono ?_; rintro e w1 ⟨cs', rfl, hO, hBx⟩
           obtain ⟨kx2, kcx2, ix2, icx2, rfl⟩ := (OwnJ.rj _ _ _ hO).cells
           have HO : Hid (OwnJ w1 x (fun b => wr.heap.size ≤ b ∧ b < w1.heap.size) _) := hO
           have HB1 : Hid (Below wr.heap.size wr w1) := by first | exact (Below.refl _ _).drew.trans hBx | exact hBx
           have t4' := cell_at (o := 4) (HV.out.t1 HB1.out) rfl
           have z4' := frozen_at 4 (HV.out.t1 HB1.out)
           have hlt1 : w.heap.size + 1 < w1.heap.size := (Array.getElem?_eq_some_iff.1 (HV.out.t1 HB1.out)).1
           have HBA : Hid (w.heap.size + 2 ≤ (w1.alloc (.cells #[.int .i64 x.k, .int .i64 x.n, .string ⟨x.t.toArray⟩, .slice kx2 x.keys.length kcx2, .slice ix2 x.items.length icx2] 28)).heap.size) := by
             show _ ≤ _
             simp; omega
           have t4a : (w1.alloc (.cells #[.int .i64 x.k, .int .i64 x.n, .string ⟨x.t.toArray⟩, .slice kx2 x.keys.length kcx2, .slice ix2 x.items.length icx2] 28)).cell? ⟨w.heap.size + 1, 4, none⟩ = some (.slice va m vc) := cell_at (o := 4) (by rw [Below.heap_alloc _ _ _ hlt1]; exact HV.out.t1 HB1.out) rfl
           have ONE : Hid (∀ u ∈ [Value.int .i64 x.k, .int .i64 x.n, .string ⟨x.t.toArray⟩, .slice kx2 x.keys.length kcx2, .slice ix2 x.items.length icx2], u.oneCell' = true) := by
             intro u hu
             simp only [List.mem_cons, List.not_mem_nil, or_false] at hu
             rcases hu with rfl | rfl | rfl | rfl | rfl <;> rfl
           clear hO hBx))
      all_goals
        have HNX : Hid (∃ v xs X, LInv w (w2.setCell ⟨w.heap.size + 1, 4, none⟩ (.slice va2 (m + 1) vc2)) (⟨4, 0, [], [], L⟩ : J) w.heap.size (m + 1) (.slice none 0 0) none (fun _ => False) v xs X) := by
          exact ⟨_, _, _, HV.out.step HLT.out HB1.out hgr2 hrow2 hg2 rfl (Eq.mp (congrArg (fun y => OwnJ w1 y _ _) HXE.out) HO.out) HV.out.vlt⟩
        clear t4 z4 c0 t4' z4' t4a t5 z5 hrow2 hgr2 hg2 hlt1
        go_wp2_with fail
        go_roundw
        case rel => exact ⟨m + 1, by omega, by go_num, HNX.out⟩
        case measure => simp [intOf]; omega
    have hkd : decide ((m : Int) < (L.length : Int)) = false := by simp; omega
    obtain rfl : m = L.length := by omega
    have t0 := cell_at (o := 0) HV.out.b2 rfl
    have t1 := cell_at (o := 1) HV.out.b2 rfl
    have t2 := cell_at (o := 2) HV.out.b2 rfl
    have t3 := cell_at (o := 3) HV.out.b2 rfl
    have t4 := cell_at (o := 4) HV.out.b2 rfl
    have g0 := cell_at (o := 0) HV.out.b1 rfl
    have y0 := frozen_at 0 HV.out.b1
    have g1 := cell_at (o := 1) HV.out.b1 rfl
    have y1 := frozen_at 1 HV.out.b1
    have g2 := cell_at (o := 2) HV.out.b1 rfl
    have y2 := frozen_at 2 HV.out.b1
    have g3 := cell_at (o := 3) HV.out.b1 rfl
    have y3 := frozen_at 3 HV.out.b1
    have g4 := cell_at (o := 4) HV.out.b1 rfl
    have y4 := frozen_at 4 HV.out.b1
    go_wp2_with fail
    refine bodyPost_ret (v := .agg #[.int .i64 4, .int .i64 0, .string ⟨#[]⟩, .slice none 0 0, .slice va L.length vc]) (by simp [results, Try.results101, go_sem, g0, g1, g2, g3, g4]) rfl ⟨[.int .i64 4, .int .i64 0, .string ⟨#[]⟩, .slice none 0 0, .slice va L.length vc], rfl, ?_, fiveAt_below HV.out.bel (Nat.le_refl _) _ _ _ _ _⟩
    exact LInv.fin (j := (⟨4, 0, [], [], L⟩ : J)) (kc := 0) HV.out (by simp [maxLen]) (by simp) (by simp) (by have := HL.out; show L.length ≤ maxLen; unfold maxLen; omega) (fun c hc => fiveAt_heap _ _ _ _ _ _ _ _ hc) (fiveAt_size _ _ _ _ _ _ _)
end Go.Proofs.Ytkncpfhblciplaa
