import Derived.Test.YtkncpfhblciplaaWbs
namespace Go.Proofs.Ytkncpfhblciplaa
open Go.RowKit
set_option linter.unusedSimpArgs false
def djJ (d : List At) : J := match d with | [x] => ajJ x | _ => ⟨4, 0, [], [], [flJ 3 0 setW, ⟨4, 0, [], [], d.map ajJ⟩]⟩
theorem djJ1 {d : List At} (h : d.length = 1) : djJ d = ajJ (d[0]'(by omega)) := by
  match d, h with
  | [x], _ => rfl
theorem djJn {d : List At} (h : d.length ≠ 1) : djJ d = ⟨4, 0, [], [], [flJ 3 0 setW, ⟨4, 0, [], [], d.map ajJ⟩]⟩ := by
  match d, h with
  | [], _ => rfl
  | [x], h => exact absurd rfl h
  | x :: y :: l, _ => rfl
def RdE (j : J) (w : World) (e : Ending) (w' : World) : Prop := ∃ cs, e = .returned (.agg cs.toArray) ∧ RJ w' (fun _ => True) j cs ∧ Below w.heap.size w w'
theorem RdE.of {j : J} {w w' : World} {r : Nat} {u0 u1 u2 u3 u4 : Value} (hr : w.heap.size = r) (hB : Below w.heap.size w w') (hj : RJ w' (fun b => r < b) j [u0, u1, u2, u3, u4]) : RdE j w (.returned (.agg #[u0, u1, u2, u3, u4])) (fiveAt w' r u0 u1 u2 u3 u4) :=
  ⟨[u0, u1, u2, u3, u4], rfl, RJ.same (fun b hb => fiveAt_heap _ _ _ _ _ _ _ _ (by omega)) (fun _ _ => trivial) _ _ hj, fiveAt_below hB (by omega) _ _ _ _ _⟩
theorem rj_pair {w : World} {j0 j1 : J} {q c : Nat} {B : Nat → Prop} {a0 a1 a2 a3 a4 b0 b1 b2 b3 b4 : Value} (hB : B q ∧ q < w.heap.size) (h0 : RJ w B j0 [a0, a1, a2, a3, a4]) (h1 : RJ w B j1 [b0, b1, b2, b3, b4])
    (h : ∀ o u, [a0, a1, a2, a3, a4, b0, b1, b2, b3, b4][o]? = some u → w.cell? ⟨q, o, none⟩ = some u) : RJ w B ⟨4, 0, [], [], [j0, j1]⟩ [.int .i64 4, .int .i64 0, .string ⟨#[]⟩, .slice none 0 0, .slice (some ⟨q, 0, none⟩) 2 c] := by
  rw [RJ_eq]
  refine ⟨none, 0, some ⟨q, 0, none⟩, c, rfl, by simp, by simp, by simp [maxLen], by simp, .inl rfl, .inr ⟨q, 0, rfl, hB.1, fun i hi => ?_⟩⟩
  match i, hi with
  | 0, _ => exact ⟨[a0, a1, a2, a3, a4], fun o v hv => by
      have h9 := h (0 * 5 + o) v (by have ho := (List.getElem?_eq_some_iff.1 hv).1; simp at ho; rcases (by omega : o = 0 ∨ o = 1 ∨ o = 2 ∨ o = 3 ∨ o = 4) with rfl | rfl | rfl | rfl | rfl <;> exact hv)
      simpa using h9, h0⟩
  | 1, _ => exact ⟨[b0, b1, b2, b3, b4], fun o v hv => by
      rw [Nat.zero_add]; exact h (1 * 5 + o) v (by have ho := (List.getElem?_eq_some_iff.1 hv).1; simp at ho; rcases (by omega : o = 0 ∨ o = 1 ∨ o = 2 ∨ o = 3 ∨ o = 4) with rfl | rfl | rfl | rfl | rfl <;> exact hv), h1⟩
set_option maxRecDepth 100000 in
set_option maxHeartbeats 12800000 in
theorem datumJS (d : List At) (a : Option Addr) (c S : Nat) (w : World) (hl : d.length ≤ 100000) (hx : ∀ x ∈ d, x.t.length ≤ maxLen) (hw : S ≤ w.heap.size) (hA : Ats w (· < S) a d) :
    Calls Try.prog 55 #[.slice a d.length c] w (RdE (djJ d) w) := by
  have HL := Lib.hid hl
  have HX : Hid (∀ i (h : i < d.length), d[i].t.length ≤ maxLen) := fun i h => hx _ (List.getElem_mem h)
  have AT : Hid (∀ W, Below w.heap.size w W → Ats W (· < S) a d) := fun W h => hA.below (h.mono hw)
  have hb := Lib.hid (one_box w #[.int .i64 0, .int .i64 0, .string ⟨#[]⟩, .slice none 0 0, .slice none 0 0] 28)
  have HA := Lib.hid hA
  clear hl hx hw hA
  go_enter Try.func55, Try.ntmps55
  go_upto_region 1 with fail
  obtain ⟨W0, hW0⟩ : ∃ W, W = w.alloc (.cells #[.int .i64 0, .int .i64 0, .string ⟨#[]⟩, .slice none 0 0, .slice none 0 0] 28) := ⟨_, rfl⟩
  have HS0 : Hid (W0.heap.size = w.heap.size + 1) := by rw [hW0]; show _ = _; simp
  rw [← hW0] at hb ⊢
  clear hW0
  by_cases h1 : d.length = 1
  case pos =>
    obtain ⟨b, off, rfl, -, -⟩ := HA.out.item 0 (by omega)
    have hk1 : ((d.length : Int) == 1) = true := by simp; omega
    have hk0 : (0 : Int) < (d.length : Int) := by omega
    have HJ := Lib.hid (djJ1 h1)
    obtain ⟨x, hx⟩ : ∃ x, x = d[0] := ⟨_, rfl⟩
    have HT : Hid (x.t.length ≤ maxLen) := by rw [hx]; exact HX.out 0 (by omega)
    have CE : Hid (∀ W, Below w.heap.size w W → W.cell? ⟨b, off, none⟩ = some (.int .i64 x.k) ∧ W.cell? ⟨b, off + 1, none⟩ = some (.int .i64 x.n) ∧ W.cell? ⟨b, off + 2, none⟩ = some (.string ⟨x.t.toArray⟩)) := fun W hB => by
      have f := (AT.out _ hB).three 0 (by omega)
      rw [Nat.zero_mul, Nat.add_zero] at f
      rw [hx]; exact f
    rw [← hx] at HJ
    clear hx
    obtain ⟨c0, c1, c2⟩ := CE.out _ hb.out.2
    have g0 := cell_at (o := 0) hb.out.1 rfl
    have y0 := frozen_at 0 hb.out.1
    have g1 := cell_at (o := 1) hb.out.1 rfl
    have y1 := frozen_at 1 hb.out.1
    have g2 := cell_at (o := 2) hb.out.1 rfl
    have y2 := frozen_at 2 hb.out.1
    have g3 := cell_at (o := 3) hb.out.1 rfl
    have y3 := frozen_at 3 hb.out.1
    have g4 := cell_at (o := 4) hb.out.1 rfl
    have y4 := frozen_at 4 hb.out.1
    go_wp2_with fail
    refine (atomJO x _ HT.out).mono ?_
    rintro e w1 ⟨cs1, rfl, ho, hB⟩
    obtain ⟨k9, kc9, i9, ic9, rfl⟩ := (OwnJ.rj _ _ _ ho).cells
    have H1 : Hid (Below w.heap.size w w1 ∧ w1.heap[w.heap.size]? = some (.cells #[.int .i64 0, .int .i64 0, .string ⟨#[]⟩, .slice none 0 0, .slice none 0 0] 28)) := ⟨hb.out.2.trans (hB.mono hb.out.2.size), heap_kept2 hb.out.1 hB⟩
    have HO : Hid (RJ w1 (fun b => w.heap.size < b) (ajJ x) _) := RJ.same (fun _ _ => rfl) (fun b hb2 => by have h1 := (Array.getElem?_eq_some_iff.1 hb.out.1).1; have := hb2.1; omega) _ _ (OwnJ.rj _ _ _ ho)
    clear ho hB g0 y0 g1 y1 g2 y2 g3 y3 g4 y4
    have g0 := cell_at (o := 0) H1.out.2 rfl
    have y0 := frozen_at 0 H1.out.2
    have g1 := cell_at (o := 1) H1.out.2 rfl
    have y1 := frozen_at 1 H1.out.2
    have g2 := cell_at (o := 2) H1.out.2 rfl
    have y2 := frozen_at 2 H1.out.2
    have g3 := cell_at (o := 3) H1.out.2 rfl
    have y3 := frozen_at 3 H1.out.2
    have g4 := cell_at (o := 4) H1.out.2 rfl
    have y4 := frozen_at 4 H1.out.2
    generalize ajJ x = j at *
    go_wp2_with fail
    exact bodyPost_ret (v := .agg #[.int .i64 j.k, .int .i64 j.n, .string ⟨j.t.toArray⟩, .slice k9 j.keys.length kc9, .slice i9 j.items.length ic9]) (by simp [results, Try.results55, go_sem, g0, g1, g2, g3, g4]) rfl (by rw [HJ.out]; exact RdE.of rfl H1.out.1 HO.out)
  have hk1 : ((d.length : Int) == 1) = false := by simp; omega
  have HJ := Lib.hid (djJn h1)
  clear h1
  go_wp2_with fail
  refine (nilLS _).mono ?_
  rintro e w1 ⟨q1, rfl, hq1, hqb, hB⟩
  obtain ⟨B, hBB⟩ : ∃ n, n = w1.heap.size := ⟨_, rfl⟩
  have HI0 : Hid (LInvG W0 (w1.alloc (.cells #[.int .i64 4, .int .i64 0, .string ⟨#[]⟩, .slice none 0 0, .slice (some ⟨q1, 0, none⟩) 0 0] 28)) (⟨4, 0, [], [], d.map ajJ⟩ : J) W0.heap.size B 0 (.slice (some ⟨q1, 0, none⟩) 0 0) [] (fun _ _ => False)) := by
    have hqlt := (Array.getElem?_eq_some_iff.1 hqb).1
    have h9 := one_box w1 #[.int .i64 4, .int .i64 0, .string ⟨#[]⟩, .slice none 0 0, .slice (some ⟨q1, 0, none⟩) 0 0] 28
    exact linvg_start (by rw [hBB]; exact h9.1) ⟨rfl, .inr ⟨q1, 0, #[], rfl, hq1, heap_kept2 hqb h9.2, Nat.le_refl _, by unfold maxLen; omega, by simp, by simp⟩⟩ (fun g hg => by simp [Value.ownBlock] at hg; omega) (by have := hB.size; omega) (hB.trans (h9.2.mono hB.size))
  have hs0 : W0.heap.size = w.heap.size + 1 := by have h1 := hb.out.2.size; exact HS0.out
  clear hB hq1 hqb
  obtain ⟨W2, hW2⟩ : ∃ W, W = w1.alloc (.cells #[.int .i64 4, .int .i64 0, .string ⟨#[]⟩, .slice none 0 0, .slice (some ⟨q1, 0, none⟩) 0 0] 28) := ⟨_, rfl⟩
  go_upto_region 4 with fail
  rw [← hBB]
  rw [← hW2] at HI0 ⊢
  clear hW2 hBB hs0
  go_wp2_with fail
  go_loopw [4] (fun iv wr => ∃ m : Nat, m ≤ d.length ∧ iv = .int .i64 (m : Int) ∧ Hid (∃ v xs X, LInvG W0 wr (⟨4, 0, [], [], d.map ajJ⟩ : J) W0.heap.size B m v xs X)) (fun iv _ => d.length - (intOf iv).toNat)
  case atStart => exact ⟨0, Nat.zero_le _, rfl, _, _, _, HI0.out⟩
  case round =>
    obtain ⟨m, hm, rfl, HX9⟩ := hrel
    obtain ⟨v, xs, X, hv⟩ := HX9.out
    obtain ⟨va, vc, rfl⟩ := own_shape hv.row
    have HV := Lib.hid hv
    clear HX9 hv
    by_cases hlt : m < d.length
    case pos =>
      have hki : (m : Int) < (d.length : Int) := by omega
      have f1 : IntKind.i64.wrap ((m : Int) + 1) = ((m + 1 : Nat) : Int) := by have := HL.out; rw [IntKind.wrap_i64]; omega
      obtain ⟨b, off, rfl, -, -⟩ := HA.out.item m hlt
      obtain ⟨x, hx⟩ : ∃ x, x = d[m] := ⟨_, rfl⟩
      have HT : Hid (x.t.length ≤ maxLen) := by rw [hx]; exact HX.out m hlt
      have CE : Hid (∀ W, Below w.heap.size w W → W.cell? ⟨b, off + m * 3, none⟩ = some (.int .i64 x.k) ∧ W.cell? ⟨b, off + m * 3 + 1, none⟩ = some (.int .i64 x.n) ∧ W.cell? ⟨b, off + m * 3 + 2, none⟩ = some (.string ⟨x.t.toArray⟩)) := fun W hB => by rw [hx]; exact (AT.out _ hB).three m hlt
      have HBW : Hid (Below w.heap.size w wr) := hb.out.2.trans (HV.out.bel.mono hb.out.2.size)
      obtain ⟨c0, c1, c2⟩ := CE.out _ HBW.out
      have HXE : Hid (∀ (h : m < ((⟨4, 0, [], [], d.map ajJ⟩ : J)).items.length), ((⟨4, 0, [], [], d.map ajJ⟩ : J)).items[m] = ajJ x) := fun h => by simp [hx]
      clear hx
      have t4 := cell_at (o := 4) HV.out.b2 rfl
      have z4 := frozen_at 4 HV.out.b2
      have H63 : Hid (m + 1 ≤ maxLen) := by have := HL.out; show m + 1 ≤ maxLen; unfold maxLen; omega
      have HBY : Hid ((m + 1) * 80 ≤ 140737488355328) := by have := HL.out; show (m + 1) * 80 ≤ 140737488355328; omega
      obtain ⟨iJ, hiJ⟩ := infoJ
      have HIJ := Lib.hid hiJ
      clear hiJ
      have HLT : Hid (m < ((⟨4, 0, [], [], d.map ajJ⟩ : J)).items.length) := by show _ < _; simpa using hlt
      go_wp2_with fail
      go_region_law (first
        | (refine step_append_own2 rfl (.tmp 20) (.tmp 26) 26 rfl W0.heap.size 28 iJ (.agg zero5) 5 80 Try.underlying26 HIJ.out.1 HIJ.out.2.1 HIJ.out.2.2.1 HIJ.out.2.2.2 rfl (Nat.lt_of_sub_eq_succ rfl) (.slice va m vc) m xs rfl ?_ ⟨w2.heap.size, 0, none⟩ 1 1 [.int .i64 y.k, .int .i64 y.n, .string ⟨y.t.toArray⟩, .slice kx2 y.keys.length kcx2, .slice ix2 y.items.length icx2] rfl rfl ?_ ?_ ?_ ?_ ?_ Nat.one_pos ?_
           exact HV.out.row1 HB1.out _
           exact news5 _ _ _ _ _ _ _
           exact ONE.out
           exact H63.out
           exact HBY.out
           exact HBA.out
           intro v' w3 hrow2 hgr2 hg2
           obtain ⟨va2, vc2, rfl⟩ := own_shape hrow2
           have t5 := cell_at (o := 4) (HV.out.t2 HB1.out hgr2) rfl
           have z5 := frozen_at 4 (HV.out.t2 HB1.out hgr2))
        | (go_simp; go_at_call 41; refine (atomJO x _ HT.out).mono ?_; rintro e w2 ⟨cs', rfl, hO, hBx⟩
           obtain ⟨kx2, kcx2, ix2, icx2, rfl⟩ := (OwnJ.rj _ _ _ hO).cells
           obtain ⟨y, hy⟩ : ∃ y, y = ajJ x := ⟨_, rfl⟩
           rw [← hy] at hO ⊢
           have HXF : Hid (∀ (h : m < ((⟨4, 0, [], [], d.map ajJ⟩ : J)).items.length), ((⟨4, 0, [], [], d.map ajJ⟩ : J)).items[m] = y) := fun h => (HXE.out h).trans hy.symm
           clear hy
           have HO : Hid (OwnJ w2 y (fun b => wr.heap.size ≤ b ∧ b < w2.heap.size) _) := hO
           have HB1 : Hid (Below wr.heap.size wr w2) := by first | exact (Below.refl _ _).drew.trans hBx | exact hBx
           have t4' := cell_at (o := 4) (HV.out.t1 HB1.out) rfl
           have z4' := frozen_at 4 (HV.out.t1 HB1.out)
           have hlt1 : B < w2.heap.size := (Array.getElem?_eq_some_iff.1 (HV.out.t1 HB1.out)).1
           have HBA : Hid (W0.heap.size ≤ (w2.alloc (.cells #[.int .i64 y.k, .int .i64 y.n, .string ⟨y.t.toArray⟩, .slice kx2 y.keys.length kcx2, .slice ix2 y.items.length icx2] 28)).heap.size) := by
             show _ ≤ _
             have := HV.out.lo
             simp; omega
           have t4a : (w2.alloc (.cells #[.int .i64 y.k, .int .i64 y.n, .string ⟨y.t.toArray⟩, .slice kx2 y.keys.length kcx2, .slice ix2 y.items.length icx2] 28)).cell? ⟨B, 4, none⟩ = some (.slice va m vc) := cell_at (o := 4) (by rw [Below.heap_alloc _ _ _ hlt1]; exact HV.out.t1 HB1.out) rfl
           have ONE : Hid (∀ u ∈ [Value.int .i64 y.k, .int .i64 y.n, .string ⟨y.t.toArray⟩, .slice kx2 y.keys.length kcx2, .slice ix2 y.items.length icx2], u.oneCell' = true) := by
             intro u hu
             simp only [List.mem_cons, List.not_mem_nil, or_false] at hu
             rcases hu with rfl | rfl | rfl | rfl | rfl <;> rfl
           clear hO hBx))
      all_goals
        have HNX : Hid (∃ v xs X, LInvG W0 (w3.setCell ⟨B, 4, none⟩ (.slice va2 (m + 1) vc2)) (⟨4, 0, [], [], d.map ajJ⟩ : J) W0.heap.size B (m + 1) v xs X) := by
          exact ⟨_, _, _, HV.out.step HLT.out HB1.out hgr2 hrow2 hg2 rfl (by rw [HXF.out HLT.out]; exact HO.out)⟩
        clear t4 z4 c0 c1 c2 t4' z4' t4a t5 z5 hrow2 hgr2 hg2 hlt1
        go_wp2_with fail
        go_roundw
        case rel => exact ⟨m + 1, by omega, by go_num, HNX.out⟩
        case measure => simp [intOf]; omega
    have hkd : decide ((m : Int) < (d.length : Int)) = false := by simp; omega
    obtain rfl : m = d.length := by omega
    have t0 := cell_at (o := 0) HV.out.b2 rfl
    have t1 := cell_at (o := 1) HV.out.b2 rfl
    have t2 := cell_at (o := 2) HV.out.b2 rfl
    have t3 := cell_at (o := 3) HV.out.b2 rfl
    have t4 := cell_at (o := 4) HV.out.b2 rfl
    have hz := heap_kept2 hb.out.1 HV.out.bel
    have g0 := cell_at (o := 0) hz rfl
    have y0 := frozen_at 0 hz
    have g1 := cell_at (o := 1) hz rfl
    have y1 := frozen_at 1 hz
    have g2 := cell_at (o := 2) hz rfl
    have y2 := frozen_at 2 hz
    have g3 := cell_at (o := 3) hz rfl
    have y3 := frozen_at 3 hz
    have g4 := cell_at (o := 4) hz rfl
    have y4 := frozen_at 4 hz
    clear hz
    have TT : Hid (∀ W, Calls Try.prog 74 #[.string ⟨#[115, 101, 116]⟩] W fun e w' => e = .returned (.agg #[.int .i64 3, .int .i64 0, .string ⟨#[115, 101, 116]⟩, .slice none 0 0, .slice none 0 0]) ∧ Below W.heap.size W w') := fun W => tS setW W
    have PL : Hid (∀ g W, W.heap[g]? = some (.cells #[.int .i64 3, .int .i64 0, .string ⟨#[115, 101, 116]⟩, .slice none 0 0, .slice none 0 0, .int .i64 4, .int .i64 0, .string ⟨#[]⟩, .slice none 0 0, .slice va d.length vc] 28) → Calls Try.prog 76 #[.slice (some ⟨g, 0, none⟩) 2 2] W (PairAns [.int .i64 3, .int .i64 0, .string ⟨#[115, 101, 116]⟩, .slice none 0 0, .slice none 0 0, .int .i64 4, .int .i64 0, .string ⟨#[]⟩, .slice none 0 0, .slice va d.length vc] W)) := fun g W h => pairLX _ rfl (fun u hu => by
      simp only [List.mem_cons, List.not_mem_nil, or_false] at hu
      rcases hu with rfl | rfl | rfl | rfl | rfl | rfl | rfl | rfl | rfl | rfl <;> rfl) g W h
    have HLJ : Hid (RJ wr (fun b => w.heap.size < b) (⟨4, 0, [], [], d.map ajJ⟩ : J) [.int .i64 4, .int .i64 0, .string ⟨#[]⟩, .slice none 0 0, .slice va d.length vc]) := by
      have hV := HV.out
      have hlm : d.length = ((⟨4, 0, [], [], d.map ajJ⟩ : J)).items.length := by simp
      have h := LInvG.fin (j := (⟨4, 0, [], [], d.map ajJ⟩ : J)) (va := va) (vc := vc) (xs := xs) (X := X) (by rw [← hlm]; exact hV) (by simp) rfl (by rw [← hlm]; have := HL.out; unfold maxLen; omega)
      rw [← hlm] at h
      exact RJ.same (fun _ _ => rfl) (fun b hb2 => by have := hb2.1; have := HS0.out; omega) _ _ (OwnJ.rj _ _ _ h)
    have HBW : Hid (Below w.heap.size w wr ∧ w.heap.size < wr.heap.size) := ⟨hb.out.2.trans (HV.out.bel.mono hb.out.2.size), by have := HV.out.bel.size; have := HS0.out; omega⟩
    have HRZ : Hid (wr.heap[w.heap.size]? = some (.cells #[.int .i64 0, .int .i64 0, .string ⟨#[]⟩, .slice none 0 0, .slice none 0 0] 28)) := heap_kept2 hb.out.1 HV.out.bel
    go_wp2_with fail
    go_region_with (first
      | (go_at_call 74; refine (TT.out _).mono ?_; rintro e wT ⟨rfl, hB⟩; have HBT : Hid (Below wr.heap.size wr wT) := (by first | exact hB | exact (Below.refl _ _).drew.trans hB); clear hB t0 t1 t2 t3 t4; have t0 := cell_at (o := 0) (heap_kept2 HV.out.b2 HBT.out) rfl; have t1 := cell_at (o := 1) (heap_kept2 HV.out.b2 HBT.out) rfl; have t2 := cell_at (o := 2) (heap_kept2 HV.out.b2 HBT.out) rfl; have t3 := cell_at (o := 3) (heap_kept2 HV.out.b2 HBT.out) rfl; have t4 := cell_at (o := 4) (heap_kept2 HV.out.b2 HBT.out) rfl)
      | (go_at_call 76; refine (PL.out _ _ (heap_new' wT (.cells #[.int .i64 3, .int .i64 0, .string ⟨#[115, 101, 116]⟩, .slice none 0 0, .slice none 0 0, .int .i64 4, .int .i64 0, .string ⟨#[]⟩, .slice none 0 0, .slice va d.length vc] 28) rfl)).mono ?_; rintro e w9 ⟨q9, ic9, rfl, hq9, hq9', hr, hB⟩; have HB9 : Hid (Below wr.heap.size wr w9) := (by have h9 := (HBT.out.trans ((one_box wT #[.int .i64 3, .int .i64 0, .string ⟨#[115, 101, 116]⟩, .slice none 0 0, .slice none 0 0, .int .i64 4, .int .i64 0, .string ⟨#[]⟩, .slice none 0 0, .slice va d.length vc] 28).2.mono HBT.out.size)); exact h9.trans (hB.mono h9.size)); have HQ9 : Hid (w.heap.size < q9 ∧ q9 < w9.heap.size) := ⟨by have h1 := HBT.out.size; have h2 := HBW.out.2; simp at hq9; omega, hq9'⟩; have HR9 := Lib.hid hr; have hz9 := heap_kept2 HRZ.out HB9.out; clear g0 g1 g2 g3 g4 y0 y1 y2 y3 y4; have g0 := cell_at (o := 0) hz9 rfl; have y0 := frozen_at 0 hz9; have g1 := cell_at (o := 1) hz9 rfl; have y1 := frozen_at 1 hz9; have g2 := cell_at (o := 2) hz9 rfl; have y2 := frozen_at 2 hz9; have g3 := cell_at (o := 3) hz9 rfl; have y3 := frozen_at 3 hz9; have g4 := cell_at (o := 4) hz9 rfl; have y4 := frozen_at 4 hz9; clear hz9 hB hq9 hq9' hr))
    all_goals
      go_wp2_with fail
      refine bodyPost_ret (v := .agg #[.int .i64 4, .int .i64 0, .string ⟨#[]⟩, .slice none 0 0, .slice (some ⟨q9, 0, none⟩) 2 ic9]) (by simp [results, Try.results55, go_sem, g0, g1, g2, g3, g4]) rfl ?_
      rw [HJ.out]
      exact RdE.of rfl (HBW.out.1.trans (HB9.out.mono HBW.out.1.size)) (rj_pair HQ9.out (rj_flat _ _ _ _ _ (by simp [setW, maxLen])) (RJ.same (fun b hb2 => HB9.out.block b hb2.2) (fun _ h => h.1) _ _ (RJ.inside _ _ HLJ.out)) (fun o u hu => (HR9.out o u hu).1))
end Go.Proofs.Ytkncpfhblciplaa
