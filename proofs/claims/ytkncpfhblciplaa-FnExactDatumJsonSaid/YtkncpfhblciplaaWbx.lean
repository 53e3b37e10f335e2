import Derived.Test.YtkncpfhblciplaaWbw
import Derived.Test.YtkncpfhblciplaaWbj
namespace Go.Proofs.Ytkncpfhblciplaa
open Go.RowKit
set_option linter.unusedSimpArgs false
theorem own_pair2 {w : World} {j0 j1 : J} {q c : Nat} {B Y : Nat → Prop} {a0 a1 a2 a3 a4 b0 b1 b2 b3 b4 : Value} (hB : B q) (hY : ∀ c, Y c → B c ∧ c ≠ q) (h0 : OwnJ w j0 (fun _ => False) [a0, a1, a2, a3, a4]) (h1 : OwnJ w j1 Y [b0, b1, b2, b3, b4])
    (h : ∀ o u, [a0, a1, a2, a3, a4, b0, b1, b2, b3, b4][o]? = some u → w.cell? ⟨q, o, none⟩ = some u ∧ w.frozen? ⟨q, o, none⟩ = false) :
    OwnJ w ⟨4, 0, [], [], [j0, j1]⟩ B [.int .i64 4, .int .i64 0, .string ⟨#[]⟩, .slice none 0 0, .slice (some ⟨q, 0, none⟩) 2 c] := by
  rw [OwnJ_eq]
  refine ⟨none, 0, some ⟨q, 0, none⟩, c, fun _ => False, fun b => b = q ∨ Y b, rfl, by simp, by simp, by simp [maxLen], by simp, .inl rfl, fun _ h => h.elim, fun b hb => hb.elim (fun e => e ▸ hB) (fun hb => (hY _ hb).1), ?_⟩
  refine OwnJsons.of_row (b := q) (off := 0) (f := fun o => [a0, a1, a2, a3, a4, b0, b1, b2, b3, b4].getD o default) (X := fun i c => i = 1 ∧ Y c) (fun _ => ⟨rfl, .inl rfl⟩) (fun _ _ h => .inr h.2) ⟨fun o ho => ?_, fun _ c h e => (hY c h.2).2 e, fun _ _ _ h h' => h.1.trans h'.1.symm, fun i hi => ?_⟩
  · rw [Nat.zero_add]
    refine h o _ ?_
    rw [List.getD_eq_getElem?_getD]
    rw [List.getElem?_eq_getElem (by simpa using ho)]
    rfl
  · match i, hi with
    | 0, _ => exact OwnJ.same _ (fun _ => False) _ _ (fun _ _ => rfl) (fun _ h => h.elim) h0
    | 1, _ => exact OwnJ.same _ Y _ _ (fun _ _ => rfl) (fun _ h => ⟨rfl, h⟩) h1
set_option maxRecDepth 100000 in
set_option maxHeartbeats 12800000 in
theorem datumJI (d : List At) (a : Option Addr) (c S : Nat) (w : World) (hl : d.length ≤ 100000) (hx : ∀ x ∈ d, x.t.length ≤ maxLen) (hw : S ≤ w.heap.size) (hA : Ats w (· < S) a d) :
    Calls Try.prog 82 #[.slice a d.length c] w (JoE (djJ d) w) := by
  have HX : Hid (∀ i (h : i < d.length), d[i].t.length ≤ maxLen) := fun i h => hx _ (List.getElem_mem h)
  have AT : Hid (∀ W, Below w.heap.size w W → Ats W (· < S) a d) := fun W h => hA.below (h.mono hw)
  have LA : Hid (∀ W, Below w.heap.size w W → Calls Try.prog 102 #[.slice a d.length c] W (JoE (⟨4, 0, [], [], d.map ajJ⟩ : J) W)) := fun W h => listOfAt d a c S W hl hx (Nat.le_trans hw h.size) (hA.below (h.mono hw))
  have HA := Lib.hid hA
  clear hl hx hw hA
  have hb := Lib.hid (one_box w #[.int .i64 0, .int .i64 0, .string ⟨#[]⟩, .slice none 0 0, .slice none 0 0] 28)
  go_enter Try.func82, Try.ntmps82
  go_upto_region 1 with fail
  obtain ⟨W0, hW0⟩ : ∃ W, W = w.alloc (.cells #[.int .i64 0, .int .i64 0, .string ⟨#[]⟩, .slice none 0 0, .slice none 0 0] 28) := ⟨_, rfl⟩
  have HS0 : Hid (W0.heap.size = w.heap.size + 1) := by rw [hW0]; show _ = _; simp
  rw [← hW0] at hb ⊢
  clear hW0
  by_cases h1 : d.length = 1
  case pos =>
    obtain ⟨b, off, rfl, -, -⟩ := HA.out.item 0 (by omega)
    have hk1 : ((d.length : Int) == 1) = true := by simp; omega
    have hk0 : (0 : Int) < (d.length : Int) := by omega
    have HJ := Lib.hid (djJ1 h1)
    obtain ⟨x, hx⟩ : ∃ x, x = d[0] := ⟨_, rfl⟩
    have HT : Hid (x.t.length ≤ maxLen) := by rw [hx]; exact HX.out 0 (by omega)
    have CE : Hid (∀ W, Below w.heap.size w W → W.cell? ⟨b, off, none⟩ = some (.int .i64 x.k) ∧ W.cell? ⟨b, off + 1, none⟩ = some (.int .i64 x.n) ∧ W.cell? ⟨b, off + 2, none⟩ = some (.string ⟨x.t.toArray⟩)) := fun W hB => by
      have f := (AT.out _ hB).three 0 (by omega)
      rw [Nat.zero_mul, Nat.add_zero] at f
      rw [hx]; exact f
    rw [← hx] at HJ
    clear hx
    obtain ⟨c0, c1, c2⟩ := CE.out _ hb.out.2
    have g0 := cell_at (o := 0) hb.out.1 rfl
    have y0 := frozen_at 0 hb.out.1
    have g1 := cell_at (o := 1) hb.out.1 rfl
    have y1 := frozen_at 1 hb.out.1
    have g2 := cell_at (o := 2) hb.out.1 rfl
    have y2 := frozen_at 2 hb.out.1
    have g3 := cell_at (o := 3) hb.out.1 rfl
    have y3 := frozen_at 3 hb.out.1
    have g4 := cell_at (o := 4) hb.out.1 rfl
    have y4 := frozen_at 4 hb.out.1
    go_wp2_with fail
    refine (jsonOfA x _ HT.out).mono ?_
    rintro e w1 ⟨cs1, rfl, ho, hB⟩
    obtain ⟨k9, kc9, i9, ic9, rfl⟩ := (OwnJ.rj _ _ _ ho).cells
    have H1 : Hid (Below w.heap.size w w1 ∧ w1.heap[w.heap.size]? = some (.cells #[.int .i64 0, .int .i64 0, .string ⟨#[]⟩, .slice none 0 0, .slice none 0 0] 28)) := ⟨hb.out.2.trans (hB.mono hb.out.2.size), heap_kept2 hb.out.1 hB⟩
    have HO : Hid (OwnJ w1 (ajJ x) (fun b => w.heap.size < b ∧ b < w1.heap.size) _) := OwnJ.same _ _ _ _ (fun _ _ => rfl) (fun b hb2 => ⟨by have h1 := HS0.out; have := hb2.1; omega, hb2.2⟩) ho
    clear ho hB g0 y0 g1 y1 g2 y2 g3 y3 g4 y4
    have g0 := cell_at (o := 0) H1.out.2 rfl
    have y0 := frozen_at 0 H1.out.2
    have g1 := cell_at (o := 1) H1.out.2 rfl
    have y1 := frozen_at 1 H1.out.2
    have g2 := cell_at (o := 2) H1.out.2 rfl
    have y2 := frozen_at 2 H1.out.2
    have g3 := cell_at (o := 3) H1.out.2 rfl
    have y3 := frozen_at 3 H1.out.2
    have g4 := cell_at (o := 4) H1.out.2 rfl
    have y4 := frozen_at 4 H1.out.2
    generalize ajJ x = j at *
    go_wp2_with fail
    exact bodyPost_ret (v := .agg #[.int .i64 j.k, .int .i64 j.n, .string ⟨j.t.toArray⟩, .slice k9 j.keys.length kc9, .slice i9 j.items.length ic9]) (by simp [results, Try.results82, go_sem, g0, g1, g2, g3, g4]) rfl (by rw [HJ.out]; exact JoE.fin H1.out.1 (Nat.le_refl _) HO.out)
  have hk1 : ((d.length : Int) == 1) = false := by simp; omega
  have HJ := Lib.hid (djJn h1)
  clear h1
  go_wp2_with fail
  refine (LA.out _ hb.out.2).mono ?_
  rintro e w1 ⟨cs1, rfl, ho, hB⟩
  obtain ⟨k9, kc9, i9, ic9, rfl⟩ := (OwnJ.rj _ _ _ ho).cells
  have H1 : Hid (Below w.heap.size w w1 ∧ w1.heap[w.heap.size]? = some (.cells #[.int .i64 0, .int .i64 0, .string ⟨#[]⟩, .slice none 0 0, .slice none 0 0] 28)) := ⟨hb.out.2.trans (hB.mono hb.out.2.size), heap_kept2 hb.out.1 hB⟩
  have HO : Hid (OwnJ w1 (⟨4, 0, [], [], d.map ajJ⟩ : J) (fun b => w.heap.size < b ∧ b < w1.heap.size) _) := OwnJ.same _ _ _ _ (fun _ _ => rfl) (fun b hb2 => ⟨by have h1 := HS0.out; have := hb2.1; omega, hb2.2⟩) ho
  clear ho hB
  obtain ⟨j, hj⟩ : ∃ j, j = (⟨4, 0, [], [], d.map ajJ⟩ : J) := ⟨_, rfl⟩
  rw [← hj] at HO ⊢
  rw [← hj] at HJ
  clear hj
  have LX : Hid (Calls Try.prog 101 #[.slice (some ⟨w1.heap.size, 0, none⟩) 2 2] (w1.alloc (.cells #[.iface 9 (.string ⟨#[115, 101, 116]⟩), .iface 28 (.agg #[.int .i64 j.k, .int .i64 j.n, .string ⟨j.t.toArray⟩, .slice k9 j.keys.length kc9, .slice i9 j.items.length ic9])] 20)) (LxAns 2 [.int .i64 3, .int .i64 0, .string ⟨#[115, 101, 116]⟩, .slice none 0 0, .slice none 0 0, .int .i64 j.k, .int .i64 j.n, .string ⟨j.t.toArray⟩, .slice k9 j.keys.length kc9, .slice i9 j.items.length ic9] (w1.alloc (.cells #[.iface 9 (.string ⟨#[115, 101, 116]⟩), .iface 28 (.agg #[.int .i64 j.k, .int .i64 j.n, .string ⟨j.t.toArray⟩, .slice k9 j.keys.length kc9, .slice i9 j.items.length ic9])] 20)))) := listOfX [[Value.int .i64 3, .int .i64 0, .string ⟨#[115, 101, 116]⟩, .slice none 0 0, .slice none 0 0], [.int .i64 j.k, .int .i64 j.n, .string ⟨j.t.toArray⟩, .slice k9 j.keys.length kc9, .slice i9 j.items.length ic9]] w1.heap.size 2 _ (by simp) (by simp) (fun i hi => by
    match i, hi with
    | 0, _ => exact ⟨_, _, _, _, _, _, cell_at (o := 0) (one_box w1 _ _).1 rfl, rfl, (by intro x hx; simp only [List.mem_cons, List.not_mem_nil, or_false] at hx; rcases hx with rfl | rfl | rfl | rfl | rfl <;> rfl), fun W _ => jsonOfTX setW W⟩
    | 1, _ => exact ⟨_, _, _, _, _, _, cell_at (o := 1) (one_box w1 _ _).1 rfl, rfl, (by intro x hx; simp only [List.mem_cons, List.not_mem_nil, or_false] at hx; rcases hx with rfl | rfl | rfl | rfl | rfl <;> rfl), fun W _ => jsonOfJ j.k j.n ⟨j.t.toArray⟩ k9 i9 j.keys.length kc9 j.items.length ic9 W⟩)
  go_wp2_with fail
  refine LX.out.mono ?_
  rintro e w2 ⟨q9, ic, rfl, hq, hq2, hc, hB⟩
  have hB9 : Below w1.heap.size w1 w2 := (one_box w1 _ _).2.trans (hB.mono (one_box w1 _ _).2.size)
  have H2 : Hid (Below w.heap.size w w2 ∧ w2.heap[w.heap.size]? = some (.cells #[.int .i64 0, .int .i64 0, .string ⟨#[]⟩, .slice none 0 0, .slice none 0 0] 28)) := ⟨H1.out.1.trans (hB9.mono H1.out.1.size), heap_kept2 H1.out.2 hB9⟩
  have hq1 : w1.heap.size < q9 := by simp at hq; omega
  have HO2 : Hid (OwnJ w2 ⟨4, 0, [], [], [flJ 3 0 setW, j]⟩ (fun b => w.heap.size < b ∧ b < w2.heap.size) [.int .i64 4, .int .i64 0, .string ⟨#[]⟩, .slice none 0 0, .slice (some ⟨q9, 0, none⟩) 2 ic]) := own_pair2 (Y := fun b => w.heap.size < b ∧ b < w1.heap.size) ⟨by have := H1.out.1.size; omega, hq2⟩ (fun b hb2 => ⟨⟨hb2.1, by have := hb2.2; omega⟩, by have := hb2.2; omega⟩) (own_flat _ _ _ _ _ (by simp [setW, maxLen])) (OwnJ.same _ _ _ _ (fun b hb2 => hB9.block b hb2.2) (fun _ h => h) HO.out) hc
  clear hq hq2 hc hB hB9 hq1
  have g0 := cell_at (o := 0) H2.out.2 rfl
  have y0 := frozen_at 0 H2.out.2
  have g1 := cell_at (o := 1) H2.out.2 rfl
  have y1 := frozen_at 1 H2.out.2
  have g2 := cell_at (o := 2) H2.out.2 rfl
  have y2 := frozen_at 2 H2.out.2
  have g3 := cell_at (o := 3) H2.out.2 rfl
  have y3 := frozen_at 3 H2.out.2
  have g4 := cell_at (o := 4) H2.out.2 rfl
  have y4 := frozen_at 4 H2.out.2
  go_wp2_with fail
  exact bodyPost_ret (v := .agg #[.int .i64 4, .int .i64 0, .string ⟨#[]⟩, .slice none 0 0, .slice (some ⟨q9, 0, none⟩) 2 ic]) (by simp [results, Try.results82, go_sem, g0, g1, g2, g3, g4]) rfl (by rw [HJ.out]; exact JoE.fin H2.out.1 (Nat.le_refl _) HO2.out)
set_option maxRecDepth 100000 in
set_option maxHeartbeats 12800000 in
theorem jsonOfS (d : List At) (a : Option Addr) (c S : Nat) (w : World) (hl : d.length ≤ 100000) (hx : ∀ x ∈ d, x.t.length ≤ maxLen) (hw : S ≤ w.heap.size) (hA : Ats w (· < S) a d) :
    Calls Try.prog 43 #[.iface 48 (.slice a d.length c)] w (JoE (djJ d) w) := by
  have DI : Hid (∀ W, Below w.heap.size w W → Calls Try.prog 82 #[.slice a d.length c] W (JoE (djJ d) W)) := fun W h => datumJI d a c S W hl hx (Nat.le_trans hw h.size) (hA.below (h.mono hw))
  clear hl hx hw hA
  have hb := Lib.hid (one_box w #[.int .i64 0, .int .i64 0, .string ⟨#[]⟩, .slice none 0 0, .slice none 0 0] 28)
  go_enter Try.func43, Try.ntmps43
  go_upto_region 1 with fail
  obtain ⟨W0, hW0⟩ : ∃ W, W = w.alloc (.cells #[.int .i64 0, .int .i64 0, .string ⟨#[]⟩, .slice none 0 0, .slice none 0 0] 28) := ⟨_, rfl⟩
  have HS0 : Hid (W0.heap.size = w.heap.size + 1) := by rw [hW0]; show _ = _; simp
  rw [← hW0] at hb ⊢
  clear hW0
  have ta0 := jaSB (.slice a d.length c) W0
  have ta1 := jaSI (.slice a d.length c) W0
  have ta2 := jaST (.slice a d.length c) W0
  have ta3 := jaSA (.slice a d.length c) W0
  have ta4 := jaSS (.slice a d.length c) W0
  go_wp2_with fail
  refine (DI.out _ (by first | exact hb.out.2)).mono ?_
  rintro e w2 ⟨cs1, rfl, ho, hB⟩
  obtain ⟨k9, kc9, i9, ic9, rfl⟩ := (OwnJ.rj _ _ _ ho).cells
  have HO : Hid (OwnJ w2 (djJ d) (fun b => w.heap.size < b ∧ b < w2.heap.size) _) := OwnJ.same _ _ _ _ (fun _ _ => rfl) (fun b hb => ⟨by have h1 := HS0.out; have := hb.1; omega, hb.2⟩) ho
  have H2 : Hid (Below w.heap.size w w2 ∧ w2.heap[w.heap.size]? = some (.cells #[.int .i64 0, .int .i64 0, .string ⟨#[]⟩, .slice none 0 0, .slice none 0 0] 28)) := ⟨hb.out.2.trans (hB.mono hb.out.2.size), heap_kept2 hb.out.1 hB⟩
  clear ho hB
  have g0 := cell_at (o := 0) H2.out.2 rfl
  have y0 := frozen_at 0 H2.out.2
  have g1 := cell_at (o := 1) H2.out.2 rfl
  have y1 := frozen_at 1 H2.out.2
  have g2 := cell_at (o := 2) H2.out.2 rfl
  have y2 := frozen_at 2 H2.out.2
  have g3 := cell_at (o := 3) H2.out.2 rfl
  have y3 := frozen_at 3 H2.out.2
  have g4 := cell_at (o := 4) H2.out.2 rfl
  have y4 := frozen_at 4 H2.out.2
  generalize djJ d = j at *
  go_wp2_with fail
  exact bodyPost_ret (v := .agg #[.int .i64 j.k, .int .i64 j.n, .string ⟨j.t.toArray⟩, .slice k9 j.keys.length kc9, .slice i9 j.items.length ic9]) (by simp [results, Try.results43, go_sem, g0, g1, g2, g3, g4]) rfl (JoE.fin H2.out.1 (Nat.le_refl _) HO.out)
def DoAns (d : List At) (w : World) (e : Ending) (w' : World) : Prop := ∃ cs, e = .returned (.tuple #[.agg cs.toArray, .int .i64 (djR d).2]) ∧ OwnJ w' (djR d).1 (fun b => w.heap.size ≤ b ∧ b < w'.heap.size) cs ∧ Below w.heap.size w w'
theorem DoAns.of {d : List At} {j : J} {k : Int} {w w' : World} {r : Nat} {u0 u1 u2 u3 u4 : Value} (hr : w.heap.size = r) (hR : djR d = (j, k)) (hB : Below w.heap.size w w') (hj : OwnJ w' j (fun b => r < b ∧ b < w'.heap.size) [u0, u1, u2, u3, u4]) : DoAns d w (.returned (.tuple #[.agg #[u0, u1, u2, u3, u4], .int .i64 k])) (fiveAt w' r u0 u1 u2 u3 u4) :=
  ⟨[u0, u1, u2, u3, u4], by rw [hR], by rw [hR]; exact (fin_own hB (by omega) hj).1, (fin_own hB (by omega) hj).2⟩
set_option maxRecDepth 100000 in
set_option maxHeartbeats 12800000 in
theorem datumJsonI (d : List At) (a : Option Addr) (c S : Nat) (w : World) (hl : d.length ≤ maxLen) (hx : ∀ x ∈ d, x.t.length ≤ maxLen) (hw : S ≤ w.heap.size) (hA : Ats w (· < S) a d) :
    Calls Try.prog 23 #[.slice a d.length c] w (DoAns d w) := by
  have DO : Hid (∀ W, Below w.heap.size w W → Calls Try.prog 56 #[.slice a d.length c] W fun e w' => e = .returned (.bool (datumB d)) ∧ Below W.heap.size W w') := fun W h => datumOKi d a c S W hl hx (Nat.le_trans hw h.size) (hA.below (h.mono hw))
  have DJ : Hid (∀ W, d.length ≤ 100000 → Below w.heap.size w W → Calls Try.prog 43 #[.iface 48 (.slice a d.length c)] W (JoE (djJ d) W)) := fun W hl h => jsonOfS d a c S W hl hx (Nat.le_trans hw h.size) (hA.below (h.mono hw))
  clear hl hx hw hA
  have hb := Lib.hid (one_box w #[.int .i64 0, .int .i64 0, .string ⟨#[]⟩, .slice none 0 0, .slice none 0 0] 28)
  go_enter Try.func23, Try.ntmps23
  go_upto_region 1 with fail
  obtain ⟨W0, hW0⟩ : ∃ W, W = w.alloc (.cells #[.int .i64 0, .int .i64 0, .string ⟨#[]⟩, .slice none 0 0, .slice none 0 0] 28) := ⟨_, rfl⟩
  have HS0 : Hid (W0.heap.size = w.heap.size + 1) := by rw [hW0]; show _ = _; simp
  rw [← hW0] at hb ⊢
  clear hW0
  have g0 := cell_at (o := 0) hb.out.1 rfl
  have y0 := frozen_at 0 hb.out.1
  have g1 := cell_at (o := 1) hb.out.1 rfl
  have y1 := frozen_at 1 hb.out.1
  have g2 := cell_at (o := 2) hb.out.1 rfl
  have y2 := frozen_at 2 hb.out.1
  have g3 := cell_at (o := 3) hb.out.1 rfl
  have y3 := frozen_at 3 hb.out.1
  have g4 := cell_at (o := 4) hb.out.1 rfl
  have y4 := frozen_at 4 hb.out.1
  by_cases hlong : 4096 < d.length
  case pos =>
    have HR := Lib.hid (djR_long hlong)
    have hd : (4096 : Int) < (d.length : Int) := by omega
    clear hlong
    go_wp2_with fail
    exact bodyPost_ret (v := .tuple #[.agg #[.int .i64 0, .int .i64 0, .string ⟨#[]⟩, .slice none 0 0, .slice none 0 0], .int .i64 2]) (by simp [results, Try.results23, go_sem, g0, g1, g2, g3, g4]) rfl (DoAns.of rfl HR.out hb.out.2 (own_zero _ _))
  have hd : decide ((4096 : Int) < (d.length : Int)) = false := by simp; omega
  have HL : Hid (d.length ≤ 100000) := by show _ ≤ _; omega
  have HNL := Lib.hid hlong
  clear hlong
  go_wp2_with fail
  refine (DO.out _ hb.out.2).mono ?_
  rintro e w1 ⟨rfl, hB⟩
  have H1 : Hid (Below w.heap.size w w1 ∧ w1.heap[w.heap.size]? = some (.cells #[.int .i64 0, .int .i64 0, .string ⟨#[]⟩, .slice none 0 0, .slice none 0 0] 28)) := ⟨hb.out.2.trans (hB.mono hb.out.2.size), heap_kept2 hb.out.1 hB⟩
  have HS1 : Hid (w.heap.size < w1.heap.size) := by have := HS0.out; have := hB.size; show _ < _; omega
  clear hB hb g0 y0 g1 y1 g2 y2 g3 y3 g4 y4
  have g0 := cell_at (o := 0) H1.out.2 rfl
  have y0 := frozen_at 0 H1.out.2
  have g1 := cell_at (o := 1) H1.out.2 rfl
  have y1 := frozen_at 1 H1.out.2
  have g2 := cell_at (o := 2) H1.out.2 rfl
  have y2 := frozen_at 2 H1.out.2
  have g3 := cell_at (o := 3) H1.out.2 rfl
  have y3 := frozen_at 3 H1.out.2
  have g4 := cell_at (o := 4) H1.out.2 rfl
  have y4 := frozen_at 4 H1.out.2
  cases hok : datumB d
  case false =>
    have HR := Lib.hid (djR_bad HNL.out hok)
    clear hok
    go_wp2_with fail
    exact bodyPost_ret (v := .tuple #[.agg #[.int .i64 0, .int .i64 0, .string ⟨#[]⟩, .slice none 0 0, .slice none 0 0], .int .i64 1]) (by simp [results, Try.results23, go_sem, g0, g1, g2, g3, g4]) rfl (DoAns.of rfl HR.out H1.out.1 (own_zero _ _))
  have HR := Lib.hid (djR_ok HNL.out hok)
  clear hok
  go_wp2_with fail
  refine (DJ.out _ HL.out H1.out.1).mono ?_
  rintro e w2 ⟨cs2, rfl, ho, hB⟩
  obtain ⟨k9, kc9, i9, ic9, rfl⟩ := (OwnJ.rj _ _ _ ho).cells
  have H2 : Hid (Below w.heap.size w w2 ∧ w2.heap[w.heap.size]? = some (.cells #[.int .i64 0, .int .i64 0, .string ⟨#[]⟩, .slice none 0 0, .slice none 0 0] 28)) := ⟨H1.out.1.trans (hB.mono H1.out.1.size), heap_kept2 H1.out.2 hB⟩
  have HO : Hid (OwnJ w2 (djJ d) (fun b => w.heap.size < b ∧ b < w2.heap.size) _) := OwnJ.same _ _ _ _ (fun _ _ => rfl) (fun b hb => ⟨by have h1 := HS1.out; have := hb.1; omega, hb.2⟩) ho
  clear ho hB g0 y0 g1 y1 g2 y2 g3 y3 g4 y4
  have g0 := cell_at (o := 0) H2.out.2 rfl
  have y0 := frozen_at 0 H2.out.2
  have g1 := cell_at (o := 1) H2.out.2 rfl
  have y1 := frozen_at 1 H2.out.2
  have g2 := cell_at (o := 2) H2.out.2 rfl
  have y2 := frozen_at 2 H2.out.2
  have g3 := cell_at (o := 3) H2.out.2 rfl
  have y3 := frozen_at 3 H2.out.2
  have g4 := cell_at (o := 4) H2.out.2 rfl
  have y4 := frozen_at 4 H2.out.2
  generalize djJ d = j at *
  go_wp2_with fail
  exact bodyPost_ret (v := .tuple #[.agg #[.int .i64 j.k, .int .i64 j.n, .string ⟨j.t.toArray⟩, .slice k9 j.keys.length kc9, .slice i9 j.items.length ic9], .int .i64 0]) (by simp [results, Try.results23, go_sem, g0, g1, g2, g3, g4]) rfl (DoAns.of rfl HR.out H2.out.1 HO.out)
end Go.Proofs.Ytkncpfhblciplaa
