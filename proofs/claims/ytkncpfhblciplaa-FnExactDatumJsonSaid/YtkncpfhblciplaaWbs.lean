import Derived.Test.YtkncpfhblciplaaWbr
namespace Go.Proofs.Ytkncpfhblciplaa
open Go.RowKit
set_option linter.unusedSimpArgs false
theorem run_append_items0 (wx : World) (g : Nat) (ty : TypeId) :
    (Builtin.append_ #[26, 26] ty #[.slice (some ⟨g, 0, none⟩) 0 0, .slice none 0 0]).run Try.prog wx = .ok (.slice (some ⟨g, 0, none⟩) 0 0) wx := by
  obtain ⟨i9, hi9, hz9, hs9, hb9⟩ := infoJ
  simp [Builtin.append_, run_underlying Try.underlying26, sizeOf, typeInfo, zeroValue, hi9, hz9, Builtin.lenOf, run_firstCells_none, storeCells]
def NilAns (w : World) (e : Ending) (w' : World) : Prop := ∃ q, e = .returned (.agg #[.int .i64 4, .int .i64 0, .string ⟨#[]⟩, .slice none 0 0, .slice (some ⟨q, 0, none⟩) 0 0]) ∧ w.heap.size ≤ q ∧ w'.heap[q]? = some (.cells #[] 28) ∧ Below w.heap.size w w'
def PairAns (P : List Value) (w : World) (e : Ending) (w' : World) : Prop := ∃ q c, e = .returned (.agg #[.int .i64 4, .int .i64 0, .string ⟨#[]⟩, .slice none 0 0, .slice (some ⟨q, 0, none⟩) 2 c]) ∧ w.heap.size < q ∧ q < w'.heap.size ∧ (∀ o u, P[o]? = some u → w'.cell? ⟨q, o, none⟩ = some u ∧ w'.frozen? ⟨q, o, none⟩ = false) ∧ Below w.heap.size w w'
set_option maxRecDepth 100000 in
set_option maxHeartbeats 6400000 in
theorem nilLS (w : World) : Calls Try.prog 76 #[.slice none 0 0] w (NilAns w) := by
  have hb := Lib.hid (one_box w #[.int .i64 0, .int .i64 0, .string ⟨#[]⟩, .slice none 0 0, .slice none 0 0] 28)
  go_enter Try.func76, Try.ntmps76
  go_upto_region 1 with fail
  obtain ⟨W0, hW0⟩ : ∃ W, W = w.alloc (.cells #[.int .i64 0, .int .i64 0, .string ⟨#[]⟩, .slice none 0 0, .slice none 0 0] 28) := ⟨_, rfl⟩
  rw [← hW0] at hb ⊢
  clear hW0
  have HRUN := Lib.hid (run_append_items0 (W0.alloc (.cells #[] 28)) W0.heap.size 26)
  have HB : Hid (Below w.heap.size w (W0.alloc (.cells #[] 28)) ∧ (W0.alloc (.cells #[] 28)).heap[w.heap.size]? = some (.cells #[.int .i64 0, .int .i64 0, .string ⟨#[]⟩, .slice none 0 0, .slice none 0 0] 28)) := ⟨hb.out.2.trans ((one_box W0 _ _).2.mono hb.out.2.size), heap_kept2 hb.out.1 (one_box W0 _ _).2⟩
  have g0 := cell_at (o := 0) HB.out.2 rfl
  have y0 := frozen_at 0 HB.out.2
  have g1 := cell_at (o := 1) HB.out.2 rfl
  have y1 := frozen_at 1 HB.out.2
  have g2 := cell_at (o := 2) HB.out.2 rfl
  have y2 := frozen_at 2 HB.out.2
  have g3 := cell_at (o := 3) HB.out.2 rfl
  have y3 := frozen_at 3 HB.out.2
  have g4 := cell_at (o := 4) HB.out.2 rfl
  have y4 := frozen_at 4 HB.out.2
  go_wp2_with (at_builtin; go_must (refine wpList_append_isW rfl (.tmp 3) (.tmp 4) 26 rfl _ _ rfl rfl _ _ HRUN.out ?_))
  refine bodyPost_ret (v := .agg #[.int .i64 4, .int .i64 0, .string ⟨#[]⟩, .slice none 0 0, .slice (some ⟨W0.heap.size, 0, none⟩) 0 0]) (by simp [results, Try.results76, go_sem, g0, g1, g2, g3, g4]) rfl ⟨_, rfl, hb.out.2.size, ?_, fiveAt_below HB.out.1 (Nat.le_refl _) _ _ _ _ _⟩
  refine (fiveAt_heap _ _ _ _ _ _ _ _ ?_).trans (one_box W0 _ _).1
  have := (Array.getElem?_eq_some_iff.1 hb.out.1).1; omega
set_option maxRecDepth 100000 in
set_option maxHeartbeats 12800000 in
theorem pairLX (P : List Value) (hP : P.length = 10) (hPo : ∀ u ∈ P, u.oneCell' = true) (g : Nat) (w : World) (hg : w.heap[g]? = some (.cells P.toArray 28)) :
    Calls Try.prog 76 #[.slice (some ⟨g, 0, none⟩) 2 2] w (PairAns P w) := by
  obtain ⟨iJ, hiJ, hzJ, hsJ, hbJ⟩ := infoJ
  have hb := Lib.hid (one_box w #[.int .i64 0, .int .i64 0, .string ⟨#[]⟩, .slice none 0 0, .slice none 0 0] 28)
  go_enter Try.func76, Try.ntmps76
  go_upto_region 1 with fail
  obtain ⟨W0, hW0⟩ : ∃ W, W = w.alloc (.cells #[.int .i64 0, .int .i64 0, .string ⟨#[]⟩, .slice none 0 0, .slice none 0 0] 28) := ⟨_, rfl⟩
  rw [← hW0] at hb ⊢
  clear hW0
  have hlt : g < w.heap.size := (Array.getElem?_eq_some_iff.1 hg).1
  have hB1 : Below W0.heap.size W0 (W0.alloc (.cells #[] 28)) := (Below.refl _ _).alloc (Nat.le_refl _) _
  have hg2 : (W0.alloc (.cells #[] 28)).heap[g]? = some (.cells P.toArray 28) := heap_kept2 (heap_kept2 hg hb.out.2) hB1
  obtain ⟨v2, w2, hrun, hown, hgr, g2, hv2, hg2b⟩ := run_append_own2 (P := Try.prog) (W0.alloc (.cells #[] 28)) W0.heap.size 26 26 28 iJ (.agg zero5) 5 80 Try.underlying26 hiJ hzJ hsJ hbJ rfl (by omega) (.slice (some ⟨W0.heap.size, 0, none⟩) 0 0) 0 [] ⟨rfl, .inr ⟨W0.heap.size, 0, #[], rfl, Nat.le_refl _, heap_new' _ _ rfl, Nat.le_refl _, by unfold maxLen; omega, by simp, by simp⟩⟩ ⟨g, 0, none⟩ 2 2 P (by omega)
    (fun o u hu => by rw [Addr.add_mid, Nat.zero_add]; exact cell_at hg2 (by rw [← Array.getElem?_toList]; exact hu))
    hPo (by unfold maxLen; omega) (by omega) (by simp) (by omega)
  have HR : Hid (∃ (q c : Nat), v2 = .slice (some ⟨q, 0, none⟩) 2 c ∧ W0.heap.size ≤ q ∧ q < w2.heap.size ∧ (∀ o u, P[o]? = some u → w2.cell? ⟨q, o, none⟩ = some u ∧ w2.frozen? ⟨q, o, none⟩ = false)) := by
    rcases hown.2 with ⟨rfl, h0⟩ | ⟨q, cap, cur, rfl, hq, hbq, -, -, -, hx⟩
    · cases hv2
    · refine ⟨q, cap, rfl, hq, (Array.getElem?_eq_some_iff.1 hbq).1, fun o u hu => ?_⟩
      have ho := (List.getElem?_eq_some_iff.1 hu).1
      have h1 : (cur.toList.take ((0 + 2) * 5))[o]? = some u := by rw [hx]; exact hu
      rw [List.getElem?_take_of_lt (by omega), Array.getElem?_toList] at h1
      simp [World.cell?, World.frozen?, hbq, h1]
  have HB : Hid (Below w.heap.size w w2 ∧ w2.heap[w.heap.size]? = some (.cells #[.int .i64 0, .int .i64 0, .string ⟨#[]⟩, .slice none 0 0, .slice none 0 0] 28)) := by
    have h1 := hb.out.2
    have hsz : w.heap.size < W0.heap.size := (Array.getElem?_eq_some_iff.1 hb.out.1).1
    refine ⟨?_, ?_⟩
    · have h2 := h1.trans (hB1.mono h1.size)
      exact ⟨hgr.os.trans h2.os, hgr.tape.trans h2.tape, hgr.output.trans h2.output, Nat.le_trans h2.size hgr.size, fun b hlt => (hgr.block b (Nat.lt_of_lt_of_le hlt h2.size) (fun e => by simp [Value.ownBlock] at e; omega)).trans (h2.block b hlt)⟩
    · rw [hgr.block _ (by simp; omega) (fun e => by simp [Value.ownBlock] at e; omega), hB1.block _ hsz]; exact hb.out.1
  have HRUN := Lib.hid hrun
  obtain ⟨q, c, rfl, hrest⟩ := HR.out
  have HQ := Lib.hid hrest
  clear hrun hown hgr hv2 hg2b hg2 hB1 hg hlt HR hrest hP hPo

  have g0 := cell_at (o := 0) HB.out.2 rfl
  have y0 := frozen_at 0 HB.out.2
  have g1 := cell_at (o := 1) HB.out.2 rfl
  have y1 := frozen_at 1 HB.out.2
  have g2 := cell_at (o := 2) HB.out.2 rfl
  have y2 := frozen_at 2 HB.out.2
  have g3 := cell_at (o := 3) HB.out.2 rfl
  have y3 := frozen_at 3 HB.out.2
  have g4 := cell_at (o := 4) HB.out.2 rfl
  have y4 := frozen_at 4 HB.out.2
  go_wp2_with (at_builtin; go_must (refine wpList_append_isW rfl (.tmp 3) (.tmp 4) 26 rfl _ _ rfl rfl _ _ HRUN.out ?_))
  have hs0 := (Array.getElem?_eq_some_iff.1 hb.out.1).1
  refine bodyPost_ret (v := .agg #[.int .i64 4, .int .i64 0, .string ⟨#[]⟩, .slice none 0 0, .slice (some ⟨q, 0, none⟩) 2 c]) (by simp [results, Try.results76, go_sem, g0, g1, g2, g3, g4]) rfl ⟨q, c, rfl, by have := HQ.out.1; omega, Nat.lt_of_lt_of_eq HQ.out.2.1 (fiveAt_size _ _ _ _ _ _ _).symm, fun o u hu => ?_, fiveAt_below HB.out.1 (Nat.le_refl _) _ _ _ _ _⟩
  have hh := fiveAt_heap w2 w.heap.size (.int .i64 4) (.int .i64 0) (.string ⟨#[]⟩) (.slice none 0 0) (.slice (some ⟨q, 0, none⟩) 2 c) q (by have := HQ.out.1; omega)
  obtain ⟨h1, h2⟩ := HQ.out.2.2 o u hu
  exact ⟨(World.cell?_of_block (w := w2) (a := ⟨q, o, none⟩) hh).trans h1, (World.frozen?_of_block (w := w2) (a := ⟨q, o, none⟩) hh).trans h2⟩
theorem own_pair {w : World} {k0 n0 k1 n1 : Int} {t0 t1 : List UInt8} {q c : Nat} {B : Nat → Prop} (h0 : t0.length ≤ maxLen) (h1 : t1.length ≤ maxLen) (hB : B q)
    (h : ∀ o u, [Value.int .i64 k0, .int .i64 n0, .string ⟨t0.toArray⟩, .slice none 0 0, .slice none 0 0, .int .i64 k1, .int .i64 n1, .string ⟨t1.toArray⟩, .slice none 0 0, .slice none 0 0][o]? = some u → w.cell? ⟨q, o, none⟩ = some u ∧ w.frozen? ⟨q, o, none⟩ = false) :
    OwnJ w ⟨4, 0, [], [], [flJ k0 n0 t0, flJ k1 n1 t1]⟩ B [.int .i64 4, .int .i64 0, .string ⟨#[]⟩, .slice none 0 0, .slice (some ⟨q, 0, none⟩) 2 c] := by
  rw [OwnJ_eq]
  refine ⟨none, 0, some ⟨q, 0, none⟩, c, fun _ => False, fun b => b = q, rfl, by simp, by simp, by simp [maxLen], by simp, .inl rfl, fun _ h => h.elim, fun b hb => by rw [hb]; exact hB, ?_⟩
  refine OwnJsons.of_row (b := q) (off := 0) (f := fun o => [Value.int .i64 k0, .int .i64 n0, .string ⟨t0.toArray⟩, .slice none 0 0, .slice none 0 0, .int .i64 k1, .int .i64 n1, .string ⟨t1.toArray⟩, .slice none 0 0, .slice none 0 0].getD o default) (X := fun _ _ => False) (fun _ => ⟨rfl, rfl⟩) (fun _ _ h => h.elim) ⟨fun o ho => ?_, fun _ _ h => h.elim, fun _ _ _ h => h.elim, fun i hi => ?_⟩
  · rw [Nat.zero_add]
    refine h o _ ?_
    rw [List.getD_eq_getElem?_getD]
    rw [List.getElem?_eq_getElem (by simpa using ho)]
    rfl
  · match i, hi with
    | 0, _ => exact own_flat _ _ _ _ _ h0
    | 1, _ => exact own_flat _ _ _ _ _ h1
theorem JoE.finA {j : J} {w W : World} {ac rc : Array Value} {u0 u1 u2 u3 u4 : Value} (h : ArB w W ac rc) (hr : OwnJ W j (fun b => w.heap.size + 1 < b ∧ b < W.heap.size) [u0, u1, u2, u3, u4]) : JoE j w (.returned (.agg #[u0, u1, u2, u3, u4])) (fiveAt W (w.heap.size + 1) u0 u1 u2 u3 u4) :=
  JoE.fin h.bel (by omega) hr
set_option maxRecDepth 100000 in
set_option maxHeartbeats 12800000 in
theorem atomJO (x : At) (w : World) (ht : x.t.length ≤ maxLen) : Calls Try.prog 41 #[.agg #[.int .i64 x.k, .int .i64 x.n, .string ⟨x.t.toArray⟩]] w (JoE (ajJ x) w) := by
  have HT := Lib.hid ht
  have H0 := Lib.hid (ArB.first w #[.int .i64 x.k, .int .i64 x.n, .string ⟨x.t.toArray⟩] #[.int .i64 0, .int .i64 0, .string ⟨#[]⟩, .slice none 0 0, .slice none 0 0])
  clear ht
  go_enter Try.func41, Try.ntmps41
  go_upto_region 1 with fail
  obtain ⟨W0, hW0⟩ : ∃ W, W = ((w.alloc (.cells #[.int .i64 x.k, .int .i64 x.n, .string ⟨x.t.toArray⟩] 31)).alloc (.cells #[.int .i64 0, .int .i64 0, .string ⟨#[]⟩, .slice none 0 0, .slice none 0 0] 28)) := ⟨_, rfl⟩
  rw [← hW0] at H0 ⊢
  clear hW0
  have x0 := cell_at (o := 0) H0.out.ba rfl
  have x1 := cell_at (o := 1) H0.out.ba rfl
  have x2 := cell_at (o := 2) H0.out.ba rfl
  have g0 := cell_at (o := 0) H0.out.br rfl
  have y0 := frozen_at 0 H0.out.br
  have g1 := cell_at (o := 1) H0.out.br rfl
  have y1 := frozen_at 1 H0.out.br
  have g2 := cell_at (o := 2) H0.out.br rfl
  have y2 := frozen_at 2 H0.out.br
  have g3 := cell_at (o := 3) H0.out.br rfl
  have y3 := frozen_at 3 H0.out.br
  have g4 := cell_at (o := 4) H0.out.br rfl
  have y4 := frozen_at 4 H0.out.br
  by_cases h1 : x.k = 1
  case pos =>
    have e1 : (x.k == 1) = true := by rw [h1]; rfl
    have e2 : (x.k == 2) = false := by rw [h1]; rfl
    have e3 : (x.k == 3) = false := by rw [h1]; rfl
    have HA := Lib.hid (ajJ1 h1)
    clear h1
    go_wp2_with fail
    refine (nS x.n _).mono ?_
    rintro e w1 ⟨rfl, hB⟩
    have H1 := Lib.hid (H0.out.later hB)
    clear hB H0 x0 x1 x2 g0 y0 g1 y1 g2 y2 g3 y3 g4 y4
    have x0 := cell_at (o := 0) H1.out.ba rfl
    have x1 := cell_at (o := 1) H1.out.ba rfl
    have x2 := cell_at (o := 2) H1.out.ba rfl
    have g0 := cell_at (o := 0) H1.out.br rfl
    have y0 := frozen_at 0 H1.out.br
    have g1 := cell_at (o := 1) H1.out.br rfl
    have y1 := frozen_at 1 H1.out.br
    have g2 := cell_at (o := 2) H1.out.br rfl
    have y2 := frozen_at 2 H1.out.br
    have g3 := cell_at (o := 3) H1.out.br rfl
    have y3 := frozen_at 3 H1.out.br
    have g4 := cell_at (o := 4) H1.out.br rfl
    have y4 := frozen_at 4 H1.out.br
    go_wp2_with fail
    exact bodyPost_ret (v := .agg #[.int .i64 2, .int .i64 x.n, .string ⟨#[]⟩, .slice none 0 0, .slice none 0 0]) (by simp [results, Try.results41, go_sem, g0, g1, g2, g3, g4]) rfl (by rw [HA.out]; exact JoE.finA H1.out (own_flat _ _ _ _ _ (by first | exact HT.out | simp [maxLen])))
  by_cases h2 : x.k = 2
  case pos =>
    have e1 : (x.k == 1) = false := by rw [h2]; rfl
    have e2 : (x.k == 2) = true := by rw [h2]; rfl
    have e3 : (x.k == 3) = false := by rw [h2]; rfl
    have HA := Lib.hid (ajJ2 h2)
    clear h2
    go_wp2_with fail
    refine (tS x.t _).mono ?_
    rintro e w1 ⟨rfl, hB⟩
    have H1 := Lib.hid (H0.out.later hB)
    clear hB H0 x0 x1 x2 g0 y0 g1 y1 g2 y2 g3 y3 g4 y4
    have x0 := cell_at (o := 0) H1.out.ba rfl
    have x1 := cell_at (o := 1) H1.out.ba rfl
    have x2 := cell_at (o := 2) H1.out.ba rfl
    have g0 := cell_at (o := 0) H1.out.br rfl
    have y0 := frozen_at 0 H1.out.br
    have g1 := cell_at (o := 1) H1.out.br rfl
    have y1 := frozen_at 1 H1.out.br
    have g2 := cell_at (o := 2) H1.out.br rfl
    have y2 := frozen_at 2 H1.out.br
    have g3 := cell_at (o := 3) H1.out.br rfl
    have y3 := frozen_at 3 H1.out.br
    have g4 := cell_at (o := 4) H1.out.br rfl
    have y4 := frozen_at 4 H1.out.br
    go_wp2_with fail
    exact bodyPost_ret (v := .agg #[.int .i64 3, .int .i64 0, .string ⟨x.t.toArray⟩, .slice none 0 0, .slice none 0 0]) (by simp [results, Try.results41, go_sem, g0, g1, g2, g3, g4]) rfl (by rw [HA.out]; exact JoE.finA H1.out (own_flat _ _ _ _ _ (by first | exact HT.out | simp [maxLen])))
  by_cases h3 : x.k = 3
  case pos =>
    have e1 : (x.k == 1) = false := by rw [h3]; rfl
    have e2 : (x.k == 2) = false := by rw [h3]; rfl
    have e3 : (x.k == 3) = true := by rw [h3]; rfl
    obtain ⟨nn, hnn⟩ : ∃ nn : Int, nn = (if (x.n == 1) = true then 1 else 0) := ⟨_, rfl⟩
    have HNN := Lib.hid hnn
    have HA : Hid (ajJ x = flJ 1 nn []) := by show _ = _; rw [ajJ3 h3, hnn]; by_cases h : x.n = 1 <;> simp [h]
    clear hnn
    clear h3
    go_wp2_with fail
    refine (bS0 (x.n == 1) nn HNN.out _).mono ?_
    rintro e w1 ⟨rfl, hB⟩
    have H1 := Lib.hid (H0.out.later hB)
    clear hB H0 x0 x1 x2 g0 y0 g1 y1 g2 y2 g3 y3 g4 y4
    have x0 := cell_at (o := 0) H1.out.ba rfl
    have x1 := cell_at (o := 1) H1.out.ba rfl
    have x2 := cell_at (o := 2) H1.out.ba rfl
    have g0 := cell_at (o := 0) H1.out.br rfl
    have y0 := frozen_at 0 H1.out.br
    have g1 := cell_at (o := 1) H1.out.br rfl
    have y1 := frozen_at 1 H1.out.br
    have g2 := cell_at (o := 2) H1.out.br rfl
    have y2 := frozen_at 2 H1.out.br
    have g3 := cell_at (o := 3) H1.out.br rfl
    have y3 := frozen_at 3 H1.out.br
    have g4 := cell_at (o := 4) H1.out.br rfl
    have y4 := frozen_at 4 H1.out.br
    go_wp2_with fail
    exact bodyPost_ret (v := .agg #[.int .i64 1, .int .i64 nn, .string ⟨#[]⟩, .slice none 0 0, .slice none 0 0]) (by simp [results, Try.results41, go_sem, g0, g1, g2, g3, g4]) rfl (by rw [HA.out]; exact JoE.finA H1.out (own_flat _ _ _ _ _ (by first | exact HT.out | simp [maxLen])))
  have e1 : (x.k == 1) = false := by simpa using h1
  have e2 : (x.k == 2) = false := by simpa using h2
  have e3 : (x.k == 3) = false := by simpa using h3
  have HA := Lib.hid (ajJ4 h1 h2 h3)
  clear h1 h2 h3
  have TT : Hid (∀ W, Calls Try.prog 74 #[.string ⟨#[117, 117, 105, 100]⟩] W fun e w' => e = .returned (.agg #[.int .i64 3, .int .i64 0, .string ⟨#[117, 117, 105, 100]⟩, .slice none 0 0, .slice none 0 0]) ∧ Below W.heap.size W w') := fun W => tS uuidW W
  have PL : Hid (∀ g W, W.heap[g]? = some (.cells #[.int .i64 3, .int .i64 0, .string ⟨#[117, 117, 105, 100]⟩, .slice none 0 0, .slice none 0 0, .int .i64 2, .int .i64 x.n, .string ⟨#[]⟩, .slice none 0 0, .slice none 0 0] 28) → Calls Try.prog 76 #[.slice (some ⟨g, 0, none⟩) 2 2] W (PairAns [.int .i64 3, .int .i64 0, .string ⟨#[117, 117, 105, 100]⟩, .slice none 0 0, .slice none 0 0, .int .i64 2, .int .i64 x.n, .string ⟨#[]⟩, .slice none 0 0, .slice none 0 0] W)) := fun g W h => pairLX _ rfl (fun u hu => by
    simp only [List.mem_cons, List.not_mem_nil, or_false] at hu
    rcases hu with rfl | rfl | rfl | rfl | rfl | rfl | rfl | rfl | rfl | rfl <;> rfl) g W h
  have HD := Lib.hid H0.out.drew
  go_wp2_with fail
  go_region_with (first
    | (go_at_call 74; refine (TT.out _).mono ?_; rintro e wT ⟨rfl, hB⟩; (first | (have HT2 := Lib.hid (HN2.out.later hB)) | (have HT2 := Lib.hid (HD.out.later hB)) | (have HT2 := Lib.hid (H0.out.later hB))); clear hB; clear x0 x1 x2; have x0 := cell_at (o := 0) HT2.out.ba rfl; have x1 := cell_at (o := 1) HT2.out.ba rfl; have x2 := cell_at (o := 2) HT2.out.ba rfl)
    | (go_at_call 73; refine (nS x.n _).mono ?_; rintro e wN ⟨rfl, hB⟩; (first | (have HN2 := Lib.hid (HT2.out.later hB)) | (have HN2 := Lib.hid (HD.out.later hB)) | (have HN2 := Lib.hid (H0.out.later hB))); clear hB; clear x0 x1 x2; have x0 := cell_at (o := 0) HN2.out.ba rfl; have x1 := cell_at (o := 1) HN2.out.ba rfl; have x2 := cell_at (o := 2) HN2.out.ba rfl)
    | (go_at_call 76; (first | (refine (PL.out _ _ (heap_new' wN (.cells #[.int .i64 3, .int .i64 0, .string ⟨#[117, 117, 105, 100]⟩, .slice none 0 0, .slice none 0 0, .int .i64 2, .int .i64 x.n, .string ⟨#[]⟩, .slice none 0 0, .slice none 0 0] 28) rfl)).mono ?_; rintro e w9 ⟨q9, ic9, rfl, hq9, hq9', hr, hB⟩; have HL := Lib.hid (ArB.later (HN2.out.later (one_box wN (#[.int .i64 3, .int .i64 0, .string ⟨#[117, 117, 105, 100]⟩, .slice none 0 0, .slice none 0 0, .int .i64 2, .int .i64 x.n, .string ⟨#[]⟩, .slice none 0 0, .slice none 0 0]) 28).2) hB)) | (refine (PL.out _ _ (heap_new' wT (.cells #[.int .i64 3, .int .i64 0, .string ⟨#[117, 117, 105, 100]⟩, .slice none 0 0, .slice none 0 0, .int .i64 2, .int .i64 x.n, .string ⟨#[]⟩, .slice none 0 0, .slice none 0 0] 28) rfl)).mono ?_; rintro e w9 ⟨q9, ic9, rfl, hq9, hq9', hr, hB⟩; have HL := Lib.hid (ArB.later (HT2.out.later (one_box wT (#[.int .i64 3, .int .i64 0, .string ⟨#[117, 117, 105, 100]⟩, .slice none 0 0, .slice none 0 0, .int .i64 2, .int .i64 x.n, .string ⟨#[]⟩, .slice none 0 0, .slice none 0 0]) 28).2) hB))); have HQ9 := Lib.hid (And.intro hq9 hq9'); have HR9 := Lib.hid hr; have hz9 := (HL.out.br); have g0 := cell_at (o := 0) hz9 rfl; have g1 := cell_at (o := 1) hz9 rfl; have g2 := cell_at (o := 2) hz9 rfl; have g3 := cell_at (o := 3) hz9 rfl; have g4 := cell_at (o := 4) hz9 rfl; have y0 := frozen_at 0 hz9; have y1 := frozen_at 1 hz9; have y2 := frozen_at 2 hz9; have y3 := frozen_at 3 hz9; have y4 := frozen_at 4 hz9; clear hz9 hB hq9 hq9' hr))
  all_goals
    go_wp2_with fail
    refine bodyPost_ret (v := .agg #[.int .i64 4, .int .i64 0, .string ⟨#[]⟩, .slice none 0 0, .slice (some ⟨q9, 0, none⟩) 2 ic9]) (by simp [results, Try.results41, go_sem, g0, g1, g2, g3, g4]) rfl (by rw [HA.out]; exact JoE.finA HL.out (own_pair (by simp [uuidW, maxLen]) (by simp [maxLen]) (by have h2 := HQ9.out; simp at h2; (first | (have h1 := (Array.getElem?_eq_some_iff.1 HN2.out.br).1; omega) | (have h1 := (Array.getElem?_eq_some_iff.1 HT2.out.br).1; omega))) HR9.out))
end Go.Proofs.Ytkncpfhblciplaa
