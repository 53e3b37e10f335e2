import Derived.Test.YtabdnienfdnejaaOwnB
namespace Go.Proofs.Ytabdnienfdnejaa
open Go.RowKit
set_option linter.unusedSimpArgs false
/-- what l01Field answers -/
def LFAns (j : J) (name : List UInt8) (B : Nat → Prop) (w : World) (e : Ending) (w' : World) : Prop :=
  Below w.heap.size w w' ∧ ((∃ i, ∃ (_ : i < j.items.length), ∃ cs', placeOf j.keys name = some i ∧ e = .returned (.tuple #[.agg cs'.toArray, .bool true]) ∧ RJ w' B j.items[i] cs') ∨
    (placeOf j.keys name = none ∧ e = .returned (.tuple #[.agg #[.int .i64 0, .int .i64 0, .string ⟨#[]⟩, .slice none 0 0, .slice none 0 0], .bool false])))
theorem place_first {keys : List (List UInt8)} {name : List UInt8} {i : Nat} (hi : i < keys.length) (he : keys.getD i [] = name) (hb : ∀ q, q < i → keys.getD q [] ≠ name) : placeOf keys name = some i := by
  unfold placeOf
  rw [List.find?_range_eq_some]
  refine ⟨by simpa using he, List.mem_range.2 hi, fun q hq => ?_⟩
  have := hb q hq
  cases e : (keys.getD q [] == name)
  · rfl
  · exact absurd (beq_iff_eq.1 e) this
set_option maxRecDepth 100000 in
set_option maxHeartbeats 3200000 in
theorem fieldLS (j : J) (cs : List Value) (name : ByteArray) (B : Nat → Prop) (w : World) (hk20 : j.keys.length ≤ 1048576) (hlen : j.keys.length = j.items.length) (hr : RJ w B j cs) :
    Calls Try.prog 14 #[.agg cs.toArray, .string name] w (LFAns j name.toList B w) := by
  rw [RJ_eq] at hr
  obtain ⟨ka, kc, ia, ic, rfl, -, hkl, hil, -, hks, hjs⟩ := hr
  have HI : Hid (Jsons w B ia j.items) := hjs
  have HLEN : Hid (j.keys.length = j.items.length) := hlen
  have hcell : ∃ b off, (0 < j.keys.length → ka = some ⟨b, off, none⟩) ∧ ∀ i, i < j.keys.length → w.cell? ⟨b, off + i, none⟩ = some (.string ⟨(j.keys.getD i []).toArray⟩) := by
    rcases hks with h | ⟨b, off, ha, _, hc⟩
    · exact ⟨0, 0, fun h' => absurd h (by omega), fun i hi => absurd h (by omega)⟩
    · exact ⟨b, off, fun _ => ha, fun i hi => by rw [List.getD_eq_getElem?_getD, List.getElem?_eq_getElem hi]; exact hc i hi⟩
  obtain ⟨bk, ok, ha, hc⟩ := hcell
  have HA : Hid (0 < j.keys.length → ka = some ⟨bk, ok, none⟩) := ha
  have HC : Hid (∀ i, i < j.keys.length → w.cell? ⟨bk, ok + i, none⟩ = some (.string ⟨(j.keys.getD i []).toArray⟩)) := hc
  have hB0 : Below w.heap.size w ((w.alloc (.cells #[.int .i64 j.k, .int .i64 j.n, .string ⟨j.t.toArray⟩, .slice ka j.keys.length kc, .slice ia j.items.length ic] 29)).alloc (.cells #[.int .i64 0, .int .i64 0, .string ⟨#[]⟩, .slice none 0 0, .slice none 0 0] 29)) := ((Below.refl _ _).alloc (Nat.le_refl _) _).alloc (by simp) _
  obtain ⟨b0, b1, -, -⟩ := two (w := w) (Below.refl ((w.alloc (.cells #[.int .i64 j.k, .int .i64 j.n, .string ⟨j.t.toArray⟩, .slice ka j.keys.length kc, .slice ia j.items.length ic] 29)).alloc (.cells #[.int .i64 0, .int .i64 0, .string ⟨#[]⟩, .slice none 0 0, .slice none 0 0] 29)).heap.size ((w.alloc (.cells #[.int .i64 j.k, .int .i64 j.n, .string ⟨j.t.toArray⟩, .slice ka j.keys.length kc, .slice ia j.items.length ic] 29)).alloc (.cells #[.int .i64 0, .int .i64 0, .string ⟨#[]⟩, .slice none 0 0, .slice none 0 0] 29)))
  obtain ⟨W0, hW0⟩ : ∃ W0, W0 = ((w.alloc (.cells #[.int .i64 j.k, .int .i64 j.n, .string ⟨j.t.toArray⟩, .slice ka j.keys.length kc, .slice ia j.items.length ic] 29)).alloc (.cells #[.int .i64 0, .int .i64 0, .string ⟨#[]⟩, .slice none 0 0, .slice none 0 0] 29)) := ⟨_, rfl⟩
  rw [← hW0] at hB0 b0 b1
  have x3 := cell_at (o := 3) b0 rfl
  have x4 := cell_at (o := 4) b0 rfl
  have g0 := cell_at (o := 0) b1 rfl
  have g1 := cell_at (o := 1) b1 rfl
  have g2 := cell_at (o := 2) b1 rfl
  have g3 := cell_at (o := 3) b1 rfl
  have g4 := cell_at (o := 4) b1 rfl
  have y0 := frozen_at 0 b1
  have y1 := frozen_at 1 b1
  have y2 := frozen_at 2 b1
  have y3 := frozen_at 3 b1
  have y4 := frozen_at 4 b1
  have HB0 : Hid (Below w.heap.size w W0) := hB0
  clear ha hc hks hjs hkl hil hlen b0 b1 hB0
  go_enter Try.func14, Try.ntmps14
  go_upto_region 1 with fail
  rw [← hW0]
  clear hW0
  go_wp2_with fail
  go_loop [6] (fun x => ∃ i : Nat, i ≤ j.keys.length ∧ x = .int .i64 i ∧ Hid (∀ q, q < i → j.keys.getD q [] ≠ name.toList)) (fun x => j.keys.length - (intOf x).toNat)
  case atStart => exact ⟨0, Nat.zero_le _, rfl, fun q h => absurd h (by omega)⟩
  case round =>
    obtain ⟨i, hi, rfl, HL⟩ := hrel
    by_cases hlt : i < j.keys.length
    · have hlt' : (i : Int) < (j.keys.length : Int) := by omega
      obtain rfl := HA.out (by omega)
      have hc : W0.cell? ⟨bk, ok + i, none⟩ = some (.string ⟨(j.keys.getD i []).toArray⟩) := by
        rw [HB0.out.cell (World.block_lt_of_cell? _ _ (HC.out i hlt))]; exact HC.out i hlt
      have hii : i < j.items.length := by have := HLEN.out; omega
      have hii' : (i : Int) < (j.items.length : Int) := by omega
      cases he : (j.keys.getD i [] == name.toList)
      · have HL2 : Hid (∀ q, q < i + 1 → j.keys.getD q [] ≠ name.toList) := by
          intro q hq
          by_cases e : q = i
          · subst e; intro e2; rw [e2] at he; simp at he
          · exact HL.out q (by omega)
        generalize j.keys.getD i [] = kk at hc he
        go_wp2_with fail
        go_round
        case rel => exact ⟨i + 1, by omega, by go_num, HL2.out⟩
        case measure => simp [intOf]; omega
      · have HP : Hid (placeOf j.keys name.toList = some i) := place_first hlt (beq_iff_eq.1 he) HL.out
        obtain ⟨b, off, kx, kcx, ix, icx, rfl, _, c0, c1, c2, c3, c4, hr⟩ := HI.out.item i hii
        have HR : Hid (RJ w B j.items[i] _) := hr
        replace c0 := (HB0.out.cell (World.block_lt_of_cell? _ _ c0)).trans c0
        replace c1 := (HB0.out.cell (World.block_lt_of_cell? _ _ c1)).trans c1
        replace c2 := (HB0.out.cell (World.block_lt_of_cell? _ _ c2)).trans c2
        replace c3 := (HB0.out.cell (World.block_lt_of_cell? _ _ c3)).trans c3
        replace c4 := (HB0.out.cell (World.block_lt_of_cell? _ _ c4)).trans c4
        clear hr
        generalize j.keys.getD i [] = kk at hc he
        generalize hX : j.items[i] = x at *
        have HX : Hid (j.items[i] = x) := hX
        clear hX
        go_wp2_with fail
        refine bodyPost_ret (v := .tuple #[.agg #[.int .i64 x.k, .int .i64 x.n, .string ⟨x.t.toArray⟩, .slice kx x.keys.length kcx, .slice ix x.items.length icx], .bool true]) (by simp [results, Try.results14, go_sem, g0, g1, g2, g3, g4]) rfl ⟨five_below HB0.out _ _ _ _ _, .inl ⟨i, hii, _, HP.out, rfl, ?_⟩⟩
        rw [HX.out]
        exact HR.out.later (five_below HB0.out _ _ _ _ _)
    · have HP : Hid (placeOf j.keys name.toList = none) := place_none (fun q hq => HL.out q (by omega))
      have hki : decide ((i : Int) < (j.keys.length : Int)) = false := by simp; omega
      go_wp2_with fail
      refine bodyPost_ret (v := .tuple #[.agg #[.int .i64 0, .int .i64 0, .string ⟨#[]⟩, .slice none 0 0, .slice none 0 0], .bool false]) (by simp [results, Try.results14, go_sem, g0, g1, g2, g3, g4]) rfl ⟨?_, .inr ⟨HP.out, rfl⟩⟩
      first | exact HB0.out | exact five_below HB0.out _ _ _ _ _
/-- what the specification's FieldOf answers -/
def FieldAnsS (j : J) (name : List UInt8) (long : Bool) (w : World) (e : Ending) (w' : World) : Prop :=
  ∃ cs', e = .returned (.tuple #[.agg cs'.toArray, .int .i64 (fieldA j name long).2]) ∧ RJ w' (fun b => w.heap.size ≤ b ∧ b < w'.heap.size) (fieldA j name long).1 cs' ∧ Below w.heap.size w w'
theorem five_alloc {w2 : World} {n t : Nat} {a0 a1 a2 a3 a4 : Value} (hb : w2.heap[n + 1]? = some (.cells #[a0, a1, a2, a3, a4] t)) (u0 u1 u2 u3 u4 : Value) (o : Obj) :
    ((fiveSet w2 n u0 u1 u2 u3 u4).alloc o).heap[n + 1]? = some (.cells #[u0, u1, u2, u3, u4] t) := by
  have h : (fiveSet w2 n u0 u1 u2 u3 u4).heap[n + 1]? = some (.cells #[u0, u1, u2, u3, u4] t) := heap_set 4 u4 (heap_set 3 u3 (heap_set 2 u2 (heap_set 1 u1 (heap_set 0 u0 hb))))
  rw [Below.heap_alloc _ _ _ (Array.getElem?_eq_some_iff.1 h).1]
  exact h
theorem rj_zero (w : World) (B : Nat → Prop) : RJ w B dflt [.int .i64 0, .int .i64 0, .string ⟨#[]⟩, .slice none 0 0, .slice none 0 0] := by
  rw [RJ_eq]
  exact ⟨none, 0, none, 0, rfl, by simp [dflt], by simp [dflt], by simp [dflt], by simp [dflt], .inl rfl, .inl rfl⟩
set_option maxRecDepth 100000 in
set_option maxHeartbeats 6400000 in
theorem fieldS (j : J) (cs : List Value) (name : ByteArray) (B : Nat → Prop) (w : World) (hz : j.sz ≤ 1048576) (hn : name.size ≤ maxLen) (hr : RJ w B j cs) :
    Calls Try.prog 5 #[.agg cs.toArray, .string name] w (FieldAnsS j name.toList (decide (65536 < name.size)) w) := by
  unfold maxLen at hn
  have HJ : Hid (RJ w B j cs) := hr
  rw [RJ_eq] at hr
  obtain ⟨ka, kc, ia, ic, rfl, -, hkl, hil, -, hks, hjs⟩ := hr
  have HI : Hid (Jsons w B ia j.items) := hjs
  have hsz := J.sz_eq j
  have hk20 : j.keys.length ≤ 1048576 := by unfold szK at hsz; omega
  have HZ : Hid (∀ x ∈ j.items, x.sz ≤ 1048576) := fun x hx => Nat.le_trans (J.sz_item j x hx) hz
  clear hkl hil hks hjs hsz hz
  by_cases hlong : 65536 < name.size
  · have HA : Hid (fieldA j name.toList (decide (65536 < name.size)) = (dflt, 2)) := by show fieldA _ _ _ = _; rw [decide_eq_true hlong]; rfl
    go_enter Try.func5, Try.ntmps5
    go_wp2_with fail
    refine bodyPost_ret (v := .tuple #[.agg #[.int .i64 0, .int .i64 0, .string ⟨#[]⟩, .slice none 0 0, .slice none 0 0], .int .i64 2]) (by simp [results, Try.results5, go_sem]) rfl ⟨_, by rw [HA.out], ?_, ?_⟩
    · rw [HA.out]; exact rj_zero _ _
    · exact ((Below.refl _ _).alloc (Nat.le_refl _) _).alloc (by simp) _
  · have hld : decide (65536 < (name.size : Int)) = false := by simp; omega
    have HLD : Hid (decide (65536 < name.size) = false) := decide_eq_false hlong
    have hB0 : Below w.heap.size w ((w.alloc (.cells #[.int .i64 j.k, .int .i64 j.n, .string ⟨j.t.toArray⟩, .slice ka j.keys.length kc, .slice ia j.items.length ic] 29)).alloc (.cells #[.int .i64 0, .int .i64 0, .string ⟨#[]⟩, .slice none 0 0, .slice none 0 0] 29)) := ((Below.refl _ _).alloc (Nat.le_refl _) _).alloc (by simp) _
    have HB0 : Hid (Below w.heap.size w ((w.alloc (.cells #[.int .i64 j.k, .int .i64 j.n, .string ⟨j.t.toArray⟩, .slice ka j.keys.length kc, .slice ia j.items.length ic] 29)).alloc (.cells #[.int .i64 0, .int .i64 0, .string ⟨#[]⟩, .slice none 0 0, .slice none 0 0] 29))) := hB0
    clear hlong hB0
    go_enter Try.func5, Try.ntmps5
    go_wp2_with fail
    refine (jsonOKs j _ B _ (HJ.out.later HB0.out)).mono ?_
    rintro e w1 ⟨rfl, hB1⟩
    obtain ⟨b0, b1, hz1, hB⟩ := two hB1
    have x0 := cell_at (o := 0) b0 rfl
    have x1 := cell_at (o := 1) b0 rfl
    have x2 := cell_at (o := 2) b0 rfl
    have x3 := cell_at (o := 3) b0 rfl
    have x4 := cell_at (o := 4) b0 rfl
    have g0 := cell_at (o := 0) b1 rfl
    have g1 := cell_at (o := 1) b1 rfl
    have g2 := cell_at (o := 2) b1 rfl
    have g3 := cell_at (o := 3) b1 rfl
    have g4 := cell_at (o := 4) b1 rfl
    have y0 := frozen_at 0 b1
    have y1 := frozen_at 1 b1
    have y2 := frozen_at 2 b1
    have y3 := frozen_at 3 b1
    have y4 := frozen_at 4 b1
    have HB1B : Hid (w1.heap[w.heap.size + 1]? = _) := b1
    clear hB1 b0 b1
    cases hok : okB j
    · have HA : Hid (fieldA j name.toList (decide (65536 < name.size)) = (dflt, 1)) := by show fieldA _ _ _ = _; rw [HLD.out]; unfold fieldA; rw [hok]; rfl
      go_wp2_with fail
      refine bodyPost_ret (v := .tuple #[.agg #[.int .i64 0, .int .i64 0, .string ⟨#[]⟩, .slice none 0 0, .slice none 0 0], .int .i64 1]) (by simp [results, Try.results5, go_sem, g0, g1, g2, g3, g4]) rfl ⟨_, by rw [HA.out], ?_, ?_⟩
      · rw [HA.out]; exact rj_zero _ _
      · exact five_below hB _ _ _ _ _
    · by_cases h5 : j.k = 5
      · obtain ⟨hks, hlen⟩ := ok_obj hok h5
        have HLEN : Hid (j.keys.length = j.items.length) := hlen
        have HF : Hid (fieldA j name.toList (decide (65536 < name.size)) = match placeOf j.keys name.toList with
            | some i => (j.items.getD i dflt, 0)
            | none => (dflt, 5)) := by
          show fieldA _ _ _ = _
          rw [HLD.out]; unfold fieldA; rw [hok]; simp [h5]; rfl
        have h5' : (j.k != 5) = false := by rw [h5]; rfl
        clear hks hlen h5
        go_wp2_with fail
        refine (fieldLS j _ name B _ hk20 HLEN.out (HJ.out.later hB)).mono ?_
        rintro e w2 ⟨hB2, h⟩
        have HB2 : Hid (Below w1.heap.size w1 w2) := hB2
        have hb1 := heap_kept2 HB1B.out hB2
        replace g0 := cell_at (o := 0) hb1 rfl
        replace g1 := cell_at (o := 1) hb1 rfl
        replace g2 := cell_at (o := 2) hb1 rfl
        replace g3 := cell_at (o := 3) hb1 rfl
        replace g4 := cell_at (o := 4) hb1 rfl
        replace y0 := frozen_at 0 hb1
        replace y1 := frozen_at 1 hb1
        replace y2 := frozen_at 2 hb1
        replace y3 := frozen_at 3 hb1
        replace y4 := frozen_at 4 hb1
        have HB1C : Hid (w2.heap[w.heap.size + 1]? = _) := hb1
        have HBW : Hid (Below w.heap.size w w2) := hB.trans (hB2.mono hB.size)
        have hlt2 : w.heap.size + 1 < w2.heap.size := (Array.getElem?_eq_some_iff.1 hb1).1
        clear hb1 hB2 x0 x1 x2 x3 x4 HB1B hB
        rcases h with ⟨i, hi', cs', hpl, rfl, hR⟩ | ⟨hpl, rfl⟩
        · have HA : Hid (fieldA j name.toList (decide (65536 < name.size)) = (j.items[i], 0)) := by
            show fieldA _ _ _ = _
            rw [HF.out, hpl]
            simp only [List.getD_eq_getElem?_getD, List.getElem?_eq_getElem hi', Option.getD_some]
          have HZX : Hid (j.items[i].sz ≤ 1048576) := HZ.out _ (List.getElem_mem hi')
          obtain ⟨kx, kcx, ix, icx, rfl⟩ := hR.cells
          have HR : Hid (RJ w2 B j.items[i] _) := hR
          clear hR hpl
          generalize j.items[i] = x at *
          go_wp2_with fail
          refine (ownS x _ B _ HZX.out (HR.out.later (by first | exact (Below.refl _ _).alloc (Nat.le_refl _) _ | exact ((Below.refl _ _).alloc (Nat.le_refl _) _).drew))).mono ?_
          rintro e w3 ⟨cs', rfl, hO, hB3⟩
          obtain ⟨kx2, kcx2, ix2, icx2, rfl⟩ := hO.cells
          have hb3 : Below w2.heap.size w2 w3 := ((Below.refl _ _).alloc (Nat.le_refl _) _).trans (hB3.mono (by simp))
          have hb1 := heap_kept2 HB1C.out hb3
          have HO : Hid (RJ w3 _ x _) := hO
          have hB4 : Below w.heap.size w w3 := HBW.out.trans (hb3.mono HBW.out.size)
          have g0' := cell_at (o := 0) hb1 rfl
          have g1' := cell_at (o := 1) hb1 rfl
          have g2' := cell_at (o := 2) hb1 rfl
          have g3' := cell_at (o := 3) hb1 rfl
          have g4' := cell_at (o := 4) hb1 rfl
          have y0' := frozen_at 0 hb1
          have y1' := frozen_at 1 hb1
          have y2' := frozen_at 2 hb1
          have y3' := frozen_at 3 hb1
          have y4' := frozen_at 4 hb1
          clear hO hb1 hB3 hb3 g0 g1 g2 g3 g4 y0 y1 y2 y3 y4
          go_wp2_with fail
          refine bodyPost_ret (v := .tuple #[.agg #[.int .i64 x.k, .int .i64 x.n, .string ⟨x.t.toArray⟩, .slice kx2 x.keys.length kcx2, .slice ix2 x.items.length icx2], .int .i64 0]) (by simp [results, Try.results5, go_sem, g0', g1', g2', g3', g4']) rfl ⟨_, by rw [HA.out], ?_, five_below hB4 _ _ _ _ _⟩
          rw [HA.out]
          have e8 : (fiveSet w3 w.heap.size (.int .i64 x.k) (.int .i64 x.n) (.string ⟨x.t.toArray⟩) (.slice kx2 x.keys.length kcx2) (.slice ix2 x.items.length icx2)).heap.size = w3.heap.size := by simp [fiveSet, World.setCell]
          exact RJ.same (fun c hc => five_heap _ _ _ _ _ _ _ c (by have h1 := hc.1; simp at h1; omega)) (fun c hc => ⟨by have h1 := hc.1; simp at h1; have := HBW.out.size; omega, by show c < (fiveSet _ _ _ _ _ _ _).heap.size; rw [e8]; exact hc.2⟩) _ _ HO.out
        · have HA : Hid (fieldA j name.toList (decide (65536 < name.size)) = (dflt, 5)) := by show fieldA _ _ _ = _; rw [HF.out, hpl]
          clear hpl
          have hq := five_alloc HB1C.out (.int .i64 0) (.int .i64 0) (.string ⟨#[]⟩) (.slice none 0 0) (.slice none 0 0) (.cells #[.int .i64 0, .int .i64 0, .string ⟨#[]⟩, .slice none 0 0, .slice none 0 0] 29)
          unfold fiveSet at hq
          have q0 := cell_at (o := 0) hq rfl
          have q1 := cell_at (o := 1) hq rfl
          have q2 := cell_at (o := 2) hq rfl
          have q3 := cell_at (o := 3) hq rfl
          have q4 := cell_at (o := 4) hq rfl
          have HQ : Hid (_ ∧ _ ∧ _ ∧ _ ∧ _) := ⟨q0, q1, q2, q3, q4⟩
          clear hq q0 q1 q2 q3 q4
          go_wp2_with fail
          refine bodyPost_ret (v := .tuple #[.agg #[.int .i64 0, .int .i64 0, .string ⟨#[]⟩, .slice none 0 0, .slice none 0 0], .int .i64 5]) (by simp [results, Try.results5, go_sem, HQ.out.1, HQ.out.2.1, HQ.out.2.2.1, HQ.out.2.2.2.1, HQ.out.2.2.2.2]) rfl ⟨_, by rw [HA.out], ?_, ?_⟩
          · rw [HA.out]; exact rj_zero _ _
          · exact (five_below HBW.out _ _ _ _ _).alloc (by have := HBW.out.size; simp [fiveSet, World.setCell]; omega) _
      · have HA : Hid (fieldA j name.toList (decide (65536 < name.size)) = (dflt, 9)) := by show fieldA _ _ _ = _; rw [HLD.out]; unfold fieldA; rw [hok]; simp [h5]
        have h5' : (j.k != 5) = true := by simpa using h5
        clear h5
        go_wp2_with fail
        refine bodyPost_ret (v := .tuple #[.agg #[.int .i64 0, .int .i64 0, .string ⟨#[]⟩, .slice none 0 0, .slice none 0 0], .int .i64 9]) (by simp [results, Try.results5, go_sem, g0, g1, g2, g3, g4]) rfl ⟨_, by rw [HA.out], ?_, ?_⟩
        · rw [HA.out]; exact rj_zero _ _
        · exact five_below hB _ _ _ _ _
end Go.Proofs.Ytabdnienfdnejaa
