import Derived.Test.YtmmcnalhmpkkmaaZbh
import Derived.Test.YtmmcnalhmpkkmaaZap
namespace Go.Proofs.Ytmmcnalhmpkkmaa
open Go.RowKit
set_option linter.unusedSimpArgs false
def placeOf (keys : List (List UInt8)) (name : List UInt8) : Option Nat := (List.range keys.length).find? fun q => keys.getD q [] == name
theorem place_some {keys : List (List UInt8)} {name : List UInt8} (hs : keysB keys = true) {i : Nat} (hi : i < keys.length) (he : keys.getD i [] = name) : placeOf keys name = some i := by
  unfold placeOf
  rw [List.find?_range_eq_some]
  refine ⟨by simpa using he, List.mem_range.2 hi, fun q hq => ?_⟩
  have h1 := keys_rise hs i q hq hi
  cases e : (keys.getD q [] == name)
  · rfl
  · have e' : keys.getD q [] = name := beq_iff_eq.1 e
    rw [he, e', less_irrefl] at h1; cases h1
theorem place_none {keys : List (List UInt8)} {name : List UInt8} (h : ∀ q, q < keys.length → keys.getD q [] ≠ name) : placeOf keys name = none := by
  unfold placeOf
  rw [List.find?_range_eq_none]
  intro q hq
  have := h q hq
  cases e : (keys.getD q [] == name)
  · rfl
  · exact absurd (beq_iff_eq.1 e) this
def fieldA (j : J) (name : List UInt8) (long : Bool) : J × Int :=
  if long then (dflt, 2) else if okB j = false then (dflt, 1) else if j.k ≠ 5 then (dflt, 9) else match placeOf j.keys name with
    | some i => (j.items.getD i dflt, 0)
    | none => (dflt, 5)
theorem ok_obj {j : J} (h : okB j = true) (h5 : j.k = 5) : keysB j.keys = true ∧ j.keys.length = j.items.length := by
  obtain ⟨n, hn⟩ : ∃ n, cnt 12 j = some n := by
    unfold okB at h
    have := of_decide_eq_true h
    cases e : cnt 12 j with
    | none => rw [e] at this; simp [left] at this
    | some n => exact ⟨n, rfl⟩
  have hp : partB j = true := by
    cases e : partB j
    · rw [cnt_nopart e] at hn; cases hn
    · rfl
  rw [part5 h5] at hp
  simp at hp
  exact ⟨hp.2.2.2, by omega⟩
theorem own_zero (w : World) (B : Nat → Prop) : OwnJ w dflt B [.int .i64 0, .int .i64 0, .string ⟨#[]⟩, .slice none 0 0, .slice none 0 0] := by
  rw [OwnJ_eq]
  exact ⟨none, 0, none, 0, fun _ => False, fun _ => False, rfl, by simp [dflt], by simp [dflt], by simp [dflt], by simp [dflt], .inl rfl, fun _ h => h.elim, fun _ h => h.elim, .inl rfl⟩
def FieldAns (j : J) (name : List UInt8) (long : Bool) (w : World) (e : Ending) (w' : World) : Prop :=
  ∃ cs', e = .returned (.tuple #[.agg cs'.toArray, .int .i64 (fieldA j name long).2]) ∧ OwnJ w' (fieldA j name long).1 (fun b => w.heap.size ≤ b ∧ b < w'.heap.size) cs' ∧ Below w.heap.size w w'
theorem two {w w4 : World} {o0 o1 : Obj} (hb : Below ((w.alloc o0).alloc o1).heap.size ((w.alloc o0).alloc o1) w4) :
    w4.heap[w.heap.size]? = some o0 ∧ w4.heap[w.heap.size + 1]? = some o1 ∧ w.heap.size + 1 + 1 ≤ w4.heap.size ∧ Below w.heap.size w w4 := by
  have hs : ((w.alloc o0).alloc o1).heap.size = w.heap.size + 1 + 1 := by simp
  have h0 : ((w.alloc o0).alloc o1).heap = (w.heap.push o0).push o1 := rfl
  refine ⟨?_, ?_, ?_, ?_⟩
  · rw [hb.block _ (by omega), h0, Array.getElem?_push, if_neg (by simp), Array.getElem?_push, if_pos rfl]
  · rw [hb.block _ (by omega), h0, Array.getElem?_push, if_pos (by simp)]
  · have := hb.size; omega
  · exact (((Below.refl _ _).alloc (Nat.le_refl _) _).alloc (by simp) _).trans (hb.mono (by omega))
theorem heap_kept2 {w w' : World} {b : Nat} {o : Obj} (h : w.heap[b]? = some o) (hB : Below w.heap.size w w') : w'.heap[b]? = some o := by
  rw [hB.block b (Array.getElem?_eq_some_iff.1 h).1]; exact h
set_option maxRecDepth 100000 in
set_option maxHeartbeats 6400000 in
theorem fieldI (j : J) (cs : List Value) (name : ByteArray) (B : Nat → Prop) (w : World) (hz : j.sz ≤ 1048576) (hn : name.size ≤ maxLen) (hr : RJ w B j cs) :
    Calls Try.prog 5 #[.agg cs.toArray, .string name] w (FieldAns j name.toList (decide (65536 < name.size)) w) := by
  unfold maxLen at hn
  have HJ : Hid (RJ w B j cs) := hr
  rw [RJ_eq] at hr
  obtain ⟨ka, kc, ia, ic, rfl, -, hkl, hil, -, hks, hjs⟩ := hr
  have HK : Hid (Strs w B ka j.keys) := hks
  have HI : Hid (Jsons w B ia j.items) := hjs
  have hsz := J.sz_eq j
  have hk20 : j.keys.length ≤ 1048576 := by unfold szK at hsz; omega
  have HZ : Hid (∀ x ∈ j.items, x.sz ≤ 1048576) := fun x hx => Nat.le_trans (J.sz_item j x hx) hz
  clear hkl hil hks hjs hsz hz
  by_cases hlong : 65536 < name.size
  · have HA : Hid (fieldA j name.toList (decide (65536 < name.size)) = (dflt, 2)) := by show fieldA _ _ _ = _; rw [decide_eq_true hlong]; rfl
    go_enter Try.func5, Try.ntmps5
    go_wp2_with fail
    refine bodyPost_ret (v := .tuple #[.agg #[.int .i64 0, .int .i64 0, .string ⟨#[]⟩, .slice none 0 0, .slice none 0 0], .int .i64 2]) (by simp [results, Try.results5, go_sem]) rfl ⟨_, by rw [HA.out], ?_, ?_⟩
    · rw [HA.out]; exact own_zero _ _
    · exact ((Below.refl _ _).alloc (Nat.le_refl _) _).alloc (by simp) _
  · have hld : decide (65536 < (name.size : Int)) = false := by simp; omega
    have HLD : Hid (decide (65536 < name.size) = false) := decide_eq_false hlong
    have hB0 : Below w.heap.size w ((w.alloc (.cells #[.int .i64 j.k, .int .i64 j.n, .string ⟨j.t.toArray⟩, .slice ka j.keys.length kc, .slice ia j.items.length ic] 26)).alloc (.cells #[.int .i64 0, .int .i64 0, .string ⟨#[]⟩, .slice none 0 0, .slice none 0 0] 26)) := ((Below.refl _ _).alloc (Nat.le_refl _) _).alloc (by simp) _
    have HB0 : Hid (Below w.heap.size w ((w.alloc (.cells #[.int .i64 j.k, .int .i64 j.n, .string ⟨j.t.toArray⟩, .slice ka j.keys.length kc, .slice ia j.items.length ic] 26)).alloc (.cells #[.int .i64 0, .int .i64 0, .string ⟨#[]⟩, .slice none 0 0, .slice none 0 0] 26))) := hB0
    clear hlong hB0
    go_enter Try.func5, Try.ntmps5
    go_wp2_with fail
    refine (jsonOK j _ B _ (HJ.out.later HB0.out)).mono ?_
    rintro e w1 ⟨rfl, hB1⟩
    obtain ⟨b0, b1, hz1, hB⟩ := two hB1
    have x0 := cell_at (o := 0) b0 rfl
    have x3 := cell_at (o := 3) b0 rfl
    have x4 := cell_at (o := 4) b0 rfl
    have g0 := cell_at (o := 0) b1 rfl
    have g1 := cell_at (o := 1) b1 rfl
    have g2 := cell_at (o := 2) b1 rfl
    have g3 := cell_at (o := 3) b1 rfl
    have g4 := cell_at (o := 4) b1 rfl
    have y0 := frozen_at 0 b1
    have y1 := frozen_at 1 b1
    have y2 := frozen_at 2 b1
    have y3 := frozen_at 3 b1
    have y4 := frozen_at 4 b1
    have HB1B : Hid (w1.heap[w.heap.size + 1]? = _) := b1
    clear hB1 b0 b1
    cases hok : okB j
    · have HA : Hid (fieldA j name.toList (decide (65536 < name.size)) = (dflt, 1)) := by show fieldA _ _ _ = _; rw [HLD.out]; unfold fieldA; rw [hok]; rfl
      go_wp2_with fail
      refine bodyPost_ret (v := .tuple #[.agg #[.int .i64 0, .int .i64 0, .string ⟨#[]⟩, .slice none 0 0, .slice none 0 0], .int .i64 1]) (by simp [results, Try.results5, go_sem, g0, g1, g2, g3, g4]) rfl ⟨_, by rw [HA.out], ?_, ?_⟩
      · rw [HA.out]; exact own_zero _ _
      · exact five_below hB _ _ _ _ _
    · by_cases h5 : j.k = 5
      · obtain ⟨hks, hlen⟩ := ok_obj hok h5
        have HKS : Hid (keysB j.keys = true) := hks
        have HLEN : Hid (j.keys.length = j.items.length) := hlen
        have HF : Hid (fieldA j name.toList (decide (65536 < name.size)) = match placeOf j.keys name.toList with
            | some i => (j.items.getD i dflt, 0)
            | none => (dflt, 5)) := by
          show fieldA _ _ _ = _
          rw [HLD.out]; unfold fieldA; rw [hok]; simp [h5]
        have h5' : (j.k != 5) = false := by rw [h5]; rfl
        clear hks hlen h5
        go_wp2_with fail
        refine (binSearch j.keys ka kc name B _ hk20 HKS.out (HK.out.later hB)).mono ?_
        rintro e w2 ⟨i, f, rfl, hyes, hno, rfl⟩
        cases f
        · have HA : Hid (fieldA j name.toList (decide (65536 < name.size)) = (dflt, 5)) := by show fieldA _ _ _ = _; rw [HF.out, place_none (hno rfl)]
          clear hyes hno
          go_wp2_with fail
          refine bodyPost_ret (v := .tuple #[.agg #[.int .i64 0, .int .i64 0, .string ⟨#[]⟩, .slice none 0 0, .slice none 0 0], .int .i64 5]) (by simp [results, Try.results5, go_sem, g0, g1, g2, g3, g4]) rfl ⟨_, by rw [HA.out], ?_, ?_⟩
          · rw [HA.out]; exact own_zero _ _
          · exact five_below hB _ _ _ _ _
        · obtain ⟨hi, he⟩ := hyes rfl
          have hi' : i < j.items.length := by have := HLEN.out; omega
          have HA : Hid (fieldA j name.toList (decide (65536 < name.size)) = (j.items[i], 0)) := by
            show fieldA _ _ _ = _
            rw [HF.out, place_some HKS.out hi he]
            simp only [List.getD_eq_getElem?_getD, List.getElem?_eq_getElem hi', Option.getD_some]
          obtain ⟨b, off, kx, kcx, ix, icx, rfl, _, c0, c1, c2, c3, c4, hr⟩ := (HI.out.later hB).item i hi'
          have HR : Hid (RJ w2 B j.items[i] _) := hr
          have HZX : Hid (j.items[i].sz ≤ 1048576) := HZ.out _ (List.getElem_mem hi')
          clear hr hyes hno he
          generalize j.items[i] = x at *
          have hii : (i : Int) < (j.items.length : Int) := by omega
          go_wp2_with fail
          refine (copyJson x _ B _ HZX.out HR.out).mono ?_
          rintro e w3 ⟨cs', rfl, hO, hB3⟩
          obtain ⟨kx2, kcx2, ix2, icx2, rfl⟩ := hO.cells
          have hb1 := heap_kept2 HB1B.out hB3
          have HO : Hid (OwnJ w3 x (fun b => w2.heap.size ≤ b ∧ b < w3.heap.size) _) := hO
          have hB4 : Below w.heap.size w w3 := hB.trans (hB3.mono hB.size)
          have g0' := cell_at (o := 0) hb1 rfl
          have g1' := cell_at (o := 1) hb1 rfl
          have g2' := cell_at (o := 2) hb1 rfl
          have g3' := cell_at (o := 3) hb1 rfl
          have g4' := cell_at (o := 4) hb1 rfl
          have y0' := frozen_at 0 hb1
          have y1' := frozen_at 1 hb1
          have y2' := frozen_at 2 hb1
          have y3' := frozen_at 3 hb1
          have y4' := frozen_at 4 hb1
          clear hO hb1 hB3 c0 c1 c2 c3 c4 x0 x3 x4 g0 g1 g2 g3 g4 y0 y1 y2 y3 y4
          go_wp2_with fail
          refine bodyPost_ret (v := .tuple #[.agg #[.int .i64 x.k, .int .i64 x.n, .string ⟨x.t.toArray⟩, .slice kx2 x.keys.length kcx2, .slice ix2 x.items.length icx2], .int .i64 0]) (by simp [results, Try.results5, go_sem, g0', g1', g2', g3', g4']) rfl ⟨_, by rw [HA.out], ?_, five_below hB4 _ _ _ _ _⟩
          rw [HA.out]
          have e8 : (fiveSet w3 w.heap.size (.int .i64 x.k) (.int .i64 x.n) (.string ⟨x.t.toArray⟩) (.slice kx2 x.keys.length kcx2) (.slice ix2 x.items.length icx2)).heap.size = w3.heap.size := by simp [fiveSet, World.setCell]
          exact OwnJ.same _ _ _ _ (fun c hc => five_heap _ _ _ _ _ _ _ c (by have := hc.1; omega)) (fun c hc => ⟨by have := hc.1; have := hB.size; omega, by show c < (fiveSet _ _ _ _ _ _ _).heap.size; rw [e8]; exact hc.2⟩) HO.out
      · have HA : Hid (fieldA j name.toList (decide (65536 < name.size)) = (dflt, 9)) := by show fieldA _ _ _ = _; rw [HLD.out]; unfold fieldA; rw [hok]; simp [h5]
        have h5' : (j.k != 5) = true := by simpa using h5
        clear h5
        go_wp2_with fail
        refine bodyPost_ret (v := .tuple #[.agg #[.int .i64 0, .int .i64 0, .string ⟨#[]⟩, .slice none 0 0, .slice none 0 0], .int .i64 9]) (by simp [results, Try.results5, go_sem, g0, g1, g2, g3, g4]) rfl ⟨_, by rw [HA.out], ?_, ?_⟩
        · rw [HA.out]; exact own_zero _ _
        · exact five_below hB _ _ _ _ _
end Go.Proofs.Ytmmcnalhmpkkmaa
