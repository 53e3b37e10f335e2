import Derived.Test.YtkncpfhblciplaaYbh
namespace Go.Proofs.Ytkncpfhblciplaa
open Go.RowKit
theorem okS (d : Nat) (hd : d ≤ 12) (ih : OkSaid d) : OkSaid (d + 1) := by
  intro j cs B w hr
  rw [show ((d + 1 : Nat) : Int) = (d : Int) + 1 from by omega]
  rw [RJ_eq] at hr
  obtain ⟨ka, kc, ia, ic, rfl, ht, hkl, hil, hkx, hk, hi⟩ := hr
  by_cases hN : j.k < 0 ∨ 5 < j.k
  · exact okN d hd j hN ka ia kc ic w
  have h6 : j.k = 0 ∨ j.k = 1 ∨ j.k = 2 ∨ j.k = 3 ∨ j.k = 4 ∨ j.k = 5 := by omega
  rcases h6 with h | h | h | h | h | h
  · exact okL0 d hd j h ka ia kc ic w ht
  · exact okL1 d hd j h ka ia kc ic w ht
  · exact okL2 d hd j h ka ia kc ic w ht
  · exact okL3 d hd j h ka ia kc ic w ht
  · by_cases hb : j.n = 0 ∧ j.t = [] ∧ j.keys.length = 0
    · obtain ⟨e1, e2, e3⟩ := hb
      have := okList d hd ih j h e1 e2 e3 ka ia kc ic B w hil hi
      rw [h, e1, e2, e3]; exact this
    · exact okBad4 d hd j h ka ia kc ic w hb
  · by_cases hb : j.n = 0 ∧ j.t = [] ∧ j.keys.length = j.items.length
    · obtain ⟨e1, e2, e3⟩ := hb
      have := okObj d hd ih j h e1 e2 e3 ka ia kc ic B w hil hkx hk hi
      rw [h, e1, e2, e3]; exact this
    · exact okBad5 d hd j h ka ia kc ic w hb
theorem okAll : ∀ (d : Nat), d ≤ 12 → OkSaid d
  | 0, _ => ok0
  | d + 1, h => okS d (by omega) (okAll d (by omega))
theorem ok12 (j : J) (cs : List Value) (B : Nat → Prop) (w : World) (hr : RJ w B j cs) :
    Calls Try.prog 83 #[.agg cs.toArray, .int .i64 12] w (OkAns 12 j w) := okAll 12 (by omega) j cs B w hr
set_option maxHeartbeats 800000 in
theorem jsonOKs (j : J) (cs : List Value) (B : Nat → Prop) (w : World) (hr : RJ w B j cs) :
    Calls Try.prog 49 #[.agg cs.toArray] w fun e w' => e = .returned (.bool (okB j)) ∧ Below w.heap.size w w' := by
  have HJ : Hid (RJ w B j cs) := hr
  rw [RJ_eq] at hr
  obtain ⟨ka, kc, ia, ic, rfl, -⟩ := hr
  go_enter Try.func49, Try.ntmps49
  go_wp2_with fail
  refine (ok12 j _ B _ (HJ.out.later ((Below.refl _ _).alloc (Nat.le_refl _) _))).mono ?_
  rintro e w1 ⟨n, rfl, -, -, -, hB1⟩
  have HO : Hid (okD 12 j = okB j) := rfl
  generalize okD 12 j = q at *
  go_wp2_with fail
  go_ret
  exact ⟨ret_b HO.out, ((Below.refl _ _).alloc (Nat.le_refl _) _).trans (hB1.mono (by simp))⟩
end Go.Proofs.Ytkncpfhblciplaa
