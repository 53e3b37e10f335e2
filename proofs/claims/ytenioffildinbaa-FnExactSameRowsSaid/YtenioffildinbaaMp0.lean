import Derived.Test.YtenioffildinbaaMo1
namespace Go.Proofs.Ytenioffildinbaa
open Go.RowKit
set_option linter.unusedSimpArgs false
set_option maxRecDepth 100000 in
set_option maxHeartbeats 6400000 in
theorem smrI (la lb : List RowV) (a : Option Addr) (c : Nat) (a' : Option Addr) (c' : Nat) (A B : Nat → Prop) (w : World) (ho : (dRowS la).le maxLen) (ho' : (dRowS lb).le maxLen) (hA : Rd w A (dRowS la) (.slice a la.length c)) (hB : Rd w B (dRowS lb) (.slice a' lb.length c')) :
    Calls Try.prog 16 #[.slice a la.length c, .slice a' lb.length c'] w fun e w' => e = .returned (.bool (smB la lb)) ∧ Below w.heap.size w w' := by
  have hla : la.length ≤ maxLen := (Ls_le.1 ho).2.1
  have hlb : lb.length ≤ maxLen := (Ls_le.1 ho').2.1
  unfold maxLen at hla hlb
  have K := Lib.hid (sameRowsI la lb a c a' c' A B w ho ho' hA hB)
  clear ho ho' hA hB
  by_cases h1 : 4096 < la.length
  · have HV := Lib.hid (sm_long (lb := lb) (.inl h1))
    have d1 : decide ((la.length : Int) ≤ 4096) = false := by simp; omega
    clear h1
    go_enter Try.func16, Try.ntmps16
    go_wp2_with fail
    go_ret
    exact ⟨ret_b HV.out.symm, Below.refl _ _⟩
  have d1 : decide ((la.length : Int) ≤ 4096) = true := by simp; omega
  by_cases h2 : 4096 < lb.length
  · have HV := Lib.hid (sm_long (la := la) (.inr h2))
    have d2 : decide ((lb.length : Int) ≤ 4096) = false := by simp; omega
    clear h1 h2
    go_enter Try.func16, Try.ntmps16
    go_wp2_with fail
    go_ret
    exact ⟨ret_b HV.out.symm, Below.refl _ _⟩
  have d2 : decide ((lb.length : Int) ≤ 4096) = true := by simp; omega
  have HE := Lib.hid (sm_eq h1 h2)
  clear h1 h2
  go_enter Try.func16, Try.ntmps16
  go_wp2_with fail
  refine K.out.mono ?_
  rintro e w1 ⟨rfl, hB⟩
  have HB1 := Lib.hid hB
  clear hB
  generalize eqB la lb = b at *
  go_wp2_with fail
  go_ret
  exact ⟨ret_b HE.out.symm, HB1.out⟩
end Go.Proofs.Ytenioffildinbaa
