import Derived.WalkKit
namespace Go.Proofs.YtgecppkbhlojlaaDoor
/-- the words of the codes, byte by byte -/
def wordsL : List (List UInt8) := [[111, 107], [98, 97, 100], [108, 111, 110, 103], [102, 111, 114, 109], [114, 97, 110, 103, 101], [110, 111, 110, 101], [109, 97, 110, 121], [102, 117, 108, 108], [116, 119, 105, 99, 101], [116, 121, 112, 101], [116, 97, 98, 108, 101], [99, 111, 108, 117, 109, 110], [117, 110, 105, 113, 117, 101], [114, 101, 102], [111, 119, 110, 101, 114], [119, 97, 105, 116], [97, 98, 111, 114, 116], [99, 108, 111, 115, 101, 100], [100, 101, 101, 112], [109, 101, 116, 104, 111, 100]]
def wd (n : Int) : List UInt8 := if n < 0 then [] else wordsL.getD n.toNat []
theorem wd_out {n : Int} (h : n < 0 ∨ 20 ≤ n) : wd n = [] := by
  unfold wd
  by_cases h0 : n < 0
  · rw [if_pos h0]
  · rw [if_neg h0, List.getD_eq_getElem?_getD, List.getElem?_eq_none (by show 20 ≤ n.toNat; omega)]; rfl
theorem wd_in (n : Int) (h0 : 0 ≤ n) (h : n < 20) : n = 0 ∨ n = 1 ∨ n = 2 ∨ n = 3 ∨ n = 4 ∨ n = 5 ∨ n = 6 ∨ n = 7 ∨ n = 8 ∨ n = 9 ∨ n = 10 ∨ n = 11 ∨ n = 12 ∨ n = 13 ∨ n = 14 ∨ n = 15 ∨ n = 16 ∨ n = 17 ∨ n = 18 ∨ n = 19 := by omega
/-- the code of a word, -1 if it is none -/
def codeL (s : List UInt8) : Int := match (List.range 20).find? (fun j : Nat => wd (j : Int) == s) with
  | some k => k
  | none => -1
theorem code_at {s : List UInt8} {k : Nat} (hk : k < 20) (h : (wd (k : Int) == s) = true) (hb : ∀ j : Nat, j < k → (wd (j : Int) == s) = false) : codeL s = k := by
  have e : (List.range 20).find? (fun j : Nat => wd (j : Int) == s) = some k :=
    List.find?_range_eq_some.2 ⟨h, List.mem_range.2 hk, fun j hj => by rw [hb j hj]; rfl⟩
  unfold codeL; rw [e]
theorem code_none {s : List UInt8} (hb : ∀ j : Nat, j < 20 → (wd (j : Int) == s) = false) : codeL s = -1 := by
  have e : (List.range 20).find? (fun j : Nat => wd (j : Int) == s) = none :=
    List.find?_range_eq_none.2 fun j hj => by rw [hb j hj]; rfl
  unfold codeL; rw [e]
end Go.Proofs.YtgecppkbhlojlaaDoor
