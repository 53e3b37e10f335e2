import Derived.WalkKit
namespace Go.Proofs.Ytgiaabgcbpafgaa
/-- an atom -/
structure At where
  k : Int
  n : Int
  t : List UInt8
theorem At.ext' {a b : At} (h1 : a.k = b.k) (h2 : a.n = b.n) (h3 : a.t = b.t) : a = b := by cases a; cases b; simp_all
/-- a column -/
structure Cl where
  nm : List UInt8
  k : Int
  mn : Int
  mx : Int
  lo : Int
  hi : Int
  rf : List UInt8
  st : Bool
/-- a table -/
structure Tb where
  nm : List UInt8
  cols : List Cl
  uq : List Int
  rt : Bool
end Go.Proofs.Ytgiaabgcbpafgaa
