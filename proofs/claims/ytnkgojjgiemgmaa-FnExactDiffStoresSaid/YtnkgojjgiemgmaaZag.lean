import Derived.WalkKit
namespace Go.Proofs.Ytnkgojjgiemgmaa
structure At where
  k : Int
  n : Int
  t : List UInt8
theorem At.ext' {a b : At} (h1 : a.k = b.k) (h2 : a.n = b.n) (h3 : a.t = b.t) : a = b := by cases a; cases b; simp_all
end Go.Proofs.Ytnkgojjgiemgmaa
