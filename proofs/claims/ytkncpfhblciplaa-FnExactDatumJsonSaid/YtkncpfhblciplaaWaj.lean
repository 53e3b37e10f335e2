import Derived.WalkKit
namespace Go.Proofs.Ytkncpfhblciplaa
structure At where
  k : Int
  n : Int
  t : List UInt8
end Go.Proofs.Ytkncpfhblciplaa
