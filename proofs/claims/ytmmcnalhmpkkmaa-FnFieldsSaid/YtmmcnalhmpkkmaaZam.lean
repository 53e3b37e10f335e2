import Derived.Test.YtmmcnalhmpkkmaaZaa
namespace Go.Proofs.Ytmmcnalhmpkkmaa
theorem ext5 {a b : J} (h1 : a.k = b.k) (h2 : a.n = b.n) (h3 : a.t = b.t) (h4 : a.keys = b.keys) (h5 : a.items = b.items) : a = b := by
  cases a; cases b; simp at *; exact ⟨h1, h2, h3, h4, h5⟩
end Go.Proofs.Ytmmcnalhmpkkmaa
