import Derived.Test.YtpigpidfpafcgaaZbv
namespace Go.Proofs.Ytpigpidfpafcgaa
open Go.RowKit
set_option linter.unusedSimpArgs false
theorem mtSd (x : Cl) (d : List At) (c : MutV) (da : Option Addr) (dc : Nat) (va : Option Addr) (vc : Nat) (S : Nat) (w : World) (hxo : x.ok) (hdl : d.length ≤ maxLen) (hdx : ∀ y ∈ d, y.t.length ≤ maxLen) (hn : c.col.length ≤ maxLen) (hl : c.val.length ≤ maxLen) (hx : ∀ y ∈ c.val, y.t.length ≤ maxLen) (hw : S ≤ w.heap.size) (hD : Ats w (· < S) da d) (hA : Ats w (· < S) va c.val) :
    Calls Try.prog 7 #[.agg #[.string ⟨x.nm.toArray⟩, .int .i64 x.k, .int .i64 x.mn, .int .i64 x.mx, .int .i64 x.lo, .int .i64 x.hi, .string ⟨x.rf.toArray⟩, .bool x.st], .slice da d.length dc, .agg #[.string ⟨c.col.toArray⟩, .int .i64 c.fn, .slice va c.val.length vc]] w fun e w' => ∃ (ra : Option Addr) (rc : Nat), e = .returned (.tuple #[.slice ra (mtL x d c).length rc, .int .i64 (mtC x d c)]) ∧ Rd w' (fun b => w.heap.size ≤ b ∧ b < w'.heap.size) (dAtomS (mtL x d c)) (.slice ra (mtL x d c).length rc) ∧ Below w.heap.size w w' :=
  (mtS x d c da dc va vc S w hxo hdl hdx hn hl hx hw hD hA).mono (fun _ _ ⟨a, cp, he, ho, hB⟩ => ⟨a, cp, he, (ho.own cp).rd', hB⟩)
theorem mtId (x : Cl) (d : List At) (c : MutV) (da : Option Addr) (dc : Nat) (va : Option Addr) (vc : Nat) (S : Nat) (w : World) (hxo : x.ok) (hdl : d.length ≤ maxLen) (hdx : ∀ y ∈ d, y.t.length ≤ maxLen) (hn : c.col.length ≤ maxLen) (hl : c.val.length ≤ maxLen) (hx : ∀ y ∈ c.val, y.t.length ≤ maxLen) (hw : S ≤ w.heap.size) (hD : Ats w (· < S) da d) (hA : Ats w (· < S) va c.val) :
    Calls Try.prog 11 #[.agg #[.string ⟨x.nm.toArray⟩, .int .i64 x.k, .int .i64 x.mn, .int .i64 x.mx, .int .i64 x.lo, .int .i64 x.hi, .string ⟨x.rf.toArray⟩, .bool x.st], .slice da d.length dc, .agg #[.string ⟨c.col.toArray⟩, .int .i64 c.fn, .slice va c.val.length vc]] w fun e w' => ∃ (ra : Option Addr) (rc : Nat), e = .returned (.tuple #[.slice ra (mtL x d c).length rc, .int .i64 (mtC x d c)]) ∧ Own w' (dAtomS (mtL x d c)) (fun b => w.heap.size ≤ b ∧ b < w'.heap.size) (.slice ra (mtL x d c).length rc) ∧ Below w.heap.size w w' :=
  (mtI x d c da dc va vc S w hxo hdl hdx hn hl hx hw hD hA).mono (fun _ _ ⟨a, cp, he, ho, hB⟩ => ⟨a, cp, he, ho.own cp, hB⟩)
theorem mutP_le {x : Cl} {d : List At} {c : MutV} (h : CanM x d c) : (dAtomS (mutP x d c).2).le maxLen ∧ (dAtomS (mutP x d c).2).sz ≤ 2000 := by
  by_cases h0 : (mutP x d c).1 = 0
  · exact dk_le (colB_kind h.col) (mutP_ok h h0).1 (mutP_ok h h0).2.1
  · have e : (mutP x d c).2 = [] := by
      unfold mutP at h0 ⊢
      split
      · rfl
      · rename_i o ho
        rw [ho] at h0
        by_cases hf : fitC x o = 0
        · exact absurd (by simp [hf]) h0
        · rw [if_neg hf]
    rw [e]
    exact dk_le (k := 1) (by omega) (Dk.nil 1) (by simp)
theorem mt_le {x : Cl} {d : List At} {c : MutV} : (dAtomS (mtL x d c)).le maxLen ∧ (dAtomS (mtL x d c)).sz ≤ 100000000 := by
  unfold mtL
  split
  · rename_i h
    have := mutP_le (mt_can h.2.1 h.2.2)
    exact ⟨this.1, by omega⟩
  · have := dk_le (k := 1) (by omega) (Dk.nil 1) (by simp)
    exact ⟨this.1, by omega⟩
end Go.Proofs.Ytpigpidfpafcgaa
