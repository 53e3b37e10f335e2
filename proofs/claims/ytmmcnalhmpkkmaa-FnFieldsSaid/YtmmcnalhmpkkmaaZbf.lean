import Derived.Test.YtmmcnalhmpkkmaaZbe
import Derived.Test.YtmmcnalhmpkkmaaZap
namespace Go.Proofs.Ytmmcnalhmpkkmaa
open Go.RowKit
set_option linter.unusedSimpArgs false
def CopySaid (j : J) : Prop := ∀ (cs : List Value) (B : Nat → Prop) (w : World), j.sz ≤ 1048576 → RJ w B j cs →
    Calls Try.prog 12 #[.agg cs.toArray] w fun e w' => ∃ cs', e = .returned (.agg cs'.toArray) ∧ OwnJ w' j (fun b => w.heap.size ≤ b ∧ b < w'.heap.size) cs' ∧ Below w.heap.size w w'
structure CopyInv (w wr : World) (j : J) (S m : Nat) (box : Array Value) (kv : Value) (ka : Option Addr) (K : Nat → Prop) (v : Value) (xs : List Value) (X : Nat → Nat → Prop) : Prop where
  b0 : wr.heap[S]? = some (.cells box 26)
  b1 : wr.heap[S + 1]? = some (.cells zero5 26)
  b2 : wr.heap[S + 1 + 1]? = some (.cells #[.int .i64 j.k, .int .i64 j.n, .string ⟨j.t.toArray⟩, kv, v] 26)
  row : wr.ownsRow (S + 1 + 1 + 1) 26 5 v m xs
  far : ∀ g, v.ownBlock = some g → (∀ i, ¬ X i g) ∧ ¬ K g
  inn : ∀ i c, X i c → S + 1 + 1 + 1 ≤ c ∧ c < wr.heap.size ∧ ¬ K c
  apart : ∀ i i' c, X i c → X i' c → i = i'
  own : ∀ i (_ : i < j.items.length), i < m → OwnJ wr j.items[i] (X i) (five (fun q => xs.getD q default) i)
  keys : OwnStrs wr K ka j.keys
  kin : ∀ c, K c → S + 1 + 1 + 1 ≤ c ∧ c < wr.heap.size
  bel : Below S w wr
theorem own_shape {w : World} {base : Nat} {e : TypeId} {size : Nat} {v : Value} {n : Nat} {xs : List Value} (h : w.ownsRow base e size v n xs) : ∃ va vc, v = .slice va n vc := by
  rcases h.2 with ⟨rfl, rfl⟩ | ⟨g, cap, cur, rfl, _⟩
  · exact ⟨none, 0, rfl⟩
  · exact ⟨_, _, rfl⟩
theorem CopyInv.vlt {w wr : World} {j : J} {S m : Nat} {box : Array Value} {kv : Value} {ka : Option Addr} {K : Nat → Prop} {v : Value} {xs : List Value} {X : Nat → Nat → Prop} (h : CopyInv w wr j S m box kv ka K v xs X) : ∀ g, v.ownBlock = some g → g < wr.heap.size ∧ S + 1 + 1 + 1 ≤ g := by
  intro g hg
  rcases h.row.2 with ⟨rfl, -⟩ | ⟨g', cap, cur, rfl, hg1, hb, -⟩
  · simp [Value.ownBlock] at hg
  · simp [Value.ownBlock] at hg
    subst hg
    exact ⟨(Array.getElem?_eq_some_iff.1 hb).1, hg1⟩
theorem CopyInv.row1 {w wr w1 : World} {j : J} {S m : Nat} {box : Array Value} {kv : Value} {ka : Option Addr} {K : Nat → Prop} {v : Value} {xs : List Value} {X : Nat → Nat → Prop} (h : CopyInv w wr j S m box kv ka K v xs X) (hB1 : Below wr.heap.size wr w1) (o : Obj) :
    (w1.alloc o).ownsRow (S + 1 + 1 + 1) 26 5 v m xs := by
  refine ⟨h.row.1, ?_⟩
  rcases h.row.2 with h0 | ⟨g, cap, cur, e, hg1, hb, rest⟩
  · exact .inl h0
  · have hlt := (Array.getElem?_eq_some_iff.1 hb).1
    exact .inr ⟨g, cap, cur, e, hg1, by rw [Below.heap_alloc _ _ _ (Nat.lt_of_lt_of_le hlt hB1.size), hB1.block g hlt]; exact hb, rest⟩
theorem CopyInv.t1 {w wr w1 : World} {j : J} {S m : Nat} {box : Array Value} {kv : Value} {ka : Option Addr} {K : Nat → Prop} {v : Value} {xs : List Value} {X : Nat → Nat → Prop} (h : CopyInv w wr j S m box kv ka K v xs X) (hB1 : Below wr.heap.size wr w1) :
    w1.heap[S + 1 + 1]? = some (.cells #[.int .i64 j.k, .int .i64 j.n, .string ⟨j.t.toArray⟩, kv, v] 26) := by
  rw [hB1.block _ (Array.getElem?_eq_some_iff.1 h.b2).1]; exact h.b2
theorem CopyInv.t2 {w wr w1 w2 : World} {j : J} {S m : Nat} {box : Array Value} {kv : Value} {ka : Option Addr} {K : Nat → Prop} {v : Value} {xs : List Value} {X : Nat → Nat → Prop} (h : CopyInv w wr j S m box kv ka K v xs X) (hB1 : Below wr.heap.size wr w1) {o : Obj} (hgr : (w1.alloc o).grownBy w2 v.ownBlock) :
    w2.heap[S + 1 + 1]? = some (.cells #[.int .i64 j.k, .int .i64 j.n, .string ⟨j.t.toArray⟩, kv, v] 26) := by
  have lt2 : S + 1 + 1 < wr.heap.size := (Array.getElem?_eq_some_iff.1 h.b2).1
  have := hB1.size
  rw [hgr.block _ (by simp; omega) (fun e => by have := (h.vlt _ e.symm).2; omega), Below.heap_alloc _ _ _ (by omega)]
  exact h.t1 hB1
theorem news5 (w1 : World) (a b c d e : Value) (t : TypeId) : ∀ j u, [a, b, c, d, e][j]? = some u → (w1.alloc (.cells #[a, b, c, d, e] t)).cell? ((⟨w1.heap.size, 0, none⟩ : Addr).add j) = some u := fun j u hj => by
  rw [Addr.add_mid, Nat.zero_add]
  exact cell_new _ (by simpa using hj)
theorem CopyInv.step {w wr w1 w2 : World} {j : J} {S m : Nat} {box : Array Value} {kv : Value} {ka : Option Addr} {K : Nat → Prop} {v v' : Value} {xs news : List Value} {X : Nat → Nat → Prop} (h : CopyInv w wr j S m box kv ka K v xs X) (hm : m < j.items.length)
    (hB1 : Below wr.heap.size wr w1) {o : Obj} (hgr : (w1.alloc o).grownBy w2 v.ownBlock) (hrow : w2.ownsRow (S + 1 + 1 + 1) 26 5 v' (m + 1) (xs ++ news)) (hg : ∃ g, v'.ownBlock = some g ∧ (v.ownBlock = some g ∨ (w1.alloc o).heap.size ≤ g))
    (hn : news.length = 5) (hx : OwnJ w1 j.items[m] (fun b => wr.heap.size ≤ b ∧ b < w1.heap.size) news) (hv : ∀ g, v.ownBlock = some g → g < wr.heap.size ∧ S + 1 + 1 + 1 ≤ g) :
    CopyInv w (w2.setCell ⟨S + 1 + 1, 4, none⟩ v') j S (m + 1) box kv ka K v' (xs ++ news) (fun i c => if i = m then wr.heap.size ≤ c ∧ c < w1.heap.size else X i c) := by
  have hs1 := hB1.size
  have hsz : (w1.alloc o).heap.size = w1.heap.size + 1 := by simp
  have hs2 : w1.heap.size + 1 ≤ w2.heap.size := by have := hgr.size; omega
  have lt2 : S + 1 + 1 < wr.heap.size := (Array.getElem?_eq_some_iff.1 h.b2).1
  have same : ∀ c, c < w1.heap.size → some c ≠ v.ownBlock → c ≠ S + 1 + 1 → (w2.setCell ⟨S + 1 + 1, 4, none⟩ v').heap[c]? = w1.heap[c]? := fun c hc hcv hcs => by
    rw [Below.heap_setCell _ _ _ _ hcs, hgr.block c (by omega) hcv, Below.heap_alloc _ _ _ hc]
  have samew : ∀ c, c < wr.heap.size → some c ≠ v.ownBlock → c ≠ S + 1 + 1 → (w2.setCell ⟨S + 1 + 1, 4, none⟩ v').heap[c]? = wr.heap[c]? := fun c hc hcv hcs => by
    rw [same c (by omega) hcv hcs, hB1.block c hc]
  have nv : ∀ c, c < S + 1 + 1 + 1 → some c ≠ v.ownBlock := fun c hc e => by have := (hv c e.symm).2; omega
  have hlen : xs.length = m * 5 := h.row.1
  refine ⟨?_, ?_, ?_, ?_, ?_, ?_, ?_, ?_, ?_, ?_, ?_⟩
  · rw [samew S (by omega) (nv S (by omega)) (by omega)]; exact h.b0
  · rw [samew (S + 1) (by omega) (nv _ (by omega)) (by omega)]; exact h.b1
  · have : w2.heap[S + 1 + 1]? = some (.cells #[.int .i64 j.k, .int .i64 j.n, .string ⟨j.t.toArray⟩, kv, v] 26) := by
      rw [hgr.block _ (by omega) (nv _ (by omega)), Below.heap_alloc _ _ _ (by omega), hB1.block _ lt2]; exact h.b2
    exact heap_set 4 v' this
  · refine ⟨hrow.1, ?_⟩
    rcases hrow.2 with h0 | ⟨g, cap, cur, e, hg1, hb, rest⟩
    · exact .inl h0
    · exact .inr ⟨g, cap, cur, e, hg1, by rw [Below.heap_setCell _ _ _ _ (by show g ≠ S + 1 + 1; omega)]; exact hb, rest⟩
  · intro g hg'
    obtain ⟨g2, e2, h2⟩ := hg
    rw [e2] at hg'
    injection hg' with e3
    subst e3
    rcases h2 with h2 | h2
    · refine ⟨fun i hi => ?_, (h.far _ h2).2⟩
      by_cases e : i = m
      · simp only [if_pos e] at hi; have := (hv _ h2).1; omega
      · simp only [if_neg e] at hi; exact (h.far _ h2).1 i hi
    · refine ⟨fun i hi => ?_, fun hk => ?_⟩
      · by_cases e : i = m
        · simp only [if_pos e] at hi; omega
        · simp only [if_neg e] at hi; have := (h.inn i _ hi).2.1; omega
      · have := (h.kin _ hk).2; omega
  · intro i c hc
    have e4 : (w2.setCell ⟨S + 1 + 1, 4, none⟩ v').heap.size = w2.heap.size := by simp [World.setCell]
    rw [e4]
    by_cases e : i = m
    · simp only [if_pos e] at hc
      exact ⟨by omega, by omega, fun hk => by have := (h.kin c hk).2; omega⟩
    · simp only [if_neg e] at hc
      have := h.inn i c hc
      exact ⟨this.1, by omega, this.2.2⟩
  · intro i i' c hc hc'
    by_cases e : i = m
    · by_cases e' : i' = m
      · omega
      · simp only [if_pos e] at hc; simp only [if_neg e'] at hc'; have := (h.inn i' c hc').2.1; omega
    · by_cases e' : i' = m
      · simp only [if_neg e] at hc; simp only [if_pos e'] at hc'; have := (h.inn i c hc).2.1; omega
      · simp only [if_neg e] at hc; simp only [if_neg e'] at hc'; exact h.apart i i' c hc hc'
  · intro i hi him
    by_cases e : i = m
    · subst e
      simp only [if_pos rfl]
      have e5 : five (fun q => (xs ++ news).getD q default) i = news := by
        match news, hn with
        | [n0, n1, n2, n3, n4], _ =>
          have g : ∀ o, (xs ++ [n0, n1, n2, n3, n4]).getD (i * 5 + o) default = [n0, n1, n2, n3, n4].getD o default := fun o => by
            rw [List.getD_eq_getElem?_getD, List.getElem?_append_right (by omega), hlen, Nat.add_sub_cancel_left, ← List.getD_eq_getElem?_getD]
          have g0 := g 0
          simp only [Nat.add_zero] at g0
          simp only [five, g0, g 1, g 2, g 3, g 4]; rfl
      rw [e5]
      refine OwnJ.same _ (fun b => wr.heap.size ≤ b ∧ b < w1.heap.size) _ _ (fun c hc => same c hc.2 (fun e => by have := (hv c e.symm).1; omega) (by omega)) (fun c hc => hc) hx
    · simp only [if_neg e]
      have e5 : five (fun q => (xs ++ news).getD q default) i = five (fun q => xs.getD q default) i := by
        have g : ∀ o, o < 5 → (xs ++ news).getD (i * 5 + o) default = xs.getD (i * 5 + o) default := fun o ho => by
          rw [List.getD_eq_getElem?_getD, List.getD_eq_getElem?_getD, List.getElem?_append_left (by omega)]
        have g0 := g 0 (by omega)
        simp only [Nat.add_zero] at g0
        simp only [five, g0, g 1 (by omega), g 2 (by omega), g 3 (by omega), g 4 (by omega)]
      rw [e5]
      refine OwnJ.same _ (X i) _ _ (fun c hc => samew c (h.inn i c hc).2.1 (fun e => (h.far c e.symm).1 i hc) (by have := (h.inn i c hc).1; omega)) (fun c hc => hc) (h.own i hi (by omega))
  · exact h.keys.same (fun c hc => samew c (h.kin c hc).2 (fun e => (h.far c e.symm).2 hc) (by have := (h.kin c hc).1; omega)) (fun _ h => h)
  · intro c hc
    have e4 : (w2.setCell ⟨S + 1 + 1, 4, none⟩ v').heap.size = w2.heap.size := by simp [World.setCell]
    have := h.kin c hc
    exact ⟨this.1, by rw [e4]; omega⟩
  · refine (h.bel.trans (hB1.mono (by omega))).trans ?_
    refine ⟨hgr.os, hgr.tape, hgr.output, by simp [World.setCell]; omega, fun c hc => ?_⟩
    rw [Below.heap_setCell _ _ _ _ (by show c ≠ S + 1 + 1; omega), hgr.block c (by omega) (nv c (by omega)), Below.heap_alloc _ _ _ (by omega)]
end Go.Proofs.Ytmmcnalhmpkkmaa
