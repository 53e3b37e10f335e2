import Derived.Test.YtkncpfhblciplaaWbg
import Derived.Test.YtkncpfhblciplaaWba
namespace Go.Proofs.Ytkncpfhblciplaa
open Go.RowKit
set_option linter.unusedSimpArgs false
structure LInv (w wr : World) (j : J) (S m : Nat) (kv : Value) (ka : Option Addr) (K : Nat → Prop) (v : Value) (xs : List Value) (X : Nat → Nat → Prop) : Prop where
  b1 : wr.heap[S]? = some (.cells zero5 28)
  b2 : wr.heap[S + 1]? = some (.cells #[.int .i64 j.k, .int .i64 j.n, .string ⟨j.t.toArray⟩, kv, v] 28)
  row : wr.ownsRow (S + 2) 28 5 v m xs
  far : ∀ g, v.ownBlock = some g → (∀ i, ¬ X i g) ∧ ¬ K g
  inn : ∀ i c, X i c → S + 2 ≤ c ∧ c < wr.heap.size ∧ ¬ K c
  apart : ∀ i i' c, X i c → X i' c → i = i'
  own : ∀ i (_ : i < j.items.length), i < m → OwnJ wr j.items[i] (X i) (five (fun q => xs.getD q default) i)
  keys : OwnStrs wr K ka j.keys
  kin : ∀ c, K c → S + 2 ≤ c ∧ c < wr.heap.size
  bel : Below S w wr
theorem LInv.vlt {w wr : World} {j : J} {S m : Nat} {kv : Value} {ka : Option Addr} {K : Nat → Prop} {v : Value} {xs : List Value} {X : Nat → Nat → Prop} (h : LInv w wr j S m kv ka K v xs X) : ∀ g, v.ownBlock = some g → g < wr.heap.size ∧ S + 2 ≤ g := by
  intro g hg
  rcases h.row.2 with ⟨rfl, -⟩ | ⟨g', cap, cur, rfl, hg1, hb, -⟩
  · simp [Value.ownBlock] at hg
  · simp [Value.ownBlock] at hg
    subst hg
    exact ⟨(Array.getElem?_eq_some_iff.1 hb).1, hg1⟩
theorem LInv.row1 {w wr w1 : World} {j : J} {S m : Nat} {kv : Value} {ka : Option Addr} {K : Nat → Prop} {v : Value} {xs : List Value} {X : Nat → Nat → Prop} (h : LInv w wr j S m kv ka K v xs X) (hB1 : Below wr.heap.size wr w1) (o : Obj) :
    (w1.alloc o).ownsRow (S + 2) 28 5 v m xs := by
  refine ⟨h.row.1, ?_⟩
  rcases h.row.2 with h0 | ⟨g, cap, cur, e, hg1, hb, rest⟩
  · exact .inl h0
  · have hlt := (Array.getElem?_eq_some_iff.1 hb).1
    exact .inr ⟨g, cap, cur, e, hg1, by rw [Below.heap_alloc _ _ _ (Nat.lt_of_lt_of_le hlt hB1.size), hB1.block g hlt]; exact hb, rest⟩
theorem LInv.t1 {w wr w1 : World} {j : J} {S m : Nat} {kv : Value} {ka : Option Addr} {K : Nat → Prop} {v : Value} {xs : List Value} {X : Nat → Nat → Prop} (h : LInv w wr j S m kv ka K v xs X) (hB1 : Below wr.heap.size wr w1) :
    w1.heap[S + 1]? = some (.cells #[.int .i64 j.k, .int .i64 j.n, .string ⟨j.t.toArray⟩, kv, v] 28) := by
  rw [hB1.block _ (Array.getElem?_eq_some_iff.1 h.b2).1]; exact h.b2
theorem LInv.t2 {w wr w1 w2 : World} {j : J} {S m : Nat} {kv : Value} {ka : Option Addr} {K : Nat → Prop} {v : Value} {xs : List Value} {X : Nat → Nat → Prop} (h : LInv w wr j S m kv ka K v xs X) (hB1 : Below wr.heap.size wr w1) {o : Obj} (hgr : (w1.alloc o).grownBy w2 v.ownBlock) :
    w2.heap[S + 1]? = some (.cells #[.int .i64 j.k, .int .i64 j.n, .string ⟨j.t.toArray⟩, kv, v] 28) := by
  have lt2 : S + 1 < wr.heap.size := (Array.getElem?_eq_some_iff.1 h.b2).1
  have := hB1.size
  rw [hgr.block _ (by simp; omega) (fun e => by have := (h.vlt _ e.symm).2; omega), Below.heap_alloc _ _ _ (by omega)]
  exact h.t1 hB1
theorem LInv.step {w wr w1 w2 : World} {j : J} {S m : Nat} {kv : Value} {ka : Option Addr} {K : Nat → Prop} {v v' : Value} {xs news : List Value} {X : Nat → Nat → Prop} (h : LInv w wr j S m kv ka K v xs X) (hm : m < j.items.length)
    (hB1 : Below wr.heap.size wr w1) {o : Obj} (hgr : (w1.alloc o).grownBy w2 v.ownBlock) (hrow : w2.ownsRow (S + 2) 28 5 v' (m + 1) (xs ++ news)) (hg : ∃ g, v'.ownBlock = some g ∧ (v.ownBlock = some g ∨ (w1.alloc o).heap.size ≤ g))
    (hn : news.length = 5) (hx : OwnJ w1 j.items[m] (fun b => wr.heap.size ≤ b ∧ b < w1.heap.size) news) (hv : ∀ g, v.ownBlock = some g → g < wr.heap.size ∧ S + 2 ≤ g) :
    LInv w (w2.setCell ⟨S + 1, 4, none⟩ v') j S (m + 1) kv ka K v' (xs ++ news) (fun i c => if i = m then wr.heap.size ≤ c ∧ c < w1.heap.size else X i c) := by
  have hs1 := hB1.size
  have hsz : (w1.alloc o).heap.size = w1.heap.size + 1 := by simp
  have hs2 : w1.heap.size + 1 ≤ w2.heap.size := by have := hgr.size; omega
  have lt2 : S + 1 < wr.heap.size := (Array.getElem?_eq_some_iff.1 h.b2).1
  have same : ∀ c, c < w1.heap.size → some c ≠ v.ownBlock → c ≠ S + 1 → (w2.setCell ⟨S + 1, 4, none⟩ v').heap[c]? = w1.heap[c]? := fun c hc hcv hcs => by
    rw [Below.heap_setCell _ _ _ _ hcs, hgr.block c (by omega) hcv, Below.heap_alloc _ _ _ hc]
  have samew : ∀ c, c < wr.heap.size → some c ≠ v.ownBlock → c ≠ S + 1 → (w2.setCell ⟨S + 1, 4, none⟩ v').heap[c]? = wr.heap[c]? := fun c hc hcv hcs => by
    rw [same c (by omega) hcv hcs, hB1.block c hc]
  have nv : ∀ c, c < S + 2 → some c ≠ v.ownBlock := fun c hc e => by have := (hv c e.symm).2; omega
  have hlen : xs.length = m * 5 := h.row.1
  refine ⟨?_, ?_, ?_, ?_, ?_, ?_, ?_, ?_, ?_, ?_⟩
  · rw [samew (S) (by omega) (nv _ (by omega)) (by omega)]; exact h.b1
  · have : w2.heap[S + 1]? = some (.cells #[.int .i64 j.k, .int .i64 j.n, .string ⟨j.t.toArray⟩, kv, v] 28) := by
      rw [hgr.block _ (by omega) (nv _ (by omega)), Below.heap_alloc _ _ _ (by omega), hB1.block _ lt2]; exact h.b2
    exact heap_set 4 v' this
  · refine ⟨hrow.1, ?_⟩
    rcases hrow.2 with h0 | ⟨g, cap, cur, e, hg1, hb, rest⟩
    · exact .inl h0
    · exact .inr ⟨g, cap, cur, e, hg1, by rw [Below.heap_setCell _ _ _ _ (by show g ≠ S + 1; omega)]; exact hb, rest⟩
  · intro g hg'
    obtain ⟨g2, e2, h2⟩ := hg
    rw [e2] at hg'
    injection hg' with e3
    subst e3
    rcases h2 with h2 | h2
    · refine ⟨fun i hi => ?_, (h.far _ h2).2⟩
      by_cases e : i = m
      · simp only [if_pos e] at hi; have := (hv _ h2).1; omega
      · simp only [if_neg e] at hi; exact (h.far _ h2).1 i hi
    · refine ⟨fun i hi => ?_, fun hk => ?_⟩
      · by_cases e : i = m
        · simp only [if_pos e] at hi; omega
        · simp only [if_neg e] at hi; have := (h.inn i _ hi).2.1; omega
      · have := (h.kin _ hk).2; omega
  · intro i c hc
    have e4 : (w2.setCell ⟨S + 1, 4, none⟩ v').heap.size = w2.heap.size := by simp [World.setCell]
    rw [e4]
    by_cases e : i = m
    · simp only [if_pos e] at hc
      exact ⟨by omega, by omega, fun hk => by have := (h.kin c hk).2; omega⟩
    · simp only [if_neg e] at hc
      have := h.inn i c hc
      exact ⟨this.1, by omega, this.2.2⟩
  · intro i i' c hc hc'
    by_cases e : i = m
    · by_cases e' : i' = m
      · omega
      · simp only [if_pos e] at hc; simp only [if_neg e'] at hc'; have := (h.inn i' c hc').2.1; omega
    · by_cases e' : i' = m
      · simp only [if_neg e] at hc; simp only [if_pos e'] at hc'; have := (h.inn i c hc).2.1; omega
      · simp only [if_neg e] at hc; simp only [if_neg e'] at hc'; exact h.apart i i' c hc hc'
  · intro i hi him
    by_cases e : i = m
    · subst e
      simp only [if_pos rfl]
      have e5 : five (fun q => (xs ++ news).getD q default) i = news := by
        match news, hn with
        | [n0, n1, n2, n3, n4], _ =>
          have g : ∀ o, (xs ++ [n0, n1, n2, n3, n4]).getD (i * 5 + o) default = [n0, n1, n2, n3, n4].getD o default := fun o => by
            rw [List.getD_eq_getElem?_getD, List.getElem?_append_right (by omega), hlen, Nat.add_sub_cancel_left, ← List.getD_eq_getElem?_getD]
          have g0 := g 0
          simp only [Nat.add_zero] at g0
          simp only [five, g0, g 1, g 2, g 3, g 4]; rfl
      rw [e5]
      refine OwnJ.same _ (fun b => wr.heap.size ≤ b ∧ b < w1.heap.size) _ _ (fun c hc => same c hc.2 (fun e => by have := (hv c e.symm).1; omega) (by omega)) (fun c hc => hc) hx
    · simp only [if_neg e]
      have e5 : five (fun q => (xs ++ news).getD q default) i = five (fun q => xs.getD q default) i := by
        have g : ∀ o, o < 5 → (xs ++ news).getD (i * 5 + o) default = xs.getD (i * 5 + o) default := fun o ho => by
          rw [List.getD_eq_getElem?_getD, List.getD_eq_getElem?_getD, List.getElem?_append_left (by omega)]
        have g0 := g 0 (by omega)
        simp only [Nat.add_zero] at g0
        simp only [five, g0, g 1 (by omega), g 2 (by omega), g 3 (by omega), g 4 (by omega)]
      rw [e5]
      refine OwnJ.same _ (X i) _ _ (fun c hc => samew c (h.inn i c hc).2.1 (fun e => (h.far c e.symm).1 i hc) (by have := (h.inn i c hc).1; omega)) (fun c hc => hc) (h.own i hi (by omega))
  · exact h.keys.same (fun c hc => samew c (h.kin c hc).2 (fun e => (h.far c e.symm).2 hc) (by have := (h.kin c hc).1; omega)) (fun _ h => h)
  · intro c hc
    have e4 : (w2.setCell ⟨S + 1, 4, none⟩ v').heap.size = w2.heap.size := by simp [World.setCell]
    have := h.kin c hc
    exact ⟨this.1, by rw [e4]; omega⟩
  · refine (h.bel.trans (hB1.mono (by omega))).trans ?_
    refine ⟨hgr.os, hgr.tape, hgr.output, by simp [World.setCell]; omega, fun c hc => ?_⟩
    rw [Below.heap_setCell _ _ _ _ (by show c ≠ S + 1; omega), hgr.block c (by omega) (nv c (by omega)), Below.heap_alloc _ _ _ (by omega)]
theorem linv_start {w wr : World} {j : J} {S : Nat} {kv : Value} {ka : Option Addr} {K : Nat → Prop} (b1 : wr.heap[S]? = some (.cells zero5 28))
    (b2 : wr.heap[S + 1]? = some (.cells #[.int .i64 j.k, .int .i64 j.n, .string ⟨j.t.toArray⟩, kv, .slice none 0 0] 28)) (hk : OwnStrs wr K ka j.keys) (hK : ∀ c, K c → S + 2 ≤ c ∧ c < wr.heap.size) (hB : Below S w wr) :
    LInv w wr j S 0 kv ka K (.slice none 0 0) [] (fun _ _ => False) :=
  ⟨b1, b2, ⟨rfl, .inl ⟨rfl, rfl⟩⟩, fun g h => by simp [Value.ownBlock] at h, fun _ _ h => h.elim, fun _ _ _ h => h.elim, fun i _ h => absurd h (by omega), hk, hK, hB⟩
theorem LInv.fin {w wr W : World} {j : J} {S : Nat} {ka : Option Addr} {kc vc : Nat} {va : Option Addr} {K : Nat → Prop} {xs : List Value} {X : Nat → Nat → Prop}
    (h : LInv w wr j S j.items.length (.slice ka j.keys.length kc) ka K (.slice va j.items.length vc) xs X) (ht : j.t.length ≤ maxLen) (hkx : ∀ x ∈ j.keys, x.length ≤ maxLen) (hk : j.keys.length ≤ maxLen) (hi : j.items.length ≤ maxLen)
    (hW : ∀ c, c ≠ S → W.heap[c]? = wr.heap[c]?) (hs : W.heap.size = wr.heap.size) :
    OwnJ W j (fun b => S ≤ b ∧ b < W.heap.size) [.int .i64 j.k, .int .i64 j.n, .string ⟨j.t.toArray⟩, .slice ka j.keys.length kc, .slice va j.items.length vc] := by
  rw [OwnJ_eq]
  refine ⟨ka, kc, va, vc, K, fun c => (∃ i, X i c) ∨ (Value.slice va j.items.length vc).ownBlock = some c, rfl, ht, hk, hi, hkx, h.keys.same (fun c hc => hW c (by have := (h.kin c hc).1; omega)) (fun _ h => h), fun c hc => ⟨⟨by have := (h.kin c hc).1; omega, by rw [hs]; exact (h.kin c hc).2⟩, fun hI => ?_⟩, fun c hc => ?_, ?_⟩
  · rcases hI with ⟨i, hi⟩ | hg
    · exact (h.inn i c hi).2.2 hc
    · exact (h.far c hg).2 hc
  · rw [hs]
    rcases hc with ⟨i, hi⟩ | hg
    · have := h.inn i c hi; exact ⟨by omega, this.2.1⟩
    · have := h.vlt c hg; exact ⟨by omega, this.1⟩
  · by_cases h0 : j.items.length = 0
    · exact .inl h0
    rcases h.row.2 with ⟨-, h1⟩ | ⟨g, cap, cur, e, hg1, hb, hn, hcap, hsz, hx⟩
    · exact absurd h1 h0
    · injection e with e1 e2 e3
      subst e1
      refine OwnJsons.of_row (b := g) (off := 0) (f := fun q => xs.getD q default) (X := X) (fun _ => ⟨rfl, .inr rfl⟩) (fun i c hc => .inl ⟨i, hc⟩) ⟨fun q hq => ?_, fun i c hc e => ?_, h.apart, fun i hi => ?_⟩
      · have hbW : W.heap[g]? = some (.cells cur 28 (0, 0)) := by rw [hW g (by omega)]; exact hb
        have hq2 : cur[q]? = some (xs.getD q default) := by
          rw [← hx, List.getD_eq_getElem?_getD, List.getElem?_take_of_lt hq, Array.getElem?_toList]
          have : q < cur.size := by rw [hsz]; exact Nat.lt_of_lt_of_le hq (Nat.mul_le_mul_right 5 hn)
          rw [Array.getElem?_eq_getElem this]; rfl
        rw [Nat.zero_add]
        exact ⟨by simp [World.cell?, hbW, hq2], by simp [World.frozen?, hbW]⟩
      · subst e
        exact (h.far c rfl).1 i hc
      · have := h.own i hi hi
        show OwnJ W (j.items.getD i dflt) (X i) _
        rw [List.getD_eq_getElem?_getD, List.getElem?_eq_getElem hi]
        exact OwnJ.same _ (X i) _ _ (fun c hc => hW c (by have := (h.inn i c hc).1; omega)) (fun _ h => h) this
end Go.Proofs.Ytkncpfhblciplaa
