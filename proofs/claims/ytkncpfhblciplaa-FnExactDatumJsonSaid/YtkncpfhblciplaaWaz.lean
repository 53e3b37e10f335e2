import Derived.Test.YtkncpfhblciplaaWaw
import Derived.Deep.RegionHeld3
namespace Go.Proofs.Ytkncpfhblciplaa
open Go.RowKit
set_option linter.unusedSimpArgs false
def OwnSaid (j : J) : Prop := ∀ (cs : List Value) (B : Nat → Prop) (w : World), j.sz ≤ 1048576 → RJ w B j cs →
    Calls Try.prog 40 #[.agg cs.toArray] w fun e w' => ∃ cs', e = .returned (.agg cs'.toArray) ∧ RJ w' (fun b => w.heap.size ≤ b ∧ b < w'.heap.size) j cs' ∧ Below w.heap.size w w'
structure OwnInv (w wr : World) (j : J) (S p m : Nat) (box : Array Value) (kv v : Value) (ka : Option Addr) (xs : List Value) (X : Nat → Prop) : Prop where
  b0 : wr.heap[S]? = some (.cells box 28)
  b1 : wr.heap[S + 1]? = some (.cells zero5 28)
  b2 : wr.heap[p]? = some (.cells #[.int .i64 j.k, .int .i64 j.n, .string ⟨j.t.toArray⟩, kv, v] 28)
  lo : S + 1 + 1 ≤ p
  row : wr.ownsRow (S + 1 + 1) 28 5 v m xs
  far : ∀ g, v.ownBlock = some g → ¬ X g ∧ g ≠ p
  inn : ∀ c, X c → S + 1 + 1 ≤ c ∧ c < wr.heap.size ∧ c ≠ p
  rj : ∀ i (_ : i < j.items.length), i < m → RJ wr X j.items[i] (five (fun q => xs.getD q default) i)
  keys : Strs wr X ka j.keys
  bel : Below S w wr
variable {w wr w1 w2 W : World} {j : J} {S p m : Nat} {box : Array Value} {kv v v' : Value} {ka : Option Addr} {xs news : List Value} {X : Nat → Prop}
theorem OwnInv.vlt (h : OwnInv w wr j S p m box kv v ka xs X) : ∀ g, v.ownBlock = some g → g < wr.heap.size ∧ S + 1 + 1 ≤ g := by
  intro g hg
  rcases h.row.2 with ⟨rfl, -⟩ | ⟨g', cap, cur, rfl, hg1, hb, -⟩
  · simp [Value.ownBlock] at hg
  · simp [Value.ownBlock] at hg
    subst hg
    exact ⟨(Array.getElem?_eq_some_iff.1 hb).1, hg1⟩
theorem OwnInv.row1 (h : OwnInv w wr j S p m box kv v ka xs X) (hB1 : Below wr.heap.size wr w1) (o : Obj) :
    (w1.alloc o).ownsRow (S + 1 + 1) 28 5 v m xs := by
  refine ⟨h.row.1, ?_⟩
  rcases h.row.2 with h0 | ⟨g, cap, cur, e, hg1, hb, rest⟩
  · exact .inl h0
  · have hlt := (Array.getElem?_eq_some_iff.1 hb).1
    exact .inr ⟨g, cap, cur, e, hg1, by rw [Below.heap_alloc _ _ _ (Nat.lt_of_lt_of_le hlt hB1.size), hB1.block g hlt]; exact hb, rest⟩
theorem OwnInv.t1 (h : OwnInv w wr j S p m box kv v ka xs X) (hB1 : Below wr.heap.size wr w1) :
    w1.heap[p]? = some (.cells #[.int .i64 j.k, .int .i64 j.n, .string ⟨j.t.toArray⟩, kv, v] 28) := by
  rw [hB1.block _ (Array.getElem?_eq_some_iff.1 h.b2).1]; exact h.b2
theorem OwnInv.t2 (h : OwnInv w wr j S p m box kv v ka xs X) (hB1 : Below wr.heap.size wr w1) {o : Obj} (hgr : (w1.alloc o).grownBy w2 v.ownBlock) :
    w2.heap[p]? = some (.cells #[.int .i64 j.k, .int .i64 j.n, .string ⟨j.t.toArray⟩, kv, v] 28) := by
  have lt2 : p < wr.heap.size := (Array.getElem?_eq_some_iff.1 h.b2).1
  have := hB1.size
  rw [hgr.block _ (by simp; omega) (fun e => (h.far _ e.symm).2 rfl), Below.heap_alloc _ _ _ (by omega)]
  exact h.t1 hB1
theorem OwnInv.step (h : OwnInv w wr j S p m box kv v ka xs X) (hm : m < j.items.length)
    (hB1 : Below wr.heap.size wr w1) {o : Obj} (hgr : (w1.alloc o).grownBy w2 v.ownBlock) (hrow : w2.ownsRow (S + 1 + 1) 28 5 v' (m + 1) (xs ++ news)) (hg : ∃ g, v'.ownBlock = some g ∧ (v.ownBlock = some g ∨ (w1.alloc o).heap.size ≤ g))
    (hn : news.length = 5) (hx : RJ w1 (fun b => wr.heap.size ≤ b ∧ b < w1.heap.size) j.items[m] news) :
    OwnInv w (w2.setCell ⟨p, 4, none⟩ v') j S p (m + 1) box kv v' ka (xs ++ news) (fun c => X c ∨ (wr.heap.size ≤ c ∧ c < w1.heap.size)) := by
  have hv := h.vlt
  have hs1 := hB1.size
  have hsz : (w1.alloc o).heap.size = w1.heap.size + 1 := by simp
  have hs2 : w1.heap.size + 1 ≤ w2.heap.size := by have := hgr.size; omega
  have lt2 : p < wr.heap.size := (Array.getElem?_eq_some_iff.1 h.b2).1
  have lo := h.lo
  have same : ∀ c, c < w1.heap.size → some c ≠ v.ownBlock → c ≠ p → (w2.setCell ⟨p, 4, none⟩ v').heap[c]? = w1.heap[c]? := fun c hc hcv hcs => by
    rw [Below.heap_setCell _ _ _ _ hcs, hgr.block c (by omega) hcv, Below.heap_alloc _ _ _ hc]
  have samew : ∀ c, c < wr.heap.size → some c ≠ v.ownBlock → c ≠ p → (w2.setCell ⟨p, 4, none⟩ v').heap[c]? = wr.heap[c]? := fun c hc hcv hcs => by
    rw [same c (by omega) hcv hcs, hB1.block c hc]
  have nv : ∀ c, c < S + 1 + 1 → some c ≠ v.ownBlock := fun c hc e => by have := (hv c e.symm).2; omega
  have hlen : xs.length = m * 5 := h.row.1
  have e4 : (w2.setCell ⟨p, 4, none⟩ v').heap.size = w2.heap.size := by simp [World.setCell]
  have gp : ∀ g, v'.ownBlock = some g → g ≠ p ∧ ¬ X g ∧ ¬ (wr.heap.size ≤ g ∧ g < w1.heap.size) := by
    intro g hg'
    obtain ⟨g2, e2, h2⟩ := hg
    rw [e2] at hg'
    injection hg' with e3
    subst e3
    rcases h2 with h2 | h2
    · exact ⟨(h.far _ h2).2, (h.far _ h2).1, fun hc => by have := (hv _ h2).1; omega⟩
    · exact ⟨by omega, fun hx => by have := (h.inn _ hx).2.1; omega, by omega⟩
  refine ⟨?_, ?_, ?_, lo, ?_, ?_, ?_, ?_, ?_, ?_⟩
  · rw [samew S (by omega) (nv S (by omega)) (by omega)]; exact h.b0
  · rw [samew (S + 1) (by omega) (nv _ (by omega)) (by omega)]; exact h.b1
  · exact heap_set 4 v' (h.t2 hB1 hgr)
  · refine ⟨hrow.1, ?_⟩
    rcases hrow.2 with h0 | ⟨g, cap, cur, e, hg1, hb, rest⟩
    · exact .inl h0
    · exact .inr ⟨g, cap, cur, e, hg1, by rw [Below.heap_setCell _ _ _ _ (gp g (by rw [e]; rfl)).1]; exact hb, rest⟩
  · intro g hg'
    have := gp g hg'
    exact ⟨fun hc => hc.elim this.2.1 this.2.2, this.1⟩
  · intro c hc
    rw [e4]
    rcases hc with hc | hc
    · have := h.inn c hc; exact ⟨this.1, by omega, this.2.2⟩
    · exact ⟨by omega, by omega, by omega⟩
  · intro i hi him
    by_cases e : i = m
    · subst e
      have e5 : five (fun q => (xs ++ news).getD q default) i = news := by
        match news, hn with
        | [n0, n1, n2, n3, n4], _ =>
          have g : ∀ o, (xs ++ [n0, n1, n2, n3, n4]).getD (i * 5 + o) default = [n0, n1, n2, n3, n4].getD o default := fun o => by
            rw [List.getD_eq_getElem?_getD, List.getElem?_append_right (by omega), hlen, Nat.add_sub_cancel_left, ← List.getD_eq_getElem?_getD]
          have g0 := g 0
          simp only [Nat.add_zero] at g0
          simp only [five, g0, g 1, g 2, g 3, g 4]; rfl
      rw [e5]
      exact RJ.same (fun c hc => same c hc.2 (fun e => by have := (hv c e.symm).1; omega) (by omega)) (fun c hc => .inr hc) _ _ hx
    · have e5 : five (fun q => (xs ++ news).getD q default) i = five (fun q => xs.getD q default) i := by
        have g : ∀ o, o < 5 → (xs ++ news).getD (i * 5 + o) default = xs.getD (i * 5 + o) default := fun o ho => by
          rw [List.getD_eq_getElem?_getD, List.getD_eq_getElem?_getD, List.getElem?_append_left (by omega)]
        have g0 := g 0 (by omega)
        simp only [Nat.add_zero] at g0
        simp only [five, g0, g 1 (by omega), g 2 (by omega), g 3 (by omega), g 4 (by omega)]
      rw [e5]
      exact RJ.same (fun c hc => samew c (h.inn c hc).2.1 (fun e => (h.far c e.symm).1 hc) (h.inn c hc).2.2) (fun c hc => .inl hc) _ _ (h.rj i hi (by omega))
  · exact h.keys.same (fun c hc => samew c (h.inn c hc).2.1 (fun e => (h.far c e.symm).1 hc) (h.inn c hc).2.2) (fun _ h => .inl h)
  · refine (h.bel.trans (hB1.mono (by omega))).trans ?_
    refine ⟨hgr.os, hgr.tape, hgr.output, by rw [e4]; omega, fun c hc => ?_⟩
    rw [Below.heap_setCell _ _ _ _ (by show c ≠ p; omega), hgr.block c (by omega) (nv c (by omega)), Below.heap_alloc _ _ _ (by omega)]
theorem OwnInv.fin {kc vc : Nat} {va : Option Addr} (h : OwnInv w wr j S p j.items.length box (.slice ka j.keys.length kc) (.slice va j.items.length vc) ka xs X) (ht : j.t.length ≤ maxLen) (hkx : ∀ x ∈ j.keys, x.length ≤ maxLen) (hk : j.keys.length ≤ maxLen) (hi : j.items.length ≤ maxLen)
    (hW : ∀ c, c ≠ S + 1 → W.heap[c]? = wr.heap[c]?) (hs : W.heap.size = wr.heap.size) :
    RJ W (fun b => S ≤ b ∧ b < W.heap.size) j [.int .i64 j.k, .int .i64 j.n, .string ⟨j.t.toArray⟩, .slice ka j.keys.length kc, .slice va j.items.length vc] := by
  have hin : ∀ c, X c → S ≤ c ∧ c < W.heap.size := fun c hc => by have := h.inn c hc; rw [hs]; exact ⟨by omega, this.2.1⟩
  have hsm : ∀ c, X c → W.heap[c]? = wr.heap[c]? := fun c hc => hW c (by have := h.inn c hc; omega)
  rw [RJ_eq]
  refine ⟨ka, kc, va, vc, rfl, ht, hk, hi, hkx, h.keys.same hsm hin, ?_⟩
  by_cases h0 : j.items.length = 0
  · exact .inl h0
  rcases h.row.2 with ⟨-, h1⟩ | ⟨g, cap, cur, e, hg1, hb, hn, hcap, hsz, hx⟩
  · exact absurd h1 h0
  · injection e with e1 e2 e3
    subst e1
    have hg := (Array.getElem?_eq_some_iff.1 hb).1
    refine .inr ⟨g, 0, rfl, ⟨by omega, by rw [hs]; exact hg⟩, fun i hi => ⟨five (fun q => xs.getD q default) i, ?_, RJ.same hsm hin _ _ (h.rj i hi hi)⟩⟩
    have hbW : W.heap[g]? = some (.cells cur 28 (0, 0)) := by rw [hW g (by omega)]; exact hb
    have hq2 : ∀ q, q < j.items.length * 5 → W.cell? ⟨g, 0 + q, none⟩ = some (xs.getD q default) := fun q hq => by
      have hq3 : cur[q]? = some (xs.getD q default) := by
        rw [← hx, List.getD_eq_getElem?_getD, List.getElem?_take_of_lt hq, Array.getElem?_toList]
        have : q < cur.size := by rw [hsz]; exact Nat.lt_of_lt_of_le hq (Nat.mul_le_mul_right 5 hn)
        rw [Array.getElem?_eq_getElem this]; rfl
      rw [Nat.zero_add]
      simp [World.cell?, hbW, hq3]
    intro o u hu
    have ho : o < 5 := by have := (List.getElem?_eq_some_iff.1 hu).1; simpa [five] using this
    have e6 : (five (fun q => xs.getD q default) i)[o]? = some (xs.getD (i * 5 + o) default) := by
      match o, ho with
      | 0, _ | 1, _ | 2, _ | 3, _ | 4, _ => rfl
    rw [e6] at hu
    injection hu with hu
    subst hu
    have := hq2 (i * 5 + o) (by omega)
    rw [show 0 + i * 5 + o = 0 + (i * 5 + o) by omega]
    exact this
theorem OwnInv.start {a' : Option Addr} {c' g2 : Nat} (b0 : W.heap[S]? = some (.cells box 28)) (b1 : W.heap[S + 1]? = some (.cells zero5 28))
    (b2 : W.heap[p]? = some (.cells #[.int .i64 j.k, .int .i64 j.n, .string ⟨j.t.toArray⟩, .slice a' j.keys.length c', .slice (some ⟨g2, 0, none⟩) 0 0] 28)) (bg : W.heap[g2]? = some (.cells #[] 28)) (hp : S + 1 + 1 ≤ p) (hg2 : S + 1 + 1 ≤ g2) (hne : g2 ≠ p)
    (hX : ∀ c, X c → S + 1 + 1 ≤ c ∧ c < W.heap.size ∧ c ≠ p ∧ c ≠ g2) (hk : Strs W X a' j.keys) (hB : Below S w W) :
    OwnInv w W j S p 0 box (.slice a' j.keys.length c') (.slice (some ⟨g2, 0, none⟩) 0 0) a' [] X :=
  ⟨b0, b1, b2, hp, ⟨by simp, .inr ⟨g2, 0, #[], rfl, hg2, bg, Nat.le_refl _, by unfold maxLen; omega, by simp, by simp⟩⟩, fun g h => by
    simp [Value.ownBlock] at h; subst h; exact ⟨fun hx => (hX _ hx).2.2.2 rfl, hne⟩, fun c hc => ⟨(hX c hc).1, (hX c hc).2.1, (hX c hc).2.2.1⟩, fun i _ h => absurd h (by omega), hk, hB⟩
end Go.Proofs.Ytkncpfhblciplaa
