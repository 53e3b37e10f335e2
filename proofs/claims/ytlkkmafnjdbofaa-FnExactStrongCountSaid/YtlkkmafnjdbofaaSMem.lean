import Derived.Test.YtlkkmafnjdbofaaTEq
namespace Go.Proofs.Ytlkkmafnjdbofaa
open Go.RowKit
set_option linter.unusedSimpArgs false
/-- where a table's lists lie -/
structure Ad where
  ca : Option Addr
  cc : Nat
  ua : Option Addr
  uc : Nat
def tbZ : Tb := ⟨[], [], [], false⟩
def tbF (l : List Tb) (A : Nat → Ad) (m : Nat) : Value :=
  if m % 4 = 0 then .string ⟨(l.getD (m / 4) tbZ).nm.toArray⟩ else if m % 4 = 1 then .slice (A (m / 4)).ca (l.getD (m / 4) tbZ).cols.length (A (m / 4)).cc
  else if m % 4 = 2 then .slice (A (m / 4)).ua (l.getD (m / 4) tbZ).uq.length (A (m / 4)).uc else .bool (l.getD (m / 4) tbZ).rt
theorem tb_getD {l : List Tb} {i : Nat} (h : i < l.length) : l.getD i tbZ = l[i] := by rw [List.getD_eq_getElem?_getD, List.getElem?_eq_getElem h]; rfl
def tbC (t : Tb) (a : Ad) : List Value := [.string ⟨t.nm.toArray⟩, .slice a.ca t.cols.length a.cc, .slice a.ua t.uq.length a.uc, .bool t.rt]
theorem tbF_at {l : List Tb} {A : Nat → Ad} {i j : Nat} (h : i < l.length) (hj : j < 4) : tbF l A (i * 4 + j) = (tbC l[i] (A i)).getD j undef := by
  unfold tbF
  rw [show (i * 4 + j) % 4 = j by omega, show (i * 4 + j) / 4 = i by omega, tb_getD h]
  match j, hj with
  | 0, _ => rfl
  | 1, _ => rfl
  | 2, _ => rfl
  | 3, _ => rfl
/-- tables in memory -/
structure Tabs (w : World) (B : Nat → Prop) (a : Option Addr) (l : List Tb) (A : Nat → Ad) : Prop where
  row : Rw w B a (l.length * 4) (tbF l A)
  has : ∀ i (h : i < l.length), l[i].Has w B (A i).ca (A i).ua
def TabAt (w : World) (b o : Nat) (t : Tb) (a : Ad) : Prop := w.cell? ⟨b, o, none⟩ = some (.string ⟨t.nm.toArray⟩) ∧ w.cell? ⟨b, o + 1, none⟩ = some (.slice a.ca t.cols.length a.cc) ∧ w.cell? ⟨b, o + 2, none⟩ = some (.slice a.ua t.uq.length a.uc) ∧ w.cell? ⟨b, o + 3, none⟩ = some (.bool t.rt)
theorem Tabs.at {w : World} {B : Nat → Prop} {a : Option Addr} {l : List Tb} {A : Nat → Ad} (h : Tabs w B a l A) (k : Nat) (hk : k < l.length) : ∃ b off, a = some ⟨b, off, none⟩ ∧ B b ∧ ∀ i (h : i < l.length), TabAt w b (off + i * 4) l[i] (A i) := by
  obtain ⟨b, off, e, hb, hc⟩ := Rw.at h.row (k * 4) (by omega)
  refine ⟨b, off, e, hb, fun i hi => ?_⟩
  have g : ∀ j, j < 4 → w.cell? ⟨b, off + i * 4 + j, none⟩ = _ := fun j hj => by rw [Nat.add_assoc, hc _ (by omega), tbF_at hi hj]
  exact ⟨g 0 (by omega), g 1 (by omega), g 2 (by omega), g 3 (by omega)⟩
theorem Tabs.same {w w' : World} {B B' : Nat → Prop} {a : Option Addr} {l : List Tb} {A : Nat → Ad} (h : Tabs w B a l A) (hs : ∀ b, B b → w'.heap[b]? = w.heap[b]?) (hB : ∀ b, B b → B' b) : Tabs w' B' a l A := ⟨h.row.same hs hB, fun i hi => (h.has i hi).same hs hB⟩
theorem Tabs.later {w w' : World} {B : Nat → Prop} {a : Option Addr} {l : List Tb} {A : Nat → Ad} (h : Tabs w B a l A) (hb : Below w.heap.size w w') : Tabs w' B a l A := ⟨h.row.inside.same (fun b hb' => hb.block b hb'.2) (fun _ h => h.1), fun i hi => (h.has i hi).later hb⟩
/-- the cells of a table wherever the row was found -/
theorem Tabs.spot {w : World} {B : Nat → Prop} {b off : Nat} {l : List Tb} {A : Nat → Ad} (h : Tabs w B (some ⟨b, off, none⟩) l A) (i : Nat) (hi : i < l.length) : TabAt w b (off + i * 4) l[i] (A i) := by
  obtain ⟨b', off', e, -, hc⟩ := h.at i hi
  simp only [Option.some.injEq, Addr.mk.injEq, and_true] at e
  obtain ⟨rfl, rfl⟩ := e
  exact hc i hi
def szTs (l : List Tb) : Nat := l.length + (l.map Tb.sz).sum
def TbsOk (l : List Tb) : Prop := l.length ≤ maxLen ∧ ∀ t ∈ l, t.ok
set_option maxHeartbeats 1600000 in
theorem szTables (l : List Tb) (a : Option Addr) (c : Nat) (A : Nat → Ad) (L : Int) (B : Nat → Prop) (w : World) (h0 : 0 ≤ L) (h1 : L ≤ 1048576) (ho : TbsOk l) (hS : Tabs w B a l A) :
    Calls Try.prog 12 #[.slice a l.length c, .int .i64 L] w fun e w' => e = .returned (.int .i64 (lessI L (szTs l))) ∧ Below w.heap.size w w' := by
  have hl := ho.1
  unfold maxLen at hl
  have HX : Hid (∀ t ∈ l, t.ok) := ho.2
  have HS : Hid (Tabs w B a l A) := hS
  clear ho hS
  by_cases hn : L - (l.length : Int) < 0
  · have HR : Hid (lessI L (szTs l) = -1) := by show lessI L (szTs l) = -1; unfold lessI szTs; rw [if_neg (by omega)]
    go_enter Try.func12, Try.ntmps12
    go_wp2_with fail
    go_ret
    exact ⟨ret_i HR.out.symm, Below.refl _ _⟩
  · go_enter Try.func12, Try.ntmps12
    go_wp2_with fail
    go_loopw [1, 5] (fun t i wr => ∃ k : Nat, k ≤ l.length ∧ i = .int .i64 k ∧ ∃ m : Int, t = .int .i64 m ∧ 0 ≤ m ∧ m ≤ L ∧ Hid (m = L - (l.length + sumTo Tb.sz l k : Nat) ∧ Below w.heap.size w wr)) (fun _ i _ => l.length - (intOf i).toNat)
    case atStart => exact ⟨0, Nat.zero_le _, rfl, L - l.length, rfl, by omega, by omega, by show _ = _; rw [sumTo_zero]; omega, Below.refl _ _⟩
    case round =>
      obtain ⟨k, hk, rfl, m, rfl, hm0, hmL, HM⟩ := hrel
      by_cases hlt : k < l.length
      · obtain ⟨b, off, rfl, -, hc⟩ := (HS.out.later HM.out.2).at k hlt
        obtain ⟨c0, c1, c2, c3⟩ := hc k hlt
        clear hc
        have HLX : Hid (l[k].ok) := HX.out _ (List.getElem_mem hlt)
        have HHS := Lib.hid (HS.out.has k hlt)
        have HSU : Hid (sumTo Tb.sz l (k + 1) = sumTo Tb.sz l k + l[k].sz) := sumTo_succ _ _ _ hlt
        have HLE : Hid (sumTo Tb.sz l (k + 1) ≤ (l.map Tb.sz).sum) := sumTo_le _ _ _
        generalize l[k] = x at *
        by_cases hz : m - (x.sz : Int) < 0
        · have HR : Hid (lessI L (szTs l) = -1) := by
            have h1 := HM.out.1; have h2 := HSU.out; have h3 := HLE.out
            show lessI L (szTs l) = -1
            unfold lessI szTs; rw [if_neg (by omega)]
          have HQ : Hid (lessI m x.sz = -1) := less_no hz
          go_wp2_with (go_at_call 27; refine (szTable x _ _ _ _ m B _ hm0 (by omega) HLX.out (HHS.out.later HM.out.2)).mono ?_; rintro e w1 ⟨rfl, hB1⟩; rw [HQ.out])
          go_ret
          exact ⟨ret_i HR.out.symm, HM.out.2.trans (hB1.mono HM.out.2.size)⟩
        · have HQ : Hid (lessI m x.sz = m - x.sz) := less_yes (by omega)
          obtain ⟨m', hm'⟩ : ∃ m' : Int, m' = m - x.sz := ⟨_, rfl⟩
          have hm'0 : 0 ≤ m' := by omega
          have hd : decide (m' < 0) = false := by simp; omega
          have HM' : Hid (m' = m - x.sz) := hm'
          clear hm'
          go_wp2_with (go_at_call 27; refine (szTable x _ _ _ _ m B _ hm0 (by omega) HLX.out (HHS.out.later HM.out.2)).mono ?_; rintro e w1 ⟨rfl, hB1⟩; rw [HQ.out, ← HM'.out])
          go_roundw
          case rel =>
            have h1 := HM.out.1; have h2 := HSU.out; have h3 := HM'.out
            exact ⟨k + 1, by omega, by go_num, m', rfl, by omega, by omega, by show _ = _; omega, HM.out.2.trans (hB1.mono HM.out.2.size)⟩
          case measure => simp [intOf]; omega
      · have HR : Hid (lessI L (szTs l) = m) := by
          have h1 := HM.out.1
          have hk' : k = l.length := by omega
          rw [hk', sumTo_all] at h1
          show lessI L (szTs l) = m
          unfold lessI szTs; rw [if_pos (by omega)]; omega
        go_wp2_with fail
        go_ret
        exact ⟨ret_i HR.out.symm, HM.out.2⟩
set_option maxHeartbeats 1600000 in
theorem szSchema (l : List Tb) (a : Option Addr) (c : Nat) (A : Nat → Ad) (L : Int) (B : Nat → Prop) (w : World) (h0 : 0 ≤ L) (h1 : L ≤ 1048576) (ho : TbsOk l) (hS : Tabs w B a l A) :
    Calls Try.prog 4 #[.agg #[.slice a l.length c], .int .i64 L] w fun e w' => e = .returned (.int .i64 (lessI L (szTs l))) ∧ Below w.heap.size w w' := by
  have hb : Below w.heap.size w (w.alloc (.cells #[.slice a l.length c] 24)) := (Below.refl _ _).alloc (Nat.le_refl _) _
  have ST := Lib.hid (szTables l a c A L B (w.alloc (.cells #[.slice a l.length c] 24)) h0 h1 ho (hS.later hb))
  have HB := Lib.hid hb
  clear ho hS hb
  by_cases hz : L - (szTs l : Int) < 0
  · rw [less_no hz] at ST ⊢
    clear hz
    go_enter Try.func4, Try.ntmps4
    go_wp2_with (go_at_call 12; refine ST.out.mono ?_; rintro e w1 ⟨rfl, hB1⟩)
    go_ret
    exact ⟨rfl, HB.out.trans (hB1.mono HB.out.size)⟩
  · rw [less_yes (by omega)] at ST ⊢
    obtain ⟨M, hM⟩ : ∃ M : Int, M = L - (szTs l : Int) := ⟨_, rfl⟩
    rw [← hM] at ST ⊢
    have hd : decide (M < 0) = false := decide_eq_false (by omega)
    clear hM hz
    go_enter Try.func4, Try.ntmps4
    go_wp2_with (go_at_call 12; refine ST.out.mono ?_; rintro e w1 ⟨rfl, hB1⟩)
    go_ret
    exact ⟨rfl, HB.out.trans (hB1.mono HB.out.size)⟩
end Go.Proofs.Ytlkkmafnjdbofaa
