import Derived.Test.YtkncpfhblciplaaYac
import Derived.Deep.OwnRows
namespace Go.Proofs.Ytkncpfhblciplaa
open Go.RowKit
theorem info9 : (Try.prog.info? 9).map (fun i => (i.zero, i.size, i.bytes)) = some (some (.string ⟨#[]⟩), 1, 16) := by kernel_rfl
set_option maxHeartbeats 400000 in
theorem toStrs (keys : List (List UInt8)) (a : Option Addr) (c : Nat) (S : Nat) (w : World) (hw : S ≤ w.heap.size) (hl : keys.length ≤ 1048576) (hS : Strs w (· < S) a keys) :
    Calls Try.prog 32 #[.slice a keys.length c] w fun e w' => e = .returned (.slice (some ⟨w.heap.size, 0, none⟩) keys.length keys.length) ∧ Strs w' (w.heap.size ≤ ·) (some ⟨w.heap.size, 0, none⟩) keys ∧ Below w.heap.size w w' := by
  have HS : Hid (Strs w (· < S) a keys) := hS
  clear hS
  have hmk := run_make_row' (P := Try.prog) 25 9 (.string ⟨#[]⟩) 16 Try.underlying25 info9 rfl .i64 .i64 keys.length (by omega) (by omega)
  go_enter Try.func32, Try.ntmps32
  go_wp2_with fail
  have hr0 := World.rowIs_made w (.string ⟨#[]⟩) keys.length 9
  go_loopw [4] (fun i wr => ∃ k : Nat, k ≤ keys.length ∧ i = .int .i64 k ∧ Below w.heap.size w wr ∧ Hid (wr.rowIs w.heap.size 9 keys.length (fun m => if m < k then .string ⟨(keys.getD m []).toArray⟩ else .string ⟨#[]⟩))) (fun i _ => keys.length - (intOf i).toNat)
  case atStart => exact ⟨0, Nat.zero_le _, rfl, (Below.refl _ _).alloc (Nat.le_refl _) _, hr0.congr (fun i _ => by simp)⟩
  case round =>
    obtain ⟨k, hk, rfl, hB, HR⟩ := hrel
    by_cases hlt : k < keys.length
    · obtain ⟨b, off, rfl, hbw, hc⟩ : ∃ b off, a = some ⟨b, off, none⟩ ∧ b < w.heap.size ∧ wr.cell? ⟨b, off + k, none⟩ = some (.string ⟨(keys.getD k []).toArray⟩) := by
        rcases HS.out.below (hB.mono hw) with h | ⟨b, off, ha, hb, hc⟩
        · omega
        · exact ⟨b, off, ha, by omega, by rw [hc k hlt, List.getD_eq_getElem?_getD, List.getElem?_eq_getElem hlt]; rfl⟩
      have ho := HR.out.cell hlt
      have hfz := HR.out.frozen k
      generalize hx : keys.getD k [] = x at *
      have HX : Hid (keys.getD k [] = x) := hx
      clear hx
      go_wp2_with fail
      go_roundw
      case rel =>
        refine ⟨k + 1, by omega, by go_num, hB.setCell (Nat.le_refl _) _, (HR.out.set k _).congr (fun m hm => ?_)⟩
        by_cases e : m = k
        · subst e; rw [if_pos rfl, if_pos (by omega), HX.out]
        · rw [if_neg e]
          by_cases e2 : m < k
          · rw [if_pos e2, if_pos (by omega)]
          · rw [if_neg e2, if_neg (by omega)]
      case measure => simp [intOf]; omega
    · have hk' : k = keys.length := by omega
      go_wp2_with fail
      go_ret
      refine ⟨rfl, ?_, hB⟩
      by_cases hz : keys.length = 0
      · exact .inl hz
      · refine .inr ⟨_, 0, rfl, Nat.le_refl _, fun i hi => ?_⟩
        have := HR.out.cell hi
        rw [Nat.zero_add, this, if_pos (by omega), List.getD_eq_getElem?_getD, List.getElem?_eq_getElem hi]; rfl
theorem info30 : (Try.prog.info? 28).map (fun i => (i.zero, i.size, i.bytes)) = some (some (.agg #[.int .i64 0, .int .i64 0, .string ⟨#[]⟩, .slice none 0 0, .slice none 0 0]), 5, 80) := by kernel_rfl
def zero5 : Array Value := #[.int .i64 0, .int .i64 0, .string ⟨#[]⟩, .slice none 0 0, .slice none 0 0]
theorem run_make5 (n : Nat) (hn : n ≤ 1048576) (w : World) :
    (Instr.makeSlice 26 (.int .i64 (n : Int)) (.int .i64 (n : Int))).run Try.prog w = .ok (.slice (some ⟨w.heap.size, 0, none⟩) n n) (w.alloc (.cells (madeCells zero5 (n * 5)) 28)) := by
  obtain ⟨i, hi, hzz⟩ := Option.map_eq_some_iff.1 info30
  simp only [Prod.mk.injEq] at hzz
  obtain ⟨hz, hs, hb⟩ := hzz
  have hr := run_make (P := Try.prog) w 26 28 i _ Try.underlying26 hi hz .i64 .i64 n n (by omega) (Int.le_refl _) (by rw [hb]; omega) (by omega)
  rw [hr, hs]
  simp only [Int.toNat_natCast]
  rfl
theorem rowIs_made5 (w : World) (n : Nat) (t : TypeId) : ∃ f, (w.alloc (.cells (madeCells zero5 (n * 5)) t)).rowIs w.heap.size t (n * 5) f :=
  ⟨fun i => (madeCells zero5 (n * 5)).getD i default, by
    have := World.rowIs_alloc w (madeCells zero5 (n * 5)) t (fun i => (madeCells zero5 (n * 5)).getD i default) (fun i h => by rw [Array.getElem?_eq_getElem h]; simp [Array.getD, h])
    rwa [size_madeCells] at this⟩
def ToSaid (j : J) : Prop := ∀ (cs : List Value) (S : Nat) (w : World), S ≤ w.heap.size → j.sz ≤ 1048576 → RJ w (· < S) j cs →
    Calls Try.prog 17 #[.agg cs.toArray] w fun e w' => ∃ cs', e = .returned (.agg cs'.toArray) ∧ RJ w' (w.heap.size ≤ ·) j cs' ∧ Below w.heap.size w w'
def Done (wr : World) (b k n : Nat) (items : List J) : Prop := ∃ f, wr.rowIs b 28 (n * 5) f ∧ ∀ i (h : i < items.length), i < k → RJ wr (b < ·) items[i] [f (i * 5), f (i * 5 + 1), f (i * 5 + 2), f (i * 5 + 3), f (i * 5 + 4)]
theorem Done.step {w1 : World} {b k n : Nat} {items : List J} {f : Nat → Value} (hf : w1.rowIs b 28 (n * 5) f)
    (hd : ∀ i (h : i < items.length), i < k → RJ w1 (b < ·) items[i] [f (i * 5), f (i * 5 + 1), f (i * 5 + 2), f (i * 5 + 3), f (i * 5 + 4)]) (hk : k < items.length) (v0 v1 v2 v3 v4 : Value) (hv : RJ w1 (b < ·) items[k] [v0, v1, v2, v3, v4]) :
    Done (((((w1.setCell ⟨b, k * 5, none⟩ v0).setCell ⟨b, k * 5 + 1, none⟩ v1).setCell ⟨b, k * 5 + 2, none⟩ v2).setCell ⟨b, k * 5 + 3, none⟩ v3).setCell ⟨b, k * 5 + 4, none⟩ v4) b (k + 1) n items := by
  have hs : ∀ b', b < b' → (((((w1.setCell ⟨b, k * 5, none⟩ v0).setCell ⟨b, k * 5 + 1, none⟩ v1).setCell ⟨b, k * 5 + 2, none⟩ v2).setCell ⟨b, k * 5 + 3, none⟩ v3).setCell ⟨b, k * 5 + 4, none⟩ v4).heap[b']? = w1.heap[b']? := fun b' hb' => by
    rw [Below.heap_setCell _ _ _ _ (by show b' ≠ b; omega), Below.heap_setCell _ _ _ _ (by show b' ≠ b; omega), Below.heap_setCell _ _ _ _ (by show b' ≠ b; omega), Below.heap_setCell _ _ _ _ (by show b' ≠ b; omega), Below.heap_setCell _ _ _ _ (by show b' ≠ b; omega)]
  refine ⟨_, ((((hf.set (k * 5) v0).set (k * 5 + 1) v1).set (k * 5 + 2) v2).set (k * 5 + 3) v3).set (k * 5 + 4) v4, fun i hi hik => RJ.same hs (fun _ h => h) _ _ ?_⟩
  by_cases e : i = k
  · subst e
    have : ∀ o o' : Nat, (i * 5 + o = i * 5 + o') ↔ o = o' := fun o o' => by omega
    have h0 : ∀ o : Nat, (i * 5 = i * 5 + o) ↔ 0 = o := fun o => by omega
    simpa [this, h0] using hv
  · have h5 : ∀ o o' : Nat, o < 5 → o' < 5 → ¬ (i * 5 + o = k * 5 + o') := fun o o' h1 h2 => by omega
    have g0 : ∀ o' : Nat, o' < 5 → ¬ (i * 5 = k * 5 + o') := fun o' h2 => by omega
    have g1 : ∀ o : Nat, o < 5 → ¬ (i * 5 + o = k * 5) := fun o h2 => by omega
    have g2 : ¬ (i * 5 = k * 5) := by omega
    simp only [g2, g0 1 (by omega), g0 2 (by omega), g0 3 (by omega), g0 4 (by omega), g1 1 (by omega), g1 2 (by omega), g1 3 (by omega), g1 4 (by omega), h5 1 1 (by omega) (by omega), h5 1 2 (by omega) (by omega), h5 1 3 (by omega) (by omega), h5 1 4 (by omega) (by omega), h5 2 1 (by omega) (by omega), h5 2 2 (by omega) (by omega), h5 2 3 (by omega) (by omega), h5 2 4 (by omega) (by omega), h5 3 1 (by omega) (by omega), h5 3 2 (by omega) (by omega), h5 3 3 (by omega) (by omega), h5 3 4 (by omega) (by omega), h5 4 1 (by omega) (by omega), h5 4 2 (by omega) (by omega), h5 4 3 (by omega) (by omega), h5 4 4 (by omega) (by omega), if_false]
    exact hd i hi (by omega)
set_option maxHeartbeats 800000 in
theorem toJsons (items : List J) (ih : ∀ x ∈ items, ToSaid x) (a : Option Addr) (c : Nat) (S : Nat) (w : World) (hw : S ≤ w.heap.size) (hl : items.length ≤ 1048576) (hz : ∀ x ∈ items, x.sz ≤ 1048576) (hS : Jsons w (· < S) a items) :
    Calls Try.prog 51 #[.slice a items.length c] w fun e w' => e = .returned (.slice (some ⟨w.heap.size, 0, none⟩) items.length items.length) ∧ Jsons w' (w.heap.size ≤ ·) (some ⟨w.heap.size, 0, none⟩) items ∧ Below w.heap.size w w' := by
  have HS : Hid (Jsons w (· < S) a items) := hS
  have IH : Hid (∀ x ∈ items, ToSaid x) := ih
  have HZ : Hid (∀ x ∈ items, x.sz ≤ 1048576) := hz
  clear hS ih hz
  have hmk := run_make5 items.length hl
  go_enter Try.func51, Try.ntmps51
  go_wp2_with fail
  clear hmk
  go_loopw [4] (fun i wr => ∃ k : Nat, k ≤ items.length ∧ i = .int .i64 k ∧ Below w.heap.size w wr ∧ Hid (Done wr w.heap.size k items.length items)) (fun i _ => items.length - (intOf i).toNat)
  case atStart =>
    refine ⟨0, Nat.zero_le _, rfl, (Below.refl _ _).alloc (Nat.le_refl _) _, ?_⟩
    obtain ⟨f, hf⟩ := rowIs_made5 w items.length 28
    exact ⟨f, hf, fun i _ h => absurd h (by omega)⟩
  case round =>
    obtain ⟨k, hk, rfl, hB, HD⟩ := hrel
    by_cases hlt : k < items.length
    · obtain ⟨b, off, ka, kc, ia, ic, rfl, _, c0, c1, c2, c3, c4, hr⟩ := (HS.out.below (hB.mono hw)).item k hlt
      have HR : Hid (RJ wr (· < S) items[k] _) := hr
      have hx : ToSaid items[k] := IH.out _ (List.getElem_mem hlt)
      have hxz : Hid (items[k].sz ≤ 1048576) := HZ.out _ (List.getElem_mem hlt)
      clear hr
      generalize hX : items[k] = x at *
      have HX : Hid (items[k] = x) := hX
      clear hX
      go_wp2_with fail
      refine (hx _ S _ (Nat.le_trans hw hB.size) hxz.out HR.out).mono ?_
      rintro e w1 ⟨cs', rfl, hJ, hB1⟩
      have hJ' := hJ
      rw [RJ_eq] at hJ'
      obtain ⟨ka', kc', ia', ic', rfl, -⟩ := hJ'
      obtain ⟨f, hf, hd⟩ := HD.out
      have hlt' := hf.lt
      have hf1 := hf.of_block (hB1.block _ hf.lt)
      have hd1 : ∀ i (h : i < items.length), i < k → RJ w1 (w.heap.size < ·) items[i] [f (i * 5), f (i * 5 + 1), f (i * 5 + 2), f (i * 5 + 3), f (i * 5 + 4)] := fun i h hi => (hd i h hi).later hB1
      have hJ2 : RJ w1 (w.heap.size < ·) items[k] [.int .i64 x.k, .int .i64 x.n, .string ⟨x.t.toArray⟩, .slice ka' x.keys.length kc', .slice ia' x.items.length ic'] := by rw [HX.out]; exact RJ.same (B := (wr.heap.size ≤ ·)) (fun _ _ => rfl) (fun b hb => by have : wr.heap.size ≤ b := hb; show w.heap.size < b; omega) _ _ hJ
      have hst := Done.step hf1 hd1 hlt _ _ _ _ _ hJ2
      have HST : Hid (Done _ _ _ _ _) := hst
      clear hst hJ2
      have e0 := hf1.cell (i := k * 5) (by omega)
      have e1 := hf1.cell (i := k * 5 + 1) (by omega)
      have e2 := hf1.cell (i := k * 5 + 2) (by omega)
      have e3 := hf1.cell (i := k * 5 + 3) (by omega)
      have e4 := hf1.cell (i := k * 5 + 4) (by omega)
      have z0 := hf1.frozen (k * 5)
      have z1 := hf1.frozen (k * 5 + 1)
      have z2 := hf1.frozen (k * 5 + 2)
      have z3 := hf1.frozen (k * 5 + 3)
      have z4 := hf1.frozen (k * 5 + 4)
      have hB2 : Below w.heap.size w w1 := hB.trans (hB1.mono hB.size)
      clear hJ hd hf hf1 hd1 hB1 c0 c1 c2 c3 c4 hx hB hlt'
      go_wp2_with fail
      go_roundw
      case rel => exact ⟨k + 1, by omega, by go_num, ((((hB2.setCell (Nat.le_refl _) _).setCell (Nat.le_refl _) _).setCell (Nat.le_refl _) _).setCell (Nat.le_refl _) _).setCell (Nat.le_refl _) _, HST.out⟩
      case measure => simp [intOf]; omega
    · have hk' : k = items.length := by omega
      go_wp2_with fail
      go_ret
      refine ⟨rfl, ?_, hB⟩
      obtain ⟨f, hf, hd⟩ := HD.out
      by_cases hz : items.length = 0
      · exact .inl hz
      · refine .inr ⟨_, 0, rfl, Nat.le_refl _, fun i hi => ⟨_, ?_, RJ.same (fun _ _ => rfl) (fun b hb => Nat.le_of_lt hb) _ _ (hd i hi (by omega))⟩⟩
        intro o v hv
        rw [Nat.zero_add]
        match o, hv with
        | 0, hv => simp at hv; subst hv; exact hf.cell (by omega)
        | 1, hv => simp at hv; subst hv; exact hf.cell (by omega)
        | 2, hv => simp at hv; subst hv; exact hf.cell (by omega)
        | 3, hv => simp at hv; subst hv; exact hf.cell (by omega)
        | 4, hv => simp at hv; subst hv; exact hf.cell (by omega)
        | o + 5, hv => simp at hv
theorem three {w w4 : World} {o0 o1 o2 : Obj} (hb : Below (((w.alloc o0).alloc o1).alloc o2).heap.size (((w.alloc o0).alloc o1).alloc o2) w4) :
    w4.heap[w.heap.size]? = some o0 ∧ w4.heap[w.heap.size + 1]? = some o1 ∧ w4.heap[w.heap.size + 1 + 1]? = some o2 ∧ w.heap.size + 1 + 1 + 1 ≤ w4.heap.size ∧ Below w.heap.size w w4 := by
  have hs : (((w.alloc o0).alloc o1).alloc o2).heap.size = w.heap.size + 1 + 1 + 1 := by simp
  have h0 : (((w.alloc o0).alloc o1).alloc o2).heap = ((w.heap.push o0).push o1).push o2 := rfl
  refine ⟨?_, ?_, ?_, ?_, ?_⟩
  · rw [hb.block _ (by omega), h0, Array.getElem?_push, if_neg (by simp; omega), Array.getElem?_push, if_neg (by simp), Array.getElem?_push, if_pos rfl]
  · rw [hb.block _ (by omega), h0, Array.getElem?_push, if_neg (by simp), Array.getElem?_push, if_pos (by simp)]
  · rw [hb.block _ (by omega), h0, Array.getElem?_push, if_pos (by simp)]
  · have := hb.size; omega
  · exact ((((Below.refl _ _).alloc (Nat.le_refl _) _).alloc (by simp) _).alloc (by simp; omega) _).trans (hb.mono (by omega))
theorem cell_at {w : World} {b o : Nat} {cs : Array Value} {t : TypeId} {v : Value} (h : w.heap[b]? = some (.cells cs t)) (hv : cs[o]? = some v) : w.cell? ⟨b, o, none⟩ = some v := by
  simp [World.cell?, h, hv]
theorem frozen_at {w : World} {b : Nat} (o : Nat) {cs : Array Value} {t : TypeId} (h : w.heap[b]? = some (.cells cs t)) : w.frozen? ⟨b, o, none⟩ = false := by
  simp [World.frozen?, h]
theorem heap_set {w : World} {b : Nat} (o : Nat) {cs : Array Value} {t : TypeId} (v : Value) (h : w.heap[b]? = some (.cells cs t)) : (w.setCell ⟨b, o, none⟩ v).heap[b]? = some (.cells (cs.setIfInBounds o v) t) := by
  simp [World.setCell, Array.getElem?_modify, h]
def sixSet (w6 : World) (n : Nat) (v u0 u1 u2 u3 u4 : Value) : World :=
  (((((w6.setCell ⟨n + 1 + 1, 4, none⟩ v).setCell ⟨n + 1, 0, none⟩ u0).setCell ⟨n + 1, 1, none⟩ u1).setCell ⟨n + 1, 2, none⟩ u2).setCell ⟨n + 1, 3, none⟩ u3).setCell ⟨n + 1, 4, none⟩ u4
theorem six_heap (w6 : World) (n : Nat) (v u0 u1 u2 u3 u4 : Value) (b : Nat) (hb : n + 1 + 1 + 1 ≤ b) : (sixSet w6 n v u0 u1 u2 u3 u4).heap[b]? = w6.heap[b]? := by
  unfold sixSet
  rw [Below.heap_setCell _ _ _ _ (by show b ≠ n + 1; omega), Below.heap_setCell _ _ _ _ (by show b ≠ n + 1; omega), Below.heap_setCell _ _ _ _ (by show b ≠ n + 1; omega), Below.heap_setCell _ _ _ _ (by show b ≠ n + 1; omega), Below.heap_setCell _ _ _ _ (by show b ≠ n + 1; omega), Below.heap_setCell _ _ _ _ (by show b ≠ n + 1 + 1; omega)]
theorem six_below {w w6 : World} {n : Nat} (h : Below n w w6) (v u0 u1 u2 u3 u4 : Value) : Below n w (sixSet w6 n v u0 u1 u2 u3 u4) :=
  (((((h.setCell (by show n ≤ n + 1 + 1; omega) _).setCell (by show n ≤ n + 1; omega) _).setCell (by show n ≤ n + 1; omega) _).setCell (by show n ≤ n + 1; omega) _).setCell (by show n ≤ n + 1; omega) _).setCell (by show n ≤ n + 1; omega) _
set_option maxHeartbeats 1600000 in
theorem toJson (j : J) : ToSaid j := by
  induction j using J.induct with
  | h j ih =>
    intro cs S w hw hz hr
    rw [RJ_eq] at hr
    obtain ⟨ka, kc, ia, ic, rfl, ht, hkl, hil, hkx, hk, hi⟩ := hr
    have hsz := J.sz_eq j
    have hk20 : j.keys.length ≤ 1048576 := by unfold szK at hsz; omega
    have hi20 : j.items.length ≤ 1048576 := by omega
    have HZ : Hid (∀ x ∈ j.items, x.sz ≤ 1048576) := fun x hx => Nat.le_trans (J.sz_item j x hx) hz
    have HI : Hid (Jsons w (· < S) ia j.items) := hi
    have HK : Hid (Strs w (· < S) ka j.keys) := hk
    have HT : Hid (j.t.length ≤ maxLen) := ht
    have HKX : Hid (∀ x ∈ j.keys, x.length ≤ maxLen) := hkx
    have IH : Hid (∀ x ∈ j.items, ToSaid x) := ih
    clear hi hk hkl hil hkx ih hsz ht hz
    go_enter Try.func17, Try.ntmps17
    go_wp2_with fail
    refine (toStrs j.keys ka kc S _ (by simp; omega) hk20 (HK.out.below ((((Below.refl _ _).alloc hw _).alloc (by simp; omega) _).alloc (by simp; omega) _))).mono ?_
    rintro e w4 ⟨rfl, hS4, hB4⟩
    obtain ⟨b0, b1, b2, hz4, hB⟩ := three hB4
    have HS4 : Hid (Strs w4 (w.heap.size + 1 + 1 + 1 ≤ ·) (some ⟨w.heap.size + 1 + 1 + 1, 0, none⟩) j.keys) := by show Strs _ _ _ _; simpa using hS4
    have k4 := cell_at (o := 4) b0 rfl
    have m3 := cell_at (o := 3) b2 rfl
    have f3 := frozen_at 3 b2
    have H0 : Hid (w4.heap[w.heap.size]? = _) := b0
    have H1 : Hid (w4.heap[w.heap.size + 1]? = _) := b1
    have H2 : Hid (w4.heap[w.heap.size + 1 + 1]? = _) := b2
    clear hS4 hB4 b0 b1 b2
    go_wp2_with fail
    have hB5 : Below w.heap.size w (w4.setCell ⟨w.heap.size + 1 + 1, 3, none⟩ (.slice (some ⟨w.heap.size + 1 + 1 + 1, 0, none⟩) j.keys.length j.keys.length)) := hB.setCell (by show w.heap.size ≤ w.heap.size + 1 + 1; omega) _
    have hs5 : (w4.setCell ⟨w.heap.size + 1 + 1, 3, none⟩ (.slice (some ⟨w.heap.size + 1 + 1 + 1, 0, none⟩) j.keys.length j.keys.length)).heap.size = w4.heap.size := by simp [World.setCell]
    refine (toJsons j.items IH.out ia ic S _ (by rw [hs5]; omega) hi20 HZ.out (HI.out.below (hB5.mono hw))).mono ?_
    rintro e w6 ⟨rfl, hS6, hB6⟩
    rw [hs5] at hS6
    have d2 := (hB6.block (w.heap.size + 1 + 1) (by rw [hs5]; omega)).trans (heap_set 3 _ H2.out)
    have d1 := ((hB6.block (w.heap.size + 1) (by rw [hs5]; omega)).trans (Below.heap_setCell _ _ _ _ (by show w.heap.size + 1 ≠ w.heap.size + 1 + 1; omega))).trans H1.out
    have HS6 : Hid (Strs w6 (w.heap.size + 1 + 1 + 1 ≤ ·) (some ⟨w.heap.size + 1 + 1 + 1, 0, none⟩) j.keys) :=
      (HS4.out.inside.same (w' := w6) (B' := (w.heap.size + 1 + 1 + 1 ≤ ·)) (fun b hb => by
        have h1 : w.heap.size + 1 + 1 + 1 ≤ b := hb.1
        rw [hB6.block b (by rw [hs5]; exact hb.2), Below.heap_setCell _ _ _ _ (by show b ≠ w.heap.size + 1 + 1; omega)]) (fun b hb => hb.1))
    have hB7 : Below w.heap.size w w6 := hB5.trans (hB6.mono (by rw [hs5]; omega))
    have hs6 : w4.heap.size ≤ w6.heap.size := by have := hB6.size; rw [hs5] at this; exact this
    rw [hs5]
    have HI6 : Hid (Jsons w6 (w4.heap.size ≤ ·) (some ⟨w4.heap.size, 0, none⟩) j.items) := hS6
    have e0 := cell_at (o := 0) d2 rfl
    have e1 := cell_at (o := 1) d2 rfl
    have e2 := cell_at (o := 2) d2 rfl
    have e3 := cell_at (o := 3) d2 rfl
    have e4 := cell_at (o := 4) d2 rfl
    have f4 := frozen_at 4 d2
    have g0 := cell_at (o := 0) d1 rfl
    have g1 := cell_at (o := 1) d1 rfl
    have g2 := cell_at (o := 2) d1 rfl
    have g3 := cell_at (o := 3) d1 rfl
    have g4 := cell_at (o := 4) d1 rfl
    have y0 := frozen_at 0 d1
    have y1 := frozen_at 1 d1
    have y2 := frozen_at 2 d1
    have y3 := frozen_at 3 d1
    have y4 := frozen_at 4 d1
    clear hS6 hB6 d1 d2 k4 m3 f3 H0 H1 H2 hB5 hB hs5 HS4
    go_wp2_with fail
    refine bodyPost_ret (v := .agg #[.int .i64 j.k, .int .i64 j.n, .string ⟨j.t.toArray⟩, .slice (some ⟨w.heap.size + 1 + 1 + 1, 0, none⟩) j.keys.length j.keys.length, .slice (some ⟨w4.heap.size, 0, none⟩) j.items.length j.items.length])
      (by simp [results, Try.results17, go_sem, g0, g1, g2, g3, g4]) rfl ⟨_, rfl, ?_, six_below hB7 _ _ _ _ _ _⟩
    clear g0 g1 g2 g3 g4 y0 y1 y2 y3 y4 e0 e1 e2 e3 e4 f4
    rw [RJ_eq]
    have hh := six_heap w6 w.heap.size (.slice (some ⟨w4.heap.size, 0, none⟩) j.items.length j.items.length) (.int .i64 j.k) (.int .i64 j.n) (.string ⟨j.t.toArray⟩) (.slice (some ⟨w.heap.size + 1 + 1 + 1, 0, none⟩) j.keys.length j.keys.length) (.slice (some ⟨w4.heap.size, 0, none⟩) j.items.length j.items.length)
    refine ⟨_, _, _, _, rfl, HT.out, by unfold maxLen; omega, by unfold maxLen; omega, HKX.out, HS6.out.same (B' := (w.heap.size ≤ ·)) (fun b hb => hh b hb) (fun b hb => ?_), HI6.out.same (B' := (w.heap.size ≤ ·)) (fun b hb => hh b ?_) (fun b hb => ?_)⟩
    · have h1 : w.heap.size + 1 + 1 + 1 ≤ b := hb
      show w.heap.size ≤ b; omega
    · have h1 : w4.heap.size ≤ b := hb
      omega
    · have h1 : w4.heap.size ≤ b := hb
      show w.heap.size ≤ b; omega
end Go.Proofs.Ytkncpfhblciplaa
