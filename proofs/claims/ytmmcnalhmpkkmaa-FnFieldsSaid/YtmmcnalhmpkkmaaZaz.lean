import Derived.Test.YtmmcnalhmpkkmaaZat
import Derived.Test.YtmmcnalhmpkkmaaZay
import Derived.Test.YtmmcnalhmpkkmaaZTk
namespace Go.Proofs.Ytmmcnalhmpkkmaa
open Go.RowKit
set_option linter.unusedSimpArgs false
set_option maxRecDepth 100000 in
set_option maxHeartbeats 1600000 in
theorem sameTextsV (keys keys' : List (List UInt8)) (a b : Option Addr) (ca cb : Nat) (A B : Nat → Prop) (w : World) (hl : keys.length ≤ maxLen) (ha : Strs w A a keys) (hb : Strs w B b keys') :
    Calls Try.prog 13 #[.slice a keys.length ca, .slice b keys'.length cb] w fun e w' => e = .returned (.bool (decide (keys = keys'))) ∧ Below w.heap.size w w' := by
  unfold maxLen at hl
  have HA : Hid (Strs w A a keys) := ha
  have HB : Hid (Strs w B b keys') := hb
  clear ha hb
  by_cases hlen : keys.length = keys'.length
  case neg =>
    have hne : ((keys.length : Int) != (keys'.length : Int)) = true := by simp; omega
    have HD : Hid (decide (keys = keys') = false) := decide_eq_false (fun e => hlen (by rw [e]))
    clear hlen
    go_enter Try.func13, Try.ntmps13
    go_wp2_with fail
    go_ret
    exact ⟨ret_b HD.out.symm, Below.refl _ _⟩
  case pos =>
    have hne : ((keys.length : Int) != (keys.length : Int)) = false := by simp
    have HLEN : Hid (keys.length = keys'.length) := hlen
    rw [← hlen]
    clear hlen
    go_enter Try.func13, Try.ntmps13
    go_wp2_with fail
    go_loopw [5] (fun i wr => ∃ k : Nat, k ≤ keys.length ∧ i = .int .i64 k ∧ Below w.heap.size w wr ∧ Hid (∀ q, q < k → keys.getD q [] = keys'.getD q [])) (fun i _ => keys.length - (intOf i).toNat)
    case atStart => exact ⟨0, Nat.zero_le _, rfl, Below.refl _ _, fun q h => absurd h (by omega)⟩
    case round =>
      obtain ⟨k, hk, rfl, hw, HQ⟩ := hrel
      by_cases hlt : k < keys.length
      · obtain ⟨b1, o1, rfl, c1⟩ := strs_cell (HA.out.later hw) k hlt
        obtain ⟨b2, o2, rfl, c2⟩ := strs_cell (HB.out.later hw) k (by have := HLEN.out; omega)
        have hki : (k : Int) < (keys.length : Int) := by omega
        by_cases he : keys.getD k [] = keys'.getD k []
        · have HQ2 : Hid (∀ q, q < k + 1 → keys.getD q [] = keys'.getD q []) := fun q hq => by
            by_cases e : q = k
            · subst e; exact he
            · exact HQ.out q (by omega)
          rw [← he] at c2
          clear he
          generalize keys.getD k [] = x at *
          have hx : (x != x) = false := by simp
          go_wp2_with fail
          go_quiet (fail)
          go_wp2_with fail
          go_roundw
          case rel => exact ⟨k + 1, by omega, by go_num, below_drewN hw _, HQ2.out⟩
          case measure => simp [intOf]; omega
        · have HD : Hid (decide (keys = keys') = false) := decide_eq_false (fun e => he (by rw [e]))
          generalize keys.getD k [] = x at *
          generalize keys'.getD k [] = y at *
          have hx : (x != y) = true := by simpa using he
          have hx2 : (x == y) = false := by simpa using he
          clear he
          go_wp2_with fail
          go_quiet (fail)
          go_wp2_with fail
          go_ret
          exact ⟨ret_b HD.out.symm, below_drewN hw _⟩
      · have HD : Hid (decide (keys = keys') = true) := decide_eq_true (getD_eq HLEN.out (fun q hq => HQ.out q (by omega)))
        have hki : decide ((k : Int) < (keys.length : Int)) = false := by simp; omega
        go_wp2_with fail
        go_ret
        exact ⟨ret_b HD.out.symm, hw⟩
def SjSaid (x : J) : Prop := ∀ (y : J) (cs cs' : List Value) (A B : Nat → Prop) (w : World), RJ w A x cs → RJ w B y cs' →
    Calls Try.prog 6 #[.agg cs.toArray, .agg cs'.toArray] w fun e w' => e = .returned (.bool (sameB x y)) ∧ Below w.heap.size w w'
set_option maxRecDepth 100000 in
set_option maxHeartbeats 6400000 in
theorem sameJsonV (x : J) : SjSaid x := by
  induction x using J.induct with
  | h x ih =>
    intro y cs cs' A B w hr hr'
    rw [RJ_eq] at hr hr'
    obtain ⟨ka, kc, ia, ic, rfl, -, hk1, hi1, -, hks, his⟩ := hr
    obtain ⟨kb, kd, ib, id, rfl, -, hk2, hi2, -, hks', his'⟩ := hr'
    have IH := Lib.hid ih
    have HI : Hid (Jsons w A ia x.items) := his
    have HI' : Hid (Jsons w B ib y.items) := his'

    have ST : Hid (∀ W, Box2 w W (.cells #[.int .i64 x.k, .int .i64 x.n, .string ⟨x.t.toArray⟩, .slice ka x.keys.length kc, .slice ia x.items.length ic] 26) (.cells #[.int .i64 y.k, .int .i64 y.n, .string ⟨y.t.toArray⟩, .slice kb y.keys.length kd, .slice ib y.items.length id] 26) → Calls Try.prog 13 #[.slice ka x.keys.length kc, .slice kb y.keys.length kd] W fun e w' => e = .returned (.bool (decide (x.keys = y.keys))) ∧ Box2 w w' (.cells #[.int .i64 x.k, .int .i64 x.n, .string ⟨x.t.toArray⟩, .slice ka x.keys.length kc, .slice ia x.items.length ic] 26) (.cells #[.int .i64 y.k, .int .i64 y.n, .string ⟨y.t.toArray⟩, .slice kb y.keys.length kd, .slice ib y.items.length id] 26)) := fun W h => (sameTextsV x.keys y.keys ka kb kc kd A B W hk1 (hks.later h.2.2) (hks'.later h.2.2)).mono (fun _ _ ⟨he, hB⟩ => ⟨he, h.later hB⟩)
    have HB := Lib.hid (box2 w (.cells #[.int .i64 x.k, .int .i64 x.n, .string ⟨x.t.toArray⟩, .slice ka x.keys.length kc, .slice ia x.items.length ic] 26) (.cells #[.int .i64 y.k, .int .i64 y.n, .string ⟨y.t.toArray⟩, .slice kb y.keys.length kd, .slice ib y.items.length id] 26))
    unfold maxLen at hk1 hk2 hi1 hi2
    clear ih his his' hks hks' hk1 hk2
    have a0 := cell_at (o := 0) HB.out.1 rfl
    have a1 := cell_at (o := 1) HB.out.1 rfl
    have a2 := cell_at (o := 2) HB.out.1 rfl
    have a3 := cell_at (o := 3) HB.out.1 rfl
    have a4 := cell_at (o := 4) HB.out.1 rfl
    have b0 := cell_at (o := 0) HB.out.2.1 rfl
    have b1 := cell_at (o := 1) HB.out.2.1 rfl
    have b2 := cell_at (o := 2) HB.out.2.1 rfl
    have b3 := cell_at (o := 3) HB.out.2.1 rfl
    have b4 := cell_at (o := 4) HB.out.2.1 rfl
    by_cases hk : x.k = y.k
    case neg =>
      have HD : Hid (sameB x y = false) := sameB_no (fun e => hk (by rw [e]))
      have ek1 : (x.k != y.k) = true := by simpa using hk
      have ek2 : (x.k == y.k) = false := by simpa using hk
      clear hk
      go_enter Try.func6, Try.ntmps6
      go_wp2_with fail
      go_ret
      exact ⟨ret_b HD.out.symm, HB.out.2.2⟩
    have ek1 : (x.k != y.k) = false := by simpa using hk
    have ek2 : (x.k == y.k) = true := by simpa using hk
    have HK := Lib.hid hk
    clear hk
    by_cases hn : x.n = y.n
    case neg =>
      have HD : Hid (sameB x y = false) := sameB_no (fun e => hn (by rw [e]))
      have en1 : (x.n != y.n) = true := by simpa using hn
      have en2 : (x.n == y.n) = false := by simpa using hn
      clear hn
      go_enter Try.func6, Try.ntmps6
      go_wp2_with fail
      go_ret
      exact ⟨ret_b HD.out.symm, HB.out.2.2⟩
    have en1 : (x.n != y.n) = false := by simpa using hn
    have en2 : (x.n == y.n) = true := by simpa using hn
    have HN := Lib.hid hn
    clear hn
    by_cases ht : x.t = y.t
    case neg =>
      have HD : Hid (sameB x y = false) := sameB_no (fun e => ht (by rw [e]))
      have et1 : (x.t != y.t) = true := by simpa using ht
      have et2 : (x.t == y.t) = false := by simpa using ht
      clear ht
      go_enter Try.func6, Try.ntmps6
      go_wp2_with fail
      go_ret
      exact ⟨ret_b HD.out.symm, HB.out.2.2⟩
    have et1 : (x.t != y.t) = false := by simpa using ht
    have et2 : (x.t == y.t) = true := by simpa using ht
    have HT := Lib.hid ht
    clear ht
    by_cases hks : x.keys = y.keys
    case neg =>
      have HD : Hid (sameB x y = false) := sameB_no (fun e => hks (by rw [e]))
      rw [decide_eq_false hks] at ST
      clear hks
      go_enter Try.func6, Try.ntmps6
      go_wp2_with fail
      refine (ST.out _ HB.out).mono ?_
      rintro e w1 ⟨rfl, hb⟩
      have HB1 := Lib.hid hb
      clear a0 a1 a2 a3 a4 b0 b1 b2 b3 b4
      have a0 := cell_at (o := 0) hb.1 rfl
      have a1 := cell_at (o := 1) hb.1 rfl
      have a2 := cell_at (o := 2) hb.1 rfl
      have a3 := cell_at (o := 3) hb.1 rfl
      have a4 := cell_at (o := 4) hb.1 rfl
      have b0 := cell_at (o := 0) hb.2.1 rfl
      have b1 := cell_at (o := 1) hb.2.1 rfl
      have b2 := cell_at (o := 2) hb.2.1 rfl
      have b3 := cell_at (o := 3) hb.2.1 rfl
      have b4 := cell_at (o := 4) hb.2.1 rfl
      clear hb
      go_wp2_with fail
      go_ret
      exact ⟨ret_b HD.out.symm, HB1.out.2.2⟩
    have HKS := Lib.hid hks
    rw [decide_eq_true hks] at ST
    clear hks
    by_cases hlen : x.items.length = y.items.length
    case neg =>
      have HD : Hid (sameB x y = false) := sameB_no (fun e => hlen (by rw [e]))
      have hne : ((x.items.length : Int) != (y.items.length : Int)) = true := by simp; omega
      clear hlen
      go_enter Try.func6, Try.ntmps6
      go_wp2_with fail
      refine (ST.out _ HB.out).mono ?_
      rintro e w1 ⟨rfl, hb⟩
      have HB1 := Lib.hid hb
      clear a0 a1 a2 a3 a4 b0 b1 b2 b3 b4
      have a0 := cell_at (o := 0) hb.1 rfl
      have a1 := cell_at (o := 1) hb.1 rfl
      have a2 := cell_at (o := 2) hb.1 rfl
      have a3 := cell_at (o := 3) hb.1 rfl
      have a4 := cell_at (o := 4) hb.1 rfl
      have b0 := cell_at (o := 0) hb.2.1 rfl
      have b1 := cell_at (o := 1) hb.2.1 rfl
      have b2 := cell_at (o := 2) hb.2.1 rfl
      have b3 := cell_at (o := 3) hb.2.1 rfl
      have b4 := cell_at (o := 4) hb.2.1 rfl
      clear hb
      go_wp2_with fail
      go_ret
      exact ⟨ret_b HD.out.symm, HB1.out.2.2⟩
    have HLEN := Lib.hid hlen
    have hne : ((x.items.length : Int) != (y.items.length : Int)) = false := by simp; omega
    clear hlen
    go_enter Try.func6, Try.ntmps6
    go_wp2_with fail
    refine (ST.out _ HB.out).mono ?_
    rintro e w1 ⟨rfl, hb⟩
    have HB1 := Lib.hid hb
    clear a0 a1 a2 a3 a4 b0 b1 b2 b3 b4
    have a0 := cell_at (o := 0) hb.1 rfl
    have a1 := cell_at (o := 1) hb.1 rfl
    have a2 := cell_at (o := 2) hb.1 rfl
    have a3 := cell_at (o := 3) hb.1 rfl
    have a4 := cell_at (o := 4) hb.1 rfl
    have b0 := cell_at (o := 0) hb.2.1 rfl
    have b1 := cell_at (o := 1) hb.2.1 rfl
    have b2 := cell_at (o := 2) hb.2.1 rfl
    have b3 := cell_at (o := 3) hb.2.1 rfl
    have b4 := cell_at (o := 4) hb.2.1 rfl
    clear hb
    go_wp2_with fail
    go_loopw [5] (fun i wr => ∃ k : Nat, k ≤ x.items.length ∧ i = .int .i64 k ∧ Hid (Box2 w wr (.cells #[.int .i64 x.k, .int .i64 x.n, .string ⟨x.t.toArray⟩, .slice ka x.keys.length kc, .slice ia x.items.length ic] 26) (.cells #[.int .i64 y.k, .int .i64 y.n, .string ⟨y.t.toArray⟩, .slice kb y.keys.length kd, .slice ib y.items.length id] 26) ∧ ∀ q, q < k → x.items.getD q dfl = y.items.getD q dfl)) (fun i _ => x.items.length - (intOf i).toNat)
    case atStart => exact ⟨0, Nat.zero_le _, rfl, HB1.out, fun q h => absurd h (by omega)⟩
    case round =>
      obtain ⟨k, hk, rfl, HR⟩ := hrel
      clear a0 a1 a2 a3 a4 b0 b1 b2 b3 b4
      have a0 := cell_at (o := 0) HR.out.1.1 rfl
      have a1 := cell_at (o := 1) HR.out.1.1 rfl
      have a2 := cell_at (o := 2) HR.out.1.1 rfl
      have a3 := cell_at (o := 3) HR.out.1.1 rfl
      have a4 := cell_at (o := 4) HR.out.1.1 rfl
      have b0 := cell_at (o := 0) HR.out.1.2.1 rfl
      have b1 := cell_at (o := 1) HR.out.1.2.1 rfl
      have b2 := cell_at (o := 2) HR.out.1.2.1 rfl
      have b3 := cell_at (o := 3) HR.out.1.2.1 rfl
      have b4 := cell_at (o := 4) HR.out.1.2.1 rfl
      by_cases hlt : k < x.items.length
      case neg =>
        have HD : Hid (sameB x y = true) := sameB_iff.2 (by have hit := getD_eq HLEN.out (fun q hq => HR.out.2 q (by omega)); have h1 := HK.out; have h2 := HN.out; have h3 := HT.out; have h4 := HKS.out; cases x; cases y; simp_all)
        have hki : decide ((k : Int) < (x.items.length : Int)) = false := by simp; omega
        go_wp2_with fail
        go_ret
        exact ⟨ret_b HD.out.symm, HR.out.1.2.2⟩
      have hlt' : k < y.items.length := by have := HLEN.out; omega
      have hki : (k : Int) < (x.items.length : Int) := by omega
      have hki' : (k : Int) < (y.items.length : Int) := by omega
      obtain ⟨g1, o1, ka1, kc1, ia1, ic1, rfl, -, u0, u1, u2, u3, u4, hx1⟩ := (HI.out.later HR.out.1.2.2).item k hlt
      obtain ⟨g2, o2, kb2, kd2, ib2, id2, rfl, -, v0, v1, v2, v3, v4, hy1⟩ := (HI'.out.later HR.out.1.2.2).item k hlt'
      have ex : x.items.getD k dfl = x.items[k] := by rw [List.getD_eq_getElem?_getD, List.getElem?_eq_getElem hlt]; rfl
      have ey : y.items.getD k dfl = y.items[k] := by rw [List.getD_eq_getElem?_getD, List.getElem?_eq_getElem hlt']; rfl
      have HS : Hid (SjSaid x.items[k]) := IH.out _ (List.getElem_mem hlt)
      have HQ : Hid (∀ q, q < k → x.items.getD q dfl = y.items.getD q dfl) := HR.out.2
      have HBW : Hid (Box2 w wr (.cells #[.int .i64 x.k, .int .i64 x.n, .string ⟨x.t.toArray⟩, .slice ka x.keys.length kc, .slice (some ⟨g1, o1, none⟩) x.items.length ic] 26) (.cells #[.int .i64 y.k, .int .i64 y.n, .string ⟨y.t.toArray⟩, .slice kb y.keys.length kd, .slice (some ⟨g2, o2, none⟩) y.items.length id] 26)) := HR.out.1
      have HXY := Lib.hid (And.intro ex ey)
      have HX1 := Lib.hid hx1
      have HY1 := Lib.hid hy1
      clear hx1 hy1 ex ey HR
      generalize x.items[k] = xi at *
      generalize y.items[k] = yi at *
      have CE : Hid (∀ W, Below wr.heap.size wr W → (W.cell? ⟨w.heap.size, 4, none⟩ = some (.slice (some ⟨g1, o1, none⟩) x.items.length ic) ∧ W.cell? ⟨w.heap.size + 1, 4, none⟩ = some (.slice (some ⟨g2, o2, none⟩) y.items.length id) ∧ W.cell? ⟨g1, o1 + k * 5, none⟩ = some (.int .i64 xi.k) ∧ W.cell? ⟨g1, o1 + k * 5 + 1, none⟩ = some (.int .i64 xi.n) ∧ W.cell? ⟨g1, o1 + k * 5 + 2, none⟩ = some (.string ⟨xi.t.toArray⟩) ∧ W.cell? ⟨g1, o1 + k * 5 + 3, none⟩ = some (.slice ka1 xi.keys.length kc1) ∧ W.cell? ⟨g1, o1 + k * 5 + 4, none⟩ = some (.slice ia1 xi.items.length ic1) ∧ W.cell? ⟨g2, o2 + k * 5, none⟩ = some (.int .i64 yi.k) ∧ W.cell? ⟨g2, o2 + k * 5 + 1, none⟩ = some (.int .i64 yi.n) ∧ W.cell? ⟨g2, o2 + k * 5 + 2, none⟩ = some (.string ⟨yi.t.toArray⟩) ∧ W.cell? ⟨g2, o2 + k * 5 + 3, none⟩ = some (.slice kb2 yi.keys.length kd2) ∧ W.cell? ⟨g2, o2 + k * 5 + 4, none⟩ = some (.slice ib2 yi.items.length id2))) := fun W h => ⟨h.cell (p := ⟨w.heap.size, 4, none⟩) (World.block_lt_of_cell? _ _ a4) |>.trans a4, h.cell (p := ⟨w.heap.size + 1, 4, none⟩) (World.block_lt_of_cell? _ _ b4) |>.trans b4, (h.cell (World.block_lt_of_cell? _ _ u0)).trans u0, (h.cell (World.block_lt_of_cell? _ _ u1)).trans u1, (h.cell (World.block_lt_of_cell? _ _ u2)).trans u2, (h.cell (World.block_lt_of_cell? _ _ u3)).trans u3, (h.cell (World.block_lt_of_cell? _ _ u4)).trans u4, (h.cell (World.block_lt_of_cell? _ _ v0)).trans v0, (h.cell (World.block_lt_of_cell? _ _ v1)).trans v1, (h.cell (World.block_lt_of_cell? _ _ v2)).trans v2, (h.cell (World.block_lt_of_cell? _ _ v3)).trans v3, (h.cell (World.block_lt_of_cell? _ _ v4)).trans v4⟩
      have RC : Hid (∀ W, Below wr.heap.size wr W → Calls Try.prog 6 #[.agg #[.int .i64 xi.k, .int .i64 xi.n, .string ⟨xi.t.toArray⟩, .slice ka1 xi.keys.length kc1, .slice ia1 xi.items.length ic1], .agg #[.int .i64 yi.k, .int .i64 yi.n, .string ⟨yi.t.toArray⟩, .slice kb2 yi.keys.length kd2, .slice ib2 yi.items.length id2]] W fun e w' => e = .returned (.bool (sameB xi yi)) ∧ Below wr.heap.size wr w') := fun W h => (HS.out yi [.int .i64 xi.k, .int .i64 xi.n, .string ⟨xi.t.toArray⟩, .slice ka1 xi.keys.length kc1, .slice ia1 xi.items.length ic1] [.int .i64 yi.k, .int .i64 yi.n, .string ⟨yi.t.toArray⟩, .slice kb2 yi.keys.length kd2, .slice ib2 yi.items.length id2] A B W (HX1.out.later h) (HY1.out.later h)).mono (fun _ _ ⟨he, hB⟩ => ⟨he, h.trans (hB.mono h.size)⟩)
      have BW : Hid (Below wr.heap.size wr wr ∧ Below wr.heap.size wr wr.drew) := ⟨Below.refl _ _, (Below.refl _ _).drew⟩
      clear HS
      by_cases he : xi = yi
      case neg =>
        have HD : Hid (sameB x y = false) := sameB_no (fun e => he (by have h := HXY.out; rw [e] at h; exact h.1.symm.trans h.2))
        rw [sameB_no he] at RC
        clear he
        go_wp2_with fail
        refine wp_region_held_drew (S := (fun W => W.cell? ⟨w.heap.size, 4, none⟩ = some (.slice (some ⟨g1, o1, none⟩) x.items.length ic) ∧ W.cell? ⟨w.heap.size + 1, 4, none⟩ = some (.slice (some ⟨g2, o2, none⟩) y.items.length id) ∧ W.cell? ⟨g1, o1 + k * 5, none⟩ = some (.int .i64 xi.k) ∧ W.cell? ⟨g1, o1 + k * 5 + 1, none⟩ = some (.int .i64 xi.n) ∧ W.cell? ⟨g1, o1 + k * 5 + 2, none⟩ = some (.string ⟨xi.t.toArray⟩) ∧ W.cell? ⟨g1, o1 + k * 5 + 3, none⟩ = some (.slice ka1 xi.keys.length kc1) ∧ W.cell? ⟨g1, o1 + k * 5 + 4, none⟩ = some (.slice ia1 xi.items.length ic1) ∧ W.cell? ⟨g2, o2 + k * 5, none⟩ = some (.int .i64 yi.k) ∧ W.cell? ⟨g2, o2 + k * 5 + 1, none⟩ = some (.int .i64 yi.n) ∧ W.cell? ⟨g2, o2 + k * 5 + 2, none⟩ = some (.string ⟨yi.t.toArray⟩) ∧ W.cell? ⟨g2, o2 + k * 5 + 3, none⟩ = some (.slice kb2 yi.keys.length kd2) ∧ W.cell? ⟨g2, o2 + k * 5 + 4, none⟩ = some (.slice ib2 yi.items.length id2))) (by kernel_rfl) ?_ (fun hHeld => ?_)
        · (first | exact CE.out _ BW.out.1 | exact CE.out _ BW.out.2)
        refine wpAnyH_take (i := 0) (v := ?_) rfl (by kernel_rfl) (by kernel_rfl) (by kernel_rfl) (fun _ _ _ h => h) (Or.inl ⟨by kernel_rfl, ?_⟩) (by assumption) ?_
        rotate_left
        · (intro wS hSw; (try dsimp only at hSw); go_simp <;> with_reducible rfl)
        try simp only [Act.put, tkS]
        refine wpAnyH_take (i := 1) (v := ?_) rfl (by kernel_rfl) (by kernel_rfl) (by kernel_rfl) (fun _ _ _ h => h) (Or.inl ⟨by kernel_rfl, ?_⟩) (by assumption) ?_
        rotate_left
        · (intro wS hSw; (try dsimp only at hSw); go_simp <;> with_reducible rfl)
        try simp only [Act.put, tkS]
        refine wpAnyH_take (i := 2) (v := ?_) rfl (by kernel_rfl) (by kernel_rfl) (by kernel_rfl) (fun _ _ _ h => h) (Or.inl ⟨by kernel_rfl, ?_⟩) (by assumption) ?_
        rotate_left
        · (intro wS hSw; (try dsimp only at hSw); go_simp <;> with_reducible rfl)
        try simp only [Act.put, tkS]
        refine wpAnyH_take (i := 3) (v := ?_) rfl (by kernel_rfl) (by kernel_rfl) (by kernel_rfl) (fun _ _ _ h => h) (Or.inl ⟨by kernel_rfl, ?_⟩) (by assumption) ?_
        rotate_left
        · (intro wS hSw; (try dsimp only at hSw); go_simp <;> with_reducible rfl)
        try simp only [Act.put, tkS]
        refine wpAnyH_take (i := 4) (v := ?_) rfl (by kernel_rfl) (by kernel_rfl) (by kernel_rfl) (fun _ _ _ h => h) (Or.inl ⟨by kernel_rfl, ?_⟩) (by assumption) ?_
        rotate_left
        · (intro wS hSw; (try dsimp only at hSw); go_simp <;> with_reducible rfl)
        try simp only [Act.put, tkS]
        refine wpAnyH_take (i := 5) (v := ?_) rfl (by kernel_rfl) (by kernel_rfl) (by kernel_rfl) (fun _ _ _ h => h) (Or.inl ⟨by kernel_rfl, ?_⟩) (by assumption) ?_
        rotate_left
        · (intro wS hSw; (try dsimp only at hSw); go_simp <;> with_reducible rfl)
        try simp only [Act.put, tkS]
        refine wpAnyH_take (i := 6) (v := ?_) rfl (by kernel_rfl) (by kernel_rfl) (by kernel_rfl) (fun _ _ _ h => h) (Or.inl ⟨by kernel_rfl, ?_⟩) (by assumption) ?_
        rotate_left
        · (intro wS hSw; (try dsimp only at hSw); go_simp <;> with_reducible rfl)
        try simp only [Act.put, tkS]
        refine wpAnyH_take (i := 7) (v := ?_) rfl (by kernel_rfl) (by kernel_rfl) (by kernel_rfl) (fun _ _ _ h => h) (Or.inl ⟨by kernel_rfl, ?_⟩) (by assumption) ?_
        rotate_left
        · (intro wS hSw; (try dsimp only at hSw); go_simp <;> with_reducible rfl)
        try simp only [Act.put, tkS]
        refine wpAnyH_take (i := 8) (v := ?_) rfl (by kernel_rfl) (by kernel_rfl) (by kernel_rfl) (fun _ _ _ h => h) (Or.inl ⟨by kernel_rfl, ?_⟩) (by assumption) ?_
        rotate_left
        · (intro wS hSw; (try dsimp only at hSw); go_simp <;> with_reducible rfl)
        try simp only [Act.put, tkS]
        refine wpAnyH_take (i := 9) (v := ?_) rfl (by kernel_rfl) (by kernel_rfl) (by kernel_rfl) (fun _ _ _ h => h) (Or.inl ⟨by kernel_rfl, ?_⟩) (by assumption) ?_
        rotate_left
        · (intro wS hSw; (try dsimp only at hSw); go_simp <;> with_reducible rfl)
        try simp only [Act.put, tkS]
        refine wpAnyH_ready (rs := [10]) (by kernel_rfl) (by simp) (AllReadyH.cons rfl (fun K hK => ?_) AllReadyH.nil)
        go_simp
        (go_at_call 6; refine (RC.out _ (by first | exact BW.out.1 | exact BW.out.2)).mono ?_; rintro e w2 ⟨rfl, hB⟩; have HB2 := Lib.hid hB; clear hB)
        refine hK.out _ _ ?_ (fun hHeld => ?_)
        · (exact CE.out _ HB2.out)
        clear hK K
        try simp only [Act.put, tkS]
        refine wpAnyH_take (i := 11) (v := ?_) rfl (by kernel_rfl) (by kernel_rfl) (by kernel_rfl) (fun _ _ _ h => h) (Or.inl ⟨by kernel_rfl, ?_⟩) (by assumption) ?_
        rotate_left
        · (intro wS hSw; (try dsimp only at hSw); go_simp <;> with_reducible rfl)
        try simp only [Act.put, tkS]
        refine wpAnyH_done (by kernel_rfl) ?_ _
        clear u0 u1 u2 u3 u4 v0 v1 v2 v3 v4
        go_wp2_with fail
        go_ret
        exact ⟨ret_b HD.out.symm, (HBW.out.later HB2.out).2.2⟩
      rw [sameB_iff.2 he] at RC
      have HQ2 : Hid (∀ q, q < k + 1 → x.items.getD q dfl = y.items.getD q dfl) := fun q hq => by
        by_cases e : q = k
        · subst e; have h := HXY.out; rw [he] at h; exact h.1.trans h.2.symm
        · exact HQ.out q (by omega)
      clear he
      go_wp2_with fail
      refine wp_region_held_drew (S := (fun W => W.cell? ⟨w.heap.size, 4, none⟩ = some (.slice (some ⟨g1, o1, none⟩) x.items.length ic) ∧ W.cell? ⟨w.heap.size + 1, 4, none⟩ = some (.slice (some ⟨g2, o2, none⟩) y.items.length id) ∧ W.cell? ⟨g1, o1 + k * 5, none⟩ = some (.int .i64 xi.k) ∧ W.cell? ⟨g1, o1 + k * 5 + 1, none⟩ = some (.int .i64 xi.n) ∧ W.cell? ⟨g1, o1 + k * 5 + 2, none⟩ = some (.string ⟨xi.t.toArray⟩) ∧ W.cell? ⟨g1, o1 + k * 5 + 3, none⟩ = some (.slice ka1 xi.keys.length kc1) ∧ W.cell? ⟨g1, o1 + k * 5 + 4, none⟩ = some (.slice ia1 xi.items.length ic1) ∧ W.cell? ⟨g2, o2 + k * 5, none⟩ = some (.int .i64 yi.k) ∧ W.cell? ⟨g2, o2 + k * 5 + 1, none⟩ = some (.int .i64 yi.n) ∧ W.cell? ⟨g2, o2 + k * 5 + 2, none⟩ = some (.string ⟨yi.t.toArray⟩) ∧ W.cell? ⟨g2, o2 + k * 5 + 3, none⟩ = some (.slice kb2 yi.keys.length kd2) ∧ W.cell? ⟨g2, o2 + k * 5 + 4, none⟩ = some (.slice ib2 yi.items.length id2))) (by kernel_rfl) ?_ (fun hHeld => ?_)
      · (first | exact CE.out _ BW.out.1 | exact CE.out _ BW.out.2)
      refine wpAnyH_take (i := 0) (v := ?_) rfl (by kernel_rfl) (by kernel_rfl) (by kernel_rfl) (fun _ _ _ h => h) (Or.inl ⟨by kernel_rfl, ?_⟩) (by assumption) ?_
      rotate_left
      · (intro wS hSw; (try dsimp only at hSw); go_simp <;> with_reducible rfl)
      try simp only [Act.put, tkS]
      refine wpAnyH_take (i := 1) (v := ?_) rfl (by kernel_rfl) (by kernel_rfl) (by kernel_rfl) (fun _ _ _ h => h) (Or.inl ⟨by kernel_rfl, ?_⟩) (by assumption) ?_
      rotate_left
      · (intro wS hSw; (try dsimp only at hSw); go_simp <;> with_reducible rfl)
      try simp only [Act.put, tkS]
      refine wpAnyH_take (i := 2) (v := ?_) rfl (by kernel_rfl) (by kernel_rfl) (by kernel_rfl) (fun _ _ _ h => h) (Or.inl ⟨by kernel_rfl, ?_⟩) (by assumption) ?_
      rotate_left
      · (intro wS hSw; (try dsimp only at hSw); go_simp <;> with_reducible rfl)
      try simp only [Act.put, tkS]
      refine wpAnyH_take (i := 3) (v := ?_) rfl (by kernel_rfl) (by kernel_rfl) (by kernel_rfl) (fun _ _ _ h => h) (Or.inl ⟨by kernel_rfl, ?_⟩) (by assumption) ?_
      rotate_left
      · (intro wS hSw; (try dsimp only at hSw); go_simp <;> with_reducible rfl)
      try simp only [Act.put, tkS]
      refine wpAnyH_take (i := 4) (v := ?_) rfl (by kernel_rfl) (by kernel_rfl) (by kernel_rfl) (fun _ _ _ h => h) (Or.inl ⟨by kernel_rfl, ?_⟩) (by assumption) ?_
      rotate_left
      · (intro wS hSw; (try dsimp only at hSw); go_simp <;> with_reducible rfl)
      try simp only [Act.put, tkS]
      refine wpAnyH_take (i := 5) (v := ?_) rfl (by kernel_rfl) (by kernel_rfl) (by kernel_rfl) (fun _ _ _ h => h) (Or.inl ⟨by kernel_rfl, ?_⟩) (by assumption) ?_
      rotate_left
      · (intro wS hSw; (try dsimp only at hSw); go_simp <;> with_reducible rfl)
      try simp only [Act.put, tkS]
      refine wpAnyH_take (i := 6) (v := ?_) rfl (by kernel_rfl) (by kernel_rfl) (by kernel_rfl) (fun _ _ _ h => h) (Or.inl ⟨by kernel_rfl, ?_⟩) (by assumption) ?_
      rotate_left
      · (intro wS hSw; (try dsimp only at hSw); go_simp <;> with_reducible rfl)
      try simp only [Act.put, tkS]
      refine wpAnyH_take (i := 7) (v := ?_) rfl (by kernel_rfl) (by kernel_rfl) (by kernel_rfl) (fun _ _ _ h => h) (Or.inl ⟨by kernel_rfl, ?_⟩) (by assumption) ?_
      rotate_left
      · (intro wS hSw; (try dsimp only at hSw); go_simp <;> with_reducible rfl)
      try simp only [Act.put, tkS]
      refine wpAnyH_take (i := 8) (v := ?_) rfl (by kernel_rfl) (by kernel_rfl) (by kernel_rfl) (fun _ _ _ h => h) (Or.inl ⟨by kernel_rfl, ?_⟩) (by assumption) ?_
      rotate_left
      · (intro wS hSw; (try dsimp only at hSw); go_simp <;> with_reducible rfl)
      try simp only [Act.put, tkS]
      refine wpAnyH_take (i := 9) (v := ?_) rfl (by kernel_rfl) (by kernel_rfl) (by kernel_rfl) (fun _ _ _ h => h) (Or.inl ⟨by kernel_rfl, ?_⟩) (by assumption) ?_
      rotate_left
      · (intro wS hSw; (try dsimp only at hSw); go_simp <;> with_reducible rfl)
      try simp only [Act.put, tkS]
      refine wpAnyH_ready (rs := [10]) (by kernel_rfl) (by simp) (AllReadyH.cons rfl (fun K hK => ?_) AllReadyH.nil)
      go_simp
      (go_at_call 6; refine (RC.out _ (by first | exact BW.out.1 | exact BW.out.2)).mono ?_; rintro e w2 ⟨rfl, hB⟩; have HB2 := Lib.hid hB; clear hB)
      refine hK.out _ _ ?_ (fun hHeld => ?_)
      · (exact CE.out _ HB2.out)
      clear hK K
      try simp only [Act.put, tkS]
      refine wpAnyH_take (i := 11) (v := ?_) rfl (by kernel_rfl) (by kernel_rfl) (by kernel_rfl) (fun _ _ _ h => h) (Or.inl ⟨by kernel_rfl, ?_⟩) (by assumption) ?_
      rotate_left
      · (intro wS hSw; (try dsimp only at hSw); go_simp <;> with_reducible rfl)
      try simp only [Act.put, tkS]
      refine wpAnyH_done (by kernel_rfl) ?_ _
      clear u0 u1 u2 u3 u4 v0 v1 v2 v3 v4
      go_wp2_with fail
      go_roundw
      case rel => exact ⟨k + 1, by omega, by go_num, HBW.out.later HB2.out, HQ2.out⟩
      case measure => simp [intOf]; omega
end Go.Proofs.Ytmmcnalhmpkkmaa
