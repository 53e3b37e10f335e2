import Derived.Test.YtodgijhpokjjhaaDoorZay
import Derived.Test.YtodgijhpokjjhaaDoorZaz
import Derived.Test.YtodgijhpokjjhaaDoorZbb
import Derived.Test.YtodgijhpokjjhaaDoorZbj
import Derived.Test.YtodgijhpokjjhaaDoorZbw
namespace Go.Proofs.YtodgijhpokjjhaaDoor
open Go.RowKit
set_option linter.unusedSimpArgs false
theorem Byts.upM {w W : World} {q : Option Addr} {l : List UInt8} (h : Byts w (· < w.heap.size) q l) (hB : Below w.heap.size w W) : Byts W (· < w.heap.size) q l := h.same (fun b hb => hB.block b hb) (fun _ h => h)
theorem RJ.up {W W' : World} {j : J} {cs : List Value} (h : RJ W (· < W.heap.size) j cs) (hB : Below W.heap.size W W') : RJ W' (· < W'.heap.size) j cs := RJ.same (fun b hb => hB.block b hb) (fun _ hb => Nat.lt_of_lt_of_le hb hB.size) j cs h
theorem Strs.up {W W' : World} {q : Option Addr} {l : List (List UInt8)} (h : Strs W (· < W.heap.size) q l) (hB : Below W.heap.size W W') : Strs W' (· < W'.heap.size) q l := h.same (fun b hb => hB.block b hb) (fun _ hb => Nat.lt_of_lt_of_le hb hB.size)
theorem OB.ownsV {W : World} {B n c : Nat} {a : Option Addr} {l : List (List UInt8)} (h : OB W B 9 (.slice a n c) (sc l)) : Strs W (· < W.heap.size) a l := by
  rcases h.2 with ⟨-, h0⟩ | ⟨g, cap, cur, e, hg, ⟨fr, hb, hm⟩, hn, hcap, hcs, hx⟩
  · exact .inl (by rw [sc_len] at h0; exact h0)
  · injection e with e1 e2 e3
    subst e1
    refine .inr ⟨g, 0, rfl, (Array.getElem?_eq_some_iff.1 hb).1, fun i hi => ?_⟩
    have h1 := congrArg (·[i]?) hx
    rw [Nat.mul_one, sc_len] at h1
    simp only [sc, List.getElem?_map, List.getElem?_eq_getElem hi, Option.map_some] at h1
    rw [List.getElem?_take_of_lt (by omega), Array.getElem?_toList] at h1
    rw [Nat.zero_add]
    simp [World.cell?, hb, h1]
def listF (x : J) : J := ⟨4, 0, [], [], [x]⟩
theorem cntV_up : ∀ (j : J) (d n : Nat), cnt d j = some n → ∀ k, cnt (d + k) j = some n := fun j => by
  induction j using J.induct with
  | h j ih =>
    intro d n h k
    obtain ⟨d', m, rfl, hp, hs, rfl⟩ := cnt_open h
    have e : ∀ (l : List J) (m : Nat), (∀ x ∈ l, x ∈ j.items) → sumO (l.map (cnt d')) = some m → sumO (l.map (cnt (d' + k))) = some m := by
      intro l
      induction l with
      | nil => intro m _ h; exact h
      | cons x l ihl =>
        intro m hx h
        simp only [List.map_cons, sumO] at h ⊢
        cases e1 : cnt d' x with
        | none => rw [e1] at h; simp [addO] at h
        | some a =>
          cases e2 : sumO (l.map (cnt d')) with
          | none => rw [e1, e2] at h; simp [addO] at h
          | some b =>
            rw [ih x (hx x (by simp)) d' a e1 k, ihl b (fun y hy => hx y (by simp [hy])) e2]
            rw [e1, e2] at h
            exact h
    rw [show d' + 1 + k = (d' + k) + 1 by omega]
    unfold cnt
    rw [if_pos hp, e j.items m (fun _ h => h) hs]
    simp [addO]; omega
theorem listF_cnt {x : J} {n : Nat} (h : cnt 4 x = some n) : cnt 12 (listF x) = some (1 + n) := by
  unfold cnt
  rw [if_pos (show partB (listF x) = true from by rw [part4 rfl]; rfl)]
  show addO (some 1) (addO (cnt 11 x) (some 0)) = _
  rw [cntV_up x 4 n h 7]; rfl
theorem okV_of {j : J} {n : Nat} (h : cnt 12 j = some n) (hn : n ≤ 400) : okB j = true := by
  unfold okB
  rw [h]
  exact decide_eq_true (by show (0 : Int) ≤ if (n : Int) ≤ 400 then 400 - (n : Int) else -1; rw [if_pos (by omega)]; omega)
theorem listF_pr (x : J) : pr (listF x) = 91 :: (pr x ++ [93]) := by
  rw [pr_eq]
  show (if (4 : Int) = 0 then _ else _) = _
  rw [if_neg (by omega), if_neg (by show ¬ (4 : Int) = 1; omega), if_neg (by show ¬ (4 : Int) = 2; omega), if_neg (by show ¬ (4 : Int) = 3; omega)]
  show (if (4 : Int) = 5 then (123 : UInt8) else 91) :: (joinF true (pieces 4 [] [pr x]) ++ [if (4 : Int) = 5 then (125 : UInt8) else 93]) = _
  rw [if_neg (by omega), if_neg (by omega)]
  show 91 :: (([] ++ (pr x ++ [])) ++ [93]) = _
  simp
theorem listF_all {x : J} {n : Nat} (hc : cnt 4 x = some n) (hn : n ≤ 85) (hs : Small x) : prA (listF x) = pr (listF x) ∧ prC (listF x) = 0 ∧ (listF x).sz ≤ 1048576 ∧ 0 < (pr (listF x)).length ∧ (pr (listF x)).length ≤ 3000 ∧ feedL fr0 (pr (listF x)) = (fr0, [pr (listF x)]) := by
  have h1 := listF_cnt hc
  have hok := okV_of h1 (by omega)
  have hsz := cnt_sz _ _ _ h1
  have hl := pr_small x 4 n hc hs
  rw [show prA (listF x) = pr (listF x) from by unfold prA; rw [hok]; rfl, show prC (listF x) = 0 from by unfold prC; rw [hok]; rfl]
  refine ⟨rfl, rfl, by omega, by rw [listF_pr]; simp, by rw [listF_pr]; simp; omega, ?_⟩
  rw [listF_pr]
  exact feed_whole hc (by omega) (by omega)
theorem listF_rj {V : World} {b : Nat} {x : J} {ka : Option Addr} {kc : Nat} {ia : Option Addr} {ic : Nat} (h : V.heap[b]? = some (.cells #[.int .i64 x.k, .int .i64 x.n, .string ⟨x.t.toArray⟩, .slice ka x.keys.length kc, .slice ia x.items.length ic] 28)) (hr : RJ V (· < V.heap.size) x [.int .i64 x.k, .int .i64 x.n, .string ⟨x.t.toArray⟩, .slice ka x.keys.length kc, .slice ia x.items.length ic]) :
    RJ V (· < V.heap.size) (listF x) [.int .i64 4, .int .i64 0, .string ⟨#[]⟩, .slice none 0 0, .slice (some ⟨b, 0, none⟩) 1 1] := by
  rw [RJ_eq]
  refine ⟨none, 0, some ⟨b, 0, none⟩, 1, rfl, Nat.zero_le _, Nat.zero_le _, by show 1 ≤ maxLen; unfold maxLen; omega, fun _ h => absurd h (by simp [listF]), .inl rfl, .inr ⟨b, 0, rfl, (Array.getElem?_eq_some_iff.1 h).1, fun i hi => ?_⟩⟩
  have hi : i < 1 := hi
  obtain rfl : i = 0 := by omega
  refine ⟨_, fun j v hv => ?_, hr⟩
  have hj : j < 5 := (List.getElem?_eq_some_iff.1 hv).1
  rcases (by omega : j = 0 ∨ j = 1 ∨ j = 2 ∨ j = 3 ∨ j = 4) with rfl | rfl | rfl | rfl | rfl
  · exact cell_at (o := 0) h hv
  · exact cell_at (o := 1) h hv
  · exact cell_at (o := 2) h hv
  · exact cell_at (o := 3) h hv
  · exact cell_at (o := 4) h hv
theorem strs_three {V : World} {b : Nat} {t0 t1 t2 : List UInt8} (h : V.heap[b]? = some (.cells #[.string ⟨t0.toArray⟩, .string ⟨t1.toArray⟩, .string ⟨t2.toArray⟩] 9)) : Strs V (· < V.heap.size) (some ⟨b, 0, none⟩) [t0, t1, t2] := by
  refine .inr ⟨b, 0, rfl, (Array.getElem?_eq_some_iff.1 h).1, fun i hi => ?_⟩
  have hi : i < 3 := hi
  rcases (by omega : i = 0 ∨ i = 1 ∨ i = 2) with rfl | rfl | rfl
  · exact cell_at (o := 0) h rfl
  · exact cell_at (o := 1) h rfl
  · exact cell_at (o := 2) h rfl
set_option maxRecDepth 100000 in
set_option maxHeartbeats 12800000 in
theorem lawFnTexts (l1 l2 : List UInt8) (pa pb : Option Addr) (ca cb : Nat) (w : World) (h1 : Byts w (· < w.heap.size) pa l1) (h2 : Byts w (· < w.heap.size) pb l2) (hT : Tab w w.heap.size) :
    Calls Tryd.prog 3 #[.slice pa l1.length ca, .slice pb l2.length cb] w fun e w' => e = .returned (.bool true) ∧ Below w.heap.size w w' := by
  have HT := Lib.hid hT
  clear hT
  by_cases g1 : 1048576 < l1.length
  case pos =>
    have d1a : decide (1048576 < (l1.length : Int)) = true := decide_eq_true (by omega)
    have d1b : decide (1048576 < l1.length) = true := decide_eq_true g1
    go_enter Tryd.func3, Tryd.ntmps3
    go_wp2_with fail
    go_ret
    exact ⟨rfl, Below.refl _ _⟩
  have d1a : decide (1048576 < (l1.length : Int)) = false := decide_eq_false (by omega)
  have d1b : decide (1048576 < l1.length) = false := decide_eq_false g1
  by_cases g2 : 1048576 < l2.length
  case pos =>
    have d2a : decide (1048576 < (l2.length : Int)) = true := decide_eq_true (by omega)
    have d2b : decide (1048576 < l2.length) = true := decide_eq_true g2
    go_enter Tryd.func3, Tryd.ntmps3
    go_wp2_with fail
    go_ret
    exact ⟨rfl, Below.refl _ _⟩
  have d2a : decide (1048576 < (l2.length : Int)) = false := decide_eq_false (by omega)
  have d2b : decide (1048576 < l2.length) = false := decide_eq_false g2
  have DA : Hid (∀ W, Below w.heap.size w W → Calls Tryd.prog 5 #[.slice pa l1.length ca] W (DrawnV W)) := fun W h => jsonDrawnS l1 pa ca w.heap.size W h.size (h1.upM h)
  have DB : Hid (∀ W, Below w.heap.size w W → Calls Tryd.prog 5 #[.slice pb l2.length cb] W (DrawnV W)) := fun W h => jsonDrawnS l2 pb cb w.heap.size W h.size (h2.upM h)
  clear h1 h2 g1 g2
  go_enter Tryd.func3, Tryd.ntmps3
  have M0 : Hid (Below w.heap.size w w) := Below.refl _ _
  go_wp2_with fail
  refine (DA.out _ (M0.out)).mono ?_
  rintro e w1 ⟨x, xka, xkc, xia, xic, n1, rfl, hc1, hn1, hs1, hr1, hB⟩
  have M1 : Hid (Below w.heap.size w w1 ∧ RJ w1 (· < w1.heap.size) x [.int .i64 x.k, .int .i64 x.n, .string ⟨x.t.toArray⟩, .slice xka x.keys.length xkc, .slice xia x.items.length xic]) := ⟨M0.out.trans (hB.mono M0.out.size), hr1⟩
  clear  M0 hB hr1 DA
  obtain ⟨ta1, ta2, ta3, ta4, ta5, ta6⟩ := listF_all hc1 hn1 hs1
  have M2 : Hid (Below w.heap.size w (w1.alloc (.cells #[.int .i64 x.k, .int .i64 x.n, .string ⟨x.t.toArray⟩, .slice xka x.keys.length xkc, .slice xia x.items.length xic] 28)) ∧ RJ (w1.alloc (.cells #[.int .i64 x.k, .int .i64 x.n, .string ⟨x.t.toArray⟩, .slice xka x.keys.length xkc, .slice xia x.items.length xic] 28)) (· < (w1.alloc (.cells #[.int .i64 x.k, .int .i64 x.n, .string ⟨x.t.toArray⟩, .slice xka x.keys.length xkc, .slice xia x.items.length xic] 28)).heap.size) x [.int .i64 x.k, .int .i64 x.n, .string ⟨x.t.toArray⟩, .slice xka x.keys.length xkc, .slice xia x.items.length xic] ∧ (w1.alloc (.cells #[.int .i64 x.k, .int .i64 x.n, .string ⟨x.t.toArray⟩, .slice xka x.keys.length xkc, .slice xia x.items.length xic] 28)).heap[w1.heap.size]? = some (.cells #[.int .i64 x.k, .int .i64 x.n, .string ⟨x.t.toArray⟩, .slice xka x.keys.length xkc, .slice xia x.items.length xic] 28)) := ⟨M1.out.1.trans ((below_allocD w1 (.cells #[.int .i64 x.k, .int .i64 x.n, .string ⟨x.t.toArray⟩, .slice xka x.keys.length xkc, .slice xia x.items.length xic] 28)).mono M1.out.1.size), M1.out.2.up (below_allocD w1 (.cells #[.int .i64 x.k, .int .i64 x.n, .string ⟨x.t.toArray⟩, .slice xka x.keys.length xkc, .slice xia x.items.length xic] 28)), heap_newD _ _⟩
  clear  M1 
  have c_bx_0 := cell_at (o := 0) M2.out.2.2 rfl
  have c_bx_1 := cell_at (o := 1) M2.out.2.2 rfl
  have c_bx_2 := cell_at (o := 2) M2.out.2.2 rfl
  have c_bx_3 := cell_at (o := 3) M2.out.2.2 rfl
  have c_bx_4 := cell_at (o := 4) M2.out.2.2 rfl
  have PJ : Hid (∀ W, Below w.heap.size w W → RJ W (· < W.heap.size) (listF x) [.int .i64 4, .int .i64 0, .string ⟨#[]⟩, .slice none 0 0, .slice (some ⟨w1.heap.size, 0, none⟩) 1 1] → Calls Tryd.prog 4 #[.agg #[.int .i64 4, .int .i64 0, .string ⟨#[]⟩, .slice none 0 0, .slice (some ⟨w1.heap.size, 0, none⟩) 1 1]] W fun e w' => e = .returned (.tuple #[.string ⟨(pr (listF x)).toArray⟩, .int .i64 0]) ∧ Below W.heap.size W w') := fun W hb h => by have h9 := printI (listF x) _ _ W h ta3 (HT.out.here hb); rw [ta1, ta2] at h9; exact h9
  have Hta : Hid (0 < (pr (listF x)).length ∧ (pr (listF x)).length ≤ 3000 ∧ feedL fr0 (pr (listF x)) = (fr0, [pr (listF x)])) := ⟨ta4, ta5, ta6⟩
  clear ta1 ta2 ta3 ta4 ta5 ta6 hc1 hn1 hs1
  go_wp2_with fail
  refine (PJ.out _ (M2.out.1) (listF_rj (M2.out.2.2) (M2.out.2.1))).mono ?_
  rintro e w2 ⟨rfl, hB⟩
  have M3 : Hid (Below w.heap.size w w2) := M2.out.1.trans (hB.mono M2.out.1.size)
  clear c_bx_0 c_bx_1 c_bx_2 c_bx_3 c_bx_4 M2 hB PJ
  generalize pr (listF x) = ta at *
  go_wp2_with fail
  refine (DB.out _ (M3.out)).mono ?_
  rintro e w3 ⟨y, yka, ykc, yia, yic, n2, rfl, hc2, hn2, hs2, hr2, hB⟩
  have M4 : Hid (Below w.heap.size w w3 ∧ RJ w3 (· < w3.heap.size) y [.int .i64 y.k, .int .i64 y.n, .string ⟨y.t.toArray⟩, .slice yka y.keys.length ykc, .slice yia y.items.length yic]) := ⟨M3.out.trans (hB.mono M3.out.size), hr2⟩
  clear  M3 hB hr2 DB
  obtain ⟨tc1, tc2, tc3, tc4, tc5, tc6⟩ := listF_all hc2 hn2 hs2
  have M5 : Hid (Below w.heap.size w (w3.alloc (.cells #[.int .i64 y.k, .int .i64 y.n, .string ⟨y.t.toArray⟩, .slice yka y.keys.length ykc, .slice yia y.items.length yic] 28)) ∧ RJ (w3.alloc (.cells #[.int .i64 y.k, .int .i64 y.n, .string ⟨y.t.toArray⟩, .slice yka y.keys.length ykc, .slice yia y.items.length yic] 28)) (· < (w3.alloc (.cells #[.int .i64 y.k, .int .i64 y.n, .string ⟨y.t.toArray⟩, .slice yka y.keys.length ykc, .slice yia y.items.length yic] 28)).heap.size) y [.int .i64 y.k, .int .i64 y.n, .string ⟨y.t.toArray⟩, .slice yka y.keys.length ykc, .slice yia y.items.length yic] ∧ (w3.alloc (.cells #[.int .i64 y.k, .int .i64 y.n, .string ⟨y.t.toArray⟩, .slice yka y.keys.length ykc, .slice yia y.items.length yic] 28)).heap[w3.heap.size]? = some (.cells #[.int .i64 y.k, .int .i64 y.n, .string ⟨y.t.toArray⟩, .slice yka y.keys.length ykc, .slice yia y.items.length yic] 28)) := ⟨M4.out.1.trans ((below_allocD w3 (.cells #[.int .i64 y.k, .int .i64 y.n, .string ⟨y.t.toArray⟩, .slice yka y.keys.length ykc, .slice yia y.items.length yic] 28)).mono M4.out.1.size), M4.out.2.up (below_allocD w3 (.cells #[.int .i64 y.k, .int .i64 y.n, .string ⟨y.t.toArray⟩, .slice yka y.keys.length ykc, .slice yia y.items.length yic] 28)), heap_newD _ _⟩
  clear  M4 
  have c_by_0 := cell_at (o := 0) M5.out.2.2 rfl
  have c_by_1 := cell_at (o := 1) M5.out.2.2 rfl
  have c_by_2 := cell_at (o := 2) M5.out.2.2 rfl
  have c_by_3 := cell_at (o := 3) M5.out.2.2 rfl
  have c_by_4 := cell_at (o := 4) M5.out.2.2 rfl
  have PJ : Hid (∀ W, Below w.heap.size w W → RJ W (· < W.heap.size) (listF y) [.int .i64 4, .int .i64 0, .string ⟨#[]⟩, .slice none 0 0, .slice (some ⟨w3.heap.size, 0, none⟩) 1 1] → Calls Tryd.prog 4 #[.agg #[.int .i64 4, .int .i64 0, .string ⟨#[]⟩, .slice none 0 0, .slice (some ⟨w3.heap.size, 0, none⟩) 1 1]] W fun e w' => e = .returned (.tuple #[.string ⟨(pr (listF y)).toArray⟩, .int .i64 0]) ∧ Below W.heap.size W w') := fun W hb h => by have h9 := printI (listF y) _ _ W h tc3 (HT.out.here hb); rw [tc1, tc2] at h9; exact h9
  have Htc : Hid (0 < (pr (listF y)).length ∧ (pr (listF y)).length ≤ 3000 ∧ feedL fr0 (pr (listF y)) = (fr0, [pr (listF y)])) := ⟨tc4, tc5, tc6⟩
  clear tc1 tc2 tc3 tc4 tc5 tc6 hc2 hn2 hs2
  go_wp2_with fail
  refine (PJ.out _ (M5.out.1) (listF_rj (M5.out.2.2) (M5.out.2.1))).mono ?_
  rintro e w4 ⟨rfl, hB⟩
  have M6 : Hid (Below w.heap.size w w4) := M5.out.1.trans (hB.mono M5.out.1.size)
  clear c_by_0 c_by_1 c_by_2 c_by_3 c_by_4 M5 hB PJ
  generalize pr (listF y) = tc at *
  have hla : ta.length ≤ 3000 := Hta.out.2.1
  have hlc : tc.length ≤ 3000 := Htc.out.2.1
  have FA : Hid (∀ W b, Strs W (· < W.heap.size) (some ⟨b, 0, none⟩) [ta ++ tc, [32], ta] → Calls Tryd.prog 6 #[.slice (some ⟨b, 0, none⟩) 3 3] W fun e w' => ∃ la lc, e = .returned (.tuple #[.agg #[.string ⟨#[]⟩, .int .i64 0, .bool false, .bool false, .bool false], .slice la 3 lc, .int .i64 0]) ∧ Strs w' (· < w'.heap.size) la [ta, tc, ta] ∧ Below W.heap.size W w') := fun W b h => by
    have h3 := feed_three Hta.out.2.2 Htc.out.2.2
    have hf : [ta ++ tc, [32], ta].flatten.length ≤ 1048576 := by have := Hta.out.2.1; have := Htc.out.2.1; simp; omega
    have h9 := allI [ta ++ tc, [32], ta] (some ⟨b, 0, none⟩) 3 W.heap.size W (by simp) hf (Nat.le_refl _) h
    rw [show faF [ta ++ tc, [32], ta] = fr0 from by unfold faF; rw [if_neg (by simp), h3], show faO [ta ++ tc, [32], ta] = [ta, tc, ta] from by unfold faO; rw [if_neg (by simp), h3], show faC [ta ++ tc, [32], ta] = 0 from by unfold faC; rw [if_neg (by simp)]] at h9
    exact h9.mono (fun _ _ ⟨la, lc, he, hB, ho⟩ => ⟨la, lc, he, ho.ownsV, hB⟩)
  have STX : Hid (∀ W a a' c c', Strs W (· < W.heap.size) a [ta, tc, ta] → Strs W (· < W.heap.size) a' [ta, tc, ta] → Calls Tryd.prog 7 #[.slice a 3 c, .slice a' 3 c'] W fun e w' => e = .returned (.bool true) ∧ Below W.heap.size W w') := fun W a a' c c' h h' => by have h9 := sameTextsV [ta, tc, ta] [ta, tc, ta] a a' c c' _ _ W (by show 3 ≤ maxLen; unfold maxLen; omega) h h'; rw [decide_eq_true rfl] at h9; exact h9
  have hpos : decide (0 < ta.length) = true := decide_eq_true Hta.out.1
  have hpos2 : decide ((0 : Int) < (ta.length : Int)) = true := decide_eq_true (by have := Hta.out.1; omega)
  have M7 : Hid (Below w.heap.size w (w4.alloc (.cells #[.string ⟨(ta ++ tc).toArray⟩, .string ⟨#[32]⟩, .string ⟨ta.toArray⟩] 9)) ∧ Strs (w4.alloc (.cells #[.string ⟨(ta ++ tc).toArray⟩, .string ⟨#[32]⟩, .string ⟨ta.toArray⟩] 9)) (· < (w4.alloc (.cells #[.string ⟨(ta ++ tc).toArray⟩, .string ⟨#[32]⟩, .string ⟨ta.toArray⟩] 9)).heap.size) (some ⟨w4.heap.size, 0, none⟩) [ta ++ tc, [32], ta]) := ⟨M6.out.trans ((below_allocD w4 (.cells #[.string ⟨(ta ++ tc).toArray⟩, .string ⟨#[32]⟩, .string ⟨ta.toArray⟩] 9)).mono M6.out.size), strs_three (heap_newD _ _)⟩
  clear  M6 
  go_wp2_with fail
  simp only [str_app]
  refine (FA.out _ _ (M7.out.2)).mono ?_
  rintro e w5 ⟨la, lc, rfl, hst, hB⟩
  have M8 : Hid (Below w.heap.size w w5 ∧ Strs w5 (· < w5.heap.size) la [ta, tc, ta]) := ⟨M7.out.1.trans (hB.mono M7.out.1.size), hst⟩
  clear  M7 hB hst FA
  have M9 : Hid (Below w.heap.size w (w5.alloc (.cells #[.string ⟨#[]⟩, .int .i64 0, .bool false, .bool false, .bool false] 31)) ∧ Strs (w5.alloc (.cells #[.string ⟨#[]⟩, .int .i64 0, .bool false, .bool false, .bool false] 31)) (· < (w5.alloc (.cells #[.string ⟨#[]⟩, .int .i64 0, .bool false, .bool false, .bool false] 31)).heap.size) la [ta, tc, ta] ∧ (w5.alloc (.cells #[.string ⟨#[]⟩, .int .i64 0, .bool false, .bool false, .bool false] 31)).heap[w5.heap.size]? = some (.cells #[.string ⟨#[]⟩, .int .i64 0, .bool false, .bool false, .bool false] 31)) := ⟨M8.out.1.trans ((below_allocD w5 (.cells #[.string ⟨#[]⟩, .int .i64 0, .bool false, .bool false, .bool false] 31)).mono M8.out.1.size), M8.out.2.up (below_allocD w5 (.cells #[.string ⟨#[]⟩, .int .i64 0, .bool false, .bool false, .bool false] 31)), heap_newD _ _⟩
  clear  M8 
  have c_f_0 := cell_at (o := 0) M9.out.2.2 rfl
  have c_f_1 := cell_at (o := 1) M9.out.2.2 rfl
  have c_f_2 := cell_at (o := 2) M9.out.2.2 rfl
  have c_f_3 := cell_at (o := 3) M9.out.2.2 rfl
  have c_f_4 := cell_at (o := 4) M9.out.2.2 rfl
  go_wp2_with fail
  have M10 : Hid (Below w.heap.size w ((w5.alloc (.cells #[.string ⟨#[]⟩, .int .i64 0, .bool false, .bool false, .bool false] 31)).alloc (.cells #[.string ⟨ta.toArray⟩, .string ⟨tc.toArray⟩, .string ⟨ta.toArray⟩] 9)) ∧ Strs ((w5.alloc (.cells #[.string ⟨#[]⟩, .int .i64 0, .bool false, .bool false, .bool false] 31)).alloc (.cells #[.string ⟨ta.toArray⟩, .string ⟨tc.toArray⟩, .string ⟨ta.toArray⟩] 9)) (· < ((w5.alloc (.cells #[.string ⟨#[]⟩, .int .i64 0, .bool false, .bool false, .bool false] 31)).alloc (.cells #[.string ⟨ta.toArray⟩, .string ⟨tc.toArray⟩, .string ⟨ta.toArray⟩] 9)).heap.size) la [ta, tc, ta] ∧ ((w5.alloc (.cells #[.string ⟨#[]⟩, .int .i64 0, .bool false, .bool false, .bool false] 31)).alloc (.cells #[.string ⟨ta.toArray⟩, .string ⟨tc.toArray⟩, .string ⟨ta.toArray⟩] 9)).heap[w5.heap.size]? = some (.cells #[.string ⟨#[]⟩, .int .i64 0, .bool false, .bool false, .bool false] 31) ∧ Strs ((w5.alloc (.cells #[.string ⟨#[]⟩, .int .i64 0, .bool false, .bool false, .bool false] 31)).alloc (.cells #[.string ⟨ta.toArray⟩, .string ⟨tc.toArray⟩, .string ⟨ta.toArray⟩] 9)) (· < ((w5.alloc (.cells #[.string ⟨#[]⟩, .int .i64 0, .bool false, .bool false, .bool false] 31)).alloc (.cells #[.string ⟨ta.toArray⟩, .string ⟨tc.toArray⟩, .string ⟨ta.toArray⟩] 9)).heap.size) (some ⟨w5.heap.size + 1, 0, none⟩) [ta, tc, ta]) := ⟨M9.out.1.trans ((below_allocD (w5.alloc (.cells #[.string ⟨#[]⟩, .int .i64 0, .bool false, .bool false, .bool false] 31)) (.cells #[.string ⟨ta.toArray⟩, .string ⟨tc.toArray⟩, .string ⟨ta.toArray⟩] 9)).mono M9.out.1.size), M9.out.2.1.up (below_allocD (w5.alloc (.cells #[.string ⟨#[]⟩, .int .i64 0, .bool false, .bool false, .bool false] 31)) (.cells #[.string ⟨ta.toArray⟩, .string ⟨tc.toArray⟩, .string ⟨ta.toArray⟩] 9)), heap_keptD M9.out.2.2 (below_allocD (w5.alloc (.cells #[.string ⟨#[]⟩, .int .i64 0, .bool false, .bool false, .bool false] 31)) (.cells #[.string ⟨ta.toArray⟩, .string ⟨tc.toArray⟩, .string ⟨ta.toArray⟩] 9)), strs_three (by have h := heap_newD (w5.alloc (.cells #[.string ⟨#[]⟩, .int .i64 0, .bool false, .bool false, .bool false] 31)) (.cells #[.string ⟨ta.toArray⟩, .string ⟨tc.toArray⟩, .string ⟨ta.toArray⟩] 9); rw [size_allocD] at h; exact h)⟩
  clear c_f_0 c_f_1 c_f_2 c_f_3 c_f_4 M9 
  have c_f_0 := cell_at (o := 0) M10.out.2.2.1 rfl
  have c_f_1 := cell_at (o := 1) M10.out.2.2.1 rfl
  have c_f_2 := cell_at (o := 2) M10.out.2.2.1 rfl
  have c_f_3 := cell_at (o := 3) M10.out.2.2.1 rfl
  have c_f_4 := cell_at (o := 4) M10.out.2.2.1 rfl
  refine (STX.out _ _ _ _ _ (M10.out.2.1) (M10.out.2.2.2)).mono ?_
  rintro e w6 ⟨rfl, hB⟩
  have M11 : Hid (Below w.heap.size w w6 ∧ w6.heap[w5.heap.size]? = some (.cells #[.string ⟨#[]⟩, .int .i64 0, .bool false, .bool false, .bool false] 31)) := ⟨M10.out.1.trans (hB.mono M10.out.1.size), heap_keptD M10.out.2.2.1 hB⟩
  clear c_f_0 c_f_1 c_f_2 c_f_3 c_f_4 M10 hB STX
  have c_f_0 := cell_at (o := 0) M11.out.2 rfl
  have c_f_1 := cell_at (o := 1) M11.out.2 rfl
  have c_f_2 := cell_at (o := 2) M11.out.2 rfl
  have c_f_3 := cell_at (o := 3) M11.out.2 rfl
  have c_f_4 := cell_at (o := 4) M11.out.2 rfl
  go_wp2_with fail
  go_ret
  exact ⟨rfl, M11.out.1⟩
end Go.Proofs.YtodgijhpokjjhaaDoor
