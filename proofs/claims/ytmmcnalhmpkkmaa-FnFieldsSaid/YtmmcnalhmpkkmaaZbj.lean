import Derived.Test.YtmmcnalhmpkkmaaZaz
import Derived.Test.YtmmcnalhmpkkmaaZba
import Derived.Test.YtmmcnalhmpkkmaaZbi
import Derived.Deep.RegionHeld3
import Derived.Test.YtmmcnalhmpkkmaaZTk
namespace Go.Proofs.Ytmmcnalhmpkkmaa
open Go.RowKit
set_option linter.unusedSimpArgs false
theorem Byts.upM {w W : World} {q : Option Addr} {l : List UInt8} (h : Byts w (· < w.heap.size) q l) (hB : Below w.heap.size w W) : Byts W (· < w.heap.size) q l := h.same (fun b hb => hB.block b hb) (fun _ h => h)
theorem RJ.up {W W' : World} {j : J} {cs : List Value} (h : RJ W (· < W.heap.size) j cs) (hB : Below W.heap.size W W') : RJ W' (· < W'.heap.size) j cs := RJ.same (fun b hb => hB.block b hb) (fun _ hb => Nat.lt_of_lt_of_le hb hB.size) j cs h
theorem cnt_up : ∀ (j : J) (d n : Nat), cnt d j = some n → ∀ k, cnt (d + k) j = some n := fun j => by
  induction j using J.induct with
  | h j ih =>
    intro d n h k
    obtain ⟨d', m, rfl, hp, hs, rfl⟩ := cnt_open h
    have e : ∀ (l : List J) (m : Nat), (∀ x ∈ l, x ∈ j.items) → sumO (l.map (cnt d')) = some m → sumO (l.map (cnt (d' + k))) = some m := by
      intro l
      induction l with
      | nil => intro m _ h; exact h
      | cons x l ihl =>
        intro m hx h
        simp only [List.map_cons, sumO] at h ⊢
        cases e1 : cnt d' x with
        | none => rw [e1] at h; simp [addO] at h
        | some a =>
          cases e2 : sumO (l.map (cnt d')) with
          | none => rw [e1, e2] at h; simp [addO] at h
          | some b =>
            rw [ih x (hx x (by simp)) d' a e1 k, ihl b (fun y hy => hx y (by simp [hy])) e2]
            rw [e1, e2] at h
            exact h
    rw [show d' + 1 + k = (d' + k) + 1 by omega]
    unfold cnt
    rw [if_pos hp, e j.items m (fun _ h => h) hs]
    simp [addO]; omega
theorem row_two {V : World} {b : Nat} {ty : TypeId} {v0 v1 v2 v3 v4 v5 v6 v7 v8 v9 : Value} (h : V.heap[b]? = some (.cells #[v0, v1, v2, v3, v4, v5, v6, v7, v8, v9] ty)) : V.rangeAt b 0 [v0, v1, v2, v3, v4] ∧ V.rangeAt b 5 [v5, v6, v7, v8, v9] := by
  refine ⟨fun j v hv => ?_, fun j v hv => ?_⟩
  · have hj : j < 5 := (List.getElem?_eq_some_iff.1 hv).1
    rcases (by omega : j = 0 ∨ j = 1 ∨ j = 2 ∨ j = 3 ∨ j = 4) with rfl | rfl | rfl | rfl | rfl
    · exact cell_at (o := 0) h hv
    · exact cell_at (o := 1) h hv
    · exact cell_at (o := 2) h hv
    · exact cell_at (o := 3) h hv
    · exact cell_at (o := 4) h hv
  · have hj : j < 5 := (List.getElem?_eq_some_iff.1 hv).1
    rcases (by omega : j = 0 ∨ j = 1 ∨ j = 2 ∨ j = 3 ∨ j = 4) with rfl | rfl | rfl | rfl | rfl
    · exact cell_at (o := 5) h hv
    · exact cell_at (o := 6) h hv
    · exact cell_at (o := 7) h hv
    · exact cell_at (o := 8) h hv
    · exact cell_at (o := 9) h hv
def objF (x y : J) : J := ⟨5, 0, [], [[102, 105, 114, 115, 116], [115, 101, 99, 111, 110, 100]], [x, y]⟩
theorem objF_cnt {x y : J} {n1 n2 : Nat} (h1 : cnt 4 x = some n1) (h2 : cnt 4 y = some n2) : cnt 12 (objF x y) = some (1 + (n1 + n2)) := by
  have e1 := cnt_up x 4 n1 h1 7
  have e2 := cnt_up y 4 n2 h2 7
  unfold cnt
  rw [if_pos (show partB (objF x y) = true from by rw [part5 rfl]; rfl)]
  show addO (some 1) (addO (cnt 11 x) (addO (cnt 11 y) (some 0))) = _
  rw [e1, e2]; rfl
theorem ok_of {j : J} {n : Nat} (h : cnt 12 j = some n) (hn : n ≤ 400) : okB j = true := by
  unfold okB
  rw [h]
  exact decide_eq_true (by show (0 : Int) ≤ if (n : Int) ≤ 400 then 400 - (n : Int) else -1; rw [if_pos (by omega)]; omega)
theorem fieldA_at {x y : J} (h : okB (objF x y) = true) : fieldA (objF x y) [102, 105, 114, 115, 116] false = (x, 0) ∧ fieldA (objF x y) [115, 101, 99, 111, 110, 100] false = (y, 0) ∧ fieldA (objF x y) [116, 104, 105, 114, 100] false = (dflt, 5) := by
  have hp : ∀ name, fieldA (objF x y) name false = match placeOf (objF x y).keys name with
    | some i => ((objF x y).items.getD i dflt, 0)
    | none => (dflt, 5) := fun name => by
    unfold fieldA
    rw [if_neg (by simp), if_neg (by simp [h]), if_neg (by show ¬ (5 : Int) ≠ 5; simp)]
    cases placeOf (objF x y).keys name <;> rfl
  refine ⟨?_, ?_, ?_⟩
  · rw [hp, show placeOf (objF x y).keys [102, 105, 114, 115, 116] = some 0 from by show placeOf [[102, 105, 114, 115, 116], [115, 101, 99, 111, 110, 100]] _ = _; decide]; rfl
  · rw [hp, show placeOf (objF x y).keys [115, 101, 99, 111, 110, 100] = some 1 from by show placeOf [[102, 105, 114, 115, 116], [115, 101, 99, 111, 110, 100]] _ = _; decide]; rfl
  · rw [hp, show placeOf (objF x y).keys [116, 104, 105, 114, 100] = none from by show placeOf [[102, 105, 114, 115, 116], [115, 101, 99, 111, 110, 100]] _ = _; decide]
theorem fieldA_list : fieldA ⟨4, 0, [], [], []⟩ [102, 105, 114, 115, 116] false = (dflt, 9) := by
  unfold fieldA
  rw [if_neg (by simp), if_neg (by decide), if_pos (by show (4 : Int) ≠ 5; omega)]
theorem FieldAns.rj {j : J} {name : List UInt8} {w w' : World} {e : Ending} (h : FieldAns j name false w e w') : ∃ ka kc ia ic, e = .returned (.tuple #[.agg #[.int .i64 (fieldA j name false).1.k, .int .i64 (fieldA j name false).1.n, .string ⟨(fieldA j name false).1.t.toArray⟩, .slice ka (fieldA j name false).1.keys.length kc, .slice ia (fieldA j name false).1.items.length ic], .int .i64 (fieldA j name false).2]) ∧
    RJ w' (· < w'.heap.size) (fieldA j name false).1 [.int .i64 (fieldA j name false).1.k, .int .i64 (fieldA j name false).1.n, .string ⟨(fieldA j name false).1.t.toArray⟩, .slice ka (fieldA j name false).1.keys.length kc, .slice ia (fieldA j name false).1.items.length ic] ∧ Below w.heap.size w w' := by
  obtain ⟨cs, he, ho, hB⟩ := h
  have hr := RJ.same (fun _ _ => rfl) (fun _ hb => hb.2) _ _ (OwnJ.rj _ _ _ ho)
  have hr' := hr
  rw [RJ_eq] at hr
  obtain ⟨ka, kc, ia, ic, rfl, -⟩ := hr
  exact ⟨ka, kc, ia, ic, he, hr', hB⟩
set_option maxRecDepth 100000 in
set_option maxHeartbeats 12800000 in
theorem lawFnFields (l1 l2 : List UInt8) (pa pb : Option Addr) (ca cb : Nat) (w : World) (h1 : Byts w (· < w.heap.size) pa l1) (h2 : Byts w (· < w.heap.size) pb l2) :
    Calls Try.prog 3 #[.slice pa l1.length ca, .slice pb l2.length cb] w fun e w' => e = .returned (.bool true) ∧ Below w.heap.size w w' := by
  by_cases g1 : 1048576 < l1.length
  case pos =>
    have d1a : decide (1048576 < (l1.length : Int)) = true := decide_eq_true (by omega)
    have d1b : decide (1048576 < l1.length) = true := decide_eq_true g1
    go_enter Try.func3, Try.ntmps3
    go_wp2_with fail
    go_ret
    exact ⟨rfl, Below.refl _ _⟩
  have d1a : decide (1048576 < (l1.length : Int)) = false := decide_eq_false (by omega)
  have d1b : decide (1048576 < l1.length) = false := decide_eq_false g1
  by_cases g2 : 1048576 < l2.length
  case pos =>
    have d2a : decide (1048576 < (l2.length : Int)) = true := decide_eq_true (by omega)
    have d2b : decide (1048576 < l2.length) = true := decide_eq_true g2
    go_enter Try.func3, Try.ntmps3
    go_wp2_with fail
    go_ret
    exact ⟨rfl, Below.refl _ _⟩
  have d2a : decide (1048576 < (l2.length : Int)) = false := decide_eq_false (by omega)
  have d2b : decide (1048576 < l2.length) = false := decide_eq_false g2
  have DA : Hid (∀ W, Below w.heap.size w W → Calls Try.prog 4 #[.slice pa l1.length ca] W (DrawnV W)) := fun W h => jsonDrawnS l1 pa ca w.heap.size W h.size (h1.upM h)
  have DB : Hid (∀ W, Below w.heap.size w W → Calls Try.prog 4 #[.slice pb l2.length cb] W (DrawnV W)) := fun W h => jsonDrawnS l2 pb cb w.heap.size W h.size (h2.upM h)
  clear h1 h2 g1 g2
  go_enter Try.func3, Try.ntmps3
  have M0 : Hid (Below w.heap.size w w) := Below.refl _ _
  go_wp2_with fail
  refine (DA.out _ (M0.out)).mono ?_
  rintro e w1 ⟨x, xka, xkc, xia, xic, n1, rfl, hc1, hn1, hr1, hB⟩
  have M1 : Hid (Below w.heap.size w w1 ∧ RJ w1 (· < w1.heap.size) x [.int .i64 x.k, .int .i64 x.n, .string ⟨x.t.toArray⟩, .slice xka x.keys.length xkc, .slice xia x.items.length xic]) := ⟨M0.out.trans (hB.mono M0.out.size), hr1⟩
  clear  M0 hB hr1 DA
  have M2 : Hid (Below w.heap.size w (w1.alloc (.cells #[.int .i64 x.k, .int .i64 x.n, .string ⟨x.t.toArray⟩, .slice xka x.keys.length xkc, .slice xia x.items.length xic] 26)) ∧ RJ (w1.alloc (.cells #[.int .i64 x.k, .int .i64 x.n, .string ⟨x.t.toArray⟩, .slice xka x.keys.length xkc, .slice xia x.items.length xic] 26)) (· < (w1.alloc (.cells #[.int .i64 x.k, .int .i64 x.n, .string ⟨x.t.toArray⟩, .slice xka x.keys.length xkc, .slice xia x.items.length xic] 26)).heap.size) x [.int .i64 x.k, .int .i64 x.n, .string ⟨x.t.toArray⟩, .slice xka x.keys.length xkc, .slice xia x.items.length xic] ∧ (w1.alloc (.cells #[.int .i64 x.k, .int .i64 x.n, .string ⟨x.t.toArray⟩, .slice xka x.keys.length xkc, .slice xia x.items.length xic] 26)).heap[w1.heap.size]? = some (.cells #[.int .i64 x.k, .int .i64 x.n, .string ⟨x.t.toArray⟩, .slice xka x.keys.length xkc, .slice xia x.items.length xic] 26)) := ⟨M1.out.1.trans ((below_allocD w1 (.cells #[.int .i64 x.k, .int .i64 x.n, .string ⟨x.t.toArray⟩, .slice xka x.keys.length xkc, .slice xia x.items.length xic] 26)).mono M1.out.1.size), M1.out.2.up (below_allocD w1 (.cells #[.int .i64 x.k, .int .i64 x.n, .string ⟨x.t.toArray⟩, .slice xka x.keys.length xkc, .slice xia x.items.length xic] 26)), heap_newD _ _⟩
  clear  M1 
  have c_x_0 := cell_at (o := 0) M2.out.2.2 rfl
  have c_x_1 := cell_at (o := 1) M2.out.2.2 rfl
  have c_x_2 := cell_at (o := 2) M2.out.2.2 rfl
  have c_x_3 := cell_at (o := 3) M2.out.2.2 rfl
  have c_x_4 := cell_at (o := 4) M2.out.2.2 rfl
  go_wp2_with fail
  refine (DB.out _ (M2.out.1)).mono ?_
  rintro e w2 ⟨y, yka, ykc, yia, yic, n2, rfl, hc2, hn2, hr2, hB⟩
  have M3 : Hid (Below w.heap.size w w2 ∧ RJ w2 (· < w2.heap.size) x [.int .i64 x.k, .int .i64 x.n, .string ⟨x.t.toArray⟩, .slice xka x.keys.length xkc, .slice xia x.items.length xic] ∧ w2.heap[w1.heap.size]? = some (.cells #[.int .i64 x.k, .int .i64 x.n, .string ⟨x.t.toArray⟩, .slice xka x.keys.length xkc, .slice xia x.items.length xic] 26) ∧ RJ w2 (· < w2.heap.size) y [.int .i64 y.k, .int .i64 y.n, .string ⟨y.t.toArray⟩, .slice yka y.keys.length ykc, .slice yia y.items.length yic]) := ⟨M2.out.1.trans (hB.mono M2.out.1.size), M2.out.2.1.up hB, heap_keptD M2.out.2.2 hB, hr2⟩
  clear c_x_0 c_x_1 c_x_2 c_x_3 c_x_4 M2 hB hr2 DB
  have c_x_0 := cell_at (o := 0) M3.out.2.2.1 rfl
  have c_x_1 := cell_at (o := 1) M3.out.2.2.1 rfl
  have c_x_2 := cell_at (o := 2) M3.out.2.2.1 rfl
  have c_x_3 := cell_at (o := 3) M3.out.2.2.1 rfl
  have c_x_4 := cell_at (o := 4) M3.out.2.2.1 rfl
  have M4 : Hid (Below w.heap.size w (w2.alloc (.cells #[.int .i64 y.k, .int .i64 y.n, .string ⟨y.t.toArray⟩, .slice yka y.keys.length ykc, .slice yia y.items.length yic] 26)) ∧ RJ (w2.alloc (.cells #[.int .i64 y.k, .int .i64 y.n, .string ⟨y.t.toArray⟩, .slice yka y.keys.length ykc, .slice yia y.items.length yic] 26)) (· < (w2.alloc (.cells #[.int .i64 y.k, .int .i64 y.n, .string ⟨y.t.toArray⟩, .slice yka y.keys.length ykc, .slice yia y.items.length yic] 26)).heap.size) x [.int .i64 x.k, .int .i64 x.n, .string ⟨x.t.toArray⟩, .slice xka x.keys.length xkc, .slice xia x.items.length xic] ∧ (w2.alloc (.cells #[.int .i64 y.k, .int .i64 y.n, .string ⟨y.t.toArray⟩, .slice yka y.keys.length ykc, .slice yia y.items.length yic] 26)).heap[w1.heap.size]? = some (.cells #[.int .i64 x.k, .int .i64 x.n, .string ⟨x.t.toArray⟩, .slice xka x.keys.length xkc, .slice xia x.items.length xic] 26) ∧ RJ (w2.alloc (.cells #[.int .i64 y.k, .int .i64 y.n, .string ⟨y.t.toArray⟩, .slice yka y.keys.length ykc, .slice yia y.items.length yic] 26)) (· < (w2.alloc (.cells #[.int .i64 y.k, .int .i64 y.n, .string ⟨y.t.toArray⟩, .slice yka y.keys.length ykc, .slice yia y.items.length yic] 26)).heap.size) y [.int .i64 y.k, .int .i64 y.n, .string ⟨y.t.toArray⟩, .slice yka y.keys.length ykc, .slice yia y.items.length yic] ∧ (w2.alloc (.cells #[.int .i64 y.k, .int .i64 y.n, .string ⟨y.t.toArray⟩, .slice yka y.keys.length ykc, .slice yia y.items.length yic] 26)).heap[w2.heap.size]? = some (.cells #[.int .i64 y.k, .int .i64 y.n, .string ⟨y.t.toArray⟩, .slice yka y.keys.length ykc, .slice yia y.items.length yic] 26)) := ⟨M3.out.1.trans ((below_allocD w2 (.cells #[.int .i64 y.k, .int .i64 y.n, .string ⟨y.t.toArray⟩, .slice yka y.keys.length ykc, .slice yia y.items.length yic] 26)).mono M3.out.1.size), M3.out.2.1.up (below_allocD w2 (.cells #[.int .i64 y.k, .int .i64 y.n, .string ⟨y.t.toArray⟩, .slice yka y.keys.length ykc, .slice yia y.items.length yic] 26)), heap_keptD M3.out.2.2.1 (below_allocD w2 (.cells #[.int .i64 y.k, .int .i64 y.n, .string ⟨y.t.toArray⟩, .slice yka y.keys.length ykc, .slice yia y.items.length yic] 26)), M3.out.2.2.2.up (below_allocD w2 (.cells #[.int .i64 y.k, .int .i64 y.n, .string ⟨y.t.toArray⟩, .slice yka y.keys.length ykc, .slice yia y.items.length yic] 26)), heap_newD _ _⟩
  clear c_x_0 c_x_1 c_x_2 c_x_3 c_x_4 M3 
  have c_x_0 := cell_at (o := 0) M4.out.2.2.1 rfl
  have c_x_1 := cell_at (o := 1) M4.out.2.2.1 rfl
  have c_x_2 := cell_at (o := 2) M4.out.2.2.1 rfl
  have c_x_3 := cell_at (o := 3) M4.out.2.2.1 rfl
  have c_x_4 := cell_at (o := 4) M4.out.2.2.1 rfl
  have c_y_0 := cell_at (o := 0) M4.out.2.2.2.2 rfl
  have c_y_1 := cell_at (o := 1) M4.out.2.2.2.2 rfl
  have c_y_2 := cell_at (o := 2) M4.out.2.2.2.2 rfl
  have c_y_3 := cell_at (o := 3) M4.out.2.2.2.2 rfl
  have c_y_4 := cell_at (o := 4) M4.out.2.2.2.2 rfl
  have hok := ok_of (objF_cnt hc1 hc2) (by omega)
  have hA := fieldA_at hok
  have hsz : (objF x y).sz ≤ 1048576 := by have := cnt_sz _ _ _ (objF_cnt hc1 hc2); omega
  have hsx : x.sz ≤ 1048576 := by have := cnt_sz _ _ _ hc1; omega
  have hsy : y.sz ≤ 1048576 := by have := cnt_sz _ _ _ hc2; omega
  have hox := ok_of (cnt_up x 4 n1 hc1 8) (by omega)
  have hoy := ok_of (cnt_up y 4 n2 hc2 8) (by omega)
  have FX : Hid (∀ W, RJ W (· < W.heap.size) (objF x y) [.int .i64 5, .int .i64 0, .string ⟨#[]⟩, .slice (some ⟨w2.heap.size + 1, 0, none⟩) 2 2, .slice (some ⟨w2.heap.size + 1 + 1, 0, none⟩) 2 2] → Calls Try.prog 5 #[.agg #[.int .i64 5, .int .i64 0, .string ⟨#[]⟩, .slice (some ⟨w2.heap.size + 1, 0, none⟩) 2 2, .slice (some ⟨w2.heap.size + 1 + 1, 0, none⟩) 2 2], .string ⟨#[102, 105, 114, 115, 116]⟩] W fun e w' => ∃ xaka xakc xaia xaic, e = .returned (.tuple #[.agg #[.int .i64 x.k, .int .i64 x.n, .string ⟨x.t.toArray⟩, .slice xaka x.keys.length xakc, .slice xaia x.items.length xaic], .int .i64 0]) ∧ RJ w' (· < w'.heap.size) x [.int .i64 x.k, .int .i64 x.n, .string ⟨x.t.toArray⟩, .slice xaka x.keys.length xakc, .slice xaia x.items.length xaic] ∧ Below W.heap.size W w') := fun W h => (fieldI (objF x y) _ ⟨#[102, 105, 114, 115, 116]⟩ _ W hsz (by show 5 ≤ maxLen; unfold maxLen; omega) h).mono (fun _ _ hh => by rw [ByteArray.toList_eq, show decide (65536 < ByteArray.size ⟨#[102, 105, 114, 115, 116]⟩) = false from by decide] at hh; have h9 := FieldAns.rj (name := [102, 105, 114, 115, 116]) hh; rw [hA.1] at h9; exact h9)
  have FY : Hid (∀ W, RJ W (· < W.heap.size) (objF x y) [.int .i64 5, .int .i64 0, .string ⟨#[]⟩, .slice (some ⟨w2.heap.size + 1, 0, none⟩) 2 2, .slice (some ⟨w2.heap.size + 1 + 1, 0, none⟩) 2 2] → Calls Try.prog 5 #[.agg #[.int .i64 5, .int .i64 0, .string ⟨#[]⟩, .slice (some ⟨w2.heap.size + 1, 0, none⟩) 2 2, .slice (some ⟨w2.heap.size + 1 + 1, 0, none⟩) 2 2], .string ⟨#[115, 101, 99, 111, 110, 100]⟩] W fun e w' => ∃ yaka yakc yaia yaic, e = .returned (.tuple #[.agg #[.int .i64 y.k, .int .i64 y.n, .string ⟨y.t.toArray⟩, .slice yaka y.keys.length yakc, .slice yaia y.items.length yaic], .int .i64 0]) ∧ RJ w' (· < w'.heap.size) y [.int .i64 y.k, .int .i64 y.n, .string ⟨y.t.toArray⟩, .slice yaka y.keys.length yakc, .slice yaia y.items.length yaic] ∧ Below W.heap.size W w') := fun W h => (fieldI (objF x y) _ ⟨#[115, 101, 99, 111, 110, 100]⟩ _ W hsz (by show 6 ≤ maxLen; unfold maxLen; omega) h).mono (fun _ _ hh => by rw [ByteArray.toList_eq, show decide (65536 < ByteArray.size ⟨#[115, 101, 99, 111, 110, 100]⟩) = false from by decide] at hh; have h9 := FieldAns.rj (name := [115, 101, 99, 111, 110, 100]) hh; rw [hA.2.1] at h9; exact h9)
  have FN : Hid (∀ W, RJ W (· < W.heap.size) (objF x y) [.int .i64 5, .int .i64 0, .string ⟨#[]⟩, .slice (some ⟨w2.heap.size + 1, 0, none⟩) 2 2, .slice (some ⟨w2.heap.size + 1 + 1, 0, none⟩) 2 2] → Calls Try.prog 5 #[.agg #[.int .i64 5, .int .i64 0, .string ⟨#[]⟩, .slice (some ⟨w2.heap.size + 1, 0, none⟩) 2 2, .slice (some ⟨w2.heap.size + 1 + 1, 0, none⟩) 2 2], .string ⟨#[116, 104, 105, 114, 100]⟩] W fun e w' => ∃ ka kc ia ic, e = .returned (.tuple #[.agg #[.int .i64 0, .int .i64 0, .string ⟨#[]⟩, .slice ka 0 kc, .slice ia 0 ic], .int .i64 5]) ∧ Below W.heap.size W w') := fun W h => (fieldI (objF x y) _ ⟨#[116, 104, 105, 114, 100]⟩ _ W hsz (by show 5 ≤ maxLen; unfold maxLen; omega) h).mono (fun _ _ hh => by rw [ByteArray.toList_eq, show decide (65536 < ByteArray.size ⟨#[116, 104, 105, 114, 100]⟩) = false from by decide] at hh; obtain ⟨ka, kc, ia, ic, h8, -, h9⟩ := FieldAns.rj (name := [116, 104, 105, 114, 100]) hh; rw [hA.2.2] at h8; exact ⟨ka, kc, ia, ic, h8, h9⟩)
  have FT : Hid (∀ W, RJ W (· < W.heap.size) ⟨4, 0, [], [], []⟩ [.int .i64 4, .int .i64 0, .string ⟨#[]⟩, .slice none 0 0, .slice none 0 0] → Calls Try.prog 5 #[.agg #[.int .i64 4, .int .i64 0, .string ⟨#[]⟩, .slice none 0 0, .slice none 0 0], .string ⟨#[102, 105, 114, 115, 116]⟩] W fun e w' => ∃ ka kc ia ic, e = .returned (.tuple #[.agg #[.int .i64 0, .int .i64 0, .string ⟨#[]⟩, .slice ka 0 kc, .slice ia 0 ic], .int .i64 9]) ∧ Below W.heap.size W w') := fun W h => (fieldI ⟨4, 0, [], [], []⟩ _ ⟨#[102, 105, 114, 115, 116]⟩ _ W (by rw [J.sz_eq]; simp [szK]) (by show 5 ≤ maxLen; unfold maxLen; omega) h).mono (fun _ _ hh => by rw [ByteArray.toList_eq, show decide (65536 < ByteArray.size ⟨#[102, 105, 114, 115, 116]⟩) = false from by decide] at hh; obtain ⟨ka, kc, ia, ic, h8, -, h9⟩ := FieldAns.rj (name := [102, 105, 114, 115, 116]) hh; rw [fieldA_list] at h8; exact ⟨ka, kc, ia, ic, h8, h9⟩)
  have SI : Hid (∀ W, RJ W (· < W.heap.size) x [.int .i64 x.k, .int .i64 x.n, .string ⟨x.t.toArray⟩, .slice xka x.keys.length xkc, .slice xia x.items.length xic] → RJ W (· < W.heap.size) y [.int .i64 y.k, .int .i64 y.n, .string ⟨y.t.toArray⟩, .slice yka y.keys.length ykc, .slice yia y.items.length yic] → Calls Try.prog 7 #[.agg #[.int .i64 x.k, .int .i64 x.n, .string ⟨x.t.toArray⟩, .slice xka x.keys.length xkc, .slice xia x.items.length xic], .agg #[.int .i64 y.k, .int .i64 y.n, .string ⟨y.t.toArray⟩, .slice yka y.keys.length ykc, .slice yia y.items.length yic]] W fun e w' => e = .returned (.bool (sameB x y)) ∧ Below W.heap.size W w') := fun W h h' => by have h9 := sameI x y _ _ _ _ W h h' hsx hsy; rw [show sameA x y = sameB x y from by unfold sameA; rw [hox, hoy]; rfl] at h9; exact h9
  have hB3 : Below (w2.alloc (.cells #[.int .i64 y.k, .int .i64 y.n, .string ⟨y.t.toArray⟩, .slice yka y.keys.length ykc, .slice yia y.items.length yic] 26)).heap.size (w2.alloc (.cells #[.int .i64 y.k, .int .i64 y.n, .string ⟨y.t.toArray⟩, .slice yka y.keys.length ykc, .slice yia y.items.length yic] 26)) ((((w2.alloc (.cells #[.int .i64 y.k, .int .i64 y.n, .string ⟨y.t.toArray⟩, .slice yka y.keys.length ykc, .slice yia y.items.length yic] 26)).alloc (.cells #[.string ⟨#[102, 105, 114, 115, 116]⟩, .string ⟨#[115, 101, 99, 111, 110, 100]⟩] 9)).alloc (.cells #[.int .i64 x.k, .int .i64 x.n, .string ⟨x.t.toArray⟩, .slice xka x.keys.length xkc, .slice xia x.items.length xic, .int .i64 y.k, .int .i64 y.n, .string ⟨y.t.toArray⟩, .slice yka y.keys.length ykc, .slice yia y.items.length yic] 26)).alloc (.cells #[.int .i64 5, .int .i64 0, .string ⟨#[]⟩, .slice (some ⟨w2.heap.size + 1, 0, none⟩) 2 2, .slice (some ⟨w2.heap.size + 1 + 1, 0, none⟩) 2 2] 26)) := ((below_allocD _ _).alloc (below_allocD _ _).size _).alloc ((below_allocD _ _).alloc (below_allocD _ _).size _).size _
  have hk3 : ((((w2.alloc (.cells #[.int .i64 y.k, .int .i64 y.n, .string ⟨y.t.toArray⟩, .slice yka y.keys.length ykc, .slice yia y.items.length yic] 26)).alloc (.cells #[.string ⟨#[102, 105, 114, 115, 116]⟩, .string ⟨#[115, 101, 99, 111, 110, 100]⟩] 9)).alloc (.cells #[.int .i64 x.k, .int .i64 x.n, .string ⟨x.t.toArray⟩, .slice xka x.keys.length xkc, .slice xia x.items.length xic, .int .i64 y.k, .int .i64 y.n, .string ⟨y.t.toArray⟩, .slice yka y.keys.length ykc, .slice yia y.items.length yic] 26)).alloc (.cells #[.int .i64 5, .int .i64 0, .string ⟨#[]⟩, .slice (some ⟨w2.heap.size + 1, 0, none⟩) 2 2, .slice (some ⟨w2.heap.size + 1 + 1, 0, none⟩) 2 2] 26)).heap[w2.heap.size + 1]? = some (.cells #[.string ⟨#[102, 105, 114, 115, 116]⟩, .string ⟨#[115, 101, 99, 111, 110, 100]⟩] 9) := by have h := heap_keptD (heap_keptD (heap_newD (w2.alloc (.cells #[.int .i64 y.k, .int .i64 y.n, .string ⟨y.t.toArray⟩, .slice yka y.keys.length ykc, .slice yia y.items.length yic] 26)) (.cells #[.string ⟨#[102, 105, 114, 115, 116]⟩, .string ⟨#[115, 101, 99, 111, 110, 100]⟩] 9)) (below_allocD _ (.cells #[.int .i64 x.k, .int .i64 x.n, .string ⟨x.t.toArray⟩, .slice xka x.keys.length xkc, .slice xia x.items.length xic, .int .i64 y.k, .int .i64 y.n, .string ⟨y.t.toArray⟩, .slice yka y.keys.length ykc, .slice yia y.items.length yic] 26))) (below_allocD _ (.cells #[.int .i64 5, .int .i64 0, .string ⟨#[]⟩, .slice (some ⟨w2.heap.size + 1, 0, none⟩) 2 2, .slice (some ⟨w2.heap.size + 1 + 1, 0, none⟩) 2 2] 26)); rw [size_allocD] at h; exact h
  have hi3 : ((((w2.alloc (.cells #[.int .i64 y.k, .int .i64 y.n, .string ⟨y.t.toArray⟩, .slice yka y.keys.length ykc, .slice yia y.items.length yic] 26)).alloc (.cells #[.string ⟨#[102, 105, 114, 115, 116]⟩, .string ⟨#[115, 101, 99, 111, 110, 100]⟩] 9)).alloc (.cells #[.int .i64 x.k, .int .i64 x.n, .string ⟨x.t.toArray⟩, .slice xka x.keys.length xkc, .slice xia x.items.length xic, .int .i64 y.k, .int .i64 y.n, .string ⟨y.t.toArray⟩, .slice yka y.keys.length ykc, .slice yia y.items.length yic] 26)).alloc (.cells #[.int .i64 5, .int .i64 0, .string ⟨#[]⟩, .slice (some ⟨w2.heap.size + 1, 0, none⟩) 2 2, .slice (some ⟨w2.heap.size + 1 + 1, 0, none⟩) 2 2] 26)).heap[w2.heap.size + 1 + 1]? = some (.cells #[.int .i64 x.k, .int .i64 x.n, .string ⟨x.t.toArray⟩, .slice xka x.keys.length xkc, .slice xia x.items.length xic, .int .i64 y.k, .int .i64 y.n, .string ⟨y.t.toArray⟩, .slice yka y.keys.length ykc, .slice yia y.items.length yic] 26) := by have h := heap_keptD (heap_newD ((w2.alloc (.cells #[.int .i64 y.k, .int .i64 y.n, .string ⟨y.t.toArray⟩, .slice yka y.keys.length ykc, .slice yia y.items.length yic] 26)).alloc (.cells #[.string ⟨#[102, 105, 114, 115, 116]⟩, .string ⟨#[115, 101, 99, 111, 110, 100]⟩] 9)) (.cells #[.int .i64 x.k, .int .i64 x.n, .string ⟨x.t.toArray⟩, .slice xka x.keys.length xkc, .slice xia x.items.length xic, .int .i64 y.k, .int .i64 y.n, .string ⟨y.t.toArray⟩, .slice yka y.keys.length ykc, .slice yia y.items.length yic] 26)) (below_allocD _ (.cells #[.int .i64 5, .int .i64 0, .string ⟨#[]⟩, .slice (some ⟨w2.heap.size + 1, 0, none⟩) 2 2, .slice (some ⟨w2.heap.size + 1 + 1, 0, none⟩) 2 2] 26)); rw [size_allocD, size_allocD] at h; exact h
  have hj3 : ((((w2.alloc (.cells #[.int .i64 y.k, .int .i64 y.n, .string ⟨y.t.toArray⟩, .slice yka y.keys.length ykc, .slice yia y.items.length yic] 26)).alloc (.cells #[.string ⟨#[102, 105, 114, 115, 116]⟩, .string ⟨#[115, 101, 99, 111, 110, 100]⟩] 9)).alloc (.cells #[.int .i64 x.k, .int .i64 x.n, .string ⟨x.t.toArray⟩, .slice xka x.keys.length xkc, .slice xia x.items.length xic, .int .i64 y.k, .int .i64 y.n, .string ⟨y.t.toArray⟩, .slice yka y.keys.length ykc, .slice yia y.items.length yic] 26)).alloc (.cells #[.int .i64 5, .int .i64 0, .string ⟨#[]⟩, .slice (some ⟨w2.heap.size + 1, 0, none⟩) 2 2, .slice (some ⟨w2.heap.size + 1 + 1, 0, none⟩) 2 2] 26)).heap[w2.heap.size + 1 + 1 + 1]? = some (.cells #[.int .i64 5, .int .i64 0, .string ⟨#[]⟩, .slice (some ⟨w2.heap.size + 1, 0, none⟩) 2 2, .slice (some ⟨w2.heap.size + 1 + 1, 0, none⟩) 2 2] 26) := by have h := heap_newD (((w2.alloc (.cells #[.int .i64 y.k, .int .i64 y.n, .string ⟨y.t.toArray⟩, .slice yka y.keys.length ykc, .slice yia y.items.length yic] 26)).alloc (.cells #[.string ⟨#[102, 105, 114, 115, 116]⟩, .string ⟨#[115, 101, 99, 111, 110, 100]⟩] 9)).alloc (.cells #[.int .i64 x.k, .int .i64 x.n, .string ⟨x.t.toArray⟩, .slice xka x.keys.length xkc, .slice xia x.items.length xic, .int .i64 y.k, .int .i64 y.n, .string ⟨y.t.toArray⟩, .slice yka y.keys.length ykc, .slice yia y.items.length yic] 26)) (.cells #[.int .i64 5, .int .i64 0, .string ⟨#[]⟩, .slice (some ⟨w2.heap.size + 1, 0, none⟩) 2 2, .slice (some ⟨w2.heap.size + 1 + 1, 0, none⟩) 2 2] 26); rw [size_allocD, size_allocD, size_allocD] at h; exact h
  have hr3 : RJ ((((w2.alloc (.cells #[.int .i64 y.k, .int .i64 y.n, .string ⟨y.t.toArray⟩, .slice yka y.keys.length ykc, .slice yia y.items.length yic] 26)).alloc (.cells #[.string ⟨#[102, 105, 114, 115, 116]⟩, .string ⟨#[115, 101, 99, 111, 110, 100]⟩] 9)).alloc (.cells #[.int .i64 x.k, .int .i64 x.n, .string ⟨x.t.toArray⟩, .slice xka x.keys.length xkc, .slice xia x.items.length xic, .int .i64 y.k, .int .i64 y.n, .string ⟨y.t.toArray⟩, .slice yka y.keys.length ykc, .slice yia y.items.length yic] 26)).alloc (.cells #[.int .i64 5, .int .i64 0, .string ⟨#[]⟩, .slice (some ⟨w2.heap.size + 1, 0, none⟩) 2 2, .slice (some ⟨w2.heap.size + 1 + 1, 0, none⟩) 2 2] 26)) (· < ((((w2.alloc (.cells #[.int .i64 y.k, .int .i64 y.n, .string ⟨y.t.toArray⟩, .slice yka y.keys.length ykc, .slice yia y.items.length yic] 26)).alloc (.cells #[.string ⟨#[102, 105, 114, 115, 116]⟩, .string ⟨#[115, 101, 99, 111, 110, 100]⟩] 9)).alloc (.cells #[.int .i64 x.k, .int .i64 x.n, .string ⟨x.t.toArray⟩, .slice xka x.keys.length xkc, .slice xia x.items.length xic, .int .i64 y.k, .int .i64 y.n, .string ⟨y.t.toArray⟩, .slice yka y.keys.length ykc, .slice yia y.items.length yic] 26)).alloc (.cells #[.int .i64 5, .int .i64 0, .string ⟨#[]⟩, .slice (some ⟨w2.heap.size + 1, 0, none⟩) 2 2, .slice (some ⟨w2.heap.size + 1 + 1, 0, none⟩) 2 2] 26)).heap.size) (objF x y) [.int .i64 5, .int .i64 0, .string ⟨#[]⟩, .slice (some ⟨w2.heap.size + 1, 0, none⟩) 2 2, .slice (some ⟨w2.heap.size + 1 + 1, 0, none⟩) 2 2] := by
    rw [RJ_eq]
    refine ⟨_, _, _, _, rfl, by show 0 ≤ maxLen; omega, by show 2 ≤ maxLen; unfold maxLen; omega, by show 2 ≤ maxLen; unfold maxLen; omega, ?_, ?_, ?_⟩
    · intro z hz
      have hz : z ∈ [[102, 105, 114, 115, 116], [115, 101, 99, 111, 110, 100]] := hz
      simp only [List.mem_cons, List.not_mem_nil, or_false] at hz
      rcases hz with rfl | rfl
      · show 5 ≤ maxLen; unfold maxLen; omega
      · show 6 ≤ maxLen; unfold maxLen; omega
    · refine .inr ⟨_, 0, rfl, (Array.getElem?_eq_some_iff.1 hk3).1, fun i hi => ?_⟩
      match i, hi with
      | 0, _ => exact cell_at (o := 0) hk3 rfl
      | 1, _ => exact cell_at (o := 1) hk3 rfl
    · refine .inr ⟨_, 0, rfl, (Array.getElem?_eq_some_iff.1 hi3).1, fun i hi => ?_⟩
      match i, hi with
      | 0, _ => exact ⟨[.int .i64 x.k, .int .i64 x.n, .string ⟨x.t.toArray⟩, .slice xka x.keys.length xkc, .slice xia x.items.length xic], (row_two hi3).1, (M4.out.2.1).up hB3⟩
      | 1, _ => exact ⟨[.int .i64 y.k, .int .i64 y.n, .string ⟨y.t.toArray⟩, .slice yka y.keys.length ykc, .slice yia y.items.length yic], (row_two hi3).2, (M4.out.2.2.2.1).up hB3⟩
  have cj0 := cell_at (o := 0) hj3 rfl
  have cj1 := cell_at (o := 1) hj3 rfl
  have cj2 := cell_at (o := 2) hj3 rfl
  have cj3 := cell_at (o := 3) hj3 rfl
  have cj4 := cell_at (o := 4) hj3 rfl
  have ckx0 := cell_at (o := 0) (heap_keptD M4.out.2.2.1 (below_allocD _ (.cells #[.string ⟨#[102, 105, 114, 115, 116]⟩, .string ⟨#[115, 101, 99, 111, 110, 100]⟩] 9))) rfl
  have ckx1 := cell_at (o := 1) (heap_keptD M4.out.2.2.1 (below_allocD _ (.cells #[.string ⟨#[102, 105, 114, 115, 116]⟩, .string ⟨#[115, 101, 99, 111, 110, 100]⟩] 9))) rfl
  have ckx2 := cell_at (o := 2) (heap_keptD M4.out.2.2.1 (below_allocD _ (.cells #[.string ⟨#[102, 105, 114, 115, 116]⟩, .string ⟨#[115, 101, 99, 111, 110, 100]⟩] 9))) rfl
  have ckx3 := cell_at (o := 3) (heap_keptD M4.out.2.2.1 (below_allocD _ (.cells #[.string ⟨#[102, 105, 114, 115, 116]⟩, .string ⟨#[115, 101, 99, 111, 110, 100]⟩] 9))) rfl
  have ckx4 := cell_at (o := 4) (heap_keptD M4.out.2.2.1 (below_allocD _ (.cells #[.string ⟨#[102, 105, 114, 115, 116]⟩, .string ⟨#[115, 101, 99, 111, 110, 100]⟩] 9))) rfl
  have cky0 := cell_at (o := 0) (heap_keptD M4.out.2.2.2.2 (below_allocD _ (.cells #[.string ⟨#[102, 105, 114, 115, 116]⟩, .string ⟨#[115, 101, 99, 111, 110, 100]⟩] 9))) rfl
  have cky1 := cell_at (o := 1) (heap_keptD M4.out.2.2.2.2 (below_allocD _ (.cells #[.string ⟨#[102, 105, 114, 115, 116]⟩, .string ⟨#[115, 101, 99, 111, 110, 100]⟩] 9))) rfl
  have cky2 := cell_at (o := 2) (heap_keptD M4.out.2.2.2.2 (below_allocD _ (.cells #[.string ⟨#[102, 105, 114, 115, 116]⟩, .string ⟨#[115, 101, 99, 111, 110, 100]⟩] 9))) rfl
  have cky3 := cell_at (o := 3) (heap_keptD M4.out.2.2.2.2 (below_allocD _ (.cells #[.string ⟨#[102, 105, 114, 115, 116]⟩, .string ⟨#[115, 101, 99, 111, 110, 100]⟩] 9))) rfl
  have cky4 := cell_at (o := 4) (heap_keptD M4.out.2.2.2.2 (below_allocD _ (.cells #[.string ⟨#[102, 105, 114, 115, 116]⟩, .string ⟨#[115, 101, 99, 111, 110, 100]⟩] 9))) rfl
  go_wp2_with fail
  have M5 : Hid (Below w.heap.size w ((((w2.alloc (.cells #[.int .i64 y.k, .int .i64 y.n, .string ⟨y.t.toArray⟩, .slice yka y.keys.length ykc, .slice yia y.items.length yic] 26)).alloc (.cells #[.string ⟨#[102, 105, 114, 115, 116]⟩, .string ⟨#[115, 101, 99, 111, 110, 100]⟩] 9)).alloc (.cells #[.int .i64 x.k, .int .i64 x.n, .string ⟨x.t.toArray⟩, .slice xka x.keys.length xkc, .slice xia x.items.length xic, .int .i64 y.k, .int .i64 y.n, .string ⟨y.t.toArray⟩, .slice yka y.keys.length ykc, .slice yia y.items.length yic] 26)).alloc (.cells #[.int .i64 5, .int .i64 0, .string ⟨#[]⟩, .slice (some ⟨w2.heap.size + 1, 0, none⟩) 2 2, .slice (some ⟨w2.heap.size + 1 + 1, 0, none⟩) 2 2] 26)) ∧ RJ ((((w2.alloc (.cells #[.int .i64 y.k, .int .i64 y.n, .string ⟨y.t.toArray⟩, .slice yka y.keys.length ykc, .slice yia y.items.length yic] 26)).alloc (.cells #[.string ⟨#[102, 105, 114, 115, 116]⟩, .string ⟨#[115, 101, 99, 111, 110, 100]⟩] 9)).alloc (.cells #[.int .i64 x.k, .int .i64 x.n, .string ⟨x.t.toArray⟩, .slice xka x.keys.length xkc, .slice xia x.items.length xic, .int .i64 y.k, .int .i64 y.n, .string ⟨y.t.toArray⟩, .slice yka y.keys.length ykc, .slice yia y.items.length yic] 26)).alloc (.cells #[.int .i64 5, .int .i64 0, .string ⟨#[]⟩, .slice (some ⟨w2.heap.size + 1, 0, none⟩) 2 2, .slice (some ⟨w2.heap.size + 1 + 1, 0, none⟩) 2 2] 26)) (· < ((((w2.alloc (.cells #[.int .i64 y.k, .int .i64 y.n, .string ⟨y.t.toArray⟩, .slice yka y.keys.length ykc, .slice yia y.items.length yic] 26)).alloc (.cells #[.string ⟨#[102, 105, 114, 115, 116]⟩, .string ⟨#[115, 101, 99, 111, 110, 100]⟩] 9)).alloc (.cells #[.int .i64 x.k, .int .i64 x.n, .string ⟨x.t.toArray⟩, .slice xka x.keys.length xkc, .slice xia x.items.length xic, .int .i64 y.k, .int .i64 y.n, .string ⟨y.t.toArray⟩, .slice yka y.keys.length ykc, .slice yia y.items.length yic] 26)).alloc (.cells #[.int .i64 5, .int .i64 0, .string ⟨#[]⟩, .slice (some ⟨w2.heap.size + 1, 0, none⟩) 2 2, .slice (some ⟨w2.heap.size + 1 + 1, 0, none⟩) 2 2] 26)).heap.size) x [.int .i64 x.k, .int .i64 x.n, .string ⟨x.t.toArray⟩, .slice xka x.keys.length xkc, .slice xia x.items.length xic] ∧ ((((w2.alloc (.cells #[.int .i64 y.k, .int .i64 y.n, .string ⟨y.t.toArray⟩, .slice yka y.keys.length ykc, .slice yia y.items.length yic] 26)).alloc (.cells #[.string ⟨#[102, 105, 114, 115, 116]⟩, .string ⟨#[115, 101, 99, 111, 110, 100]⟩] 9)).alloc (.cells #[.int .i64 x.k, .int .i64 x.n, .string ⟨x.t.toArray⟩, .slice xka x.keys.length xkc, .slice xia x.items.length xic, .int .i64 y.k, .int .i64 y.n, .string ⟨y.t.toArray⟩, .slice yka y.keys.length ykc, .slice yia y.items.length yic] 26)).alloc (.cells #[.int .i64 5, .int .i64 0, .string ⟨#[]⟩, .slice (some ⟨w2.heap.size + 1, 0, none⟩) 2 2, .slice (some ⟨w2.heap.size + 1 + 1, 0, none⟩) 2 2] 26)).heap[w1.heap.size]? = some (.cells #[.int .i64 x.k, .int .i64 x.n, .string ⟨x.t.toArray⟩, .slice xka x.keys.length xkc, .slice xia x.items.length xic] 26) ∧ RJ ((((w2.alloc (.cells #[.int .i64 y.k, .int .i64 y.n, .string ⟨y.t.toArray⟩, .slice yka y.keys.length ykc, .slice yia y.items.length yic] 26)).alloc (.cells #[.string ⟨#[102, 105, 114, 115, 116]⟩, .string ⟨#[115, 101, 99, 111, 110, 100]⟩] 9)).alloc (.cells #[.int .i64 x.k, .int .i64 x.n, .string ⟨x.t.toArray⟩, .slice xka x.keys.length xkc, .slice xia x.items.length xic, .int .i64 y.k, .int .i64 y.n, .string ⟨y.t.toArray⟩, .slice yka y.keys.length ykc, .slice yia y.items.length yic] 26)).alloc (.cells #[.int .i64 5, .int .i64 0, .string ⟨#[]⟩, .slice (some ⟨w2.heap.size + 1, 0, none⟩) 2 2, .slice (some ⟨w2.heap.size + 1 + 1, 0, none⟩) 2 2] 26)) (· < ((((w2.alloc (.cells #[.int .i64 y.k, .int .i64 y.n, .string ⟨y.t.toArray⟩, .slice yka y.keys.length ykc, .slice yia y.items.length yic] 26)).alloc (.cells #[.string ⟨#[102, 105, 114, 115, 116]⟩, .string ⟨#[115, 101, 99, 111, 110, 100]⟩] 9)).alloc (.cells #[.int .i64 x.k, .int .i64 x.n, .string ⟨x.t.toArray⟩, .slice xka x.keys.length xkc, .slice xia x.items.length xic, .int .i64 y.k, .int .i64 y.n, .string ⟨y.t.toArray⟩, .slice yka y.keys.length ykc, .slice yia y.items.length yic] 26)).alloc (.cells #[.int .i64 5, .int .i64 0, .string ⟨#[]⟩, .slice (some ⟨w2.heap.size + 1, 0, none⟩) 2 2, .slice (some ⟨w2.heap.size + 1 + 1, 0, none⟩) 2 2] 26)).heap.size) y [.int .i64 y.k, .int .i64 y.n, .string ⟨y.t.toArray⟩, .slice yka y.keys.length ykc, .slice yia y.items.length yic] ∧ ((((w2.alloc (.cells #[.int .i64 y.k, .int .i64 y.n, .string ⟨y.t.toArray⟩, .slice yka y.keys.length ykc, .slice yia y.items.length yic] 26)).alloc (.cells #[.string ⟨#[102, 105, 114, 115, 116]⟩, .string ⟨#[115, 101, 99, 111, 110, 100]⟩] 9)).alloc (.cells #[.int .i64 x.k, .int .i64 x.n, .string ⟨x.t.toArray⟩, .slice xka x.keys.length xkc, .slice xia x.items.length xic, .int .i64 y.k, .int .i64 y.n, .string ⟨y.t.toArray⟩, .slice yka y.keys.length ykc, .slice yia y.items.length yic] 26)).alloc (.cells #[.int .i64 5, .int .i64 0, .string ⟨#[]⟩, .slice (some ⟨w2.heap.size + 1, 0, none⟩) 2 2, .slice (some ⟨w2.heap.size + 1 + 1, 0, none⟩) 2 2] 26)).heap[w2.heap.size]? = some (.cells #[.int .i64 y.k, .int .i64 y.n, .string ⟨y.t.toArray⟩, .slice yka y.keys.length ykc, .slice yia y.items.length yic] 26) ∧ ((((w2.alloc (.cells #[.int .i64 y.k, .int .i64 y.n, .string ⟨y.t.toArray⟩, .slice yka y.keys.length ykc, .slice yia y.items.length yic] 26)).alloc (.cells #[.string ⟨#[102, 105, 114, 115, 116]⟩, .string ⟨#[115, 101, 99, 111, 110, 100]⟩] 9)).alloc (.cells #[.int .i64 x.k, .int .i64 x.n, .string ⟨x.t.toArray⟩, .slice xka x.keys.length xkc, .slice xia x.items.length xic, .int .i64 y.k, .int .i64 y.n, .string ⟨y.t.toArray⟩, .slice yka y.keys.length ykc, .slice yia y.items.length yic] 26)).alloc (.cells #[.int .i64 5, .int .i64 0, .string ⟨#[]⟩, .slice (some ⟨w2.heap.size + 1, 0, none⟩) 2 2, .slice (some ⟨w2.heap.size + 1 + 1, 0, none⟩) 2 2] 26)).heap[w2.heap.size + 1 + 1 + 1]? = some (.cells #[.int .i64 5, .int .i64 0, .string ⟨#[]⟩, .slice (some ⟨w2.heap.size + 1, 0, none⟩) 2 2, .slice (some ⟨w2.heap.size + 1 + 1, 0, none⟩) 2 2] 26) ∧ RJ ((((w2.alloc (.cells #[.int .i64 y.k, .int .i64 y.n, .string ⟨y.t.toArray⟩, .slice yka y.keys.length ykc, .slice yia y.items.length yic] 26)).alloc (.cells #[.string ⟨#[102, 105, 114, 115, 116]⟩, .string ⟨#[115, 101, 99, 111, 110, 100]⟩] 9)).alloc (.cells #[.int .i64 x.k, .int .i64 x.n, .string ⟨x.t.toArray⟩, .slice xka x.keys.length xkc, .slice xia x.items.length xic, .int .i64 y.k, .int .i64 y.n, .string ⟨y.t.toArray⟩, .slice yka y.keys.length ykc, .slice yia y.items.length yic] 26)).alloc (.cells #[.int .i64 5, .int .i64 0, .string ⟨#[]⟩, .slice (some ⟨w2.heap.size + 1, 0, none⟩) 2 2, .slice (some ⟨w2.heap.size + 1 + 1, 0, none⟩) 2 2] 26)) (· < ((((w2.alloc (.cells #[.int .i64 y.k, .int .i64 y.n, .string ⟨y.t.toArray⟩, .slice yka y.keys.length ykc, .slice yia y.items.length yic] 26)).alloc (.cells #[.string ⟨#[102, 105, 114, 115, 116]⟩, .string ⟨#[115, 101, 99, 111, 110, 100]⟩] 9)).alloc (.cells #[.int .i64 x.k, .int .i64 x.n, .string ⟨x.t.toArray⟩, .slice xka x.keys.length xkc, .slice xia x.items.length xic, .int .i64 y.k, .int .i64 y.n, .string ⟨y.t.toArray⟩, .slice yka y.keys.length ykc, .slice yia y.items.length yic] 26)).alloc (.cells #[.int .i64 5, .int .i64 0, .string ⟨#[]⟩, .slice (some ⟨w2.heap.size + 1, 0, none⟩) 2 2, .slice (some ⟨w2.heap.size + 1 + 1, 0, none⟩) 2 2] 26)).heap.size) (objF x y) [.int .i64 5, .int .i64 0, .string ⟨#[]⟩, .slice (some ⟨w2.heap.size + 1, 0, none⟩) 2 2, .slice (some ⟨w2.heap.size + 1 + 1, 0, none⟩) 2 2]) := ⟨M4.out.1.trans (hB3.mono M4.out.1.size), M4.out.2.1.up hB3, heap_keptD M4.out.2.2.1 hB3, M4.out.2.2.2.1.up hB3, heap_keptD M4.out.2.2.2.2 hB3, hj3, hr3⟩
  clear c_x_0 c_x_1 c_x_2 c_x_3 c_x_4 c_y_0 c_y_1 c_y_2 c_y_3 c_y_4 M4 cj0 cj1 cj2 cj3 cj4 ckx0 ckx1 ckx2 ckx3 ckx4 cky0 cky1 cky2 cky3 cky4 hB3 hk3 hi3 hj3 hr3 hok hA hsz hsx hsy hox hoy hc1 hc2 hn1 hn2
  have c_x_0 := cell_at (o := 0) M5.out.2.2.1 rfl
  have c_x_1 := cell_at (o := 1) M5.out.2.2.1 rfl
  have c_x_2 := cell_at (o := 2) M5.out.2.2.1 rfl
  have c_x_3 := cell_at (o := 3) M5.out.2.2.1 rfl
  have c_x_4 := cell_at (o := 4) M5.out.2.2.1 rfl
  have c_y_0 := cell_at (o := 0) M5.out.2.2.2.2.1 rfl
  have c_y_1 := cell_at (o := 1) M5.out.2.2.2.2.1 rfl
  have c_y_2 := cell_at (o := 2) M5.out.2.2.2.2.1 rfl
  have c_y_3 := cell_at (o := 3) M5.out.2.2.2.2.1 rfl
  have c_y_4 := cell_at (o := 4) M5.out.2.2.2.2.1 rfl
  have c_j_0 := cell_at (o := 0) M5.out.2.2.2.2.2.1 rfl
  have c_j_1 := cell_at (o := 1) M5.out.2.2.2.2.2.1 rfl
  have c_j_2 := cell_at (o := 2) M5.out.2.2.2.2.2.1 rfl
  have c_j_3 := cell_at (o := 3) M5.out.2.2.2.2.2.1 rfl
  have c_j_4 := cell_at (o := 4) M5.out.2.2.2.2.2.1 rfl
  refine (FX.out _ (M5.out.2.2.2.2.2.2)).mono ?_
  rintro e w3 ⟨xaka, xakc, xaia, xaic, rfl, hr, hB⟩
  have M6 : Hid (Below w.heap.size w w3 ∧ RJ w3 (· < w3.heap.size) x [.int .i64 x.k, .int .i64 x.n, .string ⟨x.t.toArray⟩, .slice xka x.keys.length xkc, .slice xia x.items.length xic] ∧ w3.heap[w1.heap.size]? = some (.cells #[.int .i64 x.k, .int .i64 x.n, .string ⟨x.t.toArray⟩, .slice xka x.keys.length xkc, .slice xia x.items.length xic] 26) ∧ RJ w3 (· < w3.heap.size) y [.int .i64 y.k, .int .i64 y.n, .string ⟨y.t.toArray⟩, .slice yka y.keys.length ykc, .slice yia y.items.length yic] ∧ w3.heap[w2.heap.size]? = some (.cells #[.int .i64 y.k, .int .i64 y.n, .string ⟨y.t.toArray⟩, .slice yka y.keys.length ykc, .slice yia y.items.length yic] 26) ∧ w3.heap[w2.heap.size + 1 + 1 + 1]? = some (.cells #[.int .i64 5, .int .i64 0, .string ⟨#[]⟩, .slice (some ⟨w2.heap.size + 1, 0, none⟩) 2 2, .slice (some ⟨w2.heap.size + 1 + 1, 0, none⟩) 2 2] 26) ∧ RJ w3 (· < w3.heap.size) (objF x y) [.int .i64 5, .int .i64 0, .string ⟨#[]⟩, .slice (some ⟨w2.heap.size + 1, 0, none⟩) 2 2, .slice (some ⟨w2.heap.size + 1 + 1, 0, none⟩) 2 2] ∧ RJ w3 (· < w3.heap.size) x [.int .i64 x.k, .int .i64 x.n, .string ⟨x.t.toArray⟩, .slice xaka x.keys.length xakc, .slice xaia x.items.length xaic]) := ⟨M5.out.1.trans (hB.mono M5.out.1.size), M5.out.2.1.up hB, heap_keptD M5.out.2.2.1 hB, M5.out.2.2.2.1.up hB, heap_keptD M5.out.2.2.2.2.1 hB, heap_keptD M5.out.2.2.2.2.2.1 hB, M5.out.2.2.2.2.2.2.up hB, hr⟩
  clear c_x_0 c_x_1 c_x_2 c_x_3 c_x_4 c_y_0 c_y_1 c_y_2 c_y_3 c_y_4 c_j_0 c_j_1 c_j_2 c_j_3 c_j_4 M5 hB hr FX
  have c_x_0 := cell_at (o := 0) M6.out.2.2.1 rfl
  have c_x_1 := cell_at (o := 1) M6.out.2.2.1 rfl
  have c_x_2 := cell_at (o := 2) M6.out.2.2.1 rfl
  have c_x_3 := cell_at (o := 3) M6.out.2.2.1 rfl
  have c_x_4 := cell_at (o := 4) M6.out.2.2.1 rfl
  have c_y_0 := cell_at (o := 0) M6.out.2.2.2.2.1 rfl
  have c_y_1 := cell_at (o := 1) M6.out.2.2.2.2.1 rfl
  have c_y_2 := cell_at (o := 2) M6.out.2.2.2.2.1 rfl
  have c_y_3 := cell_at (o := 3) M6.out.2.2.2.2.1 rfl
  have c_y_4 := cell_at (o := 4) M6.out.2.2.2.2.1 rfl
  have c_j_0 := cell_at (o := 0) M6.out.2.2.2.2.2.1 rfl
  have c_j_1 := cell_at (o := 1) M6.out.2.2.2.2.2.1 rfl
  have c_j_2 := cell_at (o := 2) M6.out.2.2.2.2.2.1 rfl
  have c_j_3 := cell_at (o := 3) M6.out.2.2.2.2.2.1 rfl
  have c_j_4 := cell_at (o := 4) M6.out.2.2.2.2.2.1 rfl
  have M7 : Hid (Below w.heap.size w (w3.alloc (.cells #[.int .i64 x.k, .int .i64 x.n, .string ⟨x.t.toArray⟩, .slice xaka x.keys.length xakc, .slice xaia x.items.length xaic] 26)) ∧ RJ (w3.alloc (.cells #[.int .i64 x.k, .int .i64 x.n, .string ⟨x.t.toArray⟩, .slice xaka x.keys.length xakc, .slice xaia x.items.length xaic] 26)) (· < (w3.alloc (.cells #[.int .i64 x.k, .int .i64 x.n, .string ⟨x.t.toArray⟩, .slice xaka x.keys.length xakc, .slice xaia x.items.length xaic] 26)).heap.size) x [.int .i64 x.k, .int .i64 x.n, .string ⟨x.t.toArray⟩, .slice xka x.keys.length xkc, .slice xia x.items.length xic] ∧ (w3.alloc (.cells #[.int .i64 x.k, .int .i64 x.n, .string ⟨x.t.toArray⟩, .slice xaka x.keys.length xakc, .slice xaia x.items.length xaic] 26)).heap[w1.heap.size]? = some (.cells #[.int .i64 x.k, .int .i64 x.n, .string ⟨x.t.toArray⟩, .slice xka x.keys.length xkc, .slice xia x.items.length xic] 26) ∧ RJ (w3.alloc (.cells #[.int .i64 x.k, .int .i64 x.n, .string ⟨x.t.toArray⟩, .slice xaka x.keys.length xakc, .slice xaia x.items.length xaic] 26)) (· < (w3.alloc (.cells #[.int .i64 x.k, .int .i64 x.n, .string ⟨x.t.toArray⟩, .slice xaka x.keys.length xakc, .slice xaia x.items.length xaic] 26)).heap.size) y [.int .i64 y.k, .int .i64 y.n, .string ⟨y.t.toArray⟩, .slice yka y.keys.length ykc, .slice yia y.items.length yic] ∧ (w3.alloc (.cells #[.int .i64 x.k, .int .i64 x.n, .string ⟨x.t.toArray⟩, .slice xaka x.keys.length xakc, .slice xaia x.items.length xaic] 26)).heap[w2.heap.size]? = some (.cells #[.int .i64 y.k, .int .i64 y.n, .string ⟨y.t.toArray⟩, .slice yka y.keys.length ykc, .slice yia y.items.length yic] 26) ∧ (w3.alloc (.cells #[.int .i64 x.k, .int .i64 x.n, .string ⟨x.t.toArray⟩, .slice xaka x.keys.length xakc, .slice xaia x.items.length xaic] 26)).heap[w2.heap.size + 1 + 1 + 1]? = some (.cells #[.int .i64 5, .int .i64 0, .string ⟨#[]⟩, .slice (some ⟨w2.heap.size + 1, 0, none⟩) 2 2, .slice (some ⟨w2.heap.size + 1 + 1, 0, none⟩) 2 2] 26) ∧ RJ (w3.alloc (.cells #[.int .i64 x.k, .int .i64 x.n, .string ⟨x.t.toArray⟩, .slice xaka x.keys.length xakc, .slice xaia x.items.length xaic] 26)) (· < (w3.alloc (.cells #[.int .i64 x.k, .int .i64 x.n, .string ⟨x.t.toArray⟩, .slice xaka x.keys.length xakc, .slice xaia x.items.length xaic] 26)).heap.size) (objF x y) [.int .i64 5, .int .i64 0, .string ⟨#[]⟩, .slice (some ⟨w2.heap.size + 1, 0, none⟩) 2 2, .slice (some ⟨w2.heap.size + 1 + 1, 0, none⟩) 2 2] ∧ RJ (w3.alloc (.cells #[.int .i64 x.k, .int .i64 x.n, .string ⟨x.t.toArray⟩, .slice xaka x.keys.length xakc, .slice xaia x.items.length xaic] 26)) (· < (w3.alloc (.cells #[.int .i64 x.k, .int .i64 x.n, .string ⟨x.t.toArray⟩, .slice xaka x.keys.length xakc, .slice xaia x.items.length xaic] 26)).heap.size) x [.int .i64 x.k, .int .i64 x.n, .string ⟨x.t.toArray⟩, .slice xaka x.keys.length xakc, .slice xaia x.items.length xaic] ∧ (w3.alloc (.cells #[.int .i64 x.k, .int .i64 x.n, .string ⟨x.t.toArray⟩, .slice xaka x.keys.length xakc, .slice xaia x.items.length xaic] 26)).heap[w3.heap.size]? = some (.cells #[.int .i64 x.k, .int .i64 x.n, .string ⟨x.t.toArray⟩, .slice xaka x.keys.length xakc, .slice xaia x.items.length xaic] 26)) := ⟨M6.out.1.trans ((below_allocD w3 (.cells #[.int .i64 x.k, .int .i64 x.n, .string ⟨x.t.toArray⟩, .slice xaka x.keys.length xakc, .slice xaia x.items.length xaic] 26)).mono M6.out.1.size), M6.out.2.1.up (below_allocD w3 (.cells #[.int .i64 x.k, .int .i64 x.n, .string ⟨x.t.toArray⟩, .slice xaka x.keys.length xakc, .slice xaia x.items.length xaic] 26)), heap_keptD M6.out.2.2.1 (below_allocD w3 (.cells #[.int .i64 x.k, .int .i64 x.n, .string ⟨x.t.toArray⟩, .slice xaka x.keys.length xakc, .slice xaia x.items.length xaic] 26)), M6.out.2.2.2.1.up (below_allocD w3 (.cells #[.int .i64 x.k, .int .i64 x.n, .string ⟨x.t.toArray⟩, .slice xaka x.keys.length xakc, .slice xaia x.items.length xaic] 26)), heap_keptD M6.out.2.2.2.2.1 (below_allocD w3 (.cells #[.int .i64 x.k, .int .i64 x.n, .string ⟨x.t.toArray⟩, .slice xaka x.keys.length xakc, .slice xaia x.items.length xaic] 26)), heap_keptD M6.out.2.2.2.2.2.1 (below_allocD w3 (.cells #[.int .i64 x.k, .int .i64 x.n, .string ⟨x.t.toArray⟩, .slice xaka x.keys.length xakc, .slice xaia x.items.length xaic] 26)), M6.out.2.2.2.2.2.2.1.up (below_allocD w3 (.cells #[.int .i64 x.k, .int .i64 x.n, .string ⟨x.t.toArray⟩, .slice xaka x.keys.length xakc, .slice xaia x.items.length xaic] 26)), M6.out.2.2.2.2.2.2.2.up (below_allocD w3 (.cells #[.int .i64 x.k, .int .i64 x.n, .string ⟨x.t.toArray⟩, .slice xaka x.keys.length xakc, .slice xaia x.items.length xaic] 26)), heap_newD _ _⟩
  clear c_x_0 c_x_1 c_x_2 c_x_3 c_x_4 c_y_0 c_y_1 c_y_2 c_y_3 c_y_4 c_j_0 c_j_1 c_j_2 c_j_3 c_j_4 M6 
  have c_x_0 := cell_at (o := 0) M7.out.2.2.1 rfl
  have c_x_1 := cell_at (o := 1) M7.out.2.2.1 rfl
  have c_x_2 := cell_at (o := 2) M7.out.2.2.1 rfl
  have c_x_3 := cell_at (o := 3) M7.out.2.2.1 rfl
  have c_x_4 := cell_at (o := 4) M7.out.2.2.1 rfl
  have c_y_0 := cell_at (o := 0) M7.out.2.2.2.2.1 rfl
  have c_y_1 := cell_at (o := 1) M7.out.2.2.2.2.1 rfl
  have c_y_2 := cell_at (o := 2) M7.out.2.2.2.2.1 rfl
  have c_y_3 := cell_at (o := 3) M7.out.2.2.2.2.1 rfl
  have c_y_4 := cell_at (o := 4) M7.out.2.2.2.2.1 rfl
  have c_j_0 := cell_at (o := 0) M7.out.2.2.2.2.2.1 rfl
  have c_j_1 := cell_at (o := 1) M7.out.2.2.2.2.2.1 rfl
  have c_j_2 := cell_at (o := 2) M7.out.2.2.2.2.2.1 rfl
  have c_j_3 := cell_at (o := 3) M7.out.2.2.2.2.2.1 rfl
  have c_j_4 := cell_at (o := 4) M7.out.2.2.2.2.2.1 rfl
  have c_a_0 := cell_at (o := 0) M7.out.2.2.2.2.2.2.2.2 rfl
  have c_a_1 := cell_at (o := 1) M7.out.2.2.2.2.2.2.2.2 rfl
  have c_a_2 := cell_at (o := 2) M7.out.2.2.2.2.2.2.2.2 rfl
  have c_a_3 := cell_at (o := 3) M7.out.2.2.2.2.2.2.2.2 rfl
  have c_a_4 := cell_at (o := 4) M7.out.2.2.2.2.2.2.2.2 rfl
  go_wp2_with fail
  refine (FY.out _ (M7.out.2.2.2.2.2.2.1)).mono ?_
  rintro e w4 ⟨yaka, yakc, yaia, yaic, rfl, hr, hB⟩
  have M8 : Hid (Below w.heap.size w w4 ∧ RJ w4 (· < w4.heap.size) x [.int .i64 x.k, .int .i64 x.n, .string ⟨x.t.toArray⟩, .slice xka x.keys.length xkc, .slice xia x.items.length xic] ∧ w4.heap[w1.heap.size]? = some (.cells #[.int .i64 x.k, .int .i64 x.n, .string ⟨x.t.toArray⟩, .slice xka x.keys.length xkc, .slice xia x.items.length xic] 26) ∧ RJ w4 (· < w4.heap.size) y [.int .i64 y.k, .int .i64 y.n, .string ⟨y.t.toArray⟩, .slice yka y.keys.length ykc, .slice yia y.items.length yic] ∧ w4.heap[w2.heap.size]? = some (.cells #[.int .i64 y.k, .int .i64 y.n, .string ⟨y.t.toArray⟩, .slice yka y.keys.length ykc, .slice yia y.items.length yic] 26) ∧ w4.heap[w2.heap.size + 1 + 1 + 1]? = some (.cells #[.int .i64 5, .int .i64 0, .string ⟨#[]⟩, .slice (some ⟨w2.heap.size + 1, 0, none⟩) 2 2, .slice (some ⟨w2.heap.size + 1 + 1, 0, none⟩) 2 2] 26) ∧ RJ w4 (· < w4.heap.size) (objF x y) [.int .i64 5, .int .i64 0, .string ⟨#[]⟩, .slice (some ⟨w2.heap.size + 1, 0, none⟩) 2 2, .slice (some ⟨w2.heap.size + 1 + 1, 0, none⟩) 2 2] ∧ RJ w4 (· < w4.heap.size) x [.int .i64 x.k, .int .i64 x.n, .string ⟨x.t.toArray⟩, .slice xaka x.keys.length xakc, .slice xaia x.items.length xaic] ∧ w4.heap[w3.heap.size]? = some (.cells #[.int .i64 x.k, .int .i64 x.n, .string ⟨x.t.toArray⟩, .slice xaka x.keys.length xakc, .slice xaia x.items.length xaic] 26) ∧ RJ w4 (· < w4.heap.size) y [.int .i64 y.k, .int .i64 y.n, .string ⟨y.t.toArray⟩, .slice yaka y.keys.length yakc, .slice yaia y.items.length yaic]) := ⟨M7.out.1.trans (hB.mono M7.out.1.size), M7.out.2.1.up hB, heap_keptD M7.out.2.2.1 hB, M7.out.2.2.2.1.up hB, heap_keptD M7.out.2.2.2.2.1 hB, heap_keptD M7.out.2.2.2.2.2.1 hB, M7.out.2.2.2.2.2.2.1.up hB, M7.out.2.2.2.2.2.2.2.1.up hB, heap_keptD M7.out.2.2.2.2.2.2.2.2 hB, hr⟩
  clear c_x_0 c_x_1 c_x_2 c_x_3 c_x_4 c_y_0 c_y_1 c_y_2 c_y_3 c_y_4 c_j_0 c_j_1 c_j_2 c_j_3 c_j_4 c_a_0 c_a_1 c_a_2 c_a_3 c_a_4 M7 hB hr FY
  have c_x_0 := cell_at (o := 0) M8.out.2.2.1 rfl
  have c_x_1 := cell_at (o := 1) M8.out.2.2.1 rfl
  have c_x_2 := cell_at (o := 2) M8.out.2.2.1 rfl
  have c_x_3 := cell_at (o := 3) M8.out.2.2.1 rfl
  have c_x_4 := cell_at (o := 4) M8.out.2.2.1 rfl
  have c_y_0 := cell_at (o := 0) M8.out.2.2.2.2.1 rfl
  have c_y_1 := cell_at (o := 1) M8.out.2.2.2.2.1 rfl
  have c_y_2 := cell_at (o := 2) M8.out.2.2.2.2.1 rfl
  have c_y_3 := cell_at (o := 3) M8.out.2.2.2.2.1 rfl
  have c_y_4 := cell_at (o := 4) M8.out.2.2.2.2.1 rfl
  have c_j_0 := cell_at (o := 0) M8.out.2.2.2.2.2.1 rfl
  have c_j_1 := cell_at (o := 1) M8.out.2.2.2.2.2.1 rfl
  have c_j_2 := cell_at (o := 2) M8.out.2.2.2.2.2.1 rfl
  have c_j_3 := cell_at (o := 3) M8.out.2.2.2.2.2.1 rfl
  have c_j_4 := cell_at (o := 4) M8.out.2.2.2.2.2.1 rfl
  have c_a_0 := cell_at (o := 0) M8.out.2.2.2.2.2.2.2.2.1 rfl
  have c_a_1 := cell_at (o := 1) M8.out.2.2.2.2.2.2.2.2.1 rfl
  have c_a_2 := cell_at (o := 2) M8.out.2.2.2.2.2.2.2.2.1 rfl
  have c_a_3 := cell_at (o := 3) M8.out.2.2.2.2.2.2.2.2.1 rfl
  have c_a_4 := cell_at (o := 4) M8.out.2.2.2.2.2.2.2.2.1 rfl
  have M9 : Hid (Below w.heap.size w (w4.alloc (.cells #[.int .i64 y.k, .int .i64 y.n, .string ⟨y.t.toArray⟩, .slice yaka y.keys.length yakc, .slice yaia y.items.length yaic] 26)) ∧ RJ (w4.alloc (.cells #[.int .i64 y.k, .int .i64 y.n, .string ⟨y.t.toArray⟩, .slice yaka y.keys.length yakc, .slice yaia y.items.length yaic] 26)) (· < (w4.alloc (.cells #[.int .i64 y.k, .int .i64 y.n, .string ⟨y.t.toArray⟩, .slice yaka y.keys.length yakc, .slice yaia y.items.length yaic] 26)).heap.size) x [.int .i64 x.k, .int .i64 x.n, .string ⟨x.t.toArray⟩, .slice xka x.keys.length xkc, .slice xia x.items.length xic] ∧ (w4.alloc (.cells #[.int .i64 y.k, .int .i64 y.n, .string ⟨y.t.toArray⟩, .slice yaka y.keys.length yakc, .slice yaia y.items.length yaic] 26)).heap[w1.heap.size]? = some (.cells #[.int .i64 x.k, .int .i64 x.n, .string ⟨x.t.toArray⟩, .slice xka x.keys.length xkc, .slice xia x.items.length xic] 26) ∧ RJ (w4.alloc (.cells #[.int .i64 y.k, .int .i64 y.n, .string ⟨y.t.toArray⟩, .slice yaka y.keys.length yakc, .slice yaia y.items.length yaic] 26)) (· < (w4.alloc (.cells #[.int .i64 y.k, .int .i64 y.n, .string ⟨y.t.toArray⟩, .slice yaka y.keys.length yakc, .slice yaia y.items.length yaic] 26)).heap.size) y [.int .i64 y.k, .int .i64 y.n, .string ⟨y.t.toArray⟩, .slice yka y.keys.length ykc, .slice yia y.items.length yic] ∧ (w4.alloc (.cells #[.int .i64 y.k, .int .i64 y.n, .string ⟨y.t.toArray⟩, .slice yaka y.keys.length yakc, .slice yaia y.items.length yaic] 26)).heap[w2.heap.size]? = some (.cells #[.int .i64 y.k, .int .i64 y.n, .string ⟨y.t.toArray⟩, .slice yka y.keys.length ykc, .slice yia y.items.length yic] 26) ∧ (w4.alloc (.cells #[.int .i64 y.k, .int .i64 y.n, .string ⟨y.t.toArray⟩, .slice yaka y.keys.length yakc, .slice yaia y.items.length yaic] 26)).heap[w2.heap.size + 1 + 1 + 1]? = some (.cells #[.int .i64 5, .int .i64 0, .string ⟨#[]⟩, .slice (some ⟨w2.heap.size + 1, 0, none⟩) 2 2, .slice (some ⟨w2.heap.size + 1 + 1, 0, none⟩) 2 2] 26) ∧ RJ (w4.alloc (.cells #[.int .i64 y.k, .int .i64 y.n, .string ⟨y.t.toArray⟩, .slice yaka y.keys.length yakc, .slice yaia y.items.length yaic] 26)) (· < (w4.alloc (.cells #[.int .i64 y.k, .int .i64 y.n, .string ⟨y.t.toArray⟩, .slice yaka y.keys.length yakc, .slice yaia y.items.length yaic] 26)).heap.size) (objF x y) [.int .i64 5, .int .i64 0, .string ⟨#[]⟩, .slice (some ⟨w2.heap.size + 1, 0, none⟩) 2 2, .slice (some ⟨w2.heap.size + 1 + 1, 0, none⟩) 2 2] ∧ RJ (w4.alloc (.cells #[.int .i64 y.k, .int .i64 y.n, .string ⟨y.t.toArray⟩, .slice yaka y.keys.length yakc, .slice yaia y.items.length yaic] 26)) (· < (w4.alloc (.cells #[.int .i64 y.k, .int .i64 y.n, .string ⟨y.t.toArray⟩, .slice yaka y.keys.length yakc, .slice yaia y.items.length yaic] 26)).heap.size) x [.int .i64 x.k, .int .i64 x.n, .string ⟨x.t.toArray⟩, .slice xaka x.keys.length xakc, .slice xaia x.items.length xaic] ∧ (w4.alloc (.cells #[.int .i64 y.k, .int .i64 y.n, .string ⟨y.t.toArray⟩, .slice yaka y.keys.length yakc, .slice yaia y.items.length yaic] 26)).heap[w3.heap.size]? = some (.cells #[.int .i64 x.k, .int .i64 x.n, .string ⟨x.t.toArray⟩, .slice xaka x.keys.length xakc, .slice xaia x.items.length xaic] 26) ∧ RJ (w4.alloc (.cells #[.int .i64 y.k, .int .i64 y.n, .string ⟨y.t.toArray⟩, .slice yaka y.keys.length yakc, .slice yaia y.items.length yaic] 26)) (· < (w4.alloc (.cells #[.int .i64 y.k, .int .i64 y.n, .string ⟨y.t.toArray⟩, .slice yaka y.keys.length yakc, .slice yaia y.items.length yaic] 26)).heap.size) y [.int .i64 y.k, .int .i64 y.n, .string ⟨y.t.toArray⟩, .slice yaka y.keys.length yakc, .slice yaia y.items.length yaic] ∧ (w4.alloc (.cells #[.int .i64 y.k, .int .i64 y.n, .string ⟨y.t.toArray⟩, .slice yaka y.keys.length yakc, .slice yaia y.items.length yaic] 26)).heap[w4.heap.size]? = some (.cells #[.int .i64 y.k, .int .i64 y.n, .string ⟨y.t.toArray⟩, .slice yaka y.keys.length yakc, .slice yaia y.items.length yaic] 26)) := ⟨M8.out.1.trans ((below_allocD w4 (.cells #[.int .i64 y.k, .int .i64 y.n, .string ⟨y.t.toArray⟩, .slice yaka y.keys.length yakc, .slice yaia y.items.length yaic] 26)).mono M8.out.1.size), M8.out.2.1.up (below_allocD w4 (.cells #[.int .i64 y.k, .int .i64 y.n, .string ⟨y.t.toArray⟩, .slice yaka y.keys.length yakc, .slice yaia y.items.length yaic] 26)), heap_keptD M8.out.2.2.1 (below_allocD w4 (.cells #[.int .i64 y.k, .int .i64 y.n, .string ⟨y.t.toArray⟩, .slice yaka y.keys.length yakc, .slice yaia y.items.length yaic] 26)), M8.out.2.2.2.1.up (below_allocD w4 (.cells #[.int .i64 y.k, .int .i64 y.n, .string ⟨y.t.toArray⟩, .slice yaka y.keys.length yakc, .slice yaia y.items.length yaic] 26)), heap_keptD M8.out.2.2.2.2.1 (below_allocD w4 (.cells #[.int .i64 y.k, .int .i64 y.n, .string ⟨y.t.toArray⟩, .slice yaka y.keys.length yakc, .slice yaia y.items.length yaic] 26)), heap_keptD M8.out.2.2.2.2.2.1 (below_allocD w4 (.cells #[.int .i64 y.k, .int .i64 y.n, .string ⟨y.t.toArray⟩, .slice yaka y.keys.length yakc, .slice yaia y.items.length yaic] 26)), M8.out.2.2.2.2.2.2.1.up (below_allocD w4 (.cells #[.int .i64 y.k, .int .i64 y.n, .string ⟨y.t.toArray⟩, .slice yaka y.keys.length yakc, .slice yaia y.items.length yaic] 26)), M8.out.2.2.2.2.2.2.2.1.up (below_allocD w4 (.cells #[.int .i64 y.k, .int .i64 y.n, .string ⟨y.t.toArray⟩, .slice yaka y.keys.length yakc, .slice yaia y.items.length yaic] 26)), heap_keptD M8.out.2.2.2.2.2.2.2.2.1 (below_allocD w4 (.cells #[.int .i64 y.k, .int .i64 y.n, .string ⟨y.t.toArray⟩, .slice yaka y.keys.length yakc, .slice yaia y.items.length yaic] 26)), M8.out.2.2.2.2.2.2.2.2.2.up (below_allocD w4 (.cells #[.int .i64 y.k, .int .i64 y.n, .string ⟨y.t.toArray⟩, .slice yaka y.keys.length yakc, .slice yaia y.items.length yaic] 26)), heap_newD _ _⟩
  clear c_x_0 c_x_1 c_x_2 c_x_3 c_x_4 c_y_0 c_y_1 c_y_2 c_y_3 c_y_4 c_j_0 c_j_1 c_j_2 c_j_3 c_j_4 c_a_0 c_a_1 c_a_2 c_a_3 c_a_4 M8 
  have c_x_0 := cell_at (o := 0) M9.out.2.2.1 rfl
  have c_x_1 := cell_at (o := 1) M9.out.2.2.1 rfl
  have c_x_2 := cell_at (o := 2) M9.out.2.2.1 rfl
  have c_x_3 := cell_at (o := 3) M9.out.2.2.1 rfl
  have c_x_4 := cell_at (o := 4) M9.out.2.2.1 rfl
  have c_y_0 := cell_at (o := 0) M9.out.2.2.2.2.1 rfl
  have c_y_1 := cell_at (o := 1) M9.out.2.2.2.2.1 rfl
  have c_y_2 := cell_at (o := 2) M9.out.2.2.2.2.1 rfl
  have c_y_3 := cell_at (o := 3) M9.out.2.2.2.2.1 rfl
  have c_y_4 := cell_at (o := 4) M9.out.2.2.2.2.1 rfl
  have c_j_0 := cell_at (o := 0) M9.out.2.2.2.2.2.1 rfl
  have c_j_1 := cell_at (o := 1) M9.out.2.2.2.2.2.1 rfl
  have c_j_2 := cell_at (o := 2) M9.out.2.2.2.2.2.1 rfl
  have c_j_3 := cell_at (o := 3) M9.out.2.2.2.2.2.1 rfl
  have c_j_4 := cell_at (o := 4) M9.out.2.2.2.2.2.1 rfl
  have c_a_0 := cell_at (o := 0) M9.out.2.2.2.2.2.2.2.2.1 rfl
  have c_a_1 := cell_at (o := 1) M9.out.2.2.2.2.2.2.2.2.1 rfl
  have c_a_2 := cell_at (o := 2) M9.out.2.2.2.2.2.2.2.2.1 rfl
  have c_a_3 := cell_at (o := 3) M9.out.2.2.2.2.2.2.2.2.1 rfl
  have c_a_4 := cell_at (o := 4) M9.out.2.2.2.2.2.2.2.2.1 rfl
  have c_b_0 := cell_at (o := 0) M9.out.2.2.2.2.2.2.2.2.2.2 rfl
  have c_b_1 := cell_at (o := 1) M9.out.2.2.2.2.2.2.2.2.2.2 rfl
  have c_b_2 := cell_at (o := 2) M9.out.2.2.2.2.2.2.2.2.2.2 rfl
  have c_b_3 := cell_at (o := 3) M9.out.2.2.2.2.2.2.2.2.2.2 rfl
  have c_b_4 := cell_at (o := 4) M9.out.2.2.2.2.2.2.2.2.2.2 rfl
  go_wp2_with fail
  refine (FN.out _ (M9.out.2.2.2.2.2.2.1)).mono ?_
  rintro e w5 ⟨vka, vkc, via, vic, rfl, hB⟩
  have M10 : Hid (Below w.heap.size w w5 ∧ RJ w5 (· < w5.heap.size) x [.int .i64 x.k, .int .i64 x.n, .string ⟨x.t.toArray⟩, .slice xka x.keys.length xkc, .slice xia x.items.length xic] ∧ w5.heap[w1.heap.size]? = some (.cells #[.int .i64 x.k, .int .i64 x.n, .string ⟨x.t.toArray⟩, .slice xka x.keys.length xkc, .slice xia x.items.length xic] 26) ∧ RJ w5 (· < w5.heap.size) y [.int .i64 y.k, .int .i64 y.n, .string ⟨y.t.toArray⟩, .slice yka y.keys.length ykc, .slice yia y.items.length yic] ∧ w5.heap[w2.heap.size]? = some (.cells #[.int .i64 y.k, .int .i64 y.n, .string ⟨y.t.toArray⟩, .slice yka y.keys.length ykc, .slice yia y.items.length yic] 26) ∧ RJ w5 (· < w5.heap.size) x [.int .i64 x.k, .int .i64 x.n, .string ⟨x.t.toArray⟩, .slice xaka x.keys.length xakc, .slice xaia x.items.length xaic] ∧ w5.heap[w3.heap.size]? = some (.cells #[.int .i64 x.k, .int .i64 x.n, .string ⟨x.t.toArray⟩, .slice xaka x.keys.length xakc, .slice xaia x.items.length xaic] 26) ∧ RJ w5 (· < w5.heap.size) y [.int .i64 y.k, .int .i64 y.n, .string ⟨y.t.toArray⟩, .slice yaka y.keys.length yakc, .slice yaia y.items.length yaic] ∧ w5.heap[w4.heap.size]? = some (.cells #[.int .i64 y.k, .int .i64 y.n, .string ⟨y.t.toArray⟩, .slice yaka y.keys.length yakc, .slice yaia y.items.length yaic] 26)) := ⟨M9.out.1.trans (hB.mono M9.out.1.size), M9.out.2.1.up hB, heap_keptD M9.out.2.2.1 hB, M9.out.2.2.2.1.up hB, heap_keptD M9.out.2.2.2.2.1 hB, M9.out.2.2.2.2.2.2.2.1.up hB, heap_keptD M9.out.2.2.2.2.2.2.2.2.1 hB, M9.out.2.2.2.2.2.2.2.2.2.1.up hB, heap_keptD M9.out.2.2.2.2.2.2.2.2.2.2 hB⟩
  clear c_x_0 c_x_1 c_x_2 c_x_3 c_x_4 c_y_0 c_y_1 c_y_2 c_y_3 c_y_4 c_j_0 c_j_1 c_j_2 c_j_3 c_j_4 c_a_0 c_a_1 c_a_2 c_a_3 c_a_4 c_b_0 c_b_1 c_b_2 c_b_3 c_b_4 M9 hB FN
  have c_x_0 := cell_at (o := 0) M10.out.2.2.1 rfl
  have c_x_1 := cell_at (o := 1) M10.out.2.2.1 rfl
  have c_x_2 := cell_at (o := 2) M10.out.2.2.1 rfl
  have c_x_3 := cell_at (o := 3) M10.out.2.2.1 rfl
  have c_x_4 := cell_at (o := 4) M10.out.2.2.1 rfl
  have c_y_0 := cell_at (o := 0) M10.out.2.2.2.2.1 rfl
  have c_y_1 := cell_at (o := 1) M10.out.2.2.2.2.1 rfl
  have c_y_2 := cell_at (o := 2) M10.out.2.2.2.2.1 rfl
  have c_y_3 := cell_at (o := 3) M10.out.2.2.2.2.1 rfl
  have c_y_4 := cell_at (o := 4) M10.out.2.2.2.2.1 rfl
  have c_a_0 := cell_at (o := 0) M10.out.2.2.2.2.2.2.1 rfl
  have c_a_1 := cell_at (o := 1) M10.out.2.2.2.2.2.2.1 rfl
  have c_a_2 := cell_at (o := 2) M10.out.2.2.2.2.2.2.1 rfl
  have c_a_3 := cell_at (o := 3) M10.out.2.2.2.2.2.2.1 rfl
  have c_a_4 := cell_at (o := 4) M10.out.2.2.2.2.2.2.1 rfl
  have c_b_0 := cell_at (o := 0) M10.out.2.2.2.2.2.2.2.2 rfl
  have c_b_1 := cell_at (o := 1) M10.out.2.2.2.2.2.2.2.2 rfl
  have c_b_2 := cell_at (o := 2) M10.out.2.2.2.2.2.2.2.2 rfl
  have c_b_3 := cell_at (o := 3) M10.out.2.2.2.2.2.2.2.2 rfl
  have c_b_4 := cell_at (o := 4) M10.out.2.2.2.2.2.2.2.2 rfl
  have M11 : Hid (Below w.heap.size w (w5.alloc (.cells #[.int .i64 0, .int .i64 0, .string ⟨#[]⟩, .slice vka 0 vkc, .slice via 0 vic] 26)) ∧ RJ (w5.alloc (.cells #[.int .i64 0, .int .i64 0, .string ⟨#[]⟩, .slice vka 0 vkc, .slice via 0 vic] 26)) (· < (w5.alloc (.cells #[.int .i64 0, .int .i64 0, .string ⟨#[]⟩, .slice vka 0 vkc, .slice via 0 vic] 26)).heap.size) x [.int .i64 x.k, .int .i64 x.n, .string ⟨x.t.toArray⟩, .slice xka x.keys.length xkc, .slice xia x.items.length xic] ∧ (w5.alloc (.cells #[.int .i64 0, .int .i64 0, .string ⟨#[]⟩, .slice vka 0 vkc, .slice via 0 vic] 26)).heap[w1.heap.size]? = some (.cells #[.int .i64 x.k, .int .i64 x.n, .string ⟨x.t.toArray⟩, .slice xka x.keys.length xkc, .slice xia x.items.length xic] 26) ∧ RJ (w5.alloc (.cells #[.int .i64 0, .int .i64 0, .string ⟨#[]⟩, .slice vka 0 vkc, .slice via 0 vic] 26)) (· < (w5.alloc (.cells #[.int .i64 0, .int .i64 0, .string ⟨#[]⟩, .slice vka 0 vkc, .slice via 0 vic] 26)).heap.size) y [.int .i64 y.k, .int .i64 y.n, .string ⟨y.t.toArray⟩, .slice yka y.keys.length ykc, .slice yia y.items.length yic] ∧ (w5.alloc (.cells #[.int .i64 0, .int .i64 0, .string ⟨#[]⟩, .slice vka 0 vkc, .slice via 0 vic] 26)).heap[w2.heap.size]? = some (.cells #[.int .i64 y.k, .int .i64 y.n, .string ⟨y.t.toArray⟩, .slice yka y.keys.length ykc, .slice yia y.items.length yic] 26) ∧ RJ (w5.alloc (.cells #[.int .i64 0, .int .i64 0, .string ⟨#[]⟩, .slice vka 0 vkc, .slice via 0 vic] 26)) (· < (w5.alloc (.cells #[.int .i64 0, .int .i64 0, .string ⟨#[]⟩, .slice vka 0 vkc, .slice via 0 vic] 26)).heap.size) x [.int .i64 x.k, .int .i64 x.n, .string ⟨x.t.toArray⟩, .slice xaka x.keys.length xakc, .slice xaia x.items.length xaic] ∧ (w5.alloc (.cells #[.int .i64 0, .int .i64 0, .string ⟨#[]⟩, .slice vka 0 vkc, .slice via 0 vic] 26)).heap[w3.heap.size]? = some (.cells #[.int .i64 x.k, .int .i64 x.n, .string ⟨x.t.toArray⟩, .slice xaka x.keys.length xakc, .slice xaia x.items.length xaic] 26) ∧ RJ (w5.alloc (.cells #[.int .i64 0, .int .i64 0, .string ⟨#[]⟩, .slice vka 0 vkc, .slice via 0 vic] 26)) (· < (w5.alloc (.cells #[.int .i64 0, .int .i64 0, .string ⟨#[]⟩, .slice vka 0 vkc, .slice via 0 vic] 26)).heap.size) y [.int .i64 y.k, .int .i64 y.n, .string ⟨y.t.toArray⟩, .slice yaka y.keys.length yakc, .slice yaia y.items.length yaic] ∧ (w5.alloc (.cells #[.int .i64 0, .int .i64 0, .string ⟨#[]⟩, .slice vka 0 vkc, .slice via 0 vic] 26)).heap[w4.heap.size]? = some (.cells #[.int .i64 y.k, .int .i64 y.n, .string ⟨y.t.toArray⟩, .slice yaka y.keys.length yakc, .slice yaia y.items.length yaic] 26)) := ⟨M10.out.1.trans ((below_allocD w5 (.cells #[.int .i64 0, .int .i64 0, .string ⟨#[]⟩, .slice vka 0 vkc, .slice via 0 vic] 26)).mono M10.out.1.size), M10.out.2.1.up (below_allocD w5 (.cells #[.int .i64 0, .int .i64 0, .string ⟨#[]⟩, .slice vka 0 vkc, .slice via 0 vic] 26)), heap_keptD M10.out.2.2.1 (below_allocD w5 (.cells #[.int .i64 0, .int .i64 0, .string ⟨#[]⟩, .slice vka 0 vkc, .slice via 0 vic] 26)), M10.out.2.2.2.1.up (below_allocD w5 (.cells #[.int .i64 0, .int .i64 0, .string ⟨#[]⟩, .slice vka 0 vkc, .slice via 0 vic] 26)), heap_keptD M10.out.2.2.2.2.1 (below_allocD w5 (.cells #[.int .i64 0, .int .i64 0, .string ⟨#[]⟩, .slice vka 0 vkc, .slice via 0 vic] 26)), M10.out.2.2.2.2.2.1.up (below_allocD w5 (.cells #[.int .i64 0, .int .i64 0, .string ⟨#[]⟩, .slice vka 0 vkc, .slice via 0 vic] 26)), heap_keptD M10.out.2.2.2.2.2.2.1 (below_allocD w5 (.cells #[.int .i64 0, .int .i64 0, .string ⟨#[]⟩, .slice vka 0 vkc, .slice via 0 vic] 26)), M10.out.2.2.2.2.2.2.2.1.up (below_allocD w5 (.cells #[.int .i64 0, .int .i64 0, .string ⟨#[]⟩, .slice vka 0 vkc, .slice via 0 vic] 26)), heap_keptD M10.out.2.2.2.2.2.2.2.2 (below_allocD w5 (.cells #[.int .i64 0, .int .i64 0, .string ⟨#[]⟩, .slice vka 0 vkc, .slice via 0 vic] 26))⟩
  clear c_x_0 c_x_1 c_x_2 c_x_3 c_x_4 c_y_0 c_y_1 c_y_2 c_y_3 c_y_4 c_a_0 c_a_1 c_a_2 c_a_3 c_a_4 c_b_0 c_b_1 c_b_2 c_b_3 c_b_4 M10 
  have c_x_0 := cell_at (o := 0) M11.out.2.2.1 rfl
  have c_x_1 := cell_at (o := 1) M11.out.2.2.1 rfl
  have c_x_2 := cell_at (o := 2) M11.out.2.2.1 rfl
  have c_x_3 := cell_at (o := 3) M11.out.2.2.1 rfl
  have c_x_4 := cell_at (o := 4) M11.out.2.2.1 rfl
  have c_y_0 := cell_at (o := 0) M11.out.2.2.2.2.1 rfl
  have c_y_1 := cell_at (o := 1) M11.out.2.2.2.2.1 rfl
  have c_y_2 := cell_at (o := 2) M11.out.2.2.2.2.1 rfl
  have c_y_3 := cell_at (o := 3) M11.out.2.2.2.2.1 rfl
  have c_y_4 := cell_at (o := 4) M11.out.2.2.2.2.1 rfl
  have c_a_0 := cell_at (o := 0) M11.out.2.2.2.2.2.2.1 rfl
  have c_a_1 := cell_at (o := 1) M11.out.2.2.2.2.2.2.1 rfl
  have c_a_2 := cell_at (o := 2) M11.out.2.2.2.2.2.2.1 rfl
  have c_a_3 := cell_at (o := 3) M11.out.2.2.2.2.2.2.1 rfl
  have c_a_4 := cell_at (o := 4) M11.out.2.2.2.2.2.2.1 rfl
  have c_b_0 := cell_at (o := 0) M11.out.2.2.2.2.2.2.2.2 rfl
  have c_b_1 := cell_at (o := 1) M11.out.2.2.2.2.2.2.2.2 rfl
  have c_b_2 := cell_at (o := 2) M11.out.2.2.2.2.2.2.2.2 rfl
  have c_b_3 := cell_at (o := 3) M11.out.2.2.2.2.2.2.2.2 rfl
  have c_b_4 := cell_at (o := 4) M11.out.2.2.2.2.2.2.2.2 rfl
  have hrl : ∀ V : World, RJ V (· < V.heap.size) ⟨4, 0, [], [], []⟩ [.int .i64 4, .int .i64 0, .string ⟨#[]⟩, .slice none 0 0, .slice none 0 0] := fun V => by rw [RJ_eq]; exact ⟨none, 0, none, 0, rfl, Nat.zero_le _, Nat.zero_le _, Nat.zero_le _, fun _ h => absurd h (by simp), .inl rfl, .inl rfl⟩
  go_wp2_with fail
  refine (FT.out _ (hrl _)).mono ?_
  rintro e w6 ⟨uka, ukc, uia, uic, rfl, hB⟩
  have M12 : Hid (Below w.heap.size w w6 ∧ RJ w6 (· < w6.heap.size) x [.int .i64 x.k, .int .i64 x.n, .string ⟨x.t.toArray⟩, .slice xka x.keys.length xkc, .slice xia x.items.length xic] ∧ w6.heap[w1.heap.size]? = some (.cells #[.int .i64 x.k, .int .i64 x.n, .string ⟨x.t.toArray⟩, .slice xka x.keys.length xkc, .slice xia x.items.length xic] 26) ∧ RJ w6 (· < w6.heap.size) y [.int .i64 y.k, .int .i64 y.n, .string ⟨y.t.toArray⟩, .slice yka y.keys.length ykc, .slice yia y.items.length yic] ∧ w6.heap[w2.heap.size]? = some (.cells #[.int .i64 y.k, .int .i64 y.n, .string ⟨y.t.toArray⟩, .slice yka y.keys.length ykc, .slice yia y.items.length yic] 26) ∧ RJ w6 (· < w6.heap.size) x [.int .i64 x.k, .int .i64 x.n, .string ⟨x.t.toArray⟩, .slice xaka x.keys.length xakc, .slice xaia x.items.length xaic] ∧ w6.heap[w3.heap.size]? = some (.cells #[.int .i64 x.k, .int .i64 x.n, .string ⟨x.t.toArray⟩, .slice xaka x.keys.length xakc, .slice xaia x.items.length xaic] 26) ∧ RJ w6 (· < w6.heap.size) y [.int .i64 y.k, .int .i64 y.n, .string ⟨y.t.toArray⟩, .slice yaka y.keys.length yakc, .slice yaia y.items.length yaic] ∧ w6.heap[w4.heap.size]? = some (.cells #[.int .i64 y.k, .int .i64 y.n, .string ⟨y.t.toArray⟩, .slice yaka y.keys.length yakc, .slice yaia y.items.length yaic] 26)) := ⟨M11.out.1.trans (hB.mono M11.out.1.size), M11.out.2.1.up hB, heap_keptD M11.out.2.2.1 hB, M11.out.2.2.2.1.up hB, heap_keptD M11.out.2.2.2.2.1 hB, M11.out.2.2.2.2.2.1.up hB, heap_keptD M11.out.2.2.2.2.2.2.1 hB, M11.out.2.2.2.2.2.2.2.1.up hB, heap_keptD M11.out.2.2.2.2.2.2.2.2 hB⟩
  clear c_x_0 c_x_1 c_x_2 c_x_3 c_x_4 c_y_0 c_y_1 c_y_2 c_y_3 c_y_4 c_a_0 c_a_1 c_a_2 c_a_3 c_a_4 c_b_0 c_b_1 c_b_2 c_b_3 c_b_4 M11 hB FT hrl
  have c_x_0 := cell_at (o := 0) M12.out.2.2.1 rfl
  have c_x_1 := cell_at (o := 1) M12.out.2.2.1 rfl
  have c_x_2 := cell_at (o := 2) M12.out.2.2.1 rfl
  have c_x_3 := cell_at (o := 3) M12.out.2.2.1 rfl
  have c_x_4 := cell_at (o := 4) M12.out.2.2.1 rfl
  have c_y_0 := cell_at (o := 0) M12.out.2.2.2.2.1 rfl
  have c_y_1 := cell_at (o := 1) M12.out.2.2.2.2.1 rfl
  have c_y_2 := cell_at (o := 2) M12.out.2.2.2.2.1 rfl
  have c_y_3 := cell_at (o := 3) M12.out.2.2.2.2.1 rfl
  have c_y_4 := cell_at (o := 4) M12.out.2.2.2.2.1 rfl
  have c_a_0 := cell_at (o := 0) M12.out.2.2.2.2.2.2.1 rfl
  have c_a_1 := cell_at (o := 1) M12.out.2.2.2.2.2.2.1 rfl
  have c_a_2 := cell_at (o := 2) M12.out.2.2.2.2.2.2.1 rfl
  have c_a_3 := cell_at (o := 3) M12.out.2.2.2.2.2.2.1 rfl
  have c_a_4 := cell_at (o := 4) M12.out.2.2.2.2.2.2.1 rfl
  have c_b_0 := cell_at (o := 0) M12.out.2.2.2.2.2.2.2.2 rfl
  have c_b_1 := cell_at (o := 1) M12.out.2.2.2.2.2.2.2.2 rfl
  have c_b_2 := cell_at (o := 2) M12.out.2.2.2.2.2.2.2.2 rfl
  have c_b_3 := cell_at (o := 3) M12.out.2.2.2.2.2.2.2.2 rfl
  have c_b_4 := cell_at (o := 4) M12.out.2.2.2.2.2.2.2.2 rfl
  have M13 : Hid (Below w.heap.size w (w6.alloc (.cells #[.int .i64 0, .int .i64 0, .string ⟨#[]⟩, .slice uka 0 ukc, .slice uia 0 uic] 26)) ∧ RJ (w6.alloc (.cells #[.int .i64 0, .int .i64 0, .string ⟨#[]⟩, .slice uka 0 ukc, .slice uia 0 uic] 26)) (· < (w6.alloc (.cells #[.int .i64 0, .int .i64 0, .string ⟨#[]⟩, .slice uka 0 ukc, .slice uia 0 uic] 26)).heap.size) x [.int .i64 x.k, .int .i64 x.n, .string ⟨x.t.toArray⟩, .slice xka x.keys.length xkc, .slice xia x.items.length xic] ∧ (w6.alloc (.cells #[.int .i64 0, .int .i64 0, .string ⟨#[]⟩, .slice uka 0 ukc, .slice uia 0 uic] 26)).heap[w1.heap.size]? = some (.cells #[.int .i64 x.k, .int .i64 x.n, .string ⟨x.t.toArray⟩, .slice xka x.keys.length xkc, .slice xia x.items.length xic] 26) ∧ RJ (w6.alloc (.cells #[.int .i64 0, .int .i64 0, .string ⟨#[]⟩, .slice uka 0 ukc, .slice uia 0 uic] 26)) (· < (w6.alloc (.cells #[.int .i64 0, .int .i64 0, .string ⟨#[]⟩, .slice uka 0 ukc, .slice uia 0 uic] 26)).heap.size) y [.int .i64 y.k, .int .i64 y.n, .string ⟨y.t.toArray⟩, .slice yka y.keys.length ykc, .slice yia y.items.length yic] ∧ (w6.alloc (.cells #[.int .i64 0, .int .i64 0, .string ⟨#[]⟩, .slice uka 0 ukc, .slice uia 0 uic] 26)).heap[w2.heap.size]? = some (.cells #[.int .i64 y.k, .int .i64 y.n, .string ⟨y.t.toArray⟩, .slice yka y.keys.length ykc, .slice yia y.items.length yic] 26) ∧ RJ (w6.alloc (.cells #[.int .i64 0, .int .i64 0, .string ⟨#[]⟩, .slice uka 0 ukc, .slice uia 0 uic] 26)) (· < (w6.alloc (.cells #[.int .i64 0, .int .i64 0, .string ⟨#[]⟩, .slice uka 0 ukc, .slice uia 0 uic] 26)).heap.size) x [.int .i64 x.k, .int .i64 x.n, .string ⟨x.t.toArray⟩, .slice xaka x.keys.length xakc, .slice xaia x.items.length xaic] ∧ (w6.alloc (.cells #[.int .i64 0, .int .i64 0, .string ⟨#[]⟩, .slice uka 0 ukc, .slice uia 0 uic] 26)).heap[w3.heap.size]? = some (.cells #[.int .i64 x.k, .int .i64 x.n, .string ⟨x.t.toArray⟩, .slice xaka x.keys.length xakc, .slice xaia x.items.length xaic] 26) ∧ RJ (w6.alloc (.cells #[.int .i64 0, .int .i64 0, .string ⟨#[]⟩, .slice uka 0 ukc, .slice uia 0 uic] 26)) (· < (w6.alloc (.cells #[.int .i64 0, .int .i64 0, .string ⟨#[]⟩, .slice uka 0 ukc, .slice uia 0 uic] 26)).heap.size) y [.int .i64 y.k, .int .i64 y.n, .string ⟨y.t.toArray⟩, .slice yaka y.keys.length yakc, .slice yaia y.items.length yaic] ∧ (w6.alloc (.cells #[.int .i64 0, .int .i64 0, .string ⟨#[]⟩, .slice uka 0 ukc, .slice uia 0 uic] 26)).heap[w4.heap.size]? = some (.cells #[.int .i64 y.k, .int .i64 y.n, .string ⟨y.t.toArray⟩, .slice yaka y.keys.length yakc, .slice yaia y.items.length yaic] 26)) := ⟨M12.out.1.trans ((below_allocD w6 (.cells #[.int .i64 0, .int .i64 0, .string ⟨#[]⟩, .slice uka 0 ukc, .slice uia 0 uic] 26)).mono M12.out.1.size), M12.out.2.1.up (below_allocD w6 (.cells #[.int .i64 0, .int .i64 0, .string ⟨#[]⟩, .slice uka 0 ukc, .slice uia 0 uic] 26)), heap_keptD M12.out.2.2.1 (below_allocD w6 (.cells #[.int .i64 0, .int .i64 0, .string ⟨#[]⟩, .slice uka 0 ukc, .slice uia 0 uic] 26)), M12.out.2.2.2.1.up (below_allocD w6 (.cells #[.int .i64 0, .int .i64 0, .string ⟨#[]⟩, .slice uka 0 ukc, .slice uia 0 uic] 26)), heap_keptD M12.out.2.2.2.2.1 (below_allocD w6 (.cells #[.int .i64 0, .int .i64 0, .string ⟨#[]⟩, .slice uka 0 ukc, .slice uia 0 uic] 26)), M12.out.2.2.2.2.2.1.up (below_allocD w6 (.cells #[.int .i64 0, .int .i64 0, .string ⟨#[]⟩, .slice uka 0 ukc, .slice uia 0 uic] 26)), heap_keptD M12.out.2.2.2.2.2.2.1 (below_allocD w6 (.cells #[.int .i64 0, .int .i64 0, .string ⟨#[]⟩, .slice uka 0 ukc, .slice uia 0 uic] 26)), M12.out.2.2.2.2.2.2.2.1.up (below_allocD w6 (.cells #[.int .i64 0, .int .i64 0, .string ⟨#[]⟩, .slice uka 0 ukc, .slice uia 0 uic] 26)), heap_keptD M12.out.2.2.2.2.2.2.2.2 (below_allocD w6 (.cells #[.int .i64 0, .int .i64 0, .string ⟨#[]⟩, .slice uka 0 ukc, .slice uia 0 uic] 26))⟩
  clear c_x_0 c_x_1 c_x_2 c_x_3 c_x_4 c_y_0 c_y_1 c_y_2 c_y_3 c_y_4 c_a_0 c_a_1 c_a_2 c_a_3 c_a_4 c_b_0 c_b_1 c_b_2 c_b_3 c_b_4 M12 
  have c_x_0 := cell_at (o := 0) M13.out.2.2.1 rfl
  have c_x_1 := cell_at (o := 1) M13.out.2.2.1 rfl
  have c_x_2 := cell_at (o := 2) M13.out.2.2.1 rfl
  have c_x_3 := cell_at (o := 3) M13.out.2.2.1 rfl
  have c_x_4 := cell_at (o := 4) M13.out.2.2.1 rfl
  have c_y_0 := cell_at (o := 0) M13.out.2.2.2.2.1 rfl
  have c_y_1 := cell_at (o := 1) M13.out.2.2.2.2.1 rfl
  have c_y_2 := cell_at (o := 2) M13.out.2.2.2.2.1 rfl
  have c_y_3 := cell_at (o := 3) M13.out.2.2.2.2.1 rfl
  have c_y_4 := cell_at (o := 4) M13.out.2.2.2.2.1 rfl
  have c_a_0 := cell_at (o := 0) M13.out.2.2.2.2.2.2.1 rfl
  have c_a_1 := cell_at (o := 1) M13.out.2.2.2.2.2.2.1 rfl
  have c_a_2 := cell_at (o := 2) M13.out.2.2.2.2.2.2.1 rfl
  have c_a_3 := cell_at (o := 3) M13.out.2.2.2.2.2.2.1 rfl
  have c_a_4 := cell_at (o := 4) M13.out.2.2.2.2.2.2.1 rfl
  have c_b_0 := cell_at (o := 0) M13.out.2.2.2.2.2.2.2.2 rfl
  have c_b_1 := cell_at (o := 1) M13.out.2.2.2.2.2.2.2.2 rfl
  have c_b_2 := cell_at (o := 2) M13.out.2.2.2.2.2.2.2.2 rfl
  have c_b_3 := cell_at (o := 3) M13.out.2.2.2.2.2.2.2.2 rfl
  have c_b_4 := cell_at (o := 4) M13.out.2.2.2.2.2.2.2.2 rfl
  go_wp2_with fail
  generalize (w6.alloc (.cells #[.int .i64 0, .int .i64 0, .string ⟨#[]⟩, .slice uka 0 ukc, .slice uia 0 uic] 26)) = w7 at *
  have SA : Hid (∀ W, RJ W (· < W.heap.size) x [.int .i64 x.k, .int .i64 x.n, .string ⟨x.t.toArray⟩, .slice xaka x.keys.length xakc, .slice xaia x.items.length xaic] → RJ W (· < W.heap.size) x [.int .i64 x.k, .int .i64 x.n, .string ⟨x.t.toArray⟩, .slice xka x.keys.length xkc, .slice xia x.items.length xic] → Calls Try.prog 6 #[.agg #[.int .i64 x.k, .int .i64 x.n, .string ⟨x.t.toArray⟩, .slice xaka x.keys.length xakc, .slice xaia x.items.length xaic], .agg #[.int .i64 x.k, .int .i64 x.n, .string ⟨x.t.toArray⟩, .slice xka x.keys.length xkc, .slice xia x.items.length xic]] W fun e w' => e = .returned (.bool true) ∧ Below W.heap.size W w') := fun W h h' => by have h9 := sameJsonV x x _ _ _ _ W h h'; rw [sameB_iff.2 rfl] at h9; exact h9
  have SB : Hid (∀ W, RJ W (· < W.heap.size) y [.int .i64 y.k, .int .i64 y.n, .string ⟨y.t.toArray⟩, .slice yaka y.keys.length yakc, .slice yaia y.items.length yaic] → RJ W (· < W.heap.size) y [.int .i64 y.k, .int .i64 y.n, .string ⟨y.t.toArray⟩, .slice yka y.keys.length ykc, .slice yia y.items.length yic] → Calls Try.prog 6 #[.agg #[.int .i64 y.k, .int .i64 y.n, .string ⟨y.t.toArray⟩, .slice yaka y.keys.length yakc, .slice yaia y.items.length yaic], .agg #[.int .i64 y.k, .int .i64 y.n, .string ⟨y.t.toArray⟩, .slice yka y.keys.length ykc, .slice yia y.items.length yic]] W fun e w' => e = .returned (.bool true) ∧ Below W.heap.size W w') := fun W h h' => by have h9 := sameJsonV y y _ _ _ _ W h h'; rw [sameB_iff.2 rfl] at h9; exact h9
  have SC : Hid (∀ W, RJ W (· < W.heap.size) x [.int .i64 x.k, .int .i64 x.n, .string ⟨x.t.toArray⟩, .slice xka x.keys.length xkc, .slice xia x.items.length xic] → RJ W (· < W.heap.size) y [.int .i64 y.k, .int .i64 y.n, .string ⟨y.t.toArray⟩, .slice yka y.keys.length ykc, .slice yia y.items.length yic] → Calls Try.prog 6 #[.agg #[.int .i64 x.k, .int .i64 x.n, .string ⟨x.t.toArray⟩, .slice xka x.keys.length xkc, .slice xia x.items.length xic], .agg #[.int .i64 y.k, .int .i64 y.n, .string ⟨y.t.toArray⟩, .slice yka y.keys.length ykc, .slice yia y.items.length yic]] W fun e w' => e = .returned (.bool (sameB x y)) ∧ Below W.heap.size W w') := fun W h h' => by have h9 := sameJsonV x y _ _ _ _ W h h'; exact h9
  have hss : (sameB x y == sameB x y) = true := by simp
  have CE : Hid (∀ W, (Below w.heap.size w W ∧ RJ W (· < W.heap.size) x [.int .i64 x.k, .int .i64 x.n, .string ⟨x.t.toArray⟩, .slice xka x.keys.length xkc, .slice xia x.items.length xic] ∧ W.heap[w1.heap.size]? = some (.cells #[.int .i64 x.k, .int .i64 x.n, .string ⟨x.t.toArray⟩, .slice xka x.keys.length xkc, .slice xia x.items.length xic] 26) ∧ RJ W (· < W.heap.size) y [.int .i64 y.k, .int .i64 y.n, .string ⟨y.t.toArray⟩, .slice yka y.keys.length ykc, .slice yia y.items.length yic] ∧ W.heap[w2.heap.size]? = some (.cells #[.int .i64 y.k, .int .i64 y.n, .string ⟨y.t.toArray⟩, .slice yka y.keys.length ykc, .slice yia y.items.length yic] 26) ∧ RJ W (· < W.heap.size) x [.int .i64 x.k, .int .i64 x.n, .string ⟨x.t.toArray⟩, .slice xaka x.keys.length xakc, .slice xaia x.items.length xaic] ∧ W.heap[w3.heap.size]? = some (.cells #[.int .i64 x.k, .int .i64 x.n, .string ⟨x.t.toArray⟩, .slice xaka x.keys.length xakc, .slice xaia x.items.length xaic] 26) ∧ RJ W (· < W.heap.size) y [.int .i64 y.k, .int .i64 y.n, .string ⟨y.t.toArray⟩, .slice yaka y.keys.length yakc, .slice yaia y.items.length yaic] ∧ W.heap[w4.heap.size]? = some (.cells #[.int .i64 y.k, .int .i64 y.n, .string ⟨y.t.toArray⟩, .slice yaka y.keys.length yakc, .slice yaia y.items.length yaic] 26)) → (W.cell? ⟨w3.heap.size, 0, none⟩ = some (.int .i64 x.k) ∧ W.cell? ⟨w3.heap.size, 1, none⟩ = some (.int .i64 x.n) ∧ W.cell? ⟨w3.heap.size, 2, none⟩ = some (.string ⟨x.t.toArray⟩) ∧ W.cell? ⟨w3.heap.size, 3, none⟩ = some (.slice xaka x.keys.length xakc) ∧ W.cell? ⟨w3.heap.size, 4, none⟩ = some (.slice xaia x.items.length xaic) ∧ W.cell? ⟨w1.heap.size, 0, none⟩ = some (.int .i64 x.k) ∧ W.cell? ⟨w1.heap.size, 1, none⟩ = some (.int .i64 x.n) ∧ W.cell? ⟨w1.heap.size, 2, none⟩ = some (.string ⟨x.t.toArray⟩) ∧ W.cell? ⟨w1.heap.size, 3, none⟩ = some (.slice xka x.keys.length xkc) ∧ W.cell? ⟨w1.heap.size, 4, none⟩ = some (.slice xia x.items.length xic) ∧ W.cell? ⟨w4.heap.size, 0, none⟩ = some (.int .i64 y.k) ∧ W.cell? ⟨w4.heap.size, 1, none⟩ = some (.int .i64 y.n) ∧ W.cell? ⟨w4.heap.size, 2, none⟩ = some (.string ⟨y.t.toArray⟩) ∧ W.cell? ⟨w4.heap.size, 3, none⟩ = some (.slice yaka y.keys.length yakc) ∧ W.cell? ⟨w4.heap.size, 4, none⟩ = some (.slice yaia y.items.length yaic) ∧ W.cell? ⟨w2.heap.size, 0, none⟩ = some (.int .i64 y.k) ∧ W.cell? ⟨w2.heap.size, 1, none⟩ = some (.int .i64 y.n) ∧ W.cell? ⟨w2.heap.size, 2, none⟩ = some (.string ⟨y.t.toArray⟩) ∧ W.cell? ⟨w2.heap.size, 3, none⟩ = some (.slice yka y.keys.length ykc) ∧ W.cell? ⟨w2.heap.size, 4, none⟩ = some (.slice yia y.items.length yic))) := fun W h => ⟨cell_at (o := 0) h.2.2.2.2.2.2.1 rfl, cell_at (o := 1) h.2.2.2.2.2.2.1 rfl, cell_at (o := 2) h.2.2.2.2.2.2.1 rfl, cell_at (o := 3) h.2.2.2.2.2.2.1 rfl, cell_at (o := 4) h.2.2.2.2.2.2.1 rfl, cell_at (o := 0) h.2.2.1 rfl, cell_at (o := 1) h.2.2.1 rfl, cell_at (o := 2) h.2.2.1 rfl, cell_at (o := 3) h.2.2.1 rfl, cell_at (o := 4) h.2.2.1 rfl, cell_at (o := 0) h.2.2.2.2.2.2.2.2 rfl, cell_at (o := 1) h.2.2.2.2.2.2.2.2 rfl, cell_at (o := 2) h.2.2.2.2.2.2.2.2 rfl, cell_at (o := 3) h.2.2.2.2.2.2.2.2 rfl, cell_at (o := 4) h.2.2.2.2.2.2.2.2 rfl, cell_at (o := 0) h.2.2.2.2.1 rfl, cell_at (o := 1) h.2.2.2.2.1 rfl, cell_at (o := 2) h.2.2.2.2.1 rfl, cell_at (o := 3) h.2.2.2.2.1 rfl, cell_at (o := 4) h.2.2.2.2.1 rfl⟩
  have UP : Hid (∀ W W', (Below w.heap.size w W ∧ RJ W (· < W.heap.size) x [.int .i64 x.k, .int .i64 x.n, .string ⟨x.t.toArray⟩, .slice xka x.keys.length xkc, .slice xia x.items.length xic] ∧ W.heap[w1.heap.size]? = some (.cells #[.int .i64 x.k, .int .i64 x.n, .string ⟨x.t.toArray⟩, .slice xka x.keys.length xkc, .slice xia x.items.length xic] 26) ∧ RJ W (· < W.heap.size) y [.int .i64 y.k, .int .i64 y.n, .string ⟨y.t.toArray⟩, .slice yka y.keys.length ykc, .slice yia y.items.length yic] ∧ W.heap[w2.heap.size]? = some (.cells #[.int .i64 y.k, .int .i64 y.n, .string ⟨y.t.toArray⟩, .slice yka y.keys.length ykc, .slice yia y.items.length yic] 26) ∧ RJ W (· < W.heap.size) x [.int .i64 x.k, .int .i64 x.n, .string ⟨x.t.toArray⟩, .slice xaka x.keys.length xakc, .slice xaia x.items.length xaic] ∧ W.heap[w3.heap.size]? = some (.cells #[.int .i64 x.k, .int .i64 x.n, .string ⟨x.t.toArray⟩, .slice xaka x.keys.length xakc, .slice xaia x.items.length xaic] 26) ∧ RJ W (· < W.heap.size) y [.int .i64 y.k, .int .i64 y.n, .string ⟨y.t.toArray⟩, .slice yaka y.keys.length yakc, .slice yaia y.items.length yaic] ∧ W.heap[w4.heap.size]? = some (.cells #[.int .i64 y.k, .int .i64 y.n, .string ⟨y.t.toArray⟩, .slice yaka y.keys.length yakc, .slice yaia y.items.length yaic] 26)) → Below W.heap.size W W' → (Below w.heap.size w W' ∧ RJ W' (· < W'.heap.size) x [.int .i64 x.k, .int .i64 x.n, .string ⟨x.t.toArray⟩, .slice xka x.keys.length xkc, .slice xia x.items.length xic] ∧ W'.heap[w1.heap.size]? = some (.cells #[.int .i64 x.k, .int .i64 x.n, .string ⟨x.t.toArray⟩, .slice xka x.keys.length xkc, .slice xia x.items.length xic] 26) ∧ RJ W' (· < W'.heap.size) y [.int .i64 y.k, .int .i64 y.n, .string ⟨y.t.toArray⟩, .slice yka y.keys.length ykc, .slice yia y.items.length yic] ∧ W'.heap[w2.heap.size]? = some (.cells #[.int .i64 y.k, .int .i64 y.n, .string ⟨y.t.toArray⟩, .slice yka y.keys.length ykc, .slice yia y.items.length yic] 26) ∧ RJ W' (· < W'.heap.size) x [.int .i64 x.k, .int .i64 x.n, .string ⟨x.t.toArray⟩, .slice xaka x.keys.length xakc, .slice xaia x.items.length xaic] ∧ W'.heap[w3.heap.size]? = some (.cells #[.int .i64 x.k, .int .i64 x.n, .string ⟨x.t.toArray⟩, .slice xaka x.keys.length xakc, .slice xaia x.items.length xaic] 26) ∧ RJ W' (· < W'.heap.size) y [.int .i64 y.k, .int .i64 y.n, .string ⟨y.t.toArray⟩, .slice yaka y.keys.length yakc, .slice yaia y.items.length yaic] ∧ W'.heap[w4.heap.size]? = some (.cells #[.int .i64 y.k, .int .i64 y.n, .string ⟨y.t.toArray⟩, .slice yaka y.keys.length yakc, .slice yaia y.items.length yaic] 26))) := fun W W' h hB => ⟨h.1.trans (hB.mono h.1.size), h.2.1.up hB, heap_keptD h.2.2.1 hB, h.2.2.2.1.up hB, heap_keptD h.2.2.2.2.1 hB, h.2.2.2.2.2.1.up hB, heap_keptD h.2.2.2.2.2.2.1 hB, h.2.2.2.2.2.2.2.1.up hB, heap_keptD h.2.2.2.2.2.2.2.2 hB⟩
  have hx := M13.out
  clear M13
  refine wp_region_held_drew (S := (fun W => W.cell? ⟨w3.heap.size, 0, none⟩ = some (.int .i64 x.k) ∧ W.cell? ⟨w3.heap.size, 1, none⟩ = some (.int .i64 x.n) ∧ W.cell? ⟨w3.heap.size, 2, none⟩ = some (.string ⟨x.t.toArray⟩) ∧ W.cell? ⟨w3.heap.size, 3, none⟩ = some (.slice xaka x.keys.length xakc) ∧ W.cell? ⟨w3.heap.size, 4, none⟩ = some (.slice xaia x.items.length xaic) ∧ W.cell? ⟨w1.heap.size, 0, none⟩ = some (.int .i64 x.k) ∧ W.cell? ⟨w1.heap.size, 1, none⟩ = some (.int .i64 x.n) ∧ W.cell? ⟨w1.heap.size, 2, none⟩ = some (.string ⟨x.t.toArray⟩) ∧ W.cell? ⟨w1.heap.size, 3, none⟩ = some (.slice xka x.keys.length xkc) ∧ W.cell? ⟨w1.heap.size, 4, none⟩ = some (.slice xia x.items.length xic) ∧ W.cell? ⟨w4.heap.size, 0, none⟩ = some (.int .i64 y.k) ∧ W.cell? ⟨w4.heap.size, 1, none⟩ = some (.int .i64 y.n) ∧ W.cell? ⟨w4.heap.size, 2, none⟩ = some (.string ⟨y.t.toArray⟩) ∧ W.cell? ⟨w4.heap.size, 3, none⟩ = some (.slice yaka y.keys.length yakc) ∧ W.cell? ⟨w4.heap.size, 4, none⟩ = some (.slice yaia y.items.length yaic) ∧ W.cell? ⟨w2.heap.size, 0, none⟩ = some (.int .i64 y.k) ∧ W.cell? ⟨w2.heap.size, 1, none⟩ = some (.int .i64 y.n) ∧ W.cell? ⟨w2.heap.size, 2, none⟩ = some (.string ⟨y.t.toArray⟩) ∧ W.cell? ⟨w2.heap.size, 3, none⟩ = some (.slice yka y.keys.length ykc) ∧ W.cell? ⟨w2.heap.size, 4, none⟩ = some (.slice yia y.items.length yic))) (by kernel_rfl) ?_ (fun hHeld => ?_)
  · (first | exact CE.out _ hx | exact CE.out _ (UP.out _ _ hx (Below.refl _ _).drew))
  refine wpAnyH_take (i := 0) (v := ?_) rfl (by kernel_rfl) (by kernel_rfl) (by kernel_rfl) (fun _ _ _ h => h) (Or.inl ⟨by kernel_rfl, ?_⟩) (by assumption) ?_
  rotate_left
  · (intro wS hSw; (try dsimp only at hSw); go_simp <;> with_reducible rfl)
  try simp only [Act.put, tkS]
  refine wpAnyH_take (i := 1) (v := ?_) rfl (by kernel_rfl) (by kernel_rfl) (by kernel_rfl) (fun _ _ _ h => h) (Or.inl ⟨by kernel_rfl, ?_⟩) (by assumption) ?_
  rotate_left
  · (intro wS hSw; (try dsimp only at hSw); go_simp <;> with_reducible rfl)
  try simp only [Act.put, tkS]
  refine wpAnyH_take (i := 2) (v := ?_) rfl (by kernel_rfl) (by kernel_rfl) (by kernel_rfl) (fun _ _ _ h => h) (Or.inl ⟨by kernel_rfl, ?_⟩) (by assumption) ?_
  rotate_left
  · (intro wS hSw; (try dsimp only at hSw); go_simp <;> with_reducible rfl)
  try simp only [Act.put, tkS]
  refine wpAnyH_take (i := 3) (v := ?_) rfl (by kernel_rfl) (by kernel_rfl) (by kernel_rfl) (fun _ _ _ h => h) (Or.inl ⟨by kernel_rfl, ?_⟩) (by assumption) ?_
  rotate_left
  · (intro wS hSw; (try dsimp only at hSw); go_simp <;> with_reducible rfl)
  try simp only [Act.put, tkS]
  refine wpAnyH_take (i := 4) (v := ?_) rfl (by kernel_rfl) (by kernel_rfl) (by kernel_rfl) (fun _ _ _ h => h) (Or.inl ⟨by kernel_rfl, ?_⟩) (by assumption) ?_
  rotate_left
  · (intro wS hSw; (try dsimp only at hSw); go_simp <;> with_reducible rfl)
  try simp only [Act.put, tkS]
  refine wpAnyH_ready (rs := [5]) (by kernel_rfl) (by simp) (AllReadyH.cons rfl (fun K hK => ?_) AllReadyH.nil)
  go_simp
  (go_at_call 6; refine (SA.out _ (by first | exact hx.2.2.2.2.2.1 | exact (UP.out _ _ hx (Below.refl _ _).drew).2.2.2.2.2.1) (by first | exact hx.2.1 | exact (UP.out _ _ hx (Below.refl _ _).drew).2.1)).mono ?_; rintro e wz ⟨rfl, hB⟩; have h2 := (by first | exact UP.out _ _ hx hB | exact UP.out _ _ (UP.out _ _ hx (Below.refl _ _).drew) hB : Below w.heap.size w wz ∧ RJ wz (· < wz.heap.size) x [.int .i64 x.k, .int .i64 x.n, .string ⟨x.t.toArray⟩, .slice xka x.keys.length xkc, .slice xia x.items.length xic] ∧ wz.heap[w1.heap.size]? = some (.cells #[.int .i64 x.k, .int .i64 x.n, .string ⟨x.t.toArray⟩, .slice xka x.keys.length xkc, .slice xia x.items.length xic] 26) ∧ RJ wz (· < wz.heap.size) y [.int .i64 y.k, .int .i64 y.n, .string ⟨y.t.toArray⟩, .slice yka y.keys.length ykc, .slice yia y.items.length yic] ∧ wz.heap[w2.heap.size]? = some (.cells #[.int .i64 y.k, .int .i64 y.n, .string ⟨y.t.toArray⟩, .slice yka y.keys.length ykc, .slice yia y.items.length yic] 26) ∧ RJ wz (· < wz.heap.size) x [.int .i64 x.k, .int .i64 x.n, .string ⟨x.t.toArray⟩, .slice xaka x.keys.length xakc, .slice xaia x.items.length xaic] ∧ wz.heap[w3.heap.size]? = some (.cells #[.int .i64 x.k, .int .i64 x.n, .string ⟨x.t.toArray⟩, .slice xaka x.keys.length xakc, .slice xaia x.items.length xaic] 26) ∧ RJ wz (· < wz.heap.size) y [.int .i64 y.k, .int .i64 y.n, .string ⟨y.t.toArray⟩, .slice yaka y.keys.length yakc, .slice yaia y.items.length yaic] ∧ wz.heap[w4.heap.size]? = some (.cells #[.int .i64 y.k, .int .i64 y.n, .string ⟨y.t.toArray⟩, .slice yaka y.keys.length yakc, .slice yaia y.items.length yaic] 26)); clear hx hB; have hx := h2; clear h2)
  refine hK.out _ _ ?_ (fun hHeld => ?_)
  · (first | exact CE.out _ hx | exact CE.out _ (UP.out _ _ hx (Below.refl _ _).drew))
  clear hK K
  try simp only [Act.put, tkS]
  refine wpAnyH_take (i := 6) (v := ?_) rfl (by kernel_rfl) (by kernel_rfl) (by kernel_rfl) (fun _ _ _ h => h) (Or.inl ⟨by kernel_rfl, ?_⟩) (by assumption) ?_
  rotate_left
  · (intro wS hSw; (try dsimp only at hSw); go_simp <;> with_reducible rfl)
  try simp only [Act.put, tkS]
  refine wpAnyH_take (i := 7) (v := ?_) rfl (by kernel_rfl) (by kernel_rfl) (by kernel_rfl) (fun _ _ _ h => h) (Or.inl ⟨by kernel_rfl, ?_⟩) (by assumption) ?_
  rotate_left
  · (intro wS hSw; (try dsimp only at hSw); go_simp <;> with_reducible rfl)
  try simp only [Act.put, tkS]
  refine wpAnyH_take (i := 8) (v := ?_) rfl (by kernel_rfl) (by kernel_rfl) (by kernel_rfl) (fun _ _ _ h => h) (Or.inl ⟨by kernel_rfl, ?_⟩) (by assumption) ?_
  rotate_left
  · (intro wS hSw; (try dsimp only at hSw); go_simp <;> with_reducible rfl)
  try simp only [Act.put, tkS]
  refine wpAnyH_take (i := 9) (v := ?_) rfl (by kernel_rfl) (by kernel_rfl) (by kernel_rfl) (fun _ _ _ h => h) (Or.inl ⟨by kernel_rfl, ?_⟩) (by assumption) ?_
  rotate_left
  · (intro wS hSw; (try dsimp only at hSw); go_simp <;> with_reducible rfl)
  try simp only [Act.put, tkS]
  refine wpAnyH_take (i := 10) (v := ?_) rfl (by kernel_rfl) (by kernel_rfl) (by kernel_rfl) (fun _ _ _ h => h) (Or.inl ⟨by kernel_rfl, ?_⟩) (by assumption) ?_
  rotate_left
  · (intro wS hSw; (try dsimp only at hSw); go_simp <;> with_reducible rfl)
  try simp only [Act.put, tkS]
  refine wpAnyH_take (i := 11) (v := ?_) rfl (by kernel_rfl) (by kernel_rfl) (by kernel_rfl) (fun _ _ _ h => h) (Or.inl ⟨by kernel_rfl, ?_⟩) (by assumption) ?_
  rotate_left
  · (intro wS hSw; (try dsimp only at hSw); go_simp <;> with_reducible rfl)
  try simp only [Act.put, tkS]
  refine wpAnyH_take (i := 12) (v := ?_) rfl (by kernel_rfl) (by kernel_rfl) (by kernel_rfl) (fun _ _ _ h => h) (Or.inl ⟨by kernel_rfl, ?_⟩) (by assumption) ?_
  rotate_left
  · (intro wS hSw; (try dsimp only at hSw); go_simp <;> with_reducible rfl)
  try simp only [Act.put, tkS]
  refine wpAnyH_take (i := 13) (v := ?_) rfl (by kernel_rfl) (by kernel_rfl) (by kernel_rfl) (fun _ _ _ h => h) (Or.inl ⟨by kernel_rfl, ?_⟩) (by assumption) ?_
  rotate_left
  · (intro wS hSw; (try dsimp only at hSw); go_simp <;> with_reducible rfl)
  try simp only [Act.put, tkS]
  refine wpAnyH_ready (rs := [14]) (by kernel_rfl) (by simp) (AllReadyH.cons rfl (fun K hK => ?_) AllReadyH.nil)
  go_simp
  (go_at_call 6; refine (SB.out _ (by first | exact hx.2.2.2.2.2.2.2.1 | exact (UP.out _ _ hx (Below.refl _ _).drew).2.2.2.2.2.2.2.1) (by first | exact hx.2.2.2.1 | exact (UP.out _ _ hx (Below.refl _ _).drew).2.2.2.1)).mono ?_; rintro e wz ⟨rfl, hB⟩; have h2 := (by first | exact UP.out _ _ hx hB | exact UP.out _ _ (UP.out _ _ hx (Below.refl _ _).drew) hB : Below w.heap.size w wz ∧ RJ wz (· < wz.heap.size) x [.int .i64 x.k, .int .i64 x.n, .string ⟨x.t.toArray⟩, .slice xka x.keys.length xkc, .slice xia x.items.length xic] ∧ wz.heap[w1.heap.size]? = some (.cells #[.int .i64 x.k, .int .i64 x.n, .string ⟨x.t.toArray⟩, .slice xka x.keys.length xkc, .slice xia x.items.length xic] 26) ∧ RJ wz (· < wz.heap.size) y [.int .i64 y.k, .int .i64 y.n, .string ⟨y.t.toArray⟩, .slice yka y.keys.length ykc, .slice yia y.items.length yic] ∧ wz.heap[w2.heap.size]? = some (.cells #[.int .i64 y.k, .int .i64 y.n, .string ⟨y.t.toArray⟩, .slice yka y.keys.length ykc, .slice yia y.items.length yic] 26) ∧ RJ wz (· < wz.heap.size) x [.int .i64 x.k, .int .i64 x.n, .string ⟨x.t.toArray⟩, .slice xaka x.keys.length xakc, .slice xaia x.items.length xaic] ∧ wz.heap[w3.heap.size]? = some (.cells #[.int .i64 x.k, .int .i64 x.n, .string ⟨x.t.toArray⟩, .slice xaka x.keys.length xakc, .slice xaia x.items.length xaic] 26) ∧ RJ wz (· < wz.heap.size) y [.int .i64 y.k, .int .i64 y.n, .string ⟨y.t.toArray⟩, .slice yaka y.keys.length yakc, .slice yaia y.items.length yaic] ∧ wz.heap[w4.heap.size]? = some (.cells #[.int .i64 y.k, .int .i64 y.n, .string ⟨y.t.toArray⟩, .slice yaka y.keys.length yakc, .slice yaia y.items.length yaic] 26)); clear hx hB; have hx := h2; clear h2)
  refine hK.out _ _ ?_ (fun hHeld => ?_)
  · (first | exact CE.out _ hx | exact CE.out _ (UP.out _ _ hx (Below.refl _ _).drew))
  clear hK K
  try simp only [Act.put, tkS]
  refine wpAnyH_take (i := 15) (v := ?_) rfl (by kernel_rfl) (by kernel_rfl) (by kernel_rfl) (fun _ _ _ h => h) (Or.inl ⟨by kernel_rfl, ?_⟩) (by assumption) ?_
  rotate_left
  · (intro wS hSw; (try dsimp only at hSw); go_simp <;> with_reducible rfl)
  try simp only [Act.put, tkS]
  refine wpAnyH_take (i := 16) (v := ?_) rfl (by kernel_rfl) (by kernel_rfl) (by kernel_rfl) (fun _ _ _ h => h) (Or.inl ⟨by kernel_rfl, ?_⟩) (by assumption) ?_
  rotate_left
  · (intro wS hSw; (try dsimp only at hSw); go_simp <;> with_reducible rfl)
  try simp only [Act.put, tkS]
  refine wpAnyH_take (i := 17) (v := ?_) rfl (by kernel_rfl) (by kernel_rfl) (by kernel_rfl) (fun _ _ _ h => h) (Or.inl ⟨by kernel_rfl, ?_⟩) (by assumption) ?_
  rotate_left
  · (intro wS hSw; (try dsimp only at hSw); go_simp <;> with_reducible rfl)
  try simp only [Act.put, tkS]
  refine wpAnyH_take (i := 18) (v := ?_) rfl (by kernel_rfl) (by kernel_rfl) (by kernel_rfl) (fun _ _ _ h => h) (Or.inl ⟨by kernel_rfl, ?_⟩) (by assumption) ?_
  rotate_left
  · (intro wS hSw; (try dsimp only at hSw); go_simp <;> with_reducible rfl)
  try simp only [Act.put, tkS]
  refine wpAnyH_take (i := 19) (v := ?_) rfl (by kernel_rfl) (by kernel_rfl) (by kernel_rfl) (fun _ _ _ h => h) (Or.inl ⟨by kernel_rfl, ?_⟩) (by assumption) ?_
  rotate_left
  · (intro wS hSw; (try dsimp only at hSw); go_simp <;> with_reducible rfl)
  try simp only [Act.put, tkS]
  refine wpAnyH_take (i := 20) (v := ?_) rfl (by kernel_rfl) (by kernel_rfl) (by kernel_rfl) (fun _ _ _ h => h) (Or.inl ⟨by kernel_rfl, ?_⟩) (by assumption) ?_
  rotate_left
  · (intro wS hSw; (try dsimp only at hSw); go_simp <;> with_reducible rfl)
  try simp only [Act.put, tkS]
  refine wpAnyH_take (i := 21) (v := ?_) rfl (by kernel_rfl) (by kernel_rfl) (by kernel_rfl) (fun _ _ _ h => h) (Or.inl ⟨by kernel_rfl, ?_⟩) (by assumption) ?_
  rotate_left
  · (intro wS hSw; (try dsimp only at hSw); go_simp <;> with_reducible rfl)
  try simp only [Act.put, tkS]
  refine wpAnyH_take (i := 22) (v := ?_) rfl (by kernel_rfl) (by kernel_rfl) (by kernel_rfl) (fun _ _ _ h => h) (Or.inl ⟨by kernel_rfl, ?_⟩) (by assumption) ?_
  rotate_left
  · (intro wS hSw; (try dsimp only at hSw); go_simp <;> with_reducible rfl)
  try simp only [Act.put, tkS]
  refine wpAnyH_take (i := 23) (v := ?_) rfl (by kernel_rfl) (by kernel_rfl) (by kernel_rfl) (fun _ _ _ h => h) (Or.inl ⟨by kernel_rfl, ?_⟩) (by assumption) ?_
  rotate_left
  · (intro wS hSw; (try dsimp only at hSw); go_simp <;> with_reducible rfl)
  try simp only [Act.put, tkS]
  refine wpAnyH_take (i := 24) (v := ?_) rfl (by kernel_rfl) (by kernel_rfl) (by kernel_rfl) (fun _ _ _ h => h) (Or.inl ⟨by kernel_rfl, ?_⟩) (by assumption) ?_
  rotate_left
  · (intro wS hSw; (try dsimp only at hSw); go_simp <;> with_reducible rfl)
  try simp only [Act.put, tkS]
  refine wpAnyH_take (i := 25) (v := ?_) rfl (by kernel_rfl) (by kernel_rfl) (by kernel_rfl) (fun _ _ _ h => h) (Or.inl ⟨by kernel_rfl, ?_⟩) (by assumption) ?_
  rotate_left
  · (intro wS hSw; (try dsimp only at hSw); go_simp <;> with_reducible rfl)
  try simp only [Act.put, tkS]
  refine wpAnyH_take (i := 26) (v := ?_) rfl (by kernel_rfl) (by kernel_rfl) (by kernel_rfl) (fun _ _ _ h => h) (Or.inl ⟨by kernel_rfl, ?_⟩) (by assumption) ?_
  rotate_left
  · (intro wS hSw; (try dsimp only at hSw); go_simp <;> with_reducible rfl)
  try simp only [Act.put, tkS]
  refine wpAnyH_take (i := 28) (v := ?_) rfl (by kernel_rfl) (by kernel_rfl) (by kernel_rfl) (fun _ _ _ h => h) (Or.inl ⟨by kernel_rfl, ?_⟩) (by assumption) ?_
  rotate_left
  · (intro wS hSw; (try dsimp only at hSw); go_simp <;> with_reducible rfl)
  try simp only [Act.put, tkS]
  refine wpAnyH_take (i := 29) (v := ?_) rfl (by kernel_rfl) (by kernel_rfl) (by kernel_rfl) (fun _ _ _ h => h) (Or.inl ⟨by kernel_rfl, ?_⟩) (by assumption) ?_
  rotate_left
  · (intro wS hSw; (try dsimp only at hSw); go_simp <;> with_reducible rfl)
  try simp only [Act.put, tkS]
  refine wpAnyH_ready (rs := [27]) (by kernel_rfl) (by simp) (AllReadyH.cons rfl (fun K hK => ?_) AllReadyH.nil)
  go_simp
  (go_at_call 7; refine (SI.out _ (by first | exact hx.2.1 | exact (UP.out _ _ hx (Below.refl _ _).drew).2.1) (by first | exact hx.2.2.2.1 | exact (UP.out _ _ hx (Below.refl _ _).drew).2.2.2.1)).mono ?_; rintro e wz ⟨rfl, hB⟩; have h2 := (by first | exact UP.out _ _ hx hB | exact UP.out _ _ (UP.out _ _ hx (Below.refl _ _).drew) hB : Below w.heap.size w wz ∧ RJ wz (· < wz.heap.size) x [.int .i64 x.k, .int .i64 x.n, .string ⟨x.t.toArray⟩, .slice xka x.keys.length xkc, .slice xia x.items.length xic] ∧ wz.heap[w1.heap.size]? = some (.cells #[.int .i64 x.k, .int .i64 x.n, .string ⟨x.t.toArray⟩, .slice xka x.keys.length xkc, .slice xia x.items.length xic] 26) ∧ RJ wz (· < wz.heap.size) y [.int .i64 y.k, .int .i64 y.n, .string ⟨y.t.toArray⟩, .slice yka y.keys.length ykc, .slice yia y.items.length yic] ∧ wz.heap[w2.heap.size]? = some (.cells #[.int .i64 y.k, .int .i64 y.n, .string ⟨y.t.toArray⟩, .slice yka y.keys.length ykc, .slice yia y.items.length yic] 26) ∧ RJ wz (· < wz.heap.size) x [.int .i64 x.k, .int .i64 x.n, .string ⟨x.t.toArray⟩, .slice xaka x.keys.length xakc, .slice xaia x.items.length xaic] ∧ wz.heap[w3.heap.size]? = some (.cells #[.int .i64 x.k, .int .i64 x.n, .string ⟨x.t.toArray⟩, .slice xaka x.keys.length xakc, .slice xaia x.items.length xaic] 26) ∧ RJ wz (· < wz.heap.size) y [.int .i64 y.k, .int .i64 y.n, .string ⟨y.t.toArray⟩, .slice yaka y.keys.length yakc, .slice yaia y.items.length yaic] ∧ wz.heap[w4.heap.size]? = some (.cells #[.int .i64 y.k, .int .i64 y.n, .string ⟨y.t.toArray⟩, .slice yaka y.keys.length yakc, .slice yaia y.items.length yaic] 26)); clear hx hB; have hx := h2; clear h2)
  refine hK.out _ _ ?_ (fun hHeld => ?_)
  · (first | exact CE.out _ hx | exact CE.out _ (UP.out _ _ hx (Below.refl _ _).drew))
  clear hK K
  try simp only [Act.put, tkS]
  refine wpAnyH_ready (rs := [30]) (by kernel_rfl) (by simp) (AllReadyH.cons rfl (fun K hK => ?_) AllReadyH.nil)
  go_simp
  (go_at_call 6; refine (SC.out _ (by first | exact hx.2.1 | exact (UP.out _ _ hx (Below.refl _ _).drew).2.1) (by first | exact hx.2.2.2.1 | exact (UP.out _ _ hx (Below.refl _ _).drew).2.2.2.1)).mono ?_; rintro e wz ⟨rfl, hB⟩; have h2 := (by first | exact UP.out _ _ hx hB | exact UP.out _ _ (UP.out _ _ hx (Below.refl _ _).drew) hB : Below w.heap.size w wz ∧ RJ wz (· < wz.heap.size) x [.int .i64 x.k, .int .i64 x.n, .string ⟨x.t.toArray⟩, .slice xka x.keys.length xkc, .slice xia x.items.length xic] ∧ wz.heap[w1.heap.size]? = some (.cells #[.int .i64 x.k, .int .i64 x.n, .string ⟨x.t.toArray⟩, .slice xka x.keys.length xkc, .slice xia x.items.length xic] 26) ∧ RJ wz (· < wz.heap.size) y [.int .i64 y.k, .int .i64 y.n, .string ⟨y.t.toArray⟩, .slice yka y.keys.length ykc, .slice yia y.items.length yic] ∧ wz.heap[w2.heap.size]? = some (.cells #[.int .i64 y.k, .int .i64 y.n, .string ⟨y.t.toArray⟩, .slice yka y.keys.length ykc, .slice yia y.items.length yic] 26) ∧ RJ wz (· < wz.heap.size) x [.int .i64 x.k, .int .i64 x.n, .string ⟨x.t.toArray⟩, .slice xaka x.keys.length xakc, .slice xaia x.items.length xaic] ∧ wz.heap[w3.heap.size]? = some (.cells #[.int .i64 x.k, .int .i64 x.n, .string ⟨x.t.toArray⟩, .slice xaka x.keys.length xakc, .slice xaia x.items.length xaic] 26) ∧ RJ wz (· < wz.heap.size) y [.int .i64 y.k, .int .i64 y.n, .string ⟨y.t.toArray⟩, .slice yaka y.keys.length yakc, .slice yaia y.items.length yaic] ∧ wz.heap[w4.heap.size]? = some (.cells #[.int .i64 y.k, .int .i64 y.n, .string ⟨y.t.toArray⟩, .slice yaka y.keys.length yakc, .slice yaia y.items.length yaic] 26)); clear hx hB; have hx := h2; clear h2)
  refine hK.out _ _ ?_ (fun hHeld => ?_)
  · (first | exact CE.out _ hx | exact CE.out _ (UP.out _ _ hx (Below.refl _ _).drew))
  clear hK K
  try simp only [Act.put, tkS]
  refine wpAnyH_take (i := 31) (v := ?_) rfl (by kernel_rfl) (by kernel_rfl) (by kernel_rfl) (fun _ _ _ h => h) (Or.inl ⟨by kernel_rfl, ?_⟩) (by assumption) ?_
  rotate_left
  · (intro wS hSw; (try dsimp only at hSw); go_simp <;> with_reducible rfl)
  try simp only [Act.put, tkS]
  refine wpAnyH_take (i := 32) (v := ?_) rfl (by kernel_rfl) (by kernel_rfl) (by kernel_rfl) (fun _ _ _ h => h) (Or.inl ⟨by kernel_rfl, ?_⟩) (by assumption) ?_
  rotate_left
  · (intro wS hSw; (try dsimp only at hSw); go_simp <;> with_reducible rfl)
  try simp only [Act.put, tkS]
  refine wpAnyH_take (i := 33) (v := ?_) rfl (by kernel_rfl) (by kernel_rfl) (by kernel_rfl) (fun _ _ _ h => h) (Or.inl ⟨by kernel_rfl, ?_⟩) (by assumption) ?_
  rotate_left
  · (intro wS hSw; (try dsimp only at hSw); go_simp <;> with_reducible rfl)
  try simp only [Act.put, tkS]
  refine wpAnyH_done (by kernel_rfl) ?_ _
  have HFI := Lib.hid (hx.1)
  clear hx
  go_wp2_with fail
  go_ret
  exact ⟨rfl, HFI.out⟩
end Go.Proofs.Ytmmcnalhmpkkmaa
