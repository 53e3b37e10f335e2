import Derived.Test.YtkncpfhblciplaaYbb
import Derived.Test.YtkncpfhblciplaaYbd
import Derived.Test.YtkncpfhblciplaaYba
import Derived.Test.YtkncpfhblciplaaYai
namespace Go.Proofs.Ytkncpfhblciplaa
open Go.RowKit
set_option linter.unusedSimpArgs false
variable {w W W' : World} {l A X G : List At} {pa pw px pg : Option Addr} {s1 s2 s3 : Nat}
theorem ofR_len (l : List At) : (ofR l).length ≤ 8 := by
  unfold ofR
  split
  · omega
  · simp
end Go.Proofs.Ytkncpfhblciplaa
namespace Go.Proofs.Ytkncpfhblciplaa
open Go.RowKit
set_option linter.unusedSimpArgs false
theorem AAns2.base {w W w' : World} {l : List At} {c : Int} {e : Ending} (h : AAns2 W l c e w') (hb : Below w.heap.size w W) : AAns2 w l c e w' := by
  obtain ⟨a, cp, he, ho, hB⟩ := h
  exact ⟨a, cp, he, ho.same (fun _ _ => rfl) (fun b hb' => ⟨Nat.le_trans hb.size hb'.1, hb'.2⟩), hb.trans (hB.mono hb.size)⟩
end Go.Proofs.Ytkncpfhblciplaa
namespace Go.Proofs.Ytkncpfhblciplaa
open Go.RowKit
set_option linter.unusedSimpArgs false
def OkAns (d : Nat) (j : J) (w : World) (e : Ending) (w' : World) : Prop :=
  ∃ n : Int, e = .returned (.tuple #[.int .i64 n, .bool (okD d j)]) ∧ 0 ≤ n ∧ n ≤ 400 ∧ (okD d j = true → left 400 (cnt d j) = 400 - n) ∧ Below w.heap.size w w'
def OkSaid (d : Nat) : Prop := ∀ (j : J) (cs : List Value) (B : Nat → Prop) (w : World), RJ w B j cs →
    Calls Try.prog 83 #[.agg cs.toArray, .int .i64 (d : Int)] w (OkAns d j w)
theorem ret_ib {n : Int} {a b : Bool} (h : a = b) : Ending.returned (.tuple #[.int .i64 n, .bool a]) = .returned (.tuple #[.int .i64 n, .bool b]) := by rw [h]
theorem ok_zero (j : J) : okD 0 j = false := rfl
theorem ok_nopart {d : Nat} {j : J} (h : partB j = false) : okD (d + 1) j = false := by unfold okD; rw [cnt_nopart h]; rfl
set_option maxRecDepth 100000 in
set_option maxHeartbeats 800000 in
theorem ok0 : OkSaid 0 := by
  intro j cs B w hr
  rw [RJ_eq] at hr
  obtain ⟨ka, kc, ia, ic, rfl, -⟩ := hr
  have HO : Hid (okD 0 j = false) := ok_zero j
  go_enter Try.func83, Try.ntmps83
  go_wp2_with fail
  go_ret2
  exact ⟨0, ret_ib HO.out.symm, by omega, by omega, (fun h => by rw [HO.out] at h; cases h), (Below.refl _ _).alloc (Nat.le_refl _) _⟩
set_option maxRecDepth 100000 in
set_option maxHeartbeats 8000000 in
theorem okL0 (d : Nat) (hd : d ≤ 12) (j : J) (h0 : j.k = 0) (ka ia : Option Addr) (kc ic : Nat) (w : World) (ht : j.t.length ≤ maxLen) :
    Calls Try.prog 83 #[.agg #[.int .i64 j.k, .int .i64 j.n, .string ⟨j.t.toArray⟩, .slice ka j.keys.length kc, .slice ia j.items.length ic], .int .i64 ((d : Int) + 1)] w (OkAns (d + 1) j w) := by
  have HTL : Hid (j.t.length ≤ maxLen) := ht
  obtain ⟨ho, hleft⟩ := ok_leaf (d := d) (j := j) (by omega)
  rw [part0 h0] at ho
  have HO : Hid (okD (d + 1) j = _) := ho
  have HF : Hid (okD (d + 1) j = true → left 400 (cnt (d + 1) j) = 400 - 1) := hleft
  clear ho hleft ht
  have hdz : ((d : Int) + 1 == 0) = false := by simp; omega
  rw [h0]
  clear h0
  cases ek : ((j.keys.length : Int) == 0)
  all_goals cases ei : ((j.items.length : Int) == 0)
  all_goals cases en : (j.n == 0)
  all_goals cases et : j.t.isEmpty
  all_goals
    go_enter Try.func83, Try.ntmps83
    go_wp2_with (fail)
    try go_quiet (fail)
    try go_wp2_with (fail)
    go_ret2
    refine ⟨1, ret_ib ?_, by omega, by omega, HF.out, ?_⟩
    · rw [HO.out]; simp [noKeys, noItems, ek, ei, en, et]
    · first | exact (Below.refl _ _).alloc (Nat.le_refl _) _ | exact below_drewN ((Below.refl _ _).alloc (Nat.le_refl _) _) _
set_option maxRecDepth 100000 in
set_option maxHeartbeats 8000000 in
theorem okL1 (d : Nat) (hd : d ≤ 12) (j : J) (h0 : j.k = 1) (ka ia : Option Addr) (kc ic : Nat) (w : World) (ht : j.t.length ≤ maxLen) :
    Calls Try.prog 83 #[.agg #[.int .i64 j.k, .int .i64 j.n, .string ⟨j.t.toArray⟩, .slice ka j.keys.length kc, .slice ia j.items.length ic], .int .i64 ((d : Int) + 1)] w (OkAns (d + 1) j w) := by
  have HTL : Hid (j.t.length ≤ maxLen) := ht
  obtain ⟨ho, hleft⟩ := ok_leaf (d := d) (j := j) (by omega)
  rw [part1 h0] at ho
  have HO : Hid (okD (d + 1) j = _) := ho
  have HF : Hid (okD (d + 1) j = true → left 400 (cnt (d + 1) j) = 400 - 1) := hleft
  clear ho hleft ht
  have hdz : ((d : Int) + 1 == 0) = false := by simp; omega
  rw [h0]
  clear h0
  cases ek : ((j.keys.length : Int) == 0)
  all_goals cases ei : ((j.items.length : Int) == 0)
  all_goals cases en : (inB 0 j.n 1)
  all_goals cases et : j.t.isEmpty
  all_goals
    go_enter Try.func83, Try.ntmps83
    go_wp2_with (fail)
    try go_quiet ((go_at_call 71; exact Calls.quiet_of_same ((inS _ _ _ _).mono fun e w' h => h)))
    try go_wp2_with (fail)
    go_ret2
    refine ⟨1, ret_ib ?_, by omega, by omega, HF.out, ?_⟩
    · rw [HO.out]; simp [noKeys, noItems, ek, ei, en, et]
    · first | exact (Below.refl _ _).alloc (Nat.le_refl _) _ | exact below_drewN ((Below.refl _ _).alloc (Nat.le_refl _) _) _
set_option maxRecDepth 100000 in
set_option maxHeartbeats 8000000 in
theorem okL2 (d : Nat) (hd : d ≤ 12) (j : J) (h0 : j.k = 2) (ka ia : Option Addr) (kc ic : Nat) (w : World) (ht : j.t.length ≤ maxLen) :
    Calls Try.prog 83 #[.agg #[.int .i64 j.k, .int .i64 j.n, .string ⟨j.t.toArray⟩, .slice ka j.keys.length kc, .slice ia j.items.length ic], .int .i64 ((d : Int) + 1)] w (OkAns (d + 1) j w) := by
  have HTL : Hid (j.t.length ≤ maxLen) := ht
  obtain ⟨ho, hleft⟩ := ok_leaf (d := d) (j := j) (by omega)
  rw [part2 h0] at ho
  have HO : Hid (okD (d + 1) j = _) := ho
  have HF : Hid (okD (d + 1) j = true → left 400 (cnt (d + 1) j) = 400 - 1) := hleft
  clear ho hleft ht
  have hdz : ((d : Int) + 1 == 0) = false := by simp; omega
  rw [h0]
  clear h0
  cases ek : ((j.keys.length : Int) == 0)
  all_goals cases ei : ((j.items.length : Int) == 0)
  all_goals cases en : (inB (-1000000000) j.n 1000000000)
  all_goals cases et : j.t.isEmpty
  all_goals
    go_enter Try.func83, Try.ntmps83
    go_wp2_with (fail)
    try go_quiet ((go_at_call 71; exact Calls.quiet_of_same ((inS _ _ _ _).mono fun e w' h => h)))
    try go_wp2_with (fail)
    go_ret2
    refine ⟨1, ret_ib ?_, by omega, by omega, HF.out, ?_⟩
    · rw [HO.out]; simp [noKeys, noItems, ek, ei, en, et]
    · first | exact (Below.refl _ _).alloc (Nat.le_refl _) _ | exact below_drewN ((Below.refl _ _).alloc (Nat.le_refl _) _) _
set_option maxRecDepth 100000 in
set_option maxHeartbeats 8000000 in
theorem okL3 (d : Nat) (hd : d ≤ 12) (j : J) (h0 : j.k = 3) (ka ia : Option Addr) (kc ic : Nat) (w : World) (ht : j.t.length ≤ maxLen) :
    Calls Try.prog 83 #[.agg #[.int .i64 j.k, .int .i64 j.n, .string ⟨j.t.toArray⟩, .slice ka j.keys.length kc, .slice ia j.items.length ic], .int .i64 ((d : Int) + 1)] w (OkAns (d + 1) j w) := by
  have HTL : Hid (j.t.length ≤ maxLen) := ht
  obtain ⟨ho, hleft⟩ := ok_leaf (d := d) (j := j) (by omega)
  rw [part3 h0] at ho
  have HO : Hid (okD (d + 1) j = _) := ho
  have HF : Hid (okD (d + 1) j = true → left 400 (cnt (d + 1) j) = 400 - 1) := hleft
  clear ho hleft ht
  have hdz : ((d : Int) + 1 == 0) = false := by simp; omega
  rw [h0]
  clear h0
  cases ek : ((j.keys.length : Int) == 0)
  all_goals cases ei : ((j.items.length : Int) == 0)
  all_goals cases en : (j.n == 0)
  all_goals cases et : (textB j.t)
  all_goals
    go_enter Try.func83, Try.ntmps83
    go_wp2_with ((go_at_call 72; refine (textS _ _ HTL.out).mono ?_; rintro e w' ⟨rfl, rfl⟩))
    try go_quiet (fail)
    try go_wp2_with ((go_at_call 72; refine (textS _ _ HTL.out).mono ?_; rintro e w' ⟨rfl, rfl⟩))
    go_ret2
    refine ⟨1, ret_ib ?_, by omega, by omega, HF.out, ?_⟩
    · rw [HO.out]; simp [noKeys, noItems, ek, ei, en, et]
    · first | exact (Below.refl _ _).alloc (Nat.le_refl _) _ | exact below_drewN ((Below.refl _ _).alloc (Nat.le_refl _) _) _
end Go.Proofs.Ytkncpfhblciplaa
