import Derived.Test.YtdioppekeekilaaGreatDoorMad
import Derived.Test.YtdioppekeekilaaGreatDoorMab
import Derived.Test.YtdioppekeekilaaGreatDoorMaa
import Derived.Test.YtdioppekeekilaaGreatDoorMae
import Derived.Lib.Hide
namespace Go.Proofs.YtdioppekeekilaaGreatDoor
open Go.RowKit
set_option linter.unusedSimpArgs false
def Cl.sz (c : Cl) : Nat := c.nm.length + c.rf.length
/-- what holds of a column by its kind -/
def kindB (c : Cl) : Bool :=
  if c.k = 1 then inB (-1000000000) c.lo 1000000000 && (inB (-1000000000) c.hi 1000000000 && (decide (c.lo ≤ c.hi) && (c.rf.isEmpty && !c.st)))
  else if c.k = 4 then (c.mn == 0) && ((c.lo == 0) && ((c.hi == 0) && nameB c.rf))
  else if c.k = 2 ∨ c.k = 3 then (c.lo == 0) && ((c.hi == 0) && (c.rf.isEmpty && !c.st))
  else false
/-- when a column is right -/
def colB (c : Cl) : Bool := nameB c.nm && (inB 0 c.mn 1 && (inB 1 c.mx 8 && kindB c))
theorem name_empty : nameB [] = false := rfl
theorem name_len {t : List UInt8} (h : nameB t = true) : t.length ≤ 40 := by
  unfold nameB at h; simp at h; exact h.1.2
theorem colB_kind {c : Cl} (h : colB c = true) : 1 ≤ c.k ∧ c.k ≤ 4 := by
  unfold colB kindB at h
  by_cases h1 : c.k = 1
  · omega
  by_cases h4 : c.k = 4
  · omega
  by_cases h2 : c.k = 2 ∨ c.k = 3
  · omega
  · rw [if_neg h1, if_neg h4, if_neg h2] at h; simp at h
theorem heap_keptC {w w' : World} {b : Nat} {o : Obj} (h : w.heap[b]? = some o) (hB : Below w.heap.size w w') : w'.heap[b]? = some o := by
  rw [hB.block b (Array.getElem?_eq_some_iff.1 h).1]; exact h
theorem heap_newC (w : World) (o : Obj) : (w.alloc o).heap[w.heap.size]? = some o := by
  show (w.heap.push o)[w.heap.size]? = _
  simp
/-- a column in its box, the box made at w -/
def BoxC (ty : TypeId) (w W : World) (c : Cl) : Prop := W.heap[w.heap.size]? = some (.cells #[.string ⟨c.nm.toArray⟩, .int .i64 c.k, .int .i64 c.mn, .int .i64 c.mx, .int .i64 c.lo, .int .i64 c.hi, .string ⟨c.rf.toArray⟩, .bool c.st] ty) ∧ Below w.heap.size w W
theorem BoxC.later {ty : TypeId} {w W W' : World} {c : Cl} (h : BoxC ty w W c) (hB : Below W.heap.size W W') : BoxC ty w W' c := ⟨heap_keptC h.1 hB, h.2.trans (hB.mono h.2.size)⟩
theorem boxC (ty : TypeId) (w : World) (c : Cl) : BoxC ty w (w.alloc (.cells #[.string ⟨c.nm.toArray⟩, .int .i64 c.k, .int .i64 c.mn, .int .i64 c.mx, .int .i64 c.lo, .int .i64 c.hi, .string ⟨c.rf.toArray⟩, .bool c.st] ty)) c := ⟨heap_newC _ _, (Below.refl _ _).alloc (Nat.le_refl _) _⟩
theorem BoxC.drew {ty : TypeId} {w W : World} {c : Cl} (h : BoxC ty w W c) : BoxC ty w W.drew c := h.later (Below.refl _ _).drew
theorem BoxC.drewN {ty : TypeId} {w W : World} {c : Cl} (h : BoxC ty w W c) (n : Nat) : BoxC ty w (W.drewN n) c := h.later (below_drewN (Below.refl _ _) n)
set_option maxHeartbeats 800000 in
theorem szColumn (x : Cl) (L : Int) (w : World) (h0 : 0 ≤ L) (h1 : L ≤ 1048576) (ht : x.nm.length ≤ maxLen) (hr : x.rf.length ≤ maxLen) :
    Calls Tryz.prog 44 #[.agg #[.string ⟨x.nm.toArray⟩, .int .i64 x.k, .int .i64 x.mn, .int .i64 x.mx, .int .i64 x.lo, .int .i64 x.hi, .string ⟨x.rf.toArray⟩, .bool x.st], .int .i64 L] w fun e w' => e = .returned (.int .i64 (lessI L x.sz)) ∧ Below w.heap.size w w' := by
  unfold maxLen at ht hr
  by_cases hn : L - (x.nm.length : Int) < 0
  · have HR : Hid (lessI L x.sz = -1) := by show lessI L x.sz = -1; unfold lessI Cl.sz; rw [if_neg (by omega)]
    go_enter Tryz.func44, Tryz.ntmps44
    go_wp2_with fail
    go_ret
    exact ⟨ret_i HR.out.symm, (Below.refl _ _).alloc (Nat.le_refl _) _⟩
  have d1 : decide (L - (x.nm.length : Int) < 0) = false := decide_eq_false hn
  by_cases hm : L - (x.nm.length : Int) - (x.rf.length : Int) < 0
  · have HR : Hid (lessI L x.sz = -1) := by show lessI L x.sz = -1; unfold lessI Cl.sz; rw [if_neg (by omega)]
    have d2 : decide (L - (x.nm.length : Int) - (x.rf.length : Int) < 0) = true := decide_eq_true hm
    go_enter Tryz.func44, Tryz.ntmps44
    go_wp2_with fail
    go_ret
    exact ⟨ret_i HR.out.symm, (Below.refl _ _).alloc (Nat.le_refl _) _⟩
  · have HR : Hid (lessI L x.sz = L - (x.nm.length : Int) - (x.rf.length : Int)) := by show lessI L x.sz = _; unfold lessI Cl.sz; rw [if_pos (by omega)]; omega
    have d2 : decide (L - (x.nm.length : Int) - (x.rf.length : Int) < 0) = false := decide_eq_false hm
    go_enter Tryz.func44, Tryz.ntmps44
    go_wp2_with fail
    go_ret
    exact ⟨ret_i HR.out.symm, (Below.refl _ _).alloc (Nat.le_refl _) _⟩
set_option maxHeartbeats 800000 in
theorem toColumn (x : Cl) (w : World) :
    Calls Tryz.prog 54 #[.agg #[.string ⟨x.nm.toArray⟩, .int .i64 x.k, .int .i64 x.mn, .int .i64 x.mx, .int .i64 x.lo, .int .i64 x.hi, .string ⟨x.rf.toArray⟩, .bool x.st]] w fun e w' => e = .returned (.agg #[.string ⟨x.nm.toArray⟩, .int .i64 x.k, .int .i64 x.mn, .int .i64 x.mx, .int .i64 x.lo, .int .i64 x.hi, .string ⟨x.rf.toArray⟩, .bool x.st]) ∧ Below w.heap.size w w' := by
  go_enter Tryz.func54, Tryz.ntmps54
  go_wp2_with fail
  exact bodyPost_ret (v := .agg #[.string ⟨x.nm.toArray⟩, .int .i64 x.k, .int .i64 x.mn, .int .i64 x.mx, .int .i64 x.lo, .int .i64 x.hi, .string ⟨x.rf.toArray⟩, .bool x.st]) (by simp [results, Tryz.results54, go_sem]) rfl ⟨rfl, (((Below.refl _ _).alloc (Nat.le_refl _) _).alloc (by simp) _).alloc (by simp; omega) _⟩
end Go.Proofs.YtdioppekeekilaaGreatDoor
namespace Go.Proofs.YtdioppekeekilaaGreatDoor
open Go.RowKit
set_option linter.unusedSimpArgs false
theorem end_bC {a x y : Bool} (HP : Hid (a = x)) (h : y = x) : y = a := by rw [HP.out]; exact h
theorem kind1 {c : Cl} (h : c.k = 1) : kindB c = (inB (-1000000000) c.lo 1000000000 && (inB (-1000000000) c.hi 1000000000 && (decide (c.lo ≤ c.hi) && (c.rf.isEmpty && !c.st)))) := by unfold kindB; rw [if_pos h]
theorem kind1s {c : Cl} (h : c.k = 1) : kindB c = (inB (-1000000000) c.lo c.hi && (inB c.lo c.hi 1000000000 && (c.rf.isEmpty && !c.st))) := by
  rw [kind1 h, Bool.eq_iff_iff]
  simp [inB]
  constructor
  · rintro ⟨⟨a, b⟩, ⟨c, d⟩, e, f⟩; exact ⟨⟨a, e⟩, ⟨e, d⟩, f⟩
  · rintro ⟨⟨a, b⟩, ⟨c, d⟩, f⟩; exact ⟨⟨a, by omega⟩, ⟨by omega, d⟩, b, f⟩
theorem kind4 {c : Cl} (h : c.k = 4) : kindB c = ((c.mn == 0) && ((c.lo == 0) && ((c.hi == 0) && nameB c.rf))) := by unfold kindB; rw [if_neg (by omega), if_pos h]
theorem kind23 {c : Cl} (h : c.k = 2 ∨ c.k = 3) : kindB c = ((c.lo == 0) && ((c.hi == 0) && (c.rf.isEmpty && !c.st))) := by unfold kindB; rw [if_neg (by omega), if_neg (by omega), if_pos h]
theorem kindN {c : Cl} (h : c.k < 1 ∨ 4 < c.k) : kindB c = false := by unfold kindB; rw [if_neg (by omega), if_neg (by omega), if_neg (by omega)]
theorem col_no {c : Cl} (h : nameB c.nm = false) : colB c = false := by unfold colB; rw [h]; rfl
theorem col_mn {c : Cl} (h : inB 0 c.mn 1 = false) : colB c = false := by unfold colB; rw [h]; simp
theorem col_mx {c : Cl} (h : inB 1 c.mx 8 = false) : colB c = false := by unfold colB; rw [h]; simp
theorem col_kn {c : Cl} (h : kindB c = false) : colB c = false := by unfold colB; rw [h]; simp
theorem col_yes {c : Cl} (h : nameB c.nm = true) (h1 : inB 0 c.mn 1 = true) (h2 : inB 1 c.mx 8 = true) : colB c = kindB c := by unfold colB; rw [h, h1, h2]; simp
set_option maxHeartbeats 3200000 in
theorem columnOKs (c : Cl) (w : World) (ht : c.nm.length ≤ maxLen) (hr : c.rf.length ≤ maxLen) :
    Calls Tryz.prog 66 #[.agg #[.string ⟨c.nm.toArray⟩, .int .i64 c.k, .int .i64 c.mn, .int .i64 c.mx, .int .i64 c.lo, .int .i64 c.hi, .string ⟨c.rf.toArray⟩, .bool c.st]] w fun e w' => e = .returned (.bool (colB c)) ∧ Below w.heap.size w w' := by
  have HT : Hid (c.nm.length ≤ maxLen ∧ c.rf.length ≤ maxLen) := ⟨ht, hr⟩
  clear ht hr
  cases hn : nameB c.nm
  · have HP : Hid (colB c = false) := col_no hn
    go_enter Tryz.func66, Tryz.ntmps66
    go_wp2_with (first | (go_at_call 48; refine (inS _ _ _ _).mono ?_; rintro e w' ⟨rfl, rfl⟩) | (go_at_call 65; refine (nameS _ _ (by first | exact HT.out.1 | exact HT.out.2)).mono ?_; rintro e w' ⟨rfl, rfl⟩))
    go_ret
    exact ⟨ret_b (end_bC HP rfl), (Below.refl _ _).alloc (Nat.le_refl _) _⟩
  cases hk : inB 1 c.k 4
  · have HP : Hid (colB c = false) := col_kn (kindN (by unfold inB at hk; simp at hk; omega))
    go_enter Tryz.func66, Tryz.ntmps66
    go_wp2_with (first | (go_at_call 48; refine (inS _ _ _ _).mono ?_; rintro e w' ⟨rfl, rfl⟩) | (go_at_call 65; refine (nameS _ _ (by first | exact HT.out.1 | exact HT.out.2)).mono ?_; rintro e w' ⟨rfl, rfl⟩))
    go_ret
    exact ⟨ret_b (end_bC HP rfl), (Below.refl _ _).alloc (Nat.le_refl _) _⟩
  cases h1 : inB 0 c.mn 1
  · have HP : Hid (colB c = false) := col_mn h1
    go_enter Tryz.func66, Tryz.ntmps66
    go_wp2_with (first | (go_at_call 48; refine (inS _ _ _ _).mono ?_; rintro e w' ⟨rfl, rfl⟩) | (go_at_call 65; refine (nameS _ _ (by first | exact HT.out.1 | exact HT.out.2)).mono ?_; rintro e w' ⟨rfl, rfl⟩))
    go_ret
    exact ⟨ret_b (end_bC HP rfl), (Below.refl _ _).alloc (Nat.le_refl _) _⟩
  cases h2 : inB 1 c.mx 8
  · have HP : Hid (colB c = false) := col_mx h2
    go_enter Tryz.func66, Tryz.ntmps66
    go_wp2_with (first | (go_at_call 48; refine (inS _ _ _ _).mono ?_; rintro e w' ⟨rfl, rfl⟩) | (go_at_call 65; refine (nameS _ _ (by first | exact HT.out.1 | exact HT.out.2)).mono ?_; rintro e w' ⟨rfl, rfl⟩))
    go_ret
    exact ⟨ret_b (end_bC HP rfl), (Below.refl _ _).alloc (Nat.le_refl _) _⟩
  have HY : Hid (colB c = kindB c) := col_yes hn h1 h2
  have hk4 : 1 ≤ c.k ∧ c.k ≤ 4 := by unfold inB at hk; simpa using hk
  rcases (by omega : c.k = 1 ∨ c.k = 4 ∨ (c.k = 2 ∨ c.k = 3)) with k | k | k
  · have HP : Hid (colB c = _) := HY.out.trans (kind1s k)
    rw [k] at hk ⊢
    clear hk4 HY
    go_enter Tryz.func66, Tryz.ntmps66
    go_wp2_with (first | (go_at_call 48; refine (inS _ _ _ _).mono ?_; rintro e w' ⟨rfl, rfl⟩) | (go_at_call 65; refine (nameS _ _ (by first | exact HT.out.1 | exact HT.out.2)).mono ?_; rintro e w' ⟨rfl, rfl⟩))
    all_goals
      go_ret
      exact ⟨ret_b (end_bC HP (by simp [*])), (Below.refl _ _).alloc (Nat.le_refl _) _⟩
  · have HP : Hid (colB c = _) := HY.out.trans (kind4 k)
    rw [k] at hk ⊢
    clear hk4 HY
    by_cases hlo : c.lo = 0
    case neg =>
      have HP : Hid (colB c = false) := by show colB c = false; rw [HP.out]; simp [hlo]
      have e1 : (c.lo != 0) = true := by simpa using hlo
      clear hlo
      go_enter Tryz.func66, Tryz.ntmps66
      go_wp2_with (first | (go_at_call 48; refine (inS _ _ _ _).mono ?_; rintro e w' ⟨rfl, rfl⟩) | (go_at_call 65; refine (nameS _ _ (by first | exact HT.out.1 | exact HT.out.2)).mono ?_; rintro e w' ⟨rfl, rfl⟩))
      all_goals
        go_ret
        exact ⟨ret_b (end_bC HP (by simp [*])), (Below.refl _ _).alloc (Nat.le_refl _) _⟩
    by_cases hhi : c.hi = 0
    case neg =>
      have HP : Hid (colB c = false) := by show colB c = false; rw [HP.out]; simp [hhi]
      have e1 : (c.hi != 0) = true := by simpa using hhi
      rw [hlo]
      clear hhi
      go_enter Tryz.func66, Tryz.ntmps66
      go_wp2_with (first | (go_at_call 48; refine (inS _ _ _ _).mono ?_; rintro e w' ⟨rfl, rfl⟩) | (go_at_call 65; refine (nameS _ _ (by first | exact HT.out.1 | exact HT.out.2)).mono ?_; rintro e w' ⟨rfl, rfl⟩))
      all_goals
        go_ret
        exact ⟨ret_b (end_bC HP (by simp [*])), (Below.refl _ _).alloc (Nat.le_refl _) _⟩
    rw [hlo, hhi]
    go_enter Tryz.func66, Tryz.ntmps66
    go_wp2_with (first | (go_at_call 48; refine (inS _ _ _ _).mono ?_; rintro e w' ⟨rfl, rfl⟩) | (go_at_call 65; refine (nameS _ _ (by first | exact HT.out.1 | exact HT.out.2)).mono ?_; rintro e w' ⟨rfl, rfl⟩))
    all_goals
      go_ret
      exact ⟨ret_b (end_bC HP (by simp [*])), (Below.refl _ _).alloc (Nat.le_refl _) _⟩
  · have HP : Hid (colB c = _) := HY.out.trans (kind23 k)
    have k1 : (c.k == 1) = false := by simp; omega
    have k4 : (c.k == 4) = false := by simp; omega
    clear hk4 HY k
    by_cases hlo : c.lo = 0
    case neg =>
      have HP : Hid (colB c = false) := by show colB c = false; rw [HP.out]; simp [hlo]
      have e1 : (c.lo != 0) = true := by simpa using hlo
      clear hlo
      go_enter Tryz.func66, Tryz.ntmps66
      go_wp2_with (first | (go_at_call 48; refine (inS _ _ _ _).mono ?_; rintro e w' ⟨rfl, rfl⟩) | (go_at_call 65; refine (nameS _ _ (by first | exact HT.out.1 | exact HT.out.2)).mono ?_; rintro e w' ⟨rfl, rfl⟩))
      all_goals
        go_ret
        exact ⟨ret_b (end_bC HP (by simp [*])), (Below.refl _ _).alloc (Nat.le_refl _) _⟩
    by_cases hhi : c.hi = 0
    case neg =>
      have HP : Hid (colB c = false) := by show colB c = false; rw [HP.out]; simp [hhi]
      have e1 : (c.hi != 0) = true := by simpa using hhi
      rw [hlo]
      clear hhi
      go_enter Tryz.func66, Tryz.ntmps66
      go_wp2_with (first | (go_at_call 48; refine (inS _ _ _ _).mono ?_; rintro e w' ⟨rfl, rfl⟩) | (go_at_call 65; refine (nameS _ _ (by first | exact HT.out.1 | exact HT.out.2)).mono ?_; rintro e w' ⟨rfl, rfl⟩))
      all_goals
        go_ret
        exact ⟨ret_b (end_bC HP (by simp [*])), (Below.refl _ _).alloc (Nat.le_refl _) _⟩
    rw [hlo, hhi]
    go_enter Tryz.func66, Tryz.ntmps66
    go_wp2_with (first | (go_at_call 48; refine (inS _ _ _ _).mono ?_; rintro e w' ⟨rfl, rfl⟩) | (go_at_call 65; refine (nameS _ _ (by first | exact HT.out.1 | exact HT.out.2)).mono ?_; rintro e w' ⟨rfl, rfl⟩))
    all_goals
      go_ret
      exact ⟨ret_b (end_bC HP (by simp [*])), (Below.refl _ _).alloc (Nat.le_refl _) _⟩
end Go.Proofs.YtdioppekeekilaaGreatDoor
namespace Go.Proofs.YtdioppekeekilaaGreatDoor
open Go.RowKit
set_option linter.unusedSimpArgs false
/-- a row of n cells, in a block of which B holds -/
def Rw (w : World) (B : Nat → Prop) (a : Option Addr) (n : Nat) (f : Nat → Value) : Prop :=
  n = 0 ∨ ∃ b off, a = some ⟨b, off, none⟩ ∧ B b ∧ ∀ m, m < n → w.cell? ⟨b, off + m, none⟩ = some (f m)
theorem Rw.same {w w' : World} {B B' : Nat → Prop} {a : Option Addr} {n : Nat} {f : Nat → Value} (h : Rw w B a n f) (hs : ∀ b, B b → w'.heap[b]? = w.heap[b]?) (hB : ∀ b, B b → B' b) : Rw w' B' a n f := by
  rcases h with h | ⟨b, off, ha, hb, hc⟩
  · exact .inl h
  · exact .inr ⟨b, off, ha, hB b hb, fun m hm => by rw [World.cell?_of_block (w := w) (a := ⟨b, off + m, none⟩) (hs b hb)]; exact hc m hm⟩
theorem Rw.inside {w : World} {B : Nat → Prop} {a : Option Addr} {n : Nat} {f : Nat → Value} (h : Rw w B a n f) : Rw w (fun b => B b ∧ b < w.heap.size) a n f := by
  rcases h with h | ⟨b, off, ha, hb, hc⟩
  · exact .inl h
  · by_cases h0 : n = 0
    · exact .inl h0
    · exact .inr ⟨b, off, ha, ⟨hb, World.block_lt_of_cell? _ _ (hc 0 (by omega))⟩, hc⟩
/-- where a row that is not empty lies -/
theorem Rw.at {w : World} {B : Nat → Prop} {a : Option Addr} {n : Nat} {f : Nat → Value} (h : Rw w B a n f) (k : Nat) (hk : k < n) : ∃ b off, a = some ⟨b, off, none⟩ ∧ B b ∧ ∀ m, m < n → w.cell? ⟨b, off + m, none⟩ = some (f m) := by
  rcases h with h | h
  · omega
  · exact h
/-! columns -/
def clZ : Cl := ⟨[], 0, 0, 0, 0, 0, [], false⟩
def clF (l : List Cl) (m : Nat) : Value :=
  if m % 8 = 0 then .string ⟨(l.getD (m / 8) clZ).nm.toArray⟩ else if m % 8 = 1 then .int .i64 (l.getD (m / 8) clZ).k else if m % 8 = 2 then .int .i64 (l.getD (m / 8) clZ).mn else if m % 8 = 3 then .int .i64 (l.getD (m / 8) clZ).mx
  else if m % 8 = 4 then .int .i64 (l.getD (m / 8) clZ).lo else if m % 8 = 5 then .int .i64 (l.getD (m / 8) clZ).hi else if m % 8 = 6 then .string ⟨(l.getD (m / 8) clZ).rf.toArray⟩ else .bool (l.getD (m / 8) clZ).st
theorem cl_getD {l : List Cl} {i : Nat} (h : i < l.length) : l.getD i clZ = l[i] := by rw [List.getD_eq_getElem?_getD, List.getElem?_eq_getElem h]; rfl
theorem clF_at {l : List Cl} {i j : Nat} (h : i < l.length) (hj : j < 8) : clF l (i * 8 + j) = [Value.string ⟨l[i].nm.toArray⟩, .int .i64 l[i].k, .int .i64 l[i].mn, .int .i64 l[i].mx, .int .i64 l[i].lo, .int .i64 l[i].hi, .string ⟨l[i].rf.toArray⟩, .bool l[i].st].getD j undef := by
  unfold clF
  rw [show (i * 8 + j) % 8 = j by omega, show (i * 8 + j) / 8 = i by omega, cl_getD h]
  match j, hj with
  | 0, _ => rfl
  | 1, _ => rfl
  | 2, _ => rfl
  | 3, _ => rfl
  | 4, _ => rfl
  | 5, _ => rfl
  | 6, _ => rfl
  | 7, _ => rfl
def Cols (w : World) (B : Nat → Prop) (a : Option Addr) (l : List Cl) : Prop := Rw w B a (l.length * 8) (clF l)
/-- a column's cells, as a walk reads them -/
def ColAt (w : World) (b o : Nat) (x : Cl) : Prop := w.cell? ⟨b, o, none⟩ = some (.string ⟨x.nm.toArray⟩) ∧ w.cell? ⟨b, o + 1, none⟩ = some (.int .i64 x.k) ∧ w.cell? ⟨b, o + 2, none⟩ = some (.int .i64 x.mn) ∧ w.cell? ⟨b, o + 3, none⟩ = some (.int .i64 x.mx) ∧ w.cell? ⟨b, o + 4, none⟩ = some (.int .i64 x.lo) ∧ w.cell? ⟨b, o + 5, none⟩ = some (.int .i64 x.hi) ∧ w.cell? ⟨b, o + 6, none⟩ = some (.string ⟨x.rf.toArray⟩) ∧ w.cell? ⟨b, o + 7, none⟩ = some (.bool x.st)
theorem Cols.at {w : World} {B : Nat → Prop} {a : Option Addr} {l : List Cl} (h : Cols w B a l) (k : Nat) (hk : k < l.length) : ∃ b off, a = some ⟨b, off, none⟩ ∧ B b ∧ ∀ i (h : i < l.length), ColAt w b (off + i * 8) l[i] := by
  obtain ⟨b, off, e, hb, hc⟩ := Rw.at h (k * 8) (by omega)
  refine ⟨b, off, e, hb, fun i hi => ?_⟩
  have g : ∀ j, j < 8 → w.cell? ⟨b, off + i * 8 + j, none⟩ = _ := fun j hj => by rw [Nat.add_assoc, hc _ (by omega), clF_at hi hj]
  exact ⟨g 0 (by omega), g 1 (by omega), g 2 (by omega), g 3 (by omega), g 4 (by omega), g 5 (by omega), g 6 (by omega), g 7 (by omega)⟩
/-! numbers -/
def Ints (w : World) (B : Nat → Prop) (a : Option Addr) (l : List Int) : Prop := Rw w B a l.length (fun m => .int .i64 (l.getD m 0))
theorem Ints.at {w : World} {B : Nat → Prop} {a : Option Addr} {l : List Int} (h : Ints w B a l) (k : Nat) (hk : k < l.length) : ∃ b off, a = some ⟨b, off, none⟩ ∧ B b ∧ ∀ i (h : i < l.length), w.cell? ⟨b, off + i, none⟩ = some (.int .i64 l[i]) := by
  obtain ⟨b, off, e, hb, hc⟩ := Rw.at h k hk
  refine ⟨b, off, e, hb, fun i hi => ?_⟩
  rw [hc i hi, List.getD_eq_getElem?_getD, List.getElem?_eq_getElem hi]; rfl
/-! tables -/
def Tb.Has (w : World) (B : Nat → Prop) (t : Tb) (ca ua : Option Addr) : Prop := Cols w B ca t.cols ∧ Ints w B ua t.uq
theorem Tb.Has.same {w w' : World} {B B' : Nat → Prop} {t : Tb} {ca ua : Option Addr} (h : t.Has w B ca ua) (hs : ∀ b, B b → w'.heap[b]? = w.heap[b]?) (hB : ∀ b, B b → B' b) : t.Has w' B' ca ua := ⟨Rw.same h.1 hs hB, Rw.same h.2 hs hB⟩
theorem Tb.Has.below {w w' : World} {S : Nat} {t : Tb} {ca ua : Option Addr} (h : t.Has w (· < S) ca ua) (hb : Below S w w') : t.Has w' (· < S) ca ua := h.same (fun b hb' => hb.block b hb') (fun _ h => h)
theorem Tb.Has.inside {w : World} {B : Nat → Prop} {t : Tb} {ca ua : Option Addr} (h : t.Has w B ca ua) : t.Has w (fun b => B b ∧ b < w.heap.size) ca ua := ⟨Rw.inside h.1, Rw.inside h.2⟩
theorem Tb.Has.later {w w' : World} {B : Nat → Prop} {t : Tb} {ca ua : Option Addr} (h : t.Has w B ca ua) (hb : Below w.heap.size w w') : t.Has w' B ca ua := h.inside.same (fun b hb' => hb.block b hb'.2) (fun _ h => h.1)
theorem Cols.later {w w' : World} {B : Nat → Prop} {a : Option Addr} {l : List Cl} (h : Cols w B a l) (hb : Below w.heap.size w w') : Cols w' B a l := (Rw.inside h).same (fun b hb' => hb.block b hb'.2) (fun _ h => h.1)
theorem Ints.later {w w' : World} {B : Nat → Prop} {a : Option Addr} {l : List Int} (h : Ints w B a l) (hb : Below w.heap.size w w') : Ints w' B a l := (Rw.inside h).same (fun b hb' => hb.block b hb'.2) (fun _ h => h.1)
def szCs (l : List Cl) : Nat := l.length + (l.map Cl.sz).sum
def Tb.sz (t : Tb) : Nat := t.nm.length + szCs t.cols + t.uq.length
/-- what came in is no longer than can be held -/
def Cl.ok (x : Cl) : Prop := x.nm.length ≤ maxLen ∧ x.rf.length ≤ maxLen
def Tb.ok (t : Tb) : Prop := t.nm.length ≤ maxLen ∧ t.cols.length ≤ maxLen ∧ (∀ x ∈ t.cols, x.ok) ∧ t.uq.length ≤ maxLen
set_option maxHeartbeats 1600000 in
theorem szColumns (l : List Cl) (a : Option Addr) (c : Nat) (L : Int) (B : Nat → Prop) (w : World) (h0 : 0 ≤ L) (h1 : L ≤ 1048576) (hl : l.length ≤ maxLen) (hx : ∀ x ∈ l, x.ok) (hS : Cols w B a l) :
    Calls Tryz.prog 21 #[.slice a l.length c, .int .i64 L] w fun e w' => e = .returned (.int .i64 (lessI L (szCs l))) ∧ Below w.heap.size w w' := by
  unfold maxLen at hl
  have HX : Hid (∀ x ∈ l, x.ok) := hx
  have HS : Hid (Cols w B a l) := hS
  clear hx hS
  by_cases hn : L - (l.length : Int) < 0
  · have HR : Hid (lessI L (szCs l) = -1) := by show lessI L (szCs l) = -1; unfold lessI szCs; rw [if_neg (by omega)]
    go_enter Tryz.func21, Tryz.ntmps21
    go_wp2_with fail
    go_ret
    exact ⟨ret_i HR.out.symm, Below.refl _ _⟩
  · go_enter Tryz.func21, Tryz.ntmps21
    go_wp2_with fail
    go_loopw [1, 5] (fun t i wr => ∃ k : Nat, k ≤ l.length ∧ i = .int .i64 k ∧ ∃ m : Int, t = .int .i64 m ∧ 0 ≤ m ∧ m ≤ L ∧ Hid (m = L - (l.length + sumTo Cl.sz l k : Nat) ∧ Below w.heap.size w wr)) (fun _ i _ => l.length - (intOf i).toNat)
    case atStart => exact ⟨0, Nat.zero_le _, rfl, L - l.length, rfl, by omega, by omega, by show _ = _; rw [sumTo_zero]; omega, Below.refl _ _⟩
    case round =>
      obtain ⟨k, hk, rfl, m, rfl, hm0, hmL, HM⟩ := hrel
      by_cases hlt : k < l.length
      · obtain ⟨b, off, rfl, -, hc⟩ := (HS.out.later HM.out.2).at k hlt
        obtain ⟨c0, c1, c2, c3, c4, c5, c6, c7⟩ := hc k hlt
        clear hc
        have HLX : Hid (l[k].ok) := HX.out _ (List.getElem_mem hlt)
        have HSU : Hid (sumTo Cl.sz l (k + 1) = sumTo Cl.sz l k + l[k].sz) := sumTo_succ _ _ _ hlt
        have HLE : Hid (sumTo Cl.sz l (k + 1) ≤ (l.map Cl.sz).sum) := sumTo_le _ _ _
        generalize l[k] = x at *
        by_cases hz : m - (x.sz : Int) < 0
        · have HR : Hid (lessI L (szCs l) = -1) := by
            have h1 := HM.out.1; have h2 := HSU.out; have h3 := HLE.out
            show lessI L (szCs l) = -1
            unfold lessI szCs; rw [if_neg (by omega)]
          have HQ : Hid (lessI m x.sz = -1) := less_no hz
          go_wp2_with (go_at_call 44; refine (szColumn x m _ hm0 (by omega) HLX.out.1 HLX.out.2).mono ?_; rintro e w1 ⟨rfl, hB1⟩; rw [HQ.out])
          go_ret
          exact ⟨ret_i HR.out.symm, HM.out.2.trans (hB1.mono HM.out.2.size)⟩
        · have HQ : Hid (lessI m x.sz = m - x.sz) := less_yes (by omega)
          obtain ⟨m', hm'⟩ : ∃ m' : Int, m' = m - x.sz := ⟨_, rfl⟩
          have hm'0 : 0 ≤ m' := by omega
          have hd : decide (m' < 0) = false := by simp; omega
          have HM' : Hid (m' = m - x.sz) := hm'
          clear hm'
          go_wp2_with (go_at_call 44; refine (szColumn x m _ hm0 (by omega) HLX.out.1 HLX.out.2).mono ?_; rintro e w1 ⟨rfl, hB1⟩; rw [HQ.out, ← HM'.out])
          go_roundw
          case rel =>
            have h1 := HM.out.1; have h2 := HSU.out; have h3 := HM'.out
            exact ⟨k + 1, by omega, by go_num, m', rfl, by omega, by omega, by show _ = _; omega, HM.out.2.trans (hB1.mono HM.out.2.size)⟩
          case measure => simp [intOf]; omega
      · have HR : Hid (lessI L (szCs l) = m) := by
          have h1 := HM.out.1
          have hk' : k = l.length := by omega
          rw [hk', sumTo_all] at h1
          show lessI L (szCs l) = m
          unfold lessI szCs; rw [if_pos (by omega)]; omega
        go_wp2_with fail
        go_ret
        exact ⟨ret_i HR.out.symm, HM.out.2⟩
set_option maxHeartbeats 800000 in
theorem szInts (n : Nat) (a : Option Addr) (c : Nat) (L : Int) (w : World) (h0 : 0 ≤ L) (h1 : L ≤ 1048576) (hl : n ≤ maxLen) :
    Calls Tryz.prog 22 #[.slice a n c, .int .i64 L] w fun e w' => e = .returned (.int .i64 (lessI L n)) ∧ Below w.heap.size w w' := by
  unfold maxLen at hl
  by_cases hn : L - (n : Int) < 0
  · have HR : Hid (lessI L n = -1) := less_no hn
    go_enter Tryz.func22, Tryz.ntmps22
    go_wp2_with fail
    go_ret
    exact ⟨ret_i HR.out.symm, Below.refl _ _⟩
  · have HR : Hid (lessI L n = L - n) := less_yes (by omega)
    go_enter Tryz.func22, Tryz.ntmps22
    go_wp2_with fail
    go_ret
    exact ⟨ret_i HR.out.symm, Below.refl _ _⟩
end Go.Proofs.YtdioppekeekilaaGreatDoor
namespace Go.Proofs.YtdioppekeekilaaGreatDoor
open Go.RowKit
set_option linter.unusedSimpArgs false
/-- a row that can be written -/
def OwnRw (w : World) (B : Nat → Prop) (a : Option Addr) (n : Nat) (f : Nat → Value) : Prop :=
  n = 0 ∨ ∃ b off, a = some ⟨b, off, none⟩ ∧ B b ∧ ∀ m, m < n → w.cell? ⟨b, off + m, none⟩ = some (f m) ∧ w.frozen? ⟨b, off + m, none⟩ = false
theorem OwnRw.rw {w : World} {B : Nat → Prop} {a : Option Addr} {n : Nat} {f : Nat → Value} (h : OwnRw w B a n f) : Rw w B a n f := by
  rcases h with h | ⟨b, off, ha, hb, hc⟩
  · exact .inl h
  · exact .inr ⟨b, off, ha, hb, fun m hm => (hc m hm).1⟩
theorem OwnRw.same {w w' : World} {B B' : Nat → Prop} {a : Option Addr} {n : Nat} {f : Nat → Value} (h : OwnRw w B a n f) (hs : ∀ b, B b → w'.heap[b]? = w.heap[b]?) (hB : ∀ b, B b → B' b) : OwnRw w' B' a n f := by
  rcases h with h | ⟨b, off, ha, hb, hc⟩
  · exact .inl h
  · exact .inr ⟨b, off, ha, hB b hb, fun m hm => by
      rw [World.cell?_of_block (w := w) (a := ⟨b, off + m, none⟩) (hs b hb), World.frozen?_of_block (w := w) (a := ⟨b, off + m, none⟩) (hs b hb)]; exact hc m hm⟩
def OwnCols (w : World) (B : Nat → Prop) (a : Option Addr) (l : List Cl) : Prop := OwnRw w B a (l.length * 8) (clF l)
def OwnInts (w : World) (B : Nat → Prop) (a : Option Addr) (l : List Int) : Prop := OwnRw w B a l.length (fun m => .int .i64 (l.getD m 0))
theorem infoCl : (Tryz.prog.info? 91).map (fun i => (i.zero, i.size, i.bytes)) = some (some (.agg #[.string ⟨#[]⟩, .int .i64 0, .int .i64 0, .int .i64 0, .int .i64 0, .int .i64 0, .string ⟨#[]⟩, .bool false]), 8, 80) := by kernel_rfl
def zeroCl : Array Value := #[.string ⟨#[]⟩, .int .i64 0, .int .i64 0, .int .i64 0, .int .i64 0, .int .i64 0, .string ⟨#[]⟩, .bool false]
theorem infoCl' : ∃ i, Tryz.prog.info? 91 = some i ∧ i.zero = some (.agg zeroCl) ∧ i.size = 8 ∧ i.bytes = 80 := by
  obtain ⟨i, hi, hzz⟩ := Option.map_eq_some_iff.1 infoCl
  simp only [Prod.mk.injEq] at hzz
  exact ⟨i, hi, hzz⟩
theorem run_makeCl (n : Nat) (hn : n ≤ 1048576) (w : World) :
    (Instr.makeSlice 37 (.int .i64 (n : Int)) (.int .i64 (n : Int))).run Tryz.prog w = .ok (.slice (some ⟨w.heap.size, 0, none⟩) n n) (w.alloc (.cells (madeCells zeroCl (n * 8)) 91)) := by
  obtain ⟨i, hi, hz, hs, hb⟩ := infoCl'
  have hr := run_make (P := Tryz.prog) w 37 91 i _ Tryz.underlying37 hi hz .i64 .i64 n n (by omega) (Int.le_refl _) (by rw [hb]; omega) (by omega)
  rw [hr, hs]
  simp only [Int.toNat_natCast]
  rfl
theorem rowIs_made (w : World) (z : Array Value) (n : Nat) (t : TypeId) : ∃ f, (w.alloc (.cells (madeCells z n) t)).rowIs w.heap.size t n f :=
  ⟨fun i => (madeCells z n).getD i default, by
    have := World.rowIs_alloc w (madeCells z n) t (fun i => (madeCells z n).getD i default) (fun i h => by rw [Array.getElem?_eq_getElem h]; simp [Array.getD, h])
    rwa [size_madeCells] at this⟩
/-- the first k of l are done -/
def DoneC (wr : World) (b k : Nat) (l : List Cl) : Prop := ∃ f, wr.rowIs b 91 (l.length * 8) f ∧ ∀ m, m < k * 8 → f m = clF l m
def putC (w : World) (b k : Nat) (x : Cl) : World := (((((((w.setCell ⟨b, k * 8, none⟩ (.string ⟨x.nm.toArray⟩)).setCell ⟨b, k * 8 + 1, none⟩ (.int .i64 x.k)).setCell ⟨b, k * 8 + 2, none⟩ (.int .i64 x.mn)).setCell ⟨b, k * 8 + 3, none⟩ (.int .i64 x.mx)).setCell ⟨b, k * 8 + 4, none⟩ (.int .i64 x.lo)).setCell ⟨b, k * 8 + 5, none⟩ (.int .i64 x.hi)).setCell ⟨b, k * 8 + 6, none⟩ (.string ⟨x.rf.toArray⟩)).setCell ⟨b, k * 8 + 7, none⟩ (.bool x.st)
theorem DoneC.step {w1 : World} {b k : Nat} {l : List Cl} {f : Nat → Value} (hf : w1.rowIs b 91 (l.length * 8) f) (hd : ∀ m, m < k * 8 → f m = clF l m) (hk : k < l.length) : DoneC (putC w1 b k l[k]) b (k + 1) l := by
  refine ⟨_, (((((((hf.set (k * 8) _).set (k * 8 + 1) _).set (k * 8 + 2) _).set (k * 8 + 3) _).set (k * 8 + 4) _).set (k * 8 + 5) _).set (k * 8 + 6) _).set (k * 8 + 7) _, fun m hm => ?_⟩
  by_cases h : m < k * 8
  · simp only [show ¬ m = k * 8 + 7 by omega, show ¬ m = k * 8 + 6 by omega, show ¬ m = k * 8 + 5 by omega, show ¬ m = k * 8 + 4 by omega, show ¬ m = k * 8 + 3 by omega, show ¬ m = k * 8 + 2 by omega, show ¬ m = k * 8 + 1 by omega, show ¬ m = k * 8 by omega, if_false]
    exact hd m h
  · obtain ⟨j, rfl⟩ : ∃ j, m = k * 8 + j := ⟨m - k * 8, by omega⟩
    rw [clF_at hk (by omega)]
    rcases (by omega : j = 0 ∨ j = 1 ∨ j = 2 ∨ j = 3 ∨ j = 4 ∨ j = 5 ∨ j = 6 ∨ j = 7) with rfl | rfl | rfl | rfl | rfl | rfl | rfl | rfl <;> simp
theorem below_putC {w w1 : World} {S b k : Nat} {x : Cl} (h : Below S w w1) (hb : S ≤ b) : Below S w (putC w1 b k x) := (((((((h.setCell hb _).setCell hb _).setCell hb _).setCell hb _).setCell hb _).setCell hb _).setCell hb _).setCell hb _
set_option maxHeartbeats 1600000 in
theorem toColumns (l : List Cl) (a : Option Addr) (c : Nat) (B : Nat → Prop) (w : World) (hl : l.length ≤ 1048576) (hS : Cols w B a l) :
    Calls Tryz.prog 29 #[.slice a l.length c] w fun e w' => e = .returned (.slice (some ⟨w.heap.size, 0, none⟩) l.length l.length) ∧ OwnCols w' (fun b => w.heap.size ≤ b ∧ b < w'.heap.size) (some ⟨w.heap.size, 0, none⟩) l ∧ Below w.heap.size w w' := by
  have HS : Hid (Cols w B a l) := hS
  clear hS
  have hmk := run_makeCl l.length hl
  go_enter Tryz.func29, Tryz.ntmps29
  go_wp2_with fail
  clear hmk
  go_loopw [4] (fun i wr => ∃ k : Nat, k ≤ l.length ∧ i = .int .i64 k ∧ Below w.heap.size w wr ∧ Hid (DoneC wr w.heap.size k l)) (fun i _ => l.length - (intOf i).toNat)
  case atStart =>
    refine ⟨0, Nat.zero_le _, rfl, (Below.refl _ _).alloc (Nat.le_refl _) _, ?_⟩
    obtain ⟨f, hf⟩ := rowIs_made w zeroCl (l.length * 8) 91
    exact ⟨f, hf, fun m h => absurd h (by omega)⟩
  case round =>
    obtain ⟨k, hk, rfl, hB, HD⟩ := hrel
    by_cases hlt : k < l.length
    · obtain ⟨b, off, rfl, -, hc⟩ := (HS.out.later hB).at k hlt
      obtain ⟨c0, c1, c2, c3, c4, c5, c6, c7⟩ := hc k hlt
      clear hc
      obtain ⟨f, hf, hd⟩ := HD.out
      have HF : Hid (wr.rowIs w.heap.size 91 (l.length * 8) f) := hf
      have HST : Hid (∀ w1, Below wr.heap.size wr w1 → DoneC (putC w1 w.heap.size k l[k]) w.heap.size (k + 1) l) := fun w1 hB1 => DoneC.step (hf.of_block (hB1.block _ hf.lt)) hd hlt
      clear hf hd
      generalize l[k] = x at *
      go_wp2_with (go_at_call 54; refine (toColumn x _).mono ?_; rintro e w1 ⟨rfl, hB1⟩; have hf1 := HF.out.of_block (hB1.block _ HF.out.lt); have e0 := hf1.cell (i := k * 8) (by omega); have e1 := hf1.cell (i := k * 8 + 1) (by omega); have e2 := hf1.cell (i := k * 8 + 2) (by omega); have e3 := hf1.cell (i := k * 8 + 3) (by omega); have e4 := hf1.cell (i := k * 8 + 4) (by omega); have e5 := hf1.cell (i := k * 8 + 5) (by omega); have e6 := hf1.cell (i := k * 8 + 6) (by omega); have e7 := hf1.cell (i := k * 8 + 7) (by omega); have z0 := hf1.frozen (k * 8); have z1 := hf1.frozen (k * 8 + 1); have z2 := hf1.frozen (k * 8 + 2); have z3 := hf1.frozen (k * 8 + 3); have z4 := hf1.frozen (k * 8 + 4); have z5 := hf1.frozen (k * 8 + 5); have z6 := hf1.frozen (k * 8 + 6); have z7 := hf1.frozen (k * 8 + 7); have HW : Hid (Below w.heap.size w w1 ∧ DoneC _ _ _ _) := ⟨hB.trans (hB1.mono hB.size), HST.out w1 hB1⟩; clear hB1 hf1)
      go_roundw
      case rel => exact ⟨k + 1, by omega, by go_num, below_putC (x := x) HW.out.1 (Nat.le_refl _), HW.out.2⟩
      case measure => simp [intOf]; omega
    · have hk' : k = l.length := by omega
      go_wp2_with fail
      go_ret
      refine ⟨rfl, ?_, hB⟩
      obtain ⟨f, hf, hd⟩ := HD.out
      refine .inr ⟨_, 0, rfl, ⟨Nat.le_refl _, hf.lt⟩, fun m hm => ⟨?_, by rw [Nat.zero_add]; exact hf.frozen m⟩⟩
      rw [Nat.zero_add, hf.cell hm, hd m (by omega)]
/-! numbers -/
theorem run_makeI (n : Nat) (hn : n ≤ 1048576) (w : World) :
    (Instr.makeSlice 23 (.int .i64 (n : Int)) (.int .i64 (n : Int))).run Tryz.prog w = .ok (.slice (some ⟨w.heap.size, 0, none⟩) n n) (w.alloc (.cells (madeCells #[.int .i64 0] n) 3)) := by
  have hi : ∃ i, Tryz.prog.info? 3 = some i ∧ i.zero = some (.int .i64 0) ∧ i.size = 1 ∧ i.bytes = 8 := by
    have h : (Tryz.prog.info? 3).map (fun i => (i.zero, i.size, i.bytes)) = some (some (.int .i64 0), 1, 8) := by kernel_rfl
    obtain ⟨i, hi, hzz⟩ := Option.map_eq_some_iff.1 h
    simp only [Prod.mk.injEq] at hzz
    exact ⟨i, hi, hzz⟩
  obtain ⟨i, hi, hz, hs, hb⟩ := hi
  have hr := run_make (P := Tryz.prog) w 23 3 i _ Tryz.underlying23 hi hz .i64 .i64 n n (by omega) (Int.le_refl _) (by rw [hb]; omega) (by omega)
  rw [hr, hs]
  simp only [Int.toNat_natCast, Nat.mul_one]
  rfl
def DoneI (wr : World) (b k : Nat) (l : List Int) : Prop := ∃ f, wr.rowIs b 3 l.length f ∧ ∀ m, m < k → f m = .int .i64 (l.getD m 0)
theorem int_getD {l : List Int} {i : Nat} (h : i < l.length) : l.getD i 0 = l[i] := by rw [List.getD_eq_getElem?_getD, List.getElem?_eq_getElem h]; rfl
theorem DoneI.step {w1 : World} {b k : Nat} {l : List Int} {f : Nat → Value} (hf : w1.rowIs b 3 l.length f) (hd : ∀ m, m < k → f m = .int .i64 (l.getD m 0)) (hk : k < l.length) : DoneI (w1.setCell ⟨b, k, none⟩ (.int .i64 l[k])) b (k + 1) l := by
  refine ⟨_, hf.set k _, fun m hm => ?_⟩
  by_cases h : m = k
  · subst h; rw [int_getD hk]; simp
  · simp only [h, if_false]
    exact hd m (by omega)
set_option maxHeartbeats 1600000 in
theorem toInts (l : List Int) (a : Option Addr) (c : Nat) (B : Nat → Prop) (w : World) (hl : l.length ≤ 1048576) (hS : Ints w B a l) :
    Calls Tryz.prog 30 #[.slice a l.length c] w fun e w' => e = .returned (.slice (some ⟨w.heap.size, 0, none⟩) l.length l.length) ∧ OwnInts w' (fun b => w.heap.size ≤ b ∧ b < w'.heap.size) (some ⟨w.heap.size, 0, none⟩) l ∧ Below w.heap.size w w' := by
  have HS : Hid (Ints w B a l) := hS
  clear hS
  have hmk := run_makeI l.length hl
  go_enter Tryz.func30, Tryz.ntmps30
  go_wp2_with fail
  clear hmk
  go_loopw [4] (fun i wr => ∃ k : Nat, k ≤ l.length ∧ i = .int .i64 k ∧ Below w.heap.size w wr ∧ Hid (DoneI wr w.heap.size k l)) (fun i _ => l.length - (intOf i).toNat)
  case atStart =>
    refine ⟨0, Nat.zero_le _, rfl, (Below.refl _ _).alloc (Nat.le_refl _) _, ?_⟩
    obtain ⟨f, hf⟩ := rowIs_made w #[.int .i64 0] l.length 3
    exact ⟨f, hf, fun m h => absurd h (by omega)⟩
  case round =>
    obtain ⟨k, hk, rfl, hB, HD⟩ := hrel
    by_cases hlt : k < l.length
    · obtain ⟨b, off, rfl, -, hc⟩ := (HS.out.later hB).at k hlt
      have c0 := hc k hlt
      clear hc
      have hki : (k : Int) < (l.length : Int) := by omega
      obtain ⟨f, hf, hd⟩ := HD.out
      have HW : Hid (DoneI (wr.setCell ⟨w.heap.size, k, none⟩ (.int .i64 l[k])) w.heap.size (k + 1) l) := DoneI.step hf hd hlt
      have e0 := hf.cell (i := k) hlt
      have z0 := hf.frozen k
      clear hf hd
      generalize l[k] = x at *
      go_wp2_with fail
      go_roundw
      case rel => exact ⟨k + 1, by omega, by go_num, hB.setCell (Nat.le_refl _) _, HW⟩
      case measure => simp [intOf]; omega
    · have hk' : k = l.length := by omega
      go_wp2_with fail
      go_ret
      refine ⟨rfl, ?_, hB⟩
      obtain ⟨f, hf, hd⟩ := HD.out
      refine .inr ⟨_, 0, rfl, ⟨Nat.le_refl _, hf.lt⟩, fun m hm => ⟨?_, by rw [Nat.zero_add]; exact hf.frozen m⟩⟩
      rw [Nat.zero_add, hf.cell hm, hd m (by omega)]
end Go.Proofs.YtdioppekeekilaaGreatDoor
