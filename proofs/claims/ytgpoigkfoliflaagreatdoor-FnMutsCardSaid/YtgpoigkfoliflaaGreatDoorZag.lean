import Derived.Test.YtgpoigkfoliflaaGreatDoorZaf
import Derived.Test.YtgpoigkfoliflaaGreatDoorZab
import Derived.Test.YtgpoigkfoliflaaGreatDoorZaa
import Derived.Deep.OwnRows
import Derived.Laws.IdiomStrings
import Derived.Deep.MidRow
import Derived.Deep.QuietTactic
import Derived.BigQuiet
import Derived.Deep.RegionWith
import Derived.Lib.Hide
namespace Go.Proofs.YtgpoigkfoliflaaGreatDoor
open Go.RowKit
set_option linter.unusedSimpArgs false
def Cl.sz (c : Cl) : Nat := c.nm.length + c.rf.length
def kindB (c : Cl) : Bool :=
  if c.k = 1 then inB (-1000000000) c.lo 1000000000 && (inB (-1000000000) c.hi 1000000000 && (decide (c.lo ≤ c.hi) && (c.rf.isEmpty && !c.st)))
  else if c.k = 4 then (c.mn == 0) && ((c.lo == 0) && ((c.hi == 0) && nameB c.rf))
  else if c.k = 2 ∨ c.k = 3 then (c.lo == 0) && ((c.hi == 0) && (c.rf.isEmpty && !c.st))
  else false
def colB (c : Cl) : Bool := nameB c.nm && (inB 0 c.mn 1 && (inB 1 c.mx 8 && kindB c))
theorem colB_kind {c : Cl} (h : colB c = true) : 1 ≤ c.k ∧ c.k ≤ 4 := by
  unfold colB kindB at h
  by_cases h1 : c.k = 1
  · omega
  by_cases h4 : c.k = 4
  · omega
  by_cases h2 : c.k = 2 ∨ c.k = 3
  · omega
  · rw [if_neg h1, if_neg h4, if_neg h2] at h; simp at h
theorem heap_keptC {w w' : World} {b : Nat} {o : Obj} (h : w.heap[b]? = some o) (hB : Below w.heap.size w w') : w'.heap[b]? = some o := by
  rw [hB.block b (Array.getElem?_eq_some_iff.1 h).1]; exact h
theorem heap_newC (w : World) (o : Obj) : (w.alloc o).heap[w.heap.size]? = some o := by
  show (w.heap.push o)[w.heap.size]? = _
  simp
def BoxC (ty : TypeId) (w W : World) (c : Cl) : Prop := W.heap[w.heap.size]? = some (.cells #[.string ⟨c.nm.toArray⟩, .int .i64 c.k, .int .i64 c.mn, .int .i64 c.mx, .int .i64 c.lo, .int .i64 c.hi, .string ⟨c.rf.toArray⟩, .bool c.st] ty) ∧ Below w.heap.size w W
theorem BoxC.later {ty : TypeId} {w W W' : World} {c : Cl} (h : BoxC ty w W c) (hB : Below W.heap.size W W') : BoxC ty w W' c := ⟨heap_keptC h.1 hB, h.2.trans (hB.mono h.2.size)⟩
theorem boxC (ty : TypeId) (w : World) (c : Cl) : BoxC ty w (w.alloc (.cells #[.string ⟨c.nm.toArray⟩, .int .i64 c.k, .int .i64 c.mn, .int .i64 c.mx, .int .i64 c.lo, .int .i64 c.hi, .string ⟨c.rf.toArray⟩, .bool c.st] ty)) c := ⟨heap_newC _ _, (Below.refl _ _).alloc (Nat.le_refl _) _⟩
theorem BoxC.drew {ty : TypeId} {w W : World} {c : Cl} (h : BoxC ty w W c) : BoxC ty w W.drew c := h.later (Below.refl _ _).drew
theorem BoxC.drewN {ty : TypeId} {w W : World} {c : Cl} (h : BoxC ty w W c) (n : Nat) : BoxC ty w (W.drewN n) c := h.later (below_drewN (Below.refl _ _) n)
end Go.Proofs.YtgpoigkfoliflaaGreatDoor
namespace Go.Proofs.YtgpoigkfoliflaaGreatDoor
open Go.RowKit
set_option linter.unusedSimpArgs false
theorem end_bC {a x y : Bool} (HP : Hid (a = x)) (h : y = x) : y = a := by rw [HP.out]; exact h
theorem kind1 {c : Cl} (h : c.k = 1) : kindB c = (inB (-1000000000) c.lo 1000000000 && (inB (-1000000000) c.hi 1000000000 && (decide (c.lo ≤ c.hi) && (c.rf.isEmpty && !c.st)))) := by unfold kindB; rw [if_pos h]
theorem kind1s {c : Cl} (h : c.k = 1) : kindB c = (inB (-1000000000) c.lo c.hi && (inB c.lo c.hi 1000000000 && (c.rf.isEmpty && !c.st))) := by
  rw [kind1 h, Bool.eq_iff_iff]
  simp [inB]
  constructor
  · rintro ⟨⟨a, b⟩, ⟨c, d⟩, e, f⟩; exact ⟨⟨a, e⟩, ⟨e, d⟩, f⟩
  · rintro ⟨⟨a, b⟩, ⟨c, d⟩, f⟩; exact ⟨⟨a, by omega⟩, ⟨by omega, d⟩, b, f⟩
theorem kind4 {c : Cl} (h : c.k = 4) : kindB c = ((c.mn == 0) && ((c.lo == 0) && ((c.hi == 0) && nameB c.rf))) := by unfold kindB; rw [if_neg (by omega), if_pos h]
theorem kind23 {c : Cl} (h : c.k = 2 ∨ c.k = 3) : kindB c = ((c.lo == 0) && ((c.hi == 0) && (c.rf.isEmpty && !c.st))) := by unfold kindB; rw [if_neg (by omega), if_neg (by omega), if_pos h]
theorem kindN {c : Cl} (h : c.k < 1 ∨ 4 < c.k) : kindB c = false := by unfold kindB; rw [if_neg (by omega), if_neg (by omega), if_neg (by omega)]
theorem col_no {c : Cl} (h : nameB c.nm = false) : colB c = false := by unfold colB; rw [h]; rfl
theorem col_mn {c : Cl} (h : inB 0 c.mn 1 = false) : colB c = false := by unfold colB; rw [h]; simp
theorem col_mx {c : Cl} (h : inB 1 c.mx 8 = false) : colB c = false := by unfold colB; rw [h]; simp
theorem col_kn {c : Cl} (h : kindB c = false) : colB c = false := by unfold colB; rw [h]; simp
theorem col_yes {c : Cl} (h : nameB c.nm = true) (h1 : inB 0 c.mn 1 = true) (h2 : inB 1 c.mx 8 = true) : colB c = kindB c := by unfold colB; rw [h, h1, h2]; simp
set_option maxHeartbeats 3200000 in
theorem columnOKs (c : Cl) (w : World) (ht : c.nm.length ≤ maxLen) (hr : c.rf.length ≤ maxLen) :
    Calls Tryz.prog 56 #[.agg #[.string ⟨c.nm.toArray⟩, .int .i64 c.k, .int .i64 c.mn, .int .i64 c.mx, .int .i64 c.lo, .int .i64 c.hi, .string ⟨c.rf.toArray⟩, .bool c.st]] w fun e w' => e = .returned (.bool (colB c)) ∧ Below w.heap.size w w' := by
  have HT : Hid (c.nm.length ≤ maxLen ∧ c.rf.length ≤ maxLen) := ⟨ht, hr⟩
  clear ht hr
  cases hn : nameB c.nm
  · have HP : Hid (colB c = false) := col_no hn
    go_enter Tryz.func56, Tryz.ntmps56
    go_wp2_with (first | (go_at_call 55; refine (inS _ _ _ _).mono ?_; rintro e w' ⟨rfl, rfl⟩) | (go_at_call 54; refine (nameS _ _ (by first | exact HT.out.1 | exact HT.out.2)).mono ?_; rintro e w' ⟨rfl, rfl⟩))
    go_ret
    exact ⟨ret_b (end_bC HP rfl), (Below.refl _ _).alloc (Nat.le_refl _) _⟩
  cases hk : inB 1 c.k 4
  · have HP : Hid (colB c = false) := col_kn (kindN (by unfold inB at hk; simp at hk; omega))
    go_enter Tryz.func56, Tryz.ntmps56
    go_wp2_with (first | (go_at_call 55; refine (inS _ _ _ _).mono ?_; rintro e w' ⟨rfl, rfl⟩) | (go_at_call 54; refine (nameS _ _ (by first | exact HT.out.1 | exact HT.out.2)).mono ?_; rintro e w' ⟨rfl, rfl⟩))
    go_ret
    exact ⟨ret_b (end_bC HP rfl), (Below.refl _ _).alloc (Nat.le_refl _) _⟩
  cases h1 : inB 0 c.mn 1
  · have HP : Hid (colB c = false) := col_mn h1
    go_enter Tryz.func56, Tryz.ntmps56
    go_wp2_with (first | (go_at_call 55; refine (inS _ _ _ _).mono ?_; rintro e w' ⟨rfl, rfl⟩) | (go_at_call 54; refine (nameS _ _ (by first | exact HT.out.1 | exact HT.out.2)).mono ?_; rintro e w' ⟨rfl, rfl⟩))
    go_ret
    exact ⟨ret_b (end_bC HP rfl), (Below.refl _ _).alloc (Nat.le_refl _) _⟩
  cases h2 : inB 1 c.mx 8
  · have HP : Hid (colB c = false) := col_mx h2
    go_enter Tryz.func56, Tryz.ntmps56
    go_wp2_with (first | (go_at_call 55; refine (inS _ _ _ _).mono ?_; rintro e w' ⟨rfl, rfl⟩) | (go_at_call 54; refine (nameS _ _ (by first | exact HT.out.1 | exact HT.out.2)).mono ?_; rintro e w' ⟨rfl, rfl⟩))
    go_ret
    exact ⟨ret_b (end_bC HP rfl), (Below.refl _ _).alloc (Nat.le_refl _) _⟩
  have HY : Hid (colB c = kindB c) := col_yes hn h1 h2
  have hk4 : 1 ≤ c.k ∧ c.k ≤ 4 := by unfold inB at hk; simpa using hk
  rcases (by omega : c.k = 1 ∨ c.k = 4 ∨ (c.k = 2 ∨ c.k = 3)) with k | k | k
  · have HP : Hid (colB c = _) := HY.out.trans (kind1s k)
    rw [k] at hk ⊢
    clear hk4 HY
    go_enter Tryz.func56, Tryz.ntmps56
    go_wp2_with (first | (go_at_call 55; refine (inS _ _ _ _).mono ?_; rintro e w' ⟨rfl, rfl⟩) | (go_at_call 54; refine (nameS _ _ (by first | exact HT.out.1 | exact HT.out.2)).mono ?_; rintro e w' ⟨rfl, rfl⟩))
    all_goals
      go_ret
      exact ⟨ret_b (end_bC HP (by simp [*])), (Below.refl _ _).alloc (Nat.le_refl _) _⟩
  · have HP : Hid (colB c = _) := HY.out.trans (kind4 k)
    rw [k] at hk ⊢
    clear hk4 HY
    by_cases hlo : c.lo = 0
    case neg =>
      have HP : Hid (colB c = false) := by show colB c = false; rw [HP.out]; simp [hlo]
      have e1 : (c.lo != 0) = true := by simpa using hlo
      clear hlo
      go_enter Tryz.func56, Tryz.ntmps56
      go_wp2_with (first | (go_at_call 55; refine (inS _ _ _ _).mono ?_; rintro e w' ⟨rfl, rfl⟩) | (go_at_call 54; refine (nameS _ _ (by first | exact HT.out.1 | exact HT.out.2)).mono ?_; rintro e w' ⟨rfl, rfl⟩))
      all_goals
        go_ret
        exact ⟨ret_b (end_bC HP (by simp [*])), (Below.refl _ _).alloc (Nat.le_refl _) _⟩
    by_cases hhi : c.hi = 0
    case neg =>
      have HP : Hid (colB c = false) := by show colB c = false; rw [HP.out]; simp [hhi]
      have e1 : (c.hi != 0) = true := by simpa using hhi
      rw [hlo]
      clear hhi
      go_enter Tryz.func56, Tryz.ntmps56
      go_wp2_with (first | (go_at_call 55; refine (inS _ _ _ _).mono ?_; rintro e w' ⟨rfl, rfl⟩) | (go_at_call 54; refine (nameS _ _ (by first | exact HT.out.1 | exact HT.out.2)).mono ?_; rintro e w' ⟨rfl, rfl⟩))
      all_goals
        go_ret
        exact ⟨ret_b (end_bC HP (by simp [*])), (Below.refl _ _).alloc (Nat.le_refl _) _⟩
    rw [hlo, hhi]
    go_enter Tryz.func56, Tryz.ntmps56
    go_wp2_with (first | (go_at_call 55; refine (inS _ _ _ _).mono ?_; rintro e w' ⟨rfl, rfl⟩) | (go_at_call 54; refine (nameS _ _ (by first | exact HT.out.1 | exact HT.out.2)).mono ?_; rintro e w' ⟨rfl, rfl⟩))
    all_goals
      go_ret
      exact ⟨ret_b (end_bC HP (by simp [*])), (Below.refl _ _).alloc (Nat.le_refl _) _⟩
  · have HP : Hid (colB c = _) := HY.out.trans (kind23 k)
    have k1 : (c.k == 1) = false := by simp; omega
    have k4 : (c.k == 4) = false := by simp; omega
    clear hk4 HY k
    by_cases hlo : c.lo = 0
    case neg =>
      have HP : Hid (colB c = false) := by show colB c = false; rw [HP.out]; simp [hlo]
      have e1 : (c.lo != 0) = true := by simpa using hlo
      clear hlo
      go_enter Tryz.func56, Tryz.ntmps56
      go_wp2_with (first | (go_at_call 55; refine (inS _ _ _ _).mono ?_; rintro e w' ⟨rfl, rfl⟩) | (go_at_call 54; refine (nameS _ _ (by first | exact HT.out.1 | exact HT.out.2)).mono ?_; rintro e w' ⟨rfl, rfl⟩))
      all_goals
        go_ret
        exact ⟨ret_b (end_bC HP (by simp [*])), (Below.refl _ _).alloc (Nat.le_refl _) _⟩
    by_cases hhi : c.hi = 0
    case neg =>
      have HP : Hid (colB c = false) := by show colB c = false; rw [HP.out]; simp [hhi]
      have e1 : (c.hi != 0) = true := by simpa using hhi
      rw [hlo]
      clear hhi
      go_enter Tryz.func56, Tryz.ntmps56
      go_wp2_with (first | (go_at_call 55; refine (inS _ _ _ _).mono ?_; rintro e w' ⟨rfl, rfl⟩) | (go_at_call 54; refine (nameS _ _ (by first | exact HT.out.1 | exact HT.out.2)).mono ?_; rintro e w' ⟨rfl, rfl⟩))
      all_goals
        go_ret
        exact ⟨ret_b (end_bC HP (by simp [*])), (Below.refl _ _).alloc (Nat.le_refl _) _⟩
    rw [hlo, hhi]
    go_enter Tryz.func56, Tryz.ntmps56
    go_wp2_with (first | (go_at_call 55; refine (inS _ _ _ _).mono ?_; rintro e w' ⟨rfl, rfl⟩) | (go_at_call 54; refine (nameS _ _ (by first | exact HT.out.1 | exact HT.out.2)).mono ?_; rintro e w' ⟨rfl, rfl⟩))
    all_goals
      go_ret
      exact ⟨ret_b (end_bC HP (by simp [*])), (Below.refl _ _).alloc (Nat.le_refl _) _⟩
end Go.Proofs.YtgpoigkfoliflaaGreatDoor
namespace Go.Proofs.YtgpoigkfoliflaaGreatDoor
open Go.RowKit
set_option linter.unusedSimpArgs false
def Rw (w : World) (B : Nat → Prop) (a : Option Addr) (n : Nat) (f : Nat → Value) : Prop :=
  n = 0 ∨ ∃ b off, a = some ⟨b, off, none⟩ ∧ B b ∧ ∀ m, m < n → w.cell? ⟨b, off + m, none⟩ = some (f m)
theorem Rw.same {w w' : World} {B B' : Nat → Prop} {a : Option Addr} {n : Nat} {f : Nat → Value} (h : Rw w B a n f) (hs : ∀ b, B b → w'.heap[b]? = w.heap[b]?) (hB : ∀ b, B b → B' b) : Rw w' B' a n f := by
  rcases h with h | ⟨b, off, ha, hb, hc⟩
  · exact .inl h
  · exact .inr ⟨b, off, ha, hB b hb, fun m hm => by rw [World.cell?_of_block (w := w) (a := ⟨b, off + m, none⟩) (hs b hb)]; exact hc m hm⟩
theorem Rw.inside {w : World} {B : Nat → Prop} {a : Option Addr} {n : Nat} {f : Nat → Value} (h : Rw w B a n f) : Rw w (fun b => B b ∧ b < w.heap.size) a n f := by
  rcases h with h | ⟨b, off, ha, hb, hc⟩
  · exact .inl h
  · by_cases h0 : n = 0
    · exact .inl h0
    · exact .inr ⟨b, off, ha, ⟨hb, World.block_lt_of_cell? _ _ (hc 0 (by omega))⟩, hc⟩
theorem Rw.at {w : World} {B : Nat → Prop} {a : Option Addr} {n : Nat} {f : Nat → Value} (h : Rw w B a n f) (k : Nat) (hk : k < n) : ∃ b off, a = some ⟨b, off, none⟩ ∧ B b ∧ ∀ m, m < n → w.cell? ⟨b, off + m, none⟩ = some (f m) := by
  rcases h with h | h
  · omega
  · exact h
def clZ : Cl := ⟨[], 0, 0, 0, 0, 0, [], false⟩
def clF (l : List Cl) (m : Nat) : Value :=
  if m % 8 = 0 then .string ⟨(l.getD (m / 8) clZ).nm.toArray⟩ else if m % 8 = 1 then .int .i64 (l.getD (m / 8) clZ).k else if m % 8 = 2 then .int .i64 (l.getD (m / 8) clZ).mn else if m % 8 = 3 then .int .i64 (l.getD (m / 8) clZ).mx
  else if m % 8 = 4 then .int .i64 (l.getD (m / 8) clZ).lo else if m % 8 = 5 then .int .i64 (l.getD (m / 8) clZ).hi else if m % 8 = 6 then .string ⟨(l.getD (m / 8) clZ).rf.toArray⟩ else .bool (l.getD (m / 8) clZ).st
theorem cl_getD {l : List Cl} {i : Nat} (h : i < l.length) : l.getD i clZ = l[i] := by rw [List.getD_eq_getElem?_getD, List.getElem?_eq_getElem h]; rfl
theorem clF_at {l : List Cl} {i j : Nat} (h : i < l.length) (hj : j < 8) : clF l (i * 8 + j) = [Value.string ⟨l[i].nm.toArray⟩, .int .i64 l[i].k, .int .i64 l[i].mn, .int .i64 l[i].mx, .int .i64 l[i].lo, .int .i64 l[i].hi, .string ⟨l[i].rf.toArray⟩, .bool l[i].st].getD j undef := by
  unfold clF
  rw [show (i * 8 + j) % 8 = j by omega, show (i * 8 + j) / 8 = i by omega, cl_getD h]
  match j, hj with
  | 0, _ => rfl
  | 1, _ => rfl
  | 2, _ => rfl
  | 3, _ => rfl
  | 4, _ => rfl
  | 5, _ => rfl
  | 6, _ => rfl
  | 7, _ => rfl
def Cols (w : World) (B : Nat → Prop) (a : Option Addr) (l : List Cl) : Prop := Rw w B a (l.length * 8) (clF l)
def ColAt (w : World) (b o : Nat) (x : Cl) : Prop := w.cell? ⟨b, o, none⟩ = some (.string ⟨x.nm.toArray⟩) ∧ w.cell? ⟨b, o + 1, none⟩ = some (.int .i64 x.k) ∧ w.cell? ⟨b, o + 2, none⟩ = some (.int .i64 x.mn) ∧ w.cell? ⟨b, o + 3, none⟩ = some (.int .i64 x.mx) ∧ w.cell? ⟨b, o + 4, none⟩ = some (.int .i64 x.lo) ∧ w.cell? ⟨b, o + 5, none⟩ = some (.int .i64 x.hi) ∧ w.cell? ⟨b, o + 6, none⟩ = some (.string ⟨x.rf.toArray⟩) ∧ w.cell? ⟨b, o + 7, none⟩ = some (.bool x.st)
theorem Cols.at {w : World} {B : Nat → Prop} {a : Option Addr} {l : List Cl} (h : Cols w B a l) (k : Nat) (hk : k < l.length) : ∃ b off, a = some ⟨b, off, none⟩ ∧ B b ∧ ∀ i (h : i < l.length), ColAt w b (off + i * 8) l[i] := by
  obtain ⟨b, off, e, hb, hc⟩ := Rw.at h (k * 8) (by omega)
  refine ⟨b, off, e, hb, fun i hi => ?_⟩
  have g : ∀ j, j < 8 → w.cell? ⟨b, off + i * 8 + j, none⟩ = _ := fun j hj => by rw [Nat.add_assoc, hc _ (by omega), clF_at hi hj]
  exact ⟨g 0 (by omega), g 1 (by omega), g 2 (by omega), g 3 (by omega), g 4 (by omega), g 5 (by omega), g 6 (by omega), g 7 (by omega)⟩
def Ints (w : World) (B : Nat → Prop) (a : Option Addr) (l : List Int) : Prop := Rw w B a l.length (fun m => .int .i64 (l.getD m 0))
theorem Ints.at {w : World} {B : Nat → Prop} {a : Option Addr} {l : List Int} (h : Ints w B a l) (k : Nat) (hk : k < l.length) : ∃ b off, a = some ⟨b, off, none⟩ ∧ B b ∧ ∀ i (h : i < l.length), w.cell? ⟨b, off + i, none⟩ = some (.int .i64 l[i]) := by
  obtain ⟨b, off, e, hb, hc⟩ := Rw.at h k hk
  refine ⟨b, off, e, hb, fun i hi => ?_⟩
  rw [hc i hi, List.getD_eq_getElem?_getD, List.getElem?_eq_getElem hi]; rfl
def Tb.Has (w : World) (B : Nat → Prop) (t : Tb) (ca ua : Option Addr) : Prop := Cols w B ca t.cols ∧ Ints w B ua t.uq
theorem Tb.Has.same {w w' : World} {B B' : Nat → Prop} {t : Tb} {ca ua : Option Addr} (h : t.Has w B ca ua) (hs : ∀ b, B b → w'.heap[b]? = w.heap[b]?) (hB : ∀ b, B b → B' b) : t.Has w' B' ca ua := ⟨Rw.same h.1 hs hB, Rw.same h.2 hs hB⟩
theorem Tb.Has.below {w w' : World} {S : Nat} {t : Tb} {ca ua : Option Addr} (h : t.Has w (· < S) ca ua) (hb : Below S w w') : t.Has w' (· < S) ca ua := h.same (fun b hb' => hb.block b hb') (fun _ h => h)
theorem Tb.Has.inside {w : World} {B : Nat → Prop} {t : Tb} {ca ua : Option Addr} (h : t.Has w B ca ua) : t.Has w (fun b => B b ∧ b < w.heap.size) ca ua := ⟨Rw.inside h.1, Rw.inside h.2⟩
theorem Tb.Has.later {w w' : World} {B : Nat → Prop} {t : Tb} {ca ua : Option Addr} (h : t.Has w B ca ua) (hb : Below w.heap.size w w') : t.Has w' B ca ua := h.inside.same (fun b hb' => hb.block b hb'.2) (fun _ h => h.1)
theorem Cols.later {w w' : World} {B : Nat → Prop} {a : Option Addr} {l : List Cl} (h : Cols w B a l) (hb : Below w.heap.size w w') : Cols w' B a l := (Rw.inside h).same (fun b hb' => hb.block b hb'.2) (fun _ h => h.1)
theorem Ints.later {w w' : World} {B : Nat → Prop} {a : Option Addr} {l : List Int} (h : Ints w B a l) (hb : Below w.heap.size w w') : Ints w' B a l := (Rw.inside h).same (fun b hb' => hb.block b hb'.2) (fun _ h => h.1)
def szCs (l : List Cl) : Nat := l.length + (l.map Cl.sz).sum
def Tb.sz (t : Tb) : Nat := t.nm.length + szCs t.cols + t.uq.length
def Cl.ok (x : Cl) : Prop := x.nm.length ≤ maxLen ∧ x.rf.length ≤ maxLen
def Tb.ok (t : Tb) : Prop := t.nm.length ≤ maxLen ∧ t.cols.length ≤ maxLen ∧ (∀ x ∈ t.cols, x.ok) ∧ t.uq.length ≤ maxLen
end Go.Proofs.YtgpoigkfoliflaaGreatDoor
namespace Go.Proofs.YtgpoigkfoliflaaGreatDoor
open Go.RowKit
set_option linter.unusedSimpArgs false
def OwnRw (w : World) (B : Nat → Prop) (a : Option Addr) (n : Nat) (f : Nat → Value) : Prop :=
  n = 0 ∨ ∃ b off, a = some ⟨b, off, none⟩ ∧ B b ∧ ∀ m, m < n → w.cell? ⟨b, off + m, none⟩ = some (f m) ∧ w.frozen? ⟨b, off + m, none⟩ = false
theorem OwnRw.rw {w : World} {B : Nat → Prop} {a : Option Addr} {n : Nat} {f : Nat → Value} (h : OwnRw w B a n f) : Rw w B a n f := by
  rcases h with h | ⟨b, off, ha, hb, hc⟩
  · exact .inl h
  · exact .inr ⟨b, off, ha, hb, fun m hm => (hc m hm).1⟩
theorem OwnRw.same {w w' : World} {B B' : Nat → Prop} {a : Option Addr} {n : Nat} {f : Nat → Value} (h : OwnRw w B a n f) (hs : ∀ b, B b → w'.heap[b]? = w.heap[b]?) (hB : ∀ b, B b → B' b) : OwnRw w' B' a n f := by
  rcases h with h | ⟨b, off, ha, hb, hc⟩
  · exact .inl h
  · exact .inr ⟨b, off, ha, hB b hb, fun m hm => by
      rw [World.cell?_of_block (w := w) (a := ⟨b, off + m, none⟩) (hs b hb), World.frozen?_of_block (w := w) (a := ⟨b, off + m, none⟩) (hs b hb)]; exact hc m hm⟩
def OwnCols (w : World) (B : Nat → Prop) (a : Option Addr) (l : List Cl) : Prop := OwnRw w B a (l.length * 8) (clF l)
def OwnInts (w : World) (B : Nat → Prop) (a : Option Addr) (l : List Int) : Prop := OwnRw w B a l.length (fun m => .int .i64 (l.getD m 0))
end Go.Proofs.YtgpoigkfoliflaaGreatDoor
namespace Go.Proofs.YtgpoigkfoliflaaGreatDoor
open Go.RowKit
set_option linter.unusedSimpArgs false
def BoxT (ty : TypeId) (w W : World) (t : Tb) (ca : Option Addr) (cc : Nat) (ua : Option Addr) (uc : Nat) : Prop := W.heap[w.heap.size]? = some (.cells #[.string ⟨t.nm.toArray⟩, .slice ca t.cols.length cc, .slice ua t.uq.length uc, .bool t.rt] ty) ∧ Below w.heap.size w W
theorem BoxT.later {ty : TypeId} {w W W' : World} {t : Tb} {ca : Option Addr} {cc : Nat} {ua : Option Addr} {uc : Nat} (h : BoxT ty w W t ca cc ua uc) (hB : Below W.heap.size W W') : BoxT ty w W' t ca cc ua uc := ⟨heap_keptC h.1 hB, h.2.trans (hB.mono h.2.size)⟩
theorem boxT (ty : TypeId) (w : World) (t : Tb) (ca : Option Addr) (cc : Nat) (ua : Option Addr) (uc : Nat) : BoxT ty w (w.alloc (.cells #[.string ⟨t.nm.toArray⟩, .slice ca t.cols.length cc, .slice ua t.uq.length uc, .bool t.rt] ty)) t ca cc ua uc := ⟨heap_newC _ _, (Below.refl _ _).alloc (Nat.le_refl _) _⟩
theorem BoxT.drew {ty : TypeId} {w W : World} {t : Tb} {ca : Option Addr} {cc : Nat} {ua : Option Addr} {uc : Nat} (h : BoxT ty w W t ca cc ua uc) : BoxT ty w W.drew t ca cc ua uc := h.later (Below.refl _ _).drew
theorem BoxT.drewN {ty : TypeId} {w W : World} {t : Tb} {ca : Option Addr} {cc : Nat} {ua : Option Addr} {uc : Nat} (h : BoxT ty w W t ca cc ua uc) (n : Nat) : BoxT ty w (W.drewN n) t ca cc ua uc := h.later (below_drewN (Below.refl _ _) n)
variable {w V V' : World} {t : Tb} {ca : Option Addr} {cc : Nat} {ua : Option Addr} {uc : Nat} {o : Array Value}
end Go.Proofs.YtgpoigkfoliflaaGreatDoor
