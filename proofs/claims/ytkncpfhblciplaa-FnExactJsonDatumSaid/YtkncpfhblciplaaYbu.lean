import Derived.Test.YtkncpfhblciplaaYbt
import Derived.Test.YtkncpfhblciplaaYbe
import Derived.Test.YtkncpfhblciplaaYau
namespace Go.Proofs.Ytkncpfhblciplaa
open Go.RowKit
set_option linter.unusedSimpArgs false
theorem taA (v : Value) (w : World) : (Instr.typeAssert (.iface 31 v) 20 31 true).run Try.prog w = .ok (.tuple #[v, .bool true]) w := by kernel_rfl
theorem taR (v : Value) (w : World) : (Instr.typeAssert (.iface 137 v) 20 31 true).run Try.prog w = .ok (.tuple #[.agg #[.int .i64 0, .int .i64 0, .string ⟨#[]⟩], .bool false]) w := by kernel_rfl
theorem taL (v : Value) (w : World) : (Instr.typeAssert (.iface 135 v) 20 31 true).run Try.prog w = .ok (.tuple #[.agg #[.int .i64 0, .int .i64 0, .string ⟨#[]⟩], .bool false]) w := by kernel_rfl
theorem taN (w : World) : (Instr.typeAssert .nilIface 20 31 true).run Try.prog w = .ok (.tuple #[.agg #[.int .i64 0, .int .i64 0, .string ⟨#[]⟩], .bool false]) w := by kernel_rfl
end Go.Proofs.Ytkncpfhblciplaa
namespace Go.Proofs.Ytkncpfhblciplaa
open Go.RowKit
set_option linter.unusedSimpArgs false
set_option maxRecDepth 100000 in
set_option maxHeartbeats 3200000 in
theorem datumOfIN (l : List At) (pa : Option Addr) (c : Nat) (S : Nat) (w : World) (hl : l.length ≤ 1048576) (hx : ∀ x ∈ l, x.t.length ≤ maxLen) (hw : S ≤ w.heap.size) (hA : Ats w (· < S) pa l) :
    Calls Try.prog 108 #[.slice pa l.length c] w (AAns2 w (ofR l) (ofC l)) := by
  have AC : Hid (∀ W, Below w.heap.size w W → Calls Try.prog 88 #[.slice pa l.length c] W fun e w' => e = .returned (.int .i64 (errOf l)) ∧ Below w.heap.size w w') := fun W h => (atomsCodeI l _ c S W (by unfold maxLen; omega) hx (Nat.le_trans hw h.size) (hA.below (h.mono hw))).mono (fun e w' ⟨he, hB⟩ => ⟨he, h.trans (hB.mono h.size)⟩)
  have SE : Hid (∀ W, Below w.heap.size w W → Calls Try.prog 120 #[.slice (some ⟨W.heap.size, 0, none⟩) 1 1] (W.alloc (.cells #[.slice pa l.length c] 48)) (fun e w' => ∃ a cp, e = .returned (.tuple #[.slice a (setR l).length cp, .int .i64 (setC l)]) ∧ AAns2 w (setR l) (setC l) (.returned (.tuple #[.slice a (setR l).length cp, .int .i64 (setC l)])) w')) := fun W h => by
    have hb : Below w.heap.size w (W.alloc (.cells #[.slice pa l.length c] 48)) := h.alloc h.size _
    have hs := h.size
    have hfl : flat [⟨l, pa, c⟩] = l := by simp [flat]
    have := setOfI [⟨l, pa, c⟩] W.heap.size 1 S (W.alloc (.cells #[.slice pa l.length c] 48)) (by simp) (by have := hb.size; omega) (by simp) ⟨fun m hm => by
        obtain rfl : m = 0 := by simp at hm; omega
        exact cell_at (o := 0) (heap_newA _ _) rfl, fun m hm => by
        obtain rfl : m = 0 := by simp at hm; omega
        exact hA.below (hb.mono hw), fun m hm => by
        obtain rfl : m = 0 := by simp at hm; omega
        exact hl⟩
    rw [hfl] at this
    refine this.mono (fun e w' h2 => ?_)
    have h3 := h2.base hb
    obtain ⟨a, cp, rfl, -⟩ := h2
    exact ⟨a, cp, rfl, h3⟩
  clear hA hx
  have hr := Below.refl w.heap.size w
  by_cases h1 : 4096 < l.length
  · have HC : Hid (ofC l = 2 ∧ ofR l = []) := ⟨by unfold ofC; rw [if_pos h1], by unfold ofR; rw [if_neg (by intro h; exact h.1 h1)]⟩
    have d1 : decide (4096 < (l.length : Int)) = true := decide_eq_true (by omega)
    go_enter Try.func108, Try.ntmps108
    go_wp2_with fail
    go_ret2
    rw [HC.out.1]
    exact AAns2.none HC.out.2 hr
  have d1 : decide (4096 < (l.length : Int)) = false := decide_eq_false (by omega)
  by_cases he : errOf l = 0
  · have HC : Hid (ofC l = setC l ∧ ofR l = setR l) := by
      constructor
      · unfold ofC setC; rw [if_neg h1, if_pos he]
      · unfold ofR setR
        by_cases h8 : 8 < (joinL [] l).length
        · rw [if_pos h8, if_neg (fun h => h.2.2 h8)]
        · rw [if_neg h8, if_pos ⟨h1, he, h8⟩]
    rw [he] at AC
    clear h1 he
    generalize setC l = q at *
    go_enter Try.func108, Try.ntmps108
    go_wp2_with (first | (go_at_call 88; refine (AC.out _ hr).mono ?_; rintro e w1 ⟨rfl, hr⟩) | (go_at_call 120; refine (SE.out _ hr).mono ?_; rintro e w2 ⟨a2, c2, rfl, H2⟩))
    go_ret2
    rw [HC.out.1, HC.out.2]
    exact H2
  · have HC : Hid (ofC l = errOf l ∧ ofR l = []) := ⟨by unfold ofC; rw [if_neg h1, if_neg he], by unfold ofR; rw [if_neg (fun h => he h.2.1)]⟩
    have hn : (errOf l != 0) = true := by simpa using he
    clear h1 he
    generalize errOf l = q at *
    go_enter Try.func108, Try.ntmps108
    go_wp2_with (go_at_call 88; refine (AC.out _ hr).mono ?_; rintro e w1 ⟨rfl, hr⟩)
    go_ret2
    rw [HC.out.1]
    exact AAns2.none HC.out.2 hr
theorem ABuf.some {w : World} {B : Nat} {v : Value} {l : List At} (h : ABuf w B v l) (hv : v ≠ .slice none 0 0) : ∃ g c, v = .slice (some ⟨g, 0, none⟩) l.length c ∧ OwnAts w (fun b => B ≤ b ∧ b < w.heap.size) (some ⟨g, 0, none⟩) l := by
  obtain ⟨a, c, rfl, ho⟩ := h.own
  rcases h.2 with ⟨e, -⟩ | ⟨g, cap, cur, e, -⟩
  · exact absurd e hv
  · simp only [Value.slice.injEq] at e
    obtain ⟨rfl, -, rfl⟩ := e
    exact ⟨g, _, rfl, ho⟩
def atomsO : List J → Option (List At)
  | [] => some []
  | y :: t => match paA y, atomsO t with
    | some a, some r => some (a :: r)
    | _, _ => none
def AllA (l : List J) (k : Nat) (A : List At) : Prop := A.length = k ∧ ∀ i (h : i < l.length) (h' : i < A.length), paA l[i] = some A[i]
theorem AllA.nil (l : List J) : AllA l 0 [] := ⟨rfl, fun _ _ h => absurd h (by simp)⟩
theorem AllA.push {l : List J} {k : Nat} {A : List At} {x : At} (h : AllA l k A) (hk : k < l.length) (hx : paA l[k] = some x) : AllA l (k + 1) (A ++ [x]) := by
  obtain ⟨hl, ha⟩ := h
  subst hl
  refine ⟨by simp, fun i hi hi' => ?_⟩
  by_cases e : i < A.length
  · rw [List.getElem_append_left e]; exact ha i hi e
  · obtain rfl : i = A.length := by simp at hi'; omega
    rw [List.getElem_append_right (by omega)]; simpa using hx
theorem atomsO_all : ∀ {l : List J} {A : List At}, A.length = l.length → (∀ i (h : i < l.length) (h' : i < A.length), paA l[i] = some A[i]) → atomsO l = some A
  | [], [], _, _ => rfl
  | [], _ :: _, h, _ => by simp at h
  | _ :: _, [], h, _ => by simp at h
  | y :: t, a :: r, h, hA => by
    have h1 := hA 0 (by simp) (by simp)
    have h2 := atomsO_all (l := t) (A := r) (by simpa using h) (fun i hi hi' => by have := hA (i + 1) (by simpa using hi) (by simpa using hi'); simpa using this)
    simp only [List.getElem_cons_zero] at h1
    simp only [atomsO, h1, h2]
theorem AllA.done {l : List J} {A : List At} (h : AllA l l.length A) : atomsO l = some A := atomsO_all h.1 h.2
theorem atomsO_none : ∀ {l : List J} {i : Nat} (h : i < l.length), paA l[i] = none → atomsO l = none
  | y :: t, 0, _, e => by
    simp only [List.getElem_cons_zero] at e
    simp only [atomsO, e]
  | y :: t, i + 1, h, e => by
    have h2 := atomsO_none (l := t) (i := i) (by simpa using h) (by simpa using e)
    simp only [atomsO, h2]
    cases paA y <;> rfl
theorem AllA.mem {l : List J} {k : Nat} {A : List At} (h : AllA l k A) (hk : k ≤ l.length) : ∀ x ∈ A, ∃ y ∈ l, paA y = some x := fun x hx => by
  obtain ⟨i, hi, rfl⟩ := List.mem_iff_getElem.1 hx
  have hl := h.1
  exact ⟨l[i]'(by omega), List.getElem_mem _, h.2 i (by omega) hi⟩
def isSet (j : J) : Prop := pairB j = true ∧ (it0 j).t = setW
noncomputable def jdO (j : J) : Option (List At) :=
  @ite _ (isSet j) (Classical.propDecidable _) (match atomsO (it1 j).items with | some A => if (it1 j).k = 4 ∧ ofC A = 0 then some (ofR A) else none | none => none) ((paA j).map fun a => [a])
theorem jdO_set {j : J} (h : isSet j) : jdO j = match atomsO (it1 j).items with | some A => if (it1 j).k = 4 ∧ ofC A = 0 then some (ofR A) else none | none => none := by unfold jdO; rw [if_pos h]
theorem jdO_one {j : J} (h : ¬ isSet j) : jdO j = (paA j).map fun a => [a] := by unfold jdO; rw [if_neg h]
noncomputable def jdR (j : J) : List At × Int := if okB j = true then (match jdO j with | some A => (A, 0) | none => ([], 3)) else ([], 1)
theorem pa_txt {j : J} (h : Rt j) {x : At} (hx : paA j = some x) : x.t.length ≤ maxLen := by
  have := atOK_text (pa_ok h hx)
  unfold maxLen; omega
end Go.Proofs.Ytkncpfhblciplaa
