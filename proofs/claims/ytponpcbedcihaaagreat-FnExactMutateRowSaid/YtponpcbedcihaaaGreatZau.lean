import Derived.Test.YtponpcbedcihaaaGreatZat
import Derived.Test.YtponpcbedcihaaaGreatZao
import Derived.Test.YtponpcbedcihaaaGreatProg
import Derived.WalkKit
import Derived.WalkSpells
import Derived.WalkLawsBesides
namespace Go.Proofs.YtponpcbedcihaaaGreat
open Go.RowKit
set_option linter.unusedSimpArgs false
theorem place_ex (l : List At) (x : At) : ∃ m, m ≤ l.length ∧ (∀ q (h : q < l.length), q < m → cmpA l[q] x < 0) ∧ ∀ h : m < l.length, ¬ cmpA l[m] x < 0 := by
  refine ⟨l.findIdx (fun y => !decide (cmpA y x < 0)), List.findIdx_le_length, fun q h hq => ?_, fun h => ?_⟩
  · have := List.not_of_lt_findIdx hq
    simpa using this
  · have := List.findIdx_getElem (w := h)
    simpa using this
theorem rise_put {l : List At} (hR : Rise l) (x : At) : Rise (putL l x) := by
  obtain ⟨m, hm, h1, h2⟩ := place_ex l x
  by_cases h : ∃ h : m < l.length, l[m] = x
  · obtain ⟨h, he⟩ := h
    rw [put_has h he]; exact hR
  · obtain ⟨e, hr⟩ := put_ins hR hm h1 (fun h' => ⟨h2 h', fun e => h ⟨h', e⟩⟩)
    rw [e]; exact hr
theorem put_more (l : List At) (x : At) : l.length ≤ (putL l x).length := by
  unfold putL
  split
  · omega
  · have := posTo_le l x l.length
    unfold posA
    simp; omega
theorem join_app (a b c : List At) : joinL a (b ++ c) = joinL (joinL a b) c := by unfold joinL; rw [List.foldl_append]
theorem rise_join {a : List At} (hR : Rise a) : ∀ b : List At, Rise (joinL a b) := by
  intro b
  induction b generalizing a with
  | nil => exact hR
  | cons x b ih => exact ih (rise_put hR x)
theorem join_more (a : List At) : ∀ b : List At, a.length ≤ (joinL a b).length := by
  intro b
  induction b generalizing a with
  | nil => exact Nat.le_refl _
  | cons x b ih => exact Nat.le_trans (put_more a x) (ih (putL a x))
theorem join_rise {a : List At} (hR : Rise a) : ∀ m, m ≤ a.length → joinL [] (a.take m) = a.take m
  | 0, _ => by simp [joinL]
  | m + 1, h => by
    rw [join_snoc [] a m (by omega), join_rise hR m (by omega)]
    have hl : (a.take m).length = m := by rw [List.length_take]; omega
    have hT : Rise (a.take m) := List.Pairwise.sublist (List.take_sublist m a) hR
    have e := (put_ins (x := a[m]) hT (Nat.le_of_eq rfl : (a.take m).length ≤ (a.take m).length) (fun q hq _ => by
      rw [List.getElem_take]
      exact hR.get (by omega) (by omega) (by omega)) (fun h => absurd h (by omega))).1
    rw [e]
    unfold insA
    simp only [List.take_length, List.drop_length, List.append_nil]
    exact (List.take_succ_eq_append_getElem (by omega)).symm
theorem join_self {a : List At} (hR : Rise a) : joinL [] a = a := by
  have := join_rise hR a.length (Nat.le_refl _)
  rwa [List.take_length] at this
structure Sl where
  l : List At
  a : Option Addr
  c : Nat
def flat (s : List Sl) : List At := s.flatMap (·.l)
theorem flat_snoc (s : List Sl) (m : Nat) (h : m < s.length) : flat (s.take (m + 1)) = flat (s.take m) ++ s[m].l := by
  unfold flat
  rw [List.take_succ_eq_append_getElem h, List.flatMap_append]
  simp
noncomputable def setR (l : List At) : List At := if 8 < (joinL [] l).length then [] else joinL [] l
noncomputable def setC (l : List At) : Int := if 8 < (joinL [] l).length then 6 else 0
structure Lists (w : World) (S p : Nat) (s : List Sl) : Prop where
  cell : ∀ m (h : m < s.length), w.cell? ⟨p, m, none⟩ = some (.slice s[m].a s[m].l.length s[m].c)
  ats : ∀ m (h : m < s.length), Ats w (· < S) s[m].a s[m].l
  len : ∀ m (h : m < s.length), s[m].l.length ≤ 1048576
theorem Lists.cells {w W : World} {S p : Nat} {s : List Sl} (h : Lists w S p s) (hp : p < w.heap.size) (hB : Below w.heap.size w W) (m : Nat) (hm : m < s.length) : W.cell? ⟨p, m, none⟩ = some (.slice s[m].a s[m].l.length s[m].c) := by
  rw [World.cell?_of_block (w := w) (a := ⟨p, m, none⟩) (hB.block p hp)]
  exact h.cell m hm
def SetI (w : World) (W : World) (v : Value) (l : List At) : Prop := AN w w.heap.size W v (joinL [] l) ∧ (joinL [] l).length ≤ 8
theorem set_over {l l' : List At} (h : 8 < (joinL [] l).length) : 8 < (joinL [] (l ++ l')).length := by
  rw [join_app]
  exact Nat.lt_of_lt_of_le h (join_more _ _)
theorem rise_nil : Rise [] := List.Pairwise.nil
end Go.Proofs.YtponpcbedcihaaaGreat
namespace Go.Proofs.YtponpcbedcihaaaGreat
open Go.RowKit
set_option linter.unusedSimpArgs false
theorem hasB_iff {l : List At} {x : At} : hasB l x = true ↔ x ∈ l := by
  unfold hasB
  rw [List.any_eq_true]
  constructor
  · rintro ⟨y, hy, e⟩
    rw [← sameAt_iff.1 e]
    exact hy
  · intro h
    exact ⟨x, h, sameAt_iff.2 rfl⟩
theorem mem_put {l : List At} {x y : At} : y ∈ putL l x ↔ y ∈ l ∨ y = x := by
  unfold putL
  split
  · rename_i h
    constructor
    · exact .inl
    · rintro (h' | rfl)
      · exact h'
      · exact hasB_iff.1 h
  · have e : y ∈ l ↔ y ∈ l.take (posA l x) ∨ y ∈ l.drop (posA l x) := by
      rw [← List.mem_append, List.take_append_drop]
    rw [e, List.mem_append, List.mem_append, List.mem_singleton]
    constructor
    · rintro ((h | h) | h)
      · exact .inl (.inl h)
      · exact .inr h
      · exact .inl (.inr h)
    · rintro ((h | h) | h)
      · exact .inl (.inl h)
      · exact .inr h
      · exact .inl (.inr h)
theorem mem_join {y : At} : ∀ {b a : List At}, y ∈ joinL a b ↔ y ∈ a ∨ y ∈ b
  | [], a => by simp [joinL]
  | x :: b, a => by
    have h := mem_join (y := y) (b := b) (a := putL a x)
    unfold joinL at h ⊢
    rw [List.foldl_cons, h, mem_put, List.mem_cons, or_assoc]
theorem mem_minus {a b : List At} {y : At} : y ∈ minusA a b ↔ y ∈ a ∧ y ∉ b := by
  unfold minusA
  rw [List.mem_filter]
  have : (!hasB b y) = true ↔ y ∉ b := by
    rw [← hasB_iff]
    cases hasB b y <;> simp
  rw [this]
theorem rise_minus {a : List At} (h : Rise a) (b : List At) : Rise (minusA a b) := List.Pairwise.sublist List.filter_sublist h
end Go.Proofs.YtponpcbedcihaaaGreat
namespace Go.Proofs.YtponpcbedcihaaaGreat
open Go.RowKit
def letB (n : Int) : Bool := decide (97 ≤ n ∧ n ≤ 122 ∨ 65 ≤ n ∧ n ≤ 90 ∨ n = 95)
def digB (n : Int) : Bool := decide (48 ≤ n ∧ n ≤ 57)
def chB (c : UInt8) : Bool := letB c.toNat || digB c.toNat
def nameB (l : List UInt8) : Bool := decide (1 ≤ l.length ∧ l.length ≤ 40) && (letB (l.getD 0 0).toNat && l.all chB)
theorem let_dig {n : Int} (h : letB n = true) : digB n = false := by
  unfold letB at h; unfold digB; simp at h; simp; omega
theorem at_listN (s : ByteArray) (k : Nat) (h : k < s.size) : s.data.toList[k]'(by simpa using h) = s[k] := rfl
theorem name_size {s : ByteArray} (h : s.size < 1 ∨ 40 < s.size) : nameB s.data.toList = false := by
  unfold nameB
  have : decide (1 ≤ s.data.toList.length ∧ s.data.toList.length ≤ 40) = false := by
    have e : s.data.toList.length = s.size := rfl
    rw [e]; simp; omega
  rw [this]; rfl
theorem name_first {s : ByteArray} (h : 0 < s.size) (hl : letB (s[0].toNat : Int) = false) : nameB s.data.toList = false := by
  unfold nameB
  have e : s.data.toList.getD 0 0 = s[0] := by
    rw [List.getD_eq_getElem?_getD, List.getElem?_eq_getElem (by simpa using h)]; rfl
  rw [e, hl]; simp
theorem name_char {s : ByteArray} (k : Nat) (h : k < s.size) (h1 : letB (s[k].toNat : Int) = false) (h2 : digB (s[k].toNat : Int) = false) : nameB s.data.toList = false := by
  unfold nameB
  have : s.data.toList.all chB = false := by
    rw [List.all_eq_false]
    exact ⟨s[k], by rw [← at_listN s k h]; exact List.getElem_mem _, by unfold chB; rw [h1, h2]; simp⟩
  rw [this]; simp
theorem name_all {s : ByteArray} (h1 : 1 ≤ s.size) (h2 : s.size ≤ 40) (hl : letB (s[0].toNat : Int) = true) (ha : ∀ j (hj : j < s.size), 1 ≤ j → chB s[j] = true) : nameB s.data.toList = true := by
  unfold nameB
  have e : s.data.toList.getD 0 0 = s[0] := by
    rw [List.getD_eq_getElem?_getD, List.getElem?_eq_getElem (show 0 < s.data.toList.length by have e : s.data.toList.length = s.size := rfl; omega)]; rfl
  have el : s.data.toList.length = s.size := rfl
  have ea : s.data.toList.all chB = true := by
    rw [List.all_eq_true]
    intro c hc
    obtain ⟨j, hj, rfl⟩ := List.mem_iff_getElem.1 hc
    have hj' : j < s.size := by simpa using hj
    rw [at_listN s j hj']
    by_cases j0 : j = 0
    · subst j0; unfold chB; rw [hl]; rfl
    · exact ha j hj' (by omega)
  rw [e, hl, ea, el]; simp; omega
theorem ret_boolN {a b : Bool} (h : a = b) : Ending.returned (.bool a) = .returned (.bool b) := by rw [h]
set_option maxHeartbeats 400000 in
theorem digit_impl (n : Int) (w : World) : Calls Tryz.prog 97 #[.int .u8 n] w fun e w' => e = .returned (.bool (digB n)) ∧ w' = w := by
  go_enter Tryz.func97, Tryz.ntmps97
  go_wp2
  all_goals
    go_ret
    refine ⟨ret_boolN ?_, rfl⟩
    rw [Bool.eq_iff_iff]; simp [digB]; try omega
set_option maxHeartbeats 400000 in
theorem letter_impl (n : Int) (w : World) : Calls Tryz.prog 98 #[.int .u8 n] w fun e w' => e = .returned (.bool (letB n)) ∧ w' = w := by
  go_enter Tryz.func98, Tryz.ntmps98
  go_wp2
  all_goals
    go_ret
    refine ⟨ret_boolN ?_, rfl⟩
    rw [Bool.eq_iff_iff]; simp [letB]; try omega
set_option maxHeartbeats 400000 in
theorem letter_spec (n : Int) (w : World) : Calls Tryz.prog 115 #[.int .u8 n] w fun e w' => e = .returned (.bool (letB n)) ∧ w' = w := by
  go_enter Tryz.func115, Tryz.ntmps115
  go_wp2
  all_goals
    go_ret
    refine ⟨ret_boolN ?_, rfl⟩
    rw [Bool.eq_iff_iff]; simp [letB]; try omega
set_option maxHeartbeats 400000 in
theorem digit_spec (n : Int) (w : World) : Calls Tryz.prog 116 #[.int .u8 n] w fun e w' => e = .returned (.bool (digB n)) ∧ w' = w := by
  go_enter Tryz.func116, Tryz.ntmps116
  go_wp2
  all_goals
    go_ret
    refine ⟨ret_boolN ?_, rfl⟩
    rw [Bool.eq_iff_iff]; simp [digB]; try omega
set_option maxHeartbeats 800000 in
theorem name_impl (s : ByteArray) (w : World) (hs : s.size ≤ maxLen) :
    Calls Tryz.prog 80 #[.string s] w fun e w' => e = .returned (.bool (nameB s.data.toList)) ∧ w' = w := by
  unfold maxLen at hs
  by_cases hz : s.size < 1 ∨ 40 < s.size
  · have HN : Hid (nameB s.data.toList = false) := name_size hz
    rcases hz with hz | hz
    · go_enter Tryz.func80, Tryz.ntmps80
      go_wp2_with fail
      go_ret
      exact ⟨ret_boolN HN.out.symm, rfl⟩
    · go_enter Tryz.func80, Tryz.ntmps80
      go_wp2_with fail
      go_ret
      exact ⟨ret_boolN HN.out.symm, rfl⟩
  · have h1 : 1 ≤ s.size := by omega
    have h2 : s.size ≤ 40 := by omega
    have b1 : decide ((s.size : Int) < 1) = false := by simp; omega
    have b2 : decide (40 < (s.size : Int)) = false := by simp; omega
    clear hz
    cases hd : digB (s[0].toNat : Int)
    · go_enter Tryz.func80, Tryz.ntmps80
      go_wp2_with fail
      refine (digit_impl _ _).mono ?_
      rintro e w' ⟨rfl, rfl⟩
      go_wp2_with fail
      go_loop [19] (fun t => ∃ k : Nat, k ≤ s.size ∧ t = .int .i64 k ∧ Hid (∀ j (hj : j < s.size), j < k → chB s[j] = true)) (fun t => s.size - (intOf t).toNat)
      case atStart => exact ⟨0, Nat.zero_le _, rfl, fun j hj h => absurd h (by omega)⟩
      case round =>
        obtain ⟨k, hk, rfl, hall⟩ := hrel
        by_cases hlt : k < s.size
        · cases hL : letB (s[k].toNat : Int)
          · cases hD : digB (s[k].toNat : Int)
            · have HN : Hid (nameB s.data.toList = false) := name_char k hlt hL hD
              go_wp2_with (first | (go_at_call 98; refine (letter_impl _ _).mono ?_; rintro e w' ⟨rfl, rfl⟩) | (go_at_call 97; refine (digit_impl _ _).mono ?_; rintro e w' ⟨rfl, rfl⟩))
              go_ret
              exact ⟨ret_boolN HN.out.symm, rfl⟩
            · have HC : Hid (chB s[k] = true) := by show chB s[k] = true; unfold chB; rw [hL, hD]; rfl
              go_wp2_with (first | (go_at_call 98; refine (letter_impl _ _).mono ?_; rintro e w' ⟨rfl, rfl⟩) | (go_at_call 97; refine (digit_impl _ _).mono ?_; rintro e w' ⟨rfl, rfl⟩))
              go_round
              case rel => exact ⟨k + 1, by omega, by go_num, fun j hj h => by rcases Nat.lt_succ_iff_lt_or_eq.1 h with h | rfl; exact hall.out j hj h; exact HC.out⟩
              case measure => simp [intOf]; omega
          · have HC : Hid (chB s[k] = true) := by show chB s[k] = true; unfold chB; rw [hL]; rfl
            go_wp2_with (first | (go_at_call 98; refine (letter_impl _ _).mono ?_; rintro e w' ⟨rfl, rfl⟩) | (go_at_call 97; refine (digit_impl _ _).mono ?_; rintro e w' ⟨rfl, rfl⟩))
            go_round
            case rel => exact ⟨k + 1, by omega, by go_num, fun j hj h => by rcases Nat.lt_succ_iff_lt_or_eq.1 h with h | rfl; exact hall.out j hj h; exact HC.out⟩
            case measure => simp [intOf]; omega
        · have HN : Hid (nameB s.data.toList = true) := by
            have ha : ∀ j (hj : j < s.size), chB s[j] = true := fun j hj => hall.out j hj (by omega)
            have h0 := ha 0 h1
            refine name_all h1 h2 ?_ (fun j hj _ => ha j hj)
            unfold chB at h0; rw [hd] at h0; simpa using h0
          go_wp2_with fail
          go_ret
          exact ⟨ret_boolN HN.out.symm, rfl⟩
    · have HN : Hid (nameB s.data.toList = false) := by
        refine name_first h1 ?_
        cases hl : letB (s[0].toNat : Int)
        · rfl
        · have := let_dig hl; rw [this] at hd; cases hd
      go_enter Tryz.func80, Tryz.ntmps80
      go_wp2_with fail
      refine (digit_impl _ _).mono ?_
      rintro e w' ⟨rfl, rfl⟩
      go_wp2_with fail
      go_ret
      exact ⟨ret_boolN HN.out.symm, rfl⟩
set_option maxHeartbeats 800000 in
theorem name_spec (s : ByteArray) (w : World) (hs : s.size ≤ maxLen) :
    Calls Tryz.prog 93 #[.string s] w fun e w' => e = .returned (.bool (nameB s.data.toList)) ∧ w' = w := by
  unfold maxLen at hs
  by_cases hz : s.size < 1 ∨ 40 < s.size
  · have HN : Hid (nameB s.data.toList = false) := name_size hz
    rcases hz with hz | hz
    · go_enter Tryz.func93, Tryz.ntmps93
      go_wp2_with fail
      go_ret
      exact ⟨ret_boolN HN.out.symm, rfl⟩
    · go_enter Tryz.func93, Tryz.ntmps93
      go_wp2_with fail
      go_ret
      exact ⟨ret_boolN HN.out.symm, rfl⟩
  · have h1 : 1 ≤ s.size := by omega
    have h2 : s.size ≤ 40 := by omega
    have b1 : decide ((s.size : Int) < 1) = false := by simp; omega
    have b2 : decide (40 < (s.size : Int)) = false := by simp; omega
    clear hz
    cases hd : letB (s[0].toNat : Int)
    · have HN : Hid (nameB s.data.toList = false) := name_first h1 hd
      go_enter Tryz.func93, Tryz.ntmps93
      go_wp2_with fail
      refine (letter_spec _ _).mono ?_
      rintro e w' ⟨rfl, rfl⟩
      go_wp2_with fail
      go_ret
      exact ⟨ret_boolN HN.out.symm, rfl⟩
    · go_enter Tryz.func93, Tryz.ntmps93
      go_wp2_with fail
      refine (letter_spec _ _).mono ?_
      rintro e w' ⟨rfl, rfl⟩
      go_wp2_with fail
      go_loop [3] (fun t => ∃ k : Nat, 1 ≤ k ∧ k ≤ s.size ∧ t = .int .i64 k ∧ Hid (∀ j (hj : j < s.size), 1 ≤ j → j < k → chB s[j] = true)) (fun t => s.size - (intOf t).toNat)
      case atStart => exact ⟨1, by omega, h1, rfl, fun j hj h h' => absurd h (by omega)⟩
      case round =>
        obtain ⟨k, hk1, hk, rfl, hall⟩ := hrel
        by_cases hlt : k < s.size
        · cases hL : letB (s[k].toNat : Int)
          · cases hD : digB (s[k].toNat : Int)
            · have HN : Hid (nameB s.data.toList = false) := name_char k hlt hL hD
              go_wp2_with (first | (go_at_call 115; refine (letter_spec _ _).mono ?_; rintro e w' ⟨rfl, rfl⟩) | (go_at_call 116; refine (digit_spec _ _).mono ?_; rintro e w' ⟨rfl, rfl⟩))
              go_ret
              exact ⟨ret_boolN HN.out.symm, rfl⟩
            · have HC : Hid (chB s[k] = true) := by show chB s[k] = true; unfold chB; rw [hL, hD]; rfl
              go_wp2_with (first | (go_at_call 115; refine (letter_spec _ _).mono ?_; rintro e w' ⟨rfl, rfl⟩) | (go_at_call 116; refine (digit_spec _ _).mono ?_; rintro e w' ⟨rfl, rfl⟩))
              go_round
              case rel => exact ⟨k + 1, by omega, by omega, by go_num, fun j hj h' h => by rcases Nat.lt_succ_iff_lt_or_eq.1 h with h | rfl; exact hall.out j hj h' h; exact HC.out⟩
              case measure => simp [intOf]; omega
          · have HC : Hid (chB s[k] = true) := by show chB s[k] = true; unfold chB; rw [hL]; rfl
            go_wp2_with (first | (go_at_call 115; refine (letter_spec _ _).mono ?_; rintro e w' ⟨rfl, rfl⟩) | (go_at_call 116; refine (digit_spec _ _).mono ?_; rintro e w' ⟨rfl, rfl⟩))
            go_round
            case rel => exact ⟨k + 1, by omega, by omega, by go_num, fun j hj h' h => by rcases Nat.lt_succ_iff_lt_or_eq.1 h with h | rfl; exact hall.out j hj h' h; exact HC.out⟩
            case measure => simp [intOf]; omega
        · have HN : Hid (nameB s.data.toList = true) := name_all h1 h2 hd (fun j hj h => hall.out j hj h (by omega))
          go_wp2_with fail
          go_ret
          exact ⟨ret_boolN HN.out.symm, rfl⟩
theorem name_face (s : ByteArray) (w : World) (hs : s.size ≤ maxLen) :
    Calls Tryz.prog 70 #[.string s] w fun e w' => e = .returned (.bool (nameB s.data.toList)) ∧ w' = w := by
  go_enter Tryz.func70, Tryz.ntmps70
  go_wp2_with fail
  refine (name_spec s _ hs).mono ?_
  rintro e w' ⟨rfl, rfl⟩
  go_wp2_with fail
  go_ret
  exact ⟨rfl, rfl⟩
theorem nameI (t : List UInt8) (w : World) (hs : t.length ≤ maxLen) : Calls Tryz.prog 80 #[.string ⟨t.toArray⟩] w fun e w' => e = .returned (.bool (nameB t)) ∧ w' = w := by
  have := name_impl ⟨t.toArray⟩ w (by show t.toArray.size ≤ maxLen; simpa using hs)
  exact this
theorem nameS (t : List UInt8) (w : World) (hs : t.length ≤ maxLen) : Calls Tryz.prog 70 #[.string ⟨t.toArray⟩] w fun e w' => e = .returned (.bool (nameB t)) ∧ w' = w := by
  have := name_face ⟨t.toArray⟩ w (by show t.toArray.size ≤ maxLen; simpa using hs)
  exact this
end Go.Proofs.YtponpcbedcihaaaGreat
