import Derived.Test.YtodgijhpokjjhaaDoorZaa
namespace Go.Proofs.YtodgijhpokjjhaaDoor
def dig (n : Nat) : List UInt8 := if n < 10 then [UInt8.ofNat (48 + n)] else dig (n / 10) ++ [UInt8.ofNat (48 + n % 10)]
termination_by n
decreasing_by omega
theorem dig_small {n : Nat} (h : n < 10) : dig n = [UInt8.ofNat (48 + n)] := by rw [dig, if_pos h]
theorem dig_big {n : Nat} (h : ¬ n < 10) : dig n = dig (n / 10) ++ [UInt8.ofNat (48 + n % 10)] := by rw [dig, if_neg h]
def isDig (c : UInt8) : Bool := decide (48 ≤ c.toNat ∧ c.toNat ≤ 57)
theorem dig_isDig (m : Nat) (h : m < 10) : isDig (UInt8.ofNat (48 + m)) = true ∧ (UInt8.ofNat (48 + m)).toNat = 48 + m := by
  have : (UInt8.ofNat (48 + m)).toNat = 48 + m := by simp; omega
  exact ⟨by unfold isDig; rw [this]; simp; omega, this⟩
theorem dig_all (n : Nat) : (dig n).all isDig = true := by
  induction n using Nat.strongRecOn with
  | _ n ih =>
    by_cases h : n < 10
    · rw [dig_small h]; simp only [List.all_cons, List.all_nil, (dig_isDig n h).1, Bool.and_true]
    · rw [dig_big h, List.all_append, ih (n / 10) (by omega)]; simp only [List.all_cons, List.all_nil, (dig_isDig (n % 10) (by omega)).1, Bool.and_true]
theorem dig_ne (n : Nat) : ∃ c l, dig n = c :: l ∧ isDig c = true := by
  have ha := dig_all n
  cases e : dig n with
  | nil =>
    by_cases h : n < 10
    · rw [dig_small h] at e; cases e
    · rw [dig_big h] at e; simp at e
  | cons c l => rw [e] at ha; simp at ha; exact ⟨c, l, rfl, ha.1⟩
def num (n : Int) : List UInt8 := if n < 0 then 45 :: dig n.natAbs else dig n.natAbs
def special (c : UInt8) : Bool := c == 34 || c == 92
def esc (c : UInt8) : List UInt8 := if special c then [92, c] else [c]
def quo (t : List UInt8) : List UInt8 := 34 :: (t.flatMap esc ++ [34])
def joinF : Bool → List (List UInt8) → List UInt8
  | _, [] => []
  | f, s :: l => (if f then [] else [44]) ++ (s ++ joinF false l)
theorem joinF_snoc : ∀ (f : Bool) (l : List (List UInt8)) (s : List UInt8), joinF f (l ++ [s]) = joinF f l ++ ((if f && l.isEmpty then [] else [44]) ++ s)
  | f, [], s => by cases f <;> simp [joinF]
  | f, x :: l, s => by simp [joinF, joinF_snoc false l s]
def pieces (k : Int) (keys : List (List UInt8)) (ss : List (List UInt8)) : List (List UInt8) := if k = 5 then List.zipWith (fun key s => quo key ++ 58 :: s) keys ss else ss
def pr : J → List UInt8
  | ⟨k, n, t, keys, items⟩ => if k = 0 then [110, 117, 108, 108] else if k = 1 then (if n = 0 then [102, 97, 108, 115, 101] else [116, 114, 117, 101]) else if k = 2 then num n else if k = 3 then quo t
    else (if k = 5 then 123 else 91) :: (joinF true (pieces k keys (items.map fun x => pr x)) ++ [if k = 5 then 125 else 93])
theorem pr_eq (j : J) : pr j = if j.k = 0 then [110, 117, 108, 108] else if j.k = 1 then (if j.n = 0 then [102, 97, 108, 115, 101] else [116, 114, 117, 101]) else if j.k = 2 then num j.n else if j.k = 3 then quo j.t
    else (if j.k = 5 then 123 else 91) :: (joinF true (pieces j.k j.keys (j.items.map pr)) ++ [if j.k = 5 then 125 else 93]) := by
  cases j; rw [pr]
def Good (j : J) : Prop := ∃ d n, cnt d j = some n
theorem Good.part {j : J} (h : Good j) : partB j = true := by
  obtain ⟨d, n, h⟩ := h
  cases d with
  | zero => simp [cnt] at h
  | succ d =>
    cases e : partB j
    · rw [cnt_nopart e] at h; cases h
    · rfl
theorem sumO_some : ∀ (l : List (Option Nat)) (n : Nat), sumO l = some n → ∀ x ∈ l, ∃ m, x = some m
  | [], _, _, x, hx => absurd hx (List.not_mem_nil)
  | y :: l, n, h, x, hx => by
    unfold sumO at h
    cases y with
    | none => simp [addO] at h
    | some a =>
      cases e : sumO l with
      | none => rw [e] at h; simp [addO] at h
      | some b =>
        rcases List.mem_cons.1 hx with rfl | hx
        · exact ⟨a, rfl⟩
        · exact sumO_some l b e x hx
theorem Good.item {j : J} (h : Good j) (x : J) (hx : x ∈ j.items) : Good x := by
  have hp := h.part
  obtain ⟨d, n, h⟩ := h
  cases d with
  | zero => simp [cnt] at h
  | succ d =>
    unfold cnt at h
    rw [if_pos hp] at h
    cases e : sumO (j.items.map (cnt d)) with
    | none => rw [e] at h; simp [addO] at h
    | some m =>
      obtain ⟨q, hq⟩ := sumO_some _ m e (cnt d x) (List.mem_map_of_mem hx)
      exact ⟨d, q, hq⟩
def cls (c : UInt8) : Int := if c = 110 then 0 else if c = 102 ∨ c = 116 then 1 else if c = 45 ∨ isDig c = true then 2 else if c = 34 then 3 else if c = 91 then 4 else if c = 123 then 5 else 6
theorem cls_dig {c : UInt8} (h : isDig c = true) : cls c = 2 := by
  unfold cls
  rw [if_neg (fun e => by rw [e] at h; simp [isDig] at h), if_neg (fun e => by rcases e with e | e <;> (rw [e] at h; simp [isDig] at h)), if_pos (.inr h)]
theorem Good.kind {j : J} (h : Good j) : 0 ≤ j.k ∧ j.k ≤ 5 := by
  have hp := h.part
  by_cases h1 : j.k < 0 ∨ 5 < j.k
  · rw [partN h1] at hp; cases hp
  · omega
theorem pr_head {j : J} (h : Good j) : ∃ c l, pr j = c :: l ∧ cls c = j.k := by
  have hk := h.kind
  rw [pr_eq]
  by_cases h0 : j.k = 0
  · rw [if_pos h0]; exact ⟨_, _, rfl, by rw [h0]; rfl⟩
  rw [if_neg h0]
  by_cases h1 : j.k = 1
  · rw [if_pos h1]
    by_cases hn : j.n = 0
    · rw [if_pos hn]; exact ⟨_, _, rfl, by rw [h1]; rfl⟩
    · rw [if_neg hn]; exact ⟨_, _, rfl, by rw [h1]; rfl⟩
  rw [if_neg h1]
  by_cases h2 : j.k = 2
  · rw [if_pos h2]
    unfold num
    by_cases hn : j.n < 0
    · rw [if_pos hn]; exact ⟨_, _, rfl, by rw [h2]; rfl⟩
    · rw [if_neg hn]
      obtain ⟨c, l, e, hc⟩ := dig_ne j.n.natAbs
      exact ⟨c, l, e, by rw [h2]; exact cls_dig hc⟩
  rw [if_neg h2]
  by_cases h3 : j.k = 3
  · rw [if_pos h3]; exact ⟨_, _, rfl, by rw [h3]; rfl⟩
  rw [if_neg h3]
  by_cases h5 : j.k = 5
  · rw [if_pos h5]; exact ⟨_, _, rfl, by rw [h5]; rfl⟩
  · rw [if_neg h5]; exact ⟨_, _, rfl, by rw [show j.k = 4 by omega]; rfl⟩
end Go.Proofs.YtodgijhpokjjhaaDoor
