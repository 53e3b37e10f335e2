import Derived.Test.YtooiejlbnddfmaaPlain
namespace Go.Proofs.Ytooiejlbnddfmaa
/-! the text of a value, and that it is of no other one -/
def dig (n : Nat) : List UInt8 := if n < 10 then [UInt8.ofNat (48 + n)] else dig (n / 10) ++ [UInt8.ofNat (48 + n % 10)]
termination_by n
decreasing_by omega
theorem dig_small {n : Nat} (h : n < 10) : dig n = [UInt8.ofNat (48 + n)] := by rw [dig, if_pos h]
theorem dig_big {n : Nat} (h : ¬ n < 10) : dig n = dig (n / 10) ++ [UInt8.ofNat (48 + n % 10)] := by rw [dig, if_neg h]
def isDig (c : UInt8) : Bool := decide (48 ≤ c.toNat ∧ c.toNat ≤ 57)
theorem dig_isDig (m : Nat) (h : m < 10) : isDig (UInt8.ofNat (48 + m)) = true ∧ (UInt8.ofNat (48 + m)).toNat = 48 + m := by
  have : (UInt8.ofNat (48 + m)).toNat = 48 + m := by simp; omega
  exact ⟨by unfold isDig; rw [this]; simp; omega, this⟩
theorem dig_all (n : Nat) : (dig n).all isDig = true := by
  induction n using Nat.strongRecOn with
  | _ n ih =>
    by_cases h : n < 10
    · rw [dig_small h]; simp only [List.all_cons, List.all_nil, (dig_isDig n h).1, Bool.and_true]
    · rw [dig_big h, List.all_append, ih (n / 10) (by omega)]; simp only [List.all_cons, List.all_nil, (dig_isDig (n % 10) (by omega)).1, Bool.and_true]
def valD (l : List UInt8) : Nat := l.foldl (fun a c => a * 10 + (c.toNat - 48)) 0
theorem val_dig (n : Nat) : valD (dig n) = n := by
  induction n using Nat.strongRecOn with
  | _ n ih =>
    by_cases h : n < 10
    · rw [dig_small h]; simp only [valD, List.foldl_cons, List.foldl_nil, (dig_isDig n h).2]; omega
    · rw [dig_big h]
      have h1 := ih (n / 10) (by omega)
      unfold valD at h1 ⊢
      rw [List.foldl_append, h1]
      simp only [List.foldl_cons, List.foldl_nil, (dig_isDig (n % 10) (by omega)).2]; omega
theorem dig_ne (n : Nat) : ∃ c l, dig n = c :: l ∧ isDig c = true := by
  have ha := dig_all n
  cases e : dig n with
  | nil =>
    by_cases h : n < 10
    · rw [dig_small h] at e; cases e
    · rw [dig_big h] at e; simp at e
  | cons c l => rw [e] at ha; simp at ha; exact ⟨c, l, rfl, ha.1⟩
/-- what may stand behind a value within a text -/
def Ends (r : List UInt8) : Prop := r = [] ∨ ∃ c t, r = c :: t ∧ (c = 44 ∨ c = 93 ∨ c = 125)
theorem run_cut : ∀ (a b r r' : List UInt8), a.all isDig = true → b.all isDig = true → Ends r → Ends r' → a ++ r = b ++ r' → a = b ∧ r = r'
  | [], [], r, r', _, _, _, _, h => ⟨rfl, by simpa using h⟩
  | [], c :: b, r, r', _, hb, hr, _, h => by
    exfalso
    simp at hb h
    rcases hr with rfl | ⟨d, t, rfl, hd⟩
    · simp at h
    · injection h with h1 h2
      subst h1
      have := hb.1
      rcases hd with rfl | rfl | rfl <;> simp [isDig] at this
  | c :: a, [], r, r', ha, _, _, hr', h => by
    exfalso
    simp at ha h
    rcases hr' with rfl | ⟨d, t, rfl, hd⟩
    · simp at h
    · injection h with h1 h2
      subst h1
      have := ha.1
      rcases hd with rfl | rfl | rfl <;> simp [isDig] at this
  | c :: a, d :: b, r, r', ha, hb, hr, hr', h => by
    simp at ha hb h
    obtain ⟨e1, e2⟩ := run_cut a b r r' (by simpa using ha.2) (by simpa using hb.2) hr hr' h.2
    exact ⟨by rw [h.1, e1], e2⟩
def num (n : Int) : List UInt8 := if n < 0 then 45 :: dig n.natAbs else dig n.natAbs
theorem num_cut {n n' : Int} {r r' : List UInt8} (hr : Ends r) (hr' : Ends r') (h : num n ++ r = num n' ++ r') : n = n' ∧ r = r' := by
  unfold num at h
  have key : dig n.natAbs ++ r = dig n'.natAbs ++ r' → n.natAbs = n'.natAbs ∧ r = r' := fun e => by
    obtain ⟨e1, e2⟩ := run_cut _ _ _ _ (dig_all _) (dig_all _) hr hr' e
    refine ⟨?_, e2⟩
    have := congrArg valD e1
    rwa [val_dig, val_dig] at this
  by_cases h1 : n < 0 <;> by_cases h2 : n' < 0
  · rw [if_pos h1, if_pos h2] at h
    simp at h
    have := key h
    exact ⟨by omega, this.2⟩
  · exfalso
    rw [if_pos h1, if_neg h2] at h
    obtain ⟨c, l, e, hc⟩ := dig_ne n'.natAbs
    rw [e] at h
    simp at h
    rw [← h.1] at hc
    simp [isDig] at hc
  · exfalso
    rw [if_neg h1, if_pos h2] at h
    obtain ⟨c, l, e, hc⟩ := dig_ne n.natAbs
    rw [e] at h
    simp at h
    rw [h.1] at hc
    simp [isDig] at hc
  · rw [if_neg h1, if_neg h2] at h
    have := key h
    exact ⟨by omega, this.2⟩
def special (c : UInt8) : Bool := c == 34 || c == 92
def esc (c : UInt8) : List UInt8 := if special c then [92, c] else [c]
def quo (t : List UInt8) : List UInt8 := 34 :: (t.flatMap esc ++ [34])
theorem esc_cut : ∀ (t t' r r' : List UInt8), t.flatMap esc ++ 34 :: r = t'.flatMap esc ++ 34 :: r' → t = t' ∧ r = r'
  | [], [], r, r', h => ⟨rfl, by simpa using h⟩
  | [], c :: t', r, r', h => by
    exfalso
    simp only [List.flatMap_nil, List.nil_append, List.flatMap_cons, esc] at h
    by_cases hc : special c
    · simp [hc] at h
    · simp [hc] at h
      rw [← h.1] at hc
      simp [special] at hc
  | c :: t, [], r, r', h => by
    exfalso
    simp only [List.flatMap_nil, List.nil_append, List.flatMap_cons, esc] at h
    by_cases hc : special c
    · simp [hc] at h
    · simp [hc] at h
      rw [h.1] at hc
      simp [special] at hc
  | c :: t, d :: t', r, r', h => by
    simp only [List.flatMap_cons, esc] at h
    by_cases hc : special c <;> by_cases hd : special d
    · simp [hc, hd] at h
      obtain ⟨e1, e2⟩ := esc_cut t t' r r' h.2
      exact ⟨by rw [h.1, e1], e2⟩
    · exfalso
      simp [hc, hd] at h
      rw [← h.1] at hd
      simp [special] at hd
    · exfalso
      simp [hc, hd] at h
      rw [h.1] at hc
      simp [special] at hc
    · simp [hc, hd] at h
      obtain ⟨e1, e2⟩ := esc_cut t t' r r' h.2
      exact ⟨by rw [h.1, e1], e2⟩
theorem quo_cut {t t' r r' : List UInt8} (h : quo t ++ r = quo t' ++ r') : t = t' ∧ r = r' := by
  unfold quo at h
  simp at h
  exact esc_cut t t' r r' h
def joinF : Bool → List (List UInt8) → List UInt8
  | _, [] => []
  | f, s :: l => (if f then [] else [44]) ++ (s ++ joinF false l)
theorem joinF_snoc : ∀ (f : Bool) (l : List (List UInt8)) (s : List UInt8), joinF f (l ++ [s]) = joinF f l ++ ((if f && l.isEmpty then [] else [44]) ++ s)
  | f, [], s => by cases f <;> simp [joinF]
  | f, x :: l, s => by simp [joinF, joinF_snoc false l s]
def pieces (k : Int) (keys : List (List UInt8)) (ss : List (List UInt8)) : List (List UInt8) := if k = 5 then List.zipWith (fun key s => quo key ++ 58 :: s) keys ss else ss
def pr : J → List UInt8
  | ⟨k, n, t, keys, items⟩ => if k = 0 then [110, 117, 108, 108] else if k = 1 then (if n = 0 then [102, 97, 108, 115, 101] else [116, 114, 117, 101]) else if k = 2 then num n else if k = 3 then quo t
    else (if k = 5 then 123 else 91) :: (joinF true (pieces k keys (items.map fun x => pr x)) ++ [if k = 5 then 125 else 93])
theorem pr_eq (j : J) : pr j = if j.k = 0 then [110, 117, 108, 108] else if j.k = 1 then (if j.n = 0 then [102, 97, 108, 115, 101] else [116, 114, 117, 101]) else if j.k = 2 then num j.n else if j.k = 3 then quo j.t
    else (if j.k = 5 then 123 else 91) :: (joinF true (pieces j.k j.keys (j.items.map pr)) ++ [if j.k = 5 then 125 else 93]) := by
  cases j; rw [pr]
/-- right, however deep -/
def Good (j : J) : Prop := ∃ d n, cnt d j = some n
theorem Good.part {j : J} (h : Good j) : partB j = true := by
  obtain ⟨d, n, h⟩ := h
  cases d with
  | zero => simp [cnt] at h
  | succ d =>
    cases e : partB j
    · rw [cnt_nopart e] at h; cases h
    · rfl
theorem sumO_some : ∀ (l : List (Option Nat)) (n : Nat), sumO l = some n → ∀ x ∈ l, ∃ m, x = some m
  | [], _, _, x, hx => absurd hx (List.not_mem_nil)
  | y :: l, n, h, x, hx => by
    unfold sumO at h
    cases y with
    | none => simp [addO] at h
    | some a =>
      cases e : sumO l with
      | none => rw [e] at h; simp [addO] at h
      | some b =>
        rcases List.mem_cons.1 hx with rfl | hx
        · exact ⟨a, rfl⟩
        · exact sumO_some l b e x hx
theorem Good.item {j : J} (h : Good j) (x : J) (hx : x ∈ j.items) : Good x := by
  have hp := h.part
  obtain ⟨d, n, h⟩ := h
  cases d with
  | zero => simp [cnt] at h
  | succ d =>
    unfold cnt at h
    rw [if_pos hp] at h
    cases e : sumO (j.items.map (cnt d)) with
    | none => rw [e] at h; simp [addO] at h
    | some m =>
      obtain ⟨q, hq⟩ := sumO_some _ m e (cnt d x) (List.mem_map_of_mem hx)
      exact ⟨d, q, hq⟩
/-- what kind opens with a byte -/
def cls (c : UInt8) : Int := if c = 110 then 0 else if c = 102 ∨ c = 116 then 1 else if c = 45 ∨ isDig c = true then 2 else if c = 34 then 3 else if c = 91 then 4 else if c = 123 then 5 else 6
theorem cls_dig {c : UInt8} (h : isDig c = true) : cls c = 2 := by
  unfold cls
  rw [if_neg (fun e => by rw [e] at h; simp [isDig] at h), if_neg (fun e => by rcases e with e | e <;> (rw [e] at h; simp [isDig] at h)), if_pos (.inr h)]
theorem Good.kind {j : J} (h : Good j) : 0 ≤ j.k ∧ j.k ≤ 5 := by
  have hp := h.part
  by_cases h1 : j.k < 0 ∨ 5 < j.k
  · rw [partN h1] at hp; cases hp
  · omega
theorem pr_head {j : J} (h : Good j) : ∃ c l, pr j = c :: l ∧ cls c = j.k := by
  have hk := h.kind
  rw [pr_eq]
  by_cases h0 : j.k = 0
  · rw [if_pos h0]; exact ⟨_, _, rfl, by rw [h0]; rfl⟩
  rw [if_neg h0]
  by_cases h1 : j.k = 1
  · rw [if_pos h1]
    by_cases hn : j.n = 0
    · rw [if_pos hn]; exact ⟨_, _, rfl, by rw [h1]; rfl⟩
    · rw [if_neg hn]; exact ⟨_, _, rfl, by rw [h1]; rfl⟩
  rw [if_neg h1]
  by_cases h2 : j.k = 2
  · rw [if_pos h2]
    unfold num
    by_cases hn : j.n < 0
    · rw [if_pos hn]; exact ⟨_, _, rfl, by rw [h2]; rfl⟩
    · rw [if_neg hn]
      obtain ⟨c, l, e, hc⟩ := dig_ne j.n.natAbs
      exact ⟨c, l, e, by rw [h2]; exact cls_dig hc⟩
  rw [if_neg h2]
  by_cases h3 : j.k = 3
  · rw [if_pos h3]; exact ⟨_, _, rfl, by rw [h3]; rfl⟩
  rw [if_neg h3]
  by_cases h5 : j.k = 5
  · rw [if_pos h5]; exact ⟨_, _, rfl, by rw [h5]; rfl⟩
  · rw [if_neg h5]; exact ⟨_, _, rfl, by rw [show j.k = 4 by omega]; rfl⟩
theorem ext5 {a b : J} (h1 : a.k = b.k) (h2 : a.n = b.n) (h3 : a.t = b.t) (h4 : a.keys = b.keys) (h5 : a.items = b.items) : a = b := by
  cases a; cases b; simp at *; exact ⟨h1, h2, h3, h4, h5⟩
def Cut (a : J) : Prop := ∀ b r r', Good a → Good b → Ends r → Ends r' → pr a ++ r = pr b ++ r' → a = b ∧ r = r'
theorem ends_join {l : List (List UInt8)} {r : List UInt8} {c : UInt8} (hc : c = 93 ∨ c = 125) : Ends (joinF false l ++ c :: r) := by
  cases l with
  | nil => exact .inr ⟨c, r, rfl, .inr hc⟩
  | cons s l => exact .inr ⟨44, s ++ joinF false l ++ c :: r, by simp [joinF], .inl rfl⟩
theorem list_cut : ∀ (la lb : List J) (f : Bool) (r r' : List UInt8), (∀ x ∈ la, Cut x) → (∀ x ∈ la, Good x) → (∀ x ∈ lb, Good x) →
    joinF f (la.map pr) ++ 93 :: r = joinF f (lb.map pr) ++ 93 :: r' → la = lb ∧ r = r'
  | [], [], _, r, r', _, _, _, h => ⟨rfl, by simpa [joinF] using h⟩
  | [], y :: lb, f, r, r', _, _, hb, h => by
    exfalso
    obtain ⟨c, l, e, hc⟩ := pr_head (hb y (List.mem_cons_self))
    have hk := (hb y (List.mem_cons_self)).kind
    cases f
    · simp [joinF] at h
    · simp [joinF, e] at h
      rw [← h.1] at hc
      have : cls 93 = 6 := by decide
      omega
  | x :: la, [], f, r, r', _, ha, _, h => by
    exfalso
    obtain ⟨c, l, e, hc⟩ := pr_head (ha x (List.mem_cons_self))
    have hk := (ha x (List.mem_cons_self)).kind
    cases f
    · simp [joinF] at h
    · simp [joinF, e] at h
      rw [h.1] at hc
      have : cls 93 = 6 := by decide
      omega
  | x :: la, y :: lb, f, r, r', hc, ha, hb, h => by
    have h1 : pr x ++ (joinF false (la.map pr) ++ 93 :: r) = pr y ++ (joinF false (lb.map pr) ++ 93 :: r') := by
      cases f <;> simpa [joinF] using h
    obtain ⟨e1, e2⟩ := hc x (List.mem_cons_self) y _ _ (ha x (List.mem_cons_self)) (hb y (List.mem_cons_self)) (ends_join (.inl rfl)) (ends_join (.inl rfl)) h1
    obtain ⟨e3, e4⟩ := list_cut la lb false r r' (fun z hz => hc z (List.mem_cons_of_mem _ hz)) (fun z hz => ha z (List.mem_cons_of_mem _ hz)) (fun z hz => hb z (List.mem_cons_of_mem _ hz)) e2
    exact ⟨by rw [e1, e3], e4⟩
theorem obj_cut : ∀ (ka kb : List (List UInt8)) (la lb : List J) (f : Bool) (r r' : List UInt8), ka.length = la.length → kb.length = lb.length → (∀ x ∈ la, Cut x) → (∀ x ∈ la, Good x) → (∀ x ∈ lb, Good x) →
    joinF f (List.zipWith (fun key s => quo key ++ 58 :: s) ka (la.map pr)) ++ 125 :: r = joinF f (List.zipWith (fun key s => quo key ++ 58 :: s) kb (lb.map pr)) ++ 125 :: r' → ka = kb ∧ la = lb ∧ r = r'
  | [], [], la, lb, _, r, r', hl, hl', _, _, _, h => by
    have : la = [] := by cases la with | nil => rfl | cons => simp at hl
    have : lb = [] := by cases lb with | nil => rfl | cons => simp at hl'
    subst_vars
    exact ⟨rfl, rfl, by simpa [joinF] using h⟩
  | [], q :: kb, la, lb, f, r, r', _, hl', _, _, _, h => by
    exfalso
    cases lb with
    | nil => simp at hl'
    | cons y lb => cases f <;> simp [joinF, quo] at h
  | p :: ka, [], la, lb, f, r, r', hl, _, _, _, _, h => by
    exfalso
    cases la with
    | nil => simp at hl
    | cons y la => cases f <;> simp [joinF, quo] at h
  | p :: ka, q :: kb, [], lb, f, r, r', hl, _, _, _, _, _ => by simp at hl
  | p :: ka, q :: kb, x :: la, [], f, r, r', _, hl', _, _, _, _ => by simp at hl'
  | p :: ka, q :: kb, x :: la, y :: lb, f, r, r', hl, hl', hc, ha, hb, h => by
    have h0 : quo p ++ (58 :: (pr x ++ (joinF false (List.zipWith (fun key s => quo key ++ 58 :: s) ka (la.map pr)) ++ 125 :: r))) = quo q ++ (58 :: (pr y ++ (joinF false (List.zipWith (fun key s => quo key ++ 58 :: s) kb (lb.map pr)) ++ 125 :: r'))) := by
      cases f <;> simpa [joinF] using h
    obtain ⟨e0, h1⟩ := quo_cut h0
    injection h1 with _ h1
    obtain ⟨e1, e2⟩ := hc x (List.mem_cons_self) y _ _ (ha x (List.mem_cons_self)) (hb y (List.mem_cons_self)) (ends_join (.inr rfl)) (ends_join (.inr rfl)) h1
    obtain ⟨e5, e3, e4⟩ := obj_cut ka kb la lb false r r' (by simpa using hl) (by simpa using hl') (fun z hz => hc z (List.mem_cons_of_mem _ hz)) (fun z hz => ha z (List.mem_cons_of_mem _ hz)) (fun z hz => hb z (List.mem_cons_of_mem _ hz)) e2
    exact ⟨by rw [e0, e5], by rw [e1, e3], e4⟩
theorem nil_of_len {α : Type} {l : List α} (h : ((l.length : Int) == 0) = true) : l = [] := by
  have := beq_iff_eq.1 h
  exact List.length_eq_zero_iff.1 (by omega)
theorem pr_cut (a : J) : Cut a := by
  induction a using J.induct with
  | h a ih =>
    intro b r r' ga gb hr hr' h
    have hka : a.k = b.k := by
      obtain ⟨c, l, e, hc⟩ := pr_head ga
      obtain ⟨c', l', e', hc'⟩ := pr_head gb
      rw [e, e'] at h
      injection h with h1 h2
      rw [← hc, ← hc', h1]
    have pa := ga.part
    have pb := gb.part
    have hk := ga.kind
    rw [pr_eq, pr_eq] at h
    rcases (by omega : a.k = 0 ∨ a.k = 1 ∨ a.k = 2 ∨ a.k = 3 ∨ a.k = 4 ∨ a.k = 5) with k | k | k | k | k | k
    · have k' : b.k = 0 := by omega
      rw [part0 k] at pa
      rw [part0 k'] at pb
      simp [noKeys, noItems] at pa pb
      simp [k, k'] at h
      exact ⟨ext5 hka (by rw [pa.1, pb.1]) (by rw [pa.2.1, pb.2.1]) (by rw [pa.2.2.1, pb.2.2.1]) (by rw [pa.2.2.2, pb.2.2.2]), h⟩
    · have k' : b.k = 1 := by omega
      rw [part1 k] at pa
      rw [part1 k'] at pb
      simp [noKeys, noItems, inB] at pa pb
      simp [k, k'] at h
      by_cases n0 : a.n = 0 <;> by_cases n1 : b.n = 0
      · simp [n0, n1] at h
        exact ⟨ext5 hka (by omega) (by rw [pa.2.1, pb.2.1]) (by rw [pa.2.2.1, pb.2.2.1]) (by rw [pa.2.2.2, pb.2.2.2]), h⟩
      · simp [n0, n1] at h
      · simp [n0, n1] at h
      · simp [n0, n1] at h
        exact ⟨ext5 hka (by omega) (by rw [pa.2.1, pb.2.1]) (by rw [pa.2.2.1, pb.2.2.1]) (by rw [pa.2.2.2, pb.2.2.2]), h⟩
    · have k' : b.k = 2 := by omega
      rw [part2 k] at pa
      rw [part2 k'] at pb
      simp [noKeys, noItems, inB] at pa pb
      simp [k, k'] at h
      obtain ⟨e1, e2⟩ := num_cut hr hr' h
      exact ⟨ext5 hka e1 (by rw [pa.2.1, pb.2.1]) (by rw [pa.2.2.1, pb.2.2.1]) (by rw [pa.2.2.2, pb.2.2.2]), e2⟩
    · have k' : b.k = 3 := by omega
      rw [part3 k] at pa
      rw [part3 k'] at pb
      simp [noKeys, noItems] at pa pb
      simp [k, k'] at h
      obtain ⟨e1, e2⟩ := quo_cut h
      exact ⟨ext5 hka (by rw [pa.1, pb.1]) e1 (by rw [pa.2.2.1, pb.2.2.1]) (by rw [pa.2.2.2, pb.2.2.2]), e2⟩
    · have k' : b.k = 4 := by omega
      rw [part4 k] at pa
      rw [part4 k'] at pb
      simp [noKeys] at pa pb
      simp [k, k', pieces] at h
      obtain ⟨e1, e2⟩ := list_cut a.items b.items true r r' ih ga.item gb.item h
      exact ⟨ext5 hka (by rw [pa.1, pb.1]) (by rw [pa.2.1, pb.2.1]) (by rw [pa.2.2, pb.2.2]) e1, e2⟩
    · have k' : b.k = 5 := by omega
      rw [part5 k] at pa
      rw [part5 k'] at pb
      simp at pa pb
      simp [k, k', pieces] at h
      obtain ⟨e0, e1, e2⟩ := obj_cut a.keys b.keys a.items b.items true r r' (by omega) (by omega) ih ga.item gb.item (by simpa using h)
      exact ⟨ext5 hka (by rw [pa.1, pb.1]) (by rw [pa.2.1, pb.2.1]) e0 e1, e2⟩
theorem pr_inj {a b : J} (ga : Good a) (gb : Good b) (h : pr a = pr b) : a = b :=
  (pr_cut a b [] [] ga gb (.inl rfl) (.inl rfl) (by simpa using h)).1
end Go.Proofs.Ytooiejlbnddfmaa
