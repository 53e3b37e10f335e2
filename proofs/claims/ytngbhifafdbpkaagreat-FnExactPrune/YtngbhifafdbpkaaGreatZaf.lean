import Derived.Test.YtngbhifafdbpkaaGreatZaa
import Derived.Deep.CutRange
namespace Go.Proofs.YtngbhifafdbpkaaGreat
open Go.RowKit
set_option linter.unusedSimpArgs false
def atZ : At := ⟨0, 0, []⟩
def atF (l : List At) (m : Nat) : Value := if m % 3 = 0 then .int .i64 (l.getD (m / 3) atZ).k else if m % 3 = 1 then .int .i64 (l.getD (m / 3) atZ).n else .string ⟨(l.getD (m / 3) atZ).t.toArray⟩
theorem at_getD {l : List At} {i : Nat} (h : i < l.length) : l.getD i atZ = l[i] := by rw [List.getD_eq_getElem?_getD, List.getElem?_eq_getElem h]; rfl
theorem atF0 {l : List At} {i : Nat} (h : i < l.length) : atF l (i * 3) = .int .i64 l[i].k := by
  unfold atF
  rw [if_pos (by omega), show i * 3 / 3 = i by omega, at_getD h]
theorem atF1 {l : List At} {i : Nat} (h : i < l.length) : atF l (i * 3 + 1) = .int .i64 l[i].n := by
  unfold atF
  rw [if_neg (by omega), if_pos (by omega), show (i * 3 + 1) / 3 = i by omega, at_getD h]
theorem atF2 {l : List At} {i : Nat} (h : i < l.length) : atF l (i * 3 + 2) = .string ⟨l[i].t.toArray⟩ := by
  unfold atF
  rw [if_neg (by omega), if_neg (by omega), show (i * 3 + 2) / 3 = i by omega, at_getD h]
def Ats (w : World) (B : Nat → Prop) (a : Option Addr) (l : List At) : Prop :=
  l.length = 0 ∨ ∃ b off, a = some ⟨b, off, none⟩ ∧ B b ∧ ∀ m, m < l.length * 3 → w.cell? ⟨b, off + m, none⟩ = some (atF l m)
theorem Ats.same {w w' : World} {B B' : Nat → Prop} {a : Option Addr} {l : List At} (h : Ats w B a l) (hs : ∀ b, B b → w'.heap[b]? = w.heap[b]?) (hB : ∀ b, B b → B' b) : Ats w' B' a l := by
  rcases h with h | ⟨b, off, ha, hb, hc⟩
  · exact .inl h
  · exact .inr ⟨b, off, ha, hB b hb, fun m hm => by rw [World.cell?_of_block (w := w) (a := ⟨b, off + m, none⟩) (hs b hb)]; exact hc m hm⟩
theorem Ats.any {w : World} {B : Nat → Prop} {a : Option Addr} {l : List At} (h : Ats w B a l) : Ats w (fun _ => True) a l := h.same (fun _ _ => rfl) (fun _ _ => trivial)
theorem Ats.below {w w' : World} {S : Nat} {a : Option Addr} {l : List At} (h : Ats w (· < S) a l) (hb : Below S w w') : Ats w' (· < S) a l := h.same (fun b hb' => hb.block b hb') (fun _ h => h)
theorem Ats.inside {w : World} {B : Nat → Prop} {a : Option Addr} {l : List At} (h : Ats w B a l) : Ats w (fun b => B b ∧ b < w.heap.size) a l := by
  rcases h with h | ⟨b, off, ha, hb, hc⟩
  · exact .inl h
  · by_cases h0 : l.length = 0
    · exact .inl h0
    · exact .inr ⟨b, off, ha, ⟨hb, World.block_lt_of_cell? _ _ (hc 0 (by omega))⟩, hc⟩
theorem Ats.later {w w' : World} {B : Nat → Prop} {a : Option Addr} {l : List At} (h : Ats w B a l) (hb : Below w.heap.size w w') : Ats w' B a l := h.inside.same (fun b hb' => hb.block b hb'.2) (fun _ h => h.1)
theorem Ats.item {w : World} {B : Nat → Prop} {a : Option Addr} {l : List At} (h : Ats w B a l) (k : Nat) (hk : k < l.length) :
    ∃ b off, a = some ⟨b, off, none⟩ ∧ B b ∧ w.cell? ⟨b, off + k * 3, none⟩ = some (.int .i64 l[k].k) ∧ w.cell? ⟨b, off + k * 3 + 1, none⟩ = some (.int .i64 l[k].n) ∧ w.cell? ⟨b, off + k * 3 + 2, none⟩ = some (.string ⟨l[k].t.toArray⟩) := by
  rcases h with h | ⟨b, off, ha, hb, hc⟩
  · omega
  · exact ⟨b, off, ha, hb, by rw [hc _ (by omega), atF0 hk], by rw [Nat.add_assoc, hc _ (by omega), atF1 hk], by rw [Nat.add_assoc, hc _ (by omega), atF2 hk]⟩
theorem heap_newA (w : World) (o : Obj) : (w.alloc o).heap[w.heap.size]? = some o := by
  show (w.heap.push o)[w.heap.size]? = _
  simp
theorem heap_keptA {w w' : World} {b : Nat} {o : Obj} (h : w.heap[b]? = some o) (hB : Below w.heap.size w w') : w'.heap[b]? = some o := by
  rw [hB.block b (Array.getElem?_eq_some_iff.1 h).1]; exact h
end Go.Proofs.YtngbhifafdbpkaaGreat
namespace Go.Proofs.YtngbhifafdbpkaaGreat
open Go.RowKit
set_option linter.unusedSimpArgs false
def atOK (x : At) : Bool :=
  if x.k = 1 then inB (-1000000000) x.n 1000000000 && x.t.isEmpty
  else if x.k = 2 then (x.n == 0) && textB x.t
  else if x.k = 3 then inB 0 x.n 1 && x.t.isEmpty
  else if x.k = 4 then inB 1 x.n 1000000 && x.t.isEmpty
  else false
theorem atOK1 {x : At} (h : x.k = 1) : atOK x = (inB (-1000000000) x.n 1000000000 && x.t.isEmpty) := by unfold atOK; rw [if_pos h]
theorem atOK2 {x : At} (h : x.k = 2) : atOK x = ((x.n == 0) && textB x.t) := by unfold atOK; rw [if_neg (by omega), if_pos h]
theorem atOK3 {x : At} (h : x.k = 3) : atOK x = (inB 0 x.n 1 && x.t.isEmpty) := by unfold atOK; rw [if_neg (by omega), if_neg (by omega), if_pos h]
theorem atOK4 {x : At} (h : x.k = 4) : atOK x = (inB 1 x.n 1000000 && x.t.isEmpty) := by unfold atOK; rw [if_neg (by omega), if_neg (by omega), if_neg (by omega), if_pos h]
theorem atOKN {x : At} (h : x.k < 1 ∨ 4 < x.k) : atOK x = false := by unfold atOK; rw [if_neg (by omega), if_neg (by omega), if_neg (by omega), if_neg (by omega)]
theorem end_b {a x y : Bool} (HP : Hid (a = x)) (h : y = x) : y = a := by rw [HP.out]; exact h
set_option maxHeartbeats 1600000 in
theorem atomOKs (x : At) (w : World) (ht : x.t.length ≤ maxLen) :
    Calls Tryz.prog 89 #[.agg #[.int .i64 x.k, .int .i64 x.n, .string ⟨x.t.toArray⟩]] w fun e w' => e = .returned (.bool (atOK x)) ∧ Below w.heap.size w w' := by
  have HTL : Hid (x.t.length ≤ maxLen) := ht
  clear ht
  rcases (by omega : x.k = 1 ∨ x.k = 2 ∨ x.k = 3 ∨ x.k = 4 ∨ (x.k < 1 ∨ 4 < x.k)) with k | k | k | k | k
  · have HP : Hid (atOK x = _) := atOK1 k
    rw [k]
    go_enter Tryz.func89, Tryz.ntmps89
    go_wp2_with (go_at_call 32; refine (inS _ _ _ _).mono ?_; rintro e w' ⟨rfl, rfl⟩)
    all_goals
      go_ret
      exact ⟨ret_b (end_b HP (by simp [*])), (Below.refl _ _).alloc (Nat.le_refl _) _⟩
  · have HP : Hid (atOK x = _) := atOK2 k
    rw [k]
    go_enter Tryz.func89, Tryz.ntmps89
    go_wp2_with (go_at_call 110; refine (textS _ _ HTL.out).mono ?_; rintro e w' ⟨rfl, rfl⟩)
    all_goals
      go_ret
      exact ⟨ret_b (end_b HP (by simp [*])), (Below.refl _ _).alloc (Nat.le_refl _) _⟩
  · have HP : Hid (atOK x = _) := atOK3 k
    rw [k]
    go_enter Tryz.func89, Tryz.ntmps89
    go_wp2_with (go_at_call 32; refine (inS _ _ _ _).mono ?_; rintro e w' ⟨rfl, rfl⟩)
    all_goals
      go_ret
      exact ⟨ret_b (end_b HP (by simp [*])), (Below.refl _ _).alloc (Nat.le_refl _) _⟩
  · have HP : Hid (atOK x = _) := atOK4 k
    rw [k]
    go_enter Tryz.func89, Tryz.ntmps89
    go_wp2_with (go_at_call 32; refine (inS _ _ _ _).mono ?_; rintro e w' ⟨rfl, rfl⟩)
    all_goals
      go_ret
      exact ⟨ret_b (end_b HP (by simp [*])), (Below.refl _ _).alloc (Nat.le_refl _) _⟩
  · have HP : Hid (atOK x = false) := atOKN k
    have k1 : (x.k == 1) = false := by simp; omega
    have k2 : (x.k == 2) = false := by simp; omega
    have k3 : (x.k == 3) = false := by simp; omega
    have k4 : (x.k == 4) = false := by simp; omega
    go_enter Tryz.func89, Tryz.ntmps89
    go_wp2_with fail
    go_ret
    exact ⟨ret_b (end_b HP rfl), (Below.refl _ _).alloc (Nat.le_refl _) _⟩
def cmpA (a b : At) : Int :=
  if a.k ≠ b.k then (if a.k < b.k then -1 else 1)
  else if a.n ≠ b.n then (if a.n < b.n then -1 else 1)
  else if a.t ≠ b.t then (if Op.bytesLess a.t b.t then -1 else 1)
  else 0
theorem bitS (b : Bool) (w : World) : Calls Tryz.prog 65 #[.bool b] w fun e w' => e = .returned (.int .i64 (if b then 1 else 0)) ∧ w' = w := by
  cases b
  · go_enter Tryz.func65, Tryz.ntmps65
    go_wp2_with fail
    go_ret
    exact ⟨rfl, rfl⟩
  · go_enter Tryz.func65, Tryz.ntmps65
    go_wp2_with fail
    go_ret
    exact ⟨rfl, rfl⟩
theorem cmp_k {a b : At} (h : a.k ≠ b.k) : cmpA a b = 1 - 2 * (if decide (a.k < b.k) then 1 else 0) := by
  unfold cmpA
  rw [if_pos h]
  by_cases hl : a.k < b.k <;> simp [hl]
theorem cmp_n {a b : At} (h : a.k = b.k) (h2 : a.n ≠ b.n) : cmpA a b = 1 - 2 * (if decide (a.n < b.n) then 1 else 0) := by
  unfold cmpA
  rw [if_neg (by simp [h]), if_pos h2]
  by_cases hl : a.n < b.n <;> simp [hl]
theorem cmp_t {a b : At} (h : a.k = b.k) (h2 : a.n = b.n) (h3 : a.t ≠ b.t) : cmpA a b = 1 - 2 * (if Op.bytesLess a.t b.t then 1 else 0) := by
  unfold cmpA
  rw [if_neg (by simp [h]), if_neg (by simp [h2]), if_pos h3]
  by_cases hl : Op.bytesLess a.t b.t = true <;> simp [hl]
theorem cmp_0 {a b : At} (h : a.k = b.k) (h2 : a.n = b.n) (h3 : a.t = b.t) : cmpA a b = 0 := by
  unfold cmpA
  rw [if_neg (by simp [h]), if_neg (by simp [h2]), if_neg (by simp [h3])]
theorem below2 (w : World) (o o' : Obj) : Below w.heap.size w ((w.alloc o).alloc o') := ((Below.refl _ _).alloc (Nat.le_refl _) _).alloc (by simp) _
set_option maxHeartbeats 1600000 in
theorem orderS (a b : At) (w : World) :
    Calls Tryz.prog 90 #[.agg #[.int .i64 a.k, .int .i64 a.n, .string ⟨a.t.toArray⟩], .agg #[.int .i64 b.k, .int .i64 b.n, .string ⟨b.t.toArray⟩]] w fun e w' => e = .returned (.int .i64 (cmpA a b)) ∧ Below w.heap.size w w' := by
  by_cases h : a.k = b.k
  case neg =>
    have HC : Hid (cmpA a b = _) := cmp_k h
    have hk : (a.k != b.k) = true := by simpa using h
    obtain ⟨l, hl⟩ : ∃ l, l = decide (a.k < b.k) := ⟨_, rfl⟩
    rw [← hl] at HC
    clear h
    cases l
    · have hd : decide (a.k < b.k) = false := hl.symm
      clear hl
      go_enter Tryz.func90, Tryz.ntmps90
      go_wp2_with (go_at_call 65; refine (bitS false _).mono ?_; rintro e w' ⟨rfl, rfl⟩)
      go_ret
      exact ⟨by rw [HC.out]; rfl, below2 _ _ _⟩
    · have hd : decide (a.k < b.k) = true := hl.symm
      clear hl
      go_enter Tryz.func90, Tryz.ntmps90
      go_wp2_with (go_at_call 65; refine (bitS true _).mono ?_; rintro e w' ⟨rfl, rfl⟩)
      go_ret
      exact ⟨by rw [HC.out]; rfl, below2 _ _ _⟩
  by_cases h2 : a.n = b.n
  case neg =>
    have HC : Hid (cmpA a b = _) := cmp_n h h2
    have hk : (a.n != b.n) = true := by simpa using h2
    obtain ⟨l, hl⟩ : ∃ l, l = decide (a.n < b.n) := ⟨_, rfl⟩
    rw [← hl] at HC
    clear h2
    rw [h]
    clear h
    cases l
    · have hd : decide (a.n < b.n) = false := hl.symm
      clear hl
      go_enter Tryz.func90, Tryz.ntmps90
      go_wp2_with (go_at_call 65; refine (bitS false _).mono ?_; rintro e w' ⟨rfl, rfl⟩)
      go_ret
      exact ⟨by rw [HC.out]; rfl, below2 _ _ _⟩
    · have hd : decide (a.n < b.n) = true := hl.symm
      clear hl
      go_enter Tryz.func90, Tryz.ntmps90
      go_wp2_with (go_at_call 65; refine (bitS true _).mono ?_; rintro e w' ⟨rfl, rfl⟩)
      go_ret
      exact ⟨by rw [HC.out]; rfl, below2 _ _ _⟩
  by_cases h3 : a.t = b.t
  case neg =>
    have HC : Hid (cmpA a b = _) := cmp_t h h2 h3
    have hk : (a.t == b.t) = false := by simpa using h3
    obtain ⟨l, hl⟩ : ∃ l, l = Op.bytesLess a.t b.t := ⟨_, rfl⟩
    rw [← hl] at HC
    rw [h, h2]
    clear h h2
    cases l
    · have hd : Op.bytesLess a.t b.t = false := hl.symm
      clear hl
      go_enter Tryz.func90, Tryz.ntmps90
      go_wp2_with (go_at_call 65; refine (bitS false _).mono ?_; rintro e w' ⟨rfl, rfl⟩)
      go_ret
      exact ⟨by rw [HC.out]; rfl, below2 _ _ _⟩
    · have hd : Op.bytesLess a.t b.t = true := hl.symm
      clear hl
      go_enter Tryz.func90, Tryz.ntmps90
      go_wp2_with (go_at_call 65; refine (bitS true _).mono ?_; rintro e w' ⟨rfl, rfl⟩)
      go_ret
      exact ⟨by rw [HC.out]; rfl, below2 _ _ _⟩
  have HC : Hid (cmpA a b = 0) := cmp_0 h h2 h3
  rw [h, h2, h3]
  clear h h2 h3
  go_enter Tryz.func90, Tryz.ntmps90
  go_wp2_with fail
  go_ret
  exact ⟨by rw [HC.out]; rfl, below2 _ _ _⟩
end Go.Proofs.YtngbhifafdbpkaaGreat
namespace Go.Proofs.YtngbhifafdbpkaaGreat
open Go.RowKit
set_option linter.unusedSimpArgs false
def sameAt (x y : At) : Bool := (x.k == y.k) && ((x.n == y.n) && (x.t == y.t))
theorem sameAt_iff {x y : At} : sameAt x y = true ↔ x = y := by
  unfold sameAt
  constructor
  · intro h
    simp at h
    exact At.ext' h.1 h.2.1 h.2.2
  · rintro rfl; simp
theorem differ {x y : At} (h : x ≠ y) : ¬ x.k = y.k ∨ (x.k = y.k ∧ ¬ x.n = y.n) ∨ (x.k = y.k ∧ x.n = y.n ∧ ¬ x.t = y.t) := by
  by_cases h1 : x.k = y.k
  · by_cases h2 : x.n = y.n
    · by_cases h3 : x.t = y.t
      · exact absurd (At.ext' h1 h2 h3) h
      · exact .inr (.inr ⟨h1, h2, h3⟩)
    · exact .inr (.inl ⟨h1, h2⟩)
  · exact .inl h1
def hasB (l : List At) (a : At) : Bool := l.any (fun x => sameAt x a)
theorem hasB_true {l : List At} {a : At} {k : Nat} (hk : k < l.length) (h : l[k] = a) : hasB l a = true := by
  unfold hasB
  rw [List.any_eq_true]
  exact ⟨l[k], List.getElem_mem hk, sameAt_iff.2 h⟩
theorem hasB_false {l : List At} {a : At} (h : ∀ k (hk : k < l.length), l[k] ≠ a) : hasB l a = false := by
  unfold hasB
  rw [List.any_eq_false]
  intro x hx
  obtain ⟨k, hk, rfl⟩ := List.getElem_of_mem hx
  intro e
  exact h k hk (sameAt_iff.1 e)
def BoxA (w W : World) (x : At) : Prop := W.heap[w.heap.size]? = some (.cells #[.int .i64 x.k, .int .i64 x.n, .string ⟨x.t.toArray⟩] 84) ∧ Below w.heap.size w W
theorem BoxA.later {w W W' : World} {x : At} (h : BoxA w W x) (hB : Below W.heap.size W W') : BoxA w W' x := ⟨heap_keptA h.1 hB, h.2.trans (hB.mono h.2.size)⟩
theorem BoxA.drewN {w W : World} {x : At} (h : BoxA w W x) (n : Nat) : BoxA w (W.drewN n) x := h.later (below_drewN (Below.refl _ _) _)
set_option maxHeartbeats 3200000 in
theorem hasS (l : List At) (x : At) (a : Option Addr) (c : Nat) (B : Nat → Prop) (w : World) (hl : l.length ≤ maxLen) (hA : Ats w B a l) :
    Calls Tryz.prog 66 #[.slice a l.length c, .agg #[.int .i64 x.k, .int .i64 x.n, .string ⟨x.t.toArray⟩]] w fun e w' => e = .returned (.bool (hasB l x)) ∧ Below w.heap.size w w' := by
  unfold maxLen at hl
  have HA : Hid (Ats w B a l) := hA
  clear hA
  go_enter Tryz.func66, Tryz.ntmps66
  go_wp2_with fail
  go_loopw [5] (fun i wr => ∃ k : Nat, k ≤ l.length ∧ i = .int .i64 k ∧ Hid ((∀ m (h : m < l.length), m < k → l[m] ≠ x) ∧ BoxA w wr x)) (fun i _ => l.length - (intOf i).toNat)
  case atStart => exact ⟨0, Nat.zero_le _, rfl, fun m _ h => absurd h (by omega), heap_newA _ _, (Below.refl _ _).alloc (Nat.le_refl _) _⟩
  case round =>
    obtain ⟨k, hk, rfl, HW⟩ := hrel
    have x0 := cell_at (o := 0) HW.out.2.1 rfl
    have x1 := cell_at (o := 1) HW.out.2.1 rfl
    have x2 := cell_at (o := 2) HW.out.2.1 rfl
    by_cases hlt : k < l.length
    · obtain ⟨b, off, rfl, -, c0, c1, c2⟩ := (HA.out.later HW.out.2.2).item k hlt
      have hki : (k : Int) < (l.length : Int) := by omega
      by_cases he : l[k] = x
      · have HR : Hid (hasB l x = true) := hasB_true hlt he
        rw [he] at c0 c1 c2
        clear he
        go_wp2_with fail
        go_quiet (fail)
        go_wp2_with fail
        go_ret
        exact ⟨ret_b HR.out.symm, (HW.out.2.drewN _).2⟩
      · have HN : Hid (∀ m (h : m < l.length), m < k + 1 → l[m] ≠ x) := fun m h hm => by
          by_cases e : m = k
          · subst e; exact he
          · exact HW.out.1 m h (by omega)
        rcases differ he with hd | ⟨hd, hd2⟩ | ⟨hd, hd2, hd3⟩
        · clear he
          go_wp2_with fail
          go_quiet (fail)
          go_wp2_with fail
          go_roundw
          case rel => exact ⟨k + 1, by omega, by go_num, HN.out, HW.out.2.drewN _⟩
          case measure => simp [intOf]; omega
        · rw [hd] at c0
          clear he hd
          go_wp2_with fail
          go_quiet (fail)
          go_wp2_with fail
          go_roundw
          case rel => exact ⟨k + 1, by omega, by go_num, HN.out, HW.out.2.drewN _⟩
          case measure => simp [intOf]; omega
        · rw [hd] at c0
          rw [hd2] at c1
          clear he hd hd2
          go_wp2_with fail
          go_quiet (fail)
          go_wp2_with fail
          go_roundw
          case rel => exact ⟨k + 1, by omega, by go_num, HN.out, HW.out.2.drewN _⟩
          case measure => simp [intOf]; omega
    · have HR : Hid (hasB l x = false) := hasB_false (fun m h => HW.out.1 m h (by omega))
      have hki : decide ((k : Int) < (l.length : Int)) = false := by simp; omega
      go_wp2_with fail
      go_ret
      exact ⟨ret_b HR.out.symm, HW.out.2.2⟩
end Go.Proofs.YtngbhifafdbpkaaGreat
