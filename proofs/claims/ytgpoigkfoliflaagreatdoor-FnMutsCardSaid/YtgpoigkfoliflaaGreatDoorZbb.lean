import Derived.Test.YtgpoigkfoliflaaGreatDoorZba
import Derived.Test.YtgpoigkfoliflaaGreatDoorZav
import Derived.Test.YtgpoigkfoliflaaGreatDoorZai
import Derived.Test.YtgpoigkfoliflaaGreatDoorZaq
import Derived.Test.YtgpoigkfoliflaaGreatDoorZan
import Derived.Test.YtgpoigkfoliflaaGreatDoorZab
import Derived.Test.YtgpoigkfoliflaaGreatDoorZat
namespace Go.Proofs.YtgpoigkfoliflaaGreatDoor
open Go.RowKit
set_option linter.unusedSimpArgs false
theorem place_ex (l : List At) (x : At) : ∃ m, m ≤ l.length ∧ (∀ q (h : q < l.length), q < m → cmpA l[q] x < 0) ∧ ∀ h : m < l.length, ¬ cmpA l[m] x < 0 := by
  refine ⟨l.findIdx (fun y => !decide (cmpA y x < 0)), List.findIdx_le_length, fun q h hq => ?_, fun h => ?_⟩
  · have := List.not_of_lt_findIdx hq
    simpa using this
  · have := List.findIdx_getElem (w := h)
    simpa using this
theorem rise_put {l : List At} (hR : Rise l) (x : At) : Rise (putL l x) := by
  obtain ⟨m, hm, h1, h2⟩ := place_ex l x
  by_cases h : ∃ h : m < l.length, l[m] = x
  · obtain ⟨h, he⟩ := h
    rw [put_has h he]; exact hR
  · obtain ⟨e, hr⟩ := put_ins hR hm h1 (fun h' => ⟨h2 h', fun e => h ⟨h', e⟩⟩)
    rw [e]; exact hr
theorem put_more (l : List At) (x : At) : l.length ≤ (putL l x).length := by
  unfold putL
  split
  · omega
  · have := posTo_le l x l.length
    unfold posA
    simp; omega
theorem join_app (a b c : List At) : joinL a (b ++ c) = joinL (joinL a b) c := by unfold joinL; rw [List.foldl_append]
theorem rise_join {a : List At} (hR : Rise a) : ∀ b : List At, Rise (joinL a b) := by
  intro b
  induction b generalizing a with
  | nil => exact hR
  | cons x b ih => exact ih (rise_put hR x)
theorem join_more (a : List At) : ∀ b : List At, a.length ≤ (joinL a b).length := by
  intro b
  induction b generalizing a with
  | nil => exact Nat.le_refl _
  | cons x b ih => exact Nat.le_trans (put_more a x) (ih (putL a x))
theorem join_rise {a : List At} (hR : Rise a) : ∀ m, m ≤ a.length → joinL [] (a.take m) = a.take m
  | 0, _ => by simp [joinL]
  | m + 1, h => by
    rw [join_snoc [] a m (by omega), join_rise hR m (by omega)]
    have hl : (a.take m).length = m := by rw [List.length_take]; omega
    have hT : Rise (a.take m) := List.Pairwise.sublist (List.take_sublist m a) hR
    have e := (put_ins (x := a[m]) hT (Nat.le_of_eq rfl : (a.take m).length ≤ (a.take m).length) (fun q hq _ => by
      rw [List.getElem_take]
      exact hR.get (by omega) (by omega) (by omega)) (fun h => absurd h (by omega))).1
    rw [e]
    unfold insA
    simp only [List.take_length, List.drop_length, List.append_nil]
    exact (List.take_succ_eq_append_getElem (by omega)).symm
theorem join_self {a : List At} (hR : Rise a) : joinL [] a = a := by
  have := join_rise hR a.length (Nat.le_refl _)
  rwa [List.take_length] at this
structure Sl where
  l : List At
  a : Option Addr
  c : Nat
def flat (s : List Sl) : List At := s.flatMap (·.l)
theorem flat_snoc (s : List Sl) (m : Nat) (h : m < s.length) : flat (s.take (m + 1)) = flat (s.take m) ++ s[m].l := by
  unfold flat
  rw [List.take_succ_eq_append_getElem h, List.flatMap_append]
  simp
noncomputable def setR (l : List At) : List At := if 8 < (joinL [] l).length then [] else joinL [] l
noncomputable def setC (l : List At) : Int := if 8 < (joinL [] l).length then 6 else 0
structure Lists (w : World) (S p : Nat) (s : List Sl) : Prop where
  cell : ∀ m (h : m < s.length), w.cell? ⟨p, m, none⟩ = some (.slice s[m].a s[m].l.length s[m].c)
  ats : ∀ m (h : m < s.length), Ats w (· < S) s[m].a s[m].l
  len : ∀ m (h : m < s.length), s[m].l.length ≤ 1048576
theorem Lists.cells {w W : World} {S p : Nat} {s : List Sl} (h : Lists w S p s) (hp : p < w.heap.size) (hB : Below w.heap.size w W) (m : Nat) (hm : m < s.length) : W.cell? ⟨p, m, none⟩ = some (.slice s[m].a s[m].l.length s[m].c) := by
  rw [World.cell?_of_block (w := w) (a := ⟨p, m, none⟩) (hB.block p hp)]
  exact h.cell m hm
def SetI (w : World) (W : World) (v : Value) (l : List At) : Prop := AN w w.heap.size W v (joinL [] l) ∧ (joinL [] l).length ≤ 8
theorem set_over {l l' : List At} (h : 8 < (joinL [] l).length) : 8 < (joinL [] (l ++ l')).length := by
  rw [join_app]
  exact Nat.lt_of_lt_of_le h (join_more _ _)
theorem rise_nil : Rise [] := List.Pairwise.nil
end Go.Proofs.YtgpoigkfoliflaaGreatDoor
namespace Go.Proofs.YtgpoigkfoliflaaGreatDoor
open Go.RowKit
set_option linter.unusedSimpArgs false
theorem hasB_iff {l : List At} {x : At} : hasB l x = true ↔ x ∈ l := by
  unfold hasB
  rw [List.any_eq_true]
  constructor
  · rintro ⟨y, hy, e⟩
    rw [← sameAt_iff.1 e]
    exact hy
  · intro h
    exact ⟨x, h, sameAt_iff.2 rfl⟩
theorem mem_put {l : List At} {x y : At} : y ∈ putL l x ↔ y ∈ l ∨ y = x := by
  unfold putL
  split
  · rename_i h
    constructor
    · exact .inl
    · rintro (h' | rfl)
      · exact h'
      · exact hasB_iff.1 h
  · have e : y ∈ l ↔ y ∈ l.take (posA l x) ∨ y ∈ l.drop (posA l x) := by
      rw [← List.mem_append, List.take_append_drop]
    rw [e, List.mem_append, List.mem_append, List.mem_singleton]
    constructor
    · rintro ((h | h) | h)
      · exact .inl (.inl h)
      · exact .inr h
      · exact .inl (.inr h)
    · rintro ((h | h) | h)
      · exact .inl (.inl h)
      · exact .inr h
      · exact .inl (.inr h)
theorem mem_join {y : At} : ∀ {b a : List At}, y ∈ joinL a b ↔ y ∈ a ∨ y ∈ b
  | [], a => by simp [joinL]
  | x :: b, a => by
    have h := mem_join (y := y) (b := b) (a := putL a x)
    unfold joinL at h ⊢
    rw [List.foldl_cons, h, mem_put, List.mem_cons, or_assoc]
theorem mem_minus {a b : List At} {y : At} : y ∈ minusA a b ↔ y ∈ a ∧ y ∉ b := by
  unfold minusA
  rw [List.mem_filter]
  have : (!hasB b y) = true ↔ y ∉ b := by
    rw [← hasB_iff]
    cases hasB b y <;> simp
  rw [this]
theorem rise_minus {a : List At} (h : Rise a) (b : List At) : Rise (minusA a b) := List.Pairwise.sublist List.filter_sublist h
end Go.Proofs.YtgpoigkfoliflaaGreatDoor
namespace Go.Proofs.YtgpoigkfoliflaaGreatDoor
open Go.RowKit
set_option linter.unusedSimpArgs false
def kindNo (kd : Int) (l : List At) : Bool := match l with
  | [] => false
  | x :: _ => x.k != kd
theorem kindNo_nil {kd : Int} {l : List At} (h : l.length = 0) : kindNo kd l = false := by
  cases l with
  | nil => rfl
  | cons x r => simp at h
theorem kindNo_at {kd : Int} {l : List At} (h : 0 < l.length) : kindNo kd l = (l[0].k != kd) := by
  cases l with
  | nil => simp at h
  | cons x r => rfl
theorem place_cases (l : List Cl) (s : List UInt8) : placeC l s = -1 ∨ ∃ k, ∃ _ : k < l.length, placeC l s = (k : Int) := by
  rcases place_first l s with ⟨e, -⟩ | ⟨k, hk, e, -⟩
  · exact .inl e
  · exact .inr ⟨k, hk, e⟩
structure BoxE (ty ty' : TypeId) (w W : World) (cs ds : Array Value) : Prop where
  a : W.heap[w.heap.size]? = some (.cells cs ty)
  b : W.heap[w.heap.size + 1]? = some (.cells ds ty')
  bel : Below w.heap.size w W
theorem boxE (ty ty' : TypeId) (w : World) (cs ds : Array Value) : BoxE ty ty' w ((w.alloc (.cells cs ty)).alloc (.cells ds ty')) cs ds := by
  refine ⟨heap_keptD (heap_newD _ _) (below_allocD _ _), ?_, (below_allocD _ _).trans ((below_allocD _ _).mono (by simp))⟩
  have h := heap_newD (w.alloc (.cells cs ty)) (.cells ds ty')
  rw [size_allocD] at h
  exact h
theorem BoxE.later {ty ty' : TypeId} {w W W' : World} {cs ds : Array Value} (h : BoxE ty ty' w W cs ds) (hB : Below W.heap.size W W') : BoxE ty ty' w W' cs ds := ⟨heap_keptD h.a hB, heap_keptD h.b hB, h.bel.trans (hB.mono h.bel.size)⟩
theorem BoxE.drew {ty ty' : TypeId} {w W : World} {cs ds : Array Value} (h : BoxE ty ty' w W cs ds) : BoxE ty ty' w W.drew cs ds := h.later (Below.refl _ _).drew
theorem Ats.head {w : World} {S : Nat} {a : Option Addr} {l : List At} (h : Ats w (· < S) a l) : l.length = 0 ∨ ∃ b off, ∃ q : Int, 0 < l.length ∧ a = some ⟨b, off, none⟩ ∧ (∀ kd, kindNo kd l = (q != kd)) ∧ ∀ W, Below S w W → W.cell? ⟨b, off, none⟩ = some (.int .i64 q) := by
  by_cases h0 : 0 < l.length
  · obtain ⟨b, off, e, -, -⟩ := h.item 0 h0
    refine .inr ⟨b, off, l[0].k, h0, e, fun kd => kindNo_at h0, fun W hW => ?_⟩
    have h' := h.below hW
    subst e
    have := (h'.three 0 h0).1
    rwa [Nat.zero_mul, Nat.add_zero] at this
  · exact .inl (by omega)
end Go.Proofs.YtgpoigkfoliflaaGreatDoor
namespace Go.Proofs.YtgpoigkfoliflaaGreatDoor
open Go.RowKit
set_option linter.unusedSimpArgs false
structure MutV where
  col : List UInt8
  fn : Int
  val : List At
def dMut (x : MutV) : Nat → D
  | 0 => .s x.col
  | 1 => .i x.fn
  | _ => dAtomS x.val
def dMutS (l : List MutV) : D := Ls 3 dMut l
end Go.Proofs.YtgpoigkfoliflaaGreatDoor
namespace Go.Proofs.YtgpoigkfoliflaaGreatDoor
open Go.RowKit
set_option linter.unusedSimpArgs false
def mutB (c : MutV) : Bool := inB 1 c.fn 7 && (datumB c.val && decide (c.col.length ≤ 40))
def mutK (kd : Int) (c : MutV) : Int := if kindNo kd c.val = true then 9 else if c.fn ≤ 5 ∧ (kd ≠ 1 ∨ c.val.length ≠ 1) then 9 else 0
noncomputable def mutC (t : Tb) (c : MutV) : Int := if placeC t.cols c.col < 0 then 11 else match t.cols[(placeC t.cols c.col).toNat]? with
  | none => 11
  | some x => mutK x.k c
theorem mut_none {t : Tb} {c : MutV} (hp : placeC t.cols c.col = -1) : mutC t c = 11 := by
  unfold mutC; rw [hp, if_pos (by omega)]
theorem mut_at {t : Tb} {c : MutV} {k : Nat} (hk : k < t.cols.length) (hp : placeC t.cols c.col = (k : Int)) : mutC t c = mutK t.cols[k].k c := by
  unfold mutC; rw [hp, if_neg (by omega), Int.toNat_natCast, List.getElem?_eq_getElem hk]
theorem mutK_kind {kd : Int} {c : MutV} (h : kindNo kd c.val = true) : mutK kd c = 9 := by unfold mutK; rw [if_pos h]
theorem mutK_ok {kd : Int} {c : MutV} (h : kindNo kd c.val = false) (hf : ¬ c.fn ≤ 5) : mutK kd c = 0 := by
  unfold mutK; rw [if_neg (by simp [h]), if_neg (by simp [hf])]
theorem mutK_no {kd : Int} {c : MutV} (h : kindNo kd c.val = false) (hf : c.fn ≤ 5) (ho : kd ≠ 1 ∨ c.val.length ≠ 1) : mutK kd c = 9 := by
  unfold mutK; rw [if_neg (by simp [h]), if_pos ⟨hf, ho⟩]
theorem mutK_yes {kd : Int} {c : MutV} (h : kindNo kd c.val = false) (h1 : kd = 1) (h3 : c.val.length = 1) : mutK kd c = 0 := by
  unfold mutK; rw [if_neg (by simp [h]), if_neg (by intro h'; rcases h'.2 with h' | h' <;> contradiction)]
set_option maxRecDepth 100000 in
set_option maxHeartbeats 1600000 in
theorem mutOKs (c : MutV) (va : Option Addr) (vc : Nat) (S : Nat) (w : World) (hn : c.col.length ≤ maxLen) (hl : c.val.length ≤ maxLen) (hx : ∀ x ∈ c.val, x.t.length ≤ maxLen) (hw : S ≤ w.heap.size) (hA : Ats w (· < S) va c.val) :
    Calls Tryz.prog 35 #[.agg #[.string ⟨c.col.toArray⟩, .int .i64 c.fn, .slice va c.val.length vc]] w fun e w' => e = .returned (.bool (mutB c)) ∧ Below w.heap.size w w' := by
  have DA : Hid (∀ W, BoxD 49 w W #[.string ⟨c.col.toArray⟩, .int .i64 c.fn, .slice va c.val.length vc] → Calls Tryz.prog 57 #[.slice va c.val.length vc] W fun e w' => e = .returned (.bool (datumB c.val)) ∧ BoxD 49 w w' #[.string ⟨c.col.toArray⟩, .int .i64 c.fn, .slice va c.val.length vc]) := fun W h => (datumOKs c.val va vc S W hl hx (Nat.le_trans hw h.2.size) (hA.below (h.2.mono hw))).mono (fun e w' ⟨he, hB⟩ => ⟨he, h.later hB⟩)
  have hb := boxD 49 w #[.string ⟨c.col.toArray⟩, .int .i64 c.fn, .slice va c.val.length vc]
  have x0 := cell_at (o := 0) hb.1 rfl
  have x1 := cell_at (o := 1) hb.1 rfl
  have x2 := cell_at (o := 2) hb.1 rfl
  have HB := Lib.hid hb
  have HD : Hid (mutB c = (inB 1 c.fn 7 && (datumB c.val && decide (c.col.length ≤ 40)))) := rfl
  have IN := fun W => inS c.fn 1 7 W
  have HI := Lib.hid IN
  unfold maxLen at hn hl
  clear hx hw hA hb IN
  cases hf : inB 1 c.fn 7
  case false =>
    rw [hf] at HI HD
    clear hf
    go_enter Tryz.func35, Tryz.ntmps35
    go_wp2_with fail
    refine (HI.out _).mono ?_
    rintro e w1 ⟨rfl, rfl⟩
    go_wp2_with fail
    go_ret
    exact ⟨ret_b (by rw [HD.out]; rfl), HB.out.2⟩
  rw [hf] at HI HD
  clear hf
  cases hd : datumB c.val
  case false =>
    rw [hd] at DA HD
    clear hd
    go_enter Tryz.func35, Tryz.ntmps35
    go_wp2_with fail
    refine (HI.out _).mono ?_
    rintro e w1 ⟨rfl, rfl⟩
    go_wp2_with fail
    refine (DA.out _ HB.out).mono ?_
    rintro e w2 ⟨rfl, hb2⟩
    have HB2 := Lib.hid hb2
    clear hb2 x0 x1 x2
    go_wp2_with fail
    go_ret
    exact ⟨ret_b (by rw [HD.out]; rfl), HB2.out.2⟩
  rw [hd] at DA HD
  clear hd
  go_enter Tryz.func35, Tryz.ntmps35
  go_wp2_with fail
  refine (HI.out _).mono ?_
  rintro e w1 ⟨rfl, rfl⟩
  go_wp2_with fail
  refine (DA.out _ HB.out).mono ?_
  rintro e w2 ⟨rfl, hb2⟩
  have HB2 := Lib.hid hb2
  clear x0 x1 x2
  have x0 := cell_at (o := 0) hb2.1 rfl
  clear hb2
  go_wp2_with fail
  go_ret
  exact ⟨ret_b (by rw [HD.out]; simp; omega), HB2.out.2⟩
set_option maxRecDepth 100000 in
set_option maxHeartbeats 1600000 in
theorem mutOKi (c : MutV) (va : Option Addr) (vc : Nat) (S : Nat) (w : World) (hn : c.col.length ≤ maxLen) (hl : c.val.length ≤ maxLen) (hx : ∀ x ∈ c.val, x.t.length ≤ maxLen) (hw : S ≤ w.heap.size) (hA : Ats w (· < S) va c.val) :
    Calls Tryz.prog 21 #[.agg #[.string ⟨c.col.toArray⟩, .int .i64 c.fn, .slice va c.val.length vc]] w fun e w' => e = .returned (.bool (mutB c)) ∧ Below w.heap.size w w' := by
  have DA : Hid (∀ W, BoxD 49 w W #[.string ⟨c.col.toArray⟩, .int .i64 c.fn, .slice va c.val.length vc] → Calls Tryz.prog 44 #[.slice va c.val.length vc] W fun e w' => e = .returned (.bool (datumB c.val)) ∧ BoxD 49 w w' #[.string ⟨c.col.toArray⟩, .int .i64 c.fn, .slice va c.val.length vc]) := fun W h => (datumOKi c.val va vc S W hl hx (Nat.le_trans hw h.2.size) (hA.below (h.2.mono hw))).mono (fun e w' ⟨he, hB⟩ => ⟨he, h.later hB⟩)
  have hb := boxD 49 w #[.string ⟨c.col.toArray⟩, .int .i64 c.fn, .slice va c.val.length vc]
  have x0 := cell_at (o := 0) hb.1 rfl
  have x1 := cell_at (o := 1) hb.1 rfl
  have x2 := cell_at (o := 2) hb.1 rfl
  have HB := Lib.hid hb
  have HD : Hid (mutB c = (inB 1 c.fn 7 && (datumB c.val && decide (c.col.length ≤ 40)))) := rfl
  unfold maxLen at hn hl
  clear hx hw hA hb
  by_cases h1 : 1 ≤ c.fn
  case neg =>
    have HR : Hid (mutB c = false) := by show mutB c = false; rw [HD.out]; unfold inB; rw [decide_eq_false (by omega)]; rfl
    have g1 : decide (1 ≤ c.fn) = false := decide_eq_false h1
    clear h1
    go_enter Tryz.func21, Tryz.ntmps21
    go_wp2_with fail
    go_ret
    exact ⟨ret_b HR.out.symm, HB.out.2⟩
  have g1 : decide (1 ≤ c.fn) = true := decide_eq_true h1
  by_cases h2 : c.fn ≤ 7
  case neg =>
    have HR : Hid (mutB c = false) := by show mutB c = false; rw [HD.out]; unfold inB; rw [decide_eq_false (by omega)]; rfl
    have g2 : decide (c.fn ≤ 7) = false := decide_eq_false h2
    clear h1 h2
    go_enter Tryz.func21, Tryz.ntmps21
    go_wp2_with fail
    go_ret
    exact ⟨ret_b HR.out.symm, HB.out.2⟩
  have g2 : decide (c.fn ≤ 7) = true := decide_eq_true h2
  have HD' : Hid (mutB c = (datumB c.val && decide (c.col.length ≤ 40))) := by show mutB c = _; rw [HD.out]; unfold inB; rw [decide_eq_true ⟨h1, h2⟩]; rfl
  clear h1 h2 HD
  by_cases h3 : c.col.length ≤ 40
  case neg =>
    have HR : Hid (mutB c = false) := by show mutB c = false; rw [HD'.out, decide_eq_false h3, Bool.and_false]
    have g3 : decide ((c.col.length : Int) ≤ 40) = false := decide_eq_false (by omega)
    clear h3
    go_enter Tryz.func21, Tryz.ntmps21
    go_wp2_with fail
    go_ret
    exact ⟨ret_b HR.out.symm, HB.out.2⟩
  have g3 : decide ((c.col.length : Int) ≤ 40) = true := decide_eq_true (by omega)
  have HR : Hid (mutB c = datumB c.val) := by show mutB c = _; rw [HD'.out, decide_eq_true h3, Bool.and_true]
  clear h3 HD'
  go_enter Tryz.func21, Tryz.ntmps21
  go_wp2_with fail
  refine (DA.out _ HB.out).mono ?_
  rintro e w2 ⟨rfl, hb2⟩
  have HB2 := Lib.hid hb2
  clear hb2 x0 x1 x2
  go_wp2_with fail
  go_ret
  exact ⟨ret_b HR.out.symm, HB2.out.2⟩
set_option maxRecDepth 100000 in
set_option maxHeartbeats 1600000 in
theorem numsI (c : MutV) (va : Option Addr) (vc : Nat) (w : World) :
    Calls Tryz.prog 65 #[.agg #[.string ⟨c.col.toArray⟩, .int .i64 c.fn, .slice va c.val.length vc]] w fun e w' => e = .returned (.bool (inB 1 c.fn 5)) ∧ Below w.heap.size w w' := by
  have hb := boxD 49 w #[.string ⟨c.col.toArray⟩, .int .i64 c.fn, .slice va c.val.length vc]
  have x1 := cell_at (o := 1) hb.1 rfl
  have HB := Lib.hid hb
  clear hb
  by_cases h1 : 1 ≤ c.fn
  case neg =>
    have HR : Hid (inB 1 c.fn 5 = false) := by show inB _ _ _ = false; unfold inB; rw [decide_eq_false (by omega)]
    have g1 : decide (1 ≤ c.fn) = false := decide_eq_false h1
    clear h1
    go_enter Tryz.func65, Tryz.ntmps65
    go_wp2_with fail
    go_ret
    exact ⟨ret_b HR.out.symm, HB.out.2⟩
  have g1 : decide (1 ≤ c.fn) = true := decide_eq_true h1
  have HR : Hid (inB 1 c.fn 5 = decide (c.fn ≤ 5)) := by
    show inB _ _ _ = _
    unfold inB
    rw [Bool.eq_iff_iff]
    simp
    intro _; exact h1
  clear h1
  go_enter Tryz.func65, Tryz.ntmps65
  go_wp2_with fail
  go_ret
  exact ⟨ret_b HR.out.symm, HB.out.2⟩
end Go.Proofs.YtgpoigkfoliflaaGreatDoor
