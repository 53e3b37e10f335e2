import Derived.Test.YtngbhifafdbpkaaGreatZan
import Derived.Test.YtngbhifafdbpkaaGreatZah
import Derived.Deep.RegionHeld3
import Derived.Test.YtngbhifafdbpkaaGreatZaa
import Derived.Deep.QuietTactic
import Derived.Test.YtngbhifafdbpkaaGreatZTk
namespace Go.Proofs.YtngbhifafdbpkaaGreat
open Go.RowKit
def riseIds (l : List RowV) : Prop := ∀ i (h : i + 1 < l.length), l[i].id < l[i + 1].id
def rowZ : RowV := ⟨0, []⟩
def rplI : List RowV → Int → Int
  | [], _ => -1
  | r :: l, id => if r.id = id then 0 else if rplI l id < 0 then -1 else rplI l id + 1
theorem rpl_at {id : Int} : ∀ {l : List RowV} {k : Nat} (h : k < l.length), l[k].id = id → (∀ m (h : m < l.length), m < k → l[m].id ≠ id) → rplI l id = k
  | r :: l, 0, _, e, _ => by
    have e' : r.id = id := e
    simp [rplI, e']
  | r :: l, k + 1, h, e, hn => by
    have h0 : r.id ≠ id := hn 0 (by simp) (by omega)
    have ih := rpl_at (l := l) (k := k) (by simpa using h) (by simpa using e) (fun m hm hk => by have := hn (m + 1) (by simpa using hm) (by omega); simpa using this)
    simp only [rplI, if_neg h0, ih]
    rw [if_neg (by omega)]; omega
theorem rpl_none {id : Int} : ∀ {l : List RowV}, (∀ m (h : m < l.length), l[m].id ≠ id) → rplI l id = -1
  | [], _ => rfl
  | r :: l, hn => by
    have h0 : r.id ≠ id := hn 0 (by simp)
    have ih := rpl_none (l := l) (fun m hm => by have := hn (m + 1) (by simpa using hm); simpa using this)
    simp [rplI, if_neg h0, ih]
theorem rpl_cases (l : List RowV) (id : Int) : (rplI l id = -1 ∧ ∀ m (h : m < l.length), l[m].id ≠ id) ∨ ∃ k : Nat, ∃ h : k < l.length, rplI l id = k ∧ l[k].id = id ∧ ∀ m (h : m < l.length), m < k → l[m].id ≠ id := by
  by_cases h : ∃ k, ∃ h : k < l.length, l[k].id = id
  · obtain ⟨k, hk⟩ := h
    have hm : ∃ k, (∃ h : k < l.length, l[k].id = id) ∧ ∀ m, m < k → ¬ ∃ h : m < l.length, l[m].id = id := by
      have key : ∀ n k, k ≤ n → (∃ h : k < l.length, l[k].id = id) → ∃ k, (∃ h : k < l.length, l[k].id = id) ∧ ∀ m, m < k → ¬ ∃ h : m < l.length, l[m].id = id := by
        intro n
        induction n with
        | zero => intro k hk h; exact ⟨k, h, fun m hm => by omega⟩
        | succ n ih =>
          intro k hk h
          by_cases he : ∃ m, m < k ∧ ∃ h : m < l.length, l[m].id = id
          · obtain ⟨m, hm, h'⟩ := he
            exact ih m (by omega) h'
          · exact ⟨k, h, fun m hm h' => he ⟨m, hm, h'⟩⟩
      exact key k k (Nat.le_refl _) hk
    obtain ⟨k, ⟨hk, e⟩, hn⟩ := hm
    exact .inr ⟨k, hk, rpl_at hk e (fun m h hm e => hn m hm ⟨h, e⟩), e, fun m h hm e => hn m hm ⟨h, e⟩⟩
  · have hn : ∀ m (h : m < l.length), l[m].id ≠ id := fun m hm e => h ⟨m, hm, e⟩
    exact .inl ⟨rpl_none hn, hn⟩
theorem getD_tab {α : Type} {l : List α} {i : Nat} {z : α} (h : i < l.length) : l.getD i z = l[i] := by rw [List.getD_eq_getElem?_getD, List.getElem?_eq_getElem h]; rfl
end Go.Proofs.YtngbhifafdbpkaaGreat
namespace Go.Proofs.YtngbhifafdbpkaaGreat
open Go.RowKit
set_option linter.unusedSimpArgs false
def cmpR (x y : RowV) : Int := if x.id < y.id then -1 else if y.id < x.id then 1 else 0
set_option maxHeartbeats 1600000 in
theorem cmpRowsI (x y : RowV) (a : Option Addr) (c : Nat) (a' : Option Addr) (c' : Nat) (w : World) :
    Calls Tryz.prog 75 #[.agg #[.int .i64 x.id, .slice a x.cells.length c], .agg #[.int .i64 y.id, .slice a' y.cells.length c']] w fun e w' => e = .returned (.int .i64 (cmpR x y)) ∧ Below w.heap.size w w' := by
  have hb := box2D 77 w #[.int .i64 x.id, .slice a x.cells.length c] #[.int .i64 y.id, .slice a' y.cells.length c']
  have x0 := cell_at (o := 0) hb.a rfl
  have x1 := cell_at (o := 1) hb.a rfl
  have y0 := cell_at (o := 0) hb.b rfl
  have y1 := cell_at (o := 1) hb.b rfl
  have HC : Hid (cmpR x y = if x.id < y.id then -1 else if y.id < x.id then 1 else 0) := rfl
  generalize cmpR x y = r at *
  go_enter Tryz.func75, Tryz.ntmps75
  go_wp2_with (go_at_call 98; refine (cmpInt _ _ _).mono ?_; rintro e w' ⟨rfl, rfl⟩; rw [← HC.out])
  go_ret
  exact ⟨rfl, hb.bel⟩
noncomputable def riBR (l : List RowV) : Bool := @decide (riseIds l) (Classical.propDecidable _)
theorem riBR_yes {l : List RowV} (h : riseIds l) : riBR l = true := @decide_eq_true _ (Classical.propDecidable _) h
theorem riBR_no {l : List RowV} (h : ¬ riseIds l) : riBR l = false := @decide_eq_false _ (Classical.propDecidable _) h
theorem riBR_of {l : List RowV} (h : riBR l = true) : riseIds l := @of_decide_eq_true _ (Classical.propDecidable _) h
set_option maxRecDepth 100000 in
set_option maxHeartbeats 3200000 in
theorem risesR (l : List RowV) (a : Option Addr) (c : Nat) (B : Nat → Prop) (w : World) (hl : l.length ≤ maxLen) (hS : Rd w B (dRowS l) (.slice a l.length c)) :
    Calls Tryz.prog 74 #[.slice a l.length c, .func (.func 75) #[] #[]] w fun e w' => e = .returned (.bool (riBR l)) ∧ Below w.heap.size w w' := by
  unfold maxLen at hl
  have RA : Hid (∀ W, Below w.heap.size w W → Rd W B (Ls 2 dRow l) (.slice a l.length c)) := fun W h => Rd.later hS h
  clear hS
  go_enter Tryz.func74, Tryz.ntmps74
  go_wp2_with fail
  go_loopw [5] (fun i wr => ∃ k : Nat, 1 ≤ k ∧ k ≤ maxLen + 1 ∧ i = .int .i64 k ∧ Hid ((∀ m (h : m + 1 < l.length), m + 1 < k → l[m].id < l[m + 1].id) ∧ Below w.heap.size w wr)) (fun i _ => l.length - (intOf i).toNat)
  case atStart => exact ⟨1, by omega, by unfold maxLen; omega, rfl, fun m _ h => absurd h (by omega), Below.refl _ _⟩
  case round =>
    obtain ⟨k, hk1, hk, rfl, HW⟩ := hrel
    by_cases hkl : k < l.length
    case neg =>
      have HR : Hid (riBR l = true) := riBR_yes (fun m h => HW.out.1 m h (by omega))
      have hmi : decide ((k : Int) < (l.length : Int)) = false := by simp; omega
      go_wp2_with fail
      go_ret
      exact ⟨ret_b HR.out.symm, HW.out.2⟩
    obtain ⟨m, hm⟩ : ∃ m, k = m + 1 := ⟨k - 1, by omega⟩
    have hk2 : (k : Int) < (l.length : Int) := by omega
    have hml : m < l.length := by omega
    have hm1 : (m : Int) < (l.length : Int) := by omega
    have hkm : (k : Int) - 1 = (m : Int) := by omega
    have hwm : IntKind.i64.wrap (m : Int) = (m : Int) := by rw [IntKind.wrap_i64]; omega
    have hm2 : (0 : Int) ≤ (m : Int) := by omega
    obtain ⟨rb, roff, rfl, -, -⟩ := (RA.out _ HW.out.2).things k hkl
    have R0 := RA.out _ HW.out.2
    obtain ⟨u0, d0, r0⟩ := R0.spotT hml (j := 0) (by omega)
    obtain rfl : u0 = .int .i64 l[m].id := r0
    obtain ⟨u1, d1, r1⟩ := R0.spotT hml (j := 1) (by omega)
    replace r1 : Rd wr B (dAtomSS l[m].cells) u1 := r1
    obtain ⟨ya, yq, rfl⟩ := r1.lsSlice
    obtain ⟨v0, e0, s0⟩ := R0.spotT hkl (j := 0) (by omega)
    obtain rfl : v0 = .int .i64 l[k].id := s0
    obtain ⟨v1, e1, s1⟩ := R0.spotT hkl (j := 1) (by omega)
    replace s1 : Rd wr B (dAtomSS l[k].cells) v1 := s1
    obtain ⟨za, zq, rfl⟩ := s1.lsSlice
    replace d0 : wr.cell? ⟨rb, roff + m * 2, none⟩ = _ := d0
    replace e0 : wr.cell? ⟨rb, roff + k * 2, none⟩ = _ := e0
    have CE : Hid (∀ W, Below wr.heap.size wr W → W.cell? ⟨rb, roff + m * 2, none⟩ = some (.int .i64 l[m].id) ∧ W.cell? ⟨rb, roff + m * 2 + 1, none⟩ = some (.slice ya l[m].cells.length yq) ∧ W.cell? ⟨rb, roff + k * 2, none⟩ = some (.int .i64 l[k].id) ∧ W.cell? ⟨rb, roff + k * 2 + 1, none⟩ = some (.slice za l[k].cells.length zq)) := fun W h => ⟨(h.cell (p := ⟨rb, roff + m * 2, none⟩) (World.block_lt_of_cell? _ _ d0)).trans d0, (h.cell (p := ⟨rb, roff + m * 2 + 1, none⟩) (World.block_lt_of_cell? _ _ d1)).trans d1, (h.cell (p := ⟨rb, roff + k * 2, none⟩) (World.block_lt_of_cell? _ _ e0)).trans e0, (h.cell (p := ⟨rb, roff + k * 2 + 1, none⟩) (World.block_lt_of_cell? _ _ e1)).trans e1⟩
    have CC : Hid (∀ W, Below wr.heap.size wr W → Calls Tryz.prog 75 #[.agg #[.int .i64 l[m].id, .slice ya l[m].cells.length yq], .agg #[.int .i64 l[k].id, .slice za l[k].cells.length zq]] W fun e w' => e = .returned (.int .i64 (cmpR l[m] l[k])) ∧ Below wr.heap.size wr w') := fun W h => (cmpRowsI l[m] l[k] ya yq za zq W).mono (fun e w' ⟨he, hB⟩ => ⟨he, h.trans (hB.mono h.size)⟩)
    have hx := Below.refl wr.heap.size wr
    have HB1 := Lib.hid HW.out.2
    have hkk : Hid (k = m + 1) := hm
    by_cases hr : l[m].id < l[k].id
    case pos =>
      have HG : Hid (∀ m (h : m + 1 < l.length), m + 1 < k + 1 → l[m].id < l[m + 1].id) := fun q h hq => by
        by_cases e : q = m
        · subst e; have := hkk.out; subst this; exact hr
        · have := hkk.out; exact HW.out.1 q h (by omega)
      have hq : cmpR l[m] l[k] = -1 := by unfold cmpR; rw [if_pos hr]
      rw [hq] at CC
      clear hr hm HW hq R0 r1 s1
      generalize l[m] = y at *
      generalize l[k] = z at *
      go_wp2_with fail
      refine wp_region_held_drew (S := (fun W => W.cell? ⟨rb, roff + m * 2, none⟩ = some (.int .i64 y.id) ∧ W.cell? ⟨rb, roff + m * 2 + 1, none⟩ = some (.slice ya y.cells.length yq) ∧ W.cell? ⟨rb, roff + k * 2, none⟩ = some (.int .i64 z.id) ∧ W.cell? ⟨rb, roff + k * 2 + 1, none⟩ = some (.slice za z.cells.length zq))) (by kernel_rfl) ?_ (fun hHeld => ?_)
      · (first | exact CE.out _ hx | exact CE.out _ hx.drew)
      refine tkB (i := 0) ?_
      refine tkB (i := 1) ?_
      refine tkB (i := 2) ?_
      refine tkB (i := 3) ?_
      refine tkB (i := 4) ?_
      refine tkB (i := 5) ?_
      refine tkB (i := 6) ?_
      refine tkB (i := 7) ?_
      refine tkB (i := 8) ?_
      refine tkB (i := 9) ?_
      refine tkR (i := 10) (fun K hK => ?_)
      go_simp
      (go_at_call 75; refine (CC.out _ (by first | exact hx | exact hx.drew)).mono ?_; rintro e w1 ⟨rfl, hx⟩)
      refine hK.out _ _ ?_ (fun hHeld => ?_)
      · (first | exact CE.out _ hx | exact CE.out _ hx.drew)
      clear hK K
      try simp only [Act.put, tkS]
      refine tkB (i := 11) ?_
      refine wpAnyH_done (by kernel_rfl) ?_ _
      go_wp2_with fail
      go_roundw
      case rel => exact ⟨k + 1, by omega, by unfold maxLen; omega, by go_num, HG.out, HB1.out.trans (Below.mono (by first | exact hx | exact hx.drew) HB1.out.size)⟩
      case measure => simp [intOf]; omega
    have HR : Hid (riBR l = false) := riBR_no (fun h => hr (by have := hkk.out; subst this; exact h m hkl))
    have hge : 0 ≤ cmpR l[m] l[k] := by unfold cmpR; rw [if_neg hr]; split <;> omega
    have hd : decide (cmpR l[m] l[k] ≥ 0) = true := decide_eq_true hge
    have hd2 : decide (0 ≤ cmpR l[m] l[k]) = true := decide_eq_true hge
    clear hr hm HW R0 r1 s1 hge
    generalize cmpR l[m] l[k] = q at *
    generalize l[m] = y at *
    generalize l[k] = z at *
    go_wp2_with fail
    refine wp_region_held_drew (S := (fun W => W.cell? ⟨rb, roff + m * 2, none⟩ = some (.int .i64 y.id) ∧ W.cell? ⟨rb, roff + m * 2 + 1, none⟩ = some (.slice ya y.cells.length yq) ∧ W.cell? ⟨rb, roff + k * 2, none⟩ = some (.int .i64 z.id) ∧ W.cell? ⟨rb, roff + k * 2 + 1, none⟩ = some (.slice za z.cells.length zq))) (by kernel_rfl) ?_ (fun hHeld => ?_)
    · (first | exact CE.out _ hx | exact CE.out _ hx.drew)
    refine tkB (i := 0) ?_
    refine tkB (i := 1) ?_
    refine tkB (i := 2) ?_
    refine tkB (i := 3) ?_
    refine tkB (i := 4) ?_
    refine tkB (i := 5) ?_
    refine tkB (i := 6) ?_
    refine tkB (i := 7) ?_
    refine tkB (i := 8) ?_
    refine tkB (i := 9) ?_
    refine tkR (i := 10) (fun K hK => ?_)
    go_simp
    (go_at_call 75; refine (CC.out _ (by first | exact hx | exact hx.drew)).mono ?_; rintro e w1 ⟨rfl, hx⟩)
    refine hK.out _ _ ?_ (fun hHeld => ?_)
    · (first | exact CE.out _ hx | exact CE.out _ hx.drew)
    clear hK K
    try simp only [Act.put, tkS]
    refine tkB (i := 11) ?_
    refine wpAnyH_done (by kernel_rfl) ?_ _
    go_wp2_with fail
    go_ret
    exact ⟨ret_b HR.out.symm, HB1.out.trans (Below.mono (by first | exact hx | exact hx.drew) HB1.out.size)⟩
def hasT (x : StV) (t : Int) : Bool := decide (0 ≤ t ∧ t < x.tables.length)
end Go.Proofs.YtngbhifafdbpkaaGreat
namespace Go.Proofs.YtngbhifafdbpkaaGreat
open Go.RowKit
set_option linter.unusedSimpArgs false
set_option maxHeartbeats 3200000 in
theorem rplS (l : List RowV) (a : Option Addr) (c : Nat) (id : Int) (B : Nat → Prop) (w : World) (hl : l.length ≤ maxLen) (hS : Rd w B (dRowS l) (.slice a l.length c)) :
    Calls Tryz.prog 39 #[.slice a l.length c, .int .i64 id] w fun e w' => e = .returned (.int .i64 (rplI l id)) ∧ Below w.heap.size w w' := by
  unfold maxLen at hl
  have HS : Hid (Rd w B (Ls 2 dRow l) (.slice a l.length c)) := hS
  clear hS
  go_enter Tryz.func39, Tryz.ntmps39
  go_wp2_with fail
  go_loopw [5] (fun i wr => ∃ k : Nat, k ≤ l.length ∧ i = .int .i64 k ∧ Hid ((∀ m (h : m < l.length), m < k → l[m].id ≠ id) ∧ Below w.heap.size w wr)) (fun i _ => l.length - (intOf i).toNat)
  case atStart => exact ⟨0, Nat.zero_le _, rfl, fun m _ h => absurd h (by omega), Below.refl _ _⟩
  case round =>
    obtain ⟨k, hk, rfl, HW⟩ := hrel
    by_cases hlt : k < l.length
    case neg =>
      have hki : decide ((k : Int) < (l.length : Int)) = false := by simp; omega
      have HR : Hid (rplI l id = -1) := rpl_none (fun m h => HW.out.1 m h (by omega))
      go_wp2_with fail
      go_ret
      exact ⟨ret_i HR.out.symm, HW.out.2⟩
    have hki : (k : Int) < (l.length : Int) := by omega
    obtain ⟨b, off, rfl, -, hc⟩ := (HS.out.later HW.out.2).things k hlt
    obtain ⟨u0, c0, r0⟩ := hc 0 (by omega)
    obtain rfl : u0 = .int .i64 l[k].id := r0
    replace c0 : wr.cell? ⟨b, off + k * 2, none⟩ = _ := c0
    clear hc
    by_cases he : l[k].id = id
    · have HR : Hid (rplI l id = k) := rpl_at hlt he HW.out.1
      have hee : (l[k].id == id) = true := by simpa using he
      clear he
      generalize l[k].id = y at *
      go_wp2_with fail
      go_ret
      exact ⟨ret_i HR.out.symm, HW.out.2⟩
    · have HG : Hid (∀ m (h : m < l.length), m < k + 1 → l[m].id ≠ id) := fun m h hm => by
        by_cases e : m = k
        · subst e; exact he
        · exact HW.out.1 m h (by omega)
      have hee : (l[k].id == id) = false := by simpa using he
      clear he
      generalize l[k].id = y at *
      go_wp2_with fail
      go_roundw
      case rel => exact ⟨k + 1, by omega, by go_num, HG.out, HW.out.2⟩
      case measure => simp [intOf]; omega
end Go.Proofs.YtngbhifafdbpkaaGreat
