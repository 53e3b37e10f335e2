import Derived.Test.YtjhkignnfdlcjaaKDo
import Derived.Lib.Hide
namespace Go.Proofs.Ytjhkignnfdlcjaa
open Go.RowKit
set_option linter.unusedSimpArgs false
theorem neq_selfKB (c : Bool) : (c != c) = false := by simp
/-- what impl.AtomOK and impl.DatumOK are to answer -/
def AtSaid : Prop := ∀ (x : At) (w : World), x.t.length ≤ maxLen →
    Calls Try.prog 10 #[.agg #[.int .i64 x.k, .int .i64 x.n, .string ⟨x.t.toArray⟩]] w fun e w' => e = .returned (.bool (atOK x)) ∧ Below w.heap.size w w'
def DoSaid : Prop := ∀ (l : List At) (a : Option Addr) (c : Nat) (S : Nat) (w : World), l.length ≤ maxLen → (∀ x ∈ l, x.t.length ≤ maxLen) → S ≤ w.heap.size → Ats w (· < S) a l →
    Calls Try.prog 16 #[.slice a l.length c] w fun e w' => e = .returned (.bool (datumB l)) ∧ Below w.heap.size w w'
/-- the law's argument in its box -/
def BoxL (w W : World) (x : At) : Prop := W.heap[w.heap.size]? = some (.cells #[.int .i64 x.k, .int .i64 x.n, .string ⟨x.t.toArray⟩] 23) ∧ Below w.heap.size w W
theorem BoxL.later {w W W' : World} {x : At} (h : BoxL w W x) (hB : Below W.heap.size W W') : BoxL w W' x := ⟨heap_keptA h.1 hB, h.2.trans (hB.mono h.2.size)⟩
set_option maxRecDepth 100000 in
set_option maxHeartbeats 3200000 in
theorem lawAtomOK (HI0 : AtSaid) (x : At) (w : World) (ht : x.t.length ≤ maxLen) :
    Calls Try.prog 3 #[.agg #[.int .i64 x.k, .int .i64 x.n, .string ⟨x.t.toArray⟩]] w fun e w' => e = .returned (.bool true) ∧ Below w.heap.size w w' := by
  have HT : Hid (x.t.length ≤ maxLen) := ht
  have HI : Hid AtSaid := HI0
  have hx : BoxL w (w.alloc (.cells #[.int .i64 x.k, .int .i64 x.n, .string ⟨x.t.toArray⟩] 23)) x := ⟨heap_newA _ _, (Below.refl _ _).alloc (Nat.le_refl _) _⟩
  have HX := Lib.hid hx
  clear ht HI0 hx
  go_enter Try.func3, Try.ntmps3
  go_wp2_with fail
  refine (szAtom x 1048576 _ (by omega) (by omega) HT.out).mono ?_
  rintro e w1 ⟨rfl, hB1⟩
  have HX1 := Lib.hid (HX.out.later hB1)
  clear hB1 HX
  by_cases hz : (1048576 : Int) - (x.t.length : Int) < 0
  · rw [less_no hz]
    go_wp2_with fail
    go_ret
    exact ⟨rfl, HX1.out.2⟩
  rw [less_yes (by omega)]
  obtain ⟨L, hL⟩ : ∃ L : Int, L = 1048576 - (x.t.length : Int) := ⟨_, rfl⟩
  rw [← hL]
  have hl0 : decide (L < 0) = false := by simp; omega
  clear hL hz
  have nn := neq_selfKB (atOK x)
  have AO : Hid (∀ W, Calls Try.prog 8 #[.agg #[.int .i64 x.k, .int .i64 x.n, .string ⟨x.t.toArray⟩]] W fun e w' => e = .returned (.bool (atOK x)) ∧ Below W.heap.size W w') := fun W => atomOKs x W HT.out
  have AI' : Hid (∀ W, Calls Try.prog 10 #[.agg #[.int .i64 x.k, .int .i64 x.n, .string ⟨x.t.toArray⟩]] W fun e w' => e = .returned (.bool (atOK x)) ∧ Below W.heap.size W w') := fun W => HI.out x W HT.out
  generalize atOK x = q at *
  have x0 := cell_at (o := 0) HX1.out.1 rfl
  have x1 := cell_at (o := 1) HX1.out.1 rfl
  have x2 := cell_at (o := 2) HX1.out.1 rfl
  go_wp2_with fail
  refine (toAtom x _).mono ?_
  rintro e w2 ⟨rfl, hB2⟩
  have HX2 := Lib.hid (HX1.out.later hB2)
  clear hB2 HX1 x0 x1 x2
  go_wp2_with fail
  refine (AO.out _).mono ?_
  rintro e w3 ⟨rfl, hB3⟩
  have HX3 := Lib.hid (HX2.out.later hB3)
  clear hB3 HX2
  have x0 := cell_at (o := 0) HX3.out.1 rfl
  have x1 := cell_at (o := 1) HX3.out.1 rfl
  have x2 := cell_at (o := 2) HX3.out.1 rfl
  go_wp2_with fail
  refine (toAtom x _).mono ?_
  rintro e w4 ⟨rfl, hB4⟩
  have HX4 := Lib.hid (HX3.out.later hB4)
  clear hB4 HX3 x0 x1 x2
  go_wp2_with fail
  refine (AI'.out _).mono ?_
  rintro e w5 ⟨rfl, hB5⟩
  have HX5 := Lib.hid (HX4.out.later hB5)
  clear hB5 HX4
  go_wp2_with fail
  go_ret
  exact ⟨rfl, HX5.out.2⟩
set_option maxRecDepth 100000 in
set_option maxHeartbeats 3200000 in
theorem lawDatumOK (HI0 : DoSaid) (l : List At) (pa : Option Addr) (ca : Nat) (w : World) (hl : l.length ≤ maxLen) (hx : ∀ x ∈ l, x.t.length ≤ maxLen) (hA : Ats w (· < w.heap.size) pa l) :
    Calls Try.prog 5 #[.slice pa l.length ca] w fun e w' => e = .returned (.bool true) ∧ Below w.heap.size w w' := by
  have HA : Hid (Ats w (· < w.heap.size) pa l) := hA
  have HX : Hid (∀ x ∈ l, x.t.length ≤ maxLen) := hx
  have HI : Hid DoSaid := HI0
  have HL : Hid (l.length ≤ maxLen) := hl
  clear hA hx HI0 hl
  go_enter Try.func5, Try.ntmps5
  go_wp2_with fail
  refine (szAtoms l pa ca 1048576 w.heap.size w (by omega) (by omega) HL.out HX.out (Nat.le_refl _) HA.out).mono ?_
  rintro e w1 ⟨rfl, hB1⟩
  by_cases hz : (1048576 : Int) - (szA l : Int) < 0
  · rw [less_no hz]
    go_wp2_with fail
    go_ret
    exact ⟨rfl, hB1⟩
  rw [less_yes (by omega)]
  have hza : l.length ≤ 1048576 := by unfold szA at hz; omega
  obtain ⟨L, hL⟩ : ∃ L : Int, L = 1048576 - (szA l : Int) := ⟨_, rfl⟩
  rw [← hL]
  have hl0 : decide (L < 0) = false := by simp; omega
  have HZ : Hid (l.length ≤ 1048576) := hza
  have HB1 := Lib.hid hB1
  clear hL hz hza hB1
  have nn := neq_selfKB (datumB l)
  have DS : Hid (∀ W q, OwnAts W (fun b => q ≤ b ∧ b < W.heap.size) (some ⟨q, 0, none⟩) l → Calls Try.prog 14 #[.slice (some ⟨q, 0, none⟩) l.length l.length] W fun e w' => e = .returned (.bool (datumB l)) ∧ Below W.heap.size W w') := fun W q h => datumOKs l _ _ W.heap.size W HL.out HX.out (Nat.le_refl _) (h.ats.same (fun _ _ => rfl) (fun b hb => hb.2))
  have DI : Hid (∀ W q, OwnAts W (fun b => q ≤ b ∧ b < W.heap.size) (some ⟨q, 0, none⟩) l → Calls Try.prog 16 #[.slice (some ⟨q, 0, none⟩) l.length l.length] W fun e w' => e = .returned (.bool (datumB l)) ∧ Below W.heap.size W w') := fun W q h => HI.out l _ _ W.heap.size W HL.out HX.out (Nat.le_refl _) (h.ats.same (fun _ _ => rfl) (fun b hb => hb.2))
  generalize datumB l = d at *
  go_wp2_with fail
  refine (toAtoms l pa ca w.heap.size w1 HB1.out.size HZ.out (HA.out.below HB1.out)).mono ?_
  rintro e w2 ⟨rfl, ho2, hB2⟩
  have HB2 := Lib.hid (HB1.out.trans (hB2.mono HB1.out.size))
  have O2 := Lib.hid ho2
  clear ho2 hB2 HB1
  generalize w1.heap.size = q1 at *
  go_wp2_with fail
  refine (DS.out _ _ O2.out).mono ?_
  rintro e w3 ⟨rfl, hB3⟩
  have HB3 := Lib.hid (HB2.out.trans (hB3.mono HB2.out.size))
  clear hB3 HB2 O2
  go_wp2_with fail
  refine (toAtoms l pa ca w.heap.size w3 HB3.out.size HZ.out (HA.out.below HB3.out)).mono ?_
  rintro e w4 ⟨rfl, ho4, hB4⟩
  have HB4 := Lib.hid (HB3.out.trans (hB4.mono HB3.out.size))
  have O4 := Lib.hid ho4
  clear ho4 hB4 HB3
  generalize w3.heap.size = q3 at *
  go_wp2_with fail
  refine (DI.out _ _ O4.out).mono ?_
  rintro e w5 ⟨rfl, hB5⟩
  have HB5 := Lib.hid (HB4.out.trans (hB5.mono HB4.out.size))
  have O5 := Lib.hid (O4.out.ats.later hB5)
  clear hB5 HB4 O4
  go_wp2_with fail
  refine (toAtoms l pa ca w.heap.size w5 HB5.out.size HZ.out (HA.out.below HB5.out)).mono ?_
  rintro e w6 ⟨rfl, ho6, hB6⟩
  have HB6 := Lib.hid (HB5.out.trans (hB6.mono HB5.out.size))
  have O6 := Lib.hid (And.intro (O5.out.later hB6) ho6.ats)
  clear ho6 hB6 HB5 O5
  go_wp2_with fail
  refine (eqAtoms l _ _ _ _ _ _ _ HL.out O6.out.1 O6.out.2).mono ?_
  rintro e w7 ⟨rfl, hB7⟩
  have HB7 := Lib.hid (HB6.out.trans (hB7.mono HB6.out.size))
  clear hB7 HB6 O6
  go_wp2_with fail
  go_ret
  exact ⟨rfl, HB7.out⟩
end Go.Proofs.Ytjhkignnfdlcjaa
