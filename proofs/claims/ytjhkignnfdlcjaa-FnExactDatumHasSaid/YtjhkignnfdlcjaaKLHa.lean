import Derived.Test.YtjhkignnfdlcjaaKLOr
namespace Go.Proofs.Ytjhkignnfdlcjaa
open Go.RowKit
set_option linter.unusedSimpArgs false
noncomputable def hasR (l : List At) (x : At) : Bool := if ¬ 4096 < l.length ∧ datumB l = true ∧ atOK x = true then hasB l x else false
noncomputable def hasC (l : List At) (x : At) : Int := if 4096 < l.length then 2 else if datumB l = true ∧ atOK x = true then 0 else 1
theorem ret_bi {a b : Bool} {c d : Int} (h : a = b) (h' : c = d) : Ending.returned (.tuple #[.bool a, .int .i64 c]) = .returned (.tuple #[.bool b, .int .i64 d]) := by rw [h, h']
def HasSaid (f : Nat) : Prop := ∀ (l : List At) (x : At) (a : Option Addr) (c : Nat) (S : Nat) (w : World), l.length ≤ maxLen → (∀ y ∈ l, y.t.length ≤ maxLen) → x.t.length ≤ maxLen → S ≤ w.heap.size → Ats w (· < S) a l →
    Calls Try.prog f #[.slice a l.length c, .agg #[.int .i64 x.k, .int .i64 x.n, .string ⟨x.t.toArray⟩]] w fun e w' => e = .returned (.tuple #[.bool (hasR l x), .int .i64 (hasC l x)]) ∧ Below w.heap.size w w'
set_option maxRecDepth 100000 in
set_option maxHeartbeats 3200000 in
theorem datumHasS : HasSaid 18 := by
  intro l x a c S w hl hxl hxt hw hA
  have hx : BoxA w (w.alloc (.cells #[.int .i64 x.k, .int .i64 x.n, .string ⟨x.t.toArray⟩] 26)) x := ⟨heap_newA _ _, (Below.refl _ _).alloc (Nat.le_refl _) _⟩
  have DO : Hid (∀ W, BoxA w W x → Calls Try.prog 14 #[.slice a l.length c] W fun e w' => e = .returned (.bool (datumB l)) ∧ BoxA w w' x) := fun W h => (datumOKs l a c S W hl hxl (Nat.le_trans hw h.2.size) (hA.below (h.2.mono hw))).mono (fun e w' ⟨he, hB⟩ => ⟨he, h.later hB⟩)
  have AO : Hid (∀ W, BoxA w W x → Calls Try.prog 8 #[.agg #[.int .i64 x.k, .int .i64 x.n, .string ⟨x.t.toArray⟩]] W fun e w' => e = .returned (.bool (atOK x)) ∧ BoxA w w' x) := fun W h => (atomOKs x W hxt).mono (fun e w' ⟨he, hB⟩ => ⟨he, h.later hB⟩)
  have HS : Hid (∀ W, BoxA w W x → Calls Try.prog 30 #[.slice a l.length c, .agg #[.int .i64 x.k, .int .i64 x.n, .string ⟨x.t.toArray⟩]] W fun e w' => e = .returned (.bool (hasB l x)) ∧ BoxA w w' x) := fun W h => (hasS l x a c _ W hl (hA.below (h.2.mono hw))).mono (fun e w' ⟨he, hB⟩ => ⟨he, h.later hB⟩)
  unfold maxLen at hl
  clear hA hxl hxt hw
  by_cases h1 : 4096 < l.length
  · have HC : Hid (false = hasR l x ∧ (2 : Int) = hasC l x) := by constructor <;> simp [hasR, hasC, h1]
    have d1 : decide (4096 < (l.length : Int)) = true := decide_eq_true (by omega)
    clear h1
    go_enter Try.func18, Try.ntmps18
    go_wp2_with fail
    go_ret2
    exact ⟨ret_bi HC.out.1 HC.out.2, hx.2⟩
  have d1 : decide (4096 < (l.length : Int)) = false := decide_eq_false (by omega)
  cases dl : datumB l
  · have HC : Hid (false = hasR l x ∧ (1 : Int) = hasC l x) := by constructor <;> simp [hasR, hasC, h1, dl]
    rw [dl] at DO
    clear dl h1
    go_enter Try.func18, Try.ntmps18
    go_wp2_with (go_at_call 14; refine (DO.out _ hx).mono ?_; rintro e w1 ⟨rfl, hx⟩)
    go_ret2
    exact ⟨ret_bi HC.out.1 HC.out.2, hx.2⟩
  rw [dl] at DO
  cases ax : atOK x
  · have HC : Hid (false = hasR l x ∧ (1 : Int) = hasC l x) := by constructor <;> simp [hasR, hasC, h1, ax]
    rw [ax] at AO
    clear dl ax h1
    go_enter Try.func18, Try.ntmps18
    go_wp2_with (first | (go_at_call 14; refine (DO.out _ hx).mono ?_; rintro e w1 ⟨rfl, hx⟩; have x0 := cell_at (o := 0) hx.1 rfl; have x1 := cell_at (o := 1) hx.1 rfl; have x2 := cell_at (o := 2) hx.1 rfl) | (go_at_call 8; refine (AO.out _ hx).mono ?_; rintro e w2 ⟨rfl, hx⟩; have x0 := cell_at (o := 0) hx.1 rfl; have x1 := cell_at (o := 1) hx.1 rfl; have x2 := cell_at (o := 2) hx.1 rfl))
    go_ret2
    exact ⟨ret_bi HC.out.1 HC.out.2, hx.2⟩
  rw [ax] at AO
  have HC : Hid (hasB l x = hasR l x ∧ (0 : Int) = hasC l x) := by
    constructor
    · unfold hasR; rw [if_pos ⟨h1, dl, ax⟩]
    · unfold hasC; rw [if_neg h1, if_pos ⟨dl, ax⟩]
  clear dl ax h1
  generalize hasB l x = q at *
  go_enter Try.func18, Try.ntmps18
  go_wp2_with (first | (go_at_call 14; refine (DO.out _ hx).mono ?_; rintro e w1 ⟨rfl, hx⟩; have x0 := cell_at (o := 0) hx.1 rfl; have x1 := cell_at (o := 1) hx.1 rfl; have x2 := cell_at (o := 2) hx.1 rfl) | (go_at_call 8; refine (AO.out _ hx).mono ?_; rintro e w2 ⟨rfl, hx⟩; have x0 := cell_at (o := 0) hx.1 rfl; have x1 := cell_at (o := 1) hx.1 rfl; have x2 := cell_at (o := 2) hx.1 rfl) | (go_at_call 30; refine (HS.out _ hx).mono ?_; rintro e w3 ⟨rfl, hx⟩))
  go_ret2
  exact ⟨ret_bi HC.out.1 HC.out.2, hx.2⟩
theorem BoxL.drew {w W : World} {x : At} (h : BoxL w W x) : BoxL w W.drew x := h.later (Below.refl _ _).drew
set_option maxRecDepth 100000 in
set_option maxHeartbeats 6400000 in
theorem lawHas (HI0 : HasSaid 19) (l : List At) (x : At) (pa : Option Addr) (ca : Nat) (w : World) (hl : l.length ≤ maxLen) (hxl : ∀ y ∈ l, y.t.length ≤ maxLen) (hxt : x.t.length ≤ maxLen) (hA : Ats w (· < w.heap.size) pa l) :
    Calls Try.prog 6 #[.slice pa l.length ca, .agg #[.int .i64 x.k, .int .i64 x.n, .string ⟨x.t.toArray⟩]] w fun e w' => e = .returned (.bool true) ∧ Below w.heap.size w w' := by
  have HA : Hid (Ats w (· < w.heap.size) pa l) := hA
  have HL : Hid (l.length ≤ maxLen) := hl
  have HXL : Hid (∀ y ∈ l, y.t.length ≤ maxLen) := hxl
  have HXT : Hid (x.t.length ≤ maxLen) := hxt
  have hx : BoxL w (w.alloc (.cells #[.int .i64 x.k, .int .i64 x.n, .string ⟨x.t.toArray⟩] 23)) x := ⟨heap_newA _ _, (Below.refl _ _).alloc (Nat.le_refl _) _⟩
  obtain ⟨r, hr⟩ : ∃ r, r = hasR l x := ⟨_, rfl⟩
  obtain ⟨cc, hc⟩ : ∃ c, c = hasC l x := ⟨_, rfl⟩
  have SS : Hid (∀ W q, BoxL w W x → Ats W (· < W.heap.size) (some ⟨q, 0, none⟩) l → Calls Try.prog 18 #[.slice (some ⟨q, 0, none⟩) l.length l.length, .agg #[.int .i64 x.k, .int .i64 x.n, .string ⟨x.t.toArray⟩]] W fun e w' => e = .returned (.tuple #[.bool r, .int .i64 cc]) ∧ BoxL w w' x) := fun W q h h2 => by rw [hr, hc]; exact (datumHasS l x _ _ W.heap.size W hl hxl hxt (Nat.le_refl _) h2).mono (fun e w' ⟨he, hB⟩ => ⟨he, h.later hB⟩)
  have SI : Hid (∀ W q, BoxL w W x → Ats W (· < W.heap.size) (some ⟨q, 0, none⟩) l → Calls Try.prog 19 #[.slice (some ⟨q, 0, none⟩) l.length l.length, .agg #[.int .i64 x.k, .int .i64 x.n, .string ⟨x.t.toArray⟩]] W fun e w' => e = .returned (.tuple #[.bool r, .int .i64 cc]) ∧ BoxL w w' x ∧ Below W.heap.size W w') := fun W q h h2 => by rw [hr, hc]; exact (HI0 l x _ _ W.heap.size W hl hxl hxt (Nat.le_refl _) h2).mono (fun e w' ⟨he, hB⟩ => ⟨he, h.later hB, hB⟩)
  have nr : (r != r) = false := by simp
  have nc : (cc != cc) = false := by simp
  clear hr hc HI0 hl hxl hxt hA
  go_enter Try.func6, Try.ntmps6
  go_wp2_with fail
  refine (szAtoms l pa ca 1048576 w.heap.size _ (by omega) (by omega) HL.out HXL.out hx.2.size (HA.out.below hx.2)).mono ?_
  rintro e w1 ⟨rfl, hB1⟩
  replace hx := hx.later hB1
  clear hB1
  by_cases hz : (1048576 : Int) - (szA l : Int) < 0
  · rw [less_no hz]
    go_wp2_with fail
    go_ret
    exact ⟨rfl, hx.2⟩
  rw [less_yes (by omega)]
  have HZ : Hid (l.length ≤ 1048576) := by show l.length ≤ 1048576; unfold szA at hz; omega
  obtain ⟨L, hL⟩ : ∃ L : Int, L = 1048576 - (szA l : Int) := ⟨_, rfl⟩
  rw [← hL]
  have hL0 : 0 ≤ L := by omega
  have hL1 : L ≤ 1048576 := by omega
  have hld : decide (L < 0) = false := by simp; omega
  clear hL hz
  have x0 := cell_at (o := 0) hx.1 rfl
  have x1 := cell_at (o := 1) hx.1 rfl
  have x2 := cell_at (o := 2) hx.1 rfl
  go_wp2_with fail
  refine (szAtom x L _ hL0 hL1 HXT.out).mono ?_
  rintro e w2 ⟨rfl, hB2⟩
  replace hx := hx.later hB2
  clear hB2 x0 x1 x2
  by_cases hz : L - (x.t.length : Int) < 0
  · rw [less_no hz]
    go_wp2_with fail
    go_ret
    exact ⟨rfl, hx.2⟩
  rw [less_yes (by omega)]
  obtain ⟨M, hM⟩ : ∃ M : Int, M = L - (x.t.length : Int) := ⟨_, rfl⟩
  rw [← hM]
  have hm : decide (M < 0) = false := by simp; omega
  clear hM hz hL0 hL1 hld
  have TX : Hid (∀ W, BoxL w W x → Calls Try.prog 9 #[.agg #[.int .i64 x.k, .int .i64 x.n, .string ⟨x.t.toArray⟩]] W fun e w' => e = .returned (.agg #[.int .i64 x.k, .int .i64 x.n, .string ⟨x.t.toArray⟩]) ∧ BoxL w w' x ∧ Below W.heap.size W w') := fun W h => (toAtom x W).mono (fun e w' ⟨he, hB⟩ => ⟨he, h.later hB, hB⟩)
  have TL : Hid (∀ W, BoxL w W x → Calls Try.prog 15 #[.slice pa l.length ca] W fun e w' => ∃ q, e = .returned (.slice (some ⟨q, 0, none⟩) l.length l.length) ∧ Ats w' (fun _ => True) (some ⟨q, 0, none⟩) l ∧ BoxL w w' x ∧ Below W.heap.size W w') := fun W h => (toAtoms l pa ca w.heap.size W h.2.size HZ.out (HA.out.below h.2)).mono (fun e w' ⟨he, ho, hB⟩ => ⟨_, he, ho.ats.any, h.later hB, hB⟩)
  have SS' : Hid (∀ W q, BoxL w W x → Ats W (fun _ => True) (some ⟨q, 0, none⟩) l → Calls Try.prog 18 #[.slice (some ⟨q, 0, none⟩) l.length l.length, .agg #[.int .i64 x.k, .int .i64 x.n, .string ⟨x.t.toArray⟩]] W fun e w' => e = .returned (.tuple #[.bool r, .int .i64 cc]) ∧ BoxL w w' x) := fun W q h h2 => SS.out W q h (h2.inside.same (fun _ _ => rfl) (fun _ h => h.2))
  have SI' : Hid (∀ W q, BoxL w W x → Ats W (fun _ => True) (some ⟨q, 0, none⟩) l → Calls Try.prog 19 #[.slice (some ⟨q, 0, none⟩) l.length l.length, .agg #[.int .i64 x.k, .int .i64 x.n, .string ⟨x.t.toArray⟩]] W fun e w' => e = .returned (.tuple #[.bool r, .int .i64 cc]) ∧ BoxL w w' x ∧ Below W.heap.size W w') := fun W q h h2 => SI.out W q h (h2.inside.same (fun _ _ => rfl) (fun _ h => h.2))
  clear SS SI
  go_upto_region 8 with fail
  go_cut [6, 7] from 21 to 28 (fun s s2 wx => s = .bool r ∧ s2 = .int .i64 cc ∧ Hid (BoxL w wx x))
  case first =>
    have x0 := cell_at (o := 0) hx.1 rfl
    have x1 := cell_at (o := 1) hx.1 rfl
    have x2 := cell_at (o := 2) hx.1 rfl
    go_region_with (first
      | (go_at_call 15; (with_reducible refine (TL.out _ ?_).mono ?_); (first | exact hx | exact hx.drew); rintro e w3 ⟨q3, rfl, ho, hx, -⟩; have x0 := cell_at (o := 0) hx.1 rfl; have x1 := cell_at (o := 1) hx.1 rfl; have x2 := cell_at (o := 2) hx.1 rfl)
      | (go_at_call 9; (with_reducible refine (TX.out _ ?_).mono ?_); (first | exact hx | exact hx.drew); rintro e w4 ⟨rfl, hx, hBq⟩; (try have ho := ho.later hBq); clear hBq)
      | (go_at_call 18; refine (SS'.out _ _ hx ho).mono ?_; rintro e w5 ⟨rfl, hx⟩))
    all_goals
      have HX := Lib.hid hx
      clear hx ho
      clear x0 x1 x2
      go_wp2_with fail
      go_meet
      exact ⟨rfl, rfl, HX.out⟩
  case rest =>
    clear hx
    obtain ⟨rfl, rfl, HX⟩ := hcut
    go_wp2_with fail
    refine (TL.out _ HX.out).mono ?_
    rintro e w6 ⟨q6, rfl, ho6, hx, -⟩
    have O6 := Lib.hid ho6
    clear ho6 HX
    have x0 := cell_at (o := 0) hx.1 rfl
    have x1 := cell_at (o := 1) hx.1 rfl
    have x2 := cell_at (o := 2) hx.1 rfl
    go_wp2_with fail
    refine (TX.out _ hx).mono ?_
    rintro e w7 ⟨rfl, hx, hB7⟩
    have O7 := Lib.hid (O6.out.later hB7)
    clear hB7 O6 x0 x1 x2
    go_wp2_with fail
    refine (SI'.out _ _ hx O7.out).mono ?_
    rintro e w8 ⟨rfl, hx, hB8⟩
    have O8 := Lib.hid (O7.out.later hB8)
    clear hB8 O7
    go_wp2_with fail
    refine (TL.out _ hx).mono ?_
    rintro e w9 ⟨q9, rfl, ho9, hx, hB9⟩
    have O9 := Lib.hid (And.intro (O8.out.later hB9) ho9)
    clear hB9 ho9 O8
    go_wp2_with fail
    refine (eqAtoms l _ _ _ _ _ _ _ HL.out O9.out.1 O9.out.2).mono ?_
    rintro e w10 ⟨rfl, hB10⟩
    replace hx := hx.later hB10
    clear hB10 O9
    go_wp2_with fail
    go_ret
    exact ⟨rfl, hx.2⟩
end Go.Proofs.Ytjhkignnfdlcjaa
