import Derived.Test.YtndlhcdgpkeifaaGreatZad
import Derived.Test.YtndlhcdgpkeifaaGreatZae
namespace Go.Proofs.YtndlhcdgpkeifaaGreat
open Go.RowKit
set_option linter.unusedSimpArgs false
theorem SG.low {w : World} {base : Nat} {G : Nat → Prop} {T : TypeId} {n : Nat} {f : Nat → Nat → D} {k : Nat} {v : Value} (h : SG w base G T n f k v) {g : Nat} (hg : v.ownBlock = some g) : base ≤ g ∧ g < w.heap.size := by
  obtain ⟨xs, h1, -⟩ := h
  rcases h1.2 with ⟨rfl, -⟩ | ⟨g2, cap, cur, rfl, hb, hh, -⟩
  · cases hg
  · simp only [Value.ownBlock, Option.some.injEq] at hg
    subst hg
    exact ⟨hb, (Array.getElem?_eq_some_iff.1 hh).1⟩
end Go.Proofs.YtndlhcdgpkeifaaGreat
namespace Go.Proofs.YtndlhcdgpkeifaaGreat
open Go.RowKit
set_option linter.unusedSimpArgs false
def cInt (x : Int) : Nat → D := fun _ => .i x
def dIntS (l : List Int) : D := Ls 1 cInt l
theorem run_mkIntS (n : Nat) (hn : n ≤ 1048576) (w : World) :
    (Instr.makeSlice 24 (.int .i64 (n : Int)) (.int .i64 (n : Int))).run Tryz.prog w = .ok (.slice (some ⟨w.heap.size, 0, none⟩) n n) (w.alloc (.cells (madeCells #[.int .i64 0] (n * 1)) 3)) := by
  have h : (Tryz.prog.info? 3).map (fun i => (i.zero, i.size, i.bytes)) = some (some (.int .i64 0), 1, 8) := by kernel_rfl
  obtain ⟨i, hi, hzz⟩ := Option.map_eq_some_iff.1 h
  simp only [Prod.mk.injEq] at hzz
  obtain ⟨hz, hs, hb⟩ := hzz
  have hr := run_make (P := Tryz.prog) w 24 3 i _ Tryz.underlying24 hi hz .i64 .i64 n n (by omega) (Int.le_refl _) (by rw [hb]; omega) (by omega)
  rw [hr, hs]
  simp only [Int.toNat_natCast]
  rfl
set_option maxRecDepth 100000 in
set_option maxHeartbeats 3200000 in
theorem eqDIntS (l : List Int) (a : Option Addr) (c : Nat) (a' : Option Addr) (c' : Nat) (A B : Nat → Prop) (w : World) (ho : (dIntS l).le maxLen) (hA : Rd w A (dIntS l) (.slice a l.length c)) (hB : Rd w B (dIntS l) (.slice a' l.length c')) :
    Calls Tryz.prog 8 #[.slice a l.length c, .slice a' l.length c'] w fun e w' => e = .returned (.bool true) ∧ Below w.heap.size w w' := by
  have hl : l.length ≤ maxLen := (Ls_le.1 ho).2.1
  unfold maxLen at hl
  have HX : Hid (∀ i (h : i < l.length) j, j < 1 → (cInt l[i] j).le maxLen) := (Ls_le.1 ho).2.2
  have HA : Hid (∀ W, Below w.heap.size w W → Rd W A (Ls 1 cInt l) (.slice a l.length c)) := fun W h => Rd.later hA h
  have HB : Hid (∀ W, Below w.heap.size w W → Rd W B (Ls 1 cInt l) (.slice a' l.length c')) := fun W h => Rd.later hB h
  clear hA hB ho
  go_enter Tryz.func8, Tryz.ntmps8
  go_wp2_with fail
  go_loopw [5] (fun i wr => ∃ k : Nat, k ≤ l.length ∧ i = .int .i64 k ∧ Hid (Below w.heap.size w wr)) (fun i _ => l.length - (intOf i).toNat)
  case atStart => exact ⟨0, Nat.zero_le _, rfl, Below.refl _ _⟩
  case round =>
    obtain ⟨k, hk, rfl, HW⟩ := hrel
    by_cases hlt : k < l.length
    case neg =>
      have hki : decide ((k : Int) < (l.length : Int)) = false := by simp; omega
      go_wp2_with fail
      go_ret
      exact ⟨rfl, HW.out⟩
    obtain ⟨b, off, rfl, -, hc⟩ := (HA.out _ HW.out).things k hlt
    obtain ⟨mb, moff, rfl, -, hd⟩ := (HB.out _ HW.out).things k hlt
    have HXK := Lib.hid (HX.out k hlt)
    obtain ⟨u0, c0, r0⟩ := hc 0 (by omega)
    obtain rfl : u0 = .int .i64 l[k] := r0
    rw [Nat.mul_one] at c0
    replace c0 : wr.cell? ⟨b, off + k, none⟩ = _ := c0
    obtain ⟨mu0, mc0, mr0⟩ := hd 0 (by omega)
    obtain rfl : mu0 = .int .i64 l[k] := mr0
    rw [Nat.mul_one] at mc0
    replace mc0 : wr.cell? ⟨mb, moff + k, none⟩ = _ := mc0
    clear hc hd
    generalize l[k] = x at *
    have hki : (k : Int) < (l.length : Int) := by omega
    have hne : (x != x) = false := by simp
    clear HXK
    go_wp2_with fail
    try go_region
    all_goals (try go_wp2_with fail)
    all_goals
      go_roundw
      case rel => exact ⟨k + 1, by omega, by go_num, by first | exact HW.out | exact HW.out.drew⟩
      case measure => simp [intOf]; omega
end Go.Proofs.YtndlhcdgpkeifaaGreat
namespace Go.Proofs.YtndlhcdgpkeifaaGreat
open Go.RowKit
set_option linter.unusedSimpArgs false
theorem infoIntN : ∃ i, Tryz.prog.info? 3 = some i ∧ i.zero = some (.int .i64 0) ∧ i.size = 1 ∧ i.bytes = 8 := by
  have h : (Tryz.prog.info? 3).map (fun i => (i.zero, i.size, i.bytes)) = some (some (.int .i64 0), 1, 8) := by kernel_rfl
  obtain ⟨i, hi, hzz⟩ := Option.map_eq_some_iff.1 h
  simp only [Prod.mk.injEq] at hzz
  exact ⟨i, hi, hzz.1, hzz.2.1, hzz.2.2⟩
def atI (F : List Int) (i : Nat) : Value := .int .i64 (F.getD i 0)
structure IG (w wr : World) (F : List Int) (n : Nat) (v : Value) : Prop where
  gr : SG wr w.heap.size (fun _ => True) 3 1 (fun i _ => .i (F.getD i 0)) n v
  bel : Below w.heap.size w wr
theorem IG.later {w wr wr' : World} {F : List Int} {n : Nat} {v : Value} (h : IG w wr F n v) (hB : Below wr.heap.size wr wr') : IG w wr' F n v := ⟨h.gr.later hB, h.bel.trans (hB.mono h.bel.size)⟩
theorem IG.firstA (w : World) (F : List Int) : IG w (w.alloc (.cells #[] 3)) F 0 (.slice (some ⟨w.heap.size, 0, none⟩) 0 0) :=
  ⟨SG.start (Nat.le_refl _) (heap_newD _ _), below_allocD _ _⟩
theorem IG.push {w wr w3 : World} {F : List Int} {n : Nat} {v v' : Value} (h : IG w wr F n v) (hs : SG w3 w.heap.size (fun _ => True) 3 1 (fun i _ => .i (F.getD i 0)) (n + 1) v') (hg : wr.grownBy w3 v.ownBlock) : IG w w3 F (n + 1) v' := by
  exact ⟨hs, h.bel.trans ⟨hg.os, hg.tape, hg.output, hg.size, fun b hb => hg.block b (Nat.lt_of_lt_of_le hb h.bel.size) (fun e => by have := (h.gr.low e.symm).1; omega)⟩⟩
def IntAns (w : World) (F : List Int) (e : Ending) (w' : World) : Prop := ∃ va vq, e = .returned (.slice va F.length vq) ∧ IG w w' F F.length (.slice va F.length vq)
theorem rd_flatN {w w' : World} : ∀ {d : D} {B B' : Nat → Prop} {v : Value}, d.flat → Rd w B d v → Own w' d B' v
  | .i _, _, _, _, _, h => h
  | .s _, _, _, _, _, h => h
  | .b _, _, _, _, _, h => h
theorem lsI_at {F : List Int} {i : Nat} (hi : i < F.length) (j : Nat) : lsF cInt F i j = .i (F.getD i 0) := by
  rw [lsF_at hi]
  show D.i F[i] = D.i (F.getD i 0)
  rw [List.getD_eq_getElem?_getD, List.getElem?_eq_getElem hi]; rfl
theorem Own.congrN {w : World} {B : Nat → Prop} {n m : Nat} {f g : Nat → Nat → D} {v : Value} (h : Own w (.l n m f) B v) (e : ∀ i j, i < m → j < n → f i j = g i j) : Own w (.l n m g) B v := by
  obtain ⟨a, c, hv, h⟩ := h
  refine ⟨a, c, hv, h.imp id ?_⟩
  rintro ⟨b, off, X, ha, hb, hn, hX, hd, hc⟩
  exact ⟨b, off, X, ha, hb, hn, hX, hd, fun i j hi hj => by rw [← e i j hi hj]; exact hc i j hi hj⟩
theorem IG.own {w wr : World} {F : List Int} {v : Value} (h : IG w wr F F.length v) : Own wr (dIntS F) (fun c => w.heap.size ≤ c ∧ c < wr.heap.size) v := by
  have hO : Own wr (.l 1 F.length (fun i _ => .i (F.getD i 0))) (fun c => w.heap.size ≤ c ∧ c < wr.heap.size) v := by
    obtain ⟨xs, h1, h2⟩ := h.gr
    rcases h1.2 with ⟨rfl, h0⟩ | ⟨g, cap, cur, rfl, hg, hh, r1, r2, r3, r4⟩
    · exact ⟨none, 0, by rw [h0], .inl h0⟩
    · refine ⟨_, _, rfl, ?_⟩
      by_cases h0 : F.length = 0
      · exact .inl h0
      · refine .inr ⟨g, 0, fun _ _ _ => False, rfl, ⟨hg, (Array.getElem?_eq_some_iff.1 hh).1⟩, by omega, fun _ _ _ h => h.elim, fun _ _ _ _ _ h => h.elim, fun i j hi hj => ?_⟩
        obtain ⟨u, hu, hr⟩ := h2 i j hi hj
        have hlt := spot_lt hi hj
        refine ⟨u, ?_, ?_, rd_flatN trivial hr⟩
        · rw [← r4, List.getElem?_take_of_lt hlt, Array.getElem?_toList] at hu
          rw [Nat.zero_add]
          rw [Nat.mul_one] at hu ⊢
          simp [World.cell?, hh, hu]
        · simp [World.frozen?, hh]
  exact hO.congrN (fun i j hi hj => (lsI_at hi j).symm)
theorem rowIs_own {w wr : World} {b : Nat} {F : List Int} (hb : w.heap.size ≤ b) (h : wr.rowIs b 3 F.length (atI F)) : Own wr (dIntS F) (fun c => w.heap.size ≤ c ∧ c < wr.heap.size) (.slice (some ⟨b, 0, none⟩) F.length F.length) := by
  have hO : Own wr (.l 1 F.length (fun i _ => .i (F.getD i 0))) (fun c => w.heap.size ≤ c ∧ c < wr.heap.size) (.slice (some ⟨b, 0, none⟩) F.length F.length) := by
    refine ⟨_, _, rfl, ?_⟩
    by_cases h0 : F.length = 0
    · exact .inl h0
    · refine .inr ⟨b, 0, fun _ _ _ => False, rfl, ⟨hb, h.lt⟩, by omega, fun _ _ _ h => h.elim, fun _ _ _ _ _ h => h.elim, fun i j hi hj => ?_⟩
      obtain rfl : j = 0 := by omega
      refine ⟨atI F i, ?_, ?_, rfl⟩
      · rw [Nat.zero_add, Nat.mul_one, Nat.add_zero]; exact h.cell hi
      · exact h.frozen _
  exact hO.congrN (fun i j hi hj => (lsI_at hi j).symm)
theorem sz_intsN (l : List Int) : (dIntS l).sz = l.length := by
  show l.length + szL 1 cInt l l.length = l.length
  have : szL 1 cInt l l.length = 0 := by
    unfold szL
    rw [sumN_congr (h := fun _ => 0) (fun i hi => by rw [lsF_at hi]; rfl)]
    have := sumN_lin 0 0 (fun _ => 0) l.length
    simpa using this
  omega
theorem ints_leN {F : List Int} (hF : F.length ≤ 1048576) (hm : ∀ m ∈ F, iOK m) : (dIntS F).le maxLen ∧ (dIntS F).sz ≤ 100000000 :=
  ⟨Ls_le.2 ⟨by omega, by unfold maxLen; omega, fun i hi _ _ => hm _ (List.getElem_mem hi)⟩, by rw [sz_intsN]; omega⟩
theorem iOK_smallN {n : Int} (h : -9223372036854775808 ≤ n ∧ n ≤ 9223372036854775807) : iOK n := by
  show (decide (IntKind.i64.min ≤ n) && decide (n ≤ IntKind.i64.max)) = true
  rw [show IntKind.i64.min = -9223372036854775808 from by decide, show IntKind.i64.max = 9223372036854775807 from by decide, decide_eq_true h.1, decide_eq_true h.2]; rfl
end Go.Proofs.YtndlhcdgpkeifaaGreat
