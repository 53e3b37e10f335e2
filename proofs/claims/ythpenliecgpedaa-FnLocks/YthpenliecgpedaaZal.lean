import Derived.Test.YthpenliecgpedaaZak
namespace Go.Proofs.Ythpenliecgpedaa
open Go.RowKit
set_option linter.unusedSimpArgs false
set_option maxHeartbeats 1600000 in
theorem addOne (b o : Nat) (x : Int) (hx : x = 0 ∨ x = 1) (w : World) (hc : w.cell? ⟨b, o, none⟩ = some (.int .i32 x)) (hz : w.frozen? ⟨b, o, none⟩ = false) :
    Calls Try.prog 79 #[.pointer (some ⟨b, o, none⟩), .int .i32 1] w fun e w' => e = .returned (.int .i32 (x + 1)) ∧ w' = w.setCell ⟨b, o, none⟩ (.int .i32 (x + 1)) := by
  have hadd := run_call_add (P := Try.prog) Try.func87 (by kernel_rfl) (by kernel_rfl) (by kernel_rfl) .i32 (by kernel_rfl) (y := 1) (s := x + 1) hc hz (by rcases hx with rfl | rfl <;> (simp [go_sem]; rfl))
  clear hx
  go_enter Try.func79, Try.ntmps79
  go_wp2_with fail
  go_ret
  exact ⟨rfl, rfl⟩
def c01 (b : Bool) : Int := if b then 1 else 0
structure OnB (w wr : World) (l : List Int) (k : Nat) : Prop where
  row : wr.rowIs w.heap.size 109 3 (fun j => .int .i32 (c01 (inK l k (j : Int))))
  bel : Below w.heap.size w wr
def OnP (l : List Int) (k : Nat) : Prop := ∀ m (h : m < l.length), m < k → sesB l[m] = true ∧ inK l m l[m] = false
theorem on_que {l : List Int} (h1 : 1 ≤ l.length) (h : OnP l l.length) : QuP l := by
  have hn : l.length ≤ 3 := by
    by_cases h4 : l.length ≤ 3
    · exact h4
    exfalso
    have g : ∀ m (hm : m < l.length), 0 ≤ l[m] ∧ l[m] ≤ 2 := fun m hm => ses_in (h m hm hm).1
    have f : ∀ m (hm : m < l.length) j (hj : j < m), l[j] ≠ l[m] := fun m hm j hj e => by have h1 := (h m hm hm).2; rw [inK_yes (m := j) (by omega) hj e] at h1; cases h1
    have g0 := g 0 (by omega); have g1 := g 1 (by omega); have g2 := g 2 (by omega); have g3 := g 3 (by omega)
    have f1 := f 1 (by omega) 0 (by omega); have f2 := f 2 (by omega) 0 (by omega); have f3 := f 2 (by omega) 1 (by omega)
    have f4 := f 3 (by omega) 0 (by omega); have f5 := f 3 (by omega) 1 (by omega); have f6 := f 3 (by omega) 2 (by omega)
    omega
  exact ⟨⟨h1, hn⟩, fun m hm => (h m hm hm).1, fun m hm j hj e => by have h1 := (h m hm hm).2; rw [inK_yes (m := j) (by omega) hj e] at h1; cases h1⟩
theorem que_on {l : List Int} (h : QuP l) : OnP l l.length := fun m hm _ => ⟨h.ses m hm, inK_no (by omega) (fun j hj hjm => h.once m hm j hjm)⟩
theorem inK_succ {l : List Int} {k : Nat} (hk : k < l.length) (n : Int) : inK l (k + 1) n = (inK l k n || decide (l[k] = n)) := by
  cases h : inK l k n
  · by_cases e : l[k] = n
    · rw [decide_eq_true e, inK_yes hk (by omega) e]; rfl
    · rw [decide_eq_false e]
      exact inK_no (by omega) (fun m hm hmk => by by_cases e2 : m = k
                                                  · subst e2; exact e
                                                  · exact inK_not h hm (by omega))
  · obtain ⟨m, hm, hmk, e⟩ := inK_of h
    rw [inK_yes hm (by omega) e]; rfl
noncomputable def onB (l : List Int) : Bool := @decide (OnP l l.length) (Classical.propDecidable _)
theorem on_yes {l : List Int} (h : OnP l l.length) : onB l = true := @decide_eq_true _ (Classical.propDecidable _) h
theorem on_no {l : List Int} (h : ¬ OnP l l.length) : onB l = false := @decide_eq_false _ (Classical.propDecidable _) h
theorem on_of {l : List Int} (h : onB l = true) : OnP l l.length := @of_decide_eq_true _ (Classical.propDecidable _) h
set_option maxRecDepth 100000 in
set_option maxHeartbeats 3200000 in
theorem onceI (l : List Int) (a : Option Addr) (c : Nat) (B : Nat → Prop) (w : World) (hl : l.length ≤ maxLen) (hA : Rd w B (dIntS l) (.slice a l.length c)) :
    Calls Try.prog 64 #[.slice a l.length c] w fun e w' => e = .returned (.bool (onB l)) ∧ Below w.heap.size w w' := by
  unfold maxLen at hl
  have HA : Hid (∀ W, Below w.heap.size w W → Rd W B (dIntS l) (.slice a l.length c)) := fun W h => Rd.later hA h
  have H0 : Hid (OnB w (w.alloc (.cells #[.int .i32 0, .int .i32 0, .int .i32 0] 109)) l 0) := ⟨World.rowIs_alloc w #[.int .i32 0, .int .i32 0, .int .i32 0] 109 _ (fun j hj => by
    have hz : inK l 0 (j : Int) = false := inK_no (Nat.zero_le _) (fun m _ h => absurd h (by omega))
    rw [hz]
    match j, hj with
    | 0, _ => rfl
    | 1, _ => rfl
    | 2, _ => rfl), below_allocD _ _⟩
  clear hA
  go_enter Try.func64, Try.ntmps64
  go_wp2_with fail
  go_loopw [8] (fun i wr => ∃ k : Nat, k ≤ l.length ∧ i = .int .i64 k ∧ Hid (OnP l k ∧ OnB w wr l k)) (fun i _ => l.length - (intOf i).toNat)
  case atStart => exact ⟨0, Nat.zero_le _, rfl, fun m _ h => absurd h (by omega), H0.out⟩
  case round =>
    obtain ⟨k, hk, rfl, HW⟩ := hrel
    by_cases hlt : k < l.length
    case neg =>
      have hki : decide ((k : Int) < (l.length : Int)) = false := by simp; omega
      have HR : Hid (onB l = true) := on_yes (fun m h hm => HW.out.1 m h (by omega))
      go_wp2_with fail
      go_ret
      exact ⟨ret_b HR.out.symm, HW.out.2.bel⟩
    have hki : (k : Int) < (l.length : Int) := by omega
    obtain ⟨b, off, rfl, -, hc⟩ := intAt (HA.out _ HW.out.2.bel) hlt
    have c0 := hc k hlt _ (Below.refl _ _)
    clear hc
    cases hse : sesB l[k]
    case false =>
      have HR : Hid (onB l = false) := on_no (fun h => by have h1 := (h k hlt hlt).1; rw [hse] at h1; cases h1)
      generalize l[k] = x at *
      go_wp2_with (go_at_call 43; (with_reducible refine (sesI _ _).mono ?_); rintro e w1 ⟨rfl, rfl⟩; rw [hse])
      go_ret
      exact ⟨ret_b HR.out.symm, HW.out.2.bel⟩
    obtain ⟨j, hj⟩ : ∃ j : Nat, l[k] = (j : Int) := ⟨l[k].toNat, by have := ses_in hse; omega⟩
    have hj3 : j < 3 := by have := ses_in hse; omega
    have hj3i : (j : Int) < 3 := by omega
    have e0 := HW.out.2.row.cell hj3
    have z0 := HW.out.2.row.frozen j
    have HRW := Lib.hid (fun (v : Value) => HW.out.2.row.set j v)
    have HSU := Lib.hid (fun (n : Int) => inK_succ hlt n)
    have HPK : Hid (inK l k (j : Int) = false → OnP l (k + 1)) := fun h m hm hmk => by
      by_cases e : m = k
      · subst e; exact ⟨hse, by rw [hj]; exact h⟩
      · exact HW.out.1 m hm (by omega)
    have HPN : Hid (inK l k (j : Int) = true → onB l = false) := fun h => on_no (fun hp => by have h1 := (hp k hlt hlt).2; rw [hj, h] at h1; cases h1)
    have HBL := Lib.hid HW.out.2.bel
    have HLT : Hid (w.heap.size < wr.heap.size) := HW.out.2.row.lt
    rw [hj] at c0 hse
    have hjl : Hid (l[k] = (j : Int)) := hj
    clear HW hj
    cases hin : inK l k (j : Int)
    case true =>
      have HR := Lib.hid (HPN.out hin)
      rw [hin] at e0
      replace e0 : wr.cell? ⟨w.heap.size, j, none⟩ = some (.int .i32 1) := e0
      have AD := Lib.hid (addOne w.heap.size j 1 (.inr rfl) wr e0 z0)
      have HB2 : Hid (Below w.heap.size w (wr.setCell ⟨w.heap.size, j, none⟩ (.int .i32 (1 + 1)))) := HBL.out.setCell (Nat.le_refl _) _
      clear HPK HPN HRW HSU e0 z0
      go_wp2_with (first | (go_at_call 43; (with_reducible refine (sesI _ _).mono ?_); rintro e w1 ⟨rfl, rfl⟩; rw [hse]) | (go_at_call 79; refine AD.out.mono ?_; rintro e w1 ⟨rfl, rfl⟩))
      go_ret
      exact ⟨ret_b HR.out.symm, HB2.out⟩
    have HP := Lib.hid (HPK.out hin)
    rw [hin] at e0
    replace e0 : wr.cell? ⟨w.heap.size, j, none⟩ = some (.int .i32 0) := e0
    have AD := Lib.hid (addOne w.heap.size j 0 (.inl rfl) wr e0 z0)
    have HN : Hid (OnB w (wr.setCell ⟨w.heap.size, j, none⟩ (.int .i32 (0 + 1))) l (k + 1)) := by
      refine ⟨?_, HBL.out.setCell (Nat.le_refl _) _⟩
      have h1 := HRW.out (.int .i32 (0 + 1))
      refine h1.congr (fun m _ => ?_)
      by_cases e : m = j
      · subst e
        rw [if_pos rfl, HSU.out, hin, decide_eq_true hjl.out]
        rfl
      · rw [if_neg e, HSU.out, decide_eq_false (by rw [hjl.out]; omega), Bool.or_false]
    clear HPK HPN HRW HSU e0 z0
    go_wp2_with (first | (go_at_call 43; (with_reducible refine (sesI _ _).mono ?_); rintro e w1 ⟨rfl, rfl⟩; rw [hse]) | (go_at_call 79; refine AD.out.mono ?_; rintro e w1 ⟨rfl, rfl⟩))
    go_roundw
    case rel => exact ⟨k + 1, by omega, by go_num, HP.out, HN.out⟩
    case measure => simp [intOf]; omega
end Go.Proofs.Ythpenliecgpedaa
