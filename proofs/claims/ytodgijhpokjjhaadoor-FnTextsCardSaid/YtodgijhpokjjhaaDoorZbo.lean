import Derived.Test.YtodgijhpokjjhaaDoorZbn
namespace Go.Proofs.YtodgijhpokjjhaaDoor
open Go.RowKit
set_option linter.unusedSimpArgs false
set_option maxHeartbeats 1600000 in
theorem closeI (w : World) (p : Nat) (f : Fr) (out : List (List UInt8)) (W : World) (h : FrS w p W f out) :
    Calls Tryd.prog 29 #[.pointer (some ⟨p, 0, none⟩)] W fun e W' => e = .returned (.tuple #[]) ∧ FrS w p W' frC out := by
  obtain ⟨ba, bp, ea, ep, h⟩ := h.open
  have H := Lib.hid h
  obtain ⟨c0, c1, c2, c3, c4, c5⟩ := h.cell
  have z0 := h.fz 0; have z1 := h.fz 1; have z2 := h.fz 2; have z3 := h.fz 3; have z4 := h.fz 4; have z5 := h.fz 5
  clear h
  go_enter Tryd.func29, Tryd.ntmps29
  go_wp2_with fail
  refine bodyPost_end (results_none rfl _ _ _) rfl ⟨rfl, .slice none 0 0, .slice ea out.length ep, ?_⟩
  have h1 : StO w p (W.setCell ⟨p, 0, none⟩ (.slice none 0 0)) { f with buf := [] } out (.slice none 0 0) (.slice ea out.length ep) :=
    H.out.re (size_setO _ _ _ _) rfl rfl rfl (fun k hk => heap_setO _ _ _ _ _ hk) (by rw [heap_setCell_same W p 0 _ _ _ H.out.box]; rfl) (OB.nil _ _ _) (fun g hg => by simp [Value.ownBlock] at hg)
  have h2 := h1.put 1 (.int .i64 0) ⟨[], 0, f.q, f.s, f.c⟩ rfl rfl
  have h3 := h2.put 2 (.bool false) ⟨[], 0, false, f.s, f.c⟩ rfl rfl
  have h4 := h3.put 3 (.bool false) ⟨[], 0, false, false, f.c⟩ rfl rfl
  have h5 := h4.put 4 (.bool true) frC rfl rfl
  exact h5.put 5 (.slice ea out.length ep) frC rfl rfl
def openF (f : Fr) : Fr := if 12 < f.d + 1 then frC else { f with d := f.d + 1 }
set_option maxHeartbeats 1600000 in
theorem openI (w : World) (p : Nat) (f : Fr) (out : List (List UInt8)) (W : World) (hd0 : 0 ≤ f.d) (hd : f.d ≤ 12) (h : FrS w p W f out) :
    Calls Tryd.prog 30 #[.pointer (some ⟨p, 0, none⟩)] W fun e W' => e = .returned (.tuple #[]) ∧ FrS w p W' (openF f) out := by
  obtain ⟨ba, bp, ea, ep, h⟩ := h.open
  have H := Lib.hid h
  obtain ⟨c0, c1, c2, c3, c4, c5⟩ := h.cell
  have z0 := h.fz 0; have z1 := h.fz 1; have z2 := h.fz 2; have z3 := h.fz 3; have z4 := h.fz 4; have z5 := h.fz 5
  have H1 := Lib.hid (h.put 1 (.int .i64 (f.d + 1)) { f with d := f.d + 1 } rfl rfl)
  clear h
  by_cases hc : 12 < f.d + 1
  · have HO : Hid (openF f = frC) := by show openF f = frC; unfold openF; rw [if_pos hc]
    have hcd : decide (12 < f.d + 1) = true := decide_eq_true hc
    go_enter Tryd.func30, Tryd.ntmps30
    go_wp2_with (go_at_call 29; refine (closeI w p { f with d := f.d + 1 } out _ ⟨_, _, H1.out⟩).mono ?_; rintro e w1 ⟨rfl, hs⟩)
    refine bodyPost_end (results_none rfl _ _ _) rfl ⟨rfl, ?_⟩
    rw [HO.out]
    exact hs
  · have HO : Hid (openF f = { f with d := f.d + 1 }) := by show openF f = _; unfold openF; rw [if_neg hc]
    have hcd : decide (12 < f.d + 1) = false := decide_eq_false hc
    go_enter Tryd.func30, Tryd.ntmps30
    go_wp2_with fail
    refine bodyPost_end (results_none rfl _ _ _) rfl ⟨rfl, ?_⟩
    rw [HO.out]
    exact ⟨_, _, H1.out⟩
end Go.Proofs.YtodgijhpokjjhaaDoor
