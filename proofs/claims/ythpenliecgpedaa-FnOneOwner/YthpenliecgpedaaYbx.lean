import Derived.Test.YthpenliecgpedaaYbt
import Derived.Test.YthpenliecgpedaaYbu
import Derived.Test.YthpenliecgpedaaYbh
import Derived.Test.YthpenliecgpedaaYaz
import Derived.Test.YthpenliecgpedaaYbp
import Derived.Test.YthpenliecgpedaaYav
import Derived.Test.YthpenliecgpedaaYbw
namespace Go.Proofs.Ythpenliecgpedaa
open Go.RowKit Go.MuLone
set_option linter.unusedSimpArgs false
theorem Rd.up {W W' : World} {d : D} {v : Value} (h : Rd W (· < W.heap.size) d v) (hB : Below W.heap.size W W') : Rd W' (· < W'.heap.size) d v := (h.later hB).mono (fun _ hb => Nat.lt_of_lt_of_le hb hB.size)
theorem Byts.upP {w W : World} {q : Option Addr} {l : List UInt8} (h : Byts w (· < w.heap.size) q l) (hB : Below w.heap.size w W) : Byts W (· < W.heap.size) q l := h.same (fun b hb => hB.block b hb) (fun _ hb => Nat.lt_of_lt_of_le hb hB.size)
theorem LksP.le {l : List LkV} (h : LksP l) : (dLockS l).le maxLen := (locks_le (by have := h.len; omega) (fun x hx => (h.small x hx).1)).1
theorem LksP.qle {l : List LkV} (h : LksP l) : l.length ≤ 1048576 ∧ ∀ x ∈ l, x.qu.length ≤ 1048576 := ⟨by have := h.len; omega, fun x hx => by have := (h.small x hx).2; omega⟩
theorem ask_is {l : List LkV} {n : Int} {s : List UInt8} (h : LksP l) (hn : sesB n = true) (hs : nameB s = true) : askC l n s = 0 := by
  have h1 := h.len
  have h2 := nmB_len hs
  unfold askC askK
  rw [decide_eq_false (show ¬ 4096 < l.length by omega), decide_eq_false (show ¬ 65536 < s.length by omega), lks_yes h, hn, hs]
  rfl
theorem ThL.room {l : List LkV} (h : ThL l) (s : List UInt8) : roomB l s = true := by
  have := h.len
  unfold roomB
  split
  · rfl
  · rw [if_neg (by omega)]
def LvA (X : List LkV) (T : List ToV) (xc : Int) (W : World) (e : Ending) (w' : World) : Prop := ∃ (ra : Option Addr) (rc : Nat) (ta : Option Addr) (tc : Nat), e = .returned (.tuple #[.slice ra X.length rc, .slice ta T.length tc, .int .i64 xc]) ∧ Rd w' (· < w'.heap.size) (dLockS X) (.slice ra X.length rc) ∧ Rd w' (· < w'.heap.size) (dToldS T) (.slice ta T.length tc) ∧ Below W.heap.size W w'
def ObA (R : List (List UInt8)) (W : World) (e : Ending) (w' : World) : Prop := ∃ (ra : Option Addr) (rc : Nat), e = .returned (.tuple #[.slice ra R.length rc, .int .i64 0]) ∧ Rd w' (· < w'.heap.size) (dStringS R) (.slice ra R.length rc) ∧ Below W.heap.size W w'
section
variable {l : List LkV} {n : Int} {s : List UInt8} {a : Option Addr} {c : Nat} {W : World}
theorem obI (h : LksP l) (hn : sesB n = true) (hS : Rd W (· < W.heap.size) (dLockS l) (.slice a l.length c)) :
    Calls Try.prog 17 #[.slice a l.length c, .int .i64 n] W (ObA (ownN l n) W) := by
  have h0 : obC l n = 0 := ask_is h hn name_x
  have e1 : obR l n = ownN l n := by unfold obR; rw [if_pos h0]
  have h9 := ownedByI l n a c _ W h.le hS
  rw [e1, h0] at h9
  exact h9.mono (fun e w' ⟨ra, rc, he, ho, hB⟩ => ⟨ra, rc, he, ho.rd'.mono (fun _ hb => hb.2), hB⟩)
theorem laI (h : LksP l) (hn : sesB n = true) (hS : Rd W (· < W.heap.size) (dLockS l) (.slice a l.length c)) :
    Calls Try.prog 18 #[.slice a l.length c, .int .i64 n] W (LvA (laK l n l.length).1 (laK l n l.length).2 0 W) := by
  have h0 : obC l n = 0 := ask_is h hn name_x
  obtain ⟨e1, e2⟩ := la_ok h0
  have h9 := leaveAllI l n a c _ W h.le hS
  rw [e1, e2, h0] at h9
  exact h9.mono (fun e w' ⟨ra, rc, ta, tc, G0, G1, he, ho, ht, hG, _, hB⟩ => ⟨ra, rc, ta, tc, he, ho.rd'.mono (fun b hb => (hG b (.inl hb)).2), ht.rd'.mono (fun b hb => (hG b (.inr hb)).2), hB⟩)
theorem laS (h : LksP l) (hn : sesB n = true) (hS : Rd W (· < W.heap.size) (dLockS l) (.slice a l.length c)) :
    Calls Try.prog 19 #[.slice a l.length c, .int .i64 n] W (LvA (laK l n l.length).1 (laK l n l.length).2 0 W) := by
  have h0 : obC l n = 0 := ask_is h hn name_x
  obtain ⟨e1, e2⟩ := la_ok h0
  have h9 := leaveAllS l n a c _ W h.le hS
  rw [e1, e2, h0] at h9
  exact h9
theorem lokI (h : LksP l) (hS : Rd W (· < W.heap.size) (dLockS l) (.slice a l.length c)) :
    Calls Try.prog 16 #[.slice a l.length c] W fun e w' => e = .returned (.bool true) ∧ Below W.heap.size W w' := by
  have h9 := locksI l a c _ W h.le hS
  rw [lks_yes h] at h9
  exact h9
end
end Go.Proofs.Ythpenliecgpedaa
