import Derived.Test.YthpenliecgpedaaZbq
import Derived.Test.YthpenliecgpedaaZbr
import Derived.Test.YthpenliecgpedaaZbe
import Derived.Test.YthpenliecgpedaaZbu
import Derived.Test.YthpenliecgpedaaZbw
import Derived.Test.YthpenliecgpedaaZas
import Derived.Test.YthpenliecgpedaaZbl
import Derived.Test.YthpenliecgpedaaZTk
namespace Go.Proofs.Ythpenliecgpedaa
open Go.RowKit Go.MuLone
set_option linter.unusedSimpArgs false
theorem Rd.up {W W' : World} {d : D} {v : Value} (h : Rd W (· < W.heap.size) d v) (hB : Below W.heap.size W W') : Rd W' (· < W'.heap.size) d v := (h.later hB).mono (fun _ hb => Nat.lt_of_lt_of_le hb hB.size)
theorem Byts.upP {w W : World} {q : Option Addr} {l : List UInt8} (h : Byts w (· < w.heap.size) q l) (hB : Below w.heap.size w W) : Byts W (· < W.heap.size) q l := h.same (fun b hb => hB.block b hb) (fun _ hb => Nat.lt_of_lt_of_le hb hB.size)
theorem LksP.le {l : List LkV} (h : LksP l) : (dLockS l).le maxLen := (locks_le (by have := h.len; omega) (fun x hx => (h.small x hx).1)).1
theorem LksP.qle {l : List LkV} (h : LksP l) : l.length ≤ 1048576 ∧ ∀ x ∈ l, x.qu.length ≤ 1048576 := ⟨by have := h.len; omega, fun x hx => by have := (h.small x hx).2; omega⟩
theorem ask_is {l : List LkV} {n : Int} {s : List UInt8} (h : LksP l) (hn : sesB n = true) (hs : nameB s = true) : askC l n s = 0 := by
  have h1 := h.len
  have h2 := nmB_len hs
  unfold askC askK
  rw [decide_eq_false (show ¬ 4096 < l.length by omega), decide_eq_false (show ¬ 65536 < s.length by omega), lks_yes h, hn, hs]
  rfl
theorem ThL.room {l : List LkV} (h : ThL l) (s : List UInt8) : roomB l s = true := by
  have := h.len
  unfold roomB
  split
  · rfl
  · rw [if_neg (by omega)]
theorem take_ans {l : List LkV} (h : ThL l) (n : Int) (s : List UInt8) : takeC l n s = 0 ∨ (takeC l n s = 8 ∧ takeL l n s = l) := by
  have hr := h.room s
  by_cases hi : tkIn l n s = true
  · obtain ⟨t1, t2, t3⟩ := take_in hr hi
    refine .inr ⟨t3, ?_⟩
    rw [t1]
    by_cases hf : fk l s < l.length
    · exact (room_there rfl hf).2.1
    · have hX : tkX l s = ⟨s, []⟩ := by
        have := h.len
        have hL : roomL l s = insL l s [] := by unfold roomL; rw [if_neg hf, if_neg (by omega)]
        have hK : roomK l s = pk l s := by unfold roomK; rw [if_neg hf, if_neg (by omega)]
        unfold tkX
        rw [hL, hK, insL_at]
      unfold tkIn at hi
      rw [hX] at hi
      obtain ⟨m, hm, -⟩ := inK_of hi
      simp at hm
  · exact .inl (take_ok hr (by simpa using hi)).2.2
theorem stealT_len (l : List LkV) (n : Int) (s : List UInt8) : (stealT l n s).length ≤ 1 := by unfold stealT; split <;> (try split) <;> simp
theorem leaveT_len (l : List LkV) (n : Int) (s : List UInt8) : (leaveT l n s).length ≤ 1 := by unfold leaveT; split <;> (try split) <;> simp
def TkA (X : List LkV) (xb : Bool) (xc : Int) (W : World) (e : Ending) (w' : World) : Prop := ∃ (ra : Option Addr) (rc : Nat), e = .returned (.tuple #[.slice ra X.length rc, .bool xb, .int .i64 xc]) ∧ Rd w' (· < w'.heap.size) (dLockS X) (.slice ra X.length rc) ∧ Below W.heap.size W w'
def LvA (X : List LkV) (T : List ToV) (xc : Int) (W : World) (e : Ending) (w' : World) : Prop := ∃ (ra : Option Addr) (rc : Nat) (ta : Option Addr) (tc : Nat), e = .returned (.tuple #[.slice ra X.length rc, .slice ta T.length tc, .int .i64 xc]) ∧ Rd w' (· < w'.heap.size) (dLockS X) (.slice ra X.length rc) ∧ Rd w' (· < w'.heap.size) (dToldS T) (.slice ta T.length tc) ∧ Below W.heap.size W w'
def ObA (R : List (List UInt8)) (W : World) (e : Ending) (w' : World) : Prop := ∃ (ra : Option Addr) (rc : Nat), e = .returned (.tuple #[.slice ra R.length rc, .int .i64 0]) ∧ Rd w' (· < w'.heap.size) (dStringS R) (.slice ra R.length rc) ∧ Below W.heap.size W w'
section
variable {l : List LkV} {n : Int} {s : List UInt8} {a : Option Addr} {c : Nat} {W : World}
theorem tkI (h : LksP l) (hn : sesB n = true) (hs : nameB s = true) (hS : Rd W (· < W.heap.size) (dLockS l) (.slice a l.length c)) :
    Calls Try.prog 8 #[.slice a l.length c, .int .i64 n, .string ⟨s.toArray⟩] W (TkA (takeL l n s) (takeB l n s) (takeC l n s) W) := by
  obtain ⟨e1, e2, e3⟩ := tk_ok (ask_is h hn hs)
  have h9 := takeLockI l n s a c _ W h.le (by have := nmB_len hs; unfold maxLen; omega) hS
  rw [e1, e2, e3] at h9
  exact h9.mono (fun e w' ⟨ra, rc, he, ho, hB⟩ => ⟨ra, rc, he, ho.rd'.mono (fun _ hb => hb.2), hB⟩)
theorem tkS' (h : LksP l) (hn : sesB n = true) (hs : nameB s = true) (hS : Rd W (· < W.heap.size) (dLockS l) (.slice a l.length c)) :
    Calls Try.prog 9 #[.slice a l.length c, .int .i64 n, .string ⟨s.toArray⟩] W (TkA (takeL l n s) (takeB l n s) (takeC l n s) W) := by
  obtain ⟨e1, e2, e3⟩ := tk_ok (ask_is h hn hs)
  have h9 := takeLockS l n s a c _ W h.le (by have := nmB_len hs; unfold maxLen; omega) hS
  rw [e1, e2, e3] at h9
  exact h9
theorem slI (h : LksP l) (hn : sesB n = true) (hs : nameB s = true) (hS : Rd W (· < W.heap.size) (dLockS l) (.slice a l.length c)) :
    Calls Try.prog 10 #[.slice a l.length c, .int .i64 n, .string ⟨s.toArray⟩] W (LvA (stealL l n s) (stealT l n s) (stealC l n s) W) := by
  obtain ⟨e1, e2, e3⟩ := sl_ok (ask_is h hn hs)
  have h9 := stealLockI l n s a c _ W h.le (by have := nmB_len hs; unfold maxLen; omega) hS
  rw [e1, e2, e3] at h9
  exact h9.mono (fun e w' ⟨ra, rc, ta, tc, G0, G1, he, ho, ht, hG, _, hB⟩ => ⟨ra, rc, ta, tc, he, ho.rd'.mono (fun b hb => (hG b (.inl hb)).2), ht.rd'.mono (fun b hb => (hG b (.inr hb)).2), hB⟩)
theorem slS (h : LksP l) (hn : sesB n = true) (hs : nameB s = true) (hS : Rd W (· < W.heap.size) (dLockS l) (.slice a l.length c)) :
    Calls Try.prog 11 #[.slice a l.length c, .int .i64 n, .string ⟨s.toArray⟩] W (LvA (stealL l n s) (stealT l n s) (stealC l n s) W) := by
  obtain ⟨e1, e2, e3⟩ := sl_ok (ask_is h hn hs)
  have h9 := stealLockS l n s a c _ W h.le (by have := nmB_len hs; unfold maxLen; omega) hS
  rw [e1, e2, e3] at h9
  exact h9
theorem lvI (h : LksP l) (hn : sesB n = true) (hs : nameB s = true) (hS : Rd W (· < W.heap.size) (dLockS l) (.slice a l.length c)) :
    Calls Try.prog 12 #[.slice a l.length c, .int .i64 n, .string ⟨s.toArray⟩] W (LvA (leaveL l n s) (leaveT l n s) (leaveC l n s) W) := by
  obtain ⟨e1, e2, e3⟩ := lv_ok (ask_is h hn hs)
  have h9 := leaveLockI l n s a c _ W h.le (by have := nmB_len hs; unfold maxLen; omega) hS
  rw [e1, e2, e3] at h9
  exact h9.mono (fun e w' ⟨ra, rc, ta, tc, G0, G1, he, ho, ht, hG, _, hB⟩ => ⟨ra, rc, ta, tc, he, ho.rd'.mono (fun b hb => (hG b (.inl hb)).2), ht.rd'.mono (fun b hb => (hG b (.inr hb)).2), hB⟩)
theorem lvS (h : LksP l) (hn : sesB n = true) (hs : nameB s = true) (hS : Rd W (· < W.heap.size) (dLockS l) (.slice a l.length c)) :
    Calls Try.prog 13 #[.slice a l.length c, .int .i64 n, .string ⟨s.toArray⟩] W (LvA (leaveL l n s) (leaveT l n s) (leaveC l n s) W) := by
  obtain ⟨e1, e2, e3⟩ := lv_ok (ask_is h hn hs)
  have h9 := leaveLockS l n s a c _ W h.le (by have := nmB_len hs; unfold maxLen; omega) hS
  rw [e1, e2, e3] at h9
  exact h9
theorem obI (h : LksP l) (hn : sesB n = true) (hS : Rd W (· < W.heap.size) (dLockS l) (.slice a l.length c)) :
    Calls Try.prog 17 #[.slice a l.length c, .int .i64 n] W (ObA (ownN l n) W) := by
  have h0 : obC l n = 0 := ask_is h hn name_x
  have e1 : obR l n = ownN l n := by unfold obR; rw [if_pos h0]
  have h9 := ownedByI l n a c _ W h.le hS
  rw [e1, h0] at h9
  exact h9.mono (fun e w' ⟨ra, rc, he, ho, hB⟩ => ⟨ra, rc, he, ho.rd'.mono (fun _ hb => hb.2), hB⟩)
theorem lokI (h : LksP l) (hS : Rd W (· < W.heap.size) (dLockS l) (.slice a l.length c)) :
    Calls Try.prog 16 #[.slice a l.length c] W fun e w' => e = .returned (.bool true) ∧ Below W.heap.size W w' := by
  have h9 := locksI l a c _ W h.le hS
  rw [lks_yes h] at h9
  exact h9
end
theorem textAt {l : List (List UInt8)} {a : Option Addr} {c : Nat} {B : Nat → Prop} {w : World} (h : Rd w B (dStringS l) (.slice a l.length c)) {k : Nat} (hk : k < l.length) : ∃ b off, a = some ⟨b, off, none⟩ ∧ w.cell? ⟨b, off + k, none⟩ = some (.string ⟨l[k].toArray⟩) := by
  obtain ⟨b, off, rfl, hb, -⟩ := Rd.things h k hk
  refine ⟨b, off, rfl, ?_⟩
  obtain ⟨u, hu, r⟩ := Rd.spotT h hk (j := 0) (by omega)
  obtain rfl : u = .string ⟨l[k].toArray⟩ := r
  rw [Nat.add_zero, Nat.mul_one] at hu
  exact hu
end Go.Proofs.Ythpenliecgpedaa
