import Derived.Test.YtajhjjpanjpfoaaZab
import Derived.Test.YtajhjjpanjpfoaaZaa
import Derived.Deep.QuietTactic
import Derived.BigQuiet
import Derived.Deep.RegionWith
namespace Go.Proofs.Ytajhjjpanjpfoaa
open Go.RowKit
set_option linter.unusedSimpArgs false
variable {W W' : World} {p S : Nat} {a : Option Addr} {l : List UInt8} {c m s : Nat}
set_option maxHeartbeats 800000 in
theorem srcNew (W : World) (hS : S ≤ W.heap.size) (hb : Byts W (· < S) a l) :
    Calls Try.prog 17 #[.slice a l.length c] W fun e W' => ∃ s, e = .returned (.pointer (some ⟨W.heap.size, 0, none⟩)) ∧ Src W' W.heap.size S a l c 0 s ∧ Below W.heap.size W W' := by
  obtain ⟨s, hs⟩ : ∃ s : Nat, s = l.length % 1000 := ⟨_, rfl⟩
  have t1 : (l.length : Int).tmod 1000 = (s : Int) := by rw [Int.tmod_eq_emod_of_nonneg (by omega)]; omega
  have t2 : IntKind.i64.wrap (s : Int) = (s : Int) := by rw [IntKind.wrap_i64]; omega
  have t3 : IntKind.i64.wrap ((l.length : Int) % 1000) = (s : Int) := by rw [IntKind.wrap_i64]; omega
  have hB : Below W.heap.size W (W.alloc (.cells #[.slice a l.length c, .int .i64 0, .int .i64 (s : Int)] 73)) := (Below.refl _ _).alloc (Nat.le_refl _) _
  have H : Hid (Src (W.alloc (.cells #[.slice a l.length c, .int .i64 0, .int .i64 (s : Int)] 73)) W.heap.size S a l c 0 s ∧ Below W.heap.size W (W.alloc (.cells #[.slice a l.length c, .int .i64 0, .int .i64 (s : Int)] 73))) := by
    refine ⟨⟨?_, by omega, hb.same (fun b h => hB.block b (by omega)) (fun _ h => h), hS⟩, hB⟩
    show (W.heap.push _)[W.heap.size]? = _
    simp
  clear hs hb hS hB
  go_enter Try.func17, Try.ntmps17
  go_wp2_with fail
  go_ret
  exact ⟨s, rfl, H.out.1, H.out.2⟩
def PickAns (W : World) (p S : Nat) (a : Option Addr) (l : List UInt8) (c m : Nat) (ks : List (List UInt8)) (e : Ending) (W' : World) : Prop := ∃ t s', e = .returned (.string ⟨t.toArray⟩) ∧ t ∈ ks ∧ Src W' p S a l c (m + 1) s' ∧ Frm (· = p) W W'
set_option maxHeartbeats 1600000 in
theorem srcPick (h : Src W p S a l c m s) (hm : m < 1000000) (ks : List (List UInt8)) (B : Nat → Prop) (pk : Option Addr) (ck : Nat) (hk : Strs W B pk ks) (hB : ∀ b, B b → b ≠ p ∧ b < W.heap.size) (h1 : 1 < ks.length) (h2 : ks.length ≤ 256) :
    Calls Try.prog 38 #[.pointer (some ⟨p, 0, none⟩), .slice pk ks.length ck] W (PickAns W p S a l c m ks) := by
  rcases hk with hk | ⟨b, off, rfl, hb, hc⟩
  · omega
  have NX := Lib.hid (srcNext h hm ks.length h1 h2)
  have d1 : ((ks.length : Int) == 0) = false := by rw [beq_eq_false_iff_ne]; omega
  have d2 : (ks.length == 0) = false := by rw [beq_eq_false_iff_ne]; omega
  have HC : Hid (∀ i (hi : i < ks.length), W.cell? ⟨b, off + i, none⟩ = some (.string ⟨ks[i].toArray⟩)) := hc
  have HB := Lib.hid (hB b hb)
  have hne : ks ≠ [] := fun e => by rw [e] at h1; exact absurd h1 (by simp)
  clear h hm h1 h2 hc hB hb
  go_enter Try.func38, Try.ntmps38
  go_wp2_with fail
  refine NX.out.mono ?_
  rintro e w1 ⟨r, s', rfl, hr, hS, hF⟩
  have HS := Lib.hid hS
  have HF := Lib.hid hF
  have hcell : w1.cell? ⟨b, off + r, none⟩ = some (.string ⟨ks[r].toArray⟩) := by
    rw [← HC.out r hr]
    simp [World.cell?, hF.block b HB.out.2 HB.out.1]
  have HM : Hid (ks[r] ∈ ks) := List.getElem_mem hr
  clear hS hF
  generalize ks[r] = t at *
  go_wp2_with fail
  go_ret
  exact ⟨t, s', rfl, HM.out, HS.out, HF.out⟩
end Go.Proofs.Ytajhjjpanjpfoaa
namespace Go.Proofs.Ytajhjjpanjpfoaa
open Go.RowKit
theorem at_l (s : ByteArray) (k : Nat) (h : k < s.size) : s.data.toList[k]'(by simpa using h) = s[k] := rfl
theorem text_long {s : ByteArray} (h : 200 < s.size) : textB s.data.toList = false := by
  unfold textB
  have e : s.data.toList.length = s.size := rfl
  rw [e, decide_eq_false (by omega)]; rfl
theorem text_char {s : ByteArray} (k : Nat) (h : k < s.size) (hc : charB s[k] = false) : textB s.data.toList = false := by
  unfold textB
  have : s.data.toList.all charB = false := by
    rw [List.all_eq_false]; exact ⟨s[k], by rw [← at_l s k h]; exact List.getElem_mem _, by simp [hc]⟩
  rw [this]; simp
theorem text_all {s : ByteArray} (h : s.size ≤ 200) (ha : ∀ j (hj : j < s.size), charB s[j] = true) : textB s.data.toList = true := by
  unfold textB
  have e : s.data.toList.length = s.size := rfl
  have : s.data.toList.all charB = true := by
    rw [List.all_eq_true]; intro c hc
    obtain ⟨j, hj, rfl⟩ := List.mem_iff_getElem.1 hc
    rw [at_l s j (by simpa using hj)]; exact ha j _
  rw [this, e, decide_eq_true (by omega)]; rfl
theorem char_true {c : UInt8} (h : charB c = true) : 32 ≤ (c.toNat : Int) ∧ (c.toNat : Int) ≤ 126 := by unfold charB at h; exact of_decide_eq_true h
theorem char_false {c : UInt8} (h : charB c = false) : (c.toNat : Int) < 32 ∨ 126 < (c.toNat : Int) := by unfold charB at h; have := of_decide_eq_false h; omega
set_option maxHeartbeats 800000 in
theorem textOKs (s : ByteArray) (w : World) (hs : s.size ≤ maxLen) : Calls Try.prog 81 #[.string s] w fun e w' => e = .returned (.bool (textB s.data.toList)) ∧ w' = w := by
  unfold maxLen at hs
  by_cases hz : 200 < s.size
  · have HN : Hid (textB s.data.toList = false) := text_long hz
    go_enter Try.func81, Try.ntmps81
    go_wp2_with fail
    go_ret
    exact ⟨ret_b HN.out.symm, rfl⟩
  · have b2 : decide (200 < (s.size : Int)) = false := by simp; omega
    go_enter Try.func81, Try.ntmps81
    go_wp2_with fail
    go_loop [9] (fun t => ∃ k : Nat, k ≤ s.size ∧ t = .int .i64 k ∧ Hid (∀ j (hj : j < s.size), j < k → charB s[j] = true)) (fun t => s.size - (intOf t).toNat)
    case atStart => exact ⟨0, Nat.zero_le _, rfl, fun j hj h => absurd h (by omega)⟩
    case round =>
      obtain ⟨k, hk, rfl, hall⟩ := hrel
      by_cases hlt : k < s.size
      · cases hc : charB s[k]
        · have HN : Hid (textB s.data.toList = false) := text_char k hlt hc
          rcases char_false hc with h1 | h1
          · clear hc
            go_wp2_with fail
            go_ret
            exact ⟨ret_b HN.out.symm, rfl⟩
          · have h2 : decide ((s[k].toNat : Int) < 32) = false := by simp; omega
            clear hc
            go_wp2_with fail
            go_ret
            exact ⟨ret_b HN.out.symm, rfl⟩
        · have HC : Hid (charB s[k] = true) := hc
          obtain ⟨h1, h2⟩ := char_true hc
          clear hc
          go_wp2_with fail
          go_round
          case rel => exact ⟨k + 1, by omega, by go_num, fun j hj h => by rcases Nat.lt_succ_iff_lt_or_eq.1 h with h | rfl; exact hall.out j hj h; exact HC.out⟩
          case measure => simp [intOf]; omega
      · have HN : Hid (textB s.data.toList = true) := text_all (by omega) (fun j hj => hall.out j hj (by omega))
        go_wp2_with fail
        go_ret
        exact ⟨ret_b HN.out.symm, rfl⟩
theorem textOK (t : List UInt8) (w : World) (hs : t.length ≤ maxLen) : Calls Try.prog 81 #[.string ⟨t.toArray⟩] w fun e w' => e = .returned (.bool (textB t)) ∧ w' = w :=
  textOKs ⟨t.toArray⟩ w (by show t.toArray.size ≤ maxLen; simpa using hs)
end Go.Proofs.Ytajhjjpanjpfoaa
