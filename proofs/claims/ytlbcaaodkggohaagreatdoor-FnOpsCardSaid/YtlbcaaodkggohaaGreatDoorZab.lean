import Derived.Test.YtlbcaaodkggohaaGreatDoorZaa
import Derived.Deep.QuietTactic
import Derived.BigQuiet
import Derived.Deep.RegionWith
import Derived.WalkKit
import Derived.Deep.OwnRows
import Derived.Laws.IdiomStrings
import Derived.Deep.MidRow
namespace Go.Proofs.YtlbcaaodkggohaaGreatDoor
open Go.RowKit
set_option linter.unusedSimpArgs false
variable {W W' : World} {p S : Nat} {a : Option Addr} {l : List UInt8} {c m s : Nat}
set_option maxHeartbeats 800000 in
theorem srcNew (W : World) (hS : S ≤ W.heap.size) (hb : Byts W (· < S) a l) :
  Calls Tryz.prog 10 #[.slice a l.length c] W fun e W' => ∃ s, e = .returned (.pointer (some ⟨W.heap.size, 0, none⟩)) ∧ Src W' W.heap.size S a l c 0 s ∧ Below W.heap.size W W' := by
 obtain ⟨s, hs⟩ : ∃ s : Nat, s = l.length % 1000 := ⟨_, rfl⟩; have t1 : (l.length : Int).tmod 1000 = (s : Int) := by rw [Int.tmod_eq_emod_of_nonneg (by omega)]; omega
 have t2 : IntKind.i64.wrap (s : Int) = (s : Int) := by rw [IntKind.wrap_i64]; omega
 have t3 : IntKind.i64.wrap ((l.length : Int) % 1000) = (s : Int) := by rw [IntKind.wrap_i64]; omega
 have hB : Below W.heap.size W (W.alloc (.cells #[.slice a l.length c, .int .i64 0, .int .i64 (s : Int)] 71)) := (Below.refl _ _).alloc (Nat.le_refl _) _
 have H : Hid (Src (W.alloc (.cells #[.slice a l.length c, .int .i64 0, .int .i64 (s : Int)] 71)) W.heap.size S a l c 0 s ∧ Below W.heap.size W (W.alloc (.cells #[.slice a l.length c, .int .i64 0, .int .i64 (s : Int)] 71))) := by
  refine ⟨⟨?_, by omega, hb.same (fun b h => hB.block b (by omega)) (fun _ h => h), hS⟩, hB⟩; show (W.heap.push _)[W.heap.size]? = _
  simp
 clear hs hb hS hB; (go_enter Tryz.func10, Tryz.ntmps10); (go_wp2_with fail); go_ret; exact ⟨s, rfl, H.out.1, H.out.2⟩
def PickAns (W : World) (p S : Nat) (a : Option Addr) (l : List UInt8) (c m : Nat) (ks : List (List UInt8)) (e : Ending) (W' : World) : Prop := ∃ t s', e = .returned (.string ⟨t.toArray⟩) ∧ t ∈ ks ∧ Src W' p S a l c (m + 1) s' ∧ Frm (· = p) W W'
set_option maxHeartbeats 1600000 in
theorem srcPick (h : Src W p S a l c m s) (hm : m < 1000000) (ks : List (List UInt8)) (B : Nat → Prop) (pk : Option Addr) (ck : Nat) (hk : Strs W B pk ks) (hB : ∀ b, B b → b ≠ p ∧ b < W.heap.size) (h1 : 1 < ks.length) (h2 : ks.length ≤ 256) :
  Calls Tryz.prog 67 #[.pointer (some ⟨p, 0, none⟩), .slice pk ks.length ck] W (PickAns W p S a l c m ks) := by
 rcases hk with hk | ⟨b, off, rfl, hb, hc⟩
 ·
  omega
 have NX := Lib.hid (srcNext h hm ks.length h1 h2); have d1 : ((ks.length : Int) == 0) = false := by rw [beq_eq_false_iff_ne]; omega
 have d2 : (ks.length == 0) = false := by rw [beq_eq_false_iff_ne]; omega
 have HC : Hid (∀ i (hi : i < ks.length), W.cell? ⟨b, off + i, none⟩ = some (.string ⟨ks[i].toArray⟩)) := hc; have HB := Lib.hid (hB b hb); have hne : ks ≠ [] := fun e => by rw [e] at h1; exact absurd h1 (by simp)
 clear h hm h1 h2 hc hB hb; (go_enter Tryz.func67, Tryz.ntmps67); (go_wp2_with fail); refine NX.out.mono ?_; rintro e w1 ⟨r, s', rfl, hr, hS, hF⟩; have HS := Lib.hid hS; have HF := Lib.hid hF
 have hcell : w1.cell? ⟨b, off + r, none⟩ = some (.string ⟨ks[r].toArray⟩) := by
  rw [← HC.out r hr]; simp [World.cell?, hF.block b HB.out.2 HB.out.1]
 have HM : Hid (ks[r] ∈ ks) := List.getElem_mem hr; clear hS hF; generalize ks[r] = t at *; (go_wp2_with fail); go_ret; exact ⟨t, s', rfl, HM.out, HS.out, HF.out⟩
end Go.Proofs.YtlbcaaodkggohaaGreatDoor
namespace Go.Proofs.YtlbcaaodkggohaaGreatDoor
open Go.RowKit
theorem at_l (s : ByteArray) (k : Nat) (h : k < s.size) : s.data.toList[k]'(by simpa using h) = s[k] := rfl
theorem text_long {s : ByteArray} (h : 200 < s.size) : textB s.data.toList = false := by
 unfold textB; have e : s.data.toList.length = s.size := rfl; rw [e, decide_eq_false (by omega)]; rfl
theorem text_char {s : ByteArray} (k : Nat) (h : k < s.size) (hc : charB s[k] = false) : textB s.data.toList = false := by
 unfold textB
 have : s.data.toList.all charB = false := by
  rw [List.all_eq_false]; exact ⟨s[k], by rw [← at_l s k h]; exact List.getElem_mem _, by simp [hc]⟩
 rw [this]; simp
theorem text_all {s : ByteArray} (h : s.size ≤ 200) (ha : ∀ j (hj : j < s.size), charB s[j] = true) : textB s.data.toList = true := by
 unfold textB; have e : s.data.toList.length = s.size := rfl
 have : s.data.toList.all charB = true := by
  rw [List.all_eq_true]; intro c hc; obtain ⟨j, hj, rfl⟩ := List.mem_iff_getElem.1 hc; rw [at_l s j (by simpa using hj)]; exact ha j _
 rw [this, e, decide_eq_true (by omega)]; rfl
theorem char_true {c : UInt8} (h : charB c = true) : 32 ≤ (c.toNat : Int) ∧ (c.toNat : Int) ≤ 126 := by unfold charB at h; exact of_decide_eq_true h
theorem char_false {c : UInt8} (h : charB c = false) : (c.toNat : Int) < 32 ∨ 126 < (c.toNat : Int) := by unfold charB at h; have := of_decide_eq_false h; omega
set_option maxHeartbeats 800000 in
theorem textOKs (s : ByteArray) (w : World) (hs : s.size ≤ maxLen) : Calls Tryz.prog 113 #[.string s] w fun e w' => e = .returned (.bool (textB s.data.toList)) ∧ w' = w := by
 unfold maxLen at hs
 by_cases hz : 200 < s.size
 ·
  have HN : Hid (textB s.data.toList = false) := text_long hz; (go_enter Tryz.func113, Tryz.ntmps113); (go_wp2_with fail); go_ret; exact ⟨ret_b HN.out.symm, rfl⟩
 ·
  have b2 : decide (200 < (s.size : Int)) = false := by simp; omega
  (go_enter Tryz.func113, Tryz.ntmps113); (go_wp2_with fail); go_loop [9] (fun t => ∃ k : Nat, k ≤ s.size ∧ t = .int .i64 k ∧ Hid (∀ j (hj : j < s.size), j < k → charB s[j] = true)) (fun t => s.size - (intOf t).toNat)
  case atStart => exact ⟨0, Nat.zero_le _, rfl, fun j hj h => absurd h (by omega)⟩
  case round =>
   obtain ⟨k, hk, rfl, hall⟩ := hrel
   by_cases hlt : k < s.size
   ·
    cases hc : charB s[k]
    ·
     have HN : Hid (textB s.data.toList = false) := text_char k hlt hc; rcases char_false hc with h1 | h1
     ·
      clear hc; (go_wp2_with fail); go_ret; exact ⟨ret_b HN.out.symm, rfl⟩
     ·
      have h2 : decide ((s[k].toNat : Int) < 32) = false := by simp; omega
      clear hc; (go_wp2_with fail); go_ret; exact ⟨ret_b HN.out.symm, rfl⟩
    ·
     have HC : Hid (charB s[k] = true) := hc; obtain ⟨h1, h2⟩ := char_true hc; clear hc; (go_wp2_with fail); go_round
     case rel => exact ⟨k + 1, by omega, by go_num, fun j hj h => by rcases Nat.lt_succ_iff_lt_or_eq.1 h with h | rfl; exact hall.out j hj h; exact HC.out⟩
     case measure => simp [intOf]; omega
   ·
    have HN : Hid (textB s.data.toList = true) := text_all (by omega) (fun j hj => hall.out j hj (by omega)); (go_wp2_with fail); go_ret; exact ⟨ret_b HN.out.symm, rfl⟩
theorem textOK (t : List UInt8) (w : World) (hs : t.length ≤ maxLen) : Calls Tryz.prog 113 #[.string ⟨t.toArray⟩] w fun e w' => e = .returned (.bool (textB t)) ∧ w' = w :=
 textOKs ⟨t.toArray⟩ w (by show t.toArray.size ≤ maxLen; simpa using hs)
end Go.Proofs.YtlbcaaodkggohaaGreatDoor
namespace Go.Proofs.YtlbcaaodkggohaaGreatDoor
open Go.RowKit
set_option linter.unusedSimpArgs false
set_option maxHeartbeats 400000 in
theorem numberOK (n : Int) (w : World) : Calls Tryz.prog 97 #[.int .i64 n] w fun e w' => e = .returned (.bool (inB (-1000000000) n 1000000000)) ∧ w' = w := by
 (go_enter Tryz.func97, Tryz.ntmps97); go_wp2
 all_goals
  go_ret; refine ⟨ret_b ?_, rfl⟩; rw [Bool.eq_iff_iff]; simp [inB]; try omega
set_option maxHeartbeats 400000 in
theorem inS (n lo hi : Int) (w : World) : Calls Tryz.prog 45 #[.int .i64 n, .int .i64 lo, .int .i64 hi] w fun e w' => e = .returned (.bool (inB lo n hi)) ∧ w' = w := by
 (go_enter Tryz.func45, Tryz.ntmps45); go_wp2
 all_goals
  go_ret; refine ⟨ret_b ?_, rfl⟩; rw [Bool.eq_iff_iff]; simp [inB]; try omega
theorem text_end {s : ByteArray} (ha : ∀ j (hj : j < s.size), charB s[j] = true) : textB s.data.toList = decide ((s.size : Int) ≤ 200) := by
  by_cases h : s.size ≤ 200
  · rw [text_all h ha, decide_eq_true (by omega)]
  · rw [text_long (by omega), decide_eq_false (by omega)]
set_option maxHeartbeats 800000 in
theorem textSs (s : ByteArray) (w : World) (hs : s.size ≤ maxLen) : Calls Tryz.prog 111 #[.string s] w fun e w' => e = .returned (.bool (textB s.data.toList)) ∧ w' = w := by
 unfold maxLen at hs; (go_enter Tryz.func111, Tryz.ntmps111); (go_wp2_with fail); go_loop [3] (fun t => ∃ k : Nat, k ≤ s.size ∧ t = .int .i64 k ∧ Hid (∀ j (hj : j < s.size), j < k → charB s[j] = true)) (fun t => s.size - (intOf t).toNat)
 case atStart => exact ⟨0, Nat.zero_le _, rfl, fun j hj h => absurd h (by omega)⟩
 case round =>
  obtain ⟨k, hk, rfl, hall⟩ := hrel
  by_cases hlt : k < s.size
  ·
   cases hc : charB s[k]
   ·
    have HN : Hid (textB s.data.toList = false) := text_char k hlt hc; rcases char_false hc with h1 | h1
    ·
     clear hc; (go_wp2_with fail); go_ret; exact ⟨ret_b HN.out.symm, rfl⟩
    ·
     have h2 : decide ((s[k].toNat : Int) < 32) = false := by simp; omega
     clear hc; (go_wp2_with fail); go_ret; exact ⟨ret_b HN.out.symm, rfl⟩
   ·
    have HC : Hid (charB s[k] = true) := hc; obtain ⟨h1, h2⟩ := char_true hc; clear hc; (go_wp2_with fail); go_round
    case rel => exact ⟨k + 1, by omega, by go_num, fun j hj h => by rcases Nat.lt_succ_iff_lt_or_eq.1 h with h | rfl; exact hall.out j hj h; exact HC.out⟩
    case measure => simp [intOf]; omega
  ·
   have HN : Hid (textB s.data.toList = decide ((s.size : Int) ≤ 200)) := text_end (fun j hj => hall.out j hj (by omega)); go_wp2_with fail
   all_goals
    go_ret; exact ⟨ret_b HN.out.symm, rfl⟩
theorem textS (t : List UInt8) (w : World) (hs : t.length ≤ maxLen) : Calls Tryz.prog 111 #[.string ⟨t.toArray⟩] w fun e w' => e = .returned (.bool (textB t)) ∧ w' = w :=
 textSs ⟨t.toArray⟩ w (by show t.toArray.size ≤ maxLen; simpa using hs)
end Go.Proofs.YtlbcaaodkggohaaGreatDoor
namespace Go.Proofs.YtlbcaaodkggohaaGreatDoor
structure At where
 k : Int
 n : Int
 t : List UInt8
theorem At.ext' {a b : At} (h1 : a.k = b.k) (h2 : a.n = b.n) (h3 : a.t = b.t) : a = b := by cases a; cases b; simp_all
structure Cl where
 nm : List UInt8
 k : Int
 mn : Int
 mx : Int
 lo : Int
 hi : Int
 rf : List UInt8
 st : Bool
structure Tb where
 nm : List UInt8
 cols : List Cl
 uq : List Int
 rt : Bool
end Go.Proofs.YtlbcaaodkggohaaGreatDoor
namespace Go.Proofs.YtlbcaaodkggohaaGreatDoor
open Go.RowKit
set_option linter.unusedSimpArgs false
def atZ : At := ⟨0, 0, []⟩
def atF (l : List At) (m : Nat) : Value := if m % 3 = 0 then .int .i64 (l.getD (m / 3) atZ).k else if m % 3 = 1 then .int .i64 (l.getD (m / 3) atZ).n else .string ⟨(l.getD (m / 3) atZ).t.toArray⟩
theorem at_getD {l : List At} {i : Nat} (h : i < l.length) : l.getD i atZ = l[i] := by rw [List.getD_eq_getElem?_getD, List.getElem?_eq_getElem h]; rfl
theorem atF0 {l : List At} {i : Nat} (h : i < l.length) : atF l (i * 3) = .int .i64 l[i].k := by
 unfold atF; rw [if_pos (by omega), show i * 3 / 3 = i by omega, at_getD h]
theorem atF1 {l : List At} {i : Nat} (h : i < l.length) : atF l (i * 3 + 1) = .int .i64 l[i].n := by
 unfold atF; rw [if_neg (by omega), if_pos (by omega), show (i * 3 + 1) / 3 = i by omega, at_getD h]
theorem atF2 {l : List At} {i : Nat} (h : i < l.length) : atF l (i * 3 + 2) = .string ⟨l[i].t.toArray⟩ := by
 unfold atF; rw [if_neg (by omega), if_neg (by omega), show (i * 3 + 2) / 3 = i by omega, at_getD h]
def Ats (w : World) (B : Nat → Prop) (a : Option Addr) (l : List At) : Prop :=
 l.length = 0 ∨ ∃ b off, a = some ⟨b, off, none⟩ ∧ B b ∧ ∀ m, m < l.length * 3 → w.cell? ⟨b, off + m, none⟩ = some (atF l m)
def OwnAts (w : World) (B : Nat → Prop) (a : Option Addr) (l : List At) : Prop :=
 l.length = 0 ∨ ∃ b off, a = some ⟨b, off, none⟩ ∧ B b ∧ ∀ m, m < l.length * 3 → w.cell? ⟨b, off + m, none⟩ = some (atF l m) ∧ w.frozen? ⟨b, off + m, none⟩ = false
theorem OwnAts.ats {w : World} {B : Nat → Prop} {a : Option Addr} {l : List At} (h : OwnAts w B a l) : Ats w B a l := by
  rcases h with h | ⟨b, off, ha, hb, hc⟩
  · exact .inl h
  · exact .inr ⟨b, off, ha, hb, fun m hm => (hc m hm).1⟩
theorem Ats.same {w w' : World} {B B' : Nat → Prop} {a : Option Addr} {l : List At} (h : Ats w B a l) (hs : ∀ b, B b → w'.heap[b]? = w.heap[b]?) (hB : ∀ b, B b → B' b) : Ats w' B' a l := by
  rcases h with h | ⟨b, off, ha, hb, hc⟩
  · exact .inl h
  · exact .inr ⟨b, off, ha, hB b hb, fun m hm => by rw [World.cell?_of_block (w := w) (a := ⟨b, off + m, none⟩) (hs b hb)]; exact hc m hm⟩
theorem Ats.below {w w' : World} {S : Nat} {a : Option Addr} {l : List At} (h : Ats w (· < S) a l) (hb : Below S w w') : Ats w' (· < S) a l := h.same (fun b hb' => hb.block b hb') (fun _ h => h)
theorem Ats.inside {w : World} {B : Nat → Prop} {a : Option Addr} {l : List At} (h : Ats w B a l) : Ats w (fun b => B b ∧ b < w.heap.size) a l := by
  rcases h with h | ⟨b, off, ha, hb, hc⟩
  · exact .inl h
  · by_cases h0 : l.length = 0
    · exact .inl h0
    · exact .inr ⟨b, off, ha, ⟨hb, World.block_lt_of_cell? _ _ (hc 0 (by omega))⟩, hc⟩
theorem Ats.later {w w' : World} {B : Nat → Prop} {a : Option Addr} {l : List At} (h : Ats w B a l) (hb : Below w.heap.size w w') : Ats w' B a l := h.inside.same (fun b hb' => hb.block b hb'.2) (fun _ h => h.1)
theorem Ats.item {w : World} {B : Nat → Prop} {a : Option Addr} {l : List At} (h : Ats w B a l) (k : Nat) (hk : k < l.length) :
  ∃ b off, a = some ⟨b, off, none⟩ ∧ B b ∧ w.cell? ⟨b, off + k * 3, none⟩ = some (.int .i64 l[k].k) ∧ w.cell? ⟨b, off + k * 3 + 1, none⟩ = some (.int .i64 l[k].n) ∧ w.cell? ⟨b, off + k * 3 + 2, none⟩ = some (.string ⟨l[k].t.toArray⟩) := by
 rcases h with h | ⟨b, off, ha, hb, hc⟩
 ·
  omega
 ·
  exact ⟨b, off, ha, hb, by rw [hc _ (by omega), atF0 hk], by rw [Nat.add_assoc, hc _ (by omega), atF1 hk], by rw [Nat.add_assoc, hc _ (by omega), atF2 hk]⟩
theorem heap_newA (w : World) (o : Obj) : (w.alloc o).heap[w.heap.size]? = some o := by
 show (w.heap.push o)[w.heap.size]? = _
 simp
theorem heap_keptA {w w' : World} {b : Nat} {o : Obj} (h : w.heap[b]? = some o) (hB : Below w.heap.size w w') : w'.heap[b]? = some o := by
 rw [hB.block b (Array.getElem?_eq_some_iff.1 h).1]; exact h
def szA (l : List At) : Nat := l.length + (l.map (fun x => x.t.length)).sum
theorem infoAt : (Tryz.prog.info? 132).map (fun i => (i.zero, i.size, i.bytes)) = some (some (.agg #[.int .i64 0, .int .i64 0, .string ⟨#[]⟩]), 3, 32) := by kernel_rfl
def zeroAt : Array Value := #[.int .i64 0, .int .i64 0, .string ⟨#[]⟩]
theorem infoAt' : ∃ i, Tryz.prog.info? 132 = some i ∧ i.zero = some (.agg zeroAt) ∧ i.size = 3 ∧ i.bytes = 32 := by
 obtain ⟨i, hi, hzz⟩ := Option.map_eq_some_iff.1 infoAt; simp only [Prod.mk.injEq] at hzz; exact ⟨i, hi, hzz⟩
end Go.Proofs.YtlbcaaodkggohaaGreatDoor
