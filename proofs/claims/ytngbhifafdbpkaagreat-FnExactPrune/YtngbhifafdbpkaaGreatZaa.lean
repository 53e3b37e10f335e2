import Derived.WalkKit
import Derived.Test.YtngbhifafdbpkaaGreatProg
import Derived.Deep.MidRow
import Derived.WalkSpells
import Derived.WalkLawsBesides
import Derived.Deep.OwnRows
import Derived.Deep.QuietTactic
import Derived.BigQuiet
import Derived.Deep.RegionWith
import Derived.Laws.IdiomStrings
namespace Go.Proofs.YtngbhifafdbpkaaGreat
def lessI (left : Int) (n : Nat) : Int := if (n : Int) ≤ left then left - n else -1
def charB (c : UInt8) : Bool := decide (32 ≤ (c.toNat : Int) ∧ (c.toNat : Int) ≤ 126)
def textB (t : List UInt8) : Bool := decide (t.length ≤ 200) && t.all charB
def inB (lo n hi : Int) : Bool := decide (lo ≤ n ∧ n ≤ hi)
def left (room : Int) : Option Nat → Int
  | some n => if (n : Int) ≤ room then room - n else -1
  | none => -1
end Go.Proofs.YtngbhifafdbpkaaGreat
namespace Go.Proofs.YtngbhifafdbpkaaGreat
open Go.RowKit
theorem ret_i {a b : Int} (h : a = b) : Ending.returned (.int .i64 a) = .returned (.int .i64 b) := by rw [h]
theorem ret_b {a b : Bool} (h : a = b) : Ending.returned (.bool a) = .returned (.bool b) := by rw [h]
theorem less_no {L : Int} {n : Nat} (h : L - (n : Int) < 0) : lessI L n = -1 := by unfold lessI; rw [if_neg (by omega)]
theorem less_yes {L : Int} {n : Nat} (h : 0 ≤ L - (n : Int)) : lessI L n = L - n := by unfold lessI; rw [if_pos (by omega)]
end Go.Proofs.YtngbhifafdbpkaaGreat
namespace Go.Proofs.YtngbhifafdbpkaaGreat
open Go.RowKit
theorem three {w w4 : World} {o0 o1 o2 : Obj} (hb : Below (((w.alloc o0).alloc o1).alloc o2).heap.size (((w.alloc o0).alloc o1).alloc o2) w4) :
    w4.heap[w.heap.size]? = some o0 ∧ w4.heap[w.heap.size + 1]? = some o1 ∧ w4.heap[w.heap.size + 1 + 1]? = some o2 ∧ w.heap.size + 1 + 1 + 1 ≤ w4.heap.size ∧ Below w.heap.size w w4 := by
  have hs : (((w.alloc o0).alloc o1).alloc o2).heap.size = w.heap.size + 1 + 1 + 1 := by simp
  have h0 : (((w.alloc o0).alloc o1).alloc o2).heap = ((w.heap.push o0).push o1).push o2 := rfl
  refine ⟨?_, ?_, ?_, ?_, ?_⟩
  · rw [hb.block _ (by omega), h0, Array.getElem?_push, if_neg (by simp; omega), Array.getElem?_push, if_neg (by simp), Array.getElem?_push, if_pos rfl]
  · rw [hb.block _ (by omega), h0, Array.getElem?_push, if_neg (by simp), Array.getElem?_push, if_pos (by simp)]
  · rw [hb.block _ (by omega), h0, Array.getElem?_push, if_pos (by simp)]
  · have := hb.size; omega
  · exact ((((Below.refl _ _).alloc (Nat.le_refl _) _).alloc (by simp) _).alloc (by simp; omega) _).trans (hb.mono (by omega))
theorem cell_at {w : World} {b o : Nat} {cs : Array Value} {t : TypeId} {v : Value} (h : w.heap[b]? = some (.cells cs t)) (hv : cs[o]? = some v) : w.cell? ⟨b, o, none⟩ = some v := by
  simp [World.cell?, h, hv]
theorem frozen_at {w : World} {b : Nat} (o : Nat) {cs : Array Value} {t : TypeId} (h : w.heap[b]? = some (.cells cs t)) : w.frozen? ⟨b, o, none⟩ = false := by
  simp [World.frozen?, h]
theorem heap_set {w : World} {b : Nat} (o : Nat) {cs : Array Value} {t : TypeId} (v : Value) (h : w.heap[b]? = some (.cells cs t)) : (w.setCell ⟨b, o, none⟩ v).heap[b]? = some (.cells (cs.setIfInBounds o v) t) := by
  simp [World.setCell, Array.getElem?_modify, h]
end Go.Proofs.YtngbhifafdbpkaaGreat
namespace Go.Proofs.YtngbhifafdbpkaaGreat
open Go.RowKit
theorem at_l (s : ByteArray) (k : Nat) (h : k < s.size) : s.data.toList[k]'(by simpa using h) = s[k] := rfl
theorem text_long {s : ByteArray} (h : 200 < s.size) : textB s.data.toList = false := by
  unfold textB
  have e : s.data.toList.length = s.size := rfl
  rw [e, decide_eq_false (by omega)]; rfl
theorem text_char {s : ByteArray} (k : Nat) (h : k < s.size) (hc : charB s[k] = false) : textB s.data.toList = false := by
  unfold textB
  have : s.data.toList.all charB = false := by
    rw [List.all_eq_false]; exact ⟨s[k], by rw [← at_l s k h]; exact List.getElem_mem _, by simp [hc]⟩
  rw [this]; simp
theorem text_all {s : ByteArray} (h : s.size ≤ 200) (ha : ∀ j (hj : j < s.size), charB s[j] = true) : textB s.data.toList = true := by
  unfold textB
  have e : s.data.toList.length = s.size := rfl
  have : s.data.toList.all charB = true := by
    rw [List.all_eq_true]; intro c hc
    obtain ⟨j, hj, rfl⟩ := List.mem_iff_getElem.1 hc
    rw [at_l s j (by simpa using hj)]; exact ha j _
  rw [this, e, decide_eq_true (by omega)]; rfl
theorem char_true {c : UInt8} (h : charB c = true) : 32 ≤ (c.toNat : Int) ∧ (c.toNat : Int) ≤ 126 := by unfold charB at h; exact of_decide_eq_true h
theorem char_false {c : UInt8} (h : charB c = false) : (c.toNat : Int) < 32 ∨ 126 < (c.toNat : Int) := by unfold charB at h; have := of_decide_eq_false h; omega
set_option maxHeartbeats 800000 in
theorem textOKs (s : ByteArray) (w : World) (hs : s.size ≤ maxLen) : Calls Tryz.prog 130 #[.string s] w fun e w' => e = .returned (.bool (textB s.data.toList)) ∧ w' = w := by
  unfold maxLen at hs
  by_cases hz : 200 < s.size
  · have HN : Hid (textB s.data.toList = false) := text_long hz
    go_enter Tryz.func130, Tryz.ntmps130
    go_wp2_with fail
    go_ret
    exact ⟨ret_b HN.out.symm, rfl⟩
  · have b2 : decide (200 < (s.size : Int)) = false := by simp; omega
    go_enter Tryz.func130, Tryz.ntmps130
    go_wp2_with fail
    go_loop [9] (fun t => ∃ k : Nat, k ≤ s.size ∧ t = .int .i64 k ∧ Hid (∀ j (hj : j < s.size), j < k → charB s[j] = true)) (fun t => s.size - (intOf t).toNat)
    case atStart => exact ⟨0, Nat.zero_le _, rfl, fun j hj h => absurd h (by omega)⟩
    case round =>
      obtain ⟨k, hk, rfl, hall⟩ := hrel
      by_cases hlt : k < s.size
      · cases hc : charB s[k]
        · have HN : Hid (textB s.data.toList = false) := text_char k hlt hc
          rcases char_false hc with h1 | h1
          · clear hc
            go_wp2_with fail
            go_ret
            exact ⟨ret_b HN.out.symm, rfl⟩
          · have h2 : decide ((s[k].toNat : Int) < 32) = false := by simp; omega
            clear hc
            go_wp2_with fail
            go_ret
            exact ⟨ret_b HN.out.symm, rfl⟩
        · have HC : Hid (charB s[k] = true) := hc
          obtain ⟨h1, h2⟩ := char_true hc
          clear hc
          go_wp2_with fail
          go_round
          case rel => exact ⟨k + 1, by omega, by go_num, fun j hj h => by rcases Nat.lt_succ_iff_lt_or_eq.1 h with h | rfl; exact hall.out j hj h; exact HC.out⟩
          case measure => simp [intOf]; omega
      · have HN : Hid (textB s.data.toList = true) := text_all (by omega) (fun j hj => hall.out j hj (by omega))
        go_wp2_with fail
        go_ret
        exact ⟨ret_b HN.out.symm, rfl⟩
theorem textOK (t : List UInt8) (w : World) (hs : t.length ≤ maxLen) : Calls Tryz.prog 130 #[.string ⟨t.toArray⟩] w fun e w' => e = .returned (.bool (textB t)) ∧ w' = w :=
  textOKs ⟨t.toArray⟩ w (by show t.toArray.size ≤ maxLen; simpa using hs)
end Go.Proofs.YtngbhifafdbpkaaGreat
namespace Go.Proofs.YtngbhifafdbpkaaGreat
open Go.RowKit
set_option linter.unusedSimpArgs false
set_option maxHeartbeats 400000 in
theorem numberOK (n : Int) (w : World) : Calls Tryz.prog 114 #[.int .i64 n] w fun e w' => e = .returned (.bool (inB (-1000000000) n 1000000000)) ∧ w' = w := by
  go_enter Tryz.func114, Tryz.ntmps114
  go_wp2
  all_goals
    go_ret
    refine ⟨ret_b ?_, rfl⟩
    rw [Bool.eq_iff_iff]; simp [inB]; try omega
end Go.Proofs.YtngbhifafdbpkaaGreat
namespace Go.Proofs.YtngbhifafdbpkaaGreat
open Go.RowKit
set_option linter.unusedSimpArgs false
set_option maxHeartbeats 400000 in
theorem inS (n lo hi : Int) (w : World) : Calls Tryz.prog 32 #[.int .i64 n, .int .i64 lo, .int .i64 hi] w fun e w' => e = .returned (.bool (inB lo n hi)) ∧ w' = w := by
  go_enter Tryz.func32, Tryz.ntmps32
  go_wp2
  all_goals
    go_ret
    refine ⟨ret_b ?_, rfl⟩
    rw [Bool.eq_iff_iff]; simp [inB]; try omega
theorem text_end {s : ByteArray} (ha : ∀ j (hj : j < s.size), charB s[j] = true) : textB s.data.toList = decide ((s.size : Int) ≤ 200) := by
  by_cases h : s.size ≤ 200
  · rw [text_all h ha, decide_eq_true (by omega)]
  · rw [text_long (by omega), decide_eq_false (by omega)]
set_option maxHeartbeats 800000 in
theorem textSs (s : ByteArray) (w : World) (hs : s.size ≤ maxLen) : Calls Tryz.prog 110 #[.string s] w fun e w' => e = .returned (.bool (textB s.data.toList)) ∧ w' = w := by
  unfold maxLen at hs
  go_enter Tryz.func110, Tryz.ntmps110
  go_wp2_with fail
  go_loop [3] (fun t => ∃ k : Nat, k ≤ s.size ∧ t = .int .i64 k ∧ Hid (∀ j (hj : j < s.size), j < k → charB s[j] = true)) (fun t => s.size - (intOf t).toNat)
  case atStart => exact ⟨0, Nat.zero_le _, rfl, fun j hj h => absurd h (by omega)⟩
  case round =>
    obtain ⟨k, hk, rfl, hall⟩ := hrel
    by_cases hlt : k < s.size
    · cases hc : charB s[k]
      · have HN : Hid (textB s.data.toList = false) := text_char k hlt hc
        rcases char_false hc with h1 | h1
        · clear hc
          go_wp2_with fail
          go_ret
          exact ⟨ret_b HN.out.symm, rfl⟩
        · have h2 : decide ((s[k].toNat : Int) < 32) = false := by simp; omega
          clear hc
          go_wp2_with fail
          go_ret
          exact ⟨ret_b HN.out.symm, rfl⟩
      · have HC : Hid (charB s[k] = true) := hc
        obtain ⟨h1, h2⟩ := char_true hc
        clear hc
        go_wp2_with fail
        go_round
        case rel => exact ⟨k + 1, by omega, by go_num, fun j hj h => by rcases Nat.lt_succ_iff_lt_or_eq.1 h with h | rfl; exact hall.out j hj h; exact HC.out⟩
        case measure => simp [intOf]; omega
    · have HN : Hid (textB s.data.toList = decide ((s.size : Int) ≤ 200)) := text_end (fun j hj => hall.out j hj (by omega))
      go_wp2_with fail
      all_goals
        go_ret
        exact ⟨ret_b HN.out.symm, rfl⟩
theorem textS (t : List UInt8) (w : World) (hs : t.length ≤ maxLen) : Calls Tryz.prog 110 #[.string ⟨t.toArray⟩] w fun e w' => e = .returned (.bool (textB t)) ∧ w' = w :=
  textSs ⟨t.toArray⟩ w (by show t.toArray.size ≤ maxLen; simpa using hs)
end Go.Proofs.YtngbhifafdbpkaaGreat
namespace Go.Proofs.YtngbhifafdbpkaaGreat
structure At where
  k : Int
  n : Int
  t : List UInt8
theorem At.ext' {a b : At} (h1 : a.k = b.k) (h2 : a.n = b.n) (h3 : a.t = b.t) : a = b := by cases a; cases b; simp_all
structure Cl where
  nm : List UInt8
  k : Int
  mn : Int
  mx : Int
  lo : Int
  hi : Int
  rf : List UInt8
  st : Bool
structure Tb where
  nm : List UInt8
  cols : List Cl
  uq : List Int
  rt : Bool
end Go.Proofs.YtngbhifafdbpkaaGreat
namespace Go.Proofs.YtngbhifafdbpkaaGreat
open Go.RowKit
structure Frm (B : Nat → Prop) (w w' : World) : Prop where
  os : w'.os = w.os
  tape : w'.tape = w.tape
  output : w'.output = w.output
  size : w.heap.size ≤ w'.heap.size
  block : ∀ b, b < w.heap.size → ¬ B b → w'.heap[b]? = w.heap[b]?
theorem Frm.refl (B : Nat → Prop) (w : World) : Frm B w w := ⟨rfl, rfl, rfl, Nat.le_refl _, fun _ _ _ => rfl⟩
theorem Frm.trans {B : Nat → Prop} {a b c : World} (h : Frm B a b) (k : Frm B b c) : Frm B a c :=
  ⟨k.os.trans h.os, k.tape.trans h.tape, k.output.trans h.output, Nat.le_trans h.size k.size, fun i hi hn => (k.block i (Nat.lt_of_lt_of_le hi h.size) hn).trans (h.block i hi hn)⟩
theorem Frm.mono {B B' : Nat → Prop} {w w' : World} (h : Frm B w w') (hB : ∀ b, B b → B' b) : Frm B' w w' := ⟨h.os, h.tape, h.output, h.size, fun b hb hn => h.block b hb (fun h => hn (hB b h))⟩
theorem Frm.of_below {B : Nat → Prop} {w w' : World} (h : Below w.heap.size w w') : Frm B w w' := ⟨h.os, h.tape, h.output, h.size, fun b hb _ => h.block b hb⟩
theorem Frm.below {B : Nat → Prop} {w w' : World} {S : Nat} (h : Frm B w w') (hS : S ≤ w.heap.size) (hB : ∀ b, b < S → ¬ B b) : Below S w w' := ⟨h.os, h.tape, h.output, h.size, fun b hb => h.block b (by omega) (hB b hb)⟩
theorem Frm.set {B : Nat → Prop} {a w : World} (h : Frm B a w) {b o : Nat} (hb : B b) (v : Value) : Frm B a (w.setCell ⟨b, o, none⟩ v) :=
  h.trans ⟨rfl, rfl, rfl, by simp [World.setCell], fun c _ hn => Below.heap_setCell _ _ _ _ (by intro e; exact hn (e ▸ hb))⟩
end Go.Proofs.YtngbhifafdbpkaaGreat
namespace Go.Proofs.YtngbhifafdbpkaaGreat
open Go.RowKit
set_option linter.unusedSimpArgs false
theorem cell_new (w : World) {cs : Array Value} {t : TypeId} {o : Nat} {v : Value} (h : cs[o]? = some v) : (w.alloc (.cells cs t)).cell? ⟨w.heap.size, o, none⟩ = some v := by
  have e : (w.alloc (.cells cs t)).heap[w.heap.size]? = some (.cells cs t) := by show (w.heap.push _)[w.heap.size]? = _; simp
  unfold World.cell?; rw [e]; exact h
theorem str_cons (c : UInt8) (out : List UInt8) : (ByteArray.mk #[c] ++ ByteArray.mk out.toArray : ByteArray) = ⟨(c :: out).toArray⟩ := by
  apply ByteArray.ext; simp
def dg : Nat → Nat → List UInt8 → List UInt8
  | 0, _, acc => acc
  | f + 1, k, acc => if k = 0 then acc else dg f (k / 10) (UInt8.ofNat (48 + k % 10) :: acc)
theorem dg_zero (f : Nat) (acc : List UInt8) : dg f 0 acc = acc := by cases f <;> simp [dg]
theorem dg_step (f k : Nat) (acc : List UInt8) (h : 0 < k) : dg (f + 1) k acc = dg f (k / 10) (UInt8.ofNat (48 + k % 10) :: acc) := by
  rw [dg, if_neg (by omega)]
def mt (k : Nat) : List UInt8 := 109 :: dg 20 k []
set_option maxHeartbeats 800000 in
theorem markText (k : Nat) (w : World) (h0 : 0 < k) (h1 : k < 1000000000000) :
    Calls Tryz.prog 52 #[.int .i64 k] w fun e w' => e = .returned (.string ⟨(mt k).toArray⟩) ∧ Below w.heap.size w w' := by
  have hk : ¬ (k : Int) ≤ 0 := by omega
  have hk' : decide ((k : Int) ≤ 0) = false := by simp; omega
  go_enter Tryz.func52, Tryz.ntmps52
  go_wp2_with fail
  go_loopw [0, 3] (fun a o wr => ∃ m f : Nat, ∃ out : List UInt8, a = .int .i64 m ∧ m ≤ k ∧ o = .string ⟨out.toArray⟩ ∧ m < 10 ^ f ∧ f ≤ 20 ∧ Hid (dg f m out = dg 20 k []) ∧ out.length + f ≤ 20 ∧ Below w.heap.size w wr) (fun a _ _ => (intOf a).toNat)
  case atStart => exact ⟨k, 20, [], rfl, Nat.le_refl _, rfl, by omega, by omega, rfl, by simp, Below.refl _ _⟩
  case round =>
    obtain ⟨m, f, out, rfl, hm, rfl, hf, hf20, HD, hlen, hB⟩ := hrel
    by_cases hz : 0 < m
    · have hzi : (0 : Int) < (m : Int) := by omega
      have hby : (UInt8.ofNat (48 + m % 10)).toNat = 48 + m % 10 := by rw [UInt8.toNat_ofNat']; omega
      have hconv : (convert 130 9 (.slice (some ⟨wr.heap.size, 0, none⟩) 1 1)).run Tryz.prog (wr.alloc (.cells #[.int .u8 (48 + (m : Int) % 10)] 5)) = .ok (.string ⟨#[UInt8.ofNat (48 + m % 10)]⟩) (wr.alloc (.cells #[.int .u8 (48 + (m : Int) % 10)] 5)) :=
        run_convert_bytes_back (P := Tryz.prog) (wr.alloc (.cells #[.int .u8 (48 + (m : Int) % 10)] 5)) 130 9 5 ⟨wr.heap.size, 0, none⟩ 1 [UInt8.ofNat (48 + m % 10)] Tryz.underlying130 Tryz.underlying5 Tryz.underlying9 (fun j hj => by
          have : j = 0 := by simpa using hj
          subst this
          rw [Addr.add_mid]
          refine (cell_new _ rfl).trans ?_
          simp only [List.getElem_cons_zero, hby]
          congr 2)
      clear hby
      obtain ⟨f', hf'⟩ : ∃ f', f = f' + 1 := ⟨f - 1, by
        have : f ≠ 0 := by intro e; subst e; simp at hf; omega
        omega⟩
      have HS : Hid (dg f' (m / 10) (UInt8.ofNat (48 + m % 10) :: out) = dg 20 k []) := by
        have := HD.out
        rw [hf', dg_step f' m out hz] at this
        exact this
      have hq : m / 10 < 10 ^ f' := by rw [hf', Nat.pow_succ] at hf; omega
      have hl' : out.length + 1 + f' ≤ 20 := by omega
      clear hf' hf HD
      go_wp2_with fail
      refine ⟨⟨m / 10, f', UInt8.ofNat (48 + m % 10) :: out, rfl, by omega, ?_, hq, by omega, HS.out, by simp; omega, hB.alloc hB.size _⟩, ?_⟩
      · rw [show UInt8.ofNat (48 + m % 10) = 48 + UInt8.ofNat (m % 10) from by simp]
        exact congrArg Value.string (str_cons _ _)
      · simp [intOf]; omega
    · have hz' : m = 0 := by omega
      have HE : Hid (out = dg 20 k []) := by
        have := HD.out
        rw [hz', dg_zero] at this
        exact this
      have hm0 : ¬ (0 : Int) < (m : Int) := by omega
      clear hz'
      go_wp2_with fail
      go_ret
      refine ⟨?_, hB⟩
      unfold mt
      rw [← HE.out]
      exact congrArg (fun x => Ending.returned (.string x)) (str_cons _ _)
end Go.Proofs.YtngbhifafdbpkaaGreat
