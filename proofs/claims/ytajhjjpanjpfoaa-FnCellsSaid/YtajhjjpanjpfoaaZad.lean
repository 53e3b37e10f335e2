import Derived.Test.YtajhjjpanjpfoaaZac
import Derived.WalkKit
import Derived.Test.YtajhjjpanjpfoaaZaa
import Derived.Deep.OwnRows
import Derived.Laws.IdiomStrings
import Derived.Deep.MidRow
import Derived.Deep.QuietTactic
import Derived.BigQuiet
import Derived.Deep.RegionWith
namespace Go.Proofs.Ytajhjjpanjpfoaa
open Go.RowKit
set_option linter.unusedSimpArgs false
set_option maxHeartbeats 400000 in
theorem numberOK (n : Int) (w : World) : Calls Try.prog 54 #[.int .i64 n] w fun e w' => e = .returned (.bool (inB (-1000000000) n 1000000000)) ∧ w' = w := by
  go_enter Try.func54, Try.ntmps54
  go_wp2
  all_goals
    go_ret
    refine ⟨ret_b ?_, rfl⟩
    rw [Bool.eq_iff_iff]; simp [inB]; try omega
end Go.Proofs.Ytajhjjpanjpfoaa
namespace Go.Proofs.Ytajhjjpanjpfoaa
open Go.RowKit
set_option linter.unusedSimpArgs false
set_option maxHeartbeats 400000 in
theorem inS (n lo hi : Int) (w : World) : Calls Try.prog 64 #[.int .i64 n, .int .i64 lo, .int .i64 hi] w fun e w' => e = .returned (.bool (inB lo n hi)) ∧ w' = w := by
  go_enter Try.func64, Try.ntmps64
  go_wp2
  all_goals
    go_ret
    refine ⟨ret_b ?_, rfl⟩
    rw [Bool.eq_iff_iff]; simp [inB]; try omega
theorem text_end {s : ByteArray} (ha : ∀ j (hj : j < s.size), charB s[j] = true) : textB s.data.toList = decide ((s.size : Int) ≤ 200) := by
  by_cases h : s.size ≤ 200
  · rw [text_all h ha, decide_eq_true (by omega)]
  · rw [text_long (by omega), decide_eq_false (by omega)]
set_option maxHeartbeats 800000 in
theorem textSs (s : ByteArray) (w : World) (hs : s.size ≤ maxLen) : Calls Try.prog 75 #[.string s] w fun e w' => e = .returned (.bool (textB s.data.toList)) ∧ w' = w := by
  unfold maxLen at hs
  go_enter Try.func75, Try.ntmps75
  go_wp2_with fail
  go_loop [3] (fun t => ∃ k : Nat, k ≤ s.size ∧ t = .int .i64 k ∧ Hid (∀ j (hj : j < s.size), j < k → charB s[j] = true)) (fun t => s.size - (intOf t).toNat)
  case atStart => exact ⟨0, Nat.zero_le _, rfl, fun j hj h => absurd h (by omega)⟩
  case round =>
    obtain ⟨k, hk, rfl, hall⟩ := hrel
    by_cases hlt : k < s.size
    · cases hc : charB s[k]
      · have HN : Hid (textB s.data.toList = false) := text_char k hlt hc
        rcases char_false hc with h1 | h1
        · clear hc
          go_wp2_with fail
          go_ret
          exact ⟨ret_b HN.out.symm, rfl⟩
        · have h2 : decide ((s[k].toNat : Int) < 32) = false := by simp; omega
          clear hc
          go_wp2_with fail
          go_ret
          exact ⟨ret_b HN.out.symm, rfl⟩
      · have HC : Hid (charB s[k] = true) := hc
        obtain ⟨h1, h2⟩ := char_true hc
        clear hc
        go_wp2_with fail
        go_round
        case rel => exact ⟨k + 1, by omega, by go_num, fun j hj h => by rcases Nat.lt_succ_iff_lt_or_eq.1 h with h | rfl; exact hall.out j hj h; exact HC.out⟩
        case measure => simp [intOf]; omega
    · have HN : Hid (textB s.data.toList = decide ((s.size : Int) ≤ 200)) := text_end (fun j hj => hall.out j hj (by omega))
      go_wp2_with fail
      all_goals
        go_ret
        exact ⟨ret_b HN.out.symm, rfl⟩
theorem textS (t : List UInt8) (w : World) (hs : t.length ≤ maxLen) : Calls Try.prog 75 #[.string ⟨t.toArray⟩] w fun e w' => e = .returned (.bool (textB t)) ∧ w' = w :=
  textSs ⟨t.toArray⟩ w (by show t.toArray.size ≤ maxLen; simpa using hs)
end Go.Proofs.Ytajhjjpanjpfoaa
namespace Go.Proofs.Ytajhjjpanjpfoaa
structure At where
  k : Int
  n : Int
  t : List UInt8
theorem At.ext' {a b : At} (h1 : a.k = b.k) (h2 : a.n = b.n) (h3 : a.t = b.t) : a = b := by cases a; cases b; simp_all
structure Cl where
  nm : List UInt8
  k : Int
  mn : Int
  mx : Int
  lo : Int
  hi : Int
  rf : List UInt8
  st : Bool
structure Tb where
  nm : List UInt8
  cols : List Cl
  uq : List Int
  rt : Bool
end Go.Proofs.Ytajhjjpanjpfoaa
namespace Go.Proofs.Ytajhjjpanjpfoaa
open Go.RowKit
set_option linter.unusedSimpArgs false
def atC (x : At) : List Value := [.int .i64 x.k, .int .i64 x.n, .string ⟨x.t.toArray⟩]
def atZ : At := ⟨0, 0, []⟩
def atF (l : List At) (m : Nat) : Value := if m % 3 = 0 then .int .i64 (l.getD (m / 3) atZ).k else if m % 3 = 1 then .int .i64 (l.getD (m / 3) atZ).n else .string ⟨(l.getD (m / 3) atZ).t.toArray⟩
theorem at_getD {l : List At} {i : Nat} (h : i < l.length) : l.getD i atZ = l[i] := by rw [List.getD_eq_getElem?_getD, List.getElem?_eq_getElem h]; rfl
theorem atF0 {l : List At} {i : Nat} (h : i < l.length) : atF l (i * 3) = .int .i64 l[i].k := by
  unfold atF
  rw [if_pos (by omega), show i * 3 / 3 = i by omega, at_getD h]
theorem atF1 {l : List At} {i : Nat} (h : i < l.length) : atF l (i * 3 + 1) = .int .i64 l[i].n := by
  unfold atF
  rw [if_neg (by omega), if_pos (by omega), show (i * 3 + 1) / 3 = i by omega, at_getD h]
theorem atF2 {l : List At} {i : Nat} (h : i < l.length) : atF l (i * 3 + 2) = .string ⟨l[i].t.toArray⟩ := by
  unfold atF
  rw [if_neg (by omega), if_neg (by omega), show (i * 3 + 2) / 3 = i by omega, at_getD h]
def Ats (w : World) (B : Nat → Prop) (a : Option Addr) (l : List At) : Prop :=
  l.length = 0 ∨ ∃ b off, a = some ⟨b, off, none⟩ ∧ B b ∧ ∀ m, m < l.length * 3 → w.cell? ⟨b, off + m, none⟩ = some (atF l m)
def OwnAts (w : World) (B : Nat → Prop) (a : Option Addr) (l : List At) : Prop :=
  l.length = 0 ∨ ∃ b off, a = some ⟨b, off, none⟩ ∧ B b ∧ ∀ m, m < l.length * 3 → w.cell? ⟨b, off + m, none⟩ = some (atF l m) ∧ w.frozen? ⟨b, off + m, none⟩ = false
theorem OwnAts.ats {w : World} {B : Nat → Prop} {a : Option Addr} {l : List At} (h : OwnAts w B a l) : Ats w B a l := by
  rcases h with h | ⟨b, off, ha, hb, hc⟩
  · exact .inl h
  · exact .inr ⟨b, off, ha, hb, fun m hm => (hc m hm).1⟩
theorem Ats.same {w w' : World} {B B' : Nat → Prop} {a : Option Addr} {l : List At} (h : Ats w B a l) (hs : ∀ b, B b → w'.heap[b]? = w.heap[b]?) (hB : ∀ b, B b → B' b) : Ats w' B' a l := by
  rcases h with h | ⟨b, off, ha, hb, hc⟩
  · exact .inl h
  · exact .inr ⟨b, off, ha, hB b hb, fun m hm => by rw [World.cell?_of_block (w := w) (a := ⟨b, off + m, none⟩) (hs b hb)]; exact hc m hm⟩
theorem OwnAts.same {w w' : World} {B B' : Nat → Prop} {a : Option Addr} {l : List At} (h : OwnAts w B a l) (hs : ∀ b, B b → w'.heap[b]? = w.heap[b]?) (hB : ∀ b, B b → B' b) : OwnAts w' B' a l := by
  rcases h with h | ⟨b, off, ha, hb, hc⟩
  · exact .inl h
  · exact .inr ⟨b, off, ha, hB b hb, fun m hm => by
      rw [World.cell?_of_block (w := w) (a := ⟨b, off + m, none⟩) (hs b hb), World.frozen?_of_block (w := w) (a := ⟨b, off + m, none⟩) (hs b hb)]; exact hc m hm⟩
theorem Ats.any {w : World} {B : Nat → Prop} {a : Option Addr} {l : List At} (h : Ats w B a l) : Ats w (fun _ => True) a l := h.same (fun _ _ => rfl) (fun _ _ => trivial)
theorem Ats.below {w w' : World} {S : Nat} {a : Option Addr} {l : List At} (h : Ats w (· < S) a l) (hb : Below S w w') : Ats w' (· < S) a l := h.same (fun b hb' => hb.block b hb') (fun _ h => h)
theorem Ats.inside {w : World} {B : Nat → Prop} {a : Option Addr} {l : List At} (h : Ats w B a l) : Ats w (fun b => B b ∧ b < w.heap.size) a l := by
  rcases h with h | ⟨b, off, ha, hb, hc⟩
  · exact .inl h
  · by_cases h0 : l.length = 0
    · exact .inl h0
    · exact .inr ⟨b, off, ha, ⟨hb, World.block_lt_of_cell? _ _ (hc 0 (by omega))⟩, hc⟩
theorem OwnAts.inside {w : World} {B : Nat → Prop} {a : Option Addr} {l : List At} (h : OwnAts w B a l) : OwnAts w (fun b => B b ∧ b < w.heap.size) a l := by
  rcases h with h | ⟨b, off, ha, hb, hc⟩
  · exact .inl h
  · by_cases h0 : l.length = 0
    · exact .inl h0
    · exact .inr ⟨b, off, ha, ⟨hb, World.block_lt_of_cell? _ _ (hc 0 (by omega)).1⟩, hc⟩
theorem Ats.later {w w' : World} {B : Nat → Prop} {a : Option Addr} {l : List At} (h : Ats w B a l) (hb : Below w.heap.size w w') : Ats w' B a l := h.inside.same (fun b hb' => hb.block b hb'.2) (fun _ h => h.1)
theorem OwnAts.later {w w' : World} {B : Nat → Prop} {a : Option Addr} {l : List At} (h : OwnAts w B a l) (hb : Below w.heap.size w w') : OwnAts w' B a l := h.inside.same (fun b hb' => hb.block b hb'.2) (fun _ h => h.1)
theorem Ats.item {w : World} {B : Nat → Prop} {a : Option Addr} {l : List At} (h : Ats w B a l) (k : Nat) (hk : k < l.length) :
    ∃ b off, a = some ⟨b, off, none⟩ ∧ B b ∧ w.cell? ⟨b, off + k * 3, none⟩ = some (.int .i64 l[k].k) ∧ w.cell? ⟨b, off + k * 3 + 1, none⟩ = some (.int .i64 l[k].n) ∧ w.cell? ⟨b, off + k * 3 + 2, none⟩ = some (.string ⟨l[k].t.toArray⟩) := by
  rcases h with h | ⟨b, off, ha, hb, hc⟩
  · omega
  · exact ⟨b, off, ha, hb, by rw [hc _ (by omega), atF0 hk], by rw [Nat.add_assoc, hc _ (by omega), atF1 hk], by rw [Nat.add_assoc, hc _ (by omega), atF2 hk]⟩
theorem heap_newA (w : World) (o : Obj) : (w.alloc o).heap[w.heap.size]? = some o := by
  show (w.heap.push o)[w.heap.size]? = _
  simp
theorem heap_keptA {w w' : World} {b : Nat} {o : Obj} (h : w.heap[b]? = some o) (hB : Below w.heap.size w w') : w'.heap[b]? = some o := by
  rw [hB.block b (Array.getElem?_eq_some_iff.1 h).1]; exact h
end Go.Proofs.Ytajhjjpanjpfoaa
namespace Go.Proofs.Ytajhjjpanjpfoaa
open Go.RowKit
set_option linter.unusedSimpArgs false
theorem infoAt : (Try.prog.info? 51).map (fun i => (i.zero, i.size, i.bytes)) = some (some (.agg #[.int .i64 0, .int .i64 0, .string ⟨#[]⟩]), 3, 32) := by kernel_rfl
def zeroAt : Array Value := #[.int .i64 0, .int .i64 0, .string ⟨#[]⟩]
theorem infoAt' : ∃ i, Try.prog.info? 51 = some i ∧ i.zero = some (.agg zeroAt) ∧ i.size = 3 ∧ i.bytes = 32 := by
  obtain ⟨i, hi, hzz⟩ := Option.map_eq_some_iff.1 infoAt
  simp only [Prod.mk.injEq] at hzz
  exact ⟨i, hi, hzz⟩
end Go.Proofs.Ytajhjjpanjpfoaa
