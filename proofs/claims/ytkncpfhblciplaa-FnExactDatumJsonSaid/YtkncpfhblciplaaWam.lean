import Derived.Test.YtkncpfhblciplaaWai
import Derived.Test.YtkncpfhblciplaaWaj
import Derived.Test.YtkncpfhblciplaaWal
namespace Go.Proofs.Ytkncpfhblciplaa
open Go.RowKit
set_option linter.unusedSimpArgs false
def atZ : At := ⟨0, 0, []⟩
def atF (l : List At) (m : Nat) : Value := if m % 3 = 0 then .int .i64 (l.getD (m / 3) atZ).k else if m % 3 = 1 then .int .i64 (l.getD (m / 3) atZ).n else .string ⟨(l.getD (m / 3) atZ).t.toArray⟩
theorem at_getD {l : List At} {i : Nat} (h : i < l.length) : l.getD i atZ = l[i] := by rw [List.getD_eq_getElem?_getD, List.getElem?_eq_getElem h]; rfl
theorem atF0 {l : List At} {i : Nat} (h : i < l.length) : atF l (i * 3) = .int .i64 l[i].k := by
  unfold atF
  rw [if_pos (by omega), show i * 3 / 3 = i by omega, at_getD h]
theorem atF1 {l : List At} {i : Nat} (h : i < l.length) : atF l (i * 3 + 1) = .int .i64 l[i].n := by
  unfold atF
  rw [if_neg (by omega), if_pos (by omega), show (i * 3 + 1) / 3 = i by omega, at_getD h]
theorem atF2 {l : List At} {i : Nat} (h : i < l.length) : atF l (i * 3 + 2) = .string ⟨l[i].t.toArray⟩ := by
  unfold atF
  rw [if_neg (by omega), if_neg (by omega), show (i * 3 + 2) / 3 = i by omega, at_getD h]
def Ats (w : World) (B : Nat → Prop) (a : Option Addr) (l : List At) : Prop :=
  l.length = 0 ∨ ∃ b off, a = some ⟨b, off, none⟩ ∧ B b ∧ ∀ m, m < l.length * 3 → w.cell? ⟨b, off + m, none⟩ = some (atF l m)
def OwnAts (w : World) (B : Nat → Prop) (a : Option Addr) (l : List At) : Prop :=
  l.length = 0 ∨ ∃ b off, a = some ⟨b, off, none⟩ ∧ B b ∧ ∀ m, m < l.length * 3 → w.cell? ⟨b, off + m, none⟩ = some (atF l m) ∧ w.frozen? ⟨b, off + m, none⟩ = false
theorem OwnAts.ats {w : World} {B : Nat → Prop} {a : Option Addr} {l : List At} (h : OwnAts w B a l) : Ats w B a l := by
  rcases h with h | ⟨b, off, ha, hb, hc⟩
  · exact .inl h
  · exact .inr ⟨b, off, ha, hb, fun m hm => (hc m hm).1⟩
theorem Ats.same {w w' : World} {B B' : Nat → Prop} {a : Option Addr} {l : List At} (h : Ats w B a l) (hs : ∀ b, B b → w'.heap[b]? = w.heap[b]?) (hB : ∀ b, B b → B' b) : Ats w' B' a l := by
  rcases h with h | ⟨b, off, ha, hb, hc⟩
  · exact .inl h
  · exact .inr ⟨b, off, ha, hB b hb, fun m hm => by rw [World.cell?_of_block (w := w) (a := ⟨b, off + m, none⟩) (hs b hb)]; exact hc m hm⟩
theorem OwnAts.same {w w' : World} {B B' : Nat → Prop} {a : Option Addr} {l : List At} (h : OwnAts w B a l) (hs : ∀ b, B b → w'.heap[b]? = w.heap[b]?) (hB : ∀ b, B b → B' b) : OwnAts w' B' a l := by
  rcases h with h | ⟨b, off, ha, hb, hc⟩
  · exact .inl h
  · exact .inr ⟨b, off, ha, hB b hb, fun m hm => by
      rw [World.cell?_of_block (w := w) (a := ⟨b, off + m, none⟩) (hs b hb), World.frozen?_of_block (w := w) (a := ⟨b, off + m, none⟩) (hs b hb)]; exact hc m hm⟩
theorem Ats.any {w : World} {B : Nat → Prop} {a : Option Addr} {l : List At} (h : Ats w B a l) : Ats w (fun _ => True) a l := h.same (fun _ _ => rfl) (fun _ _ => trivial)
theorem Ats.below {w w' : World} {S : Nat} {a : Option Addr} {l : List At} (h : Ats w (· < S) a l) (hb : Below S w w') : Ats w' (· < S) a l := h.same (fun b hb' => hb.block b hb') (fun _ h => h)
theorem Ats.inside {w : World} {B : Nat → Prop} {a : Option Addr} {l : List At} (h : Ats w B a l) : Ats w (fun b => B b ∧ b < w.heap.size) a l := by
  rcases h with h | ⟨b, off, ha, hb, hc⟩
  · exact .inl h
  · by_cases h0 : l.length = 0
    · exact .inl h0
    · exact .inr ⟨b, off, ha, ⟨hb, World.block_lt_of_cell? _ _ (hc 0 (by omega))⟩, hc⟩
theorem OwnAts.inside {w : World} {B : Nat → Prop} {a : Option Addr} {l : List At} (h : OwnAts w B a l) : OwnAts w (fun b => B b ∧ b < w.heap.size) a l := by
  rcases h with h | ⟨b, off, ha, hb, hc⟩
  · exact .inl h
  · by_cases h0 : l.length = 0
    · exact .inl h0
    · exact .inr ⟨b, off, ha, ⟨hb, World.block_lt_of_cell? _ _ (hc 0 (by omega)).1⟩, hc⟩
theorem Ats.later {w w' : World} {B : Nat → Prop} {a : Option Addr} {l : List At} (h : Ats w B a l) (hb : Below w.heap.size w w') : Ats w' B a l := h.inside.same (fun b hb' => hb.block b hb'.2) (fun _ h => h.1)
theorem OwnAts.later {w w' : World} {B : Nat → Prop} {a : Option Addr} {l : List At} (h : OwnAts w B a l) (hb : Below w.heap.size w w') : OwnAts w' B a l := h.inside.same (fun b hb' => hb.block b hb'.2) (fun _ h => h.1)
theorem Ats.item {w : World} {B : Nat → Prop} {a : Option Addr} {l : List At} (h : Ats w B a l) (k : Nat) (hk : k < l.length) :
    ∃ b off, a = some ⟨b, off, none⟩ ∧ B b ∧ w.cell? ⟨b, off + k * 3, none⟩ = some (.int .i64 l[k].k) ∧ w.cell? ⟨b, off + k * 3 + 1, none⟩ = some (.int .i64 l[k].n) ∧ w.cell? ⟨b, off + k * 3 + 2, none⟩ = some (.string ⟨l[k].t.toArray⟩) := by
  rcases h with h | ⟨b, off, ha, hb, hc⟩
  · omega
  · exact ⟨b, off, ha, hb, by rw [hc _ (by omega), atF0 hk], by rw [Nat.add_assoc, hc _ (by omega), atF1 hk], by rw [Nat.add_assoc, hc _ (by omega), atF2 hk]⟩
def szA (l : List At) : Nat := l.length + (l.map (fun x => x.t.length)).sum
set_option maxHeartbeats 800000 in
theorem szAtom (x : At) (L : Int) (w : World) (h0 : 0 ≤ L) (h1 : L ≤ 1048576) (ht : x.t.length ≤ maxLen) :
    Calls Try.prog 8 #[.agg #[.int .i64 x.k, .int .i64 x.n, .string ⟨x.t.toArray⟩], .int .i64 L] w fun e w' => e = .returned (.int .i64 (lessI L x.t.length)) ∧ Below w.heap.size w w' := by
  unfold maxLen at ht
  by_cases hn : L - (x.t.length : Int) < 0
  · have HR : Hid (lessI L x.t.length = -1) := less_no hn
    go_enter Try.func8, Try.ntmps8
    go_wp2_with fail
    go_ret
    exact ⟨ret_i HR.out.symm, (Below.refl _ _).alloc (Nat.le_refl _) _⟩
  · have HR : Hid (lessI L x.t.length = L - x.t.length) := less_yes (by omega)
    go_enter Try.func8, Try.ntmps8
    go_wp2_with fail
    go_ret
    exact ⟨ret_i HR.out.symm, (Below.refl _ _).alloc (Nat.le_refl _) _⟩
set_option maxHeartbeats 1600000 in
theorem szAtoms (l : List At) (a : Option Addr) (c : Nat) (L : Int) (S : Nat) (w : World) (h0 : 0 ≤ L) (h1 : L ≤ 1048576) (hl : l.length ≤ maxLen) (hx : ∀ x ∈ l, x.t.length ≤ maxLen) (hw : S ≤ w.heap.size) (hS : Ats w (· < S) a l) :
    Calls Try.prog 20 #[.slice a l.length c, .int .i64 L] w fun e w' => e = .returned (.int .i64 (lessI L (szA l))) ∧ Below w.heap.size w w' := by
  unfold maxLen at hl
  have HX : Hid (∀ x ∈ l, x.t.length ≤ maxLen) := hx
  have HS : Hid (Ats w (· < S) a l) := hS
  clear hx hS
  by_cases hn : L - (l.length : Int) < 0
  · have HR : Hid (lessI L (szA l) = -1) := by show lessI L (szA l) = -1; unfold lessI szA; rw [if_neg (by omega)]
    go_enter Try.func20, Try.ntmps20
    go_wp2_with fail
    go_ret
    exact ⟨ret_i HR.out.symm, Below.refl _ _⟩
  · go_enter Try.func20, Try.ntmps20
    go_wp2_with fail
    go_loopw [1, 5] (fun t i wr => ∃ k : Nat, k ≤ l.length ∧ i = .int .i64 k ∧ ∃ m : Int, t = .int .i64 m ∧ 0 ≤ m ∧ m ≤ L ∧ Hid (m = L - (l.length + sumTo (fun x => x.t.length) l k : Nat) ∧ Below w.heap.size w wr)) (fun _ i _ => l.length - (intOf i).toNat)
    case atStart => exact ⟨0, Nat.zero_le _, rfl, L - l.length, rfl, by omega, by omega, by show _ = _; rw [sumTo_zero]; omega, Below.refl _ _⟩
    case round =>
      obtain ⟨k, hk, rfl, m, rfl, hm0, hmL, HM⟩ := hrel
      by_cases hlt : k < l.length
      · obtain ⟨b, off, rfl, -, c0, c1, c2⟩ := (HS.out.below (HM.out.2.mono hw)).item k hlt
        have HLX : Hid (l[k].t.length ≤ maxLen) := HX.out _ (List.getElem_mem hlt)
        have HSU : Hid (sumTo (fun x : At => x.t.length) l (k + 1) = sumTo (fun x => x.t.length) l k + l[k].t.length) := sumTo_succ _ _ _ hlt
        have HLE : Hid (sumTo (fun x : At => x.t.length) l (k + 1) ≤ (l.map (fun x => x.t.length)).sum) := sumTo_le _ _ _
        generalize l[k] = x at *
        by_cases hz : m - (x.t.length : Int) < 0
        · have HR : Hid (lessI L (szA l) = -1) := by
            have h1 := HM.out.1; have h2 := HSU.out; have h3 := HLE.out
            show lessI L (szA l) = -1
            unfold lessI szA; rw [if_neg (by omega)]
          have HQ : Hid (lessI m x.t.length = -1) := less_no hz
          go_wp2_with (go_at_call 8; refine (szAtom x m _ hm0 (by omega) HLX.out).mono ?_; rintro e w1 ⟨rfl, hB1⟩; rw [HQ.out])
          go_ret
          exact ⟨ret_i HR.out.symm, HM.out.2.trans (hB1.mono HM.out.2.size)⟩
        · have HQ : Hid (lessI m x.t.length = m - x.t.length) := less_yes (by omega)
          obtain ⟨m', hm'⟩ : ∃ m' : Int, m' = m - x.t.length := ⟨_, rfl⟩
          have hm'0 : 0 ≤ m' := by omega
          have hd : decide (m' < 0) = false := by simp; omega
          have HM' : Hid (m' = m - x.t.length) := hm'
          clear hm'
          go_wp2_with (go_at_call 8; refine (szAtom x m _ hm0 (by omega) HLX.out).mono ?_; rintro e w1 ⟨rfl, hB1⟩; rw [HQ.out, ← HM'.out])
          go_roundw
          case rel =>
            have h1 := HM.out.1; have h2 := HSU.out; have h3 := HM'.out
            exact ⟨k + 1, by omega, by go_num, m', rfl, by omega, by omega, by show _ = _; omega, HM.out.2.trans (hB1.mono HM.out.2.size)⟩
          case measure => simp [intOf]; omega
      · have HR : Hid (lessI L (szA l) = m) := by
          have h1 := HM.out.1
          have hk' : k = l.length := by omega
          rw [hk', sumTo_all] at h1
          show lessI L (szA l) = m
          unfold lessI szA; rw [if_pos (by omega)]; omega
        go_wp2_with fail
        go_ret
        exact ⟨ret_i HR.out.symm, HM.out.2⟩
end Go.Proofs.Ytkncpfhblciplaa
