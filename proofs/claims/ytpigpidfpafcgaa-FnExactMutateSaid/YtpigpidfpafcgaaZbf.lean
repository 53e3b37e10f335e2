import Derived.Test.YtpigpidfpafcgaaZbd
import Derived.Test.YtpigpidfpafcgaaZbe
import Derived.Test.YtpigpidfpafcgaaZba
import Derived.Test.YtpigpidfpafcgaaZac
import Derived.Deep.RegionHeld3
import Derived.Test.YtpigpidfpafcgaaZax
import Derived.Test.YtpigpidfpafcgaaZag
import Derived.Test.YtpigpidfpafcgaaZai
namespace Go.Proofs.Ytpigpidfpafcgaa
open Go.RowKit
set_option linter.unusedSimpArgs false
def dColumn (x : Cl) : Nat → D
  | 0 => .s x.nm
  | 1 => .i x.k
  | 2 => .i x.mn
  | 3 => .i x.mx
  | 4 => .i x.lo
  | 5 => .i x.hi
  | 6 => .s x.rf
  | _ => .b x.st
theorem szT_Column (x : Cl) : szT 8 (dColumn x) = x.nm.length + x.rf.length := by simp [szT, sumN, dColumn, D.sz]
set_option maxHeartbeats 1600000 in
theorem szDColumn (x : Cl) (L : Int) (_B : Nat → Prop) (w : World) (h0 : 0 ≤ L) (h1 : L ≤ 1048576) (ho : ∀ j, j < 8 → (dColumn x j).le maxLen) :
    Calls Try.prog 4 #[.agg #[.string ⟨x.nm.toArray⟩, .int .i64 x.k, .int .i64 x.mn, .int .i64 x.mx, .int .i64 x.lo, .int .i64 x.hi, .string ⟨x.rf.toArray⟩, .bool x.st], .int .i64 L] w fun e w' => e = .returned (.int .i64 (lessI L (szT 8 (dColumn x)))) ∧ Below w.heap.size w w' := by
  rw [szT_Column]
  have HO := Lib.hid ho
  have hs0 : x.nm.length ≤ maxLen := ho 0 (by omega)
  unfold maxLen at hs0
  have hs6 : x.rf.length ≤ maxLen := ho 6 (by omega)
  unfold maxLen at hs6
  have hx := boxD 23 w #[.string ⟨x.nm.toArray⟩, .int .i64 x.k, .int .i64 x.mn, .int .i64 x.mx, .int .i64 x.lo, .int .i64 x.hi, .string ⟨x.rf.toArray⟩, .bool x.st]
  clear ho
  have x0 := cell_at (o := 0) hx.1 rfl
  have x1 := cell_at (o := 1) hx.1 rfl
  have x2 := cell_at (o := 2) hx.1 rfl
  have x3 := cell_at (o := 3) hx.1 rfl
  have x4 := cell_at (o := 4) hx.1 rfl
  have x5 := cell_at (o := 5) hx.1 rfl
  have x6 := cell_at (o := 6) hx.1 rfl
  have x7 := cell_at (o := 7) hx.1 rfl
  by_cases hn0 : L - (x.nm.length : Int) < 0
  case pos =>
    have HR : Hid (lessI L (x.nm.length + x.rf.length) = -1) := by show lessI L (x.nm.length + x.rf.length) = -1; unfold lessI; rw [if_neg (by omega)]
    have d0 : decide (L - (x.nm.length : Int) < 0) = true := decide_eq_true hn0
    go_enter Try.func4, Try.ntmps4
    go_wp2_with fail
    go_ret
    exact ⟨ret_i HR.out.symm, hx.2⟩
  obtain ⟨L0, hL0⟩ : ∃ L0 : Int, L0 = L - (x.nm.length : Int) := ⟨_, rfl⟩
  have f0 : IntKind.i64.wrap (L - (x.nm.length : Int)) = L0 := by rw [IntKind.wrap_i64]; omega
  have d0 : decide (L0 < 0) = false := decide_eq_false (by omega)
  have HL0 := Lib.hid hL0
  have bL0 : 0 ≤ L0 ∧ L0 ≤ 1048576 := by omega
  clear hn0 hL0
  by_cases hn6 : L0 - (x.rf.length : Int) < 0
  case pos =>
    have HR : Hid (lessI L (x.nm.length + x.rf.length) = -1) := by have := HL0.out; show lessI L (x.nm.length + x.rf.length) = -1; unfold lessI; rw [if_neg (by omega)]
    have d6 : decide (L0 - (x.rf.length : Int) < 0) = true := decide_eq_true hn6
    go_enter Try.func4, Try.ntmps4
    go_wp2_with fail
    go_ret
    exact ⟨ret_i HR.out.symm, hx.2⟩
  obtain ⟨L6, hL6⟩ : ∃ L6 : Int, L6 = L0 - (x.rf.length : Int) := ⟨_, rfl⟩
  have f6 : IntKind.i64.wrap (L0 - (x.rf.length : Int)) = L6 := by rw [IntKind.wrap_i64]; omega
  have d6 : decide (L6 < 0) = false := decide_eq_false (by omega)
  have HL6 := Lib.hid hL6
  have bL6 : 0 ≤ L6 ∧ L6 ≤ 1048576 := by omega
  clear hn6 hL6
  have bl : Hid (0 ≤ L6 ∧ L6 ≤ 1048576) := by show _ ∧ _; omega
  clear h0 h1 bL0 bL6
  have HR : Hid (lessI L (x.nm.length + x.rf.length) = L6) := by have := HL0.out; have := HL6.out; have := bl.out; show lessI L (x.nm.length + x.rf.length) = L6; unfold lessI; rw [if_pos (by omega)]; omega
  go_enter Try.func4, Try.ntmps4
  go_wp2_with fail
  go_ret
  exact ⟨ret_i HR.out.symm, hx.2⟩
set_option maxRecDepth 100000 in
set_option maxHeartbeats 3200000 in
theorem toDColumn (x : Cl) (_B : Nat → Prop) (w : World) (_ho : ∀ j, j < 8 → (dColumn x j).le 1048576) :
    Calls Try.prog 8 #[.agg #[.string ⟨x.nm.toArray⟩, .int .i64 x.k, .int .i64 x.mn, .int .i64 x.mx, .int .i64 x.lo, .int .i64 x.hi, .string ⟨x.rf.toArray⟩, .bool x.st]] w fun e w' => e = .returned (.agg #[.string ⟨x.nm.toArray⟩, .int .i64 x.k, .int .i64 x.mn, .int .i64 x.mx, .int .i64 x.lo, .int .i64 x.hi, .string ⟨x.rf.toArray⟩, .bool x.st]) ∧ Owns w' 8 (dColumn x) (vat [.string ⟨x.nm.toArray⟩, .int .i64 x.k, .int .i64 x.mn, .int .i64 x.mx, .int .i64 x.lo, .int .i64 x.hi, .string ⟨x.rf.toArray⟩, .bool x.st]) (fun c => w.heap.size ≤ c ∧ c < w'.heap.size) ∧ Below w.heap.size w w' := by
  go_enter Try.func8, Try.ntmps8
  go_wp2_with fail
  exact bodyPost_ret (v := .agg #[.string ⟨x.nm.toArray⟩, .int .i64 x.k, .int .i64 x.mn, .int .i64 x.mx, .int .i64 x.lo, .int .i64 x.hi, .string ⟨x.rf.toArray⟩, .bool x.st]) (by simp [results, Try.results8, go_sem]) rfl ⟨rfl, ⟨fun _ _ => False, fun _ _ h => h.elim, fun _ _ _ h => h.elim, fun j hj => by rcases (by omega : j = 0 ∨ j = 1 ∨ j = 2 ∨ j = 3 ∨ j = 4 ∨ j = 5 ∨ j = 6 ∨ j = 7) with rfl | rfl | rfl | rfl | rfl | rfl | rfl | rfl <;> rfl⟩, (((Below.refl _ _).alloc (Nat.le_refl _) _).alloc (by simp) _).alloc (by simp; omega) _⟩
def dColumnS (l : List Cl) : D := Ls 8 dColumn l
end Go.Proofs.Ytpigpidfpafcgaa
namespace Go.Proofs.Ytpigpidfpafcgaa
open Go.RowKit
set_option linter.unusedSimpArgs false
theorem Rd.toRw {α : Type} {w : World} {B : Nat → Prop} {n : Nat} {d : α → Nat → D} {l : List α} {a : Option Addr} {c : Nat} (h : Rd w B (Ls n d l) (.slice a l.length c)) (hn : 0 < n) (F : Nat → Value) (hF : ∀ i (hi : i < l.length) j u, j < n → Rd w B (d l[i] j) u → u = F (i * n + j)) : Rw w B a (l.length * n) F := by
  by_cases h0 : l.length = 0
  · exact .inl (by rw [h0]; simp)
  obtain ⟨b, off, ha, hb, -⟩ := h.things 0 (by omega)
  subst ha
  refine .inr ⟨b, off, rfl, hb, fun m hm => ?_⟩
  have hi : m / n < l.length := by rw [Nat.div_lt_iff_lt_mul hn]; exact hm
  have hj : m % n < n := Nat.mod_lt _ hn
  obtain ⟨u, hu, hr⟩ := h.spotT hi hj
  rw [Nat.add_assoc, Nat.div_add_mod'] at hu
  rw [hu, hF _ hi _ u hj hr, Nat.div_add_mod']
theorem Rd.ats {w : World} {B : Nat → Prop} {l : List At} {a : Option Addr} {c : Nat} (h : Rd w B (dAtomS l) (.slice a l.length c)) : Ats w B a l := by
  have hr := Rd.toRw (d := dAtom) (n := 3) h (by omega) (atF l) (fun i hi j u hj hr => by
    rcases (by omega : j = 0 ∨ j = 1 ∨ j = 2) with rfl | rfl | rfl
    · rw [Nat.add_zero, atF0 hi]; exact hr
    · rw [atF1 hi]; exact hr
    · rw [atF2 hi]; exact hr)
  rcases hr with h0 | ⟨b, off, ha, hb, hc⟩
  · exact .inl (by omega)
  · exact .inr ⟨b, off, ha, hb, hc⟩
theorem Rd.cols {w : World} {B : Nat → Prop} {l : List Cl} {a : Option Addr} {c : Nat} (h : Rd w B (dColumnS l) (.slice a l.length c)) : Cols w B a l :=
  Rd.toRw (d := dColumn) (n := 8) h (by omega) (clF l) (fun i hi j u hj hr => by
    rw [clF_at hi hj]
    rcases (by omega : j = 0 ∨ j = 1 ∨ j = 2 ∨ j = 3 ∨ j = 4 ∨ j = 5 ∨ j = 6 ∨ j = 7) with rfl | rfl | rfl | rfl | rfl | rfl | rfl | rfl <;> exact hr)
theorem le_atoms {l : List At} (h : (dAtomS l).le maxLen) : l.length ≤ maxLen ∧ ∀ x ∈ l, x.t.length ≤ maxLen := by
  refine ⟨(Ls_le.1 h).2.1, fun x hx => ?_⟩
  obtain ⟨i, hi, rfl⟩ := List.mem_iff_getElem.1 hx
  exact (Ls_le.1 h).2.2 i hi 2 (by omega)
end Go.Proofs.Ytpigpidfpafcgaa
namespace Go.Proofs.Ytpigpidfpafcgaa
open Go.RowKit
set_option linter.unusedSimpArgs false
def kindNo (kd : Int) (l : List At) : Bool := match l with
  | [] => false
  | x :: _ => x.k != kd
theorem kindNo_nil {kd : Int} {l : List At} (h : l.length = 0) : kindNo kd l = false := by
  cases l with
  | nil => rfl
  | cons x r => simp at h
theorem kindNo_at {kd : Int} {l : List At} (h : 0 < l.length) : kindNo kd l = (l[0].k != kd) := by
  cases l with
  | nil => simp at h
  | cons x r => rfl
theorem place_cases (l : List Cl) (s : List UInt8) : placeC l s = -1 ∨ ∃ k, ∃ _ : k < l.length, placeC l s = (k : Int) := by
  rcases place_first l s with ⟨e, -⟩ | ⟨k, hk, e, -⟩
  · exact .inl e
  · exact .inr ⟨k, hk, e⟩
structure BoxE (ty ty' : TypeId) (w W : World) (cs ds : Array Value) : Prop where
  a : W.heap[w.heap.size]? = some (.cells cs ty)
  b : W.heap[w.heap.size + 1]? = some (.cells ds ty')
  bel : Below w.heap.size w W
theorem boxE (ty ty' : TypeId) (w : World) (cs ds : Array Value) : BoxE ty ty' w ((w.alloc (.cells cs ty)).alloc (.cells ds ty')) cs ds := by
  refine ⟨heap_keptD (heap_newD _ _) (below_allocD _ _), ?_, (below_allocD _ _).trans ((below_allocD _ _).mono (by simp))⟩
  have h := heap_newD (w.alloc (.cells cs ty)) (.cells ds ty')
  rw [size_allocD] at h
  exact h
theorem BoxE.later {ty ty' : TypeId} {w W W' : World} {cs ds : Array Value} (h : BoxE ty ty' w W cs ds) (hB : Below W.heap.size W W') : BoxE ty ty' w W' cs ds := ⟨heap_keptD h.a hB, heap_keptD h.b hB, h.bel.trans (hB.mono h.bel.size)⟩
theorem BoxE.drew {ty ty' : TypeId} {w W : World} {cs ds : Array Value} (h : BoxE ty ty' w W cs ds) : BoxE ty ty' w W.drew cs ds := h.later (Below.refl _ _).drew
theorem Ats.head {w : World} {S : Nat} {a : Option Addr} {l : List At} (h : Ats w (· < S) a l) : l.length = 0 ∨ ∃ b off, ∃ q : Int, 0 < l.length ∧ a = some ⟨b, off, none⟩ ∧ (∀ kd, kindNo kd l = (q != kd)) ∧ ∀ W, Below S w W → W.cell? ⟨b, off, none⟩ = some (.int .i64 q) := by
  by_cases h0 : 0 < l.length
  · obtain ⟨b, off, e, -, -⟩ := h.item 0 h0
    refine .inr ⟨b, off, l[0].k, h0, e, fun kd => kindNo_at h0, fun W hW => ?_⟩
    have h' := h.below hW
    subst e
    have := (h'.three 0 h0).1
    rwa [Nat.zero_mul, Nat.add_zero] at this
  · exact .inl (by omega)
end Go.Proofs.Ytpigpidfpafcgaa
