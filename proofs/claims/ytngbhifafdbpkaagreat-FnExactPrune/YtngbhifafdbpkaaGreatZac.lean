import Derived.Test.YtngbhifafdbpkaaGreatZab
import Derived.Deep.RegionWith
import Derived.BigQuiet
namespace Go.Proofs.YtngbhifafdbpkaaGreat
open Go.RowKit
set_option linter.unusedSimpArgs false
def Rw (w : World) (B : Nat → Prop) (a : Option Addr) (n : Nat) (f : Nat → Value) : Prop :=
  n = 0 ∨ ∃ b off, a = some ⟨b, off, none⟩ ∧ B b ∧ ∀ m, m < n → w.cell? ⟨b, off + m, none⟩ = some (f m)
theorem Rw.same {w w' : World} {B B' : Nat → Prop} {a : Option Addr} {n : Nat} {f : Nat → Value} (h : Rw w B a n f) (hs : ∀ b, B b → w'.heap[b]? = w.heap[b]?) (hB : ∀ b, B b → B' b) : Rw w' B' a n f := by
  rcases h with h | ⟨b, off, ha, hb, hc⟩
  · exact .inl h
  · exact .inr ⟨b, off, ha, hB b hb, fun m hm => by rw [World.cell?_of_block (w := w) (a := ⟨b, off + m, none⟩) (hs b hb)]; exact hc m hm⟩
theorem Rw.inside {w : World} {B : Nat → Prop} {a : Option Addr} {n : Nat} {f : Nat → Value} (h : Rw w B a n f) : Rw w (fun b => B b ∧ b < w.heap.size) a n f := by
  rcases h with h | ⟨b, off, ha, hb, hc⟩
  · exact .inl h
  · by_cases h0 : n = 0
    · exact .inl h0
    · exact .inr ⟨b, off, ha, ⟨hb, World.block_lt_of_cell? _ _ (hc 0 (by omega))⟩, hc⟩
theorem Rw.at {w : World} {B : Nat → Prop} {a : Option Addr} {n : Nat} {f : Nat → Value} (h : Rw w B a n f) (k : Nat) (hk : k < n) : ∃ b off, a = some ⟨b, off, none⟩ ∧ B b ∧ ∀ m, m < n → w.cell? ⟨b, off + m, none⟩ = some (f m) := by
  rcases h with h | h
  · omega
  · exact h
def clZ : Cl := ⟨[], 0, 0, 0, 0, 0, [], false⟩
def clF (l : List Cl) (m : Nat) : Value :=
  if m % 8 = 0 then .string ⟨(l.getD (m / 8) clZ).nm.toArray⟩ else if m % 8 = 1 then .int .i64 (l.getD (m / 8) clZ).k else if m % 8 = 2 then .int .i64 (l.getD (m / 8) clZ).mn else if m % 8 = 3 then .int .i64 (l.getD (m / 8) clZ).mx
  else if m % 8 = 4 then .int .i64 (l.getD (m / 8) clZ).lo else if m % 8 = 5 then .int .i64 (l.getD (m / 8) clZ).hi else if m % 8 = 6 then .string ⟨(l.getD (m / 8) clZ).rf.toArray⟩ else .bool (l.getD (m / 8) clZ).st
theorem cl_getD {l : List Cl} {i : Nat} (h : i < l.length) : l.getD i clZ = l[i] := by rw [List.getD_eq_getElem?_getD, List.getElem?_eq_getElem h]; rfl
theorem clF_at {l : List Cl} {i j : Nat} (h : i < l.length) (hj : j < 8) : clF l (i * 8 + j) = [Value.string ⟨l[i].nm.toArray⟩, .int .i64 l[i].k, .int .i64 l[i].mn, .int .i64 l[i].mx, .int .i64 l[i].lo, .int .i64 l[i].hi, .string ⟨l[i].rf.toArray⟩, .bool l[i].st].getD j undef := by
  unfold clF
  rw [show (i * 8 + j) % 8 = j by omega, show (i * 8 + j) / 8 = i by omega, cl_getD h]
  match j, hj with
  | 0, _ => rfl
  | 1, _ => rfl
  | 2, _ => rfl
  | 3, _ => rfl
  | 4, _ => rfl
  | 5, _ => rfl
  | 6, _ => rfl
  | 7, _ => rfl
def Cols (w : World) (B : Nat → Prop) (a : Option Addr) (l : List Cl) : Prop := Rw w B a (l.length * 8) (clF l)
def ColAt (w : World) (b o : Nat) (x : Cl) : Prop := w.cell? ⟨b, o, none⟩ = some (.string ⟨x.nm.toArray⟩) ∧ w.cell? ⟨b, o + 1, none⟩ = some (.int .i64 x.k) ∧ w.cell? ⟨b, o + 2, none⟩ = some (.int .i64 x.mn) ∧ w.cell? ⟨b, o + 3, none⟩ = some (.int .i64 x.mx) ∧ w.cell? ⟨b, o + 4, none⟩ = some (.int .i64 x.lo) ∧ w.cell? ⟨b, o + 5, none⟩ = some (.int .i64 x.hi) ∧ w.cell? ⟨b, o + 6, none⟩ = some (.string ⟨x.rf.toArray⟩) ∧ w.cell? ⟨b, o + 7, none⟩ = some (.bool x.st)
theorem Cols.at {w : World} {B : Nat → Prop} {a : Option Addr} {l : List Cl} (h : Cols w B a l) (k : Nat) (hk : k < l.length) : ∃ b off, a = some ⟨b, off, none⟩ ∧ B b ∧ ∀ i (h : i < l.length), ColAt w b (off + i * 8) l[i] := by
  obtain ⟨b, off, e, hb, hc⟩ := Rw.at h (k * 8) (by omega)
  refine ⟨b, off, e, hb, fun i hi => ?_⟩
  have g : ∀ j, j < 8 → w.cell? ⟨b, off + i * 8 + j, none⟩ = _ := fun j hj => by rw [Nat.add_assoc, hc _ (by omega), clF_at hi hj]
  exact ⟨g 0 (by omega), g 1 (by omega), g 2 (by omega), g 3 (by omega), g 4 (by omega), g 5 (by omega), g 6 (by omega), g 7 (by omega)⟩
def Ints (w : World) (B : Nat → Prop) (a : Option Addr) (l : List Int) : Prop := Rw w B a l.length (fun m => .int .i64 (l.getD m 0))
theorem Ints.at {w : World} {B : Nat → Prop} {a : Option Addr} {l : List Int} (h : Ints w B a l) (k : Nat) (hk : k < l.length) : ∃ b off, a = some ⟨b, off, none⟩ ∧ B b ∧ ∀ i (h : i < l.length), w.cell? ⟨b, off + i, none⟩ = some (.int .i64 l[i]) := by
  obtain ⟨b, off, e, hb, hc⟩ := Rw.at h k hk
  refine ⟨b, off, e, hb, fun i hi => ?_⟩
  rw [hc i hi, List.getD_eq_getElem?_getD, List.getElem?_eq_getElem hi]; rfl
def Tb.Has (w : World) (B : Nat → Prop) (t : Tb) (ca ua : Option Addr) : Prop := Cols w B ca t.cols ∧ Ints w B ua t.uq
theorem Tb.Has.same {w w' : World} {B B' : Nat → Prop} {t : Tb} {ca ua : Option Addr} (h : t.Has w B ca ua) (hs : ∀ b, B b → w'.heap[b]? = w.heap[b]?) (hB : ∀ b, B b → B' b) : t.Has w' B' ca ua := ⟨Rw.same h.1 hs hB, Rw.same h.2 hs hB⟩
theorem Tb.Has.below {w w' : World} {S : Nat} {t : Tb} {ca ua : Option Addr} (h : t.Has w (· < S) ca ua) (hb : Below S w w') : t.Has w' (· < S) ca ua := h.same (fun b hb' => hb.block b hb') (fun _ h => h)
theorem Tb.Has.inside {w : World} {B : Nat → Prop} {t : Tb} {ca ua : Option Addr} (h : t.Has w B ca ua) : t.Has w (fun b => B b ∧ b < w.heap.size) ca ua := ⟨Rw.inside h.1, Rw.inside h.2⟩
theorem Tb.Has.later {w w' : World} {B : Nat → Prop} {t : Tb} {ca ua : Option Addr} (h : t.Has w B ca ua) (hb : Below w.heap.size w w') : t.Has w' B ca ua := h.inside.same (fun b hb' => hb.block b hb'.2) (fun _ h => h.1)
theorem Cols.later {w w' : World} {B : Nat → Prop} {a : Option Addr} {l : List Cl} (h : Cols w B a l) (hb : Below w.heap.size w w') : Cols w' B a l := (Rw.inside h).same (fun b hb' => hb.block b hb'.2) (fun _ h => h.1)
theorem Ints.later {w w' : World} {B : Nat → Prop} {a : Option Addr} {l : List Int} (h : Ints w B a l) (hb : Below w.heap.size w w') : Ints w' B a l := (Rw.inside h).same (fun b hb' => hb.block b hb'.2) (fun _ h => h.1)
def szCs (l : List Cl) : Nat := l.length + (l.map Cl.sz).sum
def Tb.sz (t : Tb) : Nat := t.nm.length + szCs t.cols + t.uq.length
def Cl.ok (x : Cl) : Prop := x.nm.length ≤ maxLen ∧ x.rf.length ≤ maxLen
def Tb.ok (t : Tb) : Prop := t.nm.length ≤ maxLen ∧ t.cols.length ≤ maxLen ∧ (∀ x ∈ t.cols, x.ok) ∧ t.uq.length ≤ maxLen
end Go.Proofs.YtngbhifafdbpkaaGreat
namespace Go.Proofs.YtngbhifafdbpkaaGreat
open Go.RowKit
set_option linter.unusedSimpArgs false
def BoxT (ty : TypeId) (w W : World) (t : Tb) (ca : Option Addr) (cc : Nat) (ua : Option Addr) (uc : Nat) : Prop := W.heap[w.heap.size]? = some (.cells #[.string ⟨t.nm.toArray⟩, .slice ca t.cols.length cc, .slice ua t.uq.length uc, .bool t.rt] ty) ∧ Below w.heap.size w W
theorem BoxT.later {ty : TypeId} {w W W' : World} {t : Tb} {ca : Option Addr} {cc : Nat} {ua : Option Addr} {uc : Nat} (h : BoxT ty w W t ca cc ua uc) (hB : Below W.heap.size W W') : BoxT ty w W' t ca cc ua uc := ⟨heap_keptC h.1 hB, h.2.trans (hB.mono h.2.size)⟩
theorem boxT (ty : TypeId) (w : World) (t : Tb) (ca : Option Addr) (cc : Nat) (ua : Option Addr) (uc : Nat) : BoxT ty w (w.alloc (.cells #[.string ⟨t.nm.toArray⟩, .slice ca t.cols.length cc, .slice ua t.uq.length uc, .bool t.rt] ty)) t ca cc ua uc := ⟨heap_newC _ _, (Below.refl _ _).alloc (Nat.le_refl _) _⟩
theorem BoxT.drew {ty : TypeId} {w W : World} {t : Tb} {ca : Option Addr} {cc : Nat} {ua : Option Addr} {uc : Nat} (h : BoxT ty w W t ca cc ua uc) : BoxT ty w W.drew t ca cc ua uc := h.later (Below.refl _ _).drew
theorem BoxT.drewN {ty : TypeId} {w W : World} {t : Tb} {ca : Option Addr} {cc : Nat} {ua : Option Addr} {uc : Nat} (h : BoxT ty w W t ca cc ua uc) (n : Nat) : BoxT ty w (W.drewN n) t ca cc ua uc := h.later (below_drewN (Below.refl _ _) n)
variable {w V V' : World} {t : Tb} {ca : Option Addr} {cc : Nat} {ua : Option Addr} {uc : Nat} {o : Array Value}
end Go.Proofs.YtngbhifafdbpkaaGreat
namespace Go.Proofs.YtngbhifafdbpkaaGreat
open Go.RowKit
set_option linter.unusedSimpArgs false
def GoodC (l : List Cl) (i : Nat) (h : i < l.length) : Prop := colB l[i] = true ∧ ∀ k (hk : k < i), (l[k]'(by omega)).nm ≠ l[i].nm
def GoodU (n : Nat) (u : List Int) (i : Nat) (h : i < u.length) : Prop := (0 ≤ u[i] ∧ u[i] < (n : Int)) ∧ ∀ j (hj : j + 1 = i), (u[j]'(by omega)) < u[i]
structure TabP (t : Tb) : Prop where
  nm : nameB t.nm = true
  len : 1 ≤ t.cols.length ∧ t.cols.length ≤ 6
  cols : ∀ i (h : i < t.cols.length), GoodC t.cols i h
  uq : ∀ i (h : i < t.uq.length), GoodU t.cols.length t.uq i h
noncomputable def tabB (t : Tb) : Bool := @decide (TabP t) (Classical.propDecidable _)
theorem tab_yes {t : Tb} (h : TabP t) : tabB t = true := by unfold tabB; exact @decide_eq_true _ (Classical.propDecidable _) h
theorem tab_no {t : Tb} (h : ¬ TabP t) : tabB t = false := by unfold tabB; exact @decide_eq_false _ (Classical.propDecidable _) h
theorem uq_ge {n : Nat} {u : List Int} (h : ∀ i (h : i < u.length), GoodU n u i h) : ∀ i (hi : i < u.length), (i : Int) ≤ u[i]
  | 0, hi => by have := (h 0 hi).1.1; omega
  | i + 1, hi => by
    have h1 := uq_ge h i (by omega)
    have h2 := (h (i + 1) hi).2 i rfl
    omega
theorem uq_len {n : Nat} {u : List Int} (h : ∀ i (h : i < u.length), GoodU n u i h) : u.length ≤ n := by
  by_cases h0 : u.length = 0
  · omega
  · have h1 := uq_ge h (u.length - 1) (by omega)
    have h2 := (h (u.length - 1) (by omega)).1.2
    omega
def FirstC (l : List Cl) (t : List UInt8) (q : Int) : Prop := (q = -1 ∧ ∀ k (h : k < l.length), l[k].nm ≠ t) ∨ ∃ k, ∃ h : k < l.length, q = (k : Int) ∧ l[k].nm = t ∧ ∀ j (hj : j < k), (l[j]'(by omega)).nm ≠ t
theorem first_one {l : List Cl} {t : List UInt8} {q q' : Int} (h : FirstC l t q) (h' : FirstC l t q') : q = q' := by
  rcases h with ⟨rfl, h⟩ | ⟨k, hk, rfl, e, h⟩
  · rcases h' with ⟨rfl, -⟩ | ⟨k', hk', rfl, e', -⟩
    · rfl
    · exact absurd e' (h k' hk')
  · rcases h' with ⟨rfl, h'⟩ | ⟨k', hk', rfl, e', h'⟩
    · exact absurd e (h' k hk)
    · rcases Nat.lt_trichotomy k k' with c | c | c
      · exact absurd e (h' k c)
      · rw [c]
      · exact absurd e' (h k' c)
theorem least_nat {P : Nat → Prop} (n : Nat) (h : P n) : ∃ k, P k ∧ ∀ j, j < k → ¬ P j := by
  induction n using Nat.strongRecOn with
  | _ n ih =>
    by_cases hh : ∃ j, j < n ∧ P j
    · obtain ⟨j, hj, hp⟩ := hh
      exact ih j hj hp
    · exact ⟨n, h, fun j hj hp => hh ⟨j, hj, hp⟩⟩
theorem first_some (l : List Cl) (t : List UInt8) : ∃ q, FirstC l t q := by
  by_cases h : ∃ k, ∃ h : k < l.length, l[k].nm = t
  · obtain ⟨n, hn⟩ := h
    obtain ⟨k, ⟨hk, e⟩, hmin⟩ := least_nat (P := fun k => ∃ h : k < l.length, l[k].nm = t) n hn
    exact ⟨k, .inr ⟨k, hk, rfl, e, fun j hj he => hmin j hj ⟨by omega, he⟩⟩⟩
  · exact ⟨-1, .inl ⟨rfl, fun k hk e => h ⟨k, hk, e⟩⟩⟩
noncomputable def placeC (l : List Cl) (t : List UInt8) : Int := Classical.choose (first_some l t)
theorem place_first (l : List Cl) (t : List UInt8) : FirstC l t (placeC l t) := Classical.choose_spec (first_some l t)
theorem place_eq {l : List Cl} {t : List UInt8} {q : Int} (h : FirstC l t q) : placeC l t = q := first_one (place_first l t) h
set_option maxRecDepth 100000 in
set_option maxHeartbeats 3200000 in
theorem placeI (t : Tb) (s : List UInt8) (ca : Option Addr) (cc : Nat) (ua : Option Addr) (uc : Nat) (B : Nat → Prop) (w : World) (hl : t.cols.length ≤ maxLen) (hS : t.Has w B ca ua) :
    Calls Tryz.prog 95 #[.agg #[.string ⟨t.nm.toArray⟩, .slice ca t.cols.length cc, .slice ua t.uq.length uc, .bool t.rt], .string ⟨s.toArray⟩] w fun e w' => e = .returned (.int .i64 (placeC t.cols s)) ∧ Below w.heap.size w w' := by
  unfold maxLen at hl
  have HS : Hid (t.Has w B ca ua) := hS
  have HX := Lib.hid (boxT 70 w t ca cc ua uc)
  clear hS
  go_enter Tryz.func95, Tryz.ntmps95
  go_wp2_with fail
  go_loopw [9] (fun i wr => ∃ k : Nat, k ≤ t.cols.length ∧ i = .int .i64 k ∧ Hid ((∀ m (h : m < t.cols.length), m < k → t.cols[m].nm ≠ s) ∧ BoxT 70 w wr t ca cc ua uc)) (fun i _ => t.cols.length - (intOf i).toNat)
  case atStart => exact ⟨0, Nat.zero_le _, rfl, fun m _ h => absurd h (by omega), HX.out⟩
  case round =>
    obtain ⟨k, hk, rfl, HW⟩ := hrel
    have x1 := cell_at (o := 1) HW.out.2.1 rfl
    by_cases hlt : k < t.cols.length
    · have hki : (k : Int) < (t.cols.length : Int) := by omega
      obtain ⟨b, off, rfl, -, hc⟩ := (HS.out.later HW.out.2.2).1.at k hlt
      have c0 := (hc k hlt).1
      clear hc
      by_cases he : t.cols[k].nm = s
      · have HP : Hid (placeC t.cols s = k) := place_eq (.inr ⟨k, hlt, rfl, he, fun j hj => HW.out.1 j (by omega) hj⟩)
        rw [he] at c0
        clear he
        go_wp2_with fail
        go_ret
        exact ⟨ret_i HP.out.symm, HW.out.2.2⟩
      · have HN : Hid (∀ m (h : m < t.cols.length), m < k + 1 → t.cols[m].nm ≠ s) := fun m h hm => by
          by_cases e : m = k
          · subst e; exact he
          · exact HW.out.1 m h (by omega)
        have hne : (t.cols[k].nm == s) = false := by simpa using he
        clear he
        generalize t.cols[k] = x at *
        go_wp2_with fail
        go_roundw
        case rel => exact ⟨k + 1, by omega, by go_num, HN.out, HW.out.2⟩
        case measure => simp [intOf]; omega
    · have HP : Hid (placeC t.cols s = -1) := place_eq (.inl ⟨rfl, fun m h => HW.out.1 m h (by omega)⟩)
      have hki : decide ((k : Int) < (t.cols.length : Int)) = false := by simp; omega
      go_wp2_with fail
      go_ret
      exact ⟨ret_i HP.out.symm, HW.out.2.2⟩
end Go.Proofs.YtngbhifafdbpkaaGreat
