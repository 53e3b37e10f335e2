import Derived.Test.YtpigpidfpafcgaaZaz
import Derived.Deep.RegionWith
import Derived.BigQuiet
import Derived.Test.YtpigpidfpafcgaaZab
namespace Go.Proofs.Ytpigpidfpafcgaa
open Go.RowKit
set_option linter.unusedSimpArgs false
def BoxT (ty : TypeId) (w W : World) (t : Tb) (ca : Option Addr) (cc : Nat) (ua : Option Addr) (uc : Nat) : Prop := W.heap[w.heap.size]? = some (.cells #[.string ⟨t.nm.toArray⟩, .slice ca t.cols.length cc, .slice ua t.uq.length uc, .bool t.rt] ty) ∧ Below w.heap.size w W
theorem BoxT.later {ty : TypeId} {w W W' : World} {t : Tb} {ca : Option Addr} {cc : Nat} {ua : Option Addr} {uc : Nat} (h : BoxT ty w W t ca cc ua uc) (hB : Below W.heap.size W W') : BoxT ty w W' t ca cc ua uc := ⟨heap_keptC h.1 hB, h.2.trans (hB.mono h.2.size)⟩
theorem boxT (ty : TypeId) (w : World) (t : Tb) (ca : Option Addr) (cc : Nat) (ua : Option Addr) (uc : Nat) : BoxT ty w (w.alloc (.cells #[.string ⟨t.nm.toArray⟩, .slice ca t.cols.length cc, .slice ua t.uq.length uc, .bool t.rt] ty)) t ca cc ua uc := ⟨heap_newC _ _, (Below.refl _ _).alloc (Nat.le_refl _) _⟩
theorem BoxT.drew {ty : TypeId} {w W : World} {t : Tb} {ca : Option Addr} {cc : Nat} {ua : Option Addr} {uc : Nat} (h : BoxT ty w W t ca cc ua uc) : BoxT ty w W.drew t ca cc ua uc := h.later (Below.refl _ _).drew
theorem BoxT.drewN {ty : TypeId} {w W : World} {t : Tb} {ca : Option Addr} {cc : Nat} {ua : Option Addr} {uc : Nat} (h : BoxT ty w W t ca cc ua uc) (n : Nat) : BoxT ty w (W.drewN n) t ca cc ua uc := h.later (below_drewN (Below.refl _ _) n)
variable {w V V' : World} {t : Tb} {ca : Option Addr} {cc : Nat} {ua : Option Addr} {uc : Nat} {o : Array Value}
end Go.Proofs.Ytpigpidfpafcgaa
namespace Go.Proofs.Ytpigpidfpafcgaa
open Go.RowKit
set_option linter.unusedSimpArgs false
def FirstC (l : List Cl) (t : List UInt8) (q : Int) : Prop := (q = -1 ∧ ∀ k (h : k < l.length), l[k].nm ≠ t) ∨ ∃ k, ∃ h : k < l.length, q = (k : Int) ∧ l[k].nm = t ∧ ∀ j (hj : j < k), (l[j]'(by omega)).nm ≠ t
theorem first_one {l : List Cl} {t : List UInt8} {q q' : Int} (h : FirstC l t q) (h' : FirstC l t q') : q = q' := by
  rcases h with ⟨rfl, h⟩ | ⟨k, hk, rfl, e, h⟩
  · rcases h' with ⟨rfl, -⟩ | ⟨k', hk', rfl, e', -⟩
    · rfl
    · exact absurd e' (h k' hk')
  · rcases h' with ⟨rfl, h'⟩ | ⟨k', hk', rfl, e', h'⟩
    · exact absurd e (h' k hk)
    · rcases Nat.lt_trichotomy k k' with c | c | c
      · exact absurd e (h' k c)
      · rw [c]
      · exact absurd e' (h k' c)
theorem least_nat {P : Nat → Prop} (n : Nat) (h : P n) : ∃ k, P k ∧ ∀ j, j < k → ¬ P j := by
  induction n using Nat.strongRecOn with
  | _ n ih =>
    by_cases hh : ∃ j, j < n ∧ P j
    · obtain ⟨j, hj, hp⟩ := hh
      exact ih j hj hp
    · exact ⟨n, h, fun j hj hp => hh ⟨j, hj, hp⟩⟩
theorem first_some (l : List Cl) (t : List UInt8) : ∃ q, FirstC l t q := by
  by_cases h : ∃ k, ∃ h : k < l.length, l[k].nm = t
  · obtain ⟨n, hn⟩ := h
    obtain ⟨k, ⟨hk, e⟩, hmin⟩ := least_nat (P := fun k => ∃ h : k < l.length, l[k].nm = t) n hn
    exact ⟨k, .inr ⟨k, hk, rfl, e, fun j hj he => hmin j hj ⟨by omega, he⟩⟩⟩
  · exact ⟨-1, .inl ⟨rfl, fun k hk e => h ⟨k, hk, e⟩⟩⟩
noncomputable def placeC (l : List Cl) (t : List UInt8) : Int := Classical.choose (first_some l t)
theorem place_first (l : List Cl) (t : List UInt8) : FirstC l t (placeC l t) := Classical.choose_spec (first_some l t)
theorem place_eq {l : List Cl} {t : List UInt8} {q : Int} (h : FirstC l t q) : placeC l t = q := first_one (place_first l t) h
set_option maxRecDepth 100000 in
set_option maxHeartbeats 3200000 in
theorem placeS (t : Tb) (s : List UInt8) (ca : Option Addr) (cc : Nat) (ua : Option Addr) (uc : Nat) (B : Nat → Prop) (w : World) (hl : t.cols.length ≤ maxLen) (hS : t.Has w B ca ua) :
    Calls Try.prog 37 #[.agg #[.string ⟨t.nm.toArray⟩, .slice ca t.cols.length cc, .slice ua t.uq.length uc, .bool t.rt], .string ⟨s.toArray⟩] w fun e w' => e = .returned (.int .i64 (placeC t.cols s)) ∧ Below w.heap.size w w' := by
  unfold maxLen at hl
  have HS : Hid (t.Has w B ca ua) := hS
  have HX := Lib.hid (boxT 55 w t ca cc ua uc)
  clear hS
  go_enter Try.func37, Try.ntmps37
  go_wp2_with fail
  go_loopw [5] (fun i wr => ∃ k : Nat, k ≤ t.cols.length ∧ i = .int .i64 k ∧ Hid ((∀ m (h : m < t.cols.length), m < k → t.cols[m].nm ≠ s) ∧ BoxT 55 w wr t ca cc ua uc)) (fun i _ => t.cols.length - (intOf i).toNat)
  case atStart => exact ⟨0, Nat.zero_le _, rfl, fun m _ h => absurd h (by omega), HX.out⟩
  case round =>
    obtain ⟨k, hk, rfl, HW⟩ := hrel
    have x1 := cell_at (o := 1) HW.out.2.1 rfl
    by_cases hlt : k < t.cols.length
    · have hki : (k : Int) < (t.cols.length : Int) := by omega
      obtain ⟨b, off, rfl, -, hc⟩ := (HS.out.later HW.out.2.2).1.at k hlt
      have c0 := (hc k hlt).1
      clear hc
      by_cases he : t.cols[k].nm = s
      · have HP : Hid (placeC t.cols s = k) := place_eq (.inr ⟨k, hlt, rfl, he, fun j hj => HW.out.1 j (by omega) hj⟩)
        rw [he] at c0
        clear he
        go_wp2_with fail
        go_ret
        exact ⟨ret_i HP.out.symm, HW.out.2.2⟩
      · have HN : Hid (∀ m (h : m < t.cols.length), m < k + 1 → t.cols[m].nm ≠ s) := fun m h hm => by
          by_cases e : m = k
          · subst e; exact he
          · exact HW.out.1 m h (by omega)
        have hne : (t.cols[k].nm == s) = false := by simpa using he
        clear he
        generalize t.cols[k] = x at *
        go_wp2_with fail
        go_roundw
        case rel => exact ⟨k + 1, by omega, by go_num, HN.out, HW.out.2⟩
        case measure => simp [intOf]; omega
    · have HP : Hid (placeC t.cols s = -1) := place_eq (.inl ⟨rfl, fun m h => HW.out.1 m h (by omega)⟩)
      have hki : decide ((k : Int) < (t.cols.length : Int)) = false := by simp; omega
      go_wp2_with fail
      go_ret
      exact ⟨ret_i HP.out.symm, HW.out.2.2⟩
end Go.Proofs.Ytpigpidfpafcgaa
namespace Go.Proofs.Ytpigpidfpafcgaa
open Go.RowKit
set_option linter.unusedSimpArgs false
def Row (w : World) (b off n : Nat) (f : Nat → Value) : Prop := ∀ m, m < n → w.cell? ⟨b, off + m, none⟩ = some (f m) ∧ w.frozen? ⟨b, off + m, none⟩ = false
theorem Row.later {w w' : World} {b off n : Nat} {f : Nat → Value} (h : Row w b off n f) (hB : Below w.heap.size w w') : Row w' b off n f := fun m hm => by
  have hlt := World.block_lt_of_cell? _ _ (h m hm).1
  exact ⟨by rw [hB.cell (p := ⟨b, off + m, none⟩) hlt]; exact (h m hm).1, by rw [hB.frozen (p := ⟨b, off + m, none⟩) hlt]; exact (h m hm).2⟩
theorem Row.same {w w' : World} {b off n : Nat} {f : Nat → Value} (h : Row w b off n f) (hs : w'.heap[b]? = w.heap[b]?) : Row w' b off n f := fun m hm =>
  ⟨by rw [World.cell?_of_block (w := w) (a := ⟨b, off + m, none⟩) hs]; exact (h m hm).1, by rw [World.frozen?_of_block (w := w) (a := ⟨b, off + m, none⟩) hs]; exact (h m hm).2⟩
theorem Row.set {w : World} {b off n : Nat} {f : Nat → Value} (h : Row w b off n f) (i : Nat) (hi : i < n) (v : Value) : Row (w.setCell ⟨b, off + i, none⟩ v) b off n (fun m => if m = i then v else f m) := fun m hm => by
  have h1 := (h m hm).1
  have h2 := (h m hm).2
  refine ⟨?_, by simpa using h2⟩
  show (w.setCell ⟨b, off + i, none⟩ v).cell? ⟨b, off + m, none⟩ = some (if m = i then v else f m)
  by_cases e : m = i
  · subst e
    simp [World.cell?_setCell_same, h1]
  · rw [if_neg e]
    rw [World.cell?_setCell_other]
    · exact h1
    · simp; try omega
theorem Row.congr {w : World} {b off n : Nat} {f g : Nat → Value} (h : Row w b off n f) (e : ∀ m, m < n → f m = g m) : Row w b off n g := fun m hm => ⟨by rw [← e m hm]; exact (h m hm).1, (h m hm).2⟩
end Go.Proofs.Ytpigpidfpafcgaa
