import Derived.Test.YtkncpfhblciplaaWal
namespace Go.Proofs.Ytkncpfhblciplaa
open Go.RowKit
set_option linter.unusedSimpArgs false
def Row (w : World) (b off n : Nat) (f : Nat → Value) : Prop := ∀ m, m < n → w.cell? ⟨b, off + m, none⟩ = some (f m) ∧ w.frozen? ⟨b, off + m, none⟩ = false
theorem Row.later {w w' : World} {b off n : Nat} {f : Nat → Value} (h : Row w b off n f) (hB : Below w.heap.size w w') : Row w' b off n f := fun m hm => by
  have hlt := World.block_lt_of_cell? _ _ (h m hm).1
  exact ⟨by rw [hB.cell (p := ⟨b, off + m, none⟩) hlt]; exact (h m hm).1, by rw [hB.frozen (p := ⟨b, off + m, none⟩) hlt]; exact (h m hm).2⟩
theorem Row.same {w w' : World} {b off n : Nat} {f : Nat → Value} (h : Row w b off n f) (hs : w'.heap[b]? = w.heap[b]?) : Row w' b off n f := fun m hm =>
  ⟨by rw [World.cell?_of_block (w := w) (a := ⟨b, off + m, none⟩) hs]; exact (h m hm).1, by rw [World.frozen?_of_block (w := w) (a := ⟨b, off + m, none⟩) hs]; exact (h m hm).2⟩
theorem Row.set {w : World} {b off n : Nat} {f : Nat → Value} (h : Row w b off n f) (i : Nat) (hi : i < n) (v : Value) : Row (w.setCell ⟨b, off + i, none⟩ v) b off n (fun m => if m = i then v else f m) := fun m hm => by
  have h1 := (h m hm).1
  have h2 := (h m hm).2
  refine ⟨?_, by simpa using h2⟩
  show (w.setCell ⟨b, off + i, none⟩ v).cell? ⟨b, off + m, none⟩ = some (if m = i then v else f m)
  by_cases e : m = i
  · subst e
    simp [World.cell?_setCell_same, h1]
  · rw [if_neg e]
    rw [World.cell?_setCell_other]
    · exact h1
    · simp; try omega
theorem Row.congr {w : World} {b off n : Nat} {f g : Nat → Value} (h : Row w b off n f) (e : ∀ m, m < n → f m = g m) : Row w b off n g := fun m hm => ⟨by rw [← e m hm]; exact (h m hm).1, (h m hm).2⟩
theorem OwnStrs.row {w : World} {B : Nat → Prop} {a : Option Addr} {keys : List (List UInt8)} (h : OwnStrs w B a keys) :
    ∃ b off, (0 < keys.length → a = some ⟨b, off, none⟩ ∧ B b) ∧ Row w b off keys.length (fun m => .string ⟨(keys.getD m []).toArray⟩) := by
  rcases h with h | ⟨b, off, ha, hb, hc⟩
  · exact ⟨0, 0, fun h' => absurd h (by omega), fun m hm => absurd h (by omega)⟩
  · exact ⟨b, off, fun _ => ⟨ha, hb⟩, fun m hm => by show w.cell? _ = some (.string ⟨(keys.getD m []).toArray⟩) ∧ _; rw [List.getD_eq_getElem?_getD, List.getElem?_eq_getElem hm]; exact hc m hm⟩
theorem OwnStrs.of_row {w : World} {B : Nat → Prop} {a : Option Addr} {keys : List (List UInt8)} {b off : Nat} (ha : 0 < keys.length → a = some ⟨b, off, none⟩ ∧ B b) (h : Row w b off keys.length (fun m => .string ⟨(keys.getD m []).toArray⟩)) : OwnStrs w B a keys := by
  by_cases h0 : keys.length = 0
  · exact .inl h0
  · obtain ⟨h1, h2⟩ := ha (by omega)
    exact .inr ⟨b, off, h1, h2, fun i hi => by have : w.cell? _ = some (.string ⟨(keys.getD i []).toArray⟩) ∧ _ := h i hi; rw [List.getD_eq_getElem?_getD, List.getElem?_eq_getElem hi] at this; exact this⟩
def marks (n k : Nat) : List (List UInt8) := (List.range n).map fun i => mt (k + i)
theorem marks_len (n k : Nat) : (marks n k).length = n := by simp [marks]
theorem marks_at {n k m : Nat} (h : m < n) : (marks n k).getD m [] = mt (k + m) := by
  rw [List.getD_eq_getElem?_getD]; simp [marks, h]
set_option maxHeartbeats 800000 in
theorem markStrs (keys : List (List UInt8)) (a : Option Addr) (c k : Nat) (B : Nat → Prop) (w : World) (hl : keys.length ≤ maxLen) (h0 : 0 < k) (h1 : k + keys.length < 1000000000000) (hS : OwnStrs w B a keys) :
    Calls Try.prog 37 #[.slice a keys.length c, .int .i64 k] w fun e w' => e = .returned (.int .i64 (k + keys.length : Nat)) ∧ OwnStrs w' B a (marks keys.length k) ∧ Frm B w w' := by
  unfold maxLen at hl
  obtain ⟨b, off, ha, hrow⟩ := hS.row
  have HA : Hid (0 < keys.length → a = some ⟨b, off, none⟩ ∧ B b) := ha
  have HR : Hid (Row w b off keys.length (fun m => .string ⟨(keys.getD m []).toArray⟩)) := hrow
  clear ha hrow hS
  go_enter Try.func37, Try.ntmps37
  go_wp2_with fail
  go_loopw [1, 5] (fun q i wr => ∃ m : Nat, m ≤ keys.length ∧ i = .int .i64 m ∧ q = .int .i64 (k + m : Nat) ∧ Hid (Row wr b off keys.length (fun x => if x < m then .string ⟨(mt (k + x)).toArray⟩ else .string ⟨(keys.getD x []).toArray⟩)) ∧ Frm B w wr) (fun _ i _ => keys.length - (intOf i).toNat)
  case atStart => exact ⟨0, Nat.zero_le _, rfl, rfl, HR.out.congr (fun m _ => by simp), Frm.refl _ _⟩
  case round =>
    obtain ⟨m, hm, rfl, rfl, HRW, hF⟩ := hrel
    by_cases hlt : m < keys.length
    · obtain ⟨rfl, hb⟩ := HA.out (by omega)
      go_wp2_with fail
      refine (markText (k + m) _ (by omega) (by omega)).mono ?_
      rintro e w1 ⟨rfl, hB1⟩
      have hrow1 := HRW.out.later hB1
      have hc := (hrow1 m hlt).1
      have hf := (hrow1 m hlt).2
      have HR1 : Hid (Row (w1.setCell ⟨b, off + m, none⟩ (.string ⟨(mt (k + m)).toArray⟩)) b off keys.length (fun x => if x < m + 1 then .string ⟨(mt (k + x)).toArray⟩ else .string ⟨(keys.getD x []).toArray⟩)) := by
        refine (hrow1.set m hlt _).congr (fun x _ => ?_)
        by_cases e : x = m
        · subst e; rw [if_pos rfl, if_pos (by omega)]
        · rw [if_neg e]
          by_cases e2 : x < m
          · rw [if_pos e2, if_pos (by omega)]
          · rw [if_neg e2, if_neg (by omega)]
      have hF1 : Frm B w (w1.setCell ⟨b, off + m, none⟩ (.string ⟨(mt (k + m)).toArray⟩)) := (hF.trans (Frm.of_below hB1)).set hb _
      clear hrow1 hB1 hF
      generalize mt (k + m) = y at *
      go_wp2_with fail
      go_roundw
      case rel => exact ⟨m + 1, by omega, by go_num, by go_num, HR1.out, hF1⟩
      case measure => simp [intOf]; omega
    · have hm' : m = keys.length := by omega
      have HO : Hid (OwnStrs wr B a (marks keys.length k)) := by
        refine OwnStrs.of_row (b := b) (off := off) (by rw [marks_len]; exact HA.out) ?_
        rw [marks_len]
        exact HRW.out.congr (fun x hx => by rw [if_pos (by omega), marks_at hx])
      subst hm'
      go_wp2_with fail
      go_ret
      exact ⟨rfl, HO.out, hF⟩
set_option maxHeartbeats 800000 in
theorem heldStrs (n : Nat) (a : Option Addr) (c k : Nat) (B : Nat → Prop) (w : World) (hl : n ≤ maxLen) (h0 : 0 < k) (h1 : k + n < 1000000000000) (hS : Strs w B a (marks n k)) :
    Calls Try.prog 46 #[.slice a n c, .int .i64 k] w fun e w' => e = .returned (.int .i64 (k + n : Nat)) ∧ Below w.heap.size w w' := by
  unfold maxLen at hl
  have HS : Hid (Strs w B a (marks n k)) := hS
  clear hS
  go_enter Try.func46, Try.ntmps46
  go_wp2_with fail
  go_loopw [1, 5] (fun q i wr => ∃ m : Nat, m ≤ n ∧ i = .int .i64 m ∧ q = .int .i64 (k + m : Nat) ∧ Below w.heap.size w wr) (fun _ i _ => n - (intOf i).toNat)
  case atStart => exact ⟨0, Nat.zero_le _, rfl, rfl, Below.refl _ _⟩
  case round =>
    obtain ⟨m, hm, rfl, rfl, hw⟩ := hrel
    by_cases hlt : m < n
    · obtain ⟨b, off, rfl, hc⟩ : ∃ b off, a = some ⟨b, off, none⟩ ∧ wr.cell? ⟨b, off + m, none⟩ = some (.string ⟨(mt (k + m)).toArray⟩) := by
        rcases HS.out.later hw with h | ⟨b, off, ha, _, hc⟩
        · rw [marks_len] at h; omega
        · have := hc m (by rw [marks_len]; exact hlt)
          refine ⟨b, off, ha, ?_⟩
          rw [this]; simp [marks]
      have hki : (m : Int) < (n : Int) := by omega
      have HW : Hid (Below w.heap.size w wr) := hw
      clear hw
      go_wp2_with fail
      go_region_with (go_at_call 57; refine (markText (k + m) _ ?_ ?_).mono ?_; omega; omega; rintro e w1 ⟨rfl, hB1⟩; have hc1 := hB1.cell (p := ⟨b, off + m, none⟩) (World.block_lt_of_cell? wr.drew ⟨b, off + m, none⟩ hc); rw [show wr.drew.cell? ⟨b, off + m, none⟩ = _ from hc] at hc1)
      all_goals
        have hB2 : Below w.heap.size w w1 := HW.out.drew.trans (hB1.mono HW.out.size)
        clear hB1 hc hc1
        generalize mt (k + m) = y at *
        have hyy : (y != y) = false := by simp
        go_wp2_with fail
        go_roundw
        case rel => exact ⟨m + 1, by omega, by go_num, by go_num, hB2⟩
        case measure => simp [intOf]; omega
    · have hm' : m = n := by omega
      subst hm'
      go_wp2_with fail
      go_ret
      exact ⟨rfl, hw⟩
end Go.Proofs.Ytkncpfhblciplaa
