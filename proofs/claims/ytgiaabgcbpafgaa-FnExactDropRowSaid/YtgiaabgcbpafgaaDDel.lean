import Derived.Test.YtgiaabgcbpafgaaDCst
import Derived.Test.YtgiaabgcbpafgaaDPi
namespace Go.Proofs.Ytgiaabgcbpafgaa
open Go.RowKit
set_option linter.unusedSimpArgs false
theorem dropFnI (n id : Int) (u : Value) (pb : Nat) (w : World) (hp : w.cell? ⟨pb, 0, none⟩ = some (.int .i64 id)) :
    Calls Try.prog 39 #[.agg #[.int .i64 n, u], .pointer (some ⟨pb, 0, none⟩)] w fun e w' => e = .returned (.bool (n == id)) ∧ Below w.heap.size w w' := by
  have hlt := World.block_lt_of_cell? w ⟨pb, 0, none⟩ hp
  have hb := boxD 38 w #[.int .i64 n, u]
  have c0 := cell_at (o := 0) hb.1 rfl
  have c1 := (hb.2.cell (p := ⟨pb, 0, none⟩) hlt).trans hp
  have HB := Lib.hid hb.2
  clear hb hlt hp
  go_enter Try.func39, Try.ntmps39
  go_wp2_with fail
  go_ret
  exact ⟨rfl, HB.out⟩
theorem zeroRw (w : World) : (zeroValue 38).run Try.prog w = .ok (.agg #[.int .i64 0, .slice none 0 0]) w := by
  have h : (Try.prog.info? 38).map (fun i => i.zero) = some (some (.agg #[.int .i64 0, .slice none 0 0])) := by kernel_rfl
  obtain ⟨i, hi, hz⟩ := Option.map_eq_some_iff.1 h
  simp [zeroValue, typeInfo, hi, hz]
theorem run_clearRow (w : World) (q o c : Nat) (v0 v1 : Value) (e0 : w.cell? ⟨q, o, none⟩ = some v0) (e1 : w.cell? ⟨q, o + 1, none⟩ = some v1) (z0 : w.frozen? ⟨q, o, none⟩ = false) (z1 : w.frozen? ⟨q, o + 1, none⟩ = false) :
    ∃ w', (∀ ty, (Builtin.clear_ #[52] ty #[.slice (some ⟨q, o, none⟩) 1 c]).run Try.prog w = .ok (.tuple #[]) w') ∧ Frm (· = q) w w' ∧ ∀ {T : TypeId} {M : Nat} {g : Nat → Value}, w.rowIs q T M g → ∃ g', w'.rowIs q T M g' ∧ ∀ m, m < o → g' m = g m := by
  have hst := run_storeCells_cells (P := Try.prog) q o [.int .i64 0, .slice none 0 0] 0 w (fun j hj => by
    simp only [List.length_cons, List.length_nil] at hj
    rcases (by omega : j = 0 ∨ j = 1) with rfl | rfl
    · simp [e0]
    · simp [e1]) (fun j hj => by
    simp only [List.length_cons, List.length_nil] at hj
    rcases (by omega : j = 0 ∨ j = 1) with rfl | rfl
    · simpa using z0
    · simpa using z1) (by intro v hv; simp only [List.mem_cons, List.not_mem_nil, or_false] at hv; rcases hv with rfl | rfl <;> rfl)
  have hzc : (Builtin.zeroCells (Value.agg #[.int .i64 0, .slice none 0 0]).cells 1).toList = [.int .i64 0, .slice none 0 0] := by kernel_rfl
  refine ⟨(w.setCell ⟨q, o, none⟩ (.int .i64 0)).setCell ⟨q, o + 1, none⟩ (.slice none 0 0), fun ty => ?_, (frm_set _ _ _ _).trans (frm_set _ _ _ _), fun hr => ⟨_, (hr.set o _).set (o + 1) _, fun m hm => by rw [if_neg (by omega), if_neg (by omega)]⟩⟩
  simp only [Nat.add_zero] at hst
  simp [Builtin.clear_, run_underlying Try.underlying52, zeroRw, hzc, hst, World.setCells]
/-- the first row that has the Id -/
theorem indexFnI (l : List RowV) (q c pb : Nat) (id : Int) (w : World) (hl : l.length ≤ 1048576) (hc : ∀ j (h : j < l.length), w.cell? ⟨q, j * 2, none⟩ = some (.int .i64 l[j].id) ∧ ∃ u, w.cell? ⟨q, j * 2 + 1, none⟩ = some u) (hp : w.cell? ⟨pb, 0, none⟩ = some (.int .i64 id)) :
    Calls Try.prog 55 #[.slice (some ⟨q, 0, none⟩) l.length c, .func (.func 39) #[] #[.pointer (some ⟨pb, 0, none⟩)]] w fun e w' => e = .returned (.int .i64 (rplI l id)) ∧ Below w.heap.size w w' := by
  have HC := Lib.hid hc
  have HP := Lib.hid hp
  clear hc hp
  go_enter Try.func55, Try.ntmps55
  go_wp2_with fail
  go_loopw [8] (fun t wr => ∃ k : Nat, k ≤ l.length ∧ t = .int .i64 k ∧ Hid ((∀ m (h : m < l.length), m < k → l[m].id ≠ id) ∧ Below w.heap.size w wr)) (fun t _ => l.length - (intOf t).toNat)
  case atStart => exact ⟨0, Nat.zero_le _, rfl, fun m _ h => absurd h (by omega), Below.refl _ _⟩
  case round =>
    obtain ⟨k, hk, rfl, HW⟩ := hrel
    by_cases hlt : k < l.length
    case neg =>
      have hkd : decide ((k : Int) < (l.length : Int)) = false := by simp; omega
      have HR : Hid (rplI l id = -1) := rpl_none (fun m h => HW.out.1 m h (by omega))
      go_wp2_with fail
      go_ret
      exact ⟨by rw [HR.out]; rfl, HW.out.2⟩
    have hki : (k : Int) < (l.length : Int) := by omega
    obtain ⟨h0, u, h1⟩ := HC.out k hlt
    have c0 := (HW.out.2.cell (p := ⟨q, k * 2, none⟩) (World.block_lt_of_cell? w ⟨q, k * 2, none⟩ h0)).trans h0
    have c1 := (HW.out.2.cell (p := ⟨q, k * 2 + 1, none⟩) (World.block_lt_of_cell? w ⟨q, k * 2 + 1, none⟩ h1)).trans h1
    have CC := Lib.hid (dropFnI l[k].id id u pb wr ((HW.out.2.cell (p := ⟨pb, 0, none⟩) (World.block_lt_of_cell? w ⟨pb, 0, none⟩ HP.out)).trans HP.out))
    clear h0 h1
    by_cases he : l[k].id = id
    · have hb : (l[k].id == id) = true := by simpa using he
      rw [hb] at CC
      have HR : Hid (rplI l id = k) := rpl_at hlt he (fun m h hm => HW.out.1 m h hm)
      clear he hb
      generalize l[k].id = y at *
      go_wp2_with (go_at_call 39; refine CC.out.mono ?_; rintro e w1 ⟨rfl, hB⟩; have HB := Lib.hid (HW.out.2.trans (hB.mono HW.out.2.size)); clear hB)
      go_ret
      exact ⟨by rw [HR.out]; rfl, HB.out⟩
    · have hb : (l[k].id == id) = false := by simpa using he
      rw [hb] at CC
      have HN : Hid (∀ m (h : m < l.length), m < k + 1 → l[m].id ≠ id) := fun m h hm => by
        by_cases e : m = k
        · subst e; exact he
        · exact HW.out.1 m h (by omega)
      clear he hb
      generalize l[k].id = y at *
      go_wp2_with (go_at_call 39; refine CC.out.mono ?_; rintro e w1 ⟨rfl, hB⟩; have HB := Lib.hid (HW.out.2.trans (hB.mono HW.out.2.size)); clear hB)
      go_roundw
      case rel => exact ⟨k + 1, by omega, by go_num, HN.out, HB.out⟩
      case measure => simp [intOf]; omega
def shG (g : Nat → Value) (k m : Nat) : Nat → Value := fun p => if k * 2 ≤ p ∧ p < m * 2 then g (p + 2) else g p
theorem frm_below {w w' : World} {F : Nat → Prop} (h : Below w.heap.size w w') : Frm F w w' := ⟨h.os, h.tape, h.output, h.size, fun b hb _ => h.block b hb⟩
theorem deleteI (l : List RowV) (q pb k : Nat) (id : Int) (g : Nat → Value) (w : World) (hl : l.length ≤ 1048576) (hk : k < l.length) (hke : l[k].id = id) (hu : ∀ m (h : m < l.length), m ≠ k → l[m].id ≠ id) (hr : w.rowIs q 38 (l.length * 2) g) (hg : ∀ j (h : j < l.length), g (j * 2) = .int .i64 l[j].id ∧ ∃ a n c, g (j * 2 + 1) = .slice a n c) (hp : w.cell? ⟨pb, 0, none⟩ = some (.int .i64 id)) (hpq : pb ≠ q) :
    Calls Try.prog 38 #[.slice (some ⟨q, 0, none⟩) l.length l.length, .func (.func 39) #[] #[.pointer (some ⟨pb, 0, none⟩)]] w fun e w' => e = .returned (.slice (some ⟨q, 0, none⟩) (l.length - 1) l.length) ∧ Frm (· = q) w w' ∧ ∃ g', w'.rowIs q 38 (l.length * 2) g' ∧ ∀ m, m < (l.length - 1) * 2 → g' m = shG g k (l.length - 1) m := by
  have hrp : rplI l id = k := rpl_at hk hke (fun m h hm => hu m h (by omega))
  have IX := Lib.hid (indexFnI l q l.length pb id w hl (fun j h => ⟨by rw [hr.cell (i := j * 2) (by omega), (hg j h).1], _, hr.cell (i := j * 2 + 1) (by omega)⟩) hp)
  rw [hrp] at IX
  have HR := Lib.hid hr
  have HG := Lib.hid hg
  have HU := Lib.hid hu
  have HPP := Lib.hid (And.intro hp hpq)
  have hpl := World.block_lt_of_cell? w ⟨pb, 0, none⟩ hp
  have HPL := Lib.hid hpl
  clear hrp hr hg hu hp hpq hke hpl
  go_enter Try.func38, Try.ntmps38
  go_wp2_with fail
  refine IX.out.mono ?_
  rintro e w1 ⟨rfl, hB⟩
  have H1 : Hid (Frm (· = q) w w1 ∧ w1.rowIs q 38 (l.length * 2) (shG g k k)) := ⟨frm_below hB, (HR.out.of_block (hB.block _ HR.out.lt)).congr (fun m _ => by unfold shG; rw [if_neg (by omega)])⟩
  have hkn : ((k : Int) == -1) = false := by simp <;> omega
  have hkn2 : ¬ ((k : Int) = -1) := by omega
  clear hB
  go_wp2_with fail
  go_loopw [5, 6] (fun s t wr => ∃ m : Nat, k ≤ m ∧ m + 1 ≤ l.length ∧ s = .int .i64 m ∧ t = .int .i64 ((m + 1 : Nat) : Int) ∧ Hid (Frm (· = q) w wr ∧ wr.rowIs q 38 (l.length * 2) (shG g k m))) (fun _ t _ => l.length - (intOf t).toNat)
  case atStart => exact ⟨k, Nat.le_refl _, by omega, rfl, by go_num, H1.out⟩
  case round =>
    obtain ⟨m, hkm, hml, rfl, rfl, HW⟩ := hrel
    by_cases hlt : m + 1 < l.length
    case neg =>
      have hkd : decide (((m + 1 : Nat) : Int) < (l.length : Int)) = false := by simp; omega
      have hm1 : l.length = m + 1 := by omega
      have hr := HW.out.2
      obtain ⟨w2, hrun, hfr, hrow⟩ := run_clearRow wr q (m * 2) 1 _ _ (hr.cell (i := m * 2) (by omega)) (hr.cell (i := m * 2 + 1) (by omega)) (hr.frozen _) (hr.frozen _)
      obtain ⟨g', hr2, hg2⟩ := hrow hr
      have HE : Hid (Frm (· = q) w w2 ∧ w2.rowIs q 38 (l.length * 2) g' ∧ ∀ p, p < m * 2 → g' p = shG g k m p) := ⟨HW.out.1.trans hfr, hr2, hg2⟩
      have h1 : l.length - m = 1 := by omega
      have h2 : (m : Int) ≤ (l.length : Int) := by omega
      have HM := Lib.hid hm1
      clear hr hfr hrow hr2 hg2 hm1
      go_wp2_with fail
      go_ret
      have hm1 := HM.out
      have hl1 : l.length - 1 = m := by omega
      refine ⟨?_, HE.out.1, g', HE.out.2.1, fun p hp => ?_⟩
      · rw [hl1]; rfl
      · rw [hl1] at hp ⊢
        exact HE.out.2.2 p hp
    have hki : ((m + 1 : Nat) : Int) < (l.length : Int) := by omega
    have hr := HW.out.2
    have c0 := hr.cell (i := (m + 1) * 2) (by omega)
    have c1 := hr.cell (i := (m + 1) * 2 + 1) (by omega)
    have hsv : shG g k m ((m + 1) * 2) = .int .i64 l[m + 1].id := by unfold shG; rw [if_neg (by omega)]; exact (HG.out _ hlt).1
    obtain ⟨ua, un, uc, hus⟩ : ∃ a n c, shG g k m ((m + 1) * 2 + 1) = .slice a n c := by unfold shG; rw [if_neg (by omega)]; exact (HG.out _ hlt).2
    rw [hsv] at c0
    rw [hus] at c1
    have HNE := HU.out (m + 1) hlt (by omega)
    have hne : (l[m + 1].id == id) = false := by simpa using HNE
    obtain ⟨W2, hW2⟩ : ∃ W2, W2 = wr.alloc (.cells #[.int .i64 l[m + 1].id, .slice ua un uc] 38) := ⟨_, rfl⟩
    have hb2 : Below wr.heap.size wr W2 := by rw [hW2]; exact below_allocD _ _
    have hn2 : W2.heap[wr.heap.size]? = some (.cells #[.int .i64 l[m + 1].id, .slice ua un uc] 38) := by rw [hW2]; exact heap_newD _ _
    have hp2 : W2.cell? ⟨pb, 0, none⟩ = some (.int .i64 id) := by
      have hlt2 : pb < wr.heap.size := Nat.lt_of_lt_of_le HPL.out HW.out.1.size
      rw [hb2.cell (p := ⟨pb, 0, none⟩) hlt2, World.cell?_of_block (w := w) (a := ⟨pb, 0, none⟩) (HW.out.1.block pb HPL.out HPP.out.2)]
      exact HPP.out.1
    have CC := Lib.hid (dropFnI l[m + 1].id id (.slice ua un uc) pb W2 hp2)
    rw [hne] at CC
    have k0 := cell_at (o := 0) hn2 rfl
    have k1 := cell_at (o := 1) hn2 rfl
    have HH := Lib.hid (And.intro hb2 hn2)
    rw [hW2] at CC k0 k1
    have HSV := Lib.hid hsv
    have HW2 := Lib.hid hW2
    clear hr HNE hne hb2 hn2 hp2 hsv hW2
    generalize l[m + 1].id = y at *
    have HSU := Lib.hid hus
    clear hus
    have HE : Hid (∀ w3, Below W2.heap.size W2 w3 → w3.rowIs q 38 (l.length * 2) (shG g k m) ∧ Frm (· = q) w ((w3.setCell ⟨q, m * 2, none⟩ (.int .i64 y)).setCell ⟨q, m * 2 + 1, none⟩ (.slice ua un uc)) ∧ ((w3.setCell ⟨q, m * 2, none⟩ (.int .i64 y)).setCell ⟨q, m * 2 + 1, none⟩ (.slice ua un uc)).rowIs q 38 (l.length * 2) (shG g k (m + 1))) := fun w3 hB => by
      have hq := HW.out.2.lt
      have h3 := HW.out.2.of_block (w' := w3) (by rw [hB.block q (Nat.lt_of_lt_of_le hq HH.out.1.size), HH.out.1.block q hq])
      refine ⟨h3, ((HW.out.1.trans (frm_below HH.out.1)).trans (frm_below hB)).trans ((frm_set _ _ _ _).trans (frm_set _ _ _ _)), ((h3.set (m * 2) _).set (m * 2 + 1) _).congr (fun p _ => ?_)⟩
      by_cases e1 : p = m * 2 + 1
      · subst e1
        have h := HSU.out
        unfold shG at h ⊢
        rw [if_neg (by omega)] at h
        rw [if_pos rfl, if_pos (by omega), ← h]
        congr 1 <;> omega
      · by_cases e0 : p = m * 2
        · subst e0
          have h := HSV.out
          unfold shG at h ⊢
          rw [if_neg (by omega)] at h
          rw [if_neg e1, if_pos rfl, if_pos (by omega), ← h]
          congr 1 <;> omega
        · rw [if_neg e1, if_neg e0]
          unfold shG
          by_cases e2 : k * 2 ≤ p ∧ p < m * 2
          · rw [if_pos e2, if_pos (by omega)]
          · rw [if_neg e2, if_neg (by omega)]
    go_wp2_with (go_at_call 39; refine CC.out.mono ?_; rintro e w3 ⟨rfl, hB⟩; clear k0 k1; rw [← HW2.out] at hB; have k0 := cell_at (o := 0) (heap_keptD HH.out.2 hB) rfl; have k1 := cell_at (o := 1) (heap_keptD HH.out.2 hB) rfl; have s0 := (HE.out _ hB).1.cell (i := m * 2) (by omega); have z0 := (HE.out _ hB).1.frozen (m * 2); have s1 := (HE.out _ hB).1.cell (i := m * 2 + 1) (by omega); have z1 := (HE.out _ hB).1.frozen (m * 2 + 1); have HEE := Lib.hid (HE.out _ hB).2; clear hB)
    go_roundw
    case rel => exact ⟨m + 1, by omega, by omega, by go_num, by go_num, HEE.out⟩
    case measure => simp [intOf]; omega
end Go.Proofs.Ytgiaabgcbpafgaa
