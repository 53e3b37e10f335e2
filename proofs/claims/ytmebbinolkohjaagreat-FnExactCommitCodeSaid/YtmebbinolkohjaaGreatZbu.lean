import Derived.Test.YtmebbinolkohjaaGreatZbt
import Derived.Test.YtmebbinolkohjaaGreatZbb
import Derived.Test.YtmebbinolkohjaaGreatZTk
namespace Go.Proofs.YtmebbinolkohjaaGreat
open Go.RowKit Go.Maps
set_option linter.unusedSimpArgs false
theorem bl_transU : ∀ x y z : List UInt8, Op.bytesLess x y = true → Op.bytesLess y z = true → Op.bytesLess x z = true
  | _, [], _, h, _ => by cases ‹List UInt8› <;> simp [Op.bytesLess] at h
  | _, _ :: _, [], _, h => by simp [Op.bytesLess] at h
  | [], _ :: _, _ :: _, _, _ => by simp [Op.bytesLess]
  | a :: r, b :: s, c :: t, h, k => by
    simp only [Op.bytesLess, Bool.or_eq_true, Bool.and_eq_true, decide_eq_true_eq, beq_iff_eq] at h k ⊢
    rcases h with h | ⟨h1, h2⟩
    · rcases k with k | ⟨k1, k2⟩
      · exact .inl (UInt8.lt_trans h k)
      · exact .inl (k1 ▸ h)
    · rcases k with k | ⟨k1, k2⟩
      · exact .inl (h1 ▸ k)
      · exact .inr ⟨h1.trans k1, bl_transU r s t h2 k2⟩
theorem up_ltU {l : List Tb} (hs : SchP l) : ∀ j i (hj : j < l.length) (hij : i < j), Op.bytesLess (l[i]'(by omega)).nm l[j].nm = true := by
  intro j
  induction j with
  | zero => intro i _ h; omega
  | succ j ih =>
    intro i hj hij
    have h1 := hs.up j hj
    by_cases e : i = j
    · subst e; exact h1
    · exact bl_transU _ _ _ (ih i (by omega) (by omega)) h1
theorem nm_uniqU {l : List Tb} (hs : SchP l) {i j : Nat} (hi : i < l.length) (hj : j < l.length) (e : l[i].nm = l[j].nm) : i = j := by
  rcases Nat.lt_trichotomy i j with h | h | h
  · have := up_ltU hs j i hj h; rw [e, bl_self] at this; cases this
  · exact h
  · have := up_ltU hs i j hi h; rw [e, bl_self] at this; cases this
theorem ref_exU {l : List Tb} (hs : SchP l) {i c : Nat} (hi : i < l.length) (hc : c < l[i].cols.length) (h4 : l[i].cols[c].k = 4) : ∃ j, ∃ hj : j < l.length, l[j].nm = l[i].cols[c].rf :=
  hs.ref i hi c hc ((col_ref4 ((tab_ofU (hs.tab i hi)).cols c hc).1).1 h4)
theorem ref_one {l : List Tb} {x : List (List RowV)} (hs : SchP l) {i c j : Nat} (hi : i < l.length) (hx : i < x.length) (hj : j < l.length) (hjx : j < x.length) (hc : c < l[i].cols.length) (e : l[j].nm = l[i].cols[c].rf) (h : thereB x[i] c x[j] = true) : refP l x i c := fun _ _ _ _ j' hj' hjx' e' => by
  have := nm_uniqU hs hj hj' (e.trans e'.symm)
  subst this; exact h
theorem ref_other {l : List Tb} {x : List (List RowV)} {i c : Nat} (hi : i < l.length) (h : ∀ hc : c < l[i].cols.length, ¬ l[i].cols[c].k = 4) : refP l x i c := fun _ _ hc h4 => absurd h4 (h hc)
theorem ref_fail {l : List Tb} {x : List (List RowV)} {i c j : Nat} (hi : i < l.length) (hx : i < x.length) (hj : j < l.length) (hjx : j < x.length) (hc : c < l[i].cols.length) (h4 : l[i].cols[c].k = 4) (e : l[j].nm = l[i].cols[c].rf) (h : thereB x[i] c x[j] = false) : refB l x = false := ref_no hi (fun hn => by
  have := hn hi hx hc h4 j hj hjx e
  rw [h] at this; cases this)
theorem colsAt {w : World} {B : Nat → Prop} {l : List Cl} {ca : Option Addr} {cc c : Nat} (h : Rd w B (dColumnS l) (.slice ca l.length cc)) (hc : c < l.length) : ∃ kb ko, ca = some ⟨kb, ko, none⟩ ∧ ∀ W, Below w.heap.size w W → W.cell? ⟨kb, ko + c * 8, none⟩ = some (.string ⟨l[c].nm.toArray⟩) ∧ W.cell? ⟨kb, ko + c * 8 + 1, none⟩ = some (.int .i64 l[c].k) ∧ W.cell? ⟨kb, ko + c * 8 + 2, none⟩ = some (.int .i64 l[c].mn) ∧ W.cell? ⟨kb, ko + c * 8 + 3, none⟩ = some (.int .i64 l[c].mx) ∧ W.cell? ⟨kb, ko + c * 8 + 4, none⟩ = some (.int .i64 l[c].lo) ∧ W.cell? ⟨kb, ko + c * 8 + 5, none⟩ = some (.int .i64 l[c].hi) ∧ W.cell? ⟨kb, ko + c * 8 + 6, none⟩ = some (.string ⟨l[c].rf.toArray⟩) ∧ W.cell? ⟨kb, ko + c * 8 + 7, none⟩ = some (.bool l[c].st) := by
  obtain ⟨b, off, rfl, -, hd⟩ := Rd.things (d := dColumn) (n := 8) h c hc
  obtain ⟨u0, q0, r0⟩ := hd 0 (by omega)
  obtain rfl : u0 = .string ⟨l[c].nm.toArray⟩ := r0
  rw [Nat.add_zero] at q0
  obtain ⟨u1, q1, r1⟩ := hd 1 (by omega)
  obtain rfl : u1 = .int .i64 l[c].k := r1
  obtain ⟨u2, q2, r2⟩ := hd 2 (by omega)
  obtain rfl : u2 = .int .i64 l[c].mn := r2
  obtain ⟨u3, q3, r3⟩ := hd 3 (by omega)
  obtain rfl : u3 = .int .i64 l[c].mx := r3
  obtain ⟨u4, q4, r4⟩ := hd 4 (by omega)
  obtain rfl : u4 = .int .i64 l[c].lo := r4
  obtain ⟨u5, q5, r5⟩ := hd 5 (by omega)
  obtain rfl : u5 = .int .i64 l[c].hi := r5
  obtain ⟨u6, q6, r6⟩ := hd 6 (by omega)
  obtain rfl : u6 = .string ⟨l[c].rf.toArray⟩ := r6
  obtain ⟨u7, q7, r7⟩ := hd 7 (by omega)
  obtain rfl : u7 = .bool l[c].st := r7
  exact ⟨b, off, rfl, fun W hB => ⟨cell_keptS q0 hB, cell_keptS q1 hB, cell_keptS q2 hB, cell_keptS q3 hB, cell_keptS q4 hB, cell_keptS q5 hB, cell_keptS q6 hB, cell_keptS q7 hB⟩⟩
set_option maxRecDepth 100000 in
set_option maxHeartbeats 6400000 in
theorem refS (l : List Tb) (sa : Option Addr) (sc : Nat) (A : Nat → Prop) (x : StV) (xa : Option Addr) (xc : Nat) (B : Nat → Prop) (w : World) (ho : (dRowSS x.tables).le maxLen) (hs : SchP l) (hf : FormP l x) (hT : Rd w A (dTableS l) (.slice sa l.length sc)) (hR : Rd w B (dRowSS x.tables) (.slice xa x.tables.length xc)) :
    Calls Tryz.prog 62 #[.agg #[.slice sa l.length sc], .agg #[.slice xa x.tables.length xc, .int .i64 x.next]] w fun e w' => e = .returned (.bool (refB l x.tables)) ∧ Below w.heap.size w w' := by
  have HR : Hid (∀ W, Below w.heap.size w W → Rd W B (dRowSS x.tables) (.slice xa x.tables.length xc)) := fun W h => Rd.later hR h
  have HT : Hid (∀ W, Below w.heap.size w W → Rd W A (dTableS l) (.slice sa l.length sc)) := fun W h => Rd.later hT h
  have HO := Lib.hid ho
  have HS := Lib.hid hs
  have HLE := Lib.hid hf.1
  have hl4 : l.length ≤ 4 := hs.len.2
  have HRW : Hid (∀ i (hi : i < l.length) (hx : i < x.tables.length), x.tables[i].length ≤ 12 ∧ ∀ k (hk : k < x.tables[i].length), x.tables[i][k].cells.length = l[i].cols.length) := fun i hi hx => ⟨(hf.2.2 i hi hx).1, fun k hk => (row_ofU ((hf.2.2 i hi hx).2.2 k hk).2).len⟩
  have HC6 : Hid (∀ i (hi : i < l.length), l[i].cols.length ≤ 6) := fun i hi => (tab_ofU (hs.tab i hi)).len.2
  have hxl : x.tables.length ≤ 4 := by have := hf.1; omega
  have FD : Hid (∀ (s : List UInt8) (W : World), BoxE 37 32 w W #[.slice sa l.length sc] #[.slice xa x.tables.length xc, .int .i64 x.next] → (∃ j, ∃ hj : j < l.length, l[j].nm = s) → Calls Tryz.prog 39 #[.agg #[.slice sa l.length sc], .string ⟨s.toArray⟩] W fun e w' => ∃ j : Nat, ∃ hj : j < l.length, l[j].nm = s ∧ e = .returned (.int .i64 j) ∧ Below W.heap.size W w') := fun s W h he => by
    obtain ⟨Ad, hA⟩ := (HT.out _ h.bel).tabs
    exact findX l s sa sc Ad A W (by unfold maxLen; omega) hA he
  have HB := Lib.hid (boxE 37 32 w #[.slice sa l.length sc] #[.slice xa x.tables.length xc, .int .i64 x.next])
  clear ho hs hf hT hR
  go_enter Tryz.func62, Tryz.ntmps62
  go_wp2_with fail
  go_loopw [5] (fun t wr => ∃ i : Nat, i ≤ x.tables.length ∧ t = .int .i64 i ∧ Hid ((∀ m, m < l.length → m < i → ∀ c, refP l x.tables m c) ∧ BoxE 37 32 w wr #[.slice sa l.length sc] #[.slice xa x.tables.length xc, .int .i64 x.next])) (fun t _ => x.tables.length - (intOf t).toNat)
  case atStart => exact ⟨0, Nat.zero_le _, rfl, fun m _ h => absurd h (by omega), HB.out⟩
  case round =>
    obtain ⟨i, hi, rfl, HW⟩ := hrel
    generalize wr = wo at *
    have y0 := cell_at (o := 0) HW.out.2.b rfl
    by_cases hix : i < x.tables.length
    case neg =>
      have hki : decide ((i : Int) < (x.tables.length : Int)) = false := by simp; omega
      have HE := Lib.hid (ref_yes (fun m hm => HW.out.1 m hm (by have := HLE.out; omega)))
      go_wp2_with fail
      go_ret
      exact ⟨ret_b HE.out.symm, HW.out.2.bel⟩
    have hil : i < l.length := by have := HLE.out; omega
    have hi1 : (i : Int) < (x.tables.length : Int) := by omega
    have hi2 : (i : Int) < (l.length : Int) := by omega
    obtain ⟨xb, xo, ra, rq, hxa, hti⟩ := tabsAt (HR.out _ HW.out.2.bel) hix
    subst hxa
    obtain ⟨tq, tf, ca, cc, ua, uc, hsa, hbi⟩ := tblAt (HT.out _ HW.out.2.bel) hil
    subst hsa
    have HRI := Lib.hid (HRW.out i hil hix)
    have hrl := HRI.out.1
    have hcl6 := HC6.out i hil
    have BK : Hid (∀ W, Below wo.heap.size wo W → BoxE 37 32 w W #[.slice (some ⟨tq, tf, none⟩) l.length sc] #[.slice (some ⟨xb, xo, none⟩) x.tables.length xc, .int .i64 x.next]) := fun W h => HW.out.2.later h
    have HTI := Lib.hid hti
    have TBI : Hid (∀ W, Below wo.heap.size wo W → W.cell? ⟨tq, tf + i * 4 + 1, none⟩ = some (.slice ca l[i].cols.length cc) ∧ Rd W A (dColumnS l[i].cols) (.slice ca l[i].cols.length cc)) := fun W h => ⟨(hbi W h).2.1, (hbi W h).2.2.2.2.1⟩
    clear hti hbi
    go_wp2_with fail
    clear y0
    go_loopw [6] (fun t wr => ∃ c : Nat, c ≤ l[i].cols.length ∧ t = .int .i64 c ∧ Hid ((∀ n, n < c → refP l x.tables i n) ∧ Below wo.heap.size wo wr)) (fun t _ => l[i].cols.length - (intOf t).toNat)
    case atStart => exact ⟨0, Nat.zero_le _, rfl, fun n h => absurd h (by omega), Below.refl _ _⟩
    case round =>
      obtain ⟨c, hc, rfl, HV⟩ := hrel
      generalize wr = wm at *
      have x0 := cell_at (o := 0) (BK.out _ HV.out.2).a rfl
      have t1 := (TBI.out _ HV.out.2).1
      by_cases hcl : c < l[i].cols.length
      case neg =>
        have hcd : decide ((c : Int) < (l[i].cols.length : Int)) = false := by simp; omega
        have HN : Hid (∀ m, m < l.length → m < i + 1 → ∀ n, refP l x.tables m n) := fun m hm hmi n => by
          by_cases e : m = i
          · subst e
            by_cases hn : n < l[m].cols.length
            · exact HV.out.1 n (by omega)
            · exact fun _ _ h => absurd h hn
          · exact HW.out.1 m hm (by omega) n
        have HB2 := Lib.hid (BK.out _ HV.out.2)
        go_wp2_with fail
        go_roundw
        case rel => exact ⟨i + 1, by omega, by go_num, HN.out, HB2.out⟩
        case measure => simp [intOf]; omega
      have hc1 : (c : Int) < (l[i].cols.length : Int) := by omega
      obtain ⟨kb, ko, hca, hco⟩ := colsAt (TBI.out _ HV.out.2).2 hcl
      subst hca
      obtain ⟨c0, c1, c2, c3, c4, c5, c6, c7⟩ := hco _ (Below.refl _ _)
      have HEX : Hid (l[i].cols[c].k = 4 → ∃ j, ∃ hj : j < l.length, l[j].nm = l[i].cols[c].rf) := fun h => ref_exU HS.out hil hcl h
      have HOT : Hid (¬ l[i].cols[c].k = 4 → refP l x.tables i c) := fun h => ref_other hil (fun _ => h)
      have HNC : Hid (refP l x.tables i c → ∀ n, n < c + 1 → refP l x.tables i n) := fun he n hn => by
        by_cases e : n = c
        · subst e; exact he
        · exact HV.out.1 n (by omega)
      have HYE : Hid (∀ j (hj : j < l.length) (hjx : j < x.tables.length), l[j].nm = l[i].cols[c].rf → thereB x.tables[i] c x.tables[j] = true → refP l x.tables i c) := fun j hj hjx e h => ref_one HS.out hil hix hj hjx hcl e h
      have HNO : Hid (∀ j (hj : j < l.length) (hjx : j < x.tables.length), l[i].cols[c].k = 4 → l[j].nm = l[i].cols[c].rf → thereB x.tables[i] c x.tables[j] = false → refB l x.tables = false) := fun j hj hjx h4 e h => ref_fail hil hix hj hjx hcl h4 e h
      clear hco
      generalize hy : l[i].cols[c] = y at *
      clear hy
      obtain ⟨ynm, yk, ymn, ymx, ylo, yhi, yrf, yst⟩ := y
      dsimp only at c0 c1 c2 c3 c4 c5 c6 c7 HEX HOT HYE HNO
      by_cases h4 : yk = 4
      case neg =>
        have HBA : Hid (Below wm.heap.size wm (wm.alloc (.cells #[.string ⟨ynm.toArray⟩, .int .i64 yk, .int .i64 ymn, .int .i64 ymx, .int .i64 ylo, .int .i64 yhi, .string ⟨yrf.toArray⟩, .bool yst] 75))) := below_allocD _ _
        have z1 := cell_at (o := 1) (heap_newD wm (.cells #[.string ⟨ynm.toArray⟩, .int .i64 yk, .int .i64 ymn, .int .i64 ymx, .int .i64 ylo, .int .i64 yhi, .string ⟨yrf.toArray⟩, .bool yst] 75)) rfl
        have HN := Lib.hid (HNC.out (HOT.out h4))
        have hne : (yk == 4) = false := by simpa using h4
        clear h4 HEX HOT HNC HYE HNO
        go_wp2_with fail
        go_roundw
        case rel => exact ⟨c + 1, by omega, by go_num, HN.out, HV.out.2.trans (HBA.out.mono HV.out.2.size)⟩
        case measure => simp [intOf]; omega
      subst h4
      have HBA : Hid (Below wm.heap.size wm (wm.alloc (.cells #[.string ⟨ynm.toArray⟩, .int .i64 4, .int .i64 ymn, .int .i64 ymx, .int .i64 ylo, .int .i64 yhi, .string ⟨yrf.toArray⟩, .bool yst] 75))) := below_allocD _ _
      have z1 := cell_at (o := 1) (heap_newD wm (.cells #[.string ⟨ynm.toArray⟩, .int .i64 4, .int .i64 ymn, .int .i64 ymx, .int .i64 ylo, .int .i64 yhi, .string ⟨yrf.toArray⟩, .bool yst] 75)) rfl
      have HBC : Hid (∀ W, Below (wm.alloc (.cells #[.string ⟨ynm.toArray⟩, .int .i64 4, .int .i64 ymn, .int .i64 ymx, .int .i64 ylo, .int .i64 yhi, .string ⟨yrf.toArray⟩, .bool yst] 75)).heap.size (wm.alloc (.cells #[.string ⟨ynm.toArray⟩, .int .i64 4, .int .i64 ymn, .int .i64 ymx, .int .i64 ylo, .int .i64 yhi, .string ⟨yrf.toArray⟩, .bool yst] 75)) W → Below wo.heap.size wo W) := fun W h => HV.out.2.trans ((HBA.out.trans (h.mono HBA.out.size)).mono HV.out.2.size)
      have HE4 := Lib.hid (HEX.out rfl)
      obtain ⟨j, hjl, hjn⟩ := HE4.out
      have hjx : j < x.tables.length := by have := HLE.out; omega
      have hj1 : (j : Int) < (x.tables.length : Int) := by omega
      obtain ⟨xb2, xo2, ja, jq, e2, htj⟩ := tabsAt (HR.out _ (BK.out _ (Below.refl _ _)).bel) hjx
      simp only [Option.some.injEq, Addr.mk.injEq, and_true] at e2
      obtain ⟨rfl, rfl⟩ := e2
      have HTJ := Lib.hid htj
      clear htj
      have CX : Hid (∀ W, Below (wm.alloc (.cells #[.string ⟨ynm.toArray⟩, .int .i64 4, .int .i64 ymn, .int .i64 ymx, .int .i64 ylo, .int .i64 yhi, .string ⟨yrf.toArray⟩, .bool yst] 75)).heap.size (wm.alloc (.cells #[.string ⟨ynm.toArray⟩, .int .i64 4, .int .i64 ymn, .int .i64 ymx, .int .i64 ylo, .int .i64 yhi, .string ⟨yrf.toArray⟩, .bool yst] 75)) W → W.cell? ⟨w.heap.size, 0, none⟩ = some (.slice (some ⟨tq, tf, none⟩) l.length sc) ∧ W.cell? ⟨w.heap.size + 1, 0, none⟩ = some (.slice (some ⟨xb, xo, none⟩) x.tables.length xc) ∧ W.cell? ⟨wm.heap.size, 6, none⟩ = some (.string ⟨yrf.toArray⟩) ∧ W.cell? ⟨xb, xo + j, none⟩ = some (.slice ja x.tables[j].length jq)) := fun W h => ⟨cell_at (o := 0) (BK.out _ (HBC.out W h)).a rfl, cell_at (o := 0) (BK.out _ (HBC.out W h)).b rfl, cell_keptS (cell_at (o := 6) (heap_newD wm _) rfl) h, (HTJ.out _ (HBC.out W h)).1⟩
      have FJ : Hid (∀ W, Below (wm.alloc (.cells #[.string ⟨ynm.toArray⟩, .int .i64 4, .int .i64 ymn, .int .i64 ymx, .int .i64 ylo, .int .i64 yhi, .string ⟨yrf.toArray⟩, .bool yst] 75)).heap.size (wm.alloc (.cells #[.string ⟨ynm.toArray⟩, .int .i64 4, .int .i64 ymn, .int .i64 ymx, .int .i64 ylo, .int .i64 yhi, .string ⟨yrf.toArray⟩, .bool yst] 75)) W → Calls Tryz.prog 39 #[.agg #[.slice (some ⟨tq, tf, none⟩) l.length sc], .string ⟨yrf.toArray⟩] W fun e w' => e = .returned (.int .i64 j) ∧ Below W.heap.size W w') := fun W h => (FD.out yrf W (BK.out _ (HBC.out W h)) HE4.out).mono (by
        rintro e w9 ⟨j9, hj9, e9, rfl, h9⟩
        have := nm_uniqU HS.out hjl hj9 (hjn.trans e9.symm)
        subst this
        exact ⟨rfl, h9⟩)
      clear HEX HOT HE4
      go_wp2_with fail
      clear x0 t1 c0 c1 c2 c3 c4 c5 c6 c7 z1
      refine wp_region_held_drew (S := (fun W => W.cell? ⟨w.heap.size, 0, none⟩ = some (.slice (some ⟨tq, tf, none⟩) l.length sc) ∧ W.cell? ⟨w.heap.size + 1, 0, none⟩ = some (.slice (some ⟨xb, xo, none⟩) x.tables.length xc) ∧ W.cell? ⟨wm.heap.size, 6, none⟩ = some (.string ⟨yrf.toArray⟩) ∧ W.cell? ⟨xb, xo + j, none⟩ = some (.slice ja x.tables[j].length jq))) (by kernel_rfl) ?_ (fun hHeld => ?_)
      · (first | exact CX.out _ (Below.refl _ _) | exact CX.out _ (Below.refl _ _).drew | exact CX.out _ BW.out)
      refine wpAnyH_take (i := 0) (v := ?_) rfl (by kernel_rfl) (by kernel_rfl) (by kernel_rfl) (fun _ _ _ h => h) (Or.inl ⟨by kernel_rfl, ?_⟩) (by assumption) ?_
      rotate_left
      · (intro wS hSw; (try dsimp only at hSw); go_simp <;> with_reducible rfl)
      try simp only [Act.put, tkS]
      refine wpAnyH_take (i := 1) (v := ?_) rfl (by kernel_rfl) (by kernel_rfl) (by kernel_rfl) (fun _ _ _ h => h) (Or.inl ⟨by kernel_rfl, ?_⟩) (by assumption) ?_
      rotate_left
      · (intro wS hSw; (try dsimp only at hSw); go_simp <;> with_reducible rfl)
      try simp only [Act.put, tkS]
      refine wpAnyH_take (i := 2) (v := ?_) rfl (by kernel_rfl) (by kernel_rfl) (by kernel_rfl) (fun _ _ _ h => h) (Or.inl ⟨by kernel_rfl, ?_⟩) (by assumption) ?_
      rotate_left
      · (intro wS hSw; (try dsimp only at hSw); go_simp <;> with_reducible rfl)
      try simp only [Act.put, tkS]
      refine wpAnyH_take (i := 3) (v := ?_) rfl (by kernel_rfl) (by kernel_rfl) (by kernel_rfl) (fun _ _ _ h => h) (Or.inl ⟨by kernel_rfl, ?_⟩) (by assumption) ?_
      rotate_left
      · (intro wS hSw; (try dsimp only at hSw); go_simp <;> with_reducible rfl)
      try simp only [Act.put, tkS]
      refine wpAnyH_take (i := 4) (v := ?_) rfl (by kernel_rfl) (by kernel_rfl) (by kernel_rfl) (fun _ _ _ h => h) (Or.inl ⟨by kernel_rfl, ?_⟩) (by assumption) ?_
      rotate_left
      · (intro wS hSw; (try dsimp only at hSw); go_simp <;> with_reducible rfl)
      try simp only [Act.put, tkS]
      refine wpAnyH_ready (rs := [5]) (by kernel_rfl) (by simp) (AllReadyH.cons rfl (fun K hK => ?_) AllReadyH.nil)
      go_simp
      (go_at_call 39; refine (FJ.out _ (Below.refl _ _).drew).mono ?_; rintro e w1 ⟨rfl, hB⟩; have BW : Hid (Below (wm.alloc (.cells #[.string ⟨ynm.toArray⟩, .int .i64 4, .int .i64 ymn, .int .i64 ymx, .int .i64 ylo, .int .i64 yhi, .string ⟨yrf.toArray⟩, .bool yst] 75)).heap.size (wm.alloc (.cells #[.string ⟨ynm.toArray⟩, .int .i64 4, .int .i64 ymn, .int .i64 ymx, .int .i64 ylo, .int .i64 yhi, .string ⟨yrf.toArray⟩, .bool yst] 75)) w1) := (Below.refl _ _).drew.trans hB; clear hB)
      refine hK.out _ _ ?_ (fun hHeld => ?_)
      · (first | exact CX.out _ (Below.refl _ _) | exact CX.out _ (Below.refl _ _).drew | exact CX.out _ BW.out)
      clear hK K
      try simp only [Act.put, tkS]
      refine wpAnyH_take (i := 6) (v := ?_) rfl (by kernel_rfl) (by kernel_rfl) (by kernel_rfl) (fun _ _ _ h => h) (Or.inl ⟨by kernel_rfl, ?_⟩) (by assumption) ?_
      rotate_left
      · (intro wS hSw; (try dsimp only at hSw); go_simp <;> with_reducible rfl)
      try simp only [Act.put, tkS]
      refine wpAnyH_take (i := 7) (v := ?_) rfl (by kernel_rfl) (by kernel_rfl) (by kernel_rfl) (fun _ _ _ h => h) (Or.inl ⟨by kernel_rfl, ?_⟩) (by assumption) ?_
      rotate_left
      · (intro wS hSw; (try dsimp only at hSw); go_simp <;> with_reducible rfl)
      try simp only [Act.put, tkS]
      refine wpAnyH_take (i := 8) (v := ?_) rfl (by kernel_rfl) (by kernel_rfl) (by kernel_rfl) (fun _ _ _ h => h) (Or.inl ⟨by kernel_rfl, ?_⟩) (by assumption) ?_
      rotate_left
      · (intro wS hSw; (try dsimp only at hSw); go_simp <;> with_reducible rfl)
      try simp only [Act.put, tkS]
      refine wpAnyH_done (by kernel_rfl) ?_ _
      have HYJ := Lib.hid (HYE.out j hjl hjx hjn)
      have HNJ := Lib.hid (HNO.out j hjl hjx trivial hjn)
      have HOJ : Hid (x.tables[j].length ≤ maxLen) := (Ls_le.1 ((Ls_le.1 HO.out).2.2 j hjx 0 (by omega) : (dRowS x.tables[j]).le maxLen)).2.1
      have HB1 := Lib.hid (HBC.out _ BW.out)
      clear HYE HNO CX FJ hjn
      generalize x.tables[j] = dst at *
      have HRO : Hid ((dRowS x.tables[i]).le maxLen) := (Ls_le.1 HO.out).2.2 i hix 0 (by omega)
      go_wp2_with fail
      go_loopw [9] (fun t wr => ∃ k : Nat, k ≤ x.tables[i].length ∧ t = .int .i64 k ∧ Hid ((∀ n (h : n < x.tables[i].length), n < k → setP (x.tables[i][n].cells.getD c []) dst) ∧ Below w1.heap.size w1 wr)) (fun t _ => x.tables[i].length - (intOf t).toNat)
      case atStart => exact ⟨0, Nat.zero_le _, rfl, fun n _ h => absurd h (by omega), Below.refl _ _⟩
      case round =>
        obtain ⟨k, hk, rfl, HX⟩ := hrel
        generalize wr = wn at *
        have HBN : Hid (Below wo.heap.size wo wn) := HB1.out.trans (HX.out.2.mono HB1.out.size)
        have y0 := cell_at (o := 0) (BK.out _ HBN.out).b rfl
        have r0 := (HTI.out _ HBN.out).1
        by_cases hkl : k < x.tables[i].length
        case neg =>
          have hkd : decide ((k : Int) < (x.tables[i].length : Int)) = false := by simp; omega
          have HN := Lib.hid (HNC.out (HYJ.out (there_yes (fun n h => HX.out.1 n h (by omega)))))
          clear HYJ HNJ HNC
          go_wp2_with fail
          go_roundw
          case rel => exact ⟨c + 1, by omega, by go_num, HN.out, HBN.out⟩
          case measure => simp [intOf]; omega
        have hk1 : (k : Int) < (x.tables[i].length : Int) := by omega
        obtain ⟨qb, qo, va, vq, hra, hrk⟩ := rowsAt (HTI.out _ HBN.out).2 hkl
        subst hra
        have hcr : c < x.tables[i][k].cells.length := by rw [HRI.out.2 k hkl]; exact hcl
        have hcr1 : (c : Int) < (x.tables[i][k].cells.length : Int) := by omega
        obtain ⟨-, v1, v2⟩ := hrk _ (Below.refl _ _)
        obtain ⟨cb, co, da, dq, hva, hcc⟩ := cellsAt v2 hcr
        subst hva
        have z0 := (hcc _ (Below.refl _ _)).1
        have HDA : Hid (∀ W, Below wn.heap.size wn W → Rd W B (dAtomS x.tables[i][k].cells[c]) (.slice da x.tables[i][k].cells[c].length dq)) := fun W h => (hcc W h).2
        have HLA : Hid ((dAtomS x.tables[i][k].cells[c]).le maxLen) := (Ls_le.1 ((Ls_le.1 HRO.out).2.2 k hkl 1 (by omega) : (dAtomSS x.tables[i][k].cells).le maxLen)).2.2 c hcr 0 (by omega)
        have hsl : x.tables[i][k].cells[c].length ≤ maxLen := (Ls_le.1 HLA.out).2.1
        unfold maxLen at hsl
        have HNX : Hid (setP x.tables[i][k].cells[c] dst → ∀ n (h : n < x.tables[i].length), n < k + 1 → setP (x.tables[i][n].cells.getD c []) dst) := fun he n h hn => by
          by_cases e : n = k
          · subst e; rw [getDA hcr]; exact he
          · exact HX.out.1 n h (by omega)
        have HNF : Hid (¬ setP x.tables[i][k].cells[c] dst → refB l x.tables = false) := fun h => HNJ.out (there_no (fun hn => h (by have := hn k hkl; rw [getDA hcr] at this; exact this)))
        clear hrk hcc v2
        generalize x.tables[i][k].cells[c] = s at *
        generalize x.tables[i][k].cells.length = cl at *
        go_wp2_with fail
        clear y0 r0 v1 z0
        go_loopw [11] (fun t wr => ∃ n : Nat, n ≤ s.length ∧ t = .int .i64 n ∧ Hid ((∀ m (h : m < s.length), m < n → ¬ rplI dst s[m].n = -1) ∧ Below wn.heap.size wn wr)) (fun t _ => s.length - (intOf t).toNat)
        case atStart => exact ⟨0, Nat.zero_le _, rfl, fun n _ h => absurd h (by omega), Below.refl _ _⟩
        case round =>
          obtain ⟨n, hn, rfl, HU⟩ := hrel
          have HX1 : Hid (Below w1.heap.size w1 wr) := HX.out.2.trans (HU.out.2.mono HX.out.2.size)
          by_cases hnl : n < s.length
          case neg =>
            have hnd : decide ((n : Int) < (s.length : Int)) = false := by simp; omega
            have HN := Lib.hid (HNX.out (fun m h => HU.out.1 m h (by omega)))
            clear HNX HNF
            go_wp2_with fail
            go_roundw
            case rel => exact ⟨k + 1, by omega, by go_num, HN.out, HX1.out⟩
            case measure => simp [intOf]; omega
          have hn1 : (n : Int) < (s.length : Int) := by omega
          obtain ⟨ab, ao, hda, hat⟩ := atomsAt (HDA.out _ HU.out.2) hnl
          subst hda
          have a1 := (hat _ (Below.refl _ _)).2.1
          have PL : Hid (∀ W, Below wr.heap.size wr W → Calls Tryz.prog 44 #[.slice ja dst.length jq, .int .i64 s[n].n] W fun e w' => e = .returned (.int .i64 (rplI dst s[n].n)) ∧ Below W.heap.size W w') := fun W h => rplS dst ja jq s[n].n B W HOJ.out (HTJ.out W ((HB1.out.trans (HX1.out.mono HB1.out.size)).trans (h.mono (HB1.out.trans (HX1.out.mono HB1.out.size)).size))).2
          have HNN : Hid (¬ rplI dst s[n].n = -1 → ∀ m (h : m < s.length), m < n + 1 → ¬ rplI dst s[m].n = -1) := fun he m h hm => by
            by_cases e : m = n
            · subst e; exact he
            · exact HU.out.1 m h (by omega)
          have HNZ : Hid (rplI dst s[n].n = -1 → refB l x.tables = false) := fun h => HNF.out (fun hn => hn n hnl h)
          have HRC := Lib.hid (rpl_cases dst s[n].n)
          clear hat HNX HNF
          generalize s[n].n = yn at *
          go_wp2_with fail
          refine (PL.out _ (by first | exact Below.refl _ _ | exact (Below.refl _ _).drew)).mono ?_
          rintro e w2 ⟨rfl, hB⟩
          have HB3 : Hid (Below wn.heap.size wn w2) := by
            first
            | exact HU.out.2.trans (hB.mono HU.out.2.size)
            | exact HU.out.2.drew.trans (hB.mono HU.out.2.drew.size)
          have HB4 := Lib.hid ((BK.out _ (HBN.out.trans (HB3.out.mono HBN.out.size))).bel)
          clear hB
          rcases HRC.out with ⟨hr, -⟩ | ⟨q0, -, hr, -, -⟩
          · have HE := Lib.hid (HNZ.out hr)
            rw [hr]
            clear hr HNN HNZ HRC PL
            go_wp2_with fail
            go_ret
            exact ⟨ret_b HE.out.symm, HB4.out⟩
          · have HN := Lib.hid (HNN.out (by omega))
            rw [hr]
            have hd : decide ((q0 : Int) < 0) = false := by simp
            clear hr HNN HNZ HRC PL
            go_wp2_with fail
            go_roundw
            case rel => exact ⟨n + 1, by omega, by go_num, HN.out, HB3.out⟩
            case measure => simp [intOf]; omega
end Go.Proofs.YtmebbinolkohjaaGreat
