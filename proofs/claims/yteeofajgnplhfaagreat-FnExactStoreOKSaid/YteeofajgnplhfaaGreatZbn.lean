import Derived.Test.YteeofajgnplhfaaGreatZbg
import Derived.Test.YteeofajgnplhfaaGreatZbm
import Derived.Test.YteeofajgnplhfaaGreatZTk
namespace Go.Proofs.YteeofajgnplhfaaGreat
open Go.RowKit
set_option linter.unusedSimpArgs false
def heldP (l : List Tb) (x : List (List RowV)) (i : Nat) : Prop := ∀ (hi : i < l.length) (hx : i < x.length) k (hk : k < x[i].length), l[i].rt = true ∨ ¬ strongN l x l[i].nm ⟨4, x[i][k].id, []⟩ l.length = 0
noncomputable def heldB (l : List Tb) (x : List (List RowV)) : Bool := @decide (∀ i, i < l.length → heldP l x i) (Classical.propDecidable _)
theorem held_yes {l : List Tb} {x : List (List RowV)} (h : ∀ i, i < l.length → heldP l x i) : heldB l x = true := by unfold heldB; exact @decide_eq_true _ (Classical.propDecidable _) h
theorem held_no {l : List Tb} {x : List (List RowV)} {i : Nat} (hi : i < l.length) (h : ¬ heldP l x i) : heldB l x = false := by unfold heldB; exact @decide_eq_false _ (Classical.propDecidable _) (fun hn => h (hn i hi))
set_option maxRecDepth 100000 in
set_option maxHeartbeats 6400000 in
theorem heldS (l : List Tb) (sa : Option Addr) (sc : Nat) (A : Nat → Prop) (x : StV) (xa : Option Addr) (xc : Nat) (B : Nat → Prop) (w : World) (hlo : (dTableS l).le maxLen) (ho : (dRowSS x.tables).le maxLen) (hl4 : l.length ≤ 1000) (hc6 : ∀ i (h : i < l.length), l[i].cols.length ≤ 1000) (hf : FormP l x) (hT : Rd w A (dTableS l) (.slice sa l.length sc)) (hR : Rd w B (dRowSS x.tables) (.slice xa x.tables.length xc)) :
    Calls Tryz.prog 19 #[.agg #[.slice sa l.length sc], .agg #[.slice xa x.tables.length xc, .int .i64 x.next]] w fun e w' => e = .returned (.bool (heldB l x.tables)) ∧ Below w.heap.size w w' := by
  have HR : Hid (∀ W, Below w.heap.size w W → Rd W B (dRowSS x.tables) (.slice xa x.tables.length xc)) := fun W h => Rd.later hR h
  have HT : Hid (∀ W, Below w.heap.size w W → Rd W A (dTableS l) (.slice sa l.length sc)) := fun W h => Rd.later hT h
  have ST : Hid (∀ (i : Nat) (hi : i < l.length) (id : Int) (W : World), BoxE 33 37 w W #[.slice sa l.length sc] #[.slice xa x.tables.length xc, .int .i64 x.next] → Calls Tryz.prog 37 #[.agg #[.slice sa l.length sc], .agg #[.slice xa x.tables.length xc, .int .i64 x.next], .int .i64 i, .int .i64 id] W fun e w' => e = .returned (.int .i64 (strongN l x.tables l[i].nm ⟨4, id, []⟩ l.length)) ∧ Below W.heap.size W w') := fun i hi id W h => strongS l sa sc A x xa xc B i hi id W hlo ho hl4 hc6 hf (hT.later h.bel) (hR.later h.bel)
  have HO := Lib.hid ho
  have HLE := Lib.hid hf.1
  have hxl : x.tables.length ≤ 1000 := by have := hf.1; omega
  have HR12 : Hid (∀ i (h : i < x.tables.length), x.tables[i].length ≤ 12) := fun i h => (hf.2.2 i (by have := hf.1; omega) h).1
  have HB := Lib.hid (boxE 33 37 w #[.slice sa l.length sc] #[.slice xa x.tables.length xc, .int .i64 x.next])
  clear hlo ho hc6 hf hT hR
  go_enter Tryz.func19, Tryz.ntmps19
  go_wp2_with fail
  go_loopw [5] (fun t wr => ∃ i : Nat, i ≤ x.tables.length ∧ t = .int .i64 i ∧ Hid ((∀ m, m < l.length → m < i → heldP l x.tables m) ∧ BoxE 33 37 w wr #[.slice sa l.length sc] #[.slice xa x.tables.length xc, .int .i64 x.next])) (fun t _ => x.tables.length - (intOf t).toNat)
  case atStart => exact ⟨0, Nat.zero_le _, rfl, fun m _ h => absurd h (by omega), HB.out⟩
  case round =>
    obtain ⟨i, hi, rfl, HW⟩ := hrel
    generalize wr = wo at *
    have x0 := cell_at (o := 0) HW.out.2.a rfl
    have y0 := cell_at (o := 0) HW.out.2.b rfl
    by_cases hlb : i < x.tables.length
    case neg =>
      have hki : decide ((i : Int) < (x.tables.length : Int)) = false := by simp; omega
      have HE := Lib.hid (held_yes (fun m hm => HW.out.1 m hm (by have := HLE.out; omega)))
      go_wp2_with fail
      go_ret
      exact ⟨ret_b HE.out.symm, HW.out.2.bel⟩
    have hil : i < l.length := by have := HLE.out; omega
    have hix : i < x.tables.length := by have := HLE.out; omega
    have hi1 : (i : Int) < (x.tables.length : Int) := by omega
    have hi2 : (i : Int) < (l.length : Int) := by omega
    obtain ⟨xb, xo, ra, rq, hxa, hti⟩ := tabsAt (HR.out _ HW.out.2.bel) hix
    subst hxa
    obtain ⟨tq, tf, ca, cc, ua, uc, hsa, hbi⟩ := tblAt (HT.out _ HW.out.2.bel) hil
    subst hsa
    have HTI := Lib.hid hti
    have TBI : Hid (∀ W, Below wo.heap.size wo W → W.cell? ⟨tq, tf + i * 4 + 3, none⟩ = some (.bool l[i].rt)) := fun W h => (hbi W h).2.2.2.1
    have hrl := HR12.out i hix
    clear hti hbi hlb
    have BK : Hid (∀ W, Below wo.heap.size wo W → BoxE 33 37 w W #[.slice (some ⟨tq, tf, none⟩) l.length sc] #[.slice (some ⟨xb, xo, none⟩) x.tables.length xc, .int .i64 x.next]) := fun W h => HW.out.2.later h
    go_wp2_with fail
    clear x0 y0
    go_loopw [6] (fun t wr => ∃ k : Nat, k ≤ x.tables[i].length ∧ t = .int .i64 k ∧ Hid ((∀ n (hn : n < x.tables[i].length), n < k → l[i].rt = true ∨ ¬ strongN l x.tables l[i].nm ⟨4, x.tables[i][n].id, []⟩ l.length = 0) ∧ Below wo.heap.size wo wr)) (fun t _ => x.tables[i].length - (intOf t).toNat)
    case atStart => exact ⟨0, Nat.zero_le _, rfl, fun n _ h => absurd h (by omega), Below.refl _ _⟩
    case round =>
      obtain ⟨k, hk, rfl, HV⟩ := hrel
      have y0 := cell_at (o := 0) (BK.out _ HV.out.2).b rfl
      have c0 := (HTI.out _ HV.out.2).1
      by_cases hkl : k < x.tables[i].length
      case neg =>
        have hkd : decide ((k : Int) < (x.tables[i].length : Int)) = false := by simp; omega
        have HN : Hid (∀ m, m < l.length → m < i + 1 → heldP l x.tables m) := fun m hm hmi => by
          by_cases e : m = i
          · subst e; exact fun _ _ n hn => HV.out.1 n hn (by omega)
          · exact HW.out.1 m hm (by omega)
        have HB2 := Lib.hid (BK.out _ HV.out.2)
        go_wp2_with fail
        go_roundw
        case rel => exact ⟨i + 1, by omega, by go_num, HN.out, HB2.out⟩
        case measure => simp [intOf]; omega
      have hkk : (k : Int) < (x.tables[i].length : Int) := by omega
      obtain ⟨rb, ro, va, vq, hra, hrk⟩ := rowsAt (HTI.out _ HV.out.2).2 hkl
      subst hra
      have CX : Hid (∀ W, Below wr.heap.size wr W → W.cell? ⟨w.heap.size, 0, none⟩ = some (.slice (some ⟨tq, tf, none⟩) l.length sc) ∧ W.cell? ⟨w.heap.size + 1, 0, none⟩ = some (.slice (some ⟨xb, xo, none⟩) x.tables.length xc) ∧ W.cell? ⟨w.heap.size + 1, 1, none⟩ = some (.int .i64 x.next) ∧ W.cell? ⟨tq, tf + i * 4 + 3, none⟩ = some (.bool l[i].rt) ∧ W.cell? ⟨xb, xo + i, none⟩ = some (.slice (some ⟨rb, ro, none⟩) x.tables[i].length rq) ∧ W.cell? ⟨rb, ro + k * 2, none⟩ = some (.int .i64 x.tables[i][k].id)) := fun W h =>
        have h2 := HV.out.2.trans (h.mono HV.out.2.size)
        ⟨cell_at (o := 0) (BK.out _ h2).a rfl, cell_at (o := 0) (BK.out _ h2).b rfl, cell_at (o := 1) (BK.out _ h2).b rfl, TBI.out _ h2, (HTI.out _ h2).1, (hrk W h).1⟩
      have SI : Hid (∀ W, Below wr.heap.size wr W → Calls Tryz.prog 37 #[.agg #[.slice (some ⟨tq, tf, none⟩) l.length sc], .agg #[.slice (some ⟨xb, xo, none⟩) x.tables.length xc, .int .i64 x.next], .int .i64 i, .int .i64 x.tables[i][k].id] W fun e w' => e = .returned (.int .i64 (strongN l x.tables l[i].nm ⟨4, x.tables[i][k].id, []⟩ l.length)) ∧ Below W.heap.size W w') := fun W h => ST.out i hil _ W (BK.out _ (HV.out.2.trans (h.mono HV.out.2.size)))
      have HNX : Hid (l[i].rt = true ∨ ¬ strongN l x.tables l[i].nm ⟨4, x.tables[i][k].id, []⟩ l.length = 0 → ∀ n (hn : n < x.tables[i].length), n < k + 1 → l[i].rt = true ∨ ¬ strongN l x.tables l[i].nm ⟨4, x.tables[i][n].id, []⟩ l.length = 0) := fun he n hn hnk => by
        by_cases e : n = k
        · subst e; exact he
        · exact HV.out.1 n hn (by omega)
      have HNO : Hid (l[i].rt = false → strongN l x.tables l[i].nm ⟨4, x.tables[i][k].id, []⟩ l.length = 0 → heldB l x.tables = false) := fun h1 h2 => held_no hil (fun hn => by
        rcases hn hil hix k hkl with h | h
        · rw [h1] at h; cases h
        · exact h h2)
      clear hrk
      cases hrt : l[i].rt
      case true =>
        rw [hrt] at CX
        have HV2 := Lib.hid HV.out.2
        clear hrt HNO HNX SI
        go_wp2_with fail
        clear y0 c0
        refine wp_region_held_drew (S := (fun W => W.cell? ⟨w.heap.size, 0, none⟩ = some (.slice (some ⟨tq, tf, none⟩) l.length sc) ∧ W.cell? ⟨w.heap.size + 1, 0, none⟩ = some (.slice (some ⟨xb, xo, none⟩) x.tables.length xc) ∧ W.cell? ⟨w.heap.size + 1, 1, none⟩ = some (.int .i64 x.next) ∧ W.cell? ⟨tq, tf + i * 4 + 3, none⟩ = some (.bool true) ∧ W.cell? ⟨xb, xo + i, none⟩ = some (.slice (some ⟨rb, ro, none⟩) x.tables[i].length rq) ∧ W.cell? ⟨rb, ro + k * 2, none⟩ = some (.int .i64 x.tables[i][k].id))) (by kernel_rfl) ?_ (fun hHeld => ?_)
        · (first | exact CX.out _ (Below.refl _ _) | exact CX.out _ (Below.refl _ _).drew | exact CX.out _ BW.out)
        refine wpAnyH_take (i := 0) (v := ?_) rfl (by kernel_rfl) (by kernel_rfl) (by kernel_rfl) (fun _ _ _ h => h) (Or.inl ⟨by kernel_rfl, ?_⟩) (by assumption) ?_
        rotate_left
        · (intro wS hSw; (try dsimp only at hSw); go_simp <;> with_reducible rfl)
        try simp only [Act.put, tkS]
        refine wpAnyH_take (i := 1) (v := ?_) rfl (by kernel_rfl) (by kernel_rfl) (by kernel_rfl) (fun _ _ _ h => h) (Or.inl ⟨by kernel_rfl, ?_⟩) (by assumption) ?_
        rotate_left
        · (intro wS hSw; (try dsimp only at hSw); go_simp <;> with_reducible rfl)
        try simp only [Act.put, tkS]
        refine wpAnyH_take (i := 2) (v := ?_) rfl (by kernel_rfl) (by kernel_rfl) (by kernel_rfl) (fun _ _ _ h => h) (Or.inl ⟨by kernel_rfl, ?_⟩) (by assumption) ?_
        rotate_left
        · (intro wS hSw; (try dsimp only at hSw); go_simp <;> with_reducible rfl)
        try simp only [Act.put, tkS]
        refine wpAnyH_take (i := 3) (v := ?_) rfl (by kernel_rfl) (by kernel_rfl) (by kernel_rfl) (fun _ _ _ h => h) (Or.inl ⟨by kernel_rfl, ?_⟩) (by assumption) ?_
        rotate_left
        · (intro wS hSw; (try dsimp only at hSw); go_simp <;> with_reducible rfl)
        try simp only [Act.put, tkS]
        refine wpAnyH_take (i := 4) (v := ?_) rfl (by kernel_rfl) (by kernel_rfl) (by kernel_rfl) (fun _ _ _ h => h) (Or.inl ⟨by kernel_rfl, ?_⟩) (by assumption) ?_
        rotate_left
        · (intro wS hSw; (try dsimp only at hSw); go_simp <;> with_reducible rfl)
        try simp only [Act.put, tkS]
        refine wpAnyH_take (i := 5) (v := ?_) rfl (by kernel_rfl) (by kernel_rfl) (by kernel_rfl) (fun _ _ _ h => h) (Or.inl ⟨by kernel_rfl, ?_⟩) (by assumption) ?_
        rotate_left
        · (intro wS hSw; (try dsimp only at hSw); go_simp <;> with_reducible rfl)
        try simp only [Act.put, tkS]
        refine wpAnyH_take (i := 6) (v := ?_) rfl (by kernel_rfl) (by kernel_rfl) (by kernel_rfl) (fun _ _ _ h => h) (Or.inl ⟨by kernel_rfl, ?_⟩) (by assumption) ?_
        rotate_left
        · (intro wS hSw; (try dsimp only at hSw); go_simp <;> with_reducible rfl)
        try simp only [Act.put, tkS]
        refine wpAnyH_take (i := 7) (v := ?_) rfl (by kernel_rfl) (by kernel_rfl) (by kernel_rfl) (fun _ _ _ h => h) (Or.inl ⟨by kernel_rfl, ?_⟩) (by assumption) ?_
        rotate_left
        · (intro wS hSw; (try dsimp only at hSw); go_simp <;> with_reducible rfl)
        try simp only [Act.put, tkS]
        refine wpAnyH_take (i := 8) (v := undef) rfl (by kernel_rfl) (by kernel_rfl) (by kernel_rfl) (fun _ _ _ h => h) (Or.inr ⟨by kernel_rfl, rfl⟩) (by assumption) ?_
        try simp only [Act.put, tkS]
        refine wpAnyH_take (i := 9) (v := undef) rfl (by kernel_rfl) (by kernel_rfl) (by kernel_rfl) (fun _ _ _ h => h) (Or.inr ⟨by kernel_rfl, rfl⟩) (by assumption) ?_
        try simp only [Act.put, tkS]
        refine wpAnyH_take (i := 10) (v := undef) rfl (by kernel_rfl) (by kernel_rfl) (by kernel_rfl) (fun _ _ _ h => h) (Or.inr ⟨by kernel_rfl, rfl⟩) (by assumption) ?_
        try simp only [Act.put, tkS]
        refine wpAnyH_take (i := 11) (v := undef) rfl (by kernel_rfl) (by kernel_rfl) (by kernel_rfl) (fun _ _ _ h => h) (Or.inr ⟨by kernel_rfl, rfl⟩) (by assumption) ?_
        try simp only [Act.put, tkS]
        refine wpAnyH_take (i := 12) (v := undef) rfl (by kernel_rfl) (by kernel_rfl) (by kernel_rfl) (fun _ _ _ h => h) (Or.inr ⟨by kernel_rfl, rfl⟩) (by assumption) ?_
        try simp only [Act.put, tkS]
        refine wpAnyH_take (i := 13) (v := undef) rfl (by kernel_rfl) (by kernel_rfl) (by kernel_rfl) (fun _ _ _ h => h) (Or.inr ⟨by kernel_rfl, rfl⟩) (by assumption) ?_
        try simp only [Act.put, tkS]
        refine wpAnyH_take (i := 14) (v := undef) rfl (by kernel_rfl) (by kernel_rfl) (by kernel_rfl) (fun _ _ _ h => h) (Or.inr ⟨by kernel_rfl, rfl⟩) (by assumption) ?_
        try simp only [Act.put, tkS]
        refine wpAnyH_take (i := 15) (v := undef) rfl (by kernel_rfl) (by kernel_rfl) (by kernel_rfl) (fun _ _ _ h => h) (Or.inr ⟨by kernel_rfl, rfl⟩) (by assumption) ?_
        try simp only [Act.put, tkS]
        refine wpAnyH_take (i := 16) (v := undef) rfl (by kernel_rfl) (by kernel_rfl) (by kernel_rfl) (fun _ _ _ h => h) (Or.inr ⟨by kernel_rfl, rfl⟩) (by assumption) ?_
        try simp only [Act.put, tkS]
        refine wpAnyH_take (i := 17) (v := undef) rfl (by kernel_rfl) (by kernel_rfl) (by kernel_rfl) (fun _ _ _ h => h) (Or.inr ⟨by kernel_rfl, rfl⟩) (by assumption) ?_
        try simp only [Act.put, tkS]
        refine wpAnyH_take (i := 18) (v := undef) rfl (by kernel_rfl) (by kernel_rfl) (by kernel_rfl) (fun _ _ _ h => h) (Or.inr ⟨by kernel_rfl, rfl⟩) (by assumption) ?_
        try simp only [Act.put, tkS]
        refine wpAnyH_take (i := 19) (v := undef) rfl (by kernel_rfl) (by kernel_rfl) (by kernel_rfl) (fun _ _ _ h => h) (Or.inr ⟨by kernel_rfl, rfl⟩) (by assumption) ?_
        try simp only [Act.put, tkS]
        refine wpAnyH_take (i := 20) (v := undef) rfl (by kernel_rfl) (by kernel_rfl) (by kernel_rfl) (fun _ _ _ h => h) (Or.inr ⟨by kernel_rfl, rfl⟩) (by assumption) ?_
        try simp only [Act.put, tkS]
        refine wpAnyH_take (i := 21) (v := undef) rfl (by kernel_rfl) (by kernel_rfl) (by kernel_rfl) (fun _ _ _ h => h) (Or.inr ⟨by kernel_rfl, rfl⟩) (by assumption) ?_
        try simp only [Act.put, tkS]
        refine wpAnyH_take (i := 22) (v := ?_) rfl (by kernel_rfl) (by kernel_rfl) (by kernel_rfl) (fun _ _ _ h => h) (Or.inl ⟨by kernel_rfl, ?_⟩) (by assumption) ?_
        rotate_left
        · (intro wS hSw; (try dsimp only at hSw); go_simp <;> with_reducible rfl)
        try simp only [Act.put, tkS]
        refine wpAnyH_done (by kernel_rfl) ?_ _
        go_wp2_with fail
        go_roundw
        case rel => exact ⟨k + 1, by omega, by go_num, fun n hn hnk => Or.inl trivial, HV2.out.drew⟩
        case measure => simp [intOf]; omega
      rw [hrt] at CX
      have HRT := Lib.hid hrt
      clear hrt
      go_wp2_with fail
      clear y0 c0
      refine wp_region_held_drew (S := (fun W => W.cell? ⟨w.heap.size, 0, none⟩ = some (.slice (some ⟨tq, tf, none⟩) l.length sc) ∧ W.cell? ⟨w.heap.size + 1, 0, none⟩ = some (.slice (some ⟨xb, xo, none⟩) x.tables.length xc) ∧ W.cell? ⟨w.heap.size + 1, 1, none⟩ = some (.int .i64 x.next) ∧ W.cell? ⟨tq, tf + i * 4 + 3, none⟩ = some (.bool false) ∧ W.cell? ⟨xb, xo + i, none⟩ = some (.slice (some ⟨rb, ro, none⟩) x.tables[i].length rq) ∧ W.cell? ⟨rb, ro + k * 2, none⟩ = some (.int .i64 x.tables[i][k].id))) (by kernel_rfl) ?_ (fun hHeld => ?_)
      · (first | exact CX.out _ (Below.refl _ _) | exact CX.out _ (Below.refl _ _).drew | exact CX.out _ BW.out)
      refine wpAnyH_take (i := 0) (v := ?_) rfl (by kernel_rfl) (by kernel_rfl) (by kernel_rfl) (fun _ _ _ h => h) (Or.inl ⟨by kernel_rfl, ?_⟩) (by assumption) ?_
      rotate_left
      · (intro wS hSw; (try dsimp only at hSw); go_simp <;> with_reducible rfl)
      try simp only [Act.put, tkS]
      refine wpAnyH_take (i := 1) (v := ?_) rfl (by kernel_rfl) (by kernel_rfl) (by kernel_rfl) (fun _ _ _ h => h) (Or.inl ⟨by kernel_rfl, ?_⟩) (by assumption) ?_
      rotate_left
      · (intro wS hSw; (try dsimp only at hSw); go_simp <;> with_reducible rfl)
      try simp only [Act.put, tkS]
      refine wpAnyH_take (i := 2) (v := ?_) rfl (by kernel_rfl) (by kernel_rfl) (by kernel_rfl) (fun _ _ _ h => h) (Or.inl ⟨by kernel_rfl, ?_⟩) (by assumption) ?_
      rotate_left
      · (intro wS hSw; (try dsimp only at hSw); go_simp <;> with_reducible rfl)
      try simp only [Act.put, tkS]
      refine wpAnyH_take (i := 3) (v := ?_) rfl (by kernel_rfl) (by kernel_rfl) (by kernel_rfl) (fun _ _ _ h => h) (Or.inl ⟨by kernel_rfl, ?_⟩) (by assumption) ?_
      rotate_left
      · (intro wS hSw; (try dsimp only at hSw); go_simp <;> with_reducible rfl)
      try simp only [Act.put, tkS]
      refine wpAnyH_take (i := 4) (v := ?_) rfl (by kernel_rfl) (by kernel_rfl) (by kernel_rfl) (fun _ _ _ h => h) (Or.inl ⟨by kernel_rfl, ?_⟩) (by assumption) ?_
      rotate_left
      · (intro wS hSw; (try dsimp only at hSw); go_simp <;> with_reducible rfl)
      try simp only [Act.put, tkS]
      refine wpAnyH_take (i := 5) (v := ?_) rfl (by kernel_rfl) (by kernel_rfl) (by kernel_rfl) (fun _ _ _ h => h) (Or.inl ⟨by kernel_rfl, ?_⟩) (by assumption) ?_
      rotate_left
      · (intro wS hSw; (try dsimp only at hSw); go_simp <;> with_reducible rfl)
      try simp only [Act.put, tkS]
      refine wpAnyH_take (i := 6) (v := ?_) rfl (by kernel_rfl) (by kernel_rfl) (by kernel_rfl) (fun _ _ _ h => h) (Or.inl ⟨by kernel_rfl, ?_⟩) (by assumption) ?_
      rotate_left
      · (intro wS hSw; (try dsimp only at hSw); go_simp <;> with_reducible rfl)
      try simp only [Act.put, tkS]
      refine wpAnyH_take (i := 7) (v := ?_) rfl (by kernel_rfl) (by kernel_rfl) (by kernel_rfl) (fun _ _ _ h => h) (Or.inl ⟨by kernel_rfl, ?_⟩) (by assumption) ?_
      rotate_left
      · (intro wS hSw; (try dsimp only at hSw); go_simp <;> with_reducible rfl)
      try simp only [Act.put, tkS]
      refine wpAnyH_take (i := 8) (v := ?_) rfl (by kernel_rfl) (by kernel_rfl) (by kernel_rfl) (fun _ _ _ h => h) (Or.inl ⟨by kernel_rfl, ?_⟩) (by assumption) ?_
      rotate_left
      · (intro wS hSw; (try dsimp only at hSw); go_simp <;> with_reducible rfl)
      try simp only [Act.put, tkS]
      refine wpAnyH_take (i := 9) (v := ?_) rfl (by kernel_rfl) (by kernel_rfl) (by kernel_rfl) (fun _ _ _ h => h) (Or.inl ⟨by kernel_rfl, ?_⟩) (by assumption) ?_
      rotate_left
      · (intro wS hSw; (try dsimp only at hSw); go_simp <;> with_reducible rfl)
      try simp only [Act.put, tkS]
      refine wpAnyH_take (i := 10) (v := ?_) rfl (by kernel_rfl) (by kernel_rfl) (by kernel_rfl) (fun _ _ _ h => h) (Or.inl ⟨by kernel_rfl, ?_⟩) (by assumption) ?_
      rotate_left
      · (intro wS hSw; (try dsimp only at hSw); go_simp <;> with_reducible rfl)
      try simp only [Act.put, tkS]
      refine wpAnyH_take (i := 11) (v := ?_) rfl (by kernel_rfl) (by kernel_rfl) (by kernel_rfl) (fun _ _ _ h => h) (Or.inl ⟨by kernel_rfl, ?_⟩) (by assumption) ?_
      rotate_left
      · (intro wS hSw; (try dsimp only at hSw); go_simp <;> with_reducible rfl)
      try simp only [Act.put, tkS]
      refine wpAnyH_take (i := 12) (v := ?_) rfl (by kernel_rfl) (by kernel_rfl) (by kernel_rfl) (fun _ _ _ h => h) (Or.inl ⟨by kernel_rfl, ?_⟩) (by assumption) ?_
      rotate_left
      · (intro wS hSw; (try dsimp only at hSw); go_simp <;> with_reducible rfl)
      try simp only [Act.put, tkS]
      refine wpAnyH_take (i := 13) (v := ?_) rfl (by kernel_rfl) (by kernel_rfl) (by kernel_rfl) (fun _ _ _ h => h) (Or.inl ⟨by kernel_rfl, ?_⟩) (by assumption) ?_
      rotate_left
      · (intro wS hSw; (try dsimp only at hSw); go_simp <;> with_reducible rfl)
      try simp only [Act.put, tkS]
      refine wpAnyH_take (i := 14) (v := ?_) rfl (by kernel_rfl) (by kernel_rfl) (by kernel_rfl) (fun _ _ _ h => h) (Or.inl ⟨by kernel_rfl, ?_⟩) (by assumption) ?_
      rotate_left
      · (intro wS hSw; (try dsimp only at hSw); go_simp <;> with_reducible rfl)
      try simp only [Act.put, tkS]
      refine wpAnyH_take (i := 15) (v := ?_) rfl (by kernel_rfl) (by kernel_rfl) (by kernel_rfl) (fun _ _ _ h => h) (Or.inl ⟨by kernel_rfl, ?_⟩) (by assumption) ?_
      rotate_left
      · (intro wS hSw; (try dsimp only at hSw); go_simp <;> with_reducible rfl)
      try simp only [Act.put, tkS]
      refine wpAnyH_take (i := 16) (v := ?_) rfl (by kernel_rfl) (by kernel_rfl) (by kernel_rfl) (fun _ _ _ h => h) (Or.inl ⟨by kernel_rfl, ?_⟩) (by assumption) ?_
      rotate_left
      · (intro wS hSw; (try dsimp only at hSw); go_simp <;> with_reducible rfl)
      try simp only [Act.put, tkS]
      refine wpAnyH_take (i := 17) (v := ?_) rfl (by kernel_rfl) (by kernel_rfl) (by kernel_rfl) (fun _ _ _ h => h) (Or.inl ⟨by kernel_rfl, ?_⟩) (by assumption) ?_
      rotate_left
      · (intro wS hSw; (try dsimp only at hSw); go_simp <;> with_reducible rfl)
      try simp only [Act.put, tkS]
      refine wpAnyH_take (i := 18) (v := ?_) rfl (by kernel_rfl) (by kernel_rfl) (by kernel_rfl) (fun _ _ _ h => h) (Or.inl ⟨by kernel_rfl, ?_⟩) (by assumption) ?_
      rotate_left
      · (intro wS hSw; (try dsimp only at hSw); go_simp <;> with_reducible rfl)
      try simp only [Act.put, tkS]
      refine wpAnyH_take (i := 19) (v := ?_) rfl (by kernel_rfl) (by kernel_rfl) (by kernel_rfl) (fun _ _ _ h => h) (Or.inl ⟨by kernel_rfl, ?_⟩) (by assumption) ?_
      rotate_left
      · (intro wS hSw; (try dsimp only at hSw); go_simp <;> with_reducible rfl)
      try simp only [Act.put, tkS]
      refine wpAnyH_ready (rs := [20]) (by kernel_rfl) (by simp) (AllReadyH.cons rfl (fun K hK => ?_) AllReadyH.nil)
      go_simp
      (go_at_call 37; refine (SI.out _ (Below.refl _ _).drew).mono ?_; rintro e w1 ⟨rfl, hB⟩; have BW : Hid (Below wr.heap.size wr w1) := (Below.refl _ _).drew.trans hB; clear hB)
      refine hK.out _ _ ?_ (fun hHeld => ?_)
      · (first | exact CX.out _ (Below.refl _ _) | exact CX.out _ (Below.refl _ _).drew | exact CX.out _ BW.out)
      clear hK K
      try simp only [Act.put, tkS]
      refine wpAnyH_take (i := 21) (v := ?_) rfl (by kernel_rfl) (by kernel_rfl) (by kernel_rfl) (fun _ _ _ h => h) (Or.inl ⟨by kernel_rfl, ?_⟩) (by assumption) ?_
      rotate_left
      · (intro wS hSw; (try dsimp only at hSw); go_simp <;> with_reducible rfl)
      try simp only [Act.put, tkS]
      refine wpAnyH_take (i := 22) (v := ?_) rfl (by kernel_rfl) (by kernel_rfl) (by kernel_rfl) (fun _ _ _ h => h) (Or.inl ⟨by kernel_rfl, ?_⟩) (by assumption) ?_
      rotate_left
      · (intro wS hSw; (try dsimp only at hSw); go_simp <;> with_reducible rfl)
      try simp only [Act.put, tkS]
      refine wpAnyH_done (by kernel_rfl) ?_ _
      have HB3 := Lib.hid (HV.out.2.trans (BW.out.mono HV.out.2.size))
      by_cases h0 : strongN l x.tables l[i].nm ⟨4, x.tables[i][k].id, []⟩ l.length = 0
      case pos =>
        have HE := Lib.hid (HNO.out HRT.out h0)
        rw [h0]
        clear h0 HNO HNX SI CX
        go_wp2_with fail
        go_ret
        exact ⟨ret_b HE.out.symm, (BK.out _ HB3.out).bel⟩
      have HN := Lib.hid (HNX.out (.inr h0))
      have hne : (((strongN l x.tables l[i].nm ⟨4, x.tables[i][k].id, []⟩ l.length : Nat) : Int) == 0) = false := by simpa using h0
      clear h0 HNO HNX SI CX
      go_wp2_with fail
      go_roundw
      case rel => exact ⟨k + 1, by omega, by go_num, (by first | exact HN.out | (have h := HN.out; rw [HRT.out] at h; exact h)), HB3.out⟩
      case measure => simp [intOf]; omega
set_option maxRecDepth 100000 in
set_option maxHeartbeats 6400000 in
theorem heldI (l : List Tb) (sa : Option Addr) (sc : Nat) (A : Nat → Prop) (x : StV) (xa : Option Addr) (xc : Nat) (B : Nat → Prop) (w : World) (hlo : (dTableS l).le maxLen) (ho : (dRowSS x.tables).le maxLen) (hl4 : l.length ≤ 1000) (hc6 : ∀ i (h : i < l.length), l[i].cols.length ≤ 1000) (hf : FormP l x) (hT : Rd w A (dTableS l) (.slice sa l.length sc)) (hR : Rd w B (dRowSS x.tables) (.slice xa x.tables.length xc)) :
    Calls Tryz.prog 26 #[.agg #[.slice sa l.length sc], .agg #[.slice xa x.tables.length xc, .int .i64 x.next]] w fun e w' => e = .returned (.bool (heldB l x.tables)) ∧ Below w.heap.size w w' := by
  have HR : Hid (∀ W, Below w.heap.size w W → Rd W B (dRowSS x.tables) (.slice xa x.tables.length xc)) := fun W h => Rd.later hR h
  have HT : Hid (∀ W, Below w.heap.size w W → Rd W A (dTableS l) (.slice sa l.length sc)) := fun W h => Rd.later hT h
  have ST : Hid (∀ (i : Nat) (hi : i < l.length) (id : Int) (W : World), BoxE 33 37 w W #[.slice sa l.length sc] #[.slice xa x.tables.length xc, .int .i64 x.next] → Calls Tryz.prog 47 #[.agg #[.slice sa l.length sc], .agg #[.slice xa x.tables.length xc, .int .i64 x.next], .int .i64 i, .int .i64 id] W fun e w' => e = .returned (.int .i64 (strongN l x.tables l[i].nm ⟨4, id, []⟩ l.length)) ∧ Below W.heap.size W w') := fun i hi id W h => strongCountI l sa sc A x xa xc B i hi id W hlo ho hl4 hc6 hf (hT.later h.bel) (hR.later h.bel)
  have HO := Lib.hid ho
  have HLE := Lib.hid hf.1
  have hxl : x.tables.length ≤ 1000 := by have := hf.1; omega
  have HR12 : Hid (∀ i (h : i < x.tables.length), x.tables[i].length ≤ 12) := fun i h => (hf.2.2 i (by have := hf.1; omega) h).1
  have HB := Lib.hid (boxE 33 37 w #[.slice sa l.length sc] #[.slice xa x.tables.length xc, .int .i64 x.next])
  clear hlo ho hc6 hf hT hR
  have x0 := cell_at (o := 0) HB.out.a rfl
  go_enter Tryz.func26, Tryz.ntmps26
  go_wp2_with fail
  clear x0
  go_loopw [10] (fun t wr => ∃ i : Nat, i ≤ l.length ∧ t = .int .i64 i ∧ Hid ((∀ m, m < l.length → m < i → heldP l x.tables m) ∧ BoxE 33 37 w wr #[.slice sa l.length sc] #[.slice xa x.tables.length xc, .int .i64 x.next])) (fun t _ => l.length - (intOf t).toNat)
  case atStart => exact ⟨0, Nat.zero_le _, rfl, fun m _ h => absurd h (by omega), HB.out⟩
  case round =>
    obtain ⟨i, hi, rfl, HW⟩ := hrel
    generalize wr = wo at *
    have x0 := cell_at (o := 0) HW.out.2.a rfl
    have y0 := cell_at (o := 0) HW.out.2.b rfl
    by_cases hlb : i < l.length
    case neg =>
      have hki : decide ((i : Int) < (l.length : Int)) = false := by simp; omega
      have HE := Lib.hid (held_yes (fun m hm => HW.out.1 m hm (by have := HLE.out; omega)))
      go_wp2_with fail
      go_ret
      exact ⟨ret_b HE.out.symm, HW.out.2.bel⟩
    have hil : i < l.length := by have := HLE.out; omega
    have hix : i < x.tables.length := by have := HLE.out; omega
    have hi1 : (i : Int) < (x.tables.length : Int) := by omega
    have hi2 : (i : Int) < (l.length : Int) := by omega
    obtain ⟨xb, xo, ra, rq, hxa, hti⟩ := tabsAt (HR.out _ HW.out.2.bel) hix
    subst hxa
    obtain ⟨tq, tf, ca, cc, ua, uc, hsa, hbi⟩ := tblAt (HT.out _ HW.out.2.bel) hil
    subst hsa
    have HTI := Lib.hid hti
    have TBI : Hid (∀ W, Below wo.heap.size wo W → W.cell? ⟨tq, tf + i * 4 + 3, none⟩ = some (.bool l[i].rt)) := fun W h => (hbi W h).2.2.2.1
    have hrl := HR12.out i hix
    clear hti hbi hlb
    have BK : Hid (∀ W, Below wo.heap.size wo W → BoxE 33 37 w W #[.slice (some ⟨tq, tf, none⟩) l.length sc] #[.slice (some ⟨xb, xo, none⟩) x.tables.length xc, .int .i64 x.next]) := fun W h => HW.out.2.later h
    have t3 := TBI.out _ (Below.refl _ _)
    have c0 := (HTI.out _ (Below.refl _ _)).1
    cases hrt : l[i].rt
    case true =>
      have HN : Hid (∀ m, m < l.length → m < i + 1 → heldP l x.tables m) := fun m hm hmi => by
        by_cases e : m = i
        · subst e; exact fun _ _ _ _ => .inl hrt
        · exact HW.out.1 m hm (by omega)
      rw [hrt] at t3
      have HB2 := Lib.hid HW.out.2
      clear hrt
      go_wp2_with fail
      go_roundw
      case rel => exact ⟨i + 1, by omega, by go_num, HN.out, HB2.out⟩
      case measure => simp [intOf]; omega
    rw [hrt] at t3
    have HRT := Lib.hid hrt
    clear hrt
    go_wp2_with fail
    clear x0 y0 t3 c0
    go_loopw [25] (fun t wr => ∃ k : Nat, k ≤ x.tables[i].length ∧ t = .int .i64 k ∧ Hid ((∀ n (hn : n < x.tables[i].length), n < k → l[i].rt = true ∨ ¬ strongN l x.tables l[i].nm ⟨4, x.tables[i][n].id, []⟩ l.length = 0) ∧ Below wo.heap.size wo wr)) (fun t _ => x.tables[i].length - (intOf t).toNat)
    case atStart => exact ⟨0, Nat.zero_le _, rfl, fun n _ h => absurd h (by omega), Below.refl _ _⟩
    case round =>
      obtain ⟨k, hk, rfl, HV⟩ := hrel
      by_cases hkl : k < x.tables[i].length
      case neg =>
        have hkd : decide ((k : Int) < (x.tables[i].length : Int)) = false := by simp; omega
        have HN : Hid (∀ m, m < l.length → m < i + 1 → heldP l x.tables m) := fun m hm hmi => by
          by_cases e : m = i
          · subst e; exact fun _ _ n hn => HV.out.1 n hn (by omega)
          · exact HW.out.1 m hm (by omega)
        have HB2 := Lib.hid (BK.out _ HV.out.2)
        go_wp2_with fail
        go_roundw
        case rel => exact ⟨i + 1, by omega, by go_num, HN.out, HB2.out⟩
        case measure => simp [intOf]; omega
      have hkk : (k : Int) < (x.tables[i].length : Int) := by omega
      obtain ⟨rb, ro, va, vq, hra, hrk⟩ := rowsAt (HTI.out _ HV.out.2).2 hkl
      subst hra
      have CX : Hid (∀ W, Below wr.heap.size wr W → W.cell? ⟨w.heap.size, 0, none⟩ = some (.slice (some ⟨tq, tf, none⟩) l.length sc) ∧ W.cell? ⟨w.heap.size + 1, 0, none⟩ = some (.slice (some ⟨xb, xo, none⟩) x.tables.length xc) ∧ W.cell? ⟨w.heap.size + 1, 1, none⟩ = some (.int .i64 x.next) ∧ W.cell? ⟨tq, tf + i * 4 + 3, none⟩ = some (.bool l[i].rt) ∧ W.cell? ⟨xb, xo + i, none⟩ = some (.slice (some ⟨rb, ro, none⟩) x.tables[i].length rq) ∧ W.cell? ⟨rb, ro + k * 2, none⟩ = some (.int .i64 x.tables[i][k].id)) := fun W h =>
        have h2 := HV.out.2.trans (h.mono HV.out.2.size)
        ⟨cell_at (o := 0) (BK.out _ h2).a rfl, cell_at (o := 0) (BK.out _ h2).b rfl, cell_at (o := 1) (BK.out _ h2).b rfl, TBI.out _ h2, (HTI.out _ h2).1, (hrk W h).1⟩
      have SI : Hid (∀ W, Below wr.heap.size wr W → Calls Tryz.prog 47 #[.agg #[.slice (some ⟨tq, tf, none⟩) l.length sc], .agg #[.slice (some ⟨xb, xo, none⟩) x.tables.length xc, .int .i64 x.next], .int .i64 i, .int .i64 x.tables[i][k].id] W fun e w' => e = .returned (.int .i64 (strongN l x.tables l[i].nm ⟨4, x.tables[i][k].id, []⟩ l.length)) ∧ Below W.heap.size W w') := fun W h => ST.out i hil _ W (BK.out _ (HV.out.2.trans (h.mono HV.out.2.size)))
      have HNX : Hid (l[i].rt = true ∨ ¬ strongN l x.tables l[i].nm ⟨4, x.tables[i][k].id, []⟩ l.length = 0 → ∀ n (hn : n < x.tables[i].length), n < k + 1 → l[i].rt = true ∨ ¬ strongN l x.tables l[i].nm ⟨4, x.tables[i][n].id, []⟩ l.length = 0) := fun he n hn hnk => by
        by_cases e : n = k
        · subst e; exact he
        · exact HV.out.1 n hn (by omega)
      have HNO : Hid (l[i].rt = false → strongN l x.tables l[i].nm ⟨4, x.tables[i][k].id, []⟩ l.length = 0 → heldB l x.tables = false) := fun h1 h2 => held_no hil (fun hn => by
        rcases hn hil hix k hkl with h | h
        · rw [h1] at h; cases h
        · exact h h2)
      clear hrk
      go_wp2_with fail
      refine wp_region_held_drew (S := (fun W => W.cell? ⟨w.heap.size, 0, none⟩ = some (.slice (some ⟨tq, tf, none⟩) l.length sc) ∧ W.cell? ⟨w.heap.size + 1, 0, none⟩ = some (.slice (some ⟨xb, xo, none⟩) x.tables.length xc) ∧ W.cell? ⟨w.heap.size + 1, 1, none⟩ = some (.int .i64 x.next) ∧ W.cell? ⟨tq, tf + i * 4 + 3, none⟩ = some (.bool l[i].rt) ∧ W.cell? ⟨xb, xo + i, none⟩ = some (.slice (some ⟨rb, ro, none⟩) x.tables[i].length rq) ∧ W.cell? ⟨rb, ro + k * 2, none⟩ = some (.int .i64 x.tables[i][k].id))) (by kernel_rfl) ?_ (fun hHeld => ?_)
      · (first | exact CX.out _ (Below.refl _ _) | exact CX.out _ (Below.refl _ _).drew | exact CX.out _ BW.out)
      refine wpAnyH_take (i := 0) (v := ?_) rfl (by kernel_rfl) (by kernel_rfl) (by kernel_rfl) (fun _ _ _ h => h) (Or.inl ⟨by kernel_rfl, ?_⟩) (by assumption) ?_
      rotate_left
      · (intro wS hSw; (try dsimp only at hSw); go_simp <;> with_reducible rfl)
      try simp only [Act.put, tkS]
      refine wpAnyH_take (i := 1) (v := ?_) rfl (by kernel_rfl) (by kernel_rfl) (by kernel_rfl) (fun _ _ _ h => h) (Or.inl ⟨by kernel_rfl, ?_⟩) (by assumption) ?_
      rotate_left
      · (intro wS hSw; (try dsimp only at hSw); go_simp <;> with_reducible rfl)
      try simp only [Act.put, tkS]
      refine wpAnyH_take (i := 2) (v := ?_) rfl (by kernel_rfl) (by kernel_rfl) (by kernel_rfl) (fun _ _ _ h => h) (Or.inl ⟨by kernel_rfl, ?_⟩) (by assumption) ?_
      rotate_left
      · (intro wS hSw; (try dsimp only at hSw); go_simp <;> with_reducible rfl)
      try simp only [Act.put, tkS]
      refine wpAnyH_take (i := 3) (v := ?_) rfl (by kernel_rfl) (by kernel_rfl) (by kernel_rfl) (fun _ _ _ h => h) (Or.inl ⟨by kernel_rfl, ?_⟩) (by assumption) ?_
      rotate_left
      · (intro wS hSw; (try dsimp only at hSw); go_simp <;> with_reducible rfl)
      try simp only [Act.put, tkS]
      refine wpAnyH_take (i := 4) (v := ?_) rfl (by kernel_rfl) (by kernel_rfl) (by kernel_rfl) (fun _ _ _ h => h) (Or.inl ⟨by kernel_rfl, ?_⟩) (by assumption) ?_
      rotate_left
      · (intro wS hSw; (try dsimp only at hSw); go_simp <;> with_reducible rfl)
      try simp only [Act.put, tkS]
      refine wpAnyH_take (i := 5) (v := ?_) rfl (by kernel_rfl) (by kernel_rfl) (by kernel_rfl) (fun _ _ _ h => h) (Or.inl ⟨by kernel_rfl, ?_⟩) (by assumption) ?_
      rotate_left
      · (intro wS hSw; (try dsimp only at hSw); go_simp <;> with_reducible rfl)
      try simp only [Act.put, tkS]
      refine wpAnyH_take (i := 6) (v := ?_) rfl (by kernel_rfl) (by kernel_rfl) (by kernel_rfl) (fun _ _ _ h => h) (Or.inl ⟨by kernel_rfl, ?_⟩) (by assumption) ?_
      rotate_left
      · (intro wS hSw; (try dsimp only at hSw); go_simp <;> with_reducible rfl)
      try simp only [Act.put, tkS]
      refine wpAnyH_take (i := 7) (v := ?_) rfl (by kernel_rfl) (by kernel_rfl) (by kernel_rfl) (fun _ _ _ h => h) (Or.inl ⟨by kernel_rfl, ?_⟩) (by assumption) ?_
      rotate_left
      · (intro wS hSw; (try dsimp only at hSw); go_simp <;> with_reducible rfl)
      try simp only [Act.put, tkS]
      refine wpAnyH_take (i := 8) (v := ?_) rfl (by kernel_rfl) (by kernel_rfl) (by kernel_rfl) (fun _ _ _ h => h) (Or.inl ⟨by kernel_rfl, ?_⟩) (by assumption) ?_
      rotate_left
      · (intro wS hSw; (try dsimp only at hSw); go_simp <;> with_reducible rfl)
      try simp only [Act.put, tkS]
      refine wpAnyH_take (i := 9) (v := ?_) rfl (by kernel_rfl) (by kernel_rfl) (by kernel_rfl) (fun _ _ _ h => h) (Or.inl ⟨by kernel_rfl, ?_⟩) (by assumption) ?_
      rotate_left
      · (intro wS hSw; (try dsimp only at hSw); go_simp <;> with_reducible rfl)
      try simp only [Act.put, tkS]
      refine wpAnyH_take (i := 10) (v := ?_) rfl (by kernel_rfl) (by kernel_rfl) (by kernel_rfl) (fun _ _ _ h => h) (Or.inl ⟨by kernel_rfl, ?_⟩) (by assumption) ?_
      rotate_left
      · (intro wS hSw; (try dsimp only at hSw); go_simp <;> with_reducible rfl)
      try simp only [Act.put, tkS]
      refine wpAnyH_take (i := 11) (v := ?_) rfl (by kernel_rfl) (by kernel_rfl) (by kernel_rfl) (fun _ _ _ h => h) (Or.inl ⟨by kernel_rfl, ?_⟩) (by assumption) ?_
      rotate_left
      · (intro wS hSw; (try dsimp only at hSw); go_simp <;> with_reducible rfl)
      try simp only [Act.put, tkS]
      refine wpAnyH_ready (rs := [12]) (by kernel_rfl) (by simp) (AllReadyH.cons rfl (fun K hK => ?_) AllReadyH.nil)
      go_simp
      (go_at_call 47; refine (SI.out _ (Below.refl _ _).drew).mono ?_; rintro e w1 ⟨rfl, hB⟩; have BW : Hid (Below wr.heap.size wr w1) := (Below.refl _ _).drew.trans hB; clear hB)
      refine hK.out _ _ ?_ (fun hHeld => ?_)
      · (first | exact CX.out _ (Below.refl _ _) | exact CX.out _ (Below.refl _ _).drew | exact CX.out _ BW.out)
      clear hK K
      try simp only [Act.put, tkS]
      refine wpAnyH_take (i := 13) (v := ?_) rfl (by kernel_rfl) (by kernel_rfl) (by kernel_rfl) (fun _ _ _ h => h) (Or.inl ⟨by kernel_rfl, ?_⟩) (by assumption) ?_
      rotate_left
      · (intro wS hSw; (try dsimp only at hSw); go_simp <;> with_reducible rfl)
      try simp only [Act.put, tkS]
      refine wpAnyH_done (by kernel_rfl) ?_ _
      have HB3 := Lib.hid (HV.out.2.trans (BW.out.mono HV.out.2.size))
      by_cases h0 : strongN l x.tables l[i].nm ⟨4, x.tables[i][k].id, []⟩ l.length = 0
      case pos =>
        have HE := Lib.hid (HNO.out HRT.out h0)
        rw [h0]
        clear h0 HNO HNX SI CX
        go_wp2_with fail
        go_ret
        exact ⟨ret_b HE.out.symm, (BK.out _ HB3.out).bel⟩
      have HN := Lib.hid (HNX.out (.inr h0))
      have hne : (((strongN l x.tables l[i].nm ⟨4, x.tables[i][k].id, []⟩ l.length : Nat) : Int) == 0) = false := by simpa using h0
      clear h0 HNO HNX SI CX
      go_wp2_with fail
      go_roundw
      case rel => exact ⟨k + 1, by omega, by go_num, (by first | exact HN.out | (have h := HN.out; rw [HRT.out] at h; exact h)), HB3.out⟩
      case measure => simp [intOf]; omega
end Go.Proofs.YteeofajgnplhfaaGreat
