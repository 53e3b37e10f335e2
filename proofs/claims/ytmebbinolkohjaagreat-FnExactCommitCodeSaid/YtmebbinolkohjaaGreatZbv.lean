import Derived.Test.YtmebbinolkohjaaGreatZbu
import Derived.Test.YtmebbinolkohjaaGreatZTk
namespace Go.Proofs.YtmebbinolkohjaaGreat
open Go.RowKit Go.Maps Go.WideMaps
set_option linter.unusedSimpArgs false
def AtP (D : DataW Unit) (l : List Tb) (k : Nat) : Prop := ∀ j (hj : j < l.length), j < k → D.atKey (.string l[j].nm) (.lit (.int .i64 0)) = .lit (.int .i64 j)
theorem AtP.put {D : DataW Unit} {l : List Tb} {k : Nat} (h : AtP D l k) (hs : SchP l) (hD : IsMap D) (hk : k < l.length) : AtP (D.put (.string l[k].nm) (.lit (.int .i64 k))) l (k + 1) := fun j hj hjk => by
  by_cases e : j = k
  · subst e
    rw [atKey_put_same hD (by simp [WideAt.IsKeyLit])]
  · rw [atKey_put_other (fun he => e (nm_uniqU hs hj hk (by simpa using he))), h j hj (by omega)]
def PlxAns (l : List Tb) (w : World) (e : Ending) (w' : World) : Prop := ∃ m D, e = .returned (.map (some m)) ∧ w'.ownsMap Tryz.prog 9 (plainElem (H := Unit) Tryz.prog 3) m l.length D ∧ AtP D l l.length ∧ Below w.heap.size w w'
set_option maxRecDepth 100000 in
set_option maxHeartbeats 3200000 in
theorem placesX (l : List Tb) (a : Option Addr) (c : Nat) (A : Nat → Ad) (B : Nat → Prop) (w : World) (ho : TbsOk l) (hs : SchP l) (hS : Tabs w B a l A) :
    Calls Tryz.prog 52 #[.agg #[.slice a l.length c]] w (PlxAns l w) := by
  have hl := hs.len.2
  have HSP := Lib.hid hs
  have HO : Hid (∀ t ∈ l, t.nm.length ≤ maxLen) := fun t ht => (ho.2 t ht).1
  have HS : Hid (∀ W, Below w.heap.size w W → Tabs W B a l A) := fun W h => hS.later h
  have hmm := run_makeMapH (l.length : Int)
  have hx0 := boxS w a l.length c
  have hown0 := World.ownsMap_made (H := Unit) (w.alloc (.cells #[.slice a l.length c] 37)) Tryz.prog 9 (plainElem Tryz.prog 3)
  have es : (w.alloc (.cells #[.slice a l.length c] 37)).heap.size = w.heap.size + 1 := by simp
  rw [es] at hown0
  have H0 : Hid (BoxS w ((w.alloc (.cells #[.slice a l.length c] 37)).alloc (.map #[] 0)) a l.length c ∧ ∃ D, IsMap D ∧ ((w.alloc (.cells #[.slice a l.length c] 37)).alloc (.map #[] 0)).ownsMap Tryz.prog 9 (plainElem (H := Unit) Tryz.prog 3) (w.heap.size + 1) 0 D ∧ AtP D l 0) :=
    ⟨hx0.new _, _, isMap_empty, hown0, fun j hj h => absurd h (by omega)⟩
  clear ho hS hx0 hown0 es hs
  go_enter Tryz.func52, Tryz.ntmps52
  go_wp2_with fail
  clear hmm
  go_loopw [12] (fun i wr => ∃ k : Nat, k ≤ l.length ∧ i = .int .i64 k ∧ Hid (BoxS w wr a l.length c ∧ ∃ D, IsMap D ∧ wr.ownsMap Tryz.prog 9 (plainElem (H := Unit) Tryz.prog 3) (w.heap.size + 1) k D ∧ AtP D l k)) (fun i _ => l.length - (intOf i).toNat)
  case atStart => exact ⟨0, Nat.zero_le _, rfl, H0.out⟩
  case round =>
    obtain ⟨k, hk, rfl, HW⟩ := hrel
    obtain ⟨hx, D, hD, hown, hP⟩ := HW.out
    have x0 := hx.cell
    by_cases hlt : k < l.length
    · have hki : (k : Int) < (l.length : Int) := by omega
      obtain ⟨b, off, rfl, -, hc⟩ := (HS.out _ hx.2).at k hlt
      have c0 := (hc k hlt).1
      clear hc
      have hkey : keyOf Tryz.prog 9 (.string ⟨l[k].nm.toArray⟩) = some (.string l[k].nm) := keyOf_string_mk Tryz.underlying9 (by show l[k].nm.toArray.size ≤ maxLen; simpa using HO.out _ (List.getElem_mem hlt))
      have HPN : Hid (AtP (D.put (.string l[k].nm) (.lit (.int .i64 k))) l (k + 1)) := hP.put HSP.out hD hlt
      have HX := Lib.hid hx
      have HDM := Lib.hid hD
      clear HW hP hx hD
      generalize l[k].nm = x at *
      go_wp2_with (at_mapUpdate; refine wpList_mapUpdate_own _ rfl _ _ _ 95 rfl 9 3 lawK Tryz.underlying95 _ (w.heap.size + 1) k _ rfl hown (by unfold maxLen; omega) _ _ _ rfl rfl hkey _ [] (plainElem_int Tryz.underlying3 (WalkArith.wf_i64 (by omega))) ?_; intro w1 hown1 hgrow1; have R1 := Lib.hid (And.intro (HX.out.grown hgrow1 (by omega)) hown1); clear hown1 hgrow1)
      go_roundw
      case rel => exact ⟨k + 1, by omega, by go_num, R1.out.1, _, HDM.out.put _ _, R1.out.2, HPN.out⟩
      case measure => simp [intOf]; omega
    · have hk' : k = l.length := by omega
      subst hk'
      have HX := Lib.hid hx
      have HOW := Lib.hid (And.intro hown hP)
      clear HW hx hown hP hD
      go_wp2_with fail
      go_ret
      exact ⟨_, D, rfl, HOW.out.1, HOW.out.2, HX.out.2⟩
theorem lookP {w : World} {m n : Nat} {D : DataW Unit} {l : List Tb} (hown : w.ownsMap Tryz.prog 9 (plainElem (H := Unit) Tryz.prog 3) m n D) (hP : AtP D l l.length) {j : Nat} (hj : j < l.length) (hn : l[j].nm.length ≤ maxLen) : (Instr.lookup 95 (.map (some m)) (.string ⟨l[j].nm.toArray⟩) false).run Tryz.prog w = .ok (.int .i64 j) w := by
  obtain ⟨c, hrun, hat, -⟩ := hown.lookup_int (t := 95) lawK Tryz.underlying95 Tryz.underlying3 (zeroI w) (keyOf_string_mk Tryz.underlying9 (s := ⟨l[j].nm.toArray⟩) (by show l[j].nm.toArray.size ≤ maxLen; simpa using hn))
  have h2 := hP j hj hj
  have h3 : D.atKey (.string l[j].nm) (.lit (.int .i64 0)) = .lit (.int .i64 c) := by simpa using hat
  rw [h2] at h3
  simp only [DataW.lit.injEq, Lit.int.injEq, true_and] at h3
  rw [hrun, ← h3]
set_option maxRecDepth 100000 in
set_option maxHeartbeats 6400000 in
theorem refI (l : List Tb) (sa : Option Addr) (sc : Nat) (A : Nat → Prop) (x : StV) (xa : Option Addr) (xc : Nat) (B : Nat → Prop) (w : World) (hlo : (dTableS l).le maxLen) (ho : (dRowSS x.tables).le maxLen) (hs : SchP l) (hf : FormP l x) (hT : Rd w A (dTableS l) (.slice sa l.length sc)) (hR : Rd w B (dRowSS x.tables) (.slice xa x.tables.length xc)) :
    Calls Tryz.prog 64 #[.agg #[.slice sa l.length sc], .agg #[.slice xa x.tables.length xc, .int .i64 x.next]] w fun e w' => e = .returned (.bool (refB l x.tables)) ∧ Below w.heap.size w w' := by
  have HR : Hid (∀ W, Below w.heap.size w W → Rd W B (dRowSS x.tables) (.slice xa x.tables.length xc)) := fun W h => Rd.later hR h
  have HT : Hid (∀ W, Below w.heap.size w W → Rd W A (dTableS l) (.slice sa l.length sc)) := fun W h => Rd.later hT h
  have HO := Lib.hid ho
  have HLT := Lib.hid (le_tables hlo)
  have HS := Lib.hid hs
  have HLE := Lib.hid hf.1
  have hl4 : l.length ≤ 4 := hs.len.2
  have HRW : Hid (∀ i (hi : i < l.length) (hx : i < x.tables.length), x.tables[i].length ≤ 12 ∧ ∀ k (hk : k < x.tables[i].length), x.tables[i][k].cells.length = l[i].cols.length) := fun i hi hx => ⟨(hf.2.2 i hi hx).1, fun k hk => (row_ofU ((hf.2.2 i hi hx).2.2 k hk).2).len⟩
  have HC6 : Hid (∀ i (hi : i < l.length), l[i].cols.length ≤ 6) := fun i hi => (tab_ofU (hs.tab i hi)).len.2
  have hxl : x.tables.length ≤ 4 := by have := hf.1; omega
  have HB := Lib.hid (boxE 37 32 w #[.slice sa l.length sc] #[.slice xa x.tables.length xc, .int .i64 x.next])
  have PX : Hid (∀ W, BoxE 37 32 w W #[.slice sa l.length sc] #[.slice xa x.tables.length xc, .int .i64 x.next] → Calls Tryz.prog 52 #[.agg #[.slice sa l.length sc]] W (PlxAns l W)) := fun W h => by
    obtain ⟨Ad, hA⟩ := (HT.out _ h.bel).tabs
    exact placesX l sa sc Ad A W HLT.out HS.out hA
  have x0 := cell_at (o := 0) HB.out.a rfl
  clear ho hlo hs hf hT hR
  go_enter Tryz.func64, Tryz.ntmps64
  go_wp2_with fail
  refine (PX.out _ HB.out).mono ?_
  rintro e w1 ⟨mb, D, rfl, hown, hP, hB1⟩
  have BK1 : Hid (∀ W, Below w1.heap.size w1 W → BoxE 37 32 w W #[.slice sa l.length sc] #[.slice xa x.tables.length xc, .int .i64 x.next]) := fun W h => (HB.out.later hB1).later h
  have HLK : Hid (∀ j (hj : j < l.length) W, Below w1.heap.size w1 W → (Instr.lookup 95 (.map (some mb)) (.string ⟨l[j].nm.toArray⟩) false).run Tryz.prog W = .ok (.int .i64 j) W) := fun j hj W h => lookP (owns_keptS hown h) hP hj (HLT.out.2 _ (List.getElem_mem hj)).1
  clear hown hP hB1 x0
  have x0 := cell_at (o := 0) (BK1.out _ (Below.refl _ _)).a rfl
  go_wp2_with fail
  clear x0
  go_loopw [15] (fun t wr => ∃ i : Nat, i ≤ l.length ∧ t = .int .i64 i ∧ Hid ((∀ m, m < l.length → m < i → ∀ c, refP l x.tables m c) ∧ Below w1.heap.size w1 wr)) (fun t _ => l.length - (intOf t).toNat)
  case atStart => exact ⟨0, Nat.zero_le _, rfl, fun m _ h => absurd h (by omega), Below.refl _ _⟩
  case round =>
    obtain ⟨i, hi, rfl, HW⟩ := hrel
    generalize wr = wo at *
    by_cases hil : i < l.length
    case neg =>
      have hki : decide ((i : Int) < (l.length : Int)) = false := by simp; omega
      have HE := Lib.hid (ref_yes (fun m hm => HW.out.1 m hm (by omega)))
      have HB2 := Lib.hid (BK1.out _ HW.out.2).bel
      go_wp2_with fail
      go_ret
      exact ⟨ret_b HE.out.symm, HB2.out⟩
    have hix : i < x.tables.length := by have := HLE.out; omega
    have hi1 : (i : Int) < (x.tables.length : Int) := by omega
    have hi2 : (i : Int) < (l.length : Int) := by omega
    obtain ⟨xb, xo, ra, rq, hxa, hti⟩ := tabsAt (HR.out _ (BK1.out _ HW.out.2).bel) hix
    subst hxa
    obtain ⟨tq, tf, ca, cc, ua, uc, hsa, hbi⟩ := tblAt (HT.out _ (BK1.out _ HW.out.2).bel) hil
    subst hsa
    have HRI := Lib.hid (HRW.out i hil hix)
    have hcl6 := HC6.out i hil
    have BK : Hid (∀ W, Below wo.heap.size wo W → BoxE 37 32 w W #[.slice (some ⟨tq, tf, none⟩) l.length sc] #[.slice (some ⟨xb, xo, none⟩) x.tables.length xc, .int .i64 x.next]) := fun W h => (BK1.out _ HW.out.2).later h
    have HTI := Lib.hid hti
    have HTC : Hid (∀ W, Below wo.heap.size wo W → Rd W A (dColumnS l[i].cols) (.slice ca l[i].cols.length cc)) := fun W h => (hbi W h).2.2.2.2.1
    obtain ⟨t0, t1, t2, t3, -, -⟩ := hbi _ (Below.refl _ _)
    clear hti hbi
    have HRO : Hid ((dRowS x.tables[i]).le maxLen) := (Ls_le.1 HO.out).2.2 i hix 0 (by omega)
    have HBT : Hid (Below wo.heap.size wo (wo.alloc (.cells #[.string ⟨l[i].nm.toArray⟩, .slice ca l[i].cols.length cc, .slice ua l[i].uq.length uc, .bool l[i].rt] 73))) := below_allocD _ _
    go_wp2_with fail
    clear t0 t1 t2 t3
    go_loopw [23] (fun t wr => ∃ c : Nat, c ≤ l[i].cols.length ∧ t = .int .i64 c ∧ Hid ((∀ n, n < c → refP l x.tables i n) ∧ Below wo.heap.size wo wr)) (fun t _ => l[i].cols.length - (intOf t).toNat)
    case atStart => exact ⟨0, Nat.zero_le _, rfl, fun n h => absurd h (by omega), HBT.out⟩
    case round =>
      obtain ⟨c, hc, rfl, HV⟩ := hrel
      generalize wr = wm at *
      by_cases hcl : c < l[i].cols.length
      case neg =>
        have hcd : decide ((c : Int) < (l[i].cols.length : Int)) = false := by simp; omega
        have HN : Hid (∀ m, m < l.length → m < i + 1 → ∀ n, refP l x.tables m n) := fun m hm hmi n => by
          by_cases e : m = i
          · subst e
            by_cases hn : n < l[m].cols.length
            · exact HV.out.1 n (by omega)
            · exact fun _ _ h => absurd h hn
          · exact HW.out.1 m hm (by omega) n
        have HB2 := Lib.hid (HW.out.2.trans (HV.out.2.mono HW.out.2.size))
        go_wp2_with fail
        go_roundw
        case rel => exact ⟨i + 1, by omega, by go_num, HN.out, HB2.out⟩
        case measure => simp [intOf]; omega
      have hc1 : (c : Int) < (l[i].cols.length : Int) := by omega
      obtain ⟨kb, ko, hca, hco⟩ := colsAt (HTC.out _ HV.out.2) hcl
      subst hca
      obtain ⟨c0, c1, c2, c3, c4, c5, c6, c7⟩ := hco _ (Below.refl _ _)
      have HEX : Hid (l[i].cols[c].k = 4 → ∃ j, ∃ hj : j < l.length, l[j].nm = l[i].cols[c].rf) := fun h => ref_exU HS.out hil hcl h
      have HOT : Hid (¬ l[i].cols[c].k = 4 → refP l x.tables i c) := fun h => ref_other hil (fun _ => h)
      have HNC : Hid (refP l x.tables i c → ∀ n, n < c + 1 → refP l x.tables i n) := fun he n hn => by
        by_cases e : n = c
        · subst e; exact he
        · exact HV.out.1 n (by omega)
      have HYE : Hid (∀ j (hj : j < l.length) (hjx : j < x.tables.length), l[j].nm = l[i].cols[c].rf → thereB x.tables[i] c x.tables[j] = true → refP l x.tables i c) := fun j hj hjx e h => ref_one HS.out hil hix hj hjx hcl e h
      have HNO : Hid (∀ j (hj : j < l.length) (hjx : j < x.tables.length), l[i].cols[c].k = 4 → l[j].nm = l[i].cols[c].rf → thereB x.tables[i] c x.tables[j] = false → refB l x.tables = false) := fun j hj hjx h4 e h => ref_fail hil hix hj hjx hcl h4 e h
      clear hco
      generalize hy : l[i].cols[c] = y at *
      clear hy
      obtain ⟨ynm, yk, ymn, ymx, ylo, yhi, yrf, yst⟩ := y
      dsimp only at c0 c1 c2 c3 c4 c5 c6 c7 HEX HOT HYE HNO
      have HBA : Hid (Below wm.heap.size wm (wm.alloc (.cells #[.string ⟨ynm.toArray⟩, .int .i64 yk, .int .i64 ymn, .int .i64 ymx, .int .i64 ylo, .int .i64 yhi, .string ⟨yrf.toArray⟩, .bool yst] 75))) := below_allocD _ _
      have HBC : Hid (∀ W, Below (wm.alloc (.cells #[.string ⟨ynm.toArray⟩, .int .i64 yk, .int .i64 ymn, .int .i64 ymx, .int .i64 ylo, .int .i64 yhi, .string ⟨yrf.toArray⟩, .bool yst] 75)).heap.size (wm.alloc (.cells #[.string ⟨ynm.toArray⟩, .int .i64 yk, .int .i64 ymn, .int .i64 ymx, .int .i64 ylo, .int .i64 yhi, .string ⟨yrf.toArray⟩, .bool yst] 75)) W → Below wo.heap.size wo W) := fun W h => HV.out.2.trans ((HBA.out.trans (h.mono HBA.out.size)).mono HV.out.2.size)
      have C0 : Hid (∀ W, Below (wm.alloc (.cells #[.string ⟨ynm.toArray⟩, .int .i64 yk, .int .i64 ymn, .int .i64 ymx, .int .i64 ylo, .int .i64 yhi, .string ⟨yrf.toArray⟩, .bool yst] 75)).heap.size (wm.alloc (.cells #[.string ⟨ynm.toArray⟩, .int .i64 yk, .int .i64 ymn, .int .i64 ymx, .int .i64 ylo, .int .i64 yhi, .string ⟨yrf.toArray⟩, .bool yst] 75)) W → W.cell? ⟨w.heap.size + 1, 0, none⟩ = some (.slice (some ⟨xb, xo, none⟩) x.tables.length xc) ∧ W.cell? ⟨wm.heap.size, 1, none⟩ = some (.int .i64 yk) ∧ W.cell? ⟨wm.heap.size, 6, none⟩ = some (.string ⟨yrf.toArray⟩) ∧ W.cell? ⟨xb, xo + i, none⟩ = some (.slice ra x.tables[i].length rq)) := fun W h => ⟨cell_at (o := 0) (BK.out _ (HBC.out W h)).b rfl, cell_keptS (cell_at (o := 1) (heap_newD wm _) rfl) h, cell_keptS (cell_at (o := 6) (heap_newD wm _) rfl) h, (HTI.out _ (HBC.out W h)).1⟩
      by_cases h4 : yk = 4
      case neg =>
        have HN := Lib.hid (HNC.out (HOT.out h4))
        have hne : (yk == 4) = false := by simpa using h4
        clear h4 HEX HOT HNC HYE HNO
        go_wp2_with fail
        clear c0 c1 c2 c3 c4 c5 c6 c7
        refine wp_region_held_drew (S := (fun W => W.cell? ⟨w.heap.size + 1, 0, none⟩ = some (.slice (some ⟨xb, xo, none⟩) x.tables.length xc) ∧ W.cell? ⟨wm.heap.size, 1, none⟩ = some (.int .i64 yk) ∧ W.cell? ⟨wm.heap.size, 6, none⟩ = some (.string ⟨yrf.toArray⟩) ∧ W.cell? ⟨xb, xo + i, none⟩ = some (.slice ra x.tables[i].length rq))) (by kernel_rfl) ?_ (fun hHeld => ?_)
        · (first | exact C0.out _ (Below.refl _ _) | exact C0.out _ (Below.refl _ _).drew)
        refine wpAnyH_take (i := 0) (v := ?_) rfl (by kernel_rfl) (by kernel_rfl) (by kernel_rfl) (fun _ _ _ h => h) (Or.inl ⟨by kernel_rfl, ?_⟩) (by assumption) ?_
        rotate_left
        · (intro wS hSw; (try dsimp only at hSw); go_simp <;> with_reducible rfl)
        try simp only [Act.put, tkS]
        refine wpAnyH_take (i := 1) (v := ?_) rfl (by kernel_rfl) (by kernel_rfl) (by kernel_rfl) (fun _ _ _ h => h) (Or.inl ⟨by kernel_rfl, ?_⟩) (by assumption) ?_
        rotate_left
        · (intro wS hSw; (try dsimp only at hSw); go_simp <;> with_reducible rfl)
        try simp only [Act.put, tkS]
        refine wpAnyH_take (i := 2) (v := ?_) rfl (by kernel_rfl) (by kernel_rfl) (by kernel_rfl) (fun _ _ _ h => h) (Or.inl ⟨by kernel_rfl, ?_⟩) (by assumption) ?_
        rotate_left
        · (intro wS hSw; (try dsimp only at hSw); go_simp <;> with_reducible rfl)
        try simp only [Act.put, tkS]
        refine wpAnyH_take (i := 3) (v := ?_) rfl (by kernel_rfl) (by kernel_rfl) (by kernel_rfl) (fun _ _ _ h => h) (Or.inl ⟨by kernel_rfl, ?_⟩) (by assumption) ?_
        rotate_left
        · (intro wS hSw; (try dsimp only at hSw); go_simp <;> with_reducible rfl)
        try simp only [Act.put, tkS]
        refine wpAnyH_take (i := 4) (v := undef) rfl (by kernel_rfl) (by kernel_rfl) (by kernel_rfl) (fun _ _ _ h => h) (Or.inr ⟨by kernel_rfl, rfl⟩) (by assumption) ?_
        try simp only [Act.put, tkS]
        refine wpAnyH_take (i := 5) (v := undef) rfl (by kernel_rfl) (by kernel_rfl) (by kernel_rfl) (fun _ _ _ h => h) (Or.inr ⟨by kernel_rfl, rfl⟩) (by assumption) ?_
        try simp only [Act.put, tkS]
        refine wpAnyH_take (i := 6) (v := undef) rfl (by kernel_rfl) (by kernel_rfl) (by kernel_rfl) (fun _ _ _ h => h) (Or.inr ⟨by kernel_rfl, rfl⟩) (by assumption) ?_
        try simp only [Act.put, tkS]
        refine wpAnyH_take (i := 7) (v := undef) rfl (by kernel_rfl) (by kernel_rfl) (by kernel_rfl) (fun _ _ _ h => h) (Or.inr ⟨by kernel_rfl, rfl⟩) (by assumption) ?_
        try simp only [Act.put, tkS]
        refine wpAnyH_take (i := 8) (v := undef) rfl (by kernel_rfl) (by kernel_rfl) (by kernel_rfl) (fun _ _ _ h => h) (Or.inr ⟨by kernel_rfl, rfl⟩) (by assumption) ?_
        try simp only [Act.put, tkS]
        refine wpAnyH_take (i := 9) (v := undef) rfl (by kernel_rfl) (by kernel_rfl) (by kernel_rfl) (fun _ _ _ h => h) (Or.inr ⟨by kernel_rfl, rfl⟩) (by assumption) ?_
        try simp only [Act.put, tkS]
        refine wpAnyH_take (i := 10) (v := undef) rfl (by kernel_rfl) (by kernel_rfl) (by kernel_rfl) (fun _ _ _ h => h) (Or.inr ⟨by kernel_rfl, rfl⟩) (by assumption) ?_
        try simp only [Act.put, tkS]
        refine wpAnyH_take (i := 11) (v := undef) rfl (by kernel_rfl) (by kernel_rfl) (by kernel_rfl) (fun _ _ _ h => h) (Or.inr ⟨by kernel_rfl, rfl⟩) (by assumption) ?_
        try simp only [Act.put, tkS]
        refine wpAnyH_take (i := 12) (v := undef) rfl (by kernel_rfl) (by kernel_rfl) (by kernel_rfl) (fun _ _ _ h => h) (Or.inr ⟨by kernel_rfl, rfl⟩) (by assumption) ?_
        try simp only [Act.put, tkS]
        refine wpAnyH_take (i := 13) (v := undef) rfl (by kernel_rfl) (by kernel_rfl) (by kernel_rfl) (fun _ _ _ h => h) (Or.inr ⟨by kernel_rfl, rfl⟩) (by assumption) ?_
        try simp only [Act.put, tkS]
        refine wpAnyH_take (i := 14) (v := undef) rfl (by kernel_rfl) (by kernel_rfl) (by kernel_rfl) (fun _ _ _ h => h) (Or.inr ⟨by kernel_rfl, rfl⟩) (by assumption) ?_
        try simp only [Act.put, tkS]
        refine wpAnyH_take (i := 15) (v := undef) rfl (by kernel_rfl) (by kernel_rfl) (by kernel_rfl) (fun _ _ _ h => h) (Or.inr ⟨by kernel_rfl, rfl⟩) (by assumption) ?_
        try simp only [Act.put, tkS]
        refine wpAnyH_take (i := 16) (v := undef) rfl (by kernel_rfl) (by kernel_rfl) (by kernel_rfl) (fun _ _ _ h => h) (Or.inr ⟨by kernel_rfl, rfl⟩) (by assumption) ?_
        try simp only [Act.put, tkS]
        refine wpAnyH_take (i := 17) (v := undef) rfl (by kernel_rfl) (by kernel_rfl) (by kernel_rfl) (fun _ _ _ h => h) (Or.inr ⟨by kernel_rfl, rfl⟩) (by assumption) ?_
        try simp only [Act.put, tkS]
        refine wpAnyH_take (i := 18) (v := undef) rfl (by kernel_rfl) (by kernel_rfl) (by kernel_rfl) (fun _ _ _ h => h) (Or.inr ⟨by kernel_rfl, rfl⟩) (by assumption) ?_
        try simp only [Act.put, tkS]
        refine wpAnyH_take (i := 19) (v := undef) rfl (by kernel_rfl) (by kernel_rfl) (by kernel_rfl) (fun _ _ _ h => h) (Or.inr ⟨by kernel_rfl, rfl⟩) (by assumption) ?_
        try simp only [Act.put, tkS]
        refine wpAnyH_take (i := 20) (v := undef) rfl (by kernel_rfl) (by kernel_rfl) (by kernel_rfl) (fun _ _ _ h => h) (Or.inr ⟨by kernel_rfl, rfl⟩) (by assumption) ?_
        try simp only [Act.put, tkS]
        refine wpAnyH_take (i := 21) (v := ?_) rfl (by kernel_rfl) (by kernel_rfl) (by kernel_rfl) (fun _ _ _ h => h) (Or.inl ⟨by kernel_rfl, ?_⟩) (by assumption) ?_
        rotate_left
        · (intro wS hSw; (try dsimp only at hSw); go_simp <;> with_reducible rfl)
        try simp only [Act.put, tkS]
        refine wpAnyH_done (by kernel_rfl) ?_ _
        have HB2 := Lib.hid (HBC.out _ (Below.refl _ _).drew)
        go_wp2_with fail
        go_roundw
        case rel => exact ⟨c + 1, by omega, by go_num, HN.out, HB2.out⟩
        case measure => simp [intOf]; omega
      subst h4
      obtain ⟨j, hjl, hjn⟩ := HEX.out rfl
      have hjx : j < x.tables.length := by have := HLE.out; omega
      have hj1 : (j : Int) < (x.tables.length : Int) := by omega
      obtain ⟨xb2, xo2, ja, jq, e2, htj⟩ := tabsAt (HR.out _ (BK.out _ (Below.refl _ _)).bel) hjx
      simp only [Option.some.injEq, Addr.mk.injEq, and_true] at e2
      obtain ⟨rfl, rfl⟩ := e2
      have HTJ := Lib.hid htj
      clear htj
      have CX : Hid (∀ W, Below (wm.alloc (.cells #[.string ⟨ynm.toArray⟩, .int .i64 4, .int .i64 ymn, .int .i64 ymx, .int .i64 ylo, .int .i64 yhi, .string ⟨yrf.toArray⟩, .bool yst] 75)).heap.size (wm.alloc (.cells #[.string ⟨ynm.toArray⟩, .int .i64 4, .int .i64 ymn, .int .i64 ymx, .int .i64 ylo, .int .i64 yhi, .string ⟨yrf.toArray⟩, .bool yst] 75)) W → W.cell? ⟨w.heap.size + 1, 0, none⟩ = some (.slice (some ⟨xb, xo, none⟩) x.tables.length xc) ∧ W.cell? ⟨wm.heap.size, 1, none⟩ = some (.int .i64 4) ∧ W.cell? ⟨wm.heap.size, 6, none⟩ = some (.string ⟨yrf.toArray⟩) ∧ W.cell? ⟨xb, xo + i, none⟩ = some (.slice ra x.tables[i].length rq) ∧ W.cell? ⟨xb, xo + j, none⟩ = some (.slice ja x.tables[j].length jq) ∧ (Instr.lookup 95 (.map (some mb)) (.string ⟨yrf.toArray⟩) false).run Tryz.prog W = .ok (.int .i64 j) W) := fun W h => ⟨(C0.out W h).1, (C0.out W h).2.1, (C0.out W h).2.2.1, (C0.out W h).2.2.2, (HTJ.out _ (HBC.out W h)).1, by rw [← hjn]; exact HLK.out j hjl W (HW.out.2.trans ((HBC.out W h).mono HW.out.2.size))⟩
      have HROJ : Hid ((dRowS x.tables[j]).le maxLen) := (Ls_le.1 HO.out).2.2 j hjx 0 (by omega)
      obtain ⟨rb, roff, hra⟩ : ∃ rb roff, (0 < x.tables[j].length → ja = some ⟨rb, roff, none⟩) := by
        by_cases h0 : 0 < x.tables[j].length
        · obtain ⟨rb, ro, -, -, h, -⟩ := rowsAt (HTJ.out _ (Below.refl _ _)).2 h0
          exact ⟨rb, ro, fun _ => h⟩
        · exact ⟨0, 0, fun h => absurd h h0⟩
      have SH : Hid (∀ W, Below (wm.alloc (.cells #[.string ⟨ynm.toArray⟩, .int .i64 4, .int .i64 ymn, .int .i64 ymx, .int .i64 ylo, .int .i64 yhi, .string ⟨yrf.toArray⟩, .bool yst] 75)).heap.size (wm.alloc (.cells #[.string ⟨ynm.toArray⟩, .int .i64 4, .int .i64 ymn, .int .i64 ymx, .int .i64 ylo, .int .i64 yhi, .string ⟨yrf.toArray⟩, .bool yst] 75)) W → Calls Tryz.prog 54 #[.slice ja x.tables[j].length jq] W (ShAns x.tables[j] rb roff W)) := fun W h => shelveI x.tables[j] ja jq rb roff B W hra HROJ.out (HTJ.out _ (HBC.out W h)).2
      have CI : Hid (∀ m2 mn D2 W, Below (wm.alloc (.cells #[.string ⟨ynm.toArray⟩, .int .i64 4, .int .i64 ymn, .int .i64 ymx, .int .i64 ylo, .int .i64 yhi, .string ⟨yrf.toArray⟩, .bool yst] 75)).heap.size (wm.alloc (.cells #[.string ⟨ynm.toArray⟩, .int .i64 4, .int .i64 ymn, .int .i64 ymx, .int .i64 ylo, .int .i64 yhi, .string ⟨yrf.toArray⟩, .bool yst] 75)) W → W.ownsMap Tryz.prog 3 ptrR m2 mn D2 → ShM D2 x.tables[j] rb roff x.tables[j].length → Calls Tryz.prog 95 #[.slice ra x.tables[i].length rq, .int .i64 c, .map (some m2)] W fun e w' => e = .returned (.bool (thereB x.tables[i] c x.tables[j])) ∧ Below W.heap.size W w') := fun m2 mn D2 W h h1 h2 => cellsI x.tables[i] ra rq B c x.tables[j] m2 mn D2 rb roff W (by have := HRI.out.1; omega) (fun k hk => by rw [HRI.out.2 k hk]; exact hcl) HRO.out (HTI.out _ (HBC.out W h)).2 h1 h2
      have HYJ := Lib.hid (HYE.out j hjl hjx hjn)
      have HNJ := Lib.hid (HNO.out j hjl hjx rfl hjn)
      clear HEX HOT HYE HNO hjn hra HROJ
      generalize x.tables[j] = dst at *
      go_wp2_with fail
      clear c0 c1 c2 c3 c4 c5 c6 c7
      refine wp_region_held_drew (S := (fun W => W.cell? ⟨w.heap.size + 1, 0, none⟩ = some (.slice (some ⟨xb, xo, none⟩) x.tables.length xc) ∧ W.cell? ⟨wm.heap.size, 1, none⟩ = some (.int .i64 4) ∧ W.cell? ⟨wm.heap.size, 6, none⟩ = some (.string ⟨yrf.toArray⟩) ∧ W.cell? ⟨xb, xo + i, none⟩ = some (.slice ra x.tables[i].length rq) ∧ W.cell? ⟨xb, xo + j, none⟩ = some (.slice ja dst.length jq) ∧ (Instr.lookup 95 (.map (some mb)) (.string ⟨yrf.toArray⟩) false).run Tryz.prog W = .ok (.int .i64 j) W)) (by kernel_rfl) ?_ (fun hHeld => ?_)
      · (first | exact CX.out _ (Below.refl _ _) | exact CX.out _ (Below.refl _ _).drew | exact CX.out _ BW.out | exact CX.out _ BW2.out)
      refine wpAnyH_take (i := 0) (v := ?_) rfl (by kernel_rfl) (by kernel_rfl) (by kernel_rfl) (fun _ _ _ h => h) (Or.inl ⟨by kernel_rfl, ?_⟩) (by assumption) ?_
      rotate_left
      · (intro wS hSw; (try dsimp only at hSw); go_simp <;> with_reducible rfl)
      try simp only [Act.put, tkS]
      refine wpAnyH_take (i := 1) (v := ?_) rfl (by kernel_rfl) (by kernel_rfl) (by kernel_rfl) (fun _ _ _ h => h) (Or.inl ⟨by kernel_rfl, ?_⟩) (by assumption) ?_
      rotate_left
      · (intro wS hSw; (try dsimp only at hSw); go_simp <;> with_reducible rfl)
      try simp only [Act.put, tkS]
      refine wpAnyH_take (i := 2) (v := ?_) rfl (by kernel_rfl) (by kernel_rfl) (by kernel_rfl) (fun _ _ _ h => h) (Or.inl ⟨by kernel_rfl, ?_⟩) (by assumption) ?_
      rotate_left
      · (intro wS hSw; (try dsimp only at hSw); go_simp <;> with_reducible rfl)
      try simp only [Act.put, tkS]
      refine wpAnyH_take (i := 3) (v := ?_) rfl (by kernel_rfl) (by kernel_rfl) (by kernel_rfl) (fun _ _ _ h => h) (Or.inl ⟨by kernel_rfl, ?_⟩) (by assumption) ?_
      rotate_left
      · (intro wS hSw; (try dsimp only at hSw); go_simp <;> with_reducible rfl)
      try simp only [Act.put, tkS]
      refine wpAnyH_take (i := 4) (v := ?_) rfl (by kernel_rfl) (by kernel_rfl) (by kernel_rfl) (fun _ _ _ h => h) (Or.inl ⟨by kernel_rfl, ?_⟩) (by assumption) ?_
      rotate_left
      · (intro wS hSw; (try dsimp only at hSw); go_simp <;> with_reducible rfl)
      try simp only [Act.put, tkS]
      refine wpAnyH_take (i := 5) (v := ?_) rfl (by kernel_rfl) (by kernel_rfl) (by kernel_rfl) (fun _ _ _ h => h) (Or.inl ⟨by kernel_rfl, ?_⟩) (by assumption) ?_
      rotate_left
      · (intro wS hSw; (try dsimp only at hSw); go_simp <;> with_reducible rfl)
      try simp only [Act.put, tkS]
      refine wpAnyH_take (i := 6) (v := ?_) rfl (by kernel_rfl) (by kernel_rfl) (by kernel_rfl) (fun _ _ _ h => h) (Or.inl ⟨by kernel_rfl, ?_⟩) (by assumption) ?_
      rotate_left
      · (intro wS hSw; (try dsimp only at hSw); go_simp <;> with_reducible rfl)
      try simp only [Act.put, tkS]
      refine wpAnyH_take (i := 7) (v := ?_) rfl (by kernel_rfl) (by kernel_rfl) (by kernel_rfl) (fun _ _ _ h => h) (Or.inl ⟨by kernel_rfl, ?_⟩) (by assumption) ?_
      rotate_left
      · (intro wS hSw; (try dsimp only at hSw); go_simp <;> with_reducible rfl)
      try simp only [Act.put, tkS]
      refine wpAnyH_take (i := 8) (v := ?_) rfl (by kernel_rfl) (by kernel_rfl) (by kernel_rfl) (fun _ _ _ h => h) (Or.inl ⟨by kernel_rfl, ?_⟩) (by assumption) ?_
      rotate_left
      · (intro wS hSw; (try dsimp only at hSw); go_simp <;> with_reducible rfl)
      try simp only [Act.put, tkS]
      refine wpAnyH_take (i := 9) (v := ?_) rfl (by kernel_rfl) (by kernel_rfl) (by kernel_rfl) (fun _ _ _ h => h) (Or.inl ⟨by kernel_rfl, ?_⟩) (by assumption) ?_
      rotate_left
      · (intro wS hSw; (try dsimp only at hSw); go_simp <;> with_reducible rfl)
      try simp only [Act.put, tkS]
      refine wpAnyH_take (i := 10) (v := ?_) rfl (by kernel_rfl) (by kernel_rfl) (by kernel_rfl) (fun _ _ _ h => h) (Or.inl ⟨by kernel_rfl, ?_⟩) (by assumption) ?_
      rotate_left
      · (intro wS hSw; (try dsimp only at hSw); go_simp <;> with_reducible rfl)
      try simp only [Act.put, tkS]
      refine wpAnyH_take (i := 11) (v := ?_) rfl (by kernel_rfl) (by kernel_rfl) (by kernel_rfl) (fun _ _ _ h => h) (Or.inl ⟨by kernel_rfl, ?_⟩) (by assumption) ?_
      rotate_left
      · (intro wS hSw; (try dsimp only at hSw); go_simp <;> with_reducible rfl)
      try simp only [Act.put, tkS]
      refine wpAnyH_take (i := 12) (v := ?_) rfl (by kernel_rfl) (by kernel_rfl) (by kernel_rfl) (fun _ _ _ h => h) (Or.inl ⟨by kernel_rfl, ?_⟩) (by assumption) ?_
      rotate_left
      · (intro wS hSw; (try dsimp only at hSw); go_simp <;> with_reducible rfl)
      try simp only [Act.put, tkS]
      refine wpAnyH_take (i := 13) (v := ?_) rfl (by kernel_rfl) (by kernel_rfl) (by kernel_rfl) (fun _ _ _ h => h) (Or.inl ⟨by kernel_rfl, ?_⟩) (by assumption) ?_
      rotate_left
      · (intro wS hSw; (try dsimp only at hSw); go_simp <;> with_reducible rfl)
      try simp only [Act.put, tkS]
      refine wpAnyH_take (i := 14) (v := ?_) rfl (by kernel_rfl) (by kernel_rfl) (by kernel_rfl) (fun _ _ _ h => h) (Or.inl ⟨by kernel_rfl, ?_⟩) (by assumption) ?_
      rotate_left
      · (intro wS hSw; (try dsimp only at hSw); go_simp <;> with_reducible rfl)
      try simp only [Act.put, tkS]
      refine wpAnyH_take (i := 15) (v := ?_) rfl (by kernel_rfl) (by kernel_rfl) (by kernel_rfl) (fun _ _ _ h => h) (Or.inl ⟨by kernel_rfl, ?_⟩) (by assumption) ?_
      rotate_left
      · (intro wS hSw; (try dsimp only at hSw); go_simp <;> with_reducible rfl)
      try simp only [Act.put, tkS]
      refine wpAnyH_take (i := 16) (v := ?_) rfl (by kernel_rfl) (by kernel_rfl) (by kernel_rfl) (fun _ _ _ h => h) (Or.inl ⟨by kernel_rfl, ?_⟩) (by assumption) ?_
      rotate_left
      · (intro wS hSw; (try dsimp only at hSw); go_simp <;> with_reducible rfl)
      try simp only [Act.put, tkS]
      refine wpAnyH_take (i := 17) (v := ?_) rfl (by kernel_rfl) (by kernel_rfl) (by kernel_rfl) (fun _ _ _ h => h) (Or.inl ⟨by kernel_rfl, ?_⟩) (by assumption) ?_
      rotate_left
      · (intro wS hSw; (try dsimp only at hSw); go_simp <;> with_reducible rfl)
      try simp only [Act.put, tkS]
      refine wpAnyH_ready (rs := [18]) (by kernel_rfl) (by simp) (AllReadyH.cons rfl (fun K hK => ?_) AllReadyH.nil)
      go_simp
      (go_at_call 54; refine (SH.out _ (Below.refl _ _).drew).mono ?_; rintro e w2 ⟨m2, D2, rfl, hown2, hsh2, -, hB⟩; have BW : Hid (Below (wm.alloc (.cells #[.string ⟨ynm.toArray⟩, .int .i64 4, .int .i64 ymn, .int .i64 ymx, .int .i64 ylo, .int .i64 yhi, .string ⟨yrf.toArray⟩, .bool yst] 75)).heap.size (wm.alloc (.cells #[.string ⟨ynm.toArray⟩, .int .i64 4, .int .i64 ymn, .int .i64 ymx, .int .i64 ylo, .int .i64 yhi, .string ⟨yrf.toArray⟩, .bool yst] 75)) w2) := (Below.refl _ _).drew.trans hB; have C2 := Lib.hid (CI.out m2 _ D2 w2 BW.out hown2 hsh2); clear hB hown2 hsh2)
      refine hK.out _ _ ?_ (fun hHeld => ?_)
      · (first | exact CX.out _ (Below.refl _ _) | exact CX.out _ (Below.refl _ _).drew | exact CX.out _ BW.out | exact CX.out _ BW2.out)
      clear hK K
      try simp only [Act.put, tkS]
      refine wpAnyH_ready (rs := [19]) (by kernel_rfl) (by simp) (AllReadyH.cons rfl (fun K hK => ?_) AllReadyH.nil)
      go_simp
      (go_at_call 95; refine C2.out.mono ?_; rintro e w3 ⟨rfl, hB⟩; have BW2 : Hid (Below (wm.alloc (.cells #[.string ⟨ynm.toArray⟩, .int .i64 4, .int .i64 ymn, .int .i64 ymx, .int .i64 ylo, .int .i64 yhi, .string ⟨yrf.toArray⟩, .bool yst] 75)).heap.size (wm.alloc (.cells #[.string ⟨ynm.toArray⟩, .int .i64 4, .int .i64 ymn, .int .i64 ymx, .int .i64 ylo, .int .i64 yhi, .string ⟨yrf.toArray⟩, .bool yst] 75)) w3) := BW.out.trans (hB.mono BW.out.size); clear hB)
      refine hK.out _ _ ?_ (fun hHeld => ?_)
      · (first | exact CX.out _ (Below.refl _ _) | exact CX.out _ (Below.refl _ _).drew | exact CX.out _ BW.out | exact CX.out _ BW2.out)
      clear hK K
      try simp only [Act.put, tkS]
      refine wpAnyH_take (i := 20) (v := ?_) rfl (by kernel_rfl) (by kernel_rfl) (by kernel_rfl) (fun _ _ _ h => h) (Or.inl ⟨by kernel_rfl, ?_⟩) (by assumption) ?_
      rotate_left
      · (intro wS hSw; (try dsimp only at hSw); go_simp <;> with_reducible rfl)
      try simp only [Act.put, tkS]
      refine wpAnyH_take (i := 21) (v := ?_) rfl (by kernel_rfl) (by kernel_rfl) (by kernel_rfl) (fun _ _ _ h => h) (Or.inl ⟨by kernel_rfl, ?_⟩) (by assumption) ?_
      rotate_left
      · (intro wS hSw; (try dsimp only at hSw); go_simp <;> with_reducible rfl)
      try simp only [Act.put, tkS]
      refine wpAnyH_done (by kernel_rfl) ?_ _
      have HB2 := Lib.hid (HBC.out _ BW2.out)
      have HB3 := Lib.hid (BK.out _ HB2.out).bel
      cases he : thereB x.tables[i] c dst
      case false =>
        have HE := Lib.hid (HNJ.out he)
        clear he HYJ HNJ SH CI CX
        go_wp2_with fail
        go_ret
        exact ⟨ret_b HE.out.symm, HB3.out⟩
      have HN := Lib.hid (HNC.out (HYJ.out he))
      clear he HYJ HNJ SH CI CX
      go_wp2_with fail
      go_roundw
      case rel => exact ⟨c + 1, by omega, by go_num, HN.out, HB2.out⟩
      case measure => simp [intOf]; omega
end Go.Proofs.YtmebbinolkohjaaGreat
