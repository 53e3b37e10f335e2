import Derived.Test.YtgiaabgcbpafgaaDLpt
import Derived.Test.YtgiaabgcbpafgaaDRaS
namespace Go.Proofs.Ytgiaabgcbpafgaa
open Go.RowKit
set_option linter.unusedSimpArgs false
/-- what PutRow answers -/
noncomputable def putP (x : StV) (t : Int) (r : RowV) : Int × StV :=
  if plainB x = true then
    if 0 ≤ t ∧ t < x.tables.length then
      if rplI (x.tables.getD t.toNat []) r.id < 0 ∧ 12 ≤ (x.tables.getD t.toNat []).length then (7, x) else (0, ⟨x.tables.set t.toNat (putL (x.tables.getD t.toNat []) r), x.next⟩)
    else (10, stZ)
  else (1, stZ)
def PuSns (w : World) (x : StV) (t : Int) (r : RowV) (e : Ending) (w' : World) : Prop := ∃ (ra : Option Addr) (rc : Nat), e = .returned (.tuple #[.agg #[.slice ra (putP x t r).2.tables.length rc, .int .i64 (putP x t r).2.next], .int .i64 (putP x t r).1]) ∧ Rd w' (fun b => w.heap.size ≤ b ∧ b < w'.heap.size) (dRowSS (putP x t r).2.tables) (.slice ra (putP x t r).2.tables.length rc) ∧ Below w.heap.size w w'
theorem PuSns.zero {w w' : World} {x : StV} {t : Int} {r : RowV} {code : Int} (hP : putP x t r = (code, stZ)) (hB : Below w.heap.size w w') : PuSns w x t r (.returned (.tuple #[.agg #[.slice none 0 0, .int .i64 0], .int .i64 code])) w' := by
  refine ⟨none, 0, by rw [hP]; rfl, by rw [hP]; exact ⟨none, 0, rfl, .inl rfl⟩, hB⟩
set_option maxRecDepth 100000 in
set_option maxHeartbeats 6400000 in
theorem putRowS (x : StV) (t : Int) (r : RowV) (a : Option Addr) (c : Nat) (sa : Option Addr) (sq : Nat) (B B' : Nat → Prop) (w : World) (ho : (dRowSS x.tables).le maxLen) (hk : (dRowSS x.tables).le 1048576) (hor : (dAtomSS r.cells).le 1048576) (hS : Rd w B (dRowSS x.tables) (.slice a x.tables.length c)) (hR : Rd w B' (dAtomSS r.cells) (.slice sa r.cells.length sq)) :
    Calls Try.prog 7 #[.agg #[.slice a x.tables.length c, .int .i64 x.next], .int .i64 t, .agg #[.int .i64 r.id, .slice sa r.cells.length sq]] w (PuSns w x t r) := by
  have HS : Hid (∀ W, Below w.heap.size w W → Rd W B (Ls 1 cRowS x.tables) (.slice a x.tables.length c)) := fun W h => Rd.later hS h
  have PC : Hid (∀ W, Below w.heap.size w W → Calls Try.prog 20 #[.agg #[.slice a x.tables.length c, .int .i64 x.next]] W fun e w' => e = .returned (.bool (plainB x)) ∧ Below W.heap.size W w') := fun W h => plainS x a c B W ho (hS.later h)
  have OS : Hid (∀ W, Below w.heap.size w W → Calls Try.prog 23 #[.agg #[.slice a x.tables.length c, .int .i64 x.next]] W _) := fun W h => ownS x a c B W hk (hS.later h)
  have LQ : Hid (∀ (i : Nat) (hi : i < x.tables.length) W, Below w.heap.size w W → Calls Try.prog 24 #[.agg #[.slice a x.tables.length c, .int .i64 x.next], .int .i64 i, .agg #[.int .i64 r.id, .slice sa r.cells.length sq]] W _) := fun i hi W h => lputS x i r hi a c sa sq B B' W hk hor (hS.later h) (hR.later h)
  have HO := Lib.hid (And.intro ho hk)
  have hlen : x.tables.length ≤ 1048576 := (Ls_le.1 hk).2.1
  have hb := LpB.first w (.slice a x.tables.length c) x.next r.id (.slice sa r.cells.length sq)
  have x0 := cell_at (o := 0) hb.bx rfl
  have x1 := cell_at (o := 1) hb.bx rfl
  have H0 := Lib.hid hb
  clear hS ho hk hb hR hor
  by_cases hp : plainB x = true
  case neg =>
    have hc : plainB x = false := by simpa using hp
    have HP : Hid (putP x t r = (1, stZ)) := by show putP x t r = _; unfold putP; rw [if_neg hp]
    rw [hc] at PC
    clear hc hp
    go_enter Try.func7, Try.ntmps7
    go_wp2_with fail
    refine (PC.out _ H0.out.bel).mono ?_
    rintro e w1 ⟨rfl, hB⟩
    have H1 := Lib.hid (H0.out.later hB)
    clear hB x0 x1
    have r0 := cell_at (o := 0) H1.out.rv rfl
    have r1 := cell_at (o := 1) H1.out.rv rfl
    have g0 := frozen_at 0 H1.out.rv
    have g1 := frozen_at 1 H1.out.rv
    go_wp2_with fail
    exact bodyPost_ret (v := .tuple #[.agg #[.slice none 0 0, .int .i64 0], .int .i64 1]) (by simp [results, Try.results7, go_sem, *]) rfl (PuSns.zero HP.out ((H1.out.bel.setCell (by simp <;> omega) _).setCell (by simp <;> omega) _))
  rw [hp] at PC
  by_cases ht : 0 ≤ t ∧ t < x.tables.length
  case neg =>
    have hc : inR 0 t ((x.tables.length : Int) - 1) = false := by unfold inR; simp; omega
    have HP : Hid (putP x t r = (10, stZ)) := by show putP x t r = _; unfold putP; rw [if_pos hp, if_neg ht]
    have IN := Lib.hid (fun W => inRS t 0 ((x.tables.length : Int) - 1) W)
    rw [hc] at IN
    clear hc hp ht
    go_enter Try.func7, Try.ntmps7
    go_wp2_with fail
    refine (PC.out _ H0.out.bel).mono ?_
    rintro e w1 ⟨rfl, hB⟩
    have H1 := Lib.hid (H0.out.later hB)
    clear hB x0 x1
    have x0 := cell_at (o := 0) H1.out.bx rfl
    go_wp2_with fail
    refine (IN.out _).mono ?_
    rintro e w2 ⟨rfl, rfl⟩
    clear x0
    have r0 := cell_at (o := 0) H1.out.rv rfl
    have r1 := cell_at (o := 1) H1.out.rv rfl
    have g0 := frozen_at 0 H1.out.rv
    have g1 := frozen_at 1 H1.out.rv
    go_wp2_with fail
    exact bodyPost_ret (v := .tuple #[.agg #[.slice none 0 0, .int .i64 0], .int .i64 10]) (by simp [results, Try.results7, go_sem, *]) rfl (PuSns.zero HP.out ((H1.out.bel.setCell (by simp <;> omega) _).setCell (by simp <;> omega) _))
  have hc : inR 0 t ((x.tables.length : Int) - 1) = true := by unfold inR; simp; omega
  have IN := Lib.hid (fun W => inRS t 0 ((x.tables.length : Int) - 1) W)
  rw [hc] at IN
  obtain ⟨i, rfl⟩ : ∃ i : Nat, t = (i : Int) := ⟨t.toNat, by omega⟩
  have hi : i < x.tables.length := by omega
  have HQ : Hid (putP x i r = if rplI x.tables[i] r.id < 0 ∧ 12 ≤ x.tables[i].length then (7, x) else (0, ⟨x.tables.set i (putL x.tables[i] r), x.next⟩)) := by
    show putP x i r = _
    unfold putP
    rw [if_pos hp, if_pos ht, Int.toNat_natCast, getD_tab hi]
  have hi1 : (i : Int) < (x.tables.length : Int) := by omega
  have hi0 : (0 : Int) ≤ (i : Int) := by omega
  have LP := Lib.hid (fun W h => LQ.out i hi W h)
  clear hc hp ht LQ
  go_enter Try.func7, Try.ntmps7
  go_wp2_with fail
  refine (PC.out _ H0.out.bel).mono ?_
  rintro e w1 ⟨rfl, hB⟩
  have H1 := Lib.hid (H0.out.later hB)
  clear hB x0 x1
  have x0 := cell_at (o := 0) H1.out.bx rfl
  go_wp2_with fail
  refine (IN.out _).mono ?_
  rintro e w2 ⟨rfl, rfl⟩
  obtain ⟨b, off, rfl, -, hcc⟩ := (HS.out _ H1.out.bel).things i hi
  obtain ⟨u0, c0, r0⟩ := hcc 0 (by omega)
  replace r0 : Rd w2 B (dRowS x.tables[i]) u0 := r0
  obtain ⟨ra, rq, rfl⟩ := r0.lsSlice
  rw [Nat.mul_one] at c0
  replace c0 : w2.cell? ⟨b, off + i, none⟩ = _ := c0
  have KL : Hid ((dRowS x.tables[i]).le maxLen) := (Ls_le.1 HO.out.1).2.2 i hi 0 (by omega)
  have RP : Hid (∀ W, Below w2.heap.size w2 W → Calls Try.prog 22 #[.slice ra x.tables[i].length rq, .int .i64 r.id] W _) := fun W h => rplS x.tables[i] ra rq r.id B W (Ls_le.1 KL.out).2.1 (r0.later h)
  have CE : Hid (∀ W, Below w2.heap.size w2 W → W.cell? ⟨w.heap.size, 0, none⟩ = some (.slice (some ⟨b, off, none⟩) x.tables.length c) ∧ W.cell? ⟨b, off + i, none⟩ = some (.slice ra x.tables[i].length rq) ∧ W.cell? ⟨w.heap.size + 1, 0, none⟩ = some (.int .i64 r.id)) := fun W h => ⟨cell_at (o := 0) (H1.out.later h).bx rfl, (h.cell (p := ⟨b, off + i, none⟩) (World.block_lt_of_cell? _ _ c0)).trans c0, cell_at (o := 0) (H1.out.later h).rb rfl⟩
  clear hcc r0 x0 c0
  generalize hLL : x.tables[i] = l at *
  have HLE := Lib.hid hLL
  clear hLL
  by_cases hr : rplI l r.id < 0
  case neg =>
    have HP : Hid (putP x i r = (0, ⟨x.tables.set i (putL l r), x.next⟩)) := by show putP x i r = _; rw [HQ.out, if_neg (fun h => hr h.1)]
    have hpd : decide (rplI l r.id < 0) = false := decide_eq_false hr
    clear hr
    generalize rplI l r.id = pl at *
    generalize hrid : r.id = rid at *
    clear hrid
    go_wp2_with fail
    refine wp_region_held_drew (S := (fun W => W.cell? ⟨w.heap.size, 0, none⟩ = some (.slice (some ⟨b, off, none⟩) x.tables.length c) ∧ W.cell? ⟨b, off + i, none⟩ = some (.slice ra l.length rq) ∧ W.cell? ⟨w.heap.size + 1, 0, none⟩ = some (.int .i64 rid))) (by kernel_rfl) ?_ (fun hHeld => ?_)
    · (first | exact CE.out _ (Below.refl _ _) | exact CE.out _ (Below.refl _ _).drew | exact CE.out _ BW3.out)
    refine wpAnyH_take (i := 0) (v := ?_) rfl (by kernel_rfl) (by kernel_rfl) (by kernel_rfl) (fun _ _ _ h => h) (Or.inl ⟨by kernel_rfl, ?_⟩) (by assumption) ?_
    rotate_left
    · (intro wS hSw; (try dsimp only at hSw); go_simp <;> with_reducible rfl)
    try simp only [Act.put, List.getElem_toArray, List.getElem_cons_succ, List.getElem_cons_zero, List.setIfInBounds_toArray, List.set_cons_zero, List.set_cons_succ]
    refine wpAnyH_take (i := 1) (v := ?_) rfl (by kernel_rfl) (by kernel_rfl) (by kernel_rfl) (fun _ _ _ h => h) (Or.inl ⟨by kernel_rfl, ?_⟩) (by assumption) ?_
    rotate_left
    · (intro wS hSw; (try dsimp only at hSw); go_simp <;> with_reducible rfl)
    try simp only [Act.put, List.getElem_toArray, List.getElem_cons_succ, List.getElem_cons_zero, List.setIfInBounds_toArray, List.set_cons_zero, List.set_cons_succ]
    refine wpAnyH_take (i := 2) (v := ?_) rfl (by kernel_rfl) (by kernel_rfl) (by kernel_rfl) (fun _ _ _ h => h) (Or.inl ⟨by kernel_rfl, ?_⟩) (by assumption) ?_
    rotate_left
    · (intro wS hSw; (try dsimp only at hSw); go_simp <;> with_reducible rfl)
    try simp only [Act.put, List.getElem_toArray, List.getElem_cons_succ, List.getElem_cons_zero, List.setIfInBounds_toArray, List.set_cons_zero, List.set_cons_succ]
    refine wpAnyH_take (i := 3) (v := ?_) rfl (by kernel_rfl) (by kernel_rfl) (by kernel_rfl) (fun _ _ _ h => h) (Or.inl ⟨by kernel_rfl, ?_⟩) (by assumption) ?_
    rotate_left
    · (intro wS hSw; (try dsimp only at hSw); go_simp <;> with_reducible rfl)
    try simp only [Act.put, List.getElem_toArray, List.getElem_cons_succ, List.getElem_cons_zero, List.setIfInBounds_toArray, List.set_cons_zero, List.set_cons_succ]
    refine wpAnyH_take (i := 4) (v := ?_) rfl (by kernel_rfl) (by kernel_rfl) (by kernel_rfl) (fun _ _ _ h => h) (Or.inl ⟨by kernel_rfl, ?_⟩) (by assumption) ?_
    rotate_left
    · (intro wS hSw; (try dsimp only at hSw); go_simp <;> with_reducible rfl)
    try simp only [Act.put, List.getElem_toArray, List.getElem_cons_succ, List.getElem_cons_zero, List.setIfInBounds_toArray, List.set_cons_zero, List.set_cons_succ]
    refine wpAnyH_take (i := 5) (v := ?_) rfl (by kernel_rfl) (by kernel_rfl) (by kernel_rfl) (fun _ _ _ h => h) (Or.inl ⟨by kernel_rfl, ?_⟩) (by assumption) ?_
    rotate_left
    · (intro wS hSw; (try dsimp only at hSw); go_simp <;> with_reducible rfl)
    try simp only [Act.put, List.getElem_toArray, List.getElem_cons_succ, List.getElem_cons_zero, List.setIfInBounds_toArray, List.set_cons_zero, List.set_cons_succ]
    refine wpAnyH_take (i := 6) (v := ?_) rfl (by kernel_rfl) (by kernel_rfl) (by kernel_rfl) (fun _ _ _ h => h) (Or.inl ⟨by kernel_rfl, ?_⟩) (by assumption) ?_
    rotate_left
    · (intro wS hSw; (try dsimp only at hSw); go_simp <;> with_reducible rfl)
    try simp only [Act.put, List.getElem_toArray, List.getElem_cons_succ, List.getElem_cons_zero, List.setIfInBounds_toArray, List.set_cons_zero, List.set_cons_succ]
    refine wpAnyH_ready (rs := [7]) (by kernel_rfl) (by simp) (AllReadyH.cons rfl (fun K hK => ?_) AllReadyH.nil)
    go_simp
    go_at_call 22
    refine (RP.out _ (Below.refl _ _).drew).mono ?_
    rintro e w3 ⟨rfl, hB3⟩
    have BW3 : Hid (Below w2.heap.size w2 w3) := (Below.refl _ _).drew.trans hB3
    clear hB3
    refine hK.out _ _ ?_ (fun hHeld => ?_)
    · (first | exact CE.out _ (Below.refl _ _) | exact CE.out _ (Below.refl _ _).drew | exact CE.out _ BW3.out)
    clear hK K
    try simp only [Act.put, List.getElem_toArray, List.getElem_cons_succ, List.getElem_cons_zero, List.setIfInBounds_toArray, List.set_cons_zero, List.set_cons_succ]
    refine wpAnyH_take (i := 8) (v := ?_) rfl (by kernel_rfl) (by kernel_rfl) (by kernel_rfl) (fun _ _ _ h => h) (Or.inl ⟨by kernel_rfl, ?_⟩) (by assumption) ?_
    rotate_left
    · (intro wS hSw; (try dsimp only at hSw); go_simp <;> with_reducible rfl)
    try simp only [Act.put, List.getElem_toArray, List.getElem_cons_succ, List.getElem_cons_zero, List.setIfInBounds_toArray, List.set_cons_zero, List.set_cons_succ]
    refine wpAnyH_take (i := 9) (v := ?_) rfl (by kernel_rfl) (by kernel_rfl) (by kernel_rfl) (fun _ _ _ h => h) (Or.inl ⟨by kernel_rfl, ?_⟩) (by assumption) ?_
    rotate_left
    · (intro wS hSw; (try dsimp only at hSw); go_simp <;> with_reducible rfl)
    try simp only [Act.put, List.getElem_toArray, List.getElem_cons_succ, List.getElem_cons_zero, List.setIfInBounds_toArray, List.set_cons_zero, List.set_cons_succ]
    refine wpAnyH_take (i := 10) (v := undef) rfl (by kernel_rfl) (by kernel_rfl) (by kernel_rfl) (fun _ _ _ h => h) (Or.inr ⟨by kernel_rfl, rfl⟩) (by assumption) ?_
    try simp only [Act.put, List.getElem_toArray, List.getElem_cons_succ, List.getElem_cons_zero, List.setIfInBounds_toArray, List.set_cons_zero, List.set_cons_succ]
    refine wpAnyH_take (i := 11) (v := undef) rfl (by kernel_rfl) (by kernel_rfl) (by kernel_rfl) (fun _ _ _ h => h) (Or.inr ⟨by kernel_rfl, rfl⟩) (by assumption) ?_
    try simp only [Act.put, List.getElem_toArray, List.getElem_cons_succ, List.getElem_cons_zero, List.setIfInBounds_toArray, List.set_cons_zero, List.set_cons_succ]
    refine wpAnyH_take (i := 12) (v := undef) rfl (by kernel_rfl) (by kernel_rfl) (by kernel_rfl) (fun _ _ _ h => h) (Or.inr ⟨by kernel_rfl, rfl⟩) (by assumption) ?_
    try simp only [Act.put, List.getElem_toArray, List.getElem_cons_succ, List.getElem_cons_zero, List.setIfInBounds_toArray, List.set_cons_zero, List.set_cons_succ]
    refine wpAnyH_take (i := 13) (v := undef) rfl (by kernel_rfl) (by kernel_rfl) (by kernel_rfl) (fun _ _ _ h => h) (Or.inr ⟨by kernel_rfl, rfl⟩) (by assumption) ?_
    try simp only [Act.put, List.getElem_toArray, List.getElem_cons_succ, List.getElem_cons_zero, List.setIfInBounds_toArray, List.set_cons_zero, List.set_cons_succ]
    refine wpAnyH_take (i := 14) (v := undef) rfl (by kernel_rfl) (by kernel_rfl) (by kernel_rfl) (fun _ _ _ h => h) (Or.inr ⟨by kernel_rfl, rfl⟩) (by assumption) ?_
    try simp only [Act.put, List.getElem_toArray, List.getElem_cons_succ, List.getElem_cons_zero, List.setIfInBounds_toArray, List.set_cons_zero, List.set_cons_succ]
    refine wpAnyH_take (i := 15) (v := undef) rfl (by kernel_rfl) (by kernel_rfl) (by kernel_rfl) (fun _ _ _ h => h) (Or.inr ⟨by kernel_rfl, rfl⟩) (by assumption) ?_
    try simp only [Act.put, List.getElem_toArray, List.getElem_cons_succ, List.getElem_cons_zero, List.setIfInBounds_toArray, List.set_cons_zero, List.set_cons_succ]
    refine wpAnyH_take (i := 16) (v := undef) rfl (by kernel_rfl) (by kernel_rfl) (by kernel_rfl) (fun _ _ _ h => h) (Or.inr ⟨by kernel_rfl, rfl⟩) (by assumption) ?_
    try simp only [Act.put, List.getElem_toArray, List.getElem_cons_succ, List.getElem_cons_zero, List.setIfInBounds_toArray, List.set_cons_zero, List.set_cons_succ]
    refine wpAnyH_take (i := 17) (v := ?_) rfl (by kernel_rfl) (by kernel_rfl) (by kernel_rfl) (fun _ _ _ h => h) (Or.inl ⟨by kernel_rfl, ?_⟩) (by assumption) ?_
    rotate_left
    · (intro wS hSw; (try dsimp only at hSw); go_simp <;> with_reducible rfl)
    try simp only [Act.put, List.getElem_toArray, List.getElem_cons_succ, List.getElem_cons_zero, List.setIfInBounds_toArray, List.set_cons_zero, List.set_cons_succ]
    refine wpAnyH_done (by kernel_rfl) ?_ _
    have H2 := Lib.hid (H1.out.later BW3.out)
    have x0 := cell_at (o := 0) H2.out.bx rfl
    have x1 := cell_at (o := 1) H2.out.bx rfl
    have y0 := cell_at (o := 0) H2.out.rb rfl
    have y1 := cell_at (o := 1) H2.out.rb rfl
    go_wp2_with fail
    refine (LP.out _ H2.out.bel).mono ?_
    rintro e w4 ⟨qa, qc, rfl, hrd, hB4⟩
    have H3 := Lib.hid (H2.out.later hB4)
    have hs3 : w.heap.size + 1 + 1 < w3.heap.size := (Array.getElem?_eq_some_iff.1 H2.out.rv).1
    have HRD := Lib.hid (And.intro hrd hs3)
    have r0 := cell_at (o := 0) H3.out.rv rfl
    have r1 := cell_at (o := 1) H3.out.rv rfl
    have g0 := frozen_at 0 H3.out.rv
    have g1 := frozen_at 1 H3.out.rv
    clear hrd hB4 x0 x1 y0 y1 hs3
    go_wp2_with fail
    refine bodyPost_ret (v := .tuple #[.agg #[.slice qa x.tables.length qc, .int .i64 x.next], .int .i64 0]) (by simp [results, Try.results7, go_sem, *]) rfl ?_
    have hfr : Frm (· = w.heap.size + 1 + 1) w4 ((w4.setCell ⟨w.heap.size + 1 + 1, 0, none⟩ (.slice qa x.tables.length qc)).setCell ⟨w.heap.size + 1 + 1, 1, none⟩ (.int .i64 x.next)) := (frm_set _ _ _ _).trans (frm_set _ _ _ _)
    refine ⟨qa, qc, by rw [HP.out]; simp, ?_, (H3.out.bel.setCell (by simp <;> omega) _).setCell (by simp <;> omega) _⟩
    rw [HP.out]
    have hs := HRD.out.2
    obtain rfl := HLE.out
    exact (HRD.out.1.frm hfr (fun b hb e => by have h1 := hb.1; have e' : b = w.heap.size + 1 + 1 := e; omega)).mono (fun b hb => ⟨by have := hb.1; omega, by have := hb.2; simpa using this⟩)
  have hpd : decide (rplI l r.id < 0) = true := decide_eq_true hr
  by_cases hn : 12 ≤ l.length
  case neg =>
    have HP : Hid (putP x i r = (0, ⟨x.tables.set i (putL l r), x.next⟩)) := by show putP x i r = _; rw [HQ.out, if_neg (fun h => hn h.2)]
    have hnd : decide ((12 : Int) ≤ (l.length : Int)) = false := decide_eq_false (by omega)
    clear hr
    generalize rplI l r.id = pl at *
    generalize hrid : r.id = rid at *
    clear hrid
    go_wp2_with fail
    refine wp_region_held_drew (S := (fun W => W.cell? ⟨w.heap.size, 0, none⟩ = some (.slice (some ⟨b, off, none⟩) x.tables.length c) ∧ W.cell? ⟨b, off + i, none⟩ = some (.slice ra l.length rq) ∧ W.cell? ⟨w.heap.size + 1, 0, none⟩ = some (.int .i64 rid))) (by kernel_rfl) ?_ (fun hHeld => ?_)
    · (first | exact CE.out _ (Below.refl _ _) | exact CE.out _ (Below.refl _ _).drew | exact CE.out _ BW3.out)
    refine wpAnyH_take (i := 0) (v := ?_) rfl (by kernel_rfl) (by kernel_rfl) (by kernel_rfl) (fun _ _ _ h => h) (Or.inl ⟨by kernel_rfl, ?_⟩) (by assumption) ?_
    rotate_left
    · (intro wS hSw; (try dsimp only at hSw); go_simp <;> with_reducible rfl)
    try simp only [Act.put, List.getElem_toArray, List.getElem_cons_succ, List.getElem_cons_zero, List.setIfInBounds_toArray, List.set_cons_zero, List.set_cons_succ]
    refine wpAnyH_take (i := 1) (v := ?_) rfl (by kernel_rfl) (by kernel_rfl) (by kernel_rfl) (fun _ _ _ h => h) (Or.inl ⟨by kernel_rfl, ?_⟩) (by assumption) ?_
    rotate_left
    · (intro wS hSw; (try dsimp only at hSw); go_simp <;> with_reducible rfl)
    try simp only [Act.put, List.getElem_toArray, List.getElem_cons_succ, List.getElem_cons_zero, List.setIfInBounds_toArray, List.set_cons_zero, List.set_cons_succ]
    refine wpAnyH_take (i := 2) (v := ?_) rfl (by kernel_rfl) (by kernel_rfl) (by kernel_rfl) (fun _ _ _ h => h) (Or.inl ⟨by kernel_rfl, ?_⟩) (by assumption) ?_
    rotate_left
    · (intro wS hSw; (try dsimp only at hSw); go_simp <;> with_reducible rfl)
    try simp only [Act.put, List.getElem_toArray, List.getElem_cons_succ, List.getElem_cons_zero, List.setIfInBounds_toArray, List.set_cons_zero, List.set_cons_succ]
    refine wpAnyH_take (i := 3) (v := ?_) rfl (by kernel_rfl) (by kernel_rfl) (by kernel_rfl) (fun _ _ _ h => h) (Or.inl ⟨by kernel_rfl, ?_⟩) (by assumption) ?_
    rotate_left
    · (intro wS hSw; (try dsimp only at hSw); go_simp <;> with_reducible rfl)
    try simp only [Act.put, List.getElem_toArray, List.getElem_cons_succ, List.getElem_cons_zero, List.setIfInBounds_toArray, List.set_cons_zero, List.set_cons_succ]
    refine wpAnyH_take (i := 4) (v := ?_) rfl (by kernel_rfl) (by kernel_rfl) (by kernel_rfl) (fun _ _ _ h => h) (Or.inl ⟨by kernel_rfl, ?_⟩) (by assumption) ?_
    rotate_left
    · (intro wS hSw; (try dsimp only at hSw); go_simp <;> with_reducible rfl)
    try simp only [Act.put, List.getElem_toArray, List.getElem_cons_succ, List.getElem_cons_zero, List.setIfInBounds_toArray, List.set_cons_zero, List.set_cons_succ]
    refine wpAnyH_take (i := 5) (v := ?_) rfl (by kernel_rfl) (by kernel_rfl) (by kernel_rfl) (fun _ _ _ h => h) (Or.inl ⟨by kernel_rfl, ?_⟩) (by assumption) ?_
    rotate_left
    · (intro wS hSw; (try dsimp only at hSw); go_simp <;> with_reducible rfl)
    try simp only [Act.put, List.getElem_toArray, List.getElem_cons_succ, List.getElem_cons_zero, List.setIfInBounds_toArray, List.set_cons_zero, List.set_cons_succ]
    refine wpAnyH_take (i := 6) (v := ?_) rfl (by kernel_rfl) (by kernel_rfl) (by kernel_rfl) (fun _ _ _ h => h) (Or.inl ⟨by kernel_rfl, ?_⟩) (by assumption) ?_
    rotate_left
    · (intro wS hSw; (try dsimp only at hSw); go_simp <;> with_reducible rfl)
    try simp only [Act.put, List.getElem_toArray, List.getElem_cons_succ, List.getElem_cons_zero, List.setIfInBounds_toArray, List.set_cons_zero, List.set_cons_succ]
    refine wpAnyH_ready (rs := [7]) (by kernel_rfl) (by simp) (AllReadyH.cons rfl (fun K hK => ?_) AllReadyH.nil)
    go_simp
    go_at_call 22
    refine (RP.out _ (Below.refl _ _).drew).mono ?_
    rintro e w3 ⟨rfl, hB3⟩
    have BW3 : Hid (Below w2.heap.size w2 w3) := (Below.refl _ _).drew.trans hB3
    clear hB3
    refine hK.out _ _ ?_ (fun hHeld => ?_)
    · (first | exact CE.out _ (Below.refl _ _) | exact CE.out _ (Below.refl _ _).drew | exact CE.out _ BW3.out)
    clear hK K
    try simp only [Act.put, List.getElem_toArray, List.getElem_cons_succ, List.getElem_cons_zero, List.setIfInBounds_toArray, List.set_cons_zero, List.set_cons_succ]
    refine wpAnyH_take (i := 8) (v := ?_) rfl (by kernel_rfl) (by kernel_rfl) (by kernel_rfl) (fun _ _ _ h => h) (Or.inl ⟨by kernel_rfl, ?_⟩) (by assumption) ?_
    rotate_left
    · (intro wS hSw; (try dsimp only at hSw); go_simp <;> with_reducible rfl)
    try simp only [Act.put, List.getElem_toArray, List.getElem_cons_succ, List.getElem_cons_zero, List.setIfInBounds_toArray, List.set_cons_zero, List.set_cons_succ]
    refine wpAnyH_take (i := 9) (v := ?_) rfl (by kernel_rfl) (by kernel_rfl) (by kernel_rfl) (fun _ _ _ h => h) (Or.inl ⟨by kernel_rfl, ?_⟩) (by assumption) ?_
    rotate_left
    · (intro wS hSw; (try dsimp only at hSw); go_simp <;> with_reducible rfl)
    try simp only [Act.put, List.getElem_toArray, List.getElem_cons_succ, List.getElem_cons_zero, List.setIfInBounds_toArray, List.set_cons_zero, List.set_cons_succ]
    refine wpAnyH_take (i := 10) (v := ?_) rfl (by kernel_rfl) (by kernel_rfl) (by kernel_rfl) (fun _ _ _ h => h) (Or.inl ⟨by kernel_rfl, ?_⟩) (by assumption) ?_
    rotate_left
    · (intro wS hSw; (try dsimp only at hSw); go_simp <;> with_reducible rfl)
    try simp only [Act.put, List.getElem_toArray, List.getElem_cons_succ, List.getElem_cons_zero, List.setIfInBounds_toArray, List.set_cons_zero, List.set_cons_succ]
    refine wpAnyH_take (i := 11) (v := ?_) rfl (by kernel_rfl) (by kernel_rfl) (by kernel_rfl) (fun _ _ _ h => h) (Or.inl ⟨by kernel_rfl, ?_⟩) (by assumption) ?_
    rotate_left
    · (intro wS hSw; (try dsimp only at hSw); go_simp <;> with_reducible rfl)
    try simp only [Act.put, List.getElem_toArray, List.getElem_cons_succ, List.getElem_cons_zero, List.setIfInBounds_toArray, List.set_cons_zero, List.set_cons_succ]
    refine wpAnyH_take (i := 12) (v := ?_) rfl (by kernel_rfl) (by kernel_rfl) (by kernel_rfl) (fun _ _ _ h => h) (Or.inl ⟨by kernel_rfl, ?_⟩) (by assumption) ?_
    rotate_left
    · (intro wS hSw; (try dsimp only at hSw); go_simp <;> with_reducible rfl)
    try simp only [Act.put, List.getElem_toArray, List.getElem_cons_succ, List.getElem_cons_zero, List.setIfInBounds_toArray, List.set_cons_zero, List.set_cons_succ]
    refine wpAnyH_take (i := 13) (v := ?_) rfl (by kernel_rfl) (by kernel_rfl) (by kernel_rfl) (fun _ _ _ h => h) (Or.inl ⟨by kernel_rfl, ?_⟩) (by assumption) ?_
    rotate_left
    · (intro wS hSw; (try dsimp only at hSw); go_simp <;> with_reducible rfl)
    try simp only [Act.put, List.getElem_toArray, List.getElem_cons_succ, List.getElem_cons_zero, List.setIfInBounds_toArray, List.set_cons_zero, List.set_cons_succ]
    refine wpAnyH_take (i := 14) (v := ?_) rfl (by kernel_rfl) (by kernel_rfl) (by kernel_rfl) (fun _ _ _ h => h) (Or.inl ⟨by kernel_rfl, ?_⟩) (by assumption) ?_
    rotate_left
    · (intro wS hSw; (try dsimp only at hSw); go_simp <;> with_reducible rfl)
    try simp only [Act.put, List.getElem_toArray, List.getElem_cons_succ, List.getElem_cons_zero, List.setIfInBounds_toArray, List.set_cons_zero, List.set_cons_succ]
    refine wpAnyH_take (i := 15) (v := ?_) rfl (by kernel_rfl) (by kernel_rfl) (by kernel_rfl) (fun _ _ _ h => h) (Or.inl ⟨by kernel_rfl, ?_⟩) (by assumption) ?_
    rotate_left
    · (intro wS hSw; (try dsimp only at hSw); go_simp <;> with_reducible rfl)
    try simp only [Act.put, List.getElem_toArray, List.getElem_cons_succ, List.getElem_cons_zero, List.setIfInBounds_toArray, List.set_cons_zero, List.set_cons_succ]
    refine wpAnyH_take (i := 16) (v := ?_) rfl (by kernel_rfl) (by kernel_rfl) (by kernel_rfl) (fun _ _ _ h => h) (Or.inl ⟨by kernel_rfl, ?_⟩) (by assumption) ?_
    rotate_left
    · (intro wS hSw; (try dsimp only at hSw); go_simp <;> with_reducible rfl)
    try simp only [Act.put, List.getElem_toArray, List.getElem_cons_succ, List.getElem_cons_zero, List.setIfInBounds_toArray, List.set_cons_zero, List.set_cons_succ]
    refine wpAnyH_take (i := 17) (v := ?_) rfl (by kernel_rfl) (by kernel_rfl) (by kernel_rfl) (fun _ _ _ h => h) (Or.inl ⟨by kernel_rfl, ?_⟩) (by assumption) ?_
    rotate_left
    · (intro wS hSw; (try dsimp only at hSw); go_simp <;> with_reducible rfl)
    try simp only [Act.put, List.getElem_toArray, List.getElem_cons_succ, List.getElem_cons_zero, List.setIfInBounds_toArray, List.set_cons_zero, List.set_cons_succ]
    refine wpAnyH_done (by kernel_rfl) ?_ _
    have H2 := Lib.hid (H1.out.later BW3.out)
    have x0 := cell_at (o := 0) H2.out.bx rfl
    have x1 := cell_at (o := 1) H2.out.bx rfl
    have y0 := cell_at (o := 0) H2.out.rb rfl
    have y1 := cell_at (o := 1) H2.out.rb rfl
    go_wp2_with fail
    refine (LP.out _ H2.out.bel).mono ?_
    rintro e w4 ⟨qa, qc, rfl, hrd, hB4⟩
    have H3 := Lib.hid (H2.out.later hB4)
    have hs3 : w.heap.size + 1 + 1 < w3.heap.size := (Array.getElem?_eq_some_iff.1 H2.out.rv).1
    have HRD := Lib.hid (And.intro hrd hs3)
    have r0 := cell_at (o := 0) H3.out.rv rfl
    have r1 := cell_at (o := 1) H3.out.rv rfl
    have g0 := frozen_at 0 H3.out.rv
    have g1 := frozen_at 1 H3.out.rv
    clear hrd hB4 x0 x1 y0 y1 hs3
    go_wp2_with fail
    refine bodyPost_ret (v := .tuple #[.agg #[.slice qa x.tables.length qc, .int .i64 x.next], .int .i64 0]) (by simp [results, Try.results7, go_sem, *]) rfl ?_
    have hfr : Frm (· = w.heap.size + 1 + 1) w4 ((w4.setCell ⟨w.heap.size + 1 + 1, 0, none⟩ (.slice qa x.tables.length qc)).setCell ⟨w.heap.size + 1 + 1, 1, none⟩ (.int .i64 x.next)) := (frm_set _ _ _ _).trans (frm_set _ _ _ _)
    refine ⟨qa, qc, by rw [HP.out]; simp, ?_, (H3.out.bel.setCell (by simp <;> omega) _).setCell (by simp <;> omega) _⟩
    rw [HP.out]
    have hs := HRD.out.2
    obtain rfl := HLE.out
    exact (HRD.out.1.frm hfr (fun b hb e => by have h1 := hb.1; have e' : b = w.heap.size + 1 + 1 := e; omega)).mono (fun b hb => ⟨by have := hb.1; omega, by have := hb.2; simpa using this⟩)
  case pos =>
    have HP : Hid (putP x i r = (7, x)) := by show putP x i r = _; rw [HQ.out, if_pos ⟨hr, hn⟩]
    have hnd : decide ((12 : Int) ≤ (l.length : Int)) = true := decide_eq_true (by omega)
    clear hr
    generalize rplI l r.id = pl at *
    generalize hrid : r.id = rid at *
    clear hrid
    go_wp2_with fail
    refine wp_region_held_drew (S := (fun W => W.cell? ⟨w.heap.size, 0, none⟩ = some (.slice (some ⟨b, off, none⟩) x.tables.length c) ∧ W.cell? ⟨b, off + i, none⟩ = some (.slice ra l.length rq) ∧ W.cell? ⟨w.heap.size + 1, 0, none⟩ = some (.int .i64 rid))) (by kernel_rfl) ?_ (fun hHeld => ?_)
    · (first | exact CE.out _ (Below.refl _ _) | exact CE.out _ (Below.refl _ _).drew | exact CE.out _ BW3.out)
    refine wpAnyH_take (i := 0) (v := ?_) rfl (by kernel_rfl) (by kernel_rfl) (by kernel_rfl) (fun _ _ _ h => h) (Or.inl ⟨by kernel_rfl, ?_⟩) (by assumption) ?_
    rotate_left
    · (intro wS hSw; (try dsimp only at hSw); go_simp <;> with_reducible rfl)
    try simp only [Act.put, List.getElem_toArray, List.getElem_cons_succ, List.getElem_cons_zero, List.setIfInBounds_toArray, List.set_cons_zero, List.set_cons_succ]
    refine wpAnyH_take (i := 1) (v := ?_) rfl (by kernel_rfl) (by kernel_rfl) (by kernel_rfl) (fun _ _ _ h => h) (Or.inl ⟨by kernel_rfl, ?_⟩) (by assumption) ?_
    rotate_left
    · (intro wS hSw; (try dsimp only at hSw); go_simp <;> with_reducible rfl)
    try simp only [Act.put, List.getElem_toArray, List.getElem_cons_succ, List.getElem_cons_zero, List.setIfInBounds_toArray, List.set_cons_zero, List.set_cons_succ]
    refine wpAnyH_take (i := 2) (v := ?_) rfl (by kernel_rfl) (by kernel_rfl) (by kernel_rfl) (fun _ _ _ h => h) (Or.inl ⟨by kernel_rfl, ?_⟩) (by assumption) ?_
    rotate_left
    · (intro wS hSw; (try dsimp only at hSw); go_simp <;> with_reducible rfl)
    try simp only [Act.put, List.getElem_toArray, List.getElem_cons_succ, List.getElem_cons_zero, List.setIfInBounds_toArray, List.set_cons_zero, List.set_cons_succ]
    refine wpAnyH_take (i := 3) (v := ?_) rfl (by kernel_rfl) (by kernel_rfl) (by kernel_rfl) (fun _ _ _ h => h) (Or.inl ⟨by kernel_rfl, ?_⟩) (by assumption) ?_
    rotate_left
    · (intro wS hSw; (try dsimp only at hSw); go_simp <;> with_reducible rfl)
    try simp only [Act.put, List.getElem_toArray, List.getElem_cons_succ, List.getElem_cons_zero, List.setIfInBounds_toArray, List.set_cons_zero, List.set_cons_succ]
    refine wpAnyH_take (i := 4) (v := ?_) rfl (by kernel_rfl) (by kernel_rfl) (by kernel_rfl) (fun _ _ _ h => h) (Or.inl ⟨by kernel_rfl, ?_⟩) (by assumption) ?_
    rotate_left
    · (intro wS hSw; (try dsimp only at hSw); go_simp <;> with_reducible rfl)
    try simp only [Act.put, List.getElem_toArray, List.getElem_cons_succ, List.getElem_cons_zero, List.setIfInBounds_toArray, List.set_cons_zero, List.set_cons_succ]
    refine wpAnyH_take (i := 5) (v := ?_) rfl (by kernel_rfl) (by kernel_rfl) (by kernel_rfl) (fun _ _ _ h => h) (Or.inl ⟨by kernel_rfl, ?_⟩) (by assumption) ?_
    rotate_left
    · (intro wS hSw; (try dsimp only at hSw); go_simp <;> with_reducible rfl)
    try simp only [Act.put, List.getElem_toArray, List.getElem_cons_succ, List.getElem_cons_zero, List.setIfInBounds_toArray, List.set_cons_zero, List.set_cons_succ]
    refine wpAnyH_take (i := 6) (v := ?_) rfl (by kernel_rfl) (by kernel_rfl) (by kernel_rfl) (fun _ _ _ h => h) (Or.inl ⟨by kernel_rfl, ?_⟩) (by assumption) ?_
    rotate_left
    · (intro wS hSw; (try dsimp only at hSw); go_simp <;> with_reducible rfl)
    try simp only [Act.put, List.getElem_toArray, List.getElem_cons_succ, List.getElem_cons_zero, List.setIfInBounds_toArray, List.set_cons_zero, List.set_cons_succ]
    refine wpAnyH_ready (rs := [7]) (by kernel_rfl) (by simp) (AllReadyH.cons rfl (fun K hK => ?_) AllReadyH.nil)
    go_simp
    go_at_call 22
    refine (RP.out _ (Below.refl _ _).drew).mono ?_
    rintro e w3 ⟨rfl, hB3⟩
    have BW3 : Hid (Below w2.heap.size w2 w3) := (Below.refl _ _).drew.trans hB3
    clear hB3
    refine hK.out _ _ ?_ (fun hHeld => ?_)
    · (first | exact CE.out _ (Below.refl _ _) | exact CE.out _ (Below.refl _ _).drew | exact CE.out _ BW3.out)
    clear hK K
    try simp only [Act.put, List.getElem_toArray, List.getElem_cons_succ, List.getElem_cons_zero, List.setIfInBounds_toArray, List.set_cons_zero, List.set_cons_succ]
    refine wpAnyH_take (i := 8) (v := ?_) rfl (by kernel_rfl) (by kernel_rfl) (by kernel_rfl) (fun _ _ _ h => h) (Or.inl ⟨by kernel_rfl, ?_⟩) (by assumption) ?_
    rotate_left
    · (intro wS hSw; (try dsimp only at hSw); go_simp <;> with_reducible rfl)
    try simp only [Act.put, List.getElem_toArray, List.getElem_cons_succ, List.getElem_cons_zero, List.setIfInBounds_toArray, List.set_cons_zero, List.set_cons_succ]
    refine wpAnyH_take (i := 9) (v := ?_) rfl (by kernel_rfl) (by kernel_rfl) (by kernel_rfl) (fun _ _ _ h => h) (Or.inl ⟨by kernel_rfl, ?_⟩) (by assumption) ?_
    rotate_left
    · (intro wS hSw; (try dsimp only at hSw); go_simp <;> with_reducible rfl)
    try simp only [Act.put, List.getElem_toArray, List.getElem_cons_succ, List.getElem_cons_zero, List.setIfInBounds_toArray, List.set_cons_zero, List.set_cons_succ]
    refine wpAnyH_take (i := 10) (v := ?_) rfl (by kernel_rfl) (by kernel_rfl) (by kernel_rfl) (fun _ _ _ h => h) (Or.inl ⟨by kernel_rfl, ?_⟩) (by assumption) ?_
    rotate_left
    · (intro wS hSw; (try dsimp only at hSw); go_simp <;> with_reducible rfl)
    try simp only [Act.put, List.getElem_toArray, List.getElem_cons_succ, List.getElem_cons_zero, List.setIfInBounds_toArray, List.set_cons_zero, List.set_cons_succ]
    refine wpAnyH_take (i := 11) (v := ?_) rfl (by kernel_rfl) (by kernel_rfl) (by kernel_rfl) (fun _ _ _ h => h) (Or.inl ⟨by kernel_rfl, ?_⟩) (by assumption) ?_
    rotate_left
    · (intro wS hSw; (try dsimp only at hSw); go_simp <;> with_reducible rfl)
    try simp only [Act.put, List.getElem_toArray, List.getElem_cons_succ, List.getElem_cons_zero, List.setIfInBounds_toArray, List.set_cons_zero, List.set_cons_succ]
    refine wpAnyH_take (i := 12) (v := ?_) rfl (by kernel_rfl) (by kernel_rfl) (by kernel_rfl) (fun _ _ _ h => h) (Or.inl ⟨by kernel_rfl, ?_⟩) (by assumption) ?_
    rotate_left
    · (intro wS hSw; (try dsimp only at hSw); go_simp <;> with_reducible rfl)
    try simp only [Act.put, List.getElem_toArray, List.getElem_cons_succ, List.getElem_cons_zero, List.setIfInBounds_toArray, List.set_cons_zero, List.set_cons_succ]
    refine wpAnyH_take (i := 13) (v := ?_) rfl (by kernel_rfl) (by kernel_rfl) (by kernel_rfl) (fun _ _ _ h => h) (Or.inl ⟨by kernel_rfl, ?_⟩) (by assumption) ?_
    rotate_left
    · (intro wS hSw; (try dsimp only at hSw); go_simp <;> with_reducible rfl)
    try simp only [Act.put, List.getElem_toArray, List.getElem_cons_succ, List.getElem_cons_zero, List.setIfInBounds_toArray, List.set_cons_zero, List.set_cons_succ]
    refine wpAnyH_take (i := 14) (v := ?_) rfl (by kernel_rfl) (by kernel_rfl) (by kernel_rfl) (fun _ _ _ h => h) (Or.inl ⟨by kernel_rfl, ?_⟩) (by assumption) ?_
    rotate_left
    · (intro wS hSw; (try dsimp only at hSw); go_simp <;> with_reducible rfl)
    try simp only [Act.put, List.getElem_toArray, List.getElem_cons_succ, List.getElem_cons_zero, List.setIfInBounds_toArray, List.set_cons_zero, List.set_cons_succ]
    refine wpAnyH_take (i := 15) (v := ?_) rfl (by kernel_rfl) (by kernel_rfl) (by kernel_rfl) (fun _ _ _ h => h) (Or.inl ⟨by kernel_rfl, ?_⟩) (by assumption) ?_
    rotate_left
    · (intro wS hSw; (try dsimp only at hSw); go_simp <;> with_reducible rfl)
    try simp only [Act.put, List.getElem_toArray, List.getElem_cons_succ, List.getElem_cons_zero, List.setIfInBounds_toArray, List.set_cons_zero, List.set_cons_succ]
    refine wpAnyH_take (i := 16) (v := ?_) rfl (by kernel_rfl) (by kernel_rfl) (by kernel_rfl) (fun _ _ _ h => h) (Or.inl ⟨by kernel_rfl, ?_⟩) (by assumption) ?_
    rotate_left
    · (intro wS hSw; (try dsimp only at hSw); go_simp <;> with_reducible rfl)
    try simp only [Act.put, List.getElem_toArray, List.getElem_cons_succ, List.getElem_cons_zero, List.setIfInBounds_toArray, List.set_cons_zero, List.set_cons_succ]
    refine wpAnyH_take (i := 17) (v := ?_) rfl (by kernel_rfl) (by kernel_rfl) (by kernel_rfl) (fun _ _ _ h => h) (Or.inl ⟨by kernel_rfl, ?_⟩) (by assumption) ?_
    rotate_left
    · (intro wS hSw; (try dsimp only at hSw); go_simp <;> with_reducible rfl)
    try simp only [Act.put, List.getElem_toArray, List.getElem_cons_succ, List.getElem_cons_zero, List.setIfInBounds_toArray, List.set_cons_zero, List.set_cons_succ]
    refine wpAnyH_done (by kernel_rfl) ?_ _
    have H2 := Lib.hid (H1.out.later BW3.out)
    have x0 := cell_at (o := 0) H2.out.bx rfl
    have x1 := cell_at (o := 1) H2.out.bx rfl
    go_wp2_with fail
    refine (OS.out _ H2.out.bel).mono ?_
    rintro e w4 ⟨qa, qc, rfl, hsq, hB4⟩
    have H3 := Lib.hid (H2.out.later hB4)
    have hs3 : w.heap.size + 1 + 1 < w3.heap.size := (Array.getElem?_eq_some_iff.1 H2.out.rv).1
    have HRD : Hid (Rd w4 (fun d => w3.heap.size ≤ d ∧ d < w4.heap.size) (dRowSS x.tables) (.slice qa x.tables.length qc) ∧ w.heap.size + 1 + 1 < w3.heap.size) := ⟨hsq.rd (by omega) (fun g e => (hsq.low e).1), hs3⟩
    have r0 := cell_at (o := 0) H3.out.rv rfl
    have r1 := cell_at (o := 1) H3.out.rv rfl
    have g0 := frozen_at 0 H3.out.rv
    have g1 := frozen_at 1 H3.out.rv
    clear hsq hB4 x0 x1 hs3
    go_wp2_with fail
    refine bodyPost_ret (v := .tuple #[.agg #[.slice qa x.tables.length qc, .int .i64 x.next], .int .i64 7]) (by simp [results, Try.results7, go_sem, *]) rfl ?_
    have hfr : Frm (· = w.heap.size + 1 + 1) w4 ((w4.setCell ⟨w.heap.size + 1 + 1, 0, none⟩ (.slice qa x.tables.length qc)).setCell ⟨w.heap.size + 1 + 1, 1, none⟩ (.int .i64 x.next)) := (frm_set _ _ _ _).trans (frm_set _ _ _ _)
    refine ⟨qa, qc, by rw [HP.out], ?_, (H3.out.bel.setCell (by simp <;> omega) _).setCell (by simp <;> omega) _⟩
    rw [HP.out]
    have hs := HRD.out.2
    exact (HRD.out.1.frm hfr (fun b hb e => by have h1 := hb.1; have e' : b = w.heap.size + 1 + 1 := e; omega)).mono (fun b hb => ⟨by have := hb.1; omega, by simpa using hb.2⟩)
end Go.Proofs.Ytgiaabgcbpafgaa
