import Derived.Test.YtgiaabgcbpafgaaDPuF
import Derived.Test.YtgiaabgcbpafgaaDCst
import Derived.Test.YtgiaabgcbpafgaaDRaI
import Derived.BigQuiet
namespace Go.Proofs.Ytgiaabgcbpafgaa
open Go.RowKit Go.Maps
set_option linter.unusedSimpArgs false
def PuAns (w : World) (x : StV) (t : Int) (r : RowV) (e : Ending) (w' : World) : Prop := ∃ (ra : Option Addr) (rc : Nat), e = .returned (.tuple #[.agg #[.slice ra (putP x t r).2.tables.length rc, .int .i64 (putP x t r).2.next], .int .i64 (putP x t r).1]) ∧ Own w' (dRowSS (putP x t r).2.tables) (fun c => w.heap.size ≤ c ∧ c < w'.heap.size) (.slice ra (putP x t r).2.tables.length rc) ∧ Below w.heap.size w w'
theorem PuAns.zero {w w' : World} {x : StV} {t : Int} {r : RowV} {code : Int} (hP : putP x t r = (code, stZ)) (hB : Below w.heap.size w w') : PuAns w x t r (.returned (.tuple #[.agg #[.slice none 0 0, .int .i64 0], .int .i64 code])) w' := by
  refine ⟨none, 0, by rw [hP]; rfl, by rw [hP]; exact ⟨none, 0, rfl, .inl rfl⟩, hB⟩
theorem rise_lt {l : List RowV} {r : RowV} {k : Nat} (h : riseIds l) (hk : k < l.length) (he : l[k].id = r.id) : ∀ m (hm : m < l.length), m < k → l[m].id < r.id := by
  have lt : ∀ j i (hj : j < l.length) (hij : i < j), (l[i]'(by omega)).id < l[j].id := by
    intro j
    induction j with
    | zero => intro i _ h; omega
    | succ j ih =>
      intro i hj hij
      have h1 := h j hj
      by_cases e : i = j
      · subst e; exact h1
      · have := ih i (by omega) (by omega); omega
  intro m hm hmk
  have := lt k m hk hmk
  omega
set_option maxRecDepth 100000 in
set_option maxHeartbeats 12800000 in
theorem putI (x : StV) (t : Int) (r : RowV) (a : Option Addr) (c : Nat) (sa : Option Addr) (sq : Nat) (B B' : Nat → Prop) (w : World) (ho : (dRowSS x.tables).le maxLen) (hk : (dRowSS x.tables).le 1048576) (hor : (dAtomSS r.cells).le 1048576) (hid : iOK r.id) (hS : Rd w B (dRowSS x.tables) (.slice a x.tables.length c)) (hR : Rd w B' (dAtomSS r.cells) (.slice sa r.cells.length sq)) :
    Calls Try.prog 10 #[.agg #[.slice a x.tables.length c, .int .i64 x.next], .int .i64 t, .agg #[.int .i64 r.id, .slice sa r.cells.length sq]] w (PuAns w x t r) := by
  have HS : Hid (∀ W, Below w.heap.size w W → Rd W B (Ls 1 cRowS x.tables) (.slice a x.tables.length c)) := fun W h => Rd.later hS h
  have PC : Hid (∀ W, Below w.heap.size w W → Calls Try.prog 27 #[.agg #[.slice a x.tables.length c, .int .i64 x.next], .int .i64 t] W fun e w' => e = .returned (.int .i64 (rplC x t)) ∧ Below W.heap.size W w') := fun W h => placeCodeI x t a c B W ho (hS.later h)
  have CS : Hid (∀ W, Below w.heap.size w W → Calls Try.prog 28 #[.agg #[.slice a x.tables.length c, .int .i64 x.next]] W _) := fun W h => copyStoreI x a c B W hk (hS.later h)
  have HRR : Hid (∀ W, Below w.heap.size w W → Rd W B' (dAtomSS r.cells) (.slice sa r.cells.length sq)) := fun W h => hR.later h
  have HO := Lib.hid (And.intro ho (And.intro hk (And.intro hor hid)))
  have hb := LpB.first w (.slice a x.tables.length c) x.next r.id (.slice sa r.cells.length sq)
  have x0 := cell_at (o := 0) hb.bx rfl
  have x1 := cell_at (o := 1) hb.bx rfl
  have H0 := Lib.hid hb
  clear hS hR ho hk hor hid hb
  by_cases hp : plainB x = true
  case neg =>
    have hc : rplC x t = 1 := by unfold rplC; rw [if_neg hp]
    have HP : Hid (putP x t r = (1, stZ)) := by show putP x t r = _; unfold putP; rw [if_neg hp]
    rw [hc] at PC
    clear hc hp
    go_enter Try.func10, Try.ntmps10
    go_wp2_with fail
    refine (PC.out _ H0.out.bel).mono ?_
    rintro e w1 ⟨rfl, hB⟩
    have H1 := Lib.hid (H0.out.later hB)
    have r0 := cell_at (o := 0) H1.out.rv rfl
    have r1 := cell_at (o := 1) H1.out.rv rfl
    have g0 := frozen_at 0 H1.out.rv
    have g1 := frozen_at 1 H1.out.rv
    clear hB x0 x1
    go_wp2_with fail
    exact bodyPost_ret (v := .tuple #[.agg #[.slice none 0 0, .int .i64 0], .int .i64 1]) (by simp [results, Try.results10, go_sem, *]) rfl (PuAns.zero HP.out ((H1.out.bel.setCell (by simp <;> omega) _).setCell (by simp <;> omega) _))
  by_cases ht : 0 ≤ t ∧ t < x.tables.length
  case neg =>
    have hc : rplC x t = 10 := by unfold rplC hasT; rw [if_pos hp, if_neg (by simpa using ht)]
    have HP : Hid (putP x t r = (10, stZ)) := by show putP x t r = _; unfold putP; rw [if_pos hp, if_neg ht]
    rw [hc] at PC
    clear hc hp ht
    go_enter Try.func10, Try.ntmps10
    go_wp2_with fail
    refine (PC.out _ H0.out.bel).mono ?_
    rintro e w1 ⟨rfl, hB⟩
    have H1 := Lib.hid (H0.out.later hB)
    have r0 := cell_at (o := 0) H1.out.rv rfl
    have r1 := cell_at (o := 1) H1.out.rv rfl
    have g0 := frozen_at 0 H1.out.rv
    have g1 := frozen_at 1 H1.out.rv
    clear hB x0 x1
    go_wp2_with fail
    exact bodyPost_ret (v := .tuple #[.agg #[.slice none 0 0, .int .i64 0], .int .i64 10]) (by simp [results, Try.results10, go_sem, *]) rfl (PuAns.zero HP.out ((H1.out.bel.setCell (by simp <;> omega) _).setCell (by simp <;> omega) _))
  have hc : rplC x t = 0 := by unfold rplC hasT; rw [if_pos hp, if_pos (by simpa using ht)]
  obtain ⟨i, rfl⟩ : ∃ i : Nat, t = (i : Int) := ⟨t.toNat, by omega⟩
  have hi : i < x.tables.length := by omega
  have HPL := Lib.hid (plain_of hp i hi)
  have HQ : Hid (putP x i r = if rplI x.tables[i] r.id < 0 ∧ 12 ≤ x.tables[i].length then (7, x) else (0, ⟨x.tables.set i (putL x.tables[i] r), x.next⟩)) := by
    show putP x i r = _
    unfold putP
    rw [if_pos hp, if_pos ht, Int.toNat_natCast, getD_tab hi]
  rw [hc] at PC
  have hi1 : (i : Int) < (x.tables.length : Int) := by omega
  have hi0 : (0 : Int) ≤ (i : Int) := by omega
  clear hc hp ht
  go_enter Try.func10, Try.ntmps10
  go_wp2_with fail
  refine (PC.out _ H0.out.bel).mono ?_
  rintro e w1 ⟨rfl, hB⟩
  have H1 := Lib.hid (H0.out.later hB)
  clear hB x0 x1
  have x0 := cell_at (o := 0) H1.out.bx rfl
  have x1 := cell_at (o := 1) H1.out.bx rfl
  go_wp2_with fail
  refine (CS.out _ H1.out.bel).mono ?_
  rintro e W1 ⟨q, rfl, hq, hts, hex, hB⟩
  have H2 := Lib.hid (H1.out.later hB)
  have HS0 : Hid (w.heap.size + 1 + 1 < q) := by have h1 := (Array.getElem?_eq_some_iff.1 H1.out.rv).1; show _ < _; omega
  clear hB x0 x1
  obtain ⟨p, g, hqp, hcq, hrp⟩ := hex i hi
  obtain ⟨W2, hW2⟩ : ∃ W2, W2 = W1.alloc (.cells #[.slice (some ⟨q, 0, none⟩) x.tables.length x.tables.length, .int .i64 x.next] 32) := ⟨_, rfl⟩
  have hb2 : Below W1.heap.size W1 W2 := by rw [hW2]; exact below_allocD _ _
  have hn2 : W2.heap[W1.heap.size]? = some (.cells #[.slice (some ⟨q, 0, none⟩) x.tables.length x.tables.length, .int .i64 x.next] 32) := by rw [hW2]; exact heap_newD _ _
  have H3 := Lib.hid (H2.out.later hb2)
  obtain ⟨gq, hrq⟩ := hts.row
  rw [Nat.mul_one] at hrq
  have hO1 := TS.done (by omega) hts
  have hO2 : Own W2 (dRowSS x.tables) (fun d => q ≤ d ∧ d < W1.heap.size) (.slice (some ⟨q, 0, none⟩) x.tables.length x.tables.length) := hO1.later hb2
  have hcq2 : W2.cell? ⟨q, i, none⟩ = some (.slice (some ⟨p, 0, none⟩) x.tables[i].length x.tables[i].length) := (hb2.cell (p := ⟨q, i, none⟩) hrq.lt).trans hcq
  have hrp2 := hrp.of_block (hb2.block _ hrp.lt)
  have hrq2 := hrq.of_block (hb2.block _ hrq.lt)
  obtain ⟨ui, eui, rui⟩ := (Own.rd _ _ _ hO2).spotT hi (j := 0) (by omega)
  rw [Nat.mul_one, Nat.add_zero, Nat.zero_add, hcq2] at eui
  simp only [Option.some.injEq] at eui
  subst eui
  have RI : Hid (∀ W, Below W2.heap.size W2 W → Rd W (fun d => q ≤ d ∧ d < W1.heap.size) (dRowS x.tables[i]) (.slice (some ⟨p, 0, none⟩) x.tables[i].length x.tables[i].length)) := fun W h => Rd.later rui h
  have KL : Hid ((dRowS x.tables[i]).le maxLen ∧ (dRowS x.tables[i]).le 1048576) := ⟨(Ls_le.1 HO.out.1).2.2 i hi 0 (by omega), (Ls_le.1 HO.out.2.1).2.2 i hi 0 (by omega)⟩
  have SH : Hid (∀ W, Below W2.heap.size W2 W → Calls Try.prog 29 #[.slice (some ⟨p, 0, none⟩) x.tables[i].length x.tables[i].length] W _) := fun W h => shelveI x.tables[i] (some ⟨p, 0, none⟩) x.tables[i].length p 0 _ W (fun _ => rfl) KL.out.1 (RI.out W h)
  have hlow : W1.heap.size < W2.heap.size ∧ p < W1.heap.size ∧ q < W1.heap.size := ⟨(Array.getElem?_eq_some_iff.1 hn2).1, hrp.lt, hrq.lt⟩
  have CE : Hid (∀ W, Below W2.heap.size W2 W → W.cell? ⟨W1.heap.size, 0, none⟩ = some (.slice (some ⟨q, 0, none⟩) x.tables.length x.tables.length) ∧ W.cell? ⟨q, i, none⟩ = some (.slice (some ⟨p, 0, none⟩) x.tables[i].length x.tables[i].length) ∧ W.cell? ⟨w.heap.size + 1, 0, none⟩ = some (.int .i64 r.id) ∧ W.cell? ⟨w.heap.size + 1, 1, none⟩ = some (.slice sa r.cells.length sq)) := fun W h => ⟨cell_at (o := 0) (heap_keptD hn2 h) rfl, (h.cell (p := ⟨q, i, none⟩) (by show q < _; omega)).trans hcq2, cell_at (o := 0) (H3.out.later h).rb rfl, cell_at (o := 1) (H3.out.later h).rb rfl⟩
  have CR : Hid (∀ W, Below W2.heap.size W2 W → Calls Try.prog 30 #[.pointer (some ⟨w.heap.size + 1, 0, none⟩)] W _) := fun W h => copyRowI r (w.heap.size + 1) 0 sa sq B' W HO.out.2.2.1 (HRR.out W (H3.out.later h).bel) (CE.out W h).2.2.1 (CE.out W h).2.2.2
  have hgg : ∀ j (h : j < x.tables[i].length), g (j * 2) = .int .i64 x.tables[i][j].id ∧ ∃ a n c, g (j * 2 + 1) = .slice a n c := fun j hj => by
    have hR : Rd W2 _ (Ls 2 dRow x.tables[i]) _ := RI.out _ (Below.refl _ _)
    obtain ⟨u0, e0, q0⟩ := hR.spotT hj (j := 0) (by omega)
    obtain rfl : u0 = .int .i64 x.tables[i][j].id := q0
    rw [Nat.zero_add, Nat.add_zero, hrp2.cell (i := j * 2) (by omega)] at e0
    obtain ⟨u1, e1, q1⟩ := hR.spotT hj (j := 1) (by omega)
    replace q1 : Rd W2 _ (dAtomSS x.tables[i][j].cells) u1 := q1
    obtain ⟨va, vq, rfl⟩ := q1.lsSlice
    rw [Nat.zero_add, hrp2.cell (i := j * 2 + 1) (by omega)] at e1
    simp only [Option.some.injEq] at e0 e1
    exact ⟨e0, _, _, _, e1⟩
  have HONE : Hid (∀ u ∈ rowCs g x.tables[i].length, u.oneCell' = true) := fun u hu => by
    obtain ⟨m, hm, rfl⟩ := List.mem_map.1 hu
    rw [List.mem_range] at hm
    rcases (by omega : m = m / 2 * 2 ∨ m = m / 2 * 2 + 1) with e | e
    · rw [e, (hgg (m / 2) (by omega)).1]; rfl
    · obtain ⟨a', n', c', h⟩ := (hgg (m / 2) (by omega)).2
      rw [e, h]; rfl
  have HIDS : Hid (∀ W, Below W2.heap.size W2 W → ∀ j (h : j < x.tables[i].length), W.cell? ⟨p, j * 2, none⟩ = some (.int .i64 x.tables[i][j].id)) := fun W hW j hj => by
    rw [hW.cell (p := ⟨p, j * 2, none⟩) (by show p < _; omega), hrp2.cell (i := j * 2) (by omega), (hgg j hj).1]
  have HM := Lib.hid (And.intro hn2 (And.intro hO2 (And.intro hcq2 (And.intro hrp2 (And.intro hrq2 hlow)))))
  have HPQ := Lib.hid hqp
  have HW2 := Lib.hid hW2
  have HI := Lib.hid hi
  have hll : x.tables[i].length ≤ 1048576 := (Ls_le.1 KL.out.2).2.1
  clear hts hex hO1 hO2 hcq hcq2 hrp hrp2 hrq hrq2 hn2 hb2 hq hqp rui hW2 hgg hlow
  generalize hle : x.tables[i] = l at *
  have HLE := Lib.hid hle
  clear hle
  rcases rpl_cases l r.id with ⟨hr, hno⟩ | ⟨k, hkl, hr, hke, hkn⟩
  · have hptr := ptr_none (l := l) (rb := p) (roff := 0) (k := l.length) (Nat.le_refl _) hno
    have HPT := Lib.hid hptr
    have HNO : Hid (∀ m (h : m < l.length), l[m].id ≠ r.id) := hno
    by_cases h12 : 12 ≤ l.length
    case pos =>
      have HP : Hid (putP x i r = (7, x)) := by show putP x i r = _; rw [HQ.out, if_pos ⟨by omega, h12⟩]
      have hd : decide ((12 : Int) ≤ (l.length : Int)) = true := decide_eq_true (by omega)
      clear hr hno hptr h12
      have y1 : (W1.alloc (.cells #[.slice (some ⟨q, 0, none⟩) x.tables.length x.tables.length, .int .i64 x.next] 32)).cell? ⟨q, i, none⟩ = some (.slice (some ⟨p, 0, none⟩) l.length l.length) := by rw [← HW2.out]; exact (CE.out _ (Below.refl _ _)).2.1
      go_wp2_with fail
      rw [← HW2.out]
      clear y1
      refine wp_region_held_drew (S := (fun W => W.cell? ⟨w.heap.size + 1, 0, none⟩ = some (.int .i64 r.id))) (by kernel_rfl) ?_ (fun hHeld => ?_)
      · (first | exact (CE.out _ (Below.refl _ _)).2.2.1 | exact (CE.out _ (Below.refl _ _).drew).2.2.1 | exact (CE.out _ BW3.out).2.2.1)
      refine wpAnyH_take (i := 0) (v := ?_) rfl (by kernel_rfl) (by kernel_rfl) (by kernel_rfl) (fun _ _ _ h => h) (Or.inl ⟨by kernel_rfl, ?_⟩) (by assumption) ?_
      rotate_left
      · (intro wS hSw; (try dsimp only at hSw); go_simp <;> with_reducible rfl)
      try simp only [Act.put, List.getElem_toArray, List.getElem_cons_succ, List.getElem_cons_zero, List.setIfInBounds_toArray, List.set_cons_zero, List.set_cons_succ]
      refine wpAnyH_take (i := 2) (v := ?_) rfl (by kernel_rfl) (by kernel_rfl) (by kernel_rfl) (fun _ _ _ h => h) (Or.inl ⟨by kernel_rfl, ?_⟩) (by assumption) ?_
      rotate_left
      · (intro wS hSw; (try dsimp only at hSw); go_simp <;> with_reducible rfl)
      try simp only [Act.put, List.getElem_toArray, List.getElem_cons_succ, List.getElem_cons_zero, List.setIfInBounds_toArray, List.set_cons_zero, List.set_cons_succ]
      refine wpAnyH_take (i := 3) (v := ?_) rfl (by kernel_rfl) (by kernel_rfl) (by kernel_rfl) (fun _ _ _ h => h) (Or.inl ⟨by kernel_rfl, ?_⟩) (by assumption) ?_
      rotate_left
      · (intro wS hSw; (try dsimp only at hSw); go_simp <;> with_reducible rfl)
      try simp only [Act.put, List.getElem_toArray, List.getElem_cons_succ, List.getElem_cons_zero, List.setIfInBounds_toArray, List.set_cons_zero, List.set_cons_succ]
      refine wpAnyH_ready (rs := [1]) (by kernel_rfl) (by simp) (AllReadyH.cons rfl (fun K hK => ?_) AllReadyH.nil)
      go_simp
      go_at_call 29
      refine (SH.out _ (Below.refl _ _).drew).mono ?_
      rintro e w3 ⟨mp, D, rfl, hown, hsh, hmp, hB3⟩
      have hlook := look_shelf hown hsh HO.out.2.2.2
      rw [HPT.out] at hlook
      have BW3 : Hid (Below W2.heap.size W2 w3) := (Below.refl _ _).drew.trans hB3
      clear hown hsh hB3
      refine hK.out _ _ ?_ (fun hHeld => ?_)
      · (first | exact (CE.out _ (Below.refl _ _)).2.2.1 | exact (CE.out _ (Below.refl _ _).drew).2.2.1 | exact (CE.out _ BW3.out).2.2.1)
      clear hK K
      try simp only [Act.put, List.getElem_toArray, List.getElem_cons_succ, List.getElem_cons_zero, List.setIfInBounds_toArray, List.set_cons_zero, List.set_cons_succ]
      refine wpAnyH_ready (rs := [4]) (by kernel_rfl) (by simp) (AllReadyH.cons rfl (fun K hK => ?_) AllReadyH.nil)
      go_simp
      skip
      refine hK.out _ _ ?_ (fun hHeld => ?_)
      · (first | exact (CE.out _ (Below.refl _ _)).2.2.1 | exact (CE.out _ (Below.refl _ _).drew).2.2.1 | exact (CE.out _ BW3.out).2.2.1)
      clear hK K
      try simp only [Act.put, List.getElem_toArray, List.getElem_cons_succ, List.getElem_cons_zero, List.setIfInBounds_toArray, List.set_cons_zero, List.set_cons_succ]
      refine wpAnyH_take (i := 5) (v := ?_) rfl (by kernel_rfl) (by kernel_rfl) (by kernel_rfl) (fun _ _ _ h => h) (Or.inl ⟨by kernel_rfl, ?_⟩) (by assumption) ?_
      rotate_left
      · (intro wS hSw; (try dsimp only at hSw); go_simp <;> with_reducible rfl)
      try simp only [Act.put, List.getElem_toArray, List.getElem_cons_succ, List.getElem_cons_zero, List.setIfInBounds_toArray, List.set_cons_zero, List.set_cons_succ]
      refine wpAnyH_done (by kernel_rfl) ?_ _
      have H4 := Lib.hid (H3.out.later BW3.out)
      have r0 := cell_at (o := 0) H4.out.rv rfl
      have r1 := cell_at (o := 1) H4.out.rv rfl
      have g0 := frozen_at 0 H4.out.rv
      have g1 := frozen_at 1 H4.out.rv
      have m0 := cell_at (o := 0) (heap_keptD HM.out.1 BW3.out) rfl
      have m1 := cell_at (o := 1) (heap_keptD HM.out.1 BW3.out) rfl
      clear hlook
      go_wp2_with fail
      refine bodyPost_ret (v := .tuple #[.agg #[.slice (some ⟨q, 0, none⟩) x.tables.length x.tables.length, .int .i64 x.next], .int .i64 7]) (by simp [results, Try.results10, go_sem, *]) rfl ?_
      have hfr : Frm (· = w.heap.size + 1 + 1) w3 ((w3.setCell ⟨w.heap.size + 1 + 1, 0, none⟩ (.slice (some ⟨q, 0, none⟩) x.tables.length x.tables.length)).setCell ⟨w.heap.size + 1 + 1, 1, none⟩ (.int .i64 x.next)) := (frm_set _ _ _ _).trans (frm_set _ _ _ _)
      have hqw := HS0.out
      have hs3 := BW3.out.size
      have hlow := HM.out.2.2.2.2.2
      refine ⟨_, _, by rw [HP.out], ?_, (H4.out.bel.setCell (by simp <;> omega) _).setCell (by simp <;> omega) _⟩
      rw [HP.out]
      exact ((HM.out.2.1.later BW3.out).frm hfr (fun b hb e => by have h1 := hb.1; have e' : b = w.heap.size + 1 + 1 := e; omega)).mono (fun b hb => ⟨by have := hb.1; omega, by have := hb.2; simp; omega⟩)
    have HP : Hid (putP x i r = (0, ⟨x.tables.set i (putL l r), x.next⟩)) := by show putP x i r = _; rw [HQ.out, if_neg (fun h => h12 h.2)]
    have hd : decide ((12 : Int) ≤ (l.length : Int)) = false := decide_eq_false (by omega)
    have HN1 : Hid (l.length ≤ 10000) := by show _ ≤ _; omega
    clear hr hno hptr h12
    have y1 : (W1.alloc (.cells #[.slice (some ⟨q, 0, none⟩) x.tables.length x.tables.length, .int .i64 x.next] 32)).cell? ⟨q, i, none⟩ = some (.slice (some ⟨p, 0, none⟩) l.length l.length) := by rw [← HW2.out]; exact (CE.out _ (Below.refl _ _)).2.1
    go_wp2_with fail
    rw [← HW2.out]
    clear y1
    refine wp_region_held_drew (S := (fun W => W.cell? ⟨w.heap.size + 1, 0, none⟩ = some (.int .i64 r.id))) (by kernel_rfl) ?_ (fun hHeld => ?_)
    · (first | exact (CE.out _ (Below.refl _ _)).2.2.1 | exact (CE.out _ (Below.refl _ _).drew).2.2.1 | exact (CE.out _ BW3.out).2.2.1)
    refine wpAnyH_take (i := 0) (v := ?_) rfl (by kernel_rfl) (by kernel_rfl) (by kernel_rfl) (fun _ _ _ h => h) (Or.inl ⟨by kernel_rfl, ?_⟩) (by assumption) ?_
    rotate_left
    · (intro wS hSw; (try dsimp only at hSw); go_simp <;> with_reducible rfl)
    try simp only [Act.put, List.getElem_toArray, List.getElem_cons_succ, List.getElem_cons_zero, List.setIfInBounds_toArray, List.set_cons_zero, List.set_cons_succ]
    refine wpAnyH_take (i := 2) (v := ?_) rfl (by kernel_rfl) (by kernel_rfl) (by kernel_rfl) (fun _ _ _ h => h) (Or.inl ⟨by kernel_rfl, ?_⟩) (by assumption) ?_
    rotate_left
    · (intro wS hSw; (try dsimp only at hSw); go_simp <;> with_reducible rfl)
    try simp only [Act.put, List.getElem_toArray, List.getElem_cons_succ, List.getElem_cons_zero, List.setIfInBounds_toArray, List.set_cons_zero, List.set_cons_succ]
    refine wpAnyH_take (i := 3) (v := ?_) rfl (by kernel_rfl) (by kernel_rfl) (by kernel_rfl) (fun _ _ _ h => h) (Or.inl ⟨by kernel_rfl, ?_⟩) (by assumption) ?_
    rotate_left
    · (intro wS hSw; (try dsimp only at hSw); go_simp <;> with_reducible rfl)
    try simp only [Act.put, List.getElem_toArray, List.getElem_cons_succ, List.getElem_cons_zero, List.setIfInBounds_toArray, List.set_cons_zero, List.set_cons_succ]
    refine wpAnyH_ready (rs := [1]) (by kernel_rfl) (by simp) (AllReadyH.cons rfl (fun K hK => ?_) AllReadyH.nil)
    go_simp
    go_at_call 29
    refine (SH.out _ (Below.refl _ _).drew).mono ?_
    rintro e w3 ⟨mp, D, rfl, hown, hsh, hmp, hB3⟩
    have hlook := look_shelf hown hsh HO.out.2.2.2
    rw [HPT.out] at hlook
    have BW3 : Hid (Below W2.heap.size W2 w3) := (Below.refl _ _).drew.trans hB3
    clear hown hsh hB3
    refine hK.out _ _ ?_ (fun hHeld => ?_)
    · (first | exact (CE.out _ (Below.refl _ _)).2.2.1 | exact (CE.out _ (Below.refl _ _).drew).2.2.1 | exact (CE.out _ BW3.out).2.2.1)
    clear hK K
    try simp only [Act.put, List.getElem_toArray, List.getElem_cons_succ, List.getElem_cons_zero, List.setIfInBounds_toArray, List.set_cons_zero, List.set_cons_succ]
    refine wpAnyH_ready (rs := [4]) (by kernel_rfl) (by simp) (AllReadyH.cons rfl (fun K hK => ?_) AllReadyH.nil)
    go_simp
    skip
    refine hK.out _ _ ?_ (fun hHeld => ?_)
    · (first | exact (CE.out _ (Below.refl _ _)).2.2.1 | exact (CE.out _ (Below.refl _ _).drew).2.2.1 | exact (CE.out _ BW3.out).2.2.1)
    clear hK K
    try simp only [Act.put, List.getElem_toArray, List.getElem_cons_succ, List.getElem_cons_zero, List.setIfInBounds_toArray, List.set_cons_zero, List.set_cons_succ]
    refine wpAnyH_take (i := 5) (v := ?_) rfl (by kernel_rfl) (by kernel_rfl) (by kernel_rfl) (fun _ _ _ h => h) (Or.inl ⟨by kernel_rfl, ?_⟩) (by assumption) ?_
    rotate_left
    · (intro wS hSw; (try dsimp only at hSw); go_simp <;> with_reducible rfl)
    try simp only [Act.put, List.getElem_toArray, List.getElem_cons_succ, List.getElem_cons_zero, List.setIfInBounds_toArray, List.set_cons_zero, List.set_cons_succ]
    refine wpAnyH_done (by kernel_rfl) ?_ _
    clear hlook
    go_wp2_with fail
    go_loopw [12] (fun s wr => ∃ k : Nat, k ≤ l.length ∧ s = .int .i64 k ∧ Hid ((∀ m (h : m < l.length), m < k → l[m].id < r.id) ∧ Below W2.heap.size W2 wr)) (fun s _ => l.length - (intOf s).toNat)
    case atStart => exact ⟨0, Nat.zero_le _, rfl, fun m _ h => absurd h (by omega), BW3.out⟩
    case round =>
      obtain ⟨k, hkl, rfl, HV⟩ := hrel
      have BWR : Hid (Below W2.heap.size W2 wr) := HV.out.2
      have HLT : Hid (∀ m (h : m < l.length), m < k → l[m].id < r.id) := HV.out.1
      have i0 := (CE.out _ BWR.out).2.2.1
      by_cases hlt : k < l.length
      case neg =>
        have hki : decide ((k : Int) < (l.length : Int)) = false := decide_eq_false (by omega)
        have hkn : decide (k < l.length) = false := decide_eq_false hlt
        have HGE : Hid (∀ h : k < l.length, ¬ l[k].id < r.id) := fun h => absurd h hlt
        clear hlt
        go_wp2_with fail
        go_quiet (fail)
        clear i0
        have BQ : Hid (Below W2.heap.size W2 (wr.drewN nq)) := below_drewN BWR.out _
        generalize wr.drewN nq = wq at *
        go_wp2_with fail
        refine wp_region_held_drew (S := (fun W => W.cell? ⟨W1.heap.size, 0, none⟩ = some (.slice (some ⟨q, 0, none⟩) x.tables.length x.tables.length))) (by kernel_rfl) ?_ (fun hHeld => ?_)
        · (first | exact (CE.out _ BQ.out).1 | exact (CE.out _ (BQ.out.drew)).1 | exact (CE.out _ BW4.out).1 | exact (CE.out _ BW5.out).1 | exact (CE.out _ BW6.out).1 | exact CE6.out)
        refine wpAnyH_take (i := 0) (v := ?_) rfl (by kernel_rfl) (by kernel_rfl) (by kernel_rfl) (fun _ _ _ h => h) (Or.inl ⟨by kernel_rfl, ?_⟩) (by assumption) ?_
        rotate_left
        · (intro wS hSw; (try dsimp only at hSw); go_simp <;> with_reducible rfl)
        try simp only [Act.put, List.getElem_toArray, List.getElem_cons_succ, List.getElem_cons_zero, List.setIfInBounds_toArray, List.set_cons_zero, List.set_cons_succ]
        refine wpAnyH_take (i := 1) (v := ?_) rfl (by kernel_rfl) (by kernel_rfl) (by kernel_rfl) (fun _ _ _ h => h) (Or.inl ⟨by kernel_rfl, ?_⟩) (by assumption) ?_
        rotate_left
        · (intro wS hSw; (try dsimp only at hSw); go_simp <;> with_reducible rfl)
        try simp only [Act.put, List.getElem_toArray, List.getElem_cons_succ, List.getElem_cons_zero, List.setIfInBounds_toArray, List.set_cons_zero, List.set_cons_succ]
        refine wpAnyH_take (i := 2) (v := ?_) rfl (by kernel_rfl) (by kernel_rfl) (by kernel_rfl) (fun _ _ _ h => h) (Or.inl ⟨by kernel_rfl, ?_⟩) (by assumption) ?_
        rotate_left
        · (intro wS hSw; (try dsimp only at hSw); go_simp <;> with_reducible rfl)
        try simp only [Act.put, List.getElem_toArray, List.getElem_cons_succ, List.getElem_cons_zero, List.setIfInBounds_toArray, List.set_cons_zero, List.set_cons_succ]
        refine wpAnyH_take (i := 3) (v := ?_) rfl (by kernel_rfl) (by kernel_rfl) (by kernel_rfl) (fun _ _ _ h => h) (Or.inl ⟨by kernel_rfl, ?_⟩) (by assumption) ?_
        rotate_left
        · (intro wS hSw; (try dsimp only at hSw); go_simp <;> with_reducible rfl)
        try simp only [Act.put, List.getElem_toArray, List.getElem_cons_succ, List.getElem_cons_zero, List.setIfInBounds_toArray, List.set_cons_zero, List.set_cons_succ]
        refine wpAnyH_take (i := 4) (v := ?_) rfl (by kernel_rfl) (by kernel_rfl) (by kernel_rfl) (fun _ _ _ h => h) (Or.inl ⟨by kernel_rfl, ?_⟩) (by assumption) ?_
        rotate_left
        · (intro wS hSw; (try dsimp only at hSw); go_simp <;> with_reducible rfl)
        try simp only [Act.put, List.getElem_toArray, List.getElem_cons_succ, List.getElem_cons_zero, List.setIfInBounds_toArray, List.set_cons_zero, List.set_cons_succ]
        refine wpAnyH_ready (rs := [5]) (by kernel_rfl) (by simp) (AllReadyH.cons rfl (fun K hK => ?_) AllReadyH.nil)
        go_simp
        go_at_call 30
        refine (CR.out _ (BQ.out.drew)).mono ?_
        rintro e w4 ⟨q2, rfl, hown4, hB4⟩
        have hBD : Below wq.heap.size wq w4 := (Below.refl _ _).drew.trans hB4
        have HO4 : Hid (Own w4 (dAtomSS r.cells) (fun c => wq.heap.size ≤ c ∧ c < w4.heap.size) (.slice (some ⟨q2, 0, none⟩) r.cells.length r.cells.length) ∧ Below wq.heap.size wq w4) := ⟨hown4, hBD⟩
        have BW4 : Hid (Below W2.heap.size W2 w4) := BQ.out.trans (hBD.mono BQ.out.size)
        have BW5 : Hid (Below W2.heap.size W2 (w4.alloc (.cells #[.int .i64 r.id, .slice (some ⟨q2, 0, none⟩) r.cells.length r.cells.length] 38))) := BW4.out.trans ((below_allocD _ _).mono BW4.out.size)
        have IN := Lib.hid (insertR l.length k p w4.heap.size (rowCs g l.length) (.int .i64 r.id) (.slice (some ⟨q2, 0, none⟩) r.cells.length r.cells.length) (w4.alloc (.cells #[.int .i64 r.id, .slice (some ⟨q2, 0, none⟩) r.cells.length r.cells.length] 38)) HN1.out hkl (rowCs_len _ _) HONE.out (fun u hu => by simp only [List.mem_cons, List.not_mem_nil, or_false] at hu; rcases hu with rfl | rfl <;> rfl) (by have h := BW5.out.block p (by have := HM.out.2.2.2.2.2; omega); rw [h]; exact rowIs_cells HM.out.2.2.2.1) (heap_newD _ _))
        clear hown4 hB4 hBD
        refine hK.out _ _ ?_ (fun hHeld => ?_)
        · (first | exact (CE.out _ BQ.out).1 | exact (CE.out _ (BQ.out.drew)).1 | exact (CE.out _ BW4.out).1 | exact (CE.out _ BW5.out).1 | exact (CE.out _ BW6.out).1 | exact CE6.out)
        clear hK K
        try simp only [Act.put, List.getElem_toArray, List.getElem_cons_succ, List.getElem_cons_zero, List.setIfInBounds_toArray, List.set_cons_zero, List.set_cons_succ]
        refine wpAnyH_ready (rs := [6]) (by kernel_rfl) (by simp) (AllReadyH.cons rfl (fun K hK => ?_) AllReadyH.nil)
        go_simp
        skip
        refine hK.out _ _ ?_ (fun hHeld => ?_)
        · (first | exact (CE.out _ BQ.out).1 | exact (CE.out _ (BQ.out.drew)).1 | exact (CE.out _ BW4.out).1 | exact (CE.out _ BW5.out).1 | exact (CE.out _ BW6.out).1 | exact CE6.out)
        clear hK K
        try simp only [Act.put, List.getElem_toArray, List.getElem_cons_succ, List.getElem_cons_zero, List.setIfInBounds_toArray, List.set_cons_zero, List.set_cons_succ]
        refine wpAnyH_ready (rs := [7]) (by kernel_rfl) (by simp) (AllReadyH.cons rfl (fun K hK => ?_) AllReadyH.nil)
        go_simp
        go_at_call 31
        with_reducible refine IN.out.mono ?_
        rintro e w6 ⟨gn, cap, cur, rfl, hgn, hcur, htake, hcap, -, hsz, hB6⟩
        have hB46 : Below w4.heap.size w4 w6 := (below_allocD _ _).trans (hB6.mono (by simp))
        have hgn' : w4.heap.size < gn := by have := hgn; simp only [size_allocD] at this; omega
        have BW6 : Hid (Below W2.heap.size W2 w6) := BW4.out.trans (hB46.mono BW4.out.size)
        have H6 := Lib.hid (And.intro hB46 (And.intro hgn' (And.intro hcur (And.intro htake (And.intro hcap hsz)))))
        have hrq6 := HM.out.2.2.2.2.1.of_block (w' := w6) (BW6.out.block q (by have := HM.out.2.2.2.2.2; omega))
        have e0 := hrq6.cell (i := i) HI.out
        have z0 := hrq6.frozen i
        have CE6 : Hid ((w6.setCell ⟨q, i, none⟩ (.slice (some ⟨gn, 0, none⟩) (l.length + 1) cap)).cell? ⟨W1.heap.size, 0, none⟩ = some (.slice (some ⟨q, 0, none⟩) x.tables.length x.tables.length)) := by
          have h := heap_keptD HM.out.1 BW6.out
          rw [← Below.heap_setCell w6 ⟨q, i, none⟩ (.slice (some ⟨gn, 0, none⟩) (l.length + 1) cap) W1.heap.size (by show W1.heap.size ≠ q; have := HM.out.2.2.2.2.2; omega)] at h
          exact cell_at (o := 0) h rfl
        clear hgn hcur htake hcap hsz hB6 hB46 hgn' hrq6
        refine hK.out _ _ ?_ (fun hHeld => ?_)
        · (first | exact (CE.out _ BQ.out).1 | exact (CE.out _ (BQ.out.drew)).1 | exact (CE.out _ BW4.out).1 | exact (CE.out _ BW5.out).1 | exact (CE.out _ BW6.out).1 | exact CE6.out)
        clear hK K
        try simp only [Act.put, List.getElem_toArray, List.getElem_cons_succ, List.getElem_cons_zero, List.setIfInBounds_toArray, List.set_cons_zero, List.set_cons_succ]
        refine wpAnyH_take (i := 8) (v := ?_) rfl (by kernel_rfl) (by kernel_rfl) (by kernel_rfl) (fun _ _ _ h => h) (Or.inl ⟨by kernel_rfl, ?_⟩) (by assumption) ?_
        rotate_left
        · (intro wS hSw; (try dsimp only at hSw); go_simp <;> with_reducible rfl)
        try simp only [Act.put, List.getElem_toArray, List.getElem_cons_succ, List.getElem_cons_zero, List.setIfInBounds_toArray, List.set_cons_zero, List.set_cons_succ]
        refine wpAnyH_ready (rs := [9]) (by kernel_rfl) (by simp) (AllReadyH.cons rfl (fun K hK => ?_) AllReadyH.nil)
        go_simp
        skip
        refine hK.out _ _ ?_ (fun hHeld => ?_)
        · (first | exact (CE.out _ BQ.out).1 | exact (CE.out _ (BQ.out.drew)).1 | exact (CE.out _ BW4.out).1 | exact (CE.out _ BW5.out).1 | exact (CE.out _ BW6.out).1 | exact CE6.out)
        clear hK K
        try simp only [Act.put, List.getElem_toArray, List.getElem_cons_succ, List.getElem_cons_zero, List.setIfInBounds_toArray, List.set_cons_zero, List.set_cons_succ]
        refine wpAnyH_done (by kernel_rfl) ?_ _
        have hs0 := HS0.out
        have hlow := HM.out.2.2.2.2.2
        have hmd : (w6.setCell ⟨q, i, none⟩ (.slice (some ⟨gn, 0, none⟩) (l.length + 1) cap)).heap[W1.heap.size]? = some (.cells #[.slice (some ⟨q, 0, none⟩) x.tables.length x.tables.length, .int .i64 x.next] 32) := by rw [Below.heap_setCell _ _ _ _ (by show W1.heap.size ≠ q; omega)]; exact heap_keptD HM.out.1 BW6.out
        have hrv : (w6.setCell ⟨q, i, none⟩ (.slice (some ⟨gn, 0, none⟩) (l.length + 1) cap)).heap[w.heap.size + 1 + 1]? = some (.cells #[.slice none 0 0, .int .i64 0] 32) := by rw [Below.heap_setCell _ _ _ _ (by show w.heap.size + 1 + 1 ≠ q; omega)]; exact heap_keptD H3.out.rv BW6.out
        have hbw : Below w.heap.size w (w6.setCell ⟨q, i, none⟩ (.slice (some ⟨gn, 0, none⟩) (l.length + 1) cap)) := (H3.out.later BW6.out).bel.setCell (by show w.heap.size ≤ q; omega) _
        have HBW := Lib.hid hbw
        have m0 := cell_at (o := 0) hmd rfl
        have m1 := cell_at (o := 1) hmd rfl
        have r0 := cell_at (o := 0) hrv rfl
        have r1 := cell_at (o := 1) hrv rfl
        have g0 := frozen_at 0 hrv
        have g1 := frozen_at 1 hrv
        clear hs0 hlow hmd hrv hbw e0 z0
        go_wp2_with fail
        refine bodyPost_ret (v := .tuple #[.agg #[.slice (some ⟨q, 0, none⟩) x.tables.length x.tables.length, .int .i64 x.next], .int .i64 0]) (by simp [results, Try.results10, go_sem, *]) rfl ?_
        have hs0 := HS0.out
        have hlow := HM.out.2.2.2.2.2
        have hfr2 : Frm (· = w.heap.size + 1 + 1) (w6.setCell ⟨q, i, none⟩ (.slice (some ⟨gn, 0, none⟩) (l.length + 1) cap)) (((w6.setCell ⟨q, i, none⟩ (.slice (some ⟨gn, 0, none⟩) (l.length + 1) cap)).setCell ⟨w.heap.size + 1 + 1, 0, none⟩ (.slice (some ⟨q, 0, none⟩) x.tables.length x.tables.length)).setCell ⟨w.heap.size + 1 + 1, 1, none⟩ (.int .i64 x.next)) := (frm_set _ _ _ _).trans (frm_set _ _ _ _)
        obtain rfl := HLE.out
        have hfin := put_ins (x := x) (r := r) (i := i) (k := k) HI.out HM.out.2.1 HM.out.2.2.1 HM.out.2.2.2.1 HM.out.2.2.2.2.1 hlow BQ.out HO4.out.1 HO4.out.2 H6.out.1 H6.out.2.1 H6.out.2.2.1 H6.out.2.2.2.1 H6.out.2.2.2.2.1 H6.out.2.2.2.2.2 hkl HLT.out (fun h => by have := HGE.out h; omega) HNO.out
        have hsz6 := BW6.out.size
        have hszr := BQ.out.size
        refine ⟨some ⟨q, 0, none⟩, x.tables.length, by rw [HP.out]; simp, ?_, (HBW.out.setCell (by simp <;> omega) _).setCell (by simp <;> omega) _⟩
        rw [HP.out]
        exact (hfin.frm hfr2 (fun b hb e => by have e' : b = w.heap.size + 1 + 1 := e; rcases hb with hb | hb <;> have h1 := hb.1 <;> omega)).mono (fun b hb => by rcases hb with hb | hb <;> refine ⟨by have := hb.1; omega, by have := hb.2; simp; omega⟩)
      have hki : (k : Int) < (l.length : Int) := by omega
      have hkn : decide (k < l.length) = true := decide_eq_true hlt
      have p0 := HIDS.out _ BWR.out k hlt
      by_cases hid : l[k].id < r.id
      case neg =>
        have HGE : Hid (∀ h : k < l.length, ¬ l[k].id < r.id) := fun _ => hid
        have hdi : decide (l[k].id < r.id) = false := decide_eq_false hid
        clear hid
        generalize l[k].id = y at p0 hdi
        go_wp2_with fail
        go_quiet (fail)
        clear i0 p0
        have BQ : Hid (Below W2.heap.size W2 (wr.drewN nq)) := below_drewN BWR.out _
        generalize wr.drewN nq = wq at *
        go_wp2_with fail
        refine wp_region_held_drew (S := (fun W => W.cell? ⟨W1.heap.size, 0, none⟩ = some (.slice (some ⟨q, 0, none⟩) x.tables.length x.tables.length))) (by kernel_rfl) ?_ (fun hHeld => ?_)
        · (first | exact (CE.out _ BQ.out).1 | exact (CE.out _ (BQ.out.drew)).1 | exact (CE.out _ BW4.out).1 | exact (CE.out _ BW5.out).1 | exact (CE.out _ BW6.out).1 | exact CE6.out)
        refine wpAnyH_take (i := 0) (v := ?_) rfl (by kernel_rfl) (by kernel_rfl) (by kernel_rfl) (fun _ _ _ h => h) (Or.inl ⟨by kernel_rfl, ?_⟩) (by assumption) ?_
        rotate_left
        · (intro wS hSw; (try dsimp only at hSw); go_simp <;> with_reducible rfl)
        try simp only [Act.put, List.getElem_toArray, List.getElem_cons_succ, List.getElem_cons_zero, List.setIfInBounds_toArray, List.set_cons_zero, List.set_cons_succ]
        refine wpAnyH_take (i := 1) (v := ?_) rfl (by kernel_rfl) (by kernel_rfl) (by kernel_rfl) (fun _ _ _ h => h) (Or.inl ⟨by kernel_rfl, ?_⟩) (by assumption) ?_
        rotate_left
        · (intro wS hSw; (try dsimp only at hSw); go_simp <;> with_reducible rfl)
        try simp only [Act.put, List.getElem_toArray, List.getElem_cons_succ, List.getElem_cons_zero, List.setIfInBounds_toArray, List.set_cons_zero, List.set_cons_succ]
        refine wpAnyH_take (i := 2) (v := ?_) rfl (by kernel_rfl) (by kernel_rfl) (by kernel_rfl) (fun _ _ _ h => h) (Or.inl ⟨by kernel_rfl, ?_⟩) (by assumption) ?_
        rotate_left
        · (intro wS hSw; (try dsimp only at hSw); go_simp <;> with_reducible rfl)
        try simp only [Act.put, List.getElem_toArray, List.getElem_cons_succ, List.getElem_cons_zero, List.setIfInBounds_toArray, List.set_cons_zero, List.set_cons_succ]
        refine wpAnyH_take (i := 3) (v := ?_) rfl (by kernel_rfl) (by kernel_rfl) (by kernel_rfl) (fun _ _ _ h => h) (Or.inl ⟨by kernel_rfl, ?_⟩) (by assumption) ?_
        rotate_left
        · (intro wS hSw; (try dsimp only at hSw); go_simp <;> with_reducible rfl)
        try simp only [Act.put, List.getElem_toArray, List.getElem_cons_succ, List.getElem_cons_zero, List.setIfInBounds_toArray, List.set_cons_zero, List.set_cons_succ]
        refine wpAnyH_take (i := 4) (v := ?_) rfl (by kernel_rfl) (by kernel_rfl) (by kernel_rfl) (fun _ _ _ h => h) (Or.inl ⟨by kernel_rfl, ?_⟩) (by assumption) ?_
        rotate_left
        · (intro wS hSw; (try dsimp only at hSw); go_simp <;> with_reducible rfl)
        try simp only [Act.put, List.getElem_toArray, List.getElem_cons_succ, List.getElem_cons_zero, List.setIfInBounds_toArray, List.set_cons_zero, List.set_cons_succ]
        refine wpAnyH_ready (rs := [5]) (by kernel_rfl) (by simp) (AllReadyH.cons rfl (fun K hK => ?_) AllReadyH.nil)
        go_simp
        go_at_call 30
        refine (CR.out _ (BQ.out.drew)).mono ?_
        rintro e w4 ⟨q2, rfl, hown4, hB4⟩
        have hBD : Below wq.heap.size wq w4 := (Below.refl _ _).drew.trans hB4
        have HO4 : Hid (Own w4 (dAtomSS r.cells) (fun c => wq.heap.size ≤ c ∧ c < w4.heap.size) (.slice (some ⟨q2, 0, none⟩) r.cells.length r.cells.length) ∧ Below wq.heap.size wq w4) := ⟨hown4, hBD⟩
        have BW4 : Hid (Below W2.heap.size W2 w4) := BQ.out.trans (hBD.mono BQ.out.size)
        have BW5 : Hid (Below W2.heap.size W2 (w4.alloc (.cells #[.int .i64 r.id, .slice (some ⟨q2, 0, none⟩) r.cells.length r.cells.length] 38))) := BW4.out.trans ((below_allocD _ _).mono BW4.out.size)
        have IN := Lib.hid (insertR l.length k p w4.heap.size (rowCs g l.length) (.int .i64 r.id) (.slice (some ⟨q2, 0, none⟩) r.cells.length r.cells.length) (w4.alloc (.cells #[.int .i64 r.id, .slice (some ⟨q2, 0, none⟩) r.cells.length r.cells.length] 38)) HN1.out hkl (rowCs_len _ _) HONE.out (fun u hu => by simp only [List.mem_cons, List.not_mem_nil, or_false] at hu; rcases hu with rfl | rfl <;> rfl) (by have h := BW5.out.block p (by have := HM.out.2.2.2.2.2; omega); rw [h]; exact rowIs_cells HM.out.2.2.2.1) (heap_newD _ _))
        clear hown4 hB4 hBD
        refine hK.out _ _ ?_ (fun hHeld => ?_)
        · (first | exact (CE.out _ BQ.out).1 | exact (CE.out _ (BQ.out.drew)).1 | exact (CE.out _ BW4.out).1 | exact (CE.out _ BW5.out).1 | exact (CE.out _ BW6.out).1 | exact CE6.out)
        clear hK K
        try simp only [Act.put, List.getElem_toArray, List.getElem_cons_succ, List.getElem_cons_zero, List.setIfInBounds_toArray, List.set_cons_zero, List.set_cons_succ]
        refine wpAnyH_ready (rs := [6]) (by kernel_rfl) (by simp) (AllReadyH.cons rfl (fun K hK => ?_) AllReadyH.nil)
        go_simp
        skip
        refine hK.out _ _ ?_ (fun hHeld => ?_)
        · (first | exact (CE.out _ BQ.out).1 | exact (CE.out _ (BQ.out.drew)).1 | exact (CE.out _ BW4.out).1 | exact (CE.out _ BW5.out).1 | exact (CE.out _ BW6.out).1 | exact CE6.out)
        clear hK K
        try simp only [Act.put, List.getElem_toArray, List.getElem_cons_succ, List.getElem_cons_zero, List.setIfInBounds_toArray, List.set_cons_zero, List.set_cons_succ]
        refine wpAnyH_ready (rs := [7]) (by kernel_rfl) (by simp) (AllReadyH.cons rfl (fun K hK => ?_) AllReadyH.nil)
        go_simp
        go_at_call 31
        with_reducible refine IN.out.mono ?_
        rintro e w6 ⟨gn, cap, cur, rfl, hgn, hcur, htake, hcap, -, hsz, hB6⟩
        have hB46 : Below w4.heap.size w4 w6 := (below_allocD _ _).trans (hB6.mono (by simp))
        have hgn' : w4.heap.size < gn := by have := hgn; simp only [size_allocD] at this; omega
        have BW6 : Hid (Below W2.heap.size W2 w6) := BW4.out.trans (hB46.mono BW4.out.size)
        have H6 := Lib.hid (And.intro hB46 (And.intro hgn' (And.intro hcur (And.intro htake (And.intro hcap hsz)))))
        have hrq6 := HM.out.2.2.2.2.1.of_block (w' := w6) (BW6.out.block q (by have := HM.out.2.2.2.2.2; omega))
        have e0 := hrq6.cell (i := i) HI.out
        have z0 := hrq6.frozen i
        have CE6 : Hid ((w6.setCell ⟨q, i, none⟩ (.slice (some ⟨gn, 0, none⟩) (l.length + 1) cap)).cell? ⟨W1.heap.size, 0, none⟩ = some (.slice (some ⟨q, 0, none⟩) x.tables.length x.tables.length)) := by
          have h := heap_keptD HM.out.1 BW6.out
          rw [← Below.heap_setCell w6 ⟨q, i, none⟩ (.slice (some ⟨gn, 0, none⟩) (l.length + 1) cap) W1.heap.size (by show W1.heap.size ≠ q; have := HM.out.2.2.2.2.2; omega)] at h
          exact cell_at (o := 0) h rfl
        clear hgn hcur htake hcap hsz hB6 hB46 hgn' hrq6
        refine hK.out _ _ ?_ (fun hHeld => ?_)
        · (first | exact (CE.out _ BQ.out).1 | exact (CE.out _ (BQ.out.drew)).1 | exact (CE.out _ BW4.out).1 | exact (CE.out _ BW5.out).1 | exact (CE.out _ BW6.out).1 | exact CE6.out)
        clear hK K
        try simp only [Act.put, List.getElem_toArray, List.getElem_cons_succ, List.getElem_cons_zero, List.setIfInBounds_toArray, List.set_cons_zero, List.set_cons_succ]
        refine wpAnyH_take (i := 8) (v := ?_) rfl (by kernel_rfl) (by kernel_rfl) (by kernel_rfl) (fun _ _ _ h => h) (Or.inl ⟨by kernel_rfl, ?_⟩) (by assumption) ?_
        rotate_left
        · (intro wS hSw; (try dsimp only at hSw); go_simp <;> with_reducible rfl)
        try simp only [Act.put, List.getElem_toArray, List.getElem_cons_succ, List.getElem_cons_zero, List.setIfInBounds_toArray, List.set_cons_zero, List.set_cons_succ]
        refine wpAnyH_ready (rs := [9]) (by kernel_rfl) (by simp) (AllReadyH.cons rfl (fun K hK => ?_) AllReadyH.nil)
        go_simp
        skip
        refine hK.out _ _ ?_ (fun hHeld => ?_)
        · (first | exact (CE.out _ BQ.out).1 | exact (CE.out _ (BQ.out.drew)).1 | exact (CE.out _ BW4.out).1 | exact (CE.out _ BW5.out).1 | exact (CE.out _ BW6.out).1 | exact CE6.out)
        clear hK K
        try simp only [Act.put, List.getElem_toArray, List.getElem_cons_succ, List.getElem_cons_zero, List.setIfInBounds_toArray, List.set_cons_zero, List.set_cons_succ]
        refine wpAnyH_done (by kernel_rfl) ?_ _
        have hs0 := HS0.out
        have hlow := HM.out.2.2.2.2.2
        have hmd : (w6.setCell ⟨q, i, none⟩ (.slice (some ⟨gn, 0, none⟩) (l.length + 1) cap)).heap[W1.heap.size]? = some (.cells #[.slice (some ⟨q, 0, none⟩) x.tables.length x.tables.length, .int .i64 x.next] 32) := by rw [Below.heap_setCell _ _ _ _ (by show W1.heap.size ≠ q; omega)]; exact heap_keptD HM.out.1 BW6.out
        have hrv : (w6.setCell ⟨q, i, none⟩ (.slice (some ⟨gn, 0, none⟩) (l.length + 1) cap)).heap[w.heap.size + 1 + 1]? = some (.cells #[.slice none 0 0, .int .i64 0] 32) := by rw [Below.heap_setCell _ _ _ _ (by show w.heap.size + 1 + 1 ≠ q; omega)]; exact heap_keptD H3.out.rv BW6.out
        have hbw : Below w.heap.size w (w6.setCell ⟨q, i, none⟩ (.slice (some ⟨gn, 0, none⟩) (l.length + 1) cap)) := (H3.out.later BW6.out).bel.setCell (by show w.heap.size ≤ q; omega) _
        have HBW := Lib.hid hbw
        have m0 := cell_at (o := 0) hmd rfl
        have m1 := cell_at (o := 1) hmd rfl
        have r0 := cell_at (o := 0) hrv rfl
        have r1 := cell_at (o := 1) hrv rfl
        have g0 := frozen_at 0 hrv
        have g1 := frozen_at 1 hrv
        clear hs0 hlow hmd hrv hbw e0 z0
        go_wp2_with fail
        refine bodyPost_ret (v := .tuple #[.agg #[.slice (some ⟨q, 0, none⟩) x.tables.length x.tables.length, .int .i64 x.next], .int .i64 0]) (by simp [results, Try.results10, go_sem, *]) rfl ?_
        have hs0 := HS0.out
        have hlow := HM.out.2.2.2.2.2
        have hfr2 : Frm (· = w.heap.size + 1 + 1) (w6.setCell ⟨q, i, none⟩ (.slice (some ⟨gn, 0, none⟩) (l.length + 1) cap)) (((w6.setCell ⟨q, i, none⟩ (.slice (some ⟨gn, 0, none⟩) (l.length + 1) cap)).setCell ⟨w.heap.size + 1 + 1, 0, none⟩ (.slice (some ⟨q, 0, none⟩) x.tables.length x.tables.length)).setCell ⟨w.heap.size + 1 + 1, 1, none⟩ (.int .i64 x.next)) := (frm_set _ _ _ _).trans (frm_set _ _ _ _)
        obtain rfl := HLE.out
        have hfin := put_ins (x := x) (r := r) (i := i) (k := k) HI.out HM.out.2.1 HM.out.2.2.1 HM.out.2.2.2.1 HM.out.2.2.2.2.1 hlow BQ.out HO4.out.1 HO4.out.2 H6.out.1 H6.out.2.1 H6.out.2.2.1 H6.out.2.2.2.1 H6.out.2.2.2.2.1 H6.out.2.2.2.2.2 hkl HLT.out (fun h => by have := HGE.out h; omega) HNO.out
        have hsz6 := BW6.out.size
        have hszr := BQ.out.size
        refine ⟨some ⟨q, 0, none⟩, x.tables.length, by rw [HP.out]; simp, ?_, (HBW.out.setCell (by simp <;> omega) _).setCell (by simp <;> omega) _⟩
        rw [HP.out]
        exact (hfin.frm hfr2 (fun b hb e => by have e' : b = w.heap.size + 1 + 1 := e; rcases hb with hb | hb <;> have h1 := hb.1 <;> omega)).mono (fun b hb => by rcases hb with hb | hb <;> refine ⟨by have := hb.1; omega, by have := hb.2; simp; omega⟩)
      have HN : Hid (∀ m (h : m < l.length), m < k + 1 → l[m].id < r.id) := fun m h hm => by
        by_cases e : m = k
        · subst e; exact hid
        · exact HV.out.1 m h (by omega)
      have hdi : decide (l[k].id < r.id) = true := decide_eq_true hid
      clear hid
      generalize l[k].id = y at p0 hdi
      go_wp2_with fail
      go_quiet (fail)
      go_wp2_with fail
      go_roundw
      case rel => exact ⟨k + 1, by omega, by go_num, HN.out, by first | exact BWR.out | exact BWR.out.drew | exact below_drewN BWR.out _⟩
      case measure => simp [intOf]; omega
  · have HP : Hid (putP x i r = (0, ⟨x.tables.set i (putL l r), x.next⟩)) := by
      show putP x i r = _
      rw [HQ.out, hr, if_neg (fun h => by have := h.1; omega)]
    have hptr := ptr_at (rb := p) (roff := 0) (rise_uniq HPL.out) hkl hke (Nat.le_refl _) hkl
    rw [Nat.zero_add] at hptr
    have HPT := Lib.hid hptr
    have HK : Hid (k < l.length ∧ l[k].id = r.id ∧ ∀ m (h : m < l.length), m < k → l[m].id < r.id) := ⟨hkl, hke, rise_lt HPL.out hkl hke⟩
    clear hr hke hkn hptr
    have y1 : (W1.alloc (.cells #[.slice (some ⟨q, 0, none⟩) x.tables.length x.tables.length, .int .i64 x.next] 32)).cell? ⟨q, i, none⟩ = some (.slice (some ⟨p, 0, none⟩) l.length l.length) := by rw [← HW2.out]; exact (CE.out _ (Below.refl _ _)).2.1
    go_wp2_with fail
    rw [← HW2.out]
    clear y1
    refine wp_region_held_drew (S := (fun W => W.cell? ⟨w.heap.size + 1, 0, none⟩ = some (.int .i64 r.id))) (by kernel_rfl) ?_ (fun hHeld => ?_)
    · (first | exact (CE.out _ (Below.refl _ _)).2.2.1 | exact (CE.out _ (Below.refl _ _).drew).2.2.1 | exact (CE.out _ BW3.out).2.2.1)
    refine wpAnyH_take (i := 0) (v := ?_) rfl (by kernel_rfl) (by kernel_rfl) (by kernel_rfl) (fun _ _ _ h => h) (Or.inl ⟨by kernel_rfl, ?_⟩) (by assumption) ?_
    rotate_left
    · (intro wS hSw; (try dsimp only at hSw); go_simp <;> with_reducible rfl)
    try simp only [Act.put, List.getElem_toArray, List.getElem_cons_succ, List.getElem_cons_zero, List.setIfInBounds_toArray, List.set_cons_zero, List.set_cons_succ]
    refine wpAnyH_take (i := 2) (v := ?_) rfl (by kernel_rfl) (by kernel_rfl) (by kernel_rfl) (fun _ _ _ h => h) (Or.inl ⟨by kernel_rfl, ?_⟩) (by assumption) ?_
    rotate_left
    · (intro wS hSw; (try dsimp only at hSw); go_simp <;> with_reducible rfl)
    try simp only [Act.put, List.getElem_toArray, List.getElem_cons_succ, List.getElem_cons_zero, List.setIfInBounds_toArray, List.set_cons_zero, List.set_cons_succ]
    refine wpAnyH_take (i := 3) (v := ?_) rfl (by kernel_rfl) (by kernel_rfl) (by kernel_rfl) (fun _ _ _ h => h) (Or.inl ⟨by kernel_rfl, ?_⟩) (by assumption) ?_
    rotate_left
    · (intro wS hSw; (try dsimp only at hSw); go_simp <;> with_reducible rfl)
    try simp only [Act.put, List.getElem_toArray, List.getElem_cons_succ, List.getElem_cons_zero, List.setIfInBounds_toArray, List.set_cons_zero, List.set_cons_succ]
    refine wpAnyH_ready (rs := [1]) (by kernel_rfl) (by simp) (AllReadyH.cons rfl (fun K hK => ?_) AllReadyH.nil)
    go_simp
    go_at_call 29
    refine (SH.out _ (Below.refl _ _).drew).mono ?_
    rintro e w3 ⟨mp, D, rfl, hown, hsh, hmp, hB3⟩
    have hlook := look_shelf hown hsh HO.out.2.2.2
    rw [HPT.out] at hlook
    have BW3 : Hid (Below W2.heap.size W2 w3) := (Below.refl _ _).drew.trans hB3
    clear hown hsh hB3
    refine hK.out _ _ ?_ (fun hHeld => ?_)
    · (first | exact (CE.out _ (Below.refl _ _)).2.2.1 | exact (CE.out _ (Below.refl _ _).drew).2.2.1 | exact (CE.out _ BW3.out).2.2.1)
    clear hK K
    try simp only [Act.put, List.getElem_toArray, List.getElem_cons_succ, List.getElem_cons_zero, List.setIfInBounds_toArray, List.set_cons_zero, List.set_cons_succ]
    refine wpAnyH_ready (rs := [4]) (by kernel_rfl) (by simp) (AllReadyH.cons rfl (fun K hK => ?_) AllReadyH.nil)
    go_simp
    skip
    refine hK.out _ _ ?_ (fun hHeld => ?_)
    · (first | exact (CE.out _ (Below.refl _ _)).2.2.1 | exact (CE.out _ (Below.refl _ _).drew).2.2.1 | exact (CE.out _ BW3.out).2.2.1)
    clear hK K
    try simp only [Act.put, List.getElem_toArray, List.getElem_cons_succ, List.getElem_cons_zero, List.setIfInBounds_toArray, List.set_cons_zero, List.set_cons_succ]
    refine wpAnyH_take (i := 5) (v := ?_) rfl (by kernel_rfl) (by kernel_rfl) (by kernel_rfl) (fun _ _ _ h => h) (Or.inl ⟨by kernel_rfl, ?_⟩) (by assumption) ?_
    rotate_left
    · (intro wS hSw; (try dsimp only at hSw); go_simp <;> with_reducible rfl)
    try simp only [Act.put, List.getElem_toArray, List.getElem_cons_succ, List.getElem_cons_zero, List.setIfInBounds_toArray, List.set_cons_zero, List.set_cons_succ]
    refine wpAnyH_done (by kernel_rfl) ?_ _
    clear hlook
    go_wp2_with fail
    refine (CR.out _ BW3.out).mono ?_
    rintro e w4 ⟨q2, rfl, hown4, hB4⟩
    have BW4 : Hid (Below W2.heap.size W2 w4) := BW3.out.trans (hB4.mono BW3.out.size)
    have HO4 := Lib.hid (And.intro hown4 hB4)
    have H4 := Lib.hid (H3.out.later BW4.out)
    have hs0 := HS0.out
    have hlow := HM.out.2.2.2.2.2
    have hpq := HPQ.out
    have hrp4 := HM.out.2.2.2.1.of_block (w' := w4) (BW4.out.block p (by omega))
    have e0 := hrp4.cell (i := k * 2) (by omega)
    have e1 := hrp4.cell (i := k * 2 + 1) (by omega)
    have z0 := hrp4.frozen (k * 2)
    have z1 := hrp4.frozen (k * 2 + 1)
    have hWS : ∀ b, b ≠ p → ((w4.setCell ⟨p, k * 2, none⟩ (.int .i64 r.id)).setCell ⟨p, k * 2 + 1, none⟩ (.slice (some ⟨q2, 0, none⟩) r.cells.length r.cells.length)).heap[b]? = w4.heap[b]? := fun b hb => by
      rw [Below.heap_setCell _ _ _ _ hb, Below.heap_setCell _ _ _ _ hb]
    have hmd : ((w4.setCell ⟨p, k * 2, none⟩ (.int .i64 r.id)).setCell ⟨p, k * 2 + 1, none⟩ (.slice (some ⟨q2, 0, none⟩) r.cells.length r.cells.length)).heap[W1.heap.size]? = some (.cells #[.slice (some ⟨q, 0, none⟩) x.tables.length x.tables.length, .int .i64 x.next] 32) := by rw [hWS _ (by omega)]; exact heap_keptD HM.out.1 BW4.out
    have hrv : ((w4.setCell ⟨p, k * 2, none⟩ (.int .i64 r.id)).setCell ⟨p, k * 2 + 1, none⟩ (.slice (some ⟨q2, 0, none⟩) r.cells.length r.cells.length)).heap[w.heap.size + 1 + 1]? = some (.cells #[.slice none 0 0, .int .i64 0] 32) := by rw [hWS _ (by omega)]; exact H4.out.rv
    have HBW : Hid (Below w.heap.size w ((w4.setCell ⟨p, k * 2, none⟩ (.int .i64 r.id)).setCell ⟨p, k * 2 + 1, none⟩ (.slice (some ⟨q2, 0, none⟩) r.cells.length r.cells.length))) := (H4.out.bel.setCell (by show w.heap.size ≤ p; omega) _).setCell (by show w.heap.size ≤ p; omega) _
    have m0 := cell_at (o := 0) hmd rfl
    have m1 := cell_at (o := 1) hmd rfl
    have r0 := cell_at (o := 0) hrv rfl
    have r1 := cell_at (o := 1) hrv rfl
    have g0 := frozen_at 0 hrv
    have g1 := frozen_at 1 hrv
    clear hown4 hB4 hs0 hlow hpq hrp4 hWS hmd hrv
    go_wp2_with fail
    refine bodyPost_ret (v := .tuple #[.agg #[.slice (some ⟨q, 0, none⟩) x.tables.length x.tables.length, .int .i64 x.next], .int .i64 0]) (by simp [results, Try.results10, go_sem, *]) rfl ?_
    have hs0 := HS0.out
    have hlow := HM.out.2.2.2.2.2
    obtain rfl := HLE.out
    have hfin := put_rep (x := x) (r := r) (i := i) (k := k) HI.out HM.out.2.1 HM.out.2.2.1 HM.out.2.2.2.1 HM.out.2.2.2.2.1 hlow HPQ.out BW3.out HO4.out.1 HO4.out.2 HK.out.1 HK.out.2.2 HK.out.2.1
    have hfr2 : Frm (· = w.heap.size + 1 + 1) ((w4.setCell ⟨p, k * 2, none⟩ (.int .i64 r.id)).setCell ⟨p, k * 2 + 1, none⟩ (.slice (some ⟨q2, 0, none⟩) r.cells.length r.cells.length)) ((((w4.setCell ⟨p, k * 2, none⟩ (.int .i64 r.id)).setCell ⟨p, k * 2 + 1, none⟩ (.slice (some ⟨q2, 0, none⟩) r.cells.length r.cells.length)).setCell ⟨w.heap.size + 1 + 1, 0, none⟩ (.slice (some ⟨q, 0, none⟩) x.tables.length x.tables.length)).setCell ⟨w.heap.size + 1 + 1, 1, none⟩ (.int .i64 x.next)) := (frm_set _ _ _ _).trans (frm_set _ _ _ _)
    have hsz4 := BW4.out.size
    have hsz3 := BW3.out.size
    refine ⟨some ⟨q, 0, none⟩, x.tables.length, by rw [HP.out]; simp, ?_, (HBW.out.setCell (by simp <;> omega) _).setCell (by simp <;> omega) _⟩
    rw [HP.out]
    exact (hfin.frm hfr2 (fun b hb e => by have e' : b = w.heap.size + 1 + 1 := e; rcases hb with hb | hb <;> have h1 := hb.1 <;> omega)).mono (fun b hb => by rcases hb with hb | hb <;> refine ⟨by have := hb.1; omega, by have := hb.2; simp; omega⟩)
end Go.Proofs.Ytgiaabgcbpafgaa
