import Derived.Test.YtgiaabgcbpafgaaDDrM
import Derived.Test.YtgiaabgcbpafgaaDRaI
namespace Go.Proofs.Ytgiaabgcbpafgaa
open Go.RowKit Go.Maps
set_option linter.unusedSimpArgs false
def DrAns (w : World) (x : StV) (t id : Int) (e : Ending) (w' : World) : Prop := ∃ (ra : Option Addr) (rc : Nat), e = .returned (.tuple #[.agg #[.slice ra (dropP x t id).2.tables.length rc, .int .i64 (dropP x t id).2.next], .int .i64 (dropP x t id).1]) ∧ Own w' (dRowSS (dropP x t id).2.tables) (fun c => w.heap.size ≤ c ∧ c < w'.heap.size) (.slice ra (dropP x t id).2.tables.length rc) ∧ Below w.heap.size w w'
theorem DrAns.zero {w w' : World} {x : StV} {t id code : Int} (hP : dropP x t id = (code, stZ)) (hB : Below w.heap.size w w') : DrAns w x t id (.returned (.tuple #[.agg #[.slice none 0 0, .int .i64 0], .int .i64 code])) w' := by
  refine ⟨none, 0, by rw [hP]; rfl, by rw [hP]; exact ⟨none, 0, rfl, .inl rfl⟩, hB⟩
/-- boxes of a store, of an Id and of the answer -/
structure DrB (w W : World) (x : StV) (a : Option Addr) (c : Nat) (id : Int) : Prop where
  bx : W.heap[w.heap.size]? = some (.cells #[.slice a x.tables.length c, .int .i64 x.next] 32)
  ib : W.heap[w.heap.size + 1]? = some (.cells #[.int .i64 id] 3)
  rv : W.heap[w.heap.size + 1 + 1]? = some (.cells #[.slice none 0 0, .int .i64 0] 32)
  bel : Below w.heap.size w W
theorem DrB.first (w : World) (x : StV) (a : Option Addr) (c : Nat) (id : Int) : DrB w (((w.alloc (.cells #[.slice a x.tables.length c, .int .i64 x.next] 32)).alloc (.cells #[.int .i64 id] 3)).alloc (.cells #[.slice none 0 0, .int .i64 0] 32)) x a c id := by
  have s1 := size_allocD w (.cells #[.slice a x.tables.length c, .int .i64 x.next] 32)
  have e1 := heap_newD (w.alloc (.cells #[.slice a x.tables.length c, .int .i64 x.next] 32)) (.cells #[.int .i64 id] 3)
  have s2 := size_allocD (w.alloc (.cells #[.slice a x.tables.length c, .int .i64 x.next] 32)) (.cells #[.int .i64 id] 3)
  have e2 := heap_newD ((w.alloc (.cells #[.slice a x.tables.length c, .int .i64 x.next] 32)).alloc (.cells #[.int .i64 id] 3)) (.cells #[.slice none 0 0, .int .i64 0] 32)
  rw [s1] at e1 s2
  rw [s2] at e2
  exact ⟨heap_keptD (heap_keptD (heap_newD _ _) (below_allocD _ _)) (below_allocD _ _), heap_keptD e1 (below_allocD _ _), e2, (((Below.refl _ _).alloc (Nat.le_refl _) _).alloc (by simp) _).alloc (by simp; omega) _⟩
theorem DrB.later {w W W' : World} {x : StV} {a : Option Addr} {c : Nat} {id : Int} (h : DrB w W x a c id) (hB : Below W.heap.size W W') : DrB w W' x a c id := ⟨heap_keptD h.bx hB, heap_keptD h.ib hB, heap_keptD h.rv hB, h.bel.trans (hB.mono h.bel.size)⟩
set_option maxRecDepth 100000 in
set_option maxHeartbeats 12800000 in
theorem dropI (x : StV) (t id : Int) (a : Option Addr) (c : Nat) (B : Nat → Prop) (w : World) (ho : (dRowSS x.tables).le maxLen) (hk : (dRowSS x.tables).le 1048576) (hid : iOK id) (hS : Rd w B (dRowSS x.tables) (.slice a x.tables.length c)) :
    Calls Try.prog 17 #[.agg #[.slice a x.tables.length c, .int .i64 x.next], .int .i64 t, .int .i64 id] w (DrAns w x t id) := by
  have HS : Hid (∀ W, Below w.heap.size w W → Rd W B (Ls 1 cRowS x.tables) (.slice a x.tables.length c)) := fun W h => Rd.later hS h
  have PC : Hid (∀ W, Below w.heap.size w W → Calls Try.prog 27 #[.agg #[.slice a x.tables.length c, .int .i64 x.next], .int .i64 t] W fun e w' => e = .returned (.int .i64 (rplC x t)) ∧ Below W.heap.size W w') := fun W h => placeCodeI x t a c B W ho (hS.later h)
  have CS : Hid (∀ W, Below w.heap.size w W → Calls Try.prog 28 #[.agg #[.slice a x.tables.length c, .int .i64 x.next]] W _) := fun W h => copyStoreI x a c B W hk (hS.later h)
  have HO := Lib.hid (And.intro ho (And.intro hk hid))
  have hb := DrB.first w x a c id
  have x0 := cell_at (o := 0) hb.bx rfl
  have x1 := cell_at (o := 1) hb.bx rfl
  have H0 := Lib.hid hb
  clear hS ho hk hid hb
  by_cases hp : plainB x = true
  case neg =>
    have hc : rplC x t = 1 := by unfold rplC; rw [if_neg hp]
    have HP : Hid (dropP x t id = (1, stZ)) := by show dropP x t id = _; unfold dropP; rw [if_neg hp]
    rw [hc] at PC
    clear hc hp
    go_enter Try.func17, Try.ntmps17
    go_wp2_with fail
    refine (PC.out _ H0.out.bel).mono ?_
    rintro e w1 ⟨rfl, hB⟩
    have H1 := Lib.hid (H0.out.later hB)
    have r0 := cell_at (o := 0) H1.out.rv rfl
    have r1 := cell_at (o := 1) H1.out.rv rfl
    have g0 := frozen_at 0 H1.out.rv
    have g1 := frozen_at 1 H1.out.rv
    clear hB x0 x1
    go_wp2_with fail
    exact bodyPost_ret (v := .tuple #[.agg #[.slice none 0 0, .int .i64 0], .int .i64 1]) (by simp [results, Try.results17, go_sem, *]) rfl (DrAns.zero HP.out ((H1.out.bel.setCell (by simp <;> omega) _).setCell (by simp <;> omega) _))
  by_cases ht : 0 ≤ t ∧ t < x.tables.length
  case neg =>
    have hc : rplC x t = 10 := by unfold rplC hasT; rw [if_pos hp, if_neg (by simpa using ht)]
    have HP : Hid (dropP x t id = (10, stZ)) := by show dropP x t id = _; unfold dropP; rw [if_pos hp, if_neg ht]
    rw [hc] at PC
    clear hc hp ht
    go_enter Try.func17, Try.ntmps17
    go_wp2_with fail
    refine (PC.out _ H0.out.bel).mono ?_
    rintro e w1 ⟨rfl, hB⟩
    have H1 := Lib.hid (H0.out.later hB)
    have r0 := cell_at (o := 0) H1.out.rv rfl
    have r1 := cell_at (o := 1) H1.out.rv rfl
    have g0 := frozen_at 0 H1.out.rv
    have g1 := frozen_at 1 H1.out.rv
    clear hB x0 x1
    go_wp2_with fail
    exact bodyPost_ret (v := .tuple #[.agg #[.slice none 0 0, .int .i64 0], .int .i64 10]) (by simp [results, Try.results17, go_sem, *]) rfl (DrAns.zero HP.out ((H1.out.bel.setCell (by simp <;> omega) _).setCell (by simp <;> omega) _))
  have hc : rplC x t = 0 := by unfold rplC hasT; rw [if_pos hp, if_pos (by simpa using ht)]
  obtain ⟨i, rfl⟩ : ∃ i : Nat, t = (i : Int) := ⟨t.toNat, by omega⟩
  have hi : i < x.tables.length := by omega
  have HPL := Lib.hid (plain_of hp i hi)
  have HQ : Hid (dropP x i id = if rplI x.tables[i] id < 0 then (5, x) else (0, ⟨x.tables.set i (x.tables[i].eraseIdx (rplI x.tables[i] id).toNat), x.next⟩)) := by
    show dropP x i id = _
    unfold dropP
    rw [if_pos hp, if_pos ht, Int.toNat_natCast, getD_tab hi]
  rw [hc] at PC
  have hi1 : (i : Int) < (x.tables.length : Int) := by omega
  have hi0 : (0 : Int) ≤ (i : Int) := by omega
  clear hc hp ht
  go_enter Try.func17, Try.ntmps17
  go_wp2_with fail
  refine (PC.out _ H0.out.bel).mono ?_
  rintro e w1 ⟨rfl, hB⟩
  have H1 := Lib.hid (H0.out.later hB)
  clear hB x0 x1
  have x0 := cell_at (o := 0) H1.out.bx rfl
  have x1 := cell_at (o := 1) H1.out.bx rfl
  go_wp2_with fail
  refine (CS.out _ H1.out.bel).mono ?_
  rintro e W1 ⟨q, rfl, hq, hts, hex, hB⟩
  have H2 := Lib.hid (H1.out.later hB)
  have HQW : Hid (w1.heap.size ≤ q ∧ w.heap.size + 1 + 1 < w1.heap.size) := ⟨hq, (Array.getElem?_eq_some_iff.1 H1.out.rv).1⟩
  clear hB x0 x1
  obtain ⟨p, g, hqp, hcq, hrp⟩ := hex i hi
  obtain ⟨W2, hW2⟩ : ∃ W2, W2 = W1.alloc (.cells #[.slice (some ⟨q, 0, none⟩) x.tables.length x.tables.length, .int .i64 x.next] 32) := ⟨_, rfl⟩
  have hb2 : Below W1.heap.size W1 W2 := by rw [hW2]; exact below_allocD _ _
  have hn2 : W2.heap[W1.heap.size]? = some (.cells #[.slice (some ⟨q, 0, none⟩) x.tables.length x.tables.length, .int .i64 x.next] 32) := by rw [hW2]; exact heap_newD _ _
  have H3 := Lib.hid (H2.out.later hb2)
  obtain ⟨gq, hrq⟩ := hts.row
  rw [Nat.mul_one] at hrq
  have hO1 := TS.done (by omega) hts
  have hO2 : Own W2 (dRowSS x.tables) (fun d => q ≤ d ∧ d < W1.heap.size) (.slice (some ⟨q, 0, none⟩) x.tables.length x.tables.length) := hO1.later hb2
  have hcq2 : W2.cell? ⟨q, i, none⟩ = some (.slice (some ⟨p, 0, none⟩) x.tables[i].length x.tables[i].length) := (hb2.cell (p := ⟨q, i, none⟩) hrq.lt).trans hcq
  have hrp2 := hrp.of_block (hb2.block _ hrp.lt)
  have hrq2 := hrq.of_block (hb2.block _ hrq.lt)
  obtain ⟨ui, eui, rui⟩ := (Own.rd _ _ _ hO2).spotT hi (j := 0) (by omega)
  rw [Nat.mul_one, Nat.add_zero, Nat.zero_add, hcq2] at eui
  simp only [Option.some.injEq] at eui
  subst eui
  have RI : Hid (∀ W, Below W2.heap.size W2 W → Rd W (fun d => q ≤ d ∧ d < W1.heap.size) (dRowS x.tables[i]) (.slice (some ⟨p, 0, none⟩) x.tables[i].length x.tables[i].length)) := fun W h => Rd.later rui h
  have KL : Hid ((dRowS x.tables[i]).le maxLen ∧ (dRowS x.tables[i]).le 1048576) := ⟨(Ls_le.1 HO.out.1).2.2 i hi 0 (by omega), (Ls_le.1 HO.out.2.1).2.2 i hi 0 (by omega)⟩
  have SH : Hid (∀ W, Below W2.heap.size W2 W → Calls Try.prog 29 #[.slice (some ⟨p, 0, none⟩) x.tables[i].length x.tables[i].length] W _) := fun W h => shelveI x.tables[i] (some ⟨p, 0, none⟩) x.tables[i].length p 0 _ W (fun _ => rfl) KL.out.1 (RI.out W h)
  have hlow : W1.heap.size < W2.heap.size ∧ p < W1.heap.size ∧ q < W1.heap.size := ⟨(Array.getElem?_eq_some_iff.1 hn2).1, hrp.lt, hrq.lt⟩
  have CE : Hid (∀ W, Below W2.heap.size W2 W → W.cell? ⟨W1.heap.size, 0, none⟩ = some (.slice (some ⟨q, 0, none⟩) x.tables.length x.tables.length) ∧ W.cell? ⟨q, i, none⟩ = some (.slice (some ⟨p, 0, none⟩) x.tables[i].length x.tables[i].length) ∧ W.cell? ⟨w.heap.size + 1, 0, none⟩ = some (.int .i64 id)) := fun W h => ⟨cell_at (o := 0) (heap_keptD hn2 h) rfl, (h.cell (p := ⟨q, i, none⟩) (by show q < _; omega)).trans hcq2, cell_at (o := 0) (H3.out.later h).ib rfl⟩
  have HM := Lib.hid (And.intro hn2 (And.intro hO2 (And.intro hcq2 (And.intro hrp2 (And.intro hrq2 hlow)))))
  have HPQ := Lib.hid hqp
  have HW2 := Lib.hid hW2
  have HI := Lib.hid hi
  clear hts hex hO1 hO2 hcq hcq2 hrp hrp2 hrq hrq2 hn2 hb2 hq hqp rui hW2
  have y0 := (CE.out _ (Below.refl _ _)).1
  have y1 := (CE.out _ (Below.refl _ _)).2.1
  have y2 := (CE.out _ (Below.refl _ _)).2.2
  generalize hle : x.tables[i] = l at *
  have HLE := Lib.hid hle
  clear hle
  have n0 : (W1.alloc (.cells #[.slice none 0 0, .int .i64 0] 32)).cell? ⟨W1.heap.size, 0, none⟩ = some (.slice none 0 0) := cell_at (o := 0) (heap_newD _ _) rfl
  clear n0 y0 y1 y2 hlow
  rcases rpl_cases l id with ⟨hr, hno⟩ | ⟨k, hkl, hr, hke, hkn⟩
  · have HP : Hid (dropP x i id = (5, x)) := by show dropP x i id = _; rw [HQ.out, hr]; rfl
    have hptr := ptr_none (l := l) (rb := p) (roff := 0) (k := l.length) (Nat.le_refl _) hno
    have HPT := Lib.hid hptr
    clear hr hno hptr
    go_wp2_with fail
    rw [← HW2.out]
    refine wp_region_held_drew (S := (fun W => W.cell? ⟨W1.heap.size, 0, none⟩ = some (.slice (some ⟨q, 0, none⟩) x.tables.length x.tables.length) ∧ W.cell? ⟨q, i, none⟩ = some (.slice (some ⟨p, 0, none⟩) l.length l.length) ∧ W.cell? ⟨w.heap.size + 1, 0, none⟩ = some (.int .i64 id))) (by kernel_rfl) ?_ (fun hHeld => ?_)
    · (first | exact CE.out _ (Below.refl _ _) | exact CE.out _ (Below.refl _ _).drew | exact CE.out _ BW3.out)
    refine wpAnyH_take (i := 0) (v := ?_) rfl (by kernel_rfl) (by kernel_rfl) (by kernel_rfl) (fun _ _ _ h => h) (Or.inl ⟨by kernel_rfl, ?_⟩) (by assumption) ?_
    rotate_left
    · (intro wS hSw; (try dsimp only at hSw); go_simp <;> with_reducible rfl)
    try simp only [Act.put, List.getElem_toArray, List.getElem_cons_succ, List.getElem_cons_zero, List.setIfInBounds_toArray, List.set_cons_zero, List.set_cons_succ]
    refine wpAnyH_take (i := 1) (v := ?_) rfl (by kernel_rfl) (by kernel_rfl) (by kernel_rfl) (fun _ _ _ h => h) (Or.inl ⟨by kernel_rfl, ?_⟩) (by assumption) ?_
    rotate_left
    · (intro wS hSw; (try dsimp only at hSw); go_simp <;> with_reducible rfl)
    try simp only [Act.put, List.getElem_toArray, List.getElem_cons_succ, List.getElem_cons_zero, List.setIfInBounds_toArray, List.set_cons_zero, List.set_cons_succ]
    refine wpAnyH_take (i := 2) (v := ?_) rfl (by kernel_rfl) (by kernel_rfl) (by kernel_rfl) (fun _ _ _ h => h) (Or.inl ⟨by kernel_rfl, ?_⟩) (by assumption) ?_
    rotate_left
    · (intro wS hSw; (try dsimp only at hSw); go_simp <;> with_reducible rfl)
    try simp only [Act.put, List.getElem_toArray, List.getElem_cons_succ, List.getElem_cons_zero, List.setIfInBounds_toArray, List.set_cons_zero, List.set_cons_succ]
    refine wpAnyH_take (i := 3) (v := ?_) rfl (by kernel_rfl) (by kernel_rfl) (by kernel_rfl) (fun _ _ _ h => h) (Or.inl ⟨by kernel_rfl, ?_⟩) (by assumption) ?_
    rotate_left
    · (intro wS hSw; (try dsimp only at hSw); go_simp <;> with_reducible rfl)
    try simp only [Act.put, List.getElem_toArray, List.getElem_cons_succ, List.getElem_cons_zero, List.setIfInBounds_toArray, List.set_cons_zero, List.set_cons_succ]
    refine wpAnyH_take (i := 4) (v := ?_) rfl (by kernel_rfl) (by kernel_rfl) (by kernel_rfl) (fun _ _ _ h => h) (Or.inl ⟨by kernel_rfl, ?_⟩) (by assumption) ?_
    rotate_left
    · (intro wS hSw; (try dsimp only at hSw); go_simp <;> with_reducible rfl)
    try simp only [Act.put, List.getElem_toArray, List.getElem_cons_succ, List.getElem_cons_zero, List.setIfInBounds_toArray, List.set_cons_zero, List.set_cons_succ]
    refine wpAnyH_take (i := 6) (v := ?_) rfl (by kernel_rfl) (by kernel_rfl) (by kernel_rfl) (fun _ _ _ h => h) (Or.inl ⟨by kernel_rfl, ?_⟩) (by assumption) ?_
    rotate_left
    · (intro wS hSw; (try dsimp only at hSw); go_simp <;> with_reducible rfl)
    try simp only [Act.put, List.getElem_toArray, List.getElem_cons_succ, List.getElem_cons_zero, List.setIfInBounds_toArray, List.set_cons_zero, List.set_cons_succ]
    refine wpAnyH_ready (rs := [5]) (by kernel_rfl) (by simp) (AllReadyH.cons rfl (fun K hK => ?_) AllReadyH.nil)
    go_simp
    go_at_call 29
    refine (SH.out _ (Below.refl _ _).drew).mono ?_
    rintro e w3 ⟨mp, D, rfl, hown, hsh, hmp, hB3⟩
    have hlook := look_shelf hown hsh HO.out.2.2
    rw [HPT.out] at hlook
    have BW3 : Hid (Below W2.heap.size W2 w3) := (Below.refl _ _).drew.trans hB3
    clear hown hsh hB3
    refine hK.out _ _ ?_ (fun hHeld => ?_)
    · (first | exact CE.out _ (Below.refl _ _) | exact CE.out _ (Below.refl _ _).drew | exact CE.out _ BW3.out)
    clear hK K
    try simp only [Act.put, List.getElem_toArray, List.getElem_cons_succ, List.getElem_cons_zero, List.setIfInBounds_toArray, List.set_cons_zero, List.set_cons_succ]
    refine wpAnyH_ready (rs := [7]) (by kernel_rfl) (by simp) (AllReadyH.cons rfl (fun K hK => ?_) AllReadyH.nil)
    go_simp
    skip
    refine hK.out _ _ ?_ (fun hHeld => ?_)
    · (first | exact CE.out _ (Below.refl _ _) | exact CE.out _ (Below.refl _ _).drew | exact CE.out _ BW3.out)
    clear hK K
    try simp only [Act.put, List.getElem_toArray, List.getElem_cons_succ, List.getElem_cons_zero, List.setIfInBounds_toArray, List.set_cons_zero, List.set_cons_succ]
    refine wpAnyH_take (i := 8) (v := ?_) rfl (by kernel_rfl) (by kernel_rfl) (by kernel_rfl) (fun _ _ _ h => h) (Or.inl ⟨by kernel_rfl, ?_⟩) (by assumption) ?_
    rotate_left
    · (intro wS hSw; (try dsimp only at hSw); go_simp <;> with_reducible rfl)
    try simp only [Act.put, List.getElem_toArray, List.getElem_cons_succ, List.getElem_cons_zero, List.setIfInBounds_toArray, List.set_cons_zero, List.set_cons_succ]
    refine wpAnyH_done (by kernel_rfl) ?_ _
    have H4 := Lib.hid (H3.out.later BW3.out)
    have r0 := cell_at (o := 0) H4.out.rv rfl
    have r1 := cell_at (o := 1) H4.out.rv rfl
    have g0 := frozen_at 0 H4.out.rv
    have g1 := frozen_at 1 H4.out.rv
    have m0 := cell_at (o := 0) (heap_keptD HM.out.1 BW3.out) rfl
    have m1 := cell_at (o := 1) (heap_keptD HM.out.1 BW3.out) rfl
    clear hlook
    go_wp2_with fail
    refine bodyPost_ret (v := .tuple #[.agg #[.slice (some ⟨q, 0, none⟩) x.tables.length x.tables.length, .int .i64 x.next], .int .i64 5]) (by simp [results, Try.results17, go_sem, *]) rfl ?_
    have hfr : Frm (· = w.heap.size + 1 + 1) w3 ((w3.setCell ⟨w.heap.size + 1 + 1, 0, none⟩ (.slice (some ⟨q, 0, none⟩) x.tables.length x.tables.length)).setCell ⟨w.heap.size + 1 + 1, 1, none⟩ (.int .i64 x.next)) := (frm_set _ _ _ _).trans (frm_set _ _ _ _)
    have hqw := HQW.out
    have hs3 := BW3.out.size
    have hlow := HM.out.2.2.2.2.2
    refine ⟨_, _, by rw [HP.out], ?_, (H4.out.bel.setCell (by simp <;> omega) _).setCell (by simp <;> omega) _⟩
    rw [HP.out]
    exact ((HM.out.2.1.later BW3.out).frm hfr (fun b hb e => by have h1 := hb.1; have e' : b = w.heap.size + 1 + 1 := e; omega)).mono (fun b hb => ⟨by have := hb.1; omega, by have := hb.2; simp; omega⟩)
  · have HP : Hid (dropP x i id = (0, ⟨x.tables.set i (l.eraseIdx k), x.next⟩)) := by
      show dropP x i id = _
      rw [HQ.out, hr, if_neg (by omega), Int.toNat_natCast]
    have hptr := ptr_at (rb := p) (roff := 0) (rise_uniq HPL.out) hkl hke (Nat.le_refl _) hkl
    have HPT := Lib.hid hptr
    have HK : Hid (k < l.length ∧ l[k].id = id ∧ ∀ m (h : m < l.length), m ≠ k → l[m].id ≠ id) := ⟨hkl, hke, fun m h hm e => hm (rise_uniq HPL.out m k h hkl (e.trans hke.symm))⟩
    clear hr hke hkn hptr
    go_wp2_with fail
    rw [← HW2.out]
    refine wp_region_held_drew (S := (fun W => W.cell? ⟨W1.heap.size, 0, none⟩ = some (.slice (some ⟨q, 0, none⟩) x.tables.length x.tables.length) ∧ W.cell? ⟨q, i, none⟩ = some (.slice (some ⟨p, 0, none⟩) l.length l.length) ∧ W.cell? ⟨w.heap.size + 1, 0, none⟩ = some (.int .i64 id))) (by kernel_rfl) ?_ (fun hHeld => ?_)
    · (first | exact CE.out _ (Below.refl _ _) | exact CE.out _ (Below.refl _ _).drew | exact CE.out _ BW3.out)
    refine wpAnyH_take (i := 0) (v := ?_) rfl (by kernel_rfl) (by kernel_rfl) (by kernel_rfl) (fun _ _ _ h => h) (Or.inl ⟨by kernel_rfl, ?_⟩) (by assumption) ?_
    rotate_left
    · (intro wS hSw; (try dsimp only at hSw); go_simp <;> with_reducible rfl)
    try simp only [Act.put, List.getElem_toArray, List.getElem_cons_succ, List.getElem_cons_zero, List.setIfInBounds_toArray, List.set_cons_zero, List.set_cons_succ]
    refine wpAnyH_take (i := 1) (v := ?_) rfl (by kernel_rfl) (by kernel_rfl) (by kernel_rfl) (fun _ _ _ h => h) (Or.inl ⟨by kernel_rfl, ?_⟩) (by assumption) ?_
    rotate_left
    · (intro wS hSw; (try dsimp only at hSw); go_simp <;> with_reducible rfl)
    try simp only [Act.put, List.getElem_toArray, List.getElem_cons_succ, List.getElem_cons_zero, List.setIfInBounds_toArray, List.set_cons_zero, List.set_cons_succ]
    refine wpAnyH_take (i := 2) (v := ?_) rfl (by kernel_rfl) (by kernel_rfl) (by kernel_rfl) (fun _ _ _ h => h) (Or.inl ⟨by kernel_rfl, ?_⟩) (by assumption) ?_
    rotate_left
    · (intro wS hSw; (try dsimp only at hSw); go_simp <;> with_reducible rfl)
    try simp only [Act.put, List.getElem_toArray, List.getElem_cons_succ, List.getElem_cons_zero, List.setIfInBounds_toArray, List.set_cons_zero, List.set_cons_succ]
    refine wpAnyH_take (i := 3) (v := ?_) rfl (by kernel_rfl) (by kernel_rfl) (by kernel_rfl) (fun _ _ _ h => h) (Or.inl ⟨by kernel_rfl, ?_⟩) (by assumption) ?_
    rotate_left
    · (intro wS hSw; (try dsimp only at hSw); go_simp <;> with_reducible rfl)
    try simp only [Act.put, List.getElem_toArray, List.getElem_cons_succ, List.getElem_cons_zero, List.setIfInBounds_toArray, List.set_cons_zero, List.set_cons_succ]
    refine wpAnyH_take (i := 4) (v := ?_) rfl (by kernel_rfl) (by kernel_rfl) (by kernel_rfl) (fun _ _ _ h => h) (Or.inl ⟨by kernel_rfl, ?_⟩) (by assumption) ?_
    rotate_left
    · (intro wS hSw; (try dsimp only at hSw); go_simp <;> with_reducible rfl)
    try simp only [Act.put, List.getElem_toArray, List.getElem_cons_succ, List.getElem_cons_zero, List.setIfInBounds_toArray, List.set_cons_zero, List.set_cons_succ]
    refine wpAnyH_take (i := 6) (v := ?_) rfl (by kernel_rfl) (by kernel_rfl) (by kernel_rfl) (fun _ _ _ h => h) (Or.inl ⟨by kernel_rfl, ?_⟩) (by assumption) ?_
    rotate_left
    · (intro wS hSw; (try dsimp only at hSw); go_simp <;> with_reducible rfl)
    try simp only [Act.put, List.getElem_toArray, List.getElem_cons_succ, List.getElem_cons_zero, List.setIfInBounds_toArray, List.set_cons_zero, List.set_cons_succ]
    refine wpAnyH_ready (rs := [5]) (by kernel_rfl) (by simp) (AllReadyH.cons rfl (fun K hK => ?_) AllReadyH.nil)
    go_simp
    go_at_call 29
    refine (SH.out _ (Below.refl _ _).drew).mono ?_
    rintro e w3 ⟨mp, D, rfl, hown, hsh, hmp, hB3⟩
    have hlook := look_shelf hown hsh HO.out.2.2
    rw [HPT.out] at hlook
    have BW3 : Hid (Below W2.heap.size W2 w3) := (Below.refl _ _).drew.trans hB3
    clear hown hsh hB3
    refine hK.out _ _ ?_ (fun hHeld => ?_)
    · (first | exact CE.out _ (Below.refl _ _) | exact CE.out _ (Below.refl _ _).drew | exact CE.out _ BW3.out)
    clear hK K
    try simp only [Act.put, List.getElem_toArray, List.getElem_cons_succ, List.getElem_cons_zero, List.setIfInBounds_toArray, List.set_cons_zero, List.set_cons_succ]
    refine wpAnyH_ready (rs := [7]) (by kernel_rfl) (by simp) (AllReadyH.cons rfl (fun K hK => ?_) AllReadyH.nil)
    go_simp
    skip
    refine hK.out _ _ ?_ (fun hHeld => ?_)
    · (first | exact CE.out _ (Below.refl _ _) | exact CE.out _ (Below.refl _ _).drew | exact CE.out _ BW3.out)
    clear hK K
    try simp only [Act.put, List.getElem_toArray, List.getElem_cons_succ, List.getElem_cons_zero, List.setIfInBounds_toArray, List.set_cons_zero, List.set_cons_succ]
    refine wpAnyH_take (i := 8) (v := ?_) rfl (by kernel_rfl) (by kernel_rfl) (by kernel_rfl) (fun _ _ _ h => h) (Or.inl ⟨by kernel_rfl, ?_⟩) (by assumption) ?_
    rotate_left
    · (intro wS hSw; (try dsimp only at hSw); go_simp <;> with_reducible rfl)
    try simp only [Act.put, List.getElem_toArray, List.getElem_cons_succ, List.getElem_cons_zero, List.setIfInBounds_toArray, List.set_cons_zero, List.set_cons_succ]
    refine wpAnyH_done (by kernel_rfl) ?_ _
    have H4 := Lib.hid (H3.out.later BW3.out)
    have hqw := HQW.out
    have hpq := HPQ.out
    have hs3 := BW3.out.size
    have hlow := HM.out.2.2.2.2.2
    have hrp3 := HM.out.2.2.2.1.of_block (BW3.out.block p (by omega))
    have hrq3 := HM.out.2.2.2.2.1.of_block (BW3.out.block q (by omega))
    have hmd3 := heap_keptD HM.out.1 BW3.out
    have hl2 : l.length ≤ 1048576 := (Ls_le.1 KL.out.2).2.1
    have hgg : ∀ j (h : j < l.length), g (j * 2) = .int .i64 l[j].id ∧ ∃ a n c, g (j * 2 + 1) = .slice a n c := fun j hj => by
      have hR : Rd w3 _ (Ls 2 dRow l) _ := RI.out _ BW3.out
      obtain ⟨u0, e0, q0⟩ := hR.spotT hj (j := 0) (by omega)
      obtain rfl : u0 = .int .i64 l[j].id := q0
      rw [Nat.zero_add, Nat.add_zero, hrp3.cell (i := j * 2) (by omega)] at e0
      obtain ⟨u1, e1, q1⟩ := hR.spotT hj (j := 1) (by omega)
      replace q1 : Rd w3 _ (dAtomSS l[j].cells) u1 := q1
      obtain ⟨sa, sq, rfl⟩ := q1.lsSlice
      rw [Nat.zero_add, hrp3.cell (i := j * 2 + 1) (by omega)] at e1
      simp only [Option.some.injEq] at e0 e1
      exact ⟨e0, _, _, _, e1⟩
    have DE := Lib.hid (deleteI l p (w.heap.size + 1) k id g w3.drew hl2 hkl HK.out.2.1 HK.out.2.2 hrp3 hgg (cell_at (o := 0) H4.out.ib rfl) (by omega))
    have y1 : w3.cell? ⟨q, i, none⟩ = some (.slice (some ⟨p, 0, none⟩) l.length l.length) := (CE.out _ BW3.out).2.1
    have CF : Hid (∀ W : World, W.heap[W1.heap.size]? = w3.heap[W1.heap.size]? → W.cell? ⟨W1.heap.size, 0, none⟩ = some (.slice (some ⟨q, 0, none⟩) x.tables.length x.tables.length)) := fun W h => cell_at (o := 0) (h.trans hmd3) rfl
    have HR3 := Lib.hid (And.intro hrp3 (And.intro hrq3 hmd3))
    have HA := Lib.hid (And.intro hqw (And.intro hpq (And.intro hs3 hlow)))
    clear hlook hqw hpq hs3 hlow hrp3 hrq3 hmd3 hgg
    go_wp2_with fail
    refine wp_region_held_drew (S := (fun W => W.cell? ⟨W1.heap.size, 0, none⟩ = some (.slice (some ⟨q, 0, none⟩) x.tables.length x.tables.length))) (by kernel_rfl) ?_ (fun hHeld => ?_)
    · (first | exact CF.out _ rfl | exact CF.out _ H5.out | exact CF.out _ H7.out)
    refine wpAnyH_take (i := 0) (v := ?_) rfl (by kernel_rfl) (by kernel_rfl) (by kernel_rfl) (fun _ _ _ h => h) (Or.inl ⟨by kernel_rfl, ?_⟩) (by assumption) ?_
    rotate_left
    · (intro wS hSw; (try dsimp only at hSw); go_simp <;> with_reducible rfl)
    try simp only [Act.put, List.getElem_toArray, List.getElem_cons_succ, List.getElem_cons_zero, List.setIfInBounds_toArray, List.set_cons_zero, List.set_cons_succ]
    refine wpAnyH_take (i := 1) (v := ?_) rfl (by kernel_rfl) (by kernel_rfl) (by kernel_rfl) (fun _ _ _ h => h) (Or.inl ⟨by kernel_rfl, ?_⟩) (by assumption) ?_
    rotate_left
    · (intro wS hSw; (try dsimp only at hSw); go_simp <;> with_reducible rfl)
    try simp only [Act.put, List.getElem_toArray, List.getElem_cons_succ, List.getElem_cons_zero, List.setIfInBounds_toArray, List.set_cons_zero, List.set_cons_succ]
    refine wpAnyH_take (i := 2) (v := ?_) rfl (by kernel_rfl) (by kernel_rfl) (by kernel_rfl) (fun _ _ _ h => h) (Or.inl ⟨by kernel_rfl, ?_⟩) (by assumption) ?_
    rotate_left
    · (intro wS hSw; (try dsimp only at hSw); go_simp <;> with_reducible rfl)
    try simp only [Act.put, List.getElem_toArray, List.getElem_cons_succ, List.getElem_cons_zero, List.setIfInBounds_toArray, List.set_cons_zero, List.set_cons_succ]
    refine wpAnyH_take (i := 3) (v := ?_) rfl (by kernel_rfl) (by kernel_rfl) (by kernel_rfl) (fun _ _ _ h => h) (Or.inl ⟨by kernel_rfl, ?_⟩) (by assumption) ?_
    rotate_left
    · (intro wS hSw; (try dsimp only at hSw); go_simp <;> with_reducible rfl)
    try simp only [Act.put, List.getElem_toArray, List.getElem_cons_succ, List.getElem_cons_zero, List.setIfInBounds_toArray, List.set_cons_zero, List.set_cons_succ]
    refine wpAnyH_take (i := 4) (v := ?_) rfl (by kernel_rfl) (by kernel_rfl) (by kernel_rfl) (fun _ _ _ h => h) (Or.inl ⟨by kernel_rfl, ?_⟩) (by assumption) ?_
    rotate_left
    · (intro wS hSw; (try dsimp only at hSw); go_simp <;> with_reducible rfl)
    try simp only [Act.put, List.getElem_toArray, List.getElem_cons_succ, List.getElem_cons_zero, List.setIfInBounds_toArray, List.set_cons_zero, List.set_cons_succ]
    refine wpAnyH_take (i := 5) (v := ?_) rfl (by kernel_rfl) (by kernel_rfl) (by kernel_rfl) (fun _ _ _ h => h) (Or.inl ⟨by kernel_rfl, ?_⟩) (by assumption) ?_
    rotate_left
    · (intro wS hSw; (try dsimp only at hSw); go_simp <;> with_reducible rfl)
    try simp only [Act.put, List.getElem_toArray, List.getElem_cons_succ, List.getElem_cons_zero, List.setIfInBounds_toArray, List.set_cons_zero, List.set_cons_succ]
    refine wpAnyH_take (i := 6) (v := ?_) rfl (by kernel_rfl) (by kernel_rfl) (by kernel_rfl) (fun _ _ _ h => h) (Or.inl ⟨by kernel_rfl, ?_⟩) (by assumption) ?_
    rotate_left
    · (intro wS hSw; (try dsimp only at hSw); go_simp <;> with_reducible rfl)
    try simp only [Act.put, List.getElem_toArray, List.getElem_cons_succ, List.getElem_cons_zero, List.setIfInBounds_toArray, List.set_cons_zero, List.set_cons_succ]
    refine wpAnyH_take (i := 8) (v := ?_) rfl (by kernel_rfl) (by kernel_rfl) (by kernel_rfl) (fun _ _ _ h => h) (Or.inl ⟨by kernel_rfl, ?_⟩) (by assumption) ?_
    rotate_left
    · (intro wS hSw; (try dsimp only at hSw); go_simp <;> with_reducible rfl)
    try simp only [Act.put, List.getElem_toArray, List.getElem_cons_succ, List.getElem_cons_zero, List.setIfInBounds_toArray, List.set_cons_zero, List.set_cons_succ]
    refine wpAnyH_ready (rs := [7]) (by kernel_rfl) (by simp) (AllReadyH.cons rfl (fun K hK => ?_) AllReadyH.nil)
    go_simp
    skip
    refine hK.out _ _ ?_ (fun hHeld => ?_)
    · (first | exact CF.out _ rfl | exact CF.out _ H5.out | exact CF.out _ H7.out)
    clear hK K
    try simp only [Act.put, List.getElem_toArray, List.getElem_cons_succ, List.getElem_cons_zero, List.setIfInBounds_toArray, List.set_cons_zero, List.set_cons_succ]
    refine wpAnyH_ready (rs := [9]) (by kernel_rfl) (by simp) (AllReadyH.cons rfl (fun K hK => ?_) AllReadyH.nil)
    go_simp
    go_at_call 38
    refine DE.out.mono ?_
    rintro e w4 ⟨rfl, hfr, g', hrow, hg'⟩
    have HD : Hid (Frm (· = p) w3.drew w4 ∧ w4.rowIs p 38 (l.length * 2) g' ∧ ∀ m, m < (l.length - 1) * 2 → g' m = shG g k (l.length - 1) m) := ⟨hfr, hrow, hg'⟩
    have ha := HA.out
    have H5 : Hid (w4.heap[W1.heap.size]? = w3.heap[W1.heap.size]?) := hfr.block _ (by show W1.heap.size < w3.heap.size; omega) (by show ¬ W1.heap.size = p; omega)
    have H7 : Hid ((w4.setCell ⟨q, i, none⟩ (.slice (some ⟨p, 0, none⟩) (l.length - 1) l.length)).heap[W1.heap.size]? = w3.heap[W1.heap.size]?) := by show _ = _; rw [Below.heap_setCell _ _ _ _ (by show W1.heap.size ≠ q; omega)]; exact H5.out
    have hq4 := HR3.out.2.1.of_block (w' := w4) (hfr.block q (by show q < w3.heap.size; omega) (by show ¬ q = p; omega))
    have e0 := hq4.cell (i := i) HI.out
    have z0 := hq4.frozen i
    have hrv : w4.heap[w.heap.size + 1 + 1]? = w3.heap[w.heap.size + 1 + 1]? := hfr.block _ (by show w.heap.size + 1 + 1 < w3.heap.size; omega) (by show ¬ w.heap.size + 1 + 1 = p; omega)
    have hb4 : Below w.heap.size w w4 := H4.out.bel.trans ⟨hfr.os, hfr.tape, hfr.output, hfr.size, fun b hb => hfr.block b (by show b < w3.heap.size; omega) (by show ¬ b = p; omega)⟩
    have H6 : Hid ((w4.setCell ⟨q, i, none⟩ (.slice (some ⟨p, 0, none⟩) (l.length - 1) l.length)).heap[W1.heap.size]? = some (.cells #[.slice (some ⟨q, 0, none⟩) x.tables.length x.tables.length, .int .i64 x.next] 32) ∧ (w4.setCell ⟨q, i, none⟩ (.slice (some ⟨p, 0, none⟩) (l.length - 1) l.length)).heap[w.heap.size + 1 + 1]? = some (.cells #[.slice none 0 0, .int .i64 0] 32) ∧ Below w.heap.size w (w4.setCell ⟨q, i, none⟩ (.slice (some ⟨p, 0, none⟩) (l.length - 1) l.length))) := ⟨by rw [H7.out]; exact HR3.out.2.2, by rw [Below.heap_setCell _ _ _ _ (by show w.heap.size + 1 + 1 ≠ q; omega), hrv]; exact H4.out.rv, hb4.setCell (by show w.heap.size ≤ q; omega) _⟩
    clear hfr hrow hg' hq4 hrv hb4 ha
    refine hK.out _ _ ?_ (fun hHeld => ?_)
    · (first | exact CF.out _ rfl | exact CF.out _ H5.out | exact CF.out _ H7.out)
    clear hK K
    try simp only [Act.put, List.getElem_toArray, List.getElem_cons_succ, List.getElem_cons_zero, List.setIfInBounds_toArray, List.set_cons_zero, List.set_cons_succ]
    refine wpAnyH_take (i := 10) (v := ?_) rfl (by kernel_rfl) (by kernel_rfl) (by kernel_rfl) (fun _ _ _ h => h) (Or.inl ⟨by kernel_rfl, ?_⟩) (by assumption) ?_
    rotate_left
    · (intro wS hSw; (try dsimp only at hSw); go_simp <;> with_reducible rfl)
    try simp only [Act.put, List.getElem_toArray, List.getElem_cons_succ, List.getElem_cons_zero, List.setIfInBounds_toArray, List.set_cons_zero, List.set_cons_succ]
    refine wpAnyH_ready (rs := [11]) (by kernel_rfl) (by simp) (AllReadyH.cons rfl (fun K hK => ?_) AllReadyH.nil)
    go_simp
    skip
    refine hK.out _ _ ?_ (fun hHeld => ?_)
    · (first | exact CF.out _ rfl | exact CF.out _ H5.out | exact CF.out _ H7.out)
    clear hK K
    try simp only [Act.put, List.getElem_toArray, List.getElem_cons_succ, List.getElem_cons_zero, List.setIfInBounds_toArray, List.set_cons_zero, List.set_cons_succ]
    refine wpAnyH_done (by kernel_rfl) ?_ _
    have hlow := HA.out
    have m0 := cell_at (o := 0) H6.out.1 rfl
    have m1 := cell_at (o := 1) H6.out.1 rfl
    have r0 := cell_at (o := 0) H6.out.2.1 rfl
    have r1 := cell_at (o := 1) H6.out.2.1 rfl
    have g0 := frozen_at 0 H6.out.2.1
    have g1 := frozen_at 1 H6.out.2.1
    clear hlow e0 z0 y1
    go_wp2_with fail
    refine bodyPost_ret (v := .tuple #[.agg #[.slice (some ⟨q, 0, none⟩) x.tables.length x.tables.length, .int .i64 x.next], .int .i64 0]) (by simp [results, Try.results17, go_sem, *]) rfl ?_
    have hlow := HA.out
    have hfr2 : Frm (· = w.heap.size + 1 + 1) (w4.setCell ⟨q, i, none⟩ (.slice (some ⟨p, 0, none⟩) (l.length - 1) l.length)) (((w4.setCell ⟨q, i, none⟩ (.slice (some ⟨p, 0, none⟩) (l.length - 1) l.length)).setCell ⟨w.heap.size + 1 + 1, 0, none⟩ (.slice (some ⟨q, 0, none⟩) x.tables.length x.tables.length)).setCell ⟨w.heap.size + 1 + 1, 1, none⟩ (.int .i64 x.next)) := (frm_set _ _ _ _).trans (frm_set _ _ _ _)
    refine ⟨some ⟨q, 0, none⟩, x.tables.length, by rw [HP.out]; simp, ?_, (H6.out.2.2.setCell (by simp <;> omega) _).setCell (by simp <;> omega) _⟩
    rw [HP.out]
    have hfin : Own (w4.setCell ⟨q, i, none⟩ (.slice (some ⟨p, 0, none⟩) (l.length - 1) l.length)) (dRowSS (x.tables.set i (l.eraseIdx k))) (fun d => q ≤ d ∧ d < W1.heap.size) (.slice (some ⟨q, 0, none⟩) (x.tables.set i (l.eraseIdx k)).length x.tables.length) := by
      obtain rfl := HLE.out
      have hbl : ∀ d, d < w3.heap.size → d ≠ p → d ≠ q → (w4.setCell ⟨q, i, none⟩ (.slice (some ⟨p, 0, none⟩) (x.tables[i].length - 1) x.tables[i].length)).heap[d]? = w3.heap[d]? := fun d h1 h2 h3 => by
        rw [Below.heap_setCell _ _ _ _ h3]; exact HD.out.1.block d h1 h2
      refine own_put (w := w3) (p := p) HI.out (by omega) (HM.out.2.1.later BW3.out) (CE.out _ BW3.out).2.1 (fun d hd h2 h3 => hbl d (by have := hd.2; omega) h2 h3) HR3.out.2.1 ((HR3.out.2.1.of_block (HD.out.1.block q (by show q < w3.heap.size; omega) (by show ¬ q = p; omega))).set i _) (fun Y hY hOY => ?_)
      have h9 := own_drop (w4 := w4.setCell ⟨q, i, none⟩ (.slice (some ⟨p, 0, none⟩) (x.tables[i].length - 1) x.tables[i].length)) HK.out.1 hOY HR3.out.1 (fun d hd h2 => hbl d (by have := (hY d hd).1.2; omega) h2 (hY d hd).2) (HD.out.2.1.of_block (Below.heap_setCell _ _ _ _ (by show p ≠ q; omega))) HD.out.2.2
      rw [List.length_eraseIdx_of_lt HK.out.1] at h9
      exact h9
    have hsz := HD.out.1.size
    have hsz' : w3.heap.size ≤ w4.heap.size := hsz
    exact (hfin.frm hfr2 (fun b hb e => by have h1 := hb.1; have e' : b = w.heap.size + 1 + 1 := e; omega)).mono (fun b hb => ⟨by have := hb.1; omega, by have := hb.2; simp; omega⟩)
end Go.Proofs.Ytgiaabgcbpafgaa
