import Derived.Test.YtajhjjpanjpfoaaZbl
import Derived.Test.YtajhjjpanjpfoaaZbf
import Derived.Test.YtajhjjpanjpfoaaZau
import Derived.Deep.LoopGhost
import Derived.Test.YtajhjjpanjpfoaaZTk
namespace Go.Proofs.Ytajhjjpanjpfoaa
open Go.RowKit
set_option linter.unusedSimpArgs false
def atV (l : List UInt8) (i n : Nat) : Nat := if l.length = 0 then i * 7 % n else ((l.getD (i % l.length) 0).toNat * 31 + (l.getD ((i + 1) % l.length) 0).toNat + i / l.length) % n
theorem atV_lt {l : List UInt8} {i n : Nat} (h : 0 < n) : atV l i n < n := by unfold atV; split <;> exact Nat.mod_lt _ h
set_option maxRecDepth 100000 in
set_option maxHeartbeats 3200000 in
theorem atVS (l : List UInt8) (a : Option Addr) (c i n : Nat) (B : Nat → Prop) (W : World) (hb : Byts W B a l) (hl : l.length ≤ 1048576) (hi : i ≤ 1000) (h1 : 1 < n) (h2 : n ≤ 1000000) :
    Calls Try.prog 4 #[.slice a l.length c, .int .i64 (i : Int), .int .i64 (n : Int)] W fun e W' => e = .returned (.int .i64 ((atV l i n : Nat) : Int)) ∧ Below W.heap.size W W' := by
  have d1 : decide ((n : Int) ≤ 1) = false := decide_eq_false (by omega)
  have d2 : decide (n ≤ 1) = false := decide_eq_false (by omega)
  have d5 : ((n : Int) == 0) = false := by rw [beq_eq_false_iff_ne]; omega
  have hn0 : n ≠ 0 := by omega
  have HB : Hid (Below W.heap.size W W ∧ Below W.heap.size W W.drew) := ⟨Below.refl _ _, (Below.refl _ _).drew⟩
  by_cases h0 : l.length = 0
  · have e0 : l = [] := List.length_eq_zero_iff.1 h0
    subst e0
    obtain ⟨m7, e7⟩ : ∃ u : Nat, u = i * 7 := ⟨_, rfl⟩
    obtain ⟨k, q3⟩ : ∃ u : Nat, u = m7 % n := ⟨_, rfl⟩
    have f1 : IntKind.i64.wrap ((i : Int) * 7) = (m7 : Int) := by rw [IntKind.wrap_i64]; omega
    have hk : k < n := by rw [q3]; exact Nat.mod_lt _ (by omega)
    have f5 : (m7 : Int).tmod (n : Int) = (k : Int) := by rw [Int.tmod_eq_emod_of_nonneg (by omega), q3, Int.natCast_emod]
    have f6 : IntKind.i64.wrap (k : Int) = (k : Int) := by rw [IntKind.wrap_i64]; omega
    have HK : Hid (atV [] i n = k) := by show atV [] i n = k; unfold atV; simp [q3, e7]
    clear h1 h2 hl h0 hb hi e7 q3 hk
    go_enter Try.func4, Try.ntmps4
    go_wp2_with fail
    go_ret
    exact ⟨by rw [HK.out]; rfl, HB.out.1⟩
  rcases hb with h | ⟨b, off, rfl, hb, hc⟩
  · exact absurd h h0
  have g1 : ((l.length : Int) == 0) = false := by rw [beq_eq_false_iff_ne]; omega
  have g2 : (l.length == 0) = false := by rw [beq_eq_false_iff_ne]; omega
  have g3 : l ≠ [] := fun e => h0 (by rw [e]; rfl)
  have hp : 0 < l.length := by omega
  obtain ⟨j, hj⟩ : ∃ j : Nat, j = i + 1 := ⟨_, rfl⟩
  have w1 : IntKind.i64.wrap ((i : Int) + 1) = (j : Int) := by rw [IntKind.wrap_i64]; omega
  obtain ⟨r0, hr0⟩ : ∃ r : Nat, r = i % l.length := ⟨_, rfl⟩
  obtain ⟨r1, hr1⟩ : ∃ r : Nat, r = j % l.length := ⟨_, rfl⟩
  obtain ⟨dq, hdq⟩ : ∃ r : Nat, r = i / l.length := ⟨_, rfl⟩
  have hl0 : r0 < l.length := by rw [hr0]; exact Nat.mod_lt _ hp
  have hl1 : r1 < l.length := by rw [hr1]; exact Nat.mod_lt _ hp
  have hdi : dq ≤ i := by rw [hdq]; exact Nat.div_le_self _ _
  have t1 : (i : Int).tmod (l.length : Int) = (r0 : Int) := by rw [Int.tmod_eq_emod_of_nonneg (by omega), hr0, Int.natCast_emod]
  have t2 : IntKind.i64.wrap (r0 : Int) = (r0 : Int) := by rw [IntKind.wrap_i64]; omega
  have t3 : (j : Int).tmod (l.length : Int) = (r1 : Int) := by rw [Int.tmod_eq_emod_of_nonneg (by omega), hr1, Int.natCast_emod]
  have t4 : IntKind.i64.wrap (r1 : Int) = (r1 : Int) := by rw [IntKind.wrap_i64]; omega
  have t5 : (i : Int).tdiv (l.length : Int) = (dq : Int) := by rw [Int.tdiv_eq_ediv_of_nonneg (by omega), hdq, Int.natCast_ediv]
  have t6 : IntKind.i64.wrap (dq : Int) = (dq : Int) := by rw [IntKind.wrap_i64]; omega
  have s1 : ((i : Int) % (l.length : Int)) = (r0 : Int) := by rw [hr0, Int.natCast_emod]
  have s2 : ((j : Int) % (l.length : Int)) = (r1 : Int) := by rw [hr1, Int.natCast_emod]
  have s3 : ((i : Int) / (l.length : Int)) = (dq : Int) := by rw [hdq, Int.natCast_ediv]
  have c0 := hc r0 hl0
  have c1 := hc r1 hl1
  obtain ⟨v0, e0⟩ : ∃ v : Nat, v = l[r0].toNat := ⟨_, rfl⟩
  obtain ⟨v1, e1⟩ : ∃ v : Nat, v = l[r1].toNat := ⟨_, rfl⟩
  have b0 : v0 < 256 := by rw [e0]; exact UInt8.toNat_lt _
  have b1 : v1 < 256 := by rw [e1]; exact UInt8.toNat_lt _
  rw [← e0] at c0
  rw [← e1] at c1
  obtain ⟨u1, q1⟩ : ∃ u : Nat, u = v0 * 31 := ⟨_, rfl⟩
  obtain ⟨u2, q2⟩ : ∃ u : Nat, u = u1 + v1 := ⟨_, rfl⟩
  obtain ⟨u3, q3⟩ : ∃ u : Nat, u = u2 + dq := ⟨_, rfl⟩
  obtain ⟨k, q4⟩ : ∃ u : Nat, u = u3 % n := ⟨_, rfl⟩
  have f0 : IntKind.i64.wrap (v0 : Int) = (v0 : Int) := by rw [IntKind.wrap_i64]; omega
  have f1 : IntKind.i64.wrap (v1 : Int) = (v1 : Int) := by rw [IntKind.wrap_i64]; omega
  have f2 : IntKind.i64.wrap ((v0 : Int) * 31) = (u1 : Int) := by rw [IntKind.wrap_i64]; omega
  have f3 : IntKind.i64.wrap ((u1 : Int) + (v1 : Int)) = (u2 : Int) := by rw [IntKind.wrap_i64]; omega
  have f4 : IntKind.i64.wrap ((u2 : Int) + (dq : Int)) = (u3 : Int) := by rw [IntKind.wrap_i64]; omega
  have hk : k < n := by rw [q4]; exact Nat.mod_lt _ (by omega)
  have f5 : (u3 : Int).tmod (n : Int) = (k : Int) := by rw [Int.tmod_eq_emod_of_nonneg (by omega), q4, Int.natCast_emod]
  have f7 : ((u3 : Int) % (n : Int)) = (k : Int) := by rw [q4, Int.natCast_emod]
  have f6 : IntKind.i64.wrap (k : Int) = (k : Int) := by rw [IntKind.wrap_i64]; omega
  have HK : Hid (atV l i n = k) := by
    show atV l i n = k
    unfold atV
    rw [if_neg h0, ← hj, ← hr0, ← hr1, ← hdq, List.getD_eq_getElem?_getD, List.getElem?_eq_getElem hl0, List.getD_eq_getElem?_getD, List.getElem?_eq_getElem hl1]
    show (l[r0].toNat * 31 + l[r1].toNat + dq) % n = k
    rw [← e0, ← e1, q4, q3, q2, q1]
  clear h1 h2 hl hc hb e0 e1 b0 b1 q1 q2 q3 q4 hr0 hr1 hdq h0 hi hj hk hdi
  go_enter Try.func4, Try.ntmps4
  go_wp2_with fail
  go_region
  go_wp2_with fail
  go_ret
  exact ⟨by rw [HK.out]; rfl, HB.out.2⟩
set_option maxRecDepth 100000 in
set_option maxHeartbeats 6400000 in
theorem sameRowT (x : RowV) (a a' : Option Addr) (c c' : Nat) (A B : Nat → Prop) (w : World) (hl : (dAtomSS x.cells).le 1048576) (hA : Rd w A (dAtomSS x.cells) (.slice a x.cells.length c)) (hB : Rd w B (dAtomSS x.cells) (.slice a' x.cells.length c')) :
    Calls Try.prog 10 #[.agg #[.int .i64 x.id, .slice a x.cells.length c], .agg #[.int .i64 x.id, .slice a' x.cells.length c']] w fun e w' => e = .returned (.bool true) ∧ Below w.heap.size w w' := by
  have hb := box2D 34 w #[.int .i64 x.id, .slice a x.cells.length c] #[.int .i64 x.id, .slice a' x.cells.length c']
  have H0 := Lib.hid hb
  have HA : Hid (∀ W, Below w.heap.size w W → Rd W A (Ls 1 cAtomS x.cells) (.slice a x.cells.length c)) := fun W h => Rd.later hA h
  have HB : Hid (∀ W, Below w.heap.size w W → Rd W B (Ls 1 cAtomS x.cells) (.slice a' x.cells.length c')) := fun W h => Rd.later hB h
  have HLL : Hid (x.cells.length ≤ 1048576 ∧ ∀ i (h : i < x.cells.length), x.cells[i].length ≤ 1048576) := ⟨(Ls_le.1 hl).2.1, fun i h => (Ls_le.1 ((Ls_le.1 hl).2.2 i h 0 (by omega))).2.1⟩
  have nn : (x.id != x.id) = false := by simp
  have n2 : ((x.cells.length : Int) != (x.cells.length : Int)) = false := by simp
  have x0 := cell_at (o := 0) hb.a rfl
  have x1 := cell_at (o := 1) hb.a rfl
  have y0 := cell_at (o := 0) hb.b rfl
  have y1 := cell_at (o := 1) hb.b rfl
  clear hb hA hB hl
  go_enter Try.func10, Try.ntmps10
  go_wp2_with fail
  clear x0 x1 y0 y1
  obtain ⟨n, hn⟩ : ∃ n, n = x.cells.length := ⟨_, rfl⟩
  have HN := Lib.hid hn
  rw [← hn] at H0 ⊢
  clear hn n2 nn
  go_loopg [5] n (fun g i wr => ∃ k : Nat, k + g = n ∧ i = .int .i64 (k : Int) ∧ Hid (Box2D 34 w wr #[.int .i64 x.id, .slice a n c] #[.int .i64 x.id, .slice a' n c']))
  case atStart => exact ⟨0, by omega, rfl, H0⟩
  case round =>
    obtain ⟨k, hkg, rfl, HR⟩ := hrel
    have HKG := Lib.hid hkg
    have x1 := cell_at (o := 1) HR.out.a rfl
    by_cases hlt : k < n
    case neg =>
      have hkd : decide ((k : Int) < (n : Int)) = false := by simp; omega
      clear hkg
      go_wp2_with fail
      go_ret
      exact ⟨rfl, HR.out.bel⟩
    have hki : (k : Int) < (n : Int) := by omega
    have f1 : IntKind.i64.wrap ((k : Int) + 1) = ((k + 1 : Nat) : Int) := by have := HLL.out.1; have := HN.out; rw [IntKind.wrap_i64]; omega
    have hkx : k < x.cells.length := by rw [← HN.out]; exact hlt
    obtain ⟨b, off, rfl, -, -⟩ := (HA.out _ HR.out.bel).things k hkx
    obtain ⟨b', off', rfl, -, -⟩ := (HB.out _ HR.out.bel).things k hkx
    obtain ⟨u, hu, hru⟩ := (HA.out _ HR.out.bel).spotT hkx (j := 0) (by omega)
    obtain ⟨u', hu', hru'⟩ := (HB.out _ HR.out.bel).spotT hkx (j := 0) (by omega)
    replace hru : Rd wr A (dAtomS x.cells[k]) u := hru
    replace hru' : Rd wr B (dAtomS x.cells[k]) u' := hru'
    obtain ⟨da, dc, rfl⟩ := hru.lsSlice
    obtain ⟨da', dc', rfl⟩ := hru'.lsSlice
    rw [Nat.mul_one, Nat.add_zero] at hu hu'
    have SD : Hid (∀ W, Below wr.heap.size wr W → Calls Try.prog 13 #[.slice da x.cells[k].length dc, .slice da' x.cells[k].length dc'] W fun e w' => e = .returned (.bool true) ∧ Below W.heap.size W w') := fun W hW => sameDatumS x.cells[k] da da' dc dc' A B W (HLL.out.2 k hkx) (hru.later hW).ats (hru'.later hW).ats
    have CE : Hid (∀ W, Below wr.heap.size wr W → W.cell? ⟨w.heap.size, 1, none⟩ = some (.slice (some ⟨b, off, none⟩) n c) ∧ W.cell? ⟨w.heap.size + 1, 1, none⟩ = some (.slice (some ⟨b', off', none⟩) n c') ∧ W.cell? ⟨b, off + k, none⟩ = some (.slice da x.cells[k].length dc) ∧ W.cell? ⟨b', off' + k, none⟩ = some (.slice da' x.cells[k].length dc')) := fun W hW =>
      ⟨cell_at (o := 1) (heap_keptD HR.out.a hW) rfl, cell_at (o := 1) (heap_keptD HR.out.b hW) rfl, (hW.cell (p := ⟨b, off + k, none⟩) (World.block_lt_of_cell? _ _ hu)).trans hu, (hW.cell (p := ⟨b', off' + k, none⟩) (World.block_lt_of_cell? _ _ hu')).trans hu'⟩
    have B0 : Hid (Below wr.heap.size wr wr.drew) := (Below.refl _ _).drew
    clear hu hu' hru hru' hkg
    generalize x.cells[k] = y at *
    go_wp2_with fail
    refine wp_region_held_drew (S := (fun W => W.cell? ⟨w.heap.size, 1, none⟩ = some (.slice (some ⟨b, off, none⟩) n c) ∧ W.cell? ⟨w.heap.size + 1, 1, none⟩ = some (.slice (some ⟨b', off', none⟩) n c') ∧ W.cell? ⟨b, off + k, none⟩ = some (.slice da y.length dc) ∧ W.cell? ⟨b', off' + k, none⟩ = some (.slice da' y.length dc'))) (by kernel_rfl) ?_ (fun hHeld => ?_)
    · (exact CE.out _ (by first | exact B1.out | exact B0.out))
    refine wpAnyH_take (i := 0) (v := ?_) rfl (by kernel_rfl) (by kernel_rfl) (by kernel_rfl) (fun _ _ _ h => h) (Or.inl ⟨by kernel_rfl, ?_⟩) (by assumption) ?_
    rotate_left
    · (intro wS hSw; (try dsimp only at hSw); go_simp <;> with_reducible rfl)
    try simp only [Act.put, tkS]
    refine wpAnyH_take (i := 1) (v := ?_) rfl (by kernel_rfl) (by kernel_rfl) (by kernel_rfl) (fun _ _ _ h => h) (Or.inl ⟨by kernel_rfl, ?_⟩) (by assumption) ?_
    rotate_left
    · (intro wS hSw; (try dsimp only at hSw); go_simp <;> with_reducible rfl)
    try simp only [Act.put, tkS]
    refine wpAnyH_take (i := 2) (v := ?_) rfl (by kernel_rfl) (by kernel_rfl) (by kernel_rfl) (fun _ _ _ h => h) (Or.inl ⟨by kernel_rfl, ?_⟩) (by assumption) ?_
    rotate_left
    · (intro wS hSw; (try dsimp only at hSw); go_simp <;> with_reducible rfl)
    try simp only [Act.put, tkS]
    refine wpAnyH_take (i := 3) (v := ?_) rfl (by kernel_rfl) (by kernel_rfl) (by kernel_rfl) (fun _ _ _ h => h) (Or.inl ⟨by kernel_rfl, ?_⟩) (by assumption) ?_
    rotate_left
    · (intro wS hSw; (try dsimp only at hSw); go_simp <;> with_reducible rfl)
    try simp only [Act.put, tkS]
    refine wpAnyH_take (i := 4) (v := ?_) rfl (by kernel_rfl) (by kernel_rfl) (by kernel_rfl) (fun _ _ _ h => h) (Or.inl ⟨by kernel_rfl, ?_⟩) (by assumption) ?_
    rotate_left
    · (intro wS hSw; (try dsimp only at hSw); go_simp <;> with_reducible rfl)
    try simp only [Act.put, tkS]
    refine wpAnyH_take (i := 5) (v := ?_) rfl (by kernel_rfl) (by kernel_rfl) (by kernel_rfl) (fun _ _ _ h => h) (Or.inl ⟨by kernel_rfl, ?_⟩) (by assumption) ?_
    rotate_left
    · (intro wS hSw; (try dsimp only at hSw); go_simp <;> with_reducible rfl)
    try simp only [Act.put, tkS]
    refine wpAnyH_take (i := 6) (v := ?_) rfl (by kernel_rfl) (by kernel_rfl) (by kernel_rfl) (fun _ _ _ h => h) (Or.inl ⟨by kernel_rfl, ?_⟩) (by assumption) ?_
    rotate_left
    · (intro wS hSw; (try dsimp only at hSw); go_simp <;> with_reducible rfl)
    try simp only [Act.put, tkS]
    refine wpAnyH_take (i := 7) (v := ?_) rfl (by kernel_rfl) (by kernel_rfl) (by kernel_rfl) (fun _ _ _ h => h) (Or.inl ⟨by kernel_rfl, ?_⟩) (by assumption) ?_
    rotate_left
    · (intro wS hSw; (try dsimp only at hSw); go_simp <;> with_reducible rfl)
    try simp only [Act.put, tkS]
    refine wpAnyH_take (i := 8) (v := ?_) rfl (by kernel_rfl) (by kernel_rfl) (by kernel_rfl) (fun _ _ _ h => h) (Or.inl ⟨by kernel_rfl, ?_⟩) (by assumption) ?_
    rotate_left
    · (intro wS hSw; (try dsimp only at hSw); go_simp <;> with_reducible rfl)
    try simp only [Act.put, tkS]
    refine wpAnyH_take (i := 9) (v := ?_) rfl (by kernel_rfl) (by kernel_rfl) (by kernel_rfl) (fun _ _ _ h => h) (Or.inl ⟨by kernel_rfl, ?_⟩) (by assumption) ?_
    rotate_left
    · (intro wS hSw; (try dsimp only at hSw); go_simp <;> with_reducible rfl)
    try simp only [Act.put, tkS]
    refine wpAnyH_ready (rs := [10]) (by kernel_rfl) (by simp) (AllReadyH.cons rfl (fun K hK => ?_) AllReadyH.nil)
    go_simp
    (go_at_call 13; refine (SD.out _ B0.out).mono ?_; rintro e w1 ⟨rfl, hB1⟩; have B1 : Hid (Below wr.heap.size wr w1) := B0.out.trans (hB1.mono B0.out.size); clear hB1)
    refine hK.out _ _ ?_ (fun hHeld => ?_)
    · (exact CE.out _ (by first | exact B1.out | exact B0.out))
    clear hK K
    try simp only [Act.put, tkS]
    refine wpAnyH_take (i := 11) (v := ?_) rfl (by kernel_rfl) (by kernel_rfl) (by kernel_rfl) (fun _ _ _ h => h) (Or.inl ⟨by kernel_rfl, ?_⟩) (by assumption) ?_
    rotate_left
    · (intro wS hSw; (try dsimp only at hSw); go_simp <;> with_reducible rfl)
    try simp only [Act.put, tkS]
    refine wpAnyH_done (by kernel_rfl) ?_ _
    have HR2 := Lib.hid (HR.out.later B1.out)
    clear x1
    go_wp2_with fail
    go_roundg (n - (k + 1))
    case measure => have := HKG.out; omega
    case rel => exact ⟨k + 1, by have := HKG.out; omega, by go_num, HR2⟩
#print axioms atVS
#print axioms sameRowT
end Go.Proofs.Ytajhjjpanjpfoaa
