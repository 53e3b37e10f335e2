import Derived.Test.YtlbcaaodkggohaaGreatDoorZbg
import Derived.Test.YtlbcaaodkggohaaGreatDoorZbh
import Derived.Test.YtlbcaaodkggohaaGreatDoorZao
import Derived.Test.YtlbcaaodkggohaaGreatDoorZah
import Derived.Test.YtlbcaaodkggohaaGreatDoorZaj
namespace Go.Proofs.YtlbcaaodkggohaaGreatDoor
open Go.RowKit
set_option linter.unusedSimpArgs false
def plL : List Tb := [plT 0, plT 1, plT 2]
theorem plL_at : ∀ t (h : t < plL.length), plL[t] = plT t
 | 0, _ => rfl
 | 1, _ => rfl
 | 2, _ => rfl
 | t + 3, h => absurd h (by simp [plL])
theorem rd_cols {w : World} {B : Nat → Prop} {q : Option Addr} {L : List Cl} (h : Cols w B q L) (cp : Nat) : Rd w B (dColumnS L) (.slice q L.length cp) := by
 refine ⟨q, cp, rfl, ?_⟩
 by_cases h0 : L.length = 0
 ·
  exact .inl h0
 obtain ⟨b, off, e, hb, hc⟩ := h.at 0 (by omega); refine .inr ⟨b, off, e, hb, by omega, fun i j hi hj => ?_⟩; obtain ⟨c0, c1, c2, c3, c4, c5, c6, c7⟩ := hc i hi; rw [lsF_at hi]
 match j, hj with
 | 0, _ => exact ⟨_, c0, rfl⟩
 | 1, _ => exact ⟨_, c1, rfl⟩
 | 2, _ => exact ⟨_, c2, rfl⟩
 | 3, _ => exact ⟨_, c3, rfl⟩
 | 4, _ => exact ⟨_, c4, rfl⟩
 | 5, _ => exact ⟨_, c5, rfl⟩
 | 6, _ => exact ⟨_, c6, rfl⟩
 | 7, _ => exact ⟨_, c7, rfl⟩
theorem rd_ints {w : World} {B : Nat → Prop} {q : Option Addr} {L : List Int} (h : Ints w B q L) (cp : Nat) : Rd w B (dIntS L) (.slice q L.length cp) := by
 refine ⟨q, cp, rfl, ?_⟩
 by_cases h0 : L.length = 0
 ·
  exact .inl h0
 obtain ⟨b, off, e, hb, hc⟩ := h.at 0 (by omega); refine .inr ⟨b, off, e, hb, by omega, fun i j hi hj => ?_⟩; obtain rfl : j = 0 := by omega
 rw [lsF_at hi]; exact ⟨_, by rw [Nat.mul_one, Nat.add_zero]; exact hc i hi, rfl⟩
theorem plain_le : (dTableS plL).le 1048576 := Ls_le.2 ⟨by omega, by decide, fun t ht j hj => by
 have hx : ∀ (L : List Cl), L.length ≤ 6 → (∀ x ∈ L, x.nm.length ≤ 40 ∧ x.rf.length ≤ 40 ∧ iOK x.k ∧ iOK x.mn ∧ iOK x.mx ∧ iOK x.lo ∧ iOK x.hi) → (dColumnS L).le 1048576 := fun L h1 h2 => Ls_le.2 ⟨by omega, by omega, fun i hi j hj => by
  obtain ⟨e1, e2, e3, e4, e5, e6, e7⟩ := h2 _ (List.getElem_mem hi)
  match j, hj with
  | 0, _ => show _ ≤ _; omega
  | 1, _ => exact e3
  | 2, _ => exact e4
  | 3, _ => exact e5
  | 4, _ => exact e6
  | 5, _ => exact e7
  | 6, _ => show _ ≤ _; omega
  | 7, _ => trivial⟩
 have hi : ∀ (L : List Int), L.length ≤ 6 → (∀ x ∈ L, iOK x) → (dIntS L).le 1048576 := fun L h1 h2 => Ls_le.2 ⟨by omega, by omega, fun i hi j hj => by
  obtain rfl : j = 0 := by omega
  exact h2 _ (List.getElem_mem hi)⟩
 rw [plL_at]
 match t, ht, j, hj with
 | 0, _, 0, _ => show (plT 0).nm.length ≤ 1048576; simp [plT]
 | 0, _, 1, _ => show (dColumnS (plT 0).cols).le 1048576; exact hx _ (by decide) (by simp [plT, iOK]; decide)
 | 0, _, 2, _ => show (dIntS (plT 0).uq).le 1048576; exact hi _ (by decide) (by simp [plT, iOK])
 | 0, _, 3, _ => trivial
 | 1, _, 0, _ => show (plT 1).nm.length ≤ 1048576; simp [plT]
 | 1, _, 1, _ => show (dColumnS (plT 1).cols).le 1048576; exact hx _ (by decide) (by simp [plT, iOK]; decide)
 | 1, _, 2, _ => show (dIntS (plT 1).uq).le 1048576; exact hi _ (by decide) (by simp [plT, iOK]; decide)
 | 1, _, 3, _ => trivial
 | 2, _, 0, _ => show (plT 2).nm.length ≤ 1048576; simp [plT]
 | 2, _, 1, _ => show (dColumnS (plT 2).cols).le 1048576; exact hx _ (by decide) (by simp [plT, iOK]; decide)
 | 2, _, 2, _ => show (dIntS (plT 2).uq).le 1048576; exact hi _ (by decide) (by simp [plT, iOK]; decide)
 | 2, _, 3, _ => trivial⟩
theorem plain_right : schB plL = true := sch_yes ⟨by decide, fun i h => by rw [plL_at]; exact tab_yes (plT_tab i h).1, fun i h => by
  match i, h with
  | 0, _ => show Op.bytesLess (plT 0).nm (plT 1).nm = true; decide
  | 1, _ => show Op.bytesLess (plT 1).nm (plT 2).nm = true; decide
  | i + 2, h => exact absurd h (by simp [plL]), fun i h k hk hr => by
  rw [plL_at] at hk; simp only [plL_at] at hr ⊢
  match i, h, k, hk with
  | 0, _, 0, _ => exact absurd rfl hr
  | 0, _, 1, _ => exact ⟨1, by decide, rfl⟩
  | 0, _, k + 2, hk => exact absurd hk (by simp [plT])
  | 1, _, 0, _ => exact absurd rfl hr
  | 1, _, 1, _ => exact absurd rfl hr
  | 1, _, 2, _ => exact absurd rfl hr
  | 1, _, k + 3, hk => exact absurd hk (by simp [plT])
  | 2, _, 0, _ => exact absurd rfl hr
  | 2, _, 1, _ => exact absurd rfl hr
  | 2, _, 2, _ => exact ⟨1, by decide, rfl⟩
  | 2, _, k + 3, hk => exact absurd hk (by simp [plT])
  | i + 3, h, _, _ => exact absurd h (by simp [plL])⟩
def PlR (w : World) (e : Ending) (w' : World) : Prop := ∃ (sa : Option Addr) (sc : Nat), e = .returned (.agg #[.slice sa plL.length sc]) ∧ Rd w' (fun b => w.heap.size ≤ b ∧ b < w'.heap.size) (dTableS plL) (.slice sa plL.length sc) ∧ Below w.heap.size w w'
theorem plainR (w : World) : Calls Tryz.prog 4 #[] w (PlR w) := (plainS w).mono (fun e w' ⟨A, rb, cb, ub, he, ho, _, hin, hB⟩ => by
 refine ⟨some ⟨rb, 0, none⟩, 3, he, ⟨_, _, rfl, .inr ⟨rb, 0, rfl, hin rb (.inl rfl), by omega, fun t j ht hj => ?_⟩⟩, hB⟩; have h1 : Cols w' (fun b => w.heap.size ≤ b ∧ b < w'.heap.size) (A t).ca (plT t).cols := Rw.same (OwnRw.rw (ho.cols t ht)) (fun _ _ => rfl) (fun b hb => hin b (.inr ⟨t, ht, .inl hb⟩)); have h2 : Ints w' (fun b => w.heap.size ≤ b ∧ b < w'.heap.size) (A t).ua (plT t).uq := Rw.same (OwnRw.rw (ho.ints t ht)) (fun _ _ => rfl) (fun b hb => hin b (.inr ⟨t, ht, .inr hb⟩)); obtain ⟨b, off, e, -, hc⟩ := Rw.at (OwnRw.rw ho.row) (t * 4) (Nat.mul_lt_mul_of_pos_right ht (by omega))
 cases e
 have g : ∀ j, j < 4 → w'.cell? ⟨rb, 0 + t * 4 + j, none⟩ = some ((tbC (plT t) (A t)).getD j undef) := fun j hj => by
  rw [Nat.add_assoc, hc _ (spot_lt ht hj), tF_at _ _ _ _ hj]
 rw [lsF_at (l := plL) ht, plL_at]
 match j, hj with
 | 0, _ => exact ⟨_, g 0 (by omega), rfl⟩
 | 1, _ => exact ⟨_, g 1 (by omega), rd_cols h1 _⟩
 | 2, _ => exact ⟨_, g 2 (by omega), rd_ints h2 _⟩
 | 3, _ => exact ⟨_, g 3 (by omega), rfl⟩)
theorem SQ.opAt {w : World} {base : Nat} {G : Nat → Prop} {L : List OpV} {a : Option Addr} {c : Nat} (h : SQ w base G 36 8 (lsF dOp L) CapQ L.length (.slice a L.length c)) {k : Nat} (hk : k < L.length) :
  ∃ (b : Nat) (a3 : Option Addr) (c3 : Nat) (a4 : Option Addr) (c4 : Nat) (a5 : Option Addr) (c5 : Nat) (a6 : Option Addr) (c6 : Nat), a = some ⟨b, 0, none⟩ ∧ L[k].row.length ≤ c4 ∧
   w.cell? ⟨b, k * 8, none⟩ = some (.int .i64 L[k].kd) ∧ w.cell? ⟨b, k * 8 + 1, none⟩ = some (.string ⟨L[k].tb.toArray⟩) ∧ w.cell? ⟨b, k * 8 + 2, none⟩ = some (.string ⟨L[k].nm.toArray⟩) ∧ w.cell? ⟨b, k * 8 + 3, none⟩ = some (.slice a3 L[k].wh.length c3) ∧ w.cell? ⟨b, k * 8 + 4, none⟩ = some (.slice a4 L[k].row.length c4) ∧ w.cell? ⟨b, k * 8 + 5, none⟩ = some (.slice a5 L[k].mu.length c5) ∧ w.cell? ⟨b, k * 8 + 6, none⟩ = some (.slice a6 L[k].cs.length c6) ∧ w.cell? ⟨b, k * 8 + 7, none⟩ = some (.bool L[k].un) ∧
   Rd w (· < w.heap.size) (dCondS L[k].wh) (.slice a3 L[k].wh.length c3) ∧ Rd w (· < w.heap.size) (dSetS L[k].row) (.slice a4 L[k].row.length c4) ∧ Rd w (· < w.heap.size) (dMutS L[k].mu) (.slice a5 L[k].mu.length c5) ∧ Rd w (· < w.heap.size) (dStringS L[k].cs) (.slice a6 L[k].cs.length c6) := by
 obtain ⟨xs, h1, h2⟩ := h; rcases h1.2 with ⟨-, h0⟩ | ⟨g, cap, cur, e, hg, hh, r1, r2, r3, r4⟩
 ·
  omega
 simp only [Value.slice.injEq, true_and] at e; obtain ⟨rfl, rfl⟩ := e
 have g8 : ∀ j, j < 8 → ∃ u, w.cell? ⟨g, k * 8 + j, none⟩ = some u ∧ CapQ k j u ∧ Rd w (· < w.heap.size) (dOp L[k] j) u := fun j hj => by
  obtain ⟨u, hu, hq, hr⟩ := h2 k j hk hj; rw [lsF_at hk] at hr; have hlt : k * 8 + j < L.length * 8 := spot_lt hk hj; refine ⟨u, ?_, hq, hr.mono (fun c hc => hc.1.2)⟩; rw [← r4, List.getElem?_take_of_lt hlt, Array.getElem?_toList] at hu; simp [World.cell?, hh, hu]
 obtain ⟨u0, d0, -, q0⟩ := g8 0 (by omega); obtain ⟨u1, d1, -, q1⟩ := g8 1 (by omega); obtain ⟨u2, d2, -, q2⟩ := g8 2 (by omega); obtain ⟨u3, d3, -, q3⟩ := g8 3 (by omega); obtain ⟨u4, d4, z4, q4⟩ := g8 4 (by omega); obtain ⟨u5, d5, -, q5⟩ := g8 5 (by omega); obtain ⟨u6, d6, -, q6⟩ := g8 6 (by omega); obtain ⟨u7, d7, -, q7⟩ := g8 7 (by omega); obtain rfl : u0 = .int .i64 L[k].kd := q0; obtain rfl : u1 = .string ⟨L[k].tb.toArray⟩ := q1; obtain rfl : u2 = .string ⟨L[k].nm.toArray⟩ := q2; obtain rfl : u7 = .bool L[k].un := q7; replace q3 : Rd w (· < w.heap.size) (dCondS L[k].wh) u3 := q3; replace q4 : Rd w (· < w.heap.size) (dSetS L[k].row) u4 := q4; replace q5 : Rd w (· < w.heap.size) (dMutS L[k].mu) u5 := q5; replace q6 : Rd w (· < w.heap.size) (dStringS L[k].cs) u6 := q6; obtain ⟨a3, c3, rfl⟩ := q3.lsSlice; obtain ⟨a4, c4, rfl⟩ := q4.lsSlice; obtain ⟨a5, c5, rfl⟩ := q5.lsSlice; obtain ⟨a6, c6, rfl⟩ := q6.lsSlice; obtain ⟨_, _, _, e4, h4⟩ := z4 rfl; simp only [Value.slice.injEq] at e4; obtain ⟨-, rfl, rfl⟩ := e4; exact ⟨g, a3, c3, a4, c4, a5, c5, a6, c6, rfl, h4, d0, d1, d2, d3, d4, d5, d6, d7, q3, q4, q5, q6⟩
def tplC : List Tb → List UInt8 → Int
 | [], _ => -1
 | t :: l, s => if t.nm = s then 0 else if tplC l s < 0 then -1 else tplC l s + 1
theorem tpl_at {s : List UInt8} : ∀ {l : List Tb} {k : Nat} (h : k < l.length), l[k].nm = s → (∀ m (h : m < l.length), m < k → l[m].nm ≠ s) → tplC l s = k
 | r :: l, 0, _, e, _ => by
  have e' : r.nm = s := e; simp [tplC, e']
 | r :: l, k + 1, h, e, hn => by
  have h0 : r.nm ≠ s := hn 0 (by simp) (by omega); have ih := tpl_at (l := l) (k := k) (by simpa using h) (by simpa using e) (fun m hm hk => by have := hn (m + 1) (by simpa using hm) (by omega); simpa using this); simp only [tplC, if_neg h0, ih]; rw [if_neg (by omega)]; omega
theorem tpl_none {s : List UInt8} : ∀ {l : List Tb}, (∀ m (h : m < l.length), l[m].nm ≠ s) → tplC l s = -1
 | [], _ => rfl
 | r :: l, hn => by
  have h0 : r.nm ≠ s := hn 0 (by simp); have ih := tpl_none (l := l) (fun m hm => by have := hn (m + 1) (by simpa using hm); simpa using this); simp [tplC, if_neg h0, ih]
theorem tpl_rng (s : List UInt8) : ∀ l : List Tb, tplC l s = -1 ∨ ∃ k : Nat, ∃ h : k < l.length, tplC l s = k ∧ l[k].nm = s
 | [] => .inl rfl
 | r :: l => by
  by_cases h0 : r.nm = s
  ·
   exact .inr ⟨0, by simp, by simp [tplC, h0], h0⟩
  ·
   rcases tpl_rng s l with h | ⟨k, hk, h, e⟩
   ·
    exact .inl (by simp [tplC, if_neg h0, h])
   ·
    refine .inr ⟨k + 1, by simpa using hk, ?_, by simpa using e⟩; simp only [tplC, if_neg h0, h]; rw [if_neg (by omega)]; omega
set_option maxRecDepth 100000 in
set_option maxHeartbeats 3200000 in
theorem findTS (l : List Tb) (s : List UInt8) (sa : Option Addr) (sc : Nat) (A : Nat → Prop) (w : World) (hlo : (dTableS l).le maxLen) (hT : Rd w A (dTableS l) (.slice sa l.length sc)) :
  Calls Tryz.prog 47 #[.agg #[.slice sa l.length sc], .string ⟨s.toArray⟩] w fun e w' => e = .returned (.int .i64 (tplC l s)) ∧ Below w.heap.size w w' := by
 have hll : l.length ≤ maxLen := (Ls_le.1 hlo).2.1; unfold maxLen at hll; have HT : Hid (∀ W, Below w.heap.size w W → Rd W A (Ls 4 dTable l) (.slice sa l.length sc)) := fun W h => Rd.later hT h
 have HX := Lib.hid (boxD 25 w #[.slice sa l.length sc]); clear hlo hT; (go_enter Tryz.func47, Tryz.ntmps47); have x0 := cell_at (o := 0) HX.out.1 rfl; (go_wp2_with fail); clear x0; go_loopw [5] (fun i wr => ∃ k : Nat, k ≤ l.length ∧ i = .int .i64 k ∧ Hid ((∀ m (h : m < l.length), m < k → l[m].nm ≠ s) ∧ BoxD 25 w wr #[.slice sa l.length sc])) (fun i _ => l.length - (intOf i).toNat)
 case atStart => exact ⟨0, Nat.zero_le _, rfl, fun m _ h => absurd h (by omega), HX.out⟩
 case round =>
  obtain ⟨k, hk, rfl, HW⟩ := hrel; have x0 := cell_at (o := 0) HW.out.2.1 rfl
  by_cases hlt : k < l.length
  ·
   have hki : (k : Int) < (l.length : Int) := by omega
   obtain ⟨b, off, rfl, -, hc⟩ := (HT.out _ HW.out.2.2).things k hlt; obtain ⟨u0, c0, r0⟩ := hc 0 (by omega); obtain rfl : u0 = .string ⟨l[k].nm.toArray⟩ := r0; rw [Nat.add_zero] at c0; clear hc
   by_cases he : l[k].nm = s
   ·
    have HP : Hid (tplC l s = k) := tpl_at hlt he (fun j h hj => HW.out.1 j h hj); rw [he] at c0; clear he; (go_wp2_with fail); go_ret; exact ⟨ret_i HP.out.symm, HW.out.2.2⟩
   ·
    have HN : Hid (∀ m (h : m < l.length), m < k + 1 → l[m].nm ≠ s) := fun m h hm => by
     by_cases e : m = k
     ·
      subst e; exact he
     ·
      exact HW.out.1 m h (by omega)
    have hne : (l[k].nm == s) = false := by simpa using he
    clear he; generalize l[k] = x at *; (go_wp2_with fail); go_roundw
    case rel => exact ⟨k + 1, by omega, by go_num, HN.out, HW.out.2⟩
    case measure => simp [intOf]; omega
  ·
   have HP : Hid (tplC l s = -1) := tpl_none (fun m h => HW.out.1 m h (by omega)); have hki : decide ((k : Int) < (l.length : Int)) = false := by simp; omega
   (go_wp2_with fail); go_ret; exact ⟨ret_i HP.out.symm, HW.out.2.2⟩
end Go.Proofs.YtlbcaaodkggohaaGreatDoor
