import Derived.Test.YtlddhbamcndggaaGreatDoorZaf
import Derived.Test.YtlddhbamcndggaaGreatDoorZbu
import Derived.Test.YtlddhbamcndggaaGreatDoorZad
import Derived.Test.YtlddhbamcndggaaGreatDoorZae
namespace Go.Proofs.YtlddhbamcndggaaGreatDoor
open Go.RowKit
set_option linter.unusedSimpArgs false
set_option maxRecDepth 100000 in
set_option maxHeartbeats 6400000 in
theorem mkDRowS (l : List RowV) (a : Option Addr) (c k : Nat) (B : Nat → Prop) (w : World) (ho : (dRowS l).le maxLen) (h0 : 0 < k) (h1 : k + (dRowS l).wd < 100000000000) (hS : Own w (dRowS l) B (.slice a l.length c)) :
  Calls Tryz.prog 19 #[.slice a l.length c, .int .i64 k] w fun e w' => e = .returned (.int .i64 (k + (dRowS l).wd : Nat)) ∧ Own w' ((dRowS l).mkd k) B (.slice a l.length c) ∧ Frm B w w' := by
 have hl : l.length ≤ maxLen := (Ls_le.1 ho).2.1
 unfold maxLen at hl
 have HX : Hid (∀ i (h : i < l.length) j, j < 2 → (dRow l[i] j).le maxLen) := (Ls_le.1 ho).2.2
 have HWD : Hid (∀ i j, i < l.length → j ≤ 2 → k ≤ atN (lsF dRow l) 2 k i j ∧ atN (lsF dRow l) 2 k i j < 100000000000) := fun i j hi hj => ⟨atN_ge _ _ _ _ _, Nat.lt_of_le_of_lt (atN_le hi hj) h1⟩
 have HAL : Hid (atN (lsF dRow l) 2 k l.length 0 = k + (dRowS l).wd) := atN_all _ _ _ _
 have HS : Hid (l.length = 0 ∨ ∃ b off X, a = some ⟨b, off, none⟩ ∧ MS w w 2 l.length (lsF dRow l) k B b off X 0 0) := by
  obtain ⟨a', c', e, hO⟩ := Own.open hS
  simp only [Value.slice.injEq] at e
  obtain ⟨rfl, -, -⟩ := e
  exact hO.imp id (fun ⟨b, off, X, ha, h⟩ => ⟨b, off, X, ha, MS.start h⟩)
 have H0 := Lib.hid h0
 clear hS ho h1 h0
 go_enter Tryz.func19, Tryz.ntmps19
 go_wp2_with fail
 go_loopw [1, 5] (fun q i wr => ∃ m kk : Nat, m ≤ l.length ∧ i = .int .i64 m ∧ q = .int .i64 (kk : Int) ∧ Hid (atN (lsF dRow l) 2 k m 0 = kk ∧ ((l.length = 0 ∧ wr = w) ∨ ∃ b off X, a = some ⟨b, off, none⟩ ∧ MS w wr 2 l.length (lsF dRow l) k B b off X m 0))) (fun _ i _ => l.length - (intOf i).toNat)
 case atStart => exact ⟨0, k, Nat.zero_le _, rfl, rfl, atN_zero _ _ _, HS.out.imp (fun h => ⟨h, rfl⟩) id⟩
 case round =>
  obtain ⟨m, kk, hm, rfl, rfl, HR⟩ := hrel
  by_cases hlt : m < l.length
  case neg =>
   have hm' : m = l.length := by omega
   have hmi : decide ((m : Int) < (l.length : Int)) = false := decide_eq_false (by omega)
   have HF : Hid ((kk : Int) = ((k + (dRowS l).wd : Nat) : Int) ∧ Own wr ((dRowS l).mkd k) B (.slice a l.length c) ∧ Frm B w wr) := by
    obtain ⟨hk, h⟩ := HR.out
    have hal := HAL.out
    rw [hm'] at hk
    rw [hk] at hal
    refine ⟨by rw [hal], ?_⟩
    rcases h with ⟨h, rfl⟩ | ⟨b, off, X, rfl, h⟩
    ·
     exact ⟨⟨a, c, rfl, .inl h⟩, Frm.refl _ _⟩
    ·
     rw [hm'] at h
     exact ⟨h.done c, h.frm⟩
   clear hm' HR
   go_wp2_with fail
   go_ret
   exact ⟨ret_i HF.out.1, HF.out.2⟩
  obtain ⟨hk0, hz⟩ := HR.out
  clear HS HR
  obtain ⟨b, off, X, rfl, h⟩ : ∃ b off X, a = some ⟨b, off, none⟩ ∧ MS w wr 2 l.length (lsF dRow l) k B b off X m 0 := by
   rcases hz with ⟨h, -⟩ | h
   ·
    omega
   ·
    exact h
  clear hz
  have M0 := Lib.hid h
  have HFA : Hid (lsF dRow l m = dRow l[m]) := lsF_at hlt
  have N0 := Lib.hid hk0
  have HXK := Lib.hid (HX.out m hlt)
  have HM := Lib.hid hlt
  have hmi : (m : Int) < (l.length : Int) := by omega
  have hb : kk < 100000000000 ∧ 0 < kk := by have h1 := HWD.out m 0 hlt (by omega); have := H0.out; rw [hk0] at h1; omega
  obtain ⟨hb0, hp0⟩ := hb
  clear h hk0 HX
  generalize l[m] = x at *
  obtain ⟨u0, e0, z0, o0⟩ := M0.out.peek HFA.out HM.out (j' := 0) (by omega) (by omega)
  clear o0
  replace e0 : wr.cell? ⟨b, off + m * 2, none⟩ = _ := e0
  replace z0 : wr.frozen? ⟨b, off + m * 2, none⟩ = false := z0
  obtain ⟨u1, e1, z1, o1⟩ := M0.out.peek HFA.out HM.out (j' := 1) (by omega) (by omega)
  replace o1 : Own wr (dAtomSS x.cells) (X m 1) u1 := o1
  obtain ⟨a1, q1, rfl⟩ := o1.rd'.lsSlice
  have O1 := Lib.hid o1
  clear o1
  have M1 : Hid (MS w (wr.setCell ⟨b, off + m * 2, none⟩ (.int .i64 ((kk : Int)))) 2 l.length (lsF dRow l) k B b off X m 1) := M0.out.scalar (x := .i x.id) (q := kk) HM.out (by omega) (by rw [HFA.out]; rfl) N0.out.symm trivial rfl (by omega)
  have N1 : Hid (atN (lsF dRow l) 2 k m 1 = kk + 1) := atN_next HFA.out N0.out
  have hbd1 : kk + 1 < 100000000000 ∧ 0 < kk + 1 := by have h1 := HWD.out m 1 HM.out (by omega); have := H0.out; rw [N1.out] at h1; omega
  go_wp2_with fail
  rw [show ((kk : Int) + 1) = ((kk + 1 : Nat) : Int) from rfl]
  have FR1 : Frm (· = b) wr (wr.setCell ⟨b, off + m * 2, none⟩ (.int .i64 ((kk : Int)))) := by
   refine Frm.set (B := (· = b)) ?_ rfl _
   exact Frm.refl _ _
  have CC := Lib.hid (mkDAtomSS x.cells a1 q1 (kk + 1) (X m 1) _ (HXK.out 1 (by omega)) hbd1.2 (by have h1 := HWD.out m 2 HM.out (by omega); rw [atN_next HFA.out N1.out] at h1; exact h1.2) (O1.out.frm FR1 (fun c hc => (M0.out.own.sub m 1 c hc).2)))
  clear FR1
  refine CC.out.mono ?_
  rintro e v1 ⟨rfl, ho1, hF1⟩
  have K1 : Hid (MS w v1 2 l.length (lsF dRow l) k B b off X m 2) := M1.out.child (x := dAtomSS x.cells) HM.out (by omega) (by rw [HFA.out]; rfl) N1.out.symm hF1 (cell_skip e1 (by omega)) ho1
  have N2 : Hid (atN (lsF dRow l) 2 k m 2 = kk + 1 + (dAtomSS x.cells).wd) := atN_next HFA.out N1.out
  clear CC ho1 hF1 O1 M1 hbd1 e0 z0 e1 z1
  obtain ⟨b1, hb1⟩ : ∃ y : Nat, y = kk + 1 + (dAtomSS x.cells).wd := ⟨_, rfl⟩
  rw [← hb1] at N2 ⊢
  have hlb1 : 0 < b1 ∧ b1 < 100000000000 := by have h1 := HWD.out m 2 HM.out (by omega); have := H0.out; rw [N2.out] at h1; omega
  obtain ⟨hlb11, hlb12⟩ := hlb1
  clear hb1
  go_wp2_with fail
  go_roundw
  case rel => exact ⟨m + 1, b1, by omega, by go_num, rfl, by rw [atN_row]; exact N2.out, .inr ⟨b, off, X, rfl, K1.out.row⟩⟩
  case measure => simp [intOf]; omega
set_option maxRecDepth 100000 in
set_option maxHeartbeats 6400000 in
theorem hdDRowS (l : List RowV) (a : Option Addr) (c k : Nat) (B : Nat → Prop) (w : World) (ho : (dRowS l).le maxLen) (h0 : 0 < k) (h1 : k + (dRowS l).wd < 100000000000) (hS : Rd w B ((dRowS l).mkd k) (.slice a l.length c)) :
  Calls Tryz.prog 20 #[.slice a l.length c, .int .i64 k] w fun e w' => e = .returned (.int .i64 (k + (dRowS l).wd : Nat)) ∧ Below w.heap.size w w' := by
 have hl : l.length ≤ maxLen := (Ls_le.1 ho).2.1
 unfold maxLen at hl
 have HX : Hid (∀ i (h : i < l.length) j, j < 2 → (dRow l[i] j).le maxLen) := (Ls_le.1 ho).2.2
 have HWD : Hid (∀ i j, i < l.length → j ≤ 2 → k ≤ atN (lsF dRow l) 2 k i j ∧ atN (lsF dRow l) 2 k i j < 100000000000) := fun i j hi hj => ⟨atN_ge _ _ _ _ _, Nat.lt_of_le_of_lt (atN_le hi hj) h1⟩
 have HAL : Hid (atN (lsF dRow l) 2 k l.length 0 = k + (dRowS l).wd) := atN_all _ _ _ _
 have HS : Hid (∀ W, Below w.heap.size w W → Rd W B (.l 2 l.length (fun i j => (lsF dRow l i j).mkd (atN (lsF dRow l) 2 k i j))) (.slice a l.length c)) := fun W h => Rd.later hS h
 have H0 := Lib.hid h0
 clear hS ho h1 h0
 go_enter Tryz.func20, Tryz.ntmps20
 go_wp2_with fail
 go_loopw [1, 5] (fun q i wr => ∃ m kk : Nat, m ≤ l.length ∧ i = .int .i64 m ∧ q = .int .i64 (kk : Int) ∧ Hid (atN (lsF dRow l) 2 k m 0 = kk ∧ Below w.heap.size w wr)) (fun _ i _ => l.length - (intOf i).toNat)
 case atStart => exact ⟨0, k, Nat.zero_le _, rfl, rfl, atN_zero _ _ _, Below.refl _ _⟩
 case round =>
  obtain ⟨m, kk, hm, rfl, rfl, HR⟩ := hrel
  by_cases hlt : m < l.length
  case neg =>
   have hm' : m = l.length := by omega
   have hmi : decide ((m : Int) < (l.length : Int)) = false := decide_eq_false (by omega)
   have HF : Hid ((kk : Int) = ((k + (dRowS l).wd : Nat) : Int) ∧ Below w.heap.size w wr) := by
    obtain ⟨hk, h⟩ := HR.out
    have hal := HAL.out
    rw [hm'] at hk
    rw [hk] at hal
    exact ⟨by rw [hal], h⟩
   clear hm' HR
   go_wp2_with fail
   go_ret
   exact ⟨ret_i HF.out.1, HF.out.2⟩
  obtain ⟨hk0, h⟩ := HR.out
  have B0 := Lib.hid h
  obtain ⟨b, off, rfl, -, -⟩ := (HS.out _ h).cells hlt
  have CE : Hid (∀ W, Below w.heap.size w W → ∀ j, j < 2 → ∃ u, W.cell? ⟨b, off + m * 2 + j, none⟩ = some u ∧ Rd W B ((dRow l[m] j).mkd (atN (lsF dRow l) 2 k m j)) u) := fun W h j hj => by
   have := (HS.out W h).spot hlt hj
   rwa [lsF_at hlt] at this
  have HFA : Hid (lsF dRow l m = dRow l[m]) := lsF_at hlt
  have N0 := Lib.hid hk0
  have HXK := Lib.hid (HX.out m hlt)
  have HM := Lib.hid hlt
  have hmi : (m : Int) < (l.length : Int) := by omega
  have hb : kk < 100000000000 ∧ 0 < kk := by have h1 := HWD.out m 0 hlt (by omega); have := H0.out; rw [hk0] at h1; omega
  obtain ⟨hb0, hp0⟩ := hb
  clear h hk0 HR HX HS
  generalize l[m] = x at *
  obtain ⟨u0, e0, o0⟩ := CE.out _ B0.out 0 (by omega)
  rw [N0.out] at o0
  obtain rfl : u0 = .int .i64 ((kk : Int)) := o0
  replace e0 : wr.cell? ⟨b, off + m * 2, none⟩ = _ := e0
  have N1 : Hid (atN (lsF dRow l) 2 k m 1 = kk + 1) := atN_next HFA.out N0.out
  have hbd1 : kk + 1 < 100000000000 ∧ 0 < kk + 1 := by have h1 := HWD.out m 1 HM.out (by omega); have := H0.out; rw [N1.out] at h1; omega
  obtain ⟨u1, e1, o1⟩ := CE.out _ B0.out 1 (by omega)
  rw [N1.out] at o1
  replace o1 : Rd wr B ((dAtomSS x.cells).mkd (kk + 1)) u1 := o1
  obtain ⟨a1, q1, hu1⟩ : ∃ a c, u1 = .slice a x.cells.length c := Rd.slice o1
  subst hu1
  have O1 := Lib.hid o1
  clear o1
  go_wp2_with fail
  rw [show ((kk : Int) + 1) = ((kk + 1 : Nat) : Int) from rfl]
  have CC := Lib.hid (hdDAtomSS x.cells a1 q1 (kk + 1) B _ (HXK.out 1 (by omega)) hbd1.2 (by have h1 := HWD.out m 2 HM.out (by omega); rw [atN_next HFA.out N1.out] at h1; exact h1.2) O1.out)
  refine CC.out.mono ?_
  rintro e v1 ⟨rfl, hB1⟩
  have B2 : Hid (Below w.heap.size w v1) := B0.out.trans (hB1.mono B0.out.size)
  have N2 : Hid (atN (lsF dRow l) 2 k m 2 = kk + 1 + (dAtomSS x.cells).wd) := atN_next HFA.out N1.out
  clear CC hB1 O1 hbd1 e0 e1
  obtain ⟨b1, hb1⟩ : ∃ y : Nat, y = kk + 1 + (dAtomSS x.cells).wd := ⟨_, rfl⟩
  rw [← hb1] at N2 ⊢
  have hlb1 : 0 < b1 ∧ b1 < 100000000000 := by have h1 := HWD.out m 2 HM.out (by omega); have := H0.out; rw [N2.out] at h1; omega
  obtain ⟨hlb11, hlb12⟩ := hlb1
  have dk1 : decide ((b1 : Int) < 0) = false := by simp
  clear hb1
  go_wp2_with fail
  go_roundw
  case rel => exact ⟨m + 1, b1, by omega, by go_num, rfl, by rw [atN_row]; exact N2.out, B2.out⟩
  case measure => simp [intOf]; omega
set_option maxRecDepth 100000 in
set_option maxHeartbeats 6400000 in
theorem mkDRowSS (l : List (List RowV)) (a : Option Addr) (c k : Nat) (B : Nat → Prop) (w : World) (ho : (dRowSS l).le maxLen) (h0 : 0 < k) (h1 : k + (dRowSS l).wd < 100000000000) (hS : Own w (dRowSS l) B (.slice a l.length c)) :
  Calls Tryz.prog 46 #[.slice a l.length c, .int .i64 k] w fun e w' => e = .returned (.int .i64 (k + (dRowSS l).wd : Nat)) ∧ Own w' ((dRowSS l).mkd k) B (.slice a l.length c) ∧ Frm B w w' := by
 have hl : l.length ≤ maxLen := (Ls_le.1 ho).2.1
 unfold maxLen at hl
 have HX : Hid (∀ i (h : i < l.length) j, j < 1 → (cRowS l[i] j).le maxLen) := (Ls_le.1 ho).2.2
 have HWD : Hid (∀ i j, i < l.length → j ≤ 1 → k ≤ atN (lsF cRowS l) 1 k i j ∧ atN (lsF cRowS l) 1 k i j < 100000000000) := fun i j hi hj => ⟨atN_ge _ _ _ _ _, Nat.lt_of_le_of_lt (atN_le hi hj) h1⟩
 have HAL : Hid (atN (lsF cRowS l) 1 k l.length 0 = k + (dRowSS l).wd) := atN_all _ _ _ _
 have HS : Hid (l.length = 0 ∨ ∃ b off X, a = some ⟨b, off, none⟩ ∧ MS w w 1 l.length (lsF cRowS l) k B b off X 0 0) := by
  obtain ⟨a', c', e, hO⟩ := Own.open hS
  simp only [Value.slice.injEq] at e
  obtain ⟨rfl, -, -⟩ := e
  exact hO.imp id (fun ⟨b, off, X, ha, h⟩ => ⟨b, off, X, ha, MS.start h⟩)
 have H0 := Lib.hid h0
 clear hS ho h1 h0
 go_enter Tryz.func46, Tryz.ntmps46
 go_wp2_with fail
 go_loopw [1, 5] (fun q i wr => ∃ m kk : Nat, m ≤ l.length ∧ i = .int .i64 m ∧ q = .int .i64 (kk : Int) ∧ Hid (atN (lsF cRowS l) 1 k m 0 = kk ∧ ((l.length = 0 ∧ wr = w) ∨ ∃ b off X, a = some ⟨b, off, none⟩ ∧ MS w wr 1 l.length (lsF cRowS l) k B b off X m 0))) (fun _ i _ => l.length - (intOf i).toNat)
 case atStart => exact ⟨0, k, Nat.zero_le _, rfl, rfl, atN_zero _ _ _, HS.out.imp (fun h => ⟨h, rfl⟩) id⟩
 case round =>
  obtain ⟨m, kk, hm, rfl, rfl, HR⟩ := hrel
  by_cases hlt : m < l.length
  case neg =>
   have hm' : m = l.length := by omega
   have hmi : decide ((m : Int) < (l.length : Int)) = false := decide_eq_false (by omega)
   have HF : Hid ((kk : Int) = ((k + (dRowSS l).wd : Nat) : Int) ∧ Own wr ((dRowSS l).mkd k) B (.slice a l.length c) ∧ Frm B w wr) := by
    obtain ⟨hk, h⟩ := HR.out
    have hal := HAL.out
    rw [hm'] at hk
    rw [hk] at hal
    refine ⟨by rw [hal], ?_⟩
    rcases h with ⟨h, rfl⟩ | ⟨b, off, X, rfl, h⟩
    ·
     exact ⟨⟨a, c, rfl, .inl h⟩, Frm.refl _ _⟩
    ·
     rw [hm'] at h
     exact ⟨h.done c, h.frm⟩
   clear hm' HR
   go_wp2_with fail
   go_ret
   exact ⟨ret_i HF.out.1, HF.out.2⟩
  obtain ⟨hk0, hz⟩ := HR.out
  clear HS HR
  obtain ⟨b, off, X, rfl, h⟩ : ∃ b off X, a = some ⟨b, off, none⟩ ∧ MS w wr 1 l.length (lsF cRowS l) k B b off X m 0 := by
   rcases hz with ⟨h, -⟩ | h
   ·
    omega
   ·
    exact h
  clear hz
  have M0 := Lib.hid h
  have HFA : Hid (lsF cRowS l m = cRowS l[m]) := lsF_at hlt
  have N0 := Lib.hid hk0
  have HXK := Lib.hid (HX.out m hlt)
  have HM := Lib.hid hlt
  have hmi : (m : Int) < (l.length : Int) := by omega
  have hb : kk < 100000000000 ∧ 0 < kk := by have h1 := HWD.out m 0 hlt (by omega); have := H0.out; rw [hk0] at h1; omega
  obtain ⟨hb0, hp0⟩ := hb
  clear h hk0 HX
  generalize l[m] = x at *
  obtain ⟨u0, e0, z0, o0⟩ := M0.out.peek HFA.out HM.out (j' := 0) (by omega) (by omega)
  replace o0 : Own wr (dRowS x) (X m 0) u0 := o0
  obtain ⟨a0, q0, rfl⟩ := o0.rd'.lsSlice
  have O0 := Lib.hid o0
  clear o0
  rw [Nat.mul_one] at e0 z0
  replace e0 : wr.cell? ⟨b, off + m, none⟩ = _ := e0
  replace z0 : wr.frozen? ⟨b, off + m, none⟩ = false := z0
  have hbd0 : kk < 100000000000 ∧ 0 < kk := by have h1 := HWD.out m 0 HM.out (by omega); have := H0.out; rw [N0.out] at h1; omega
  go_wp2_with fail
  have CC := Lib.hid (mkDRowS x a0 q0 (kk) (X m 0) _ (HXK.out 0 (by omega)) hbd0.2 (by have h1 := HWD.out m 1 HM.out (by omega); rw [atN_next HFA.out N0.out] at h1; exact h1.2) (O0.out))
  refine CC.out.mono ?_
  rintro e v0 ⟨rfl, ho0, hF0⟩
  have K0 : Hid (MS w v0 1 l.length (lsF cRowS l) k B b off X m 1) := M0.out.child (x := dRowS x) HM.out (by omega) (by rw [HFA.out]; rfl) N0.out.symm hF0 (by rw [Nat.mul_one]; exact e0) ho0
  have N1 : Hid (atN (lsF cRowS l) 1 k m 1 = kk + (dRowS x).wd) := atN_next HFA.out N0.out
  clear CC ho0 hF0 O0 M0 hbd0 e0 z0
  obtain ⟨b0, hb0⟩ : ∃ y : Nat, y = kk + (dRowS x).wd := ⟨_, rfl⟩
  rw [← hb0] at N1 ⊢
  have hlb0 : 0 < b0 ∧ b0 < 100000000000 := by have h1 := HWD.out m 1 HM.out (by omega); have := H0.out; rw [N1.out] at h1; omega
  obtain ⟨hlb01, hlb02⟩ := hlb0
  clear hb0
  go_wp2_with fail
  go_roundw
  case rel => exact ⟨m + 1, b0, by omega, by go_num, rfl, by rw [atN_row]; exact N1.out, .inr ⟨b, off, X, rfl, K0.out.row⟩⟩
  case measure => simp [intOf]; omega
set_option maxRecDepth 100000 in
set_option maxHeartbeats 3200000 in
theorem mkDStore (x : StV) (a0 : Option Addr) (c0 : Nat) (k : Nat) (B0 : Nat → Prop) (w : World) (l0 : (dRowSS x.tables).le maxLen) (h0 : 0 < k) (h1 : k + (dRowSS x.tables).wd < 100000000000) (o0 : Own w (dRowSS x.tables) B0 (.slice a0 x.tables.length c0)) :
  Calls Tryz.prog 17 #[.agg #[.slice a0 x.tables.length c0, .int .i64 x.next], .int .i64 k] w fun e w' => e = .returned (.int .i64 (k + (dRowSS x.tables).wd : Nat)) ∧ (Own w' ((dRowSS x.tables).mkd (k)) B0 (.slice a0 x.tables.length c0)) ∧ Frm (fun b => B0 b) w w' := by
 have hx := boxD 44 w #[.slice a0 x.tables.length c0, .int .i64 x.next]
 have F0 : Hid (Frm (fun b => B0 b) w (w.alloc (.cells #[.slice a0 x.tables.length c0, .int .i64 x.next] 44))) := Frm.of_below (below_allocD _ _)
 have O0 := Lib.hid (o0.later hx.2)
 have HX0 := Lib.hid hx
 have x0 := cell_at (o := 0) hx.1 rfl
 have x1 := cell_at (o := 1) hx.1 rfl
 have L0 := Lib.hid l0
 have HB := Lib.hid (And.intro h0 h1)
 clear hx h0 h1 o0 l0
 go_enter Tryz.func17, Tryz.ntmps17
 go_wp2_with fail
 refine (mkDRowSS x.tables a0 c0 (k) B0 _ L0.out (by have := HB.out; omega) (by have := HB.out; omega) O0.out).mono ?_
 rintro e v0 ⟨rfl, p0, f0⟩
 have Q0 := Lib.hid p0
 have F1 : Hid (Frm (fun b => B0 b) w v0) := F0.out.trans (f0.mono (fun b h => h))
 clear p0 f0 F0
 obtain ⟨b0, hb0⟩ : ∃ y : Nat, y = k + (dRowSS x.tables).wd := ⟨_, rfl⟩
 go_wp2_with fail
 go_ret
 exact ⟨rfl, Q0.out, F1.out⟩
end Go.Proofs.YtlddhbamcndggaaGreatDoor
namespace Go.Proofs.YtlddhbamcndggaaGreatDoor
open Go.RowKit
set_option linter.unusedSimpArgs false
set_option maxRecDepth 100000 in
set_option maxHeartbeats 6400000 in
theorem mkDCondS (l : List CondV) (a : Option Addr) (c k : Nat) (B : Nat → Prop) (w : World) (ho : (dCondS l).le maxLen) (h0 : 0 < k) (h1 : k + (dCondS l).wd < 100000000000) (hS : Own w (dCondS l) B (.slice a l.length c)) :
  Calls Tryz.prog 48 #[.slice a l.length c, .int .i64 k] w fun e w' => e = .returned (.int .i64 (k + (dCondS l).wd : Nat)) ∧ Own w' ((dCondS l).mkd k) B (.slice a l.length c) ∧ Frm B w w' := by
 have hl : l.length ≤ maxLen := (Ls_le.1 ho).2.1
 unfold maxLen at hl
 have HX : Hid (∀ i (h : i < l.length) j, j < 3 → (dCond l[i] j).le maxLen) := (Ls_le.1 ho).2.2
 have HWD : Hid (∀ i j, i < l.length → j ≤ 3 → k ≤ atN (lsF dCond l) 3 k i j ∧ atN (lsF dCond l) 3 k i j < 100000000000) := fun i j hi hj => ⟨atN_ge _ _ _ _ _, Nat.lt_of_le_of_lt (atN_le hi hj) h1⟩
 have HAL : Hid (atN (lsF dCond l) 3 k l.length 0 = k + (dCondS l).wd) := atN_all _ _ _ _
 have HS : Hid (l.length = 0 ∨ ∃ b off X, a = some ⟨b, off, none⟩ ∧ MS w w 3 l.length (lsF dCond l) k B b off X 0 0) := by
  obtain ⟨a', c', e, hO⟩ := Own.open hS
  simp only [Value.slice.injEq] at e
  obtain ⟨rfl, -, -⟩ := e
  exact hO.imp id (fun ⟨b, off, X, ha, h⟩ => ⟨b, off, X, ha, MS.start h⟩)
 have H0 := Lib.hid h0
 clear hS ho h1 h0
 go_enter Tryz.func48, Tryz.ntmps48
 go_wp2_with fail
 go_loopw [1, 5] (fun q i wr => ∃ m kk : Nat, m ≤ l.length ∧ i = .int .i64 m ∧ q = .int .i64 (kk : Int) ∧ Hid (atN (lsF dCond l) 3 k m 0 = kk ∧ ((l.length = 0 ∧ wr = w) ∨ ∃ b off X, a = some ⟨b, off, none⟩ ∧ MS w wr 3 l.length (lsF dCond l) k B b off X m 0))) (fun _ i _ => l.length - (intOf i).toNat)
 case atStart => exact ⟨0, k, Nat.zero_le _, rfl, rfl, atN_zero _ _ _, HS.out.imp (fun h => ⟨h, rfl⟩) id⟩
 case round =>
  obtain ⟨m, kk, hm, rfl, rfl, HR⟩ := hrel
  by_cases hlt : m < l.length
  case neg =>
   have hm' : m = l.length := by omega
   have hmi : decide ((m : Int) < (l.length : Int)) = false := decide_eq_false (by omega)
   have HF : Hid ((kk : Int) = ((k + (dCondS l).wd : Nat) : Int) ∧ Own wr ((dCondS l).mkd k) B (.slice a l.length c) ∧ Frm B w wr) := by
    obtain ⟨hk, h⟩ := HR.out
    have hal := HAL.out
    rw [hm'] at hk
    rw [hk] at hal
    refine ⟨by rw [hal], ?_⟩
    rcases h with ⟨h, rfl⟩ | ⟨b, off, X, rfl, h⟩
    ·
     exact ⟨⟨a, c, rfl, .inl h⟩, Frm.refl _ _⟩
    ·
     rw [hm'] at h
     exact ⟨h.done c, h.frm⟩
   clear hm' HR
   go_wp2_with fail
   go_ret
   exact ⟨ret_i HF.out.1, HF.out.2⟩
  obtain ⟨hk0, hz⟩ := HR.out
  clear HS HR
  obtain ⟨b, off, X, rfl, h⟩ : ∃ b off X, a = some ⟨b, off, none⟩ ∧ MS w wr 3 l.length (lsF dCond l) k B b off X m 0 := by
   rcases hz with ⟨h, -⟩ | h
   ·
    omega
   ·
    exact h
  clear hz
  have M0 := Lib.hid h
  have HFA : Hid (lsF dCond l m = dCond l[m]) := lsF_at hlt
  have N0 := Lib.hid hk0
  have HXK := Lib.hid (HX.out m hlt)
  have HM := Lib.hid hlt
  have hmi : (m : Int) < (l.length : Int) := by omega
  have hb : kk < 100000000000 ∧ 0 < kk := by have h1 := HWD.out m 0 hlt (by omega); have := H0.out; rw [hk0] at h1; omega
  obtain ⟨hb0, hp0⟩ := hb
  clear h hk0 HX
  generalize l[m] = x at *
  have hbd0 : kk < 100000000000 ∧ 0 < kk := by have h1 := HWD.out m 0 HM.out (by omega); have := H0.out; rw [N0.out] at h1; omega
  go_wp2_with fail
  refine (markText (kk) _ hbd0.2 (by have := hbd0.1; omega)).mono ?_
  rintro e v0 ⟨rfl, hB0⟩
  have K0 := Lib.hid (M0.out.later hB0)
  clear hB0 M0 hbd0
  obtain ⟨u0, e0, z0, o0⟩ := K0.out.peek HFA.out HM.out (j' := 0) (by omega) (by omega)
  clear o0
  replace e0 : v0.cell? ⟨b, off + m * 3, none⟩ = _ := e0
  replace z0 : v0.frozen? ⟨b, off + m * 3, none⟩ = false := z0
  obtain ⟨u1, e1, z1, o1⟩ := K0.out.peek HFA.out HM.out (j' := 1) (by omega) (by omega)
  clear o1
  obtain ⟨u2, e2, z2, o2⟩ := K0.out.peek HFA.out HM.out (j' := 2) (by omega) (by omega)
  replace o2 : Own v0 (dAtomS x.val) (X m 2) u2 := o2
  obtain ⟨a2, q2, rfl⟩ := o2.rd'.lsSlice
  have O2 := Lib.hid o2
  clear o2
  have M1 : Hid (MS w (v0.setCell ⟨b, off + m * 3, none⟩ (.string ⟨(mt (kk)).toArray⟩)) 3 l.length (lsF dCond l) k B b off X m 1) := K0.out.scalar (x := .s x.col) (q := kk) HM.out (by omega) (by rw [HFA.out]; rfl) N0.out.symm trivial rfl (by omega)
  have N1 : Hid (atN (lsF dCond l) 3 k m 1 = kk + 1) := atN_next HFA.out N0.out
  have M2 : Hid (MS w ((v0.setCell ⟨b, off + m * 3, none⟩ (.string ⟨(mt (kk)).toArray⟩)).setCell ⟨b, off + m * 3 + 1, none⟩ (.int .i64 ((kk : Int) + 1))) 3 l.length (lsF dCond l) k B b off X m 2) := M1.out.scalar (x := .i x.fn) (q := kk + 1) HM.out (by omega) (by rw [HFA.out]; rfl) N1.out.symm trivial rfl (by omega)
  have N2 : Hid (atN (lsF dCond l) 3 k m 2 = kk + 1 + 1) := atN_next HFA.out N1.out
  generalize mt (kk) = yt0 at *
  have hbd2 : kk + 1 + 1 < 100000000000 ∧ 0 < kk + 1 + 1 := by have h1 := HWD.out m 2 HM.out (by omega); have := H0.out; rw [N2.out] at h1; omega
  go_wp2_with fail
  rw [show ((kk : Int) + 1 + 1) = ((kk + 1 + 1 : Nat) : Int) from rfl]
  have FR2 : Frm (· = b) v0 ((v0.setCell ⟨b, off + m * 3, none⟩ (.string ⟨yt0.toArray⟩)).setCell ⟨b, off + m * 3 + 1, none⟩ (.int .i64 ((kk : Int) + 1))) := by
   refine Frm.set (B := (· = b)) ?_ rfl _
   refine Frm.set (B := (· = b)) ?_ rfl _
   exact Frm.refl _ _
  have CC := Lib.hid (mkDAtomS x.val a2 q2 (kk + 1 + 1) (X m 2) _ (HXK.out 2 (by omega)) hbd2.2 (by have h1 := HWD.out m 3 HM.out (by omega); rw [atN_next HFA.out N2.out] at h1; exact h1.2) (O2.out.frm FR2 (fun c hc => (K0.out.own.sub m 2 c hc).2)))
  clear FR2
  refine CC.out.mono ?_
  rintro e v2 ⟨rfl, ho2, hF2⟩
  have K2 : Hid (MS w v2 3 l.length (lsF dCond l) k B b off X m 3) := M2.out.child (x := dAtomS x.val) HM.out (by omega) (by rw [HFA.out]; rfl) N2.out.symm hF2 (cell_skip (cell_skip e2 (by omega)) (by omega)) ho2
  have N3 : Hid (atN (lsF dCond l) 3 k m 3 = kk + 1 + 1 + (dAtomS x.val).wd) := atN_next HFA.out N2.out
  clear CC ho2 hF2 O2 M2 hbd2 e0 z0 e1 z1 e2 z2
  obtain ⟨b2, hb2⟩ : ∃ y : Nat, y = kk + 1 + 1 + (dAtomS x.val).wd := ⟨_, rfl⟩
  rw [← hb2] at N3 ⊢
  have hlb2 : 0 < b2 ∧ b2 < 100000000000 := by have h1 := HWD.out m 3 HM.out (by omega); have := H0.out; rw [N3.out] at h1; omega
  obtain ⟨hlb21, hlb22⟩ := hlb2
  clear hb2
  go_wp2_with fail
  go_roundw
  case rel => exact ⟨m + 1, b2, by omega, by go_num, rfl, by rw [atN_row]; exact N3.out, .inr ⟨b, off, X, rfl, K2.out.row⟩⟩
  case measure => simp [intOf]; omega
end Go.Proofs.YtlddhbamcndggaaGreatDoor
namespace Go.Proofs.YtlddhbamcndggaaGreatDoor
open Go.RowKit
set_option linter.unusedSimpArgs false
set_option maxRecDepth 100000 in
set_option maxHeartbeats 6400000 in
theorem mkDStringS (l : List (List UInt8)) (a : Option Addr) (c k : Nat) (B : Nat → Prop) (w : World) (ho : (dStringS l).le maxLen) (h0 : 0 < k) (h1 : k + (dStringS l).wd < 100000000000) (hS : Own w (dStringS l) B (.slice a l.length c)) :
  Calls Tryz.prog 47 #[.slice a l.length c, .int .i64 k] w fun e w' => e = .returned (.int .i64 (k + (dStringS l).wd : Nat)) ∧ Own w' ((dStringS l).mkd k) B (.slice a l.length c) ∧ Frm B w w' := by
 have hl : l.length ≤ maxLen := (Ls_le.1 ho).2.1
 unfold maxLen at hl
 have HX : Hid (∀ i (h : i < l.length) j, j < 1 → (cString l[i] j).le maxLen) := (Ls_le.1 ho).2.2
 have HWD : Hid (∀ i j, i < l.length → j ≤ 1 → k ≤ atN (lsF cString l) 1 k i j ∧ atN (lsF cString l) 1 k i j < 100000000000) := fun i j hi hj => ⟨atN_ge _ _ _ _ _, Nat.lt_of_le_of_lt (atN_le hi hj) h1⟩
 have HAL : Hid (atN (lsF cString l) 1 k l.length 0 = k + (dStringS l).wd) := atN_all _ _ _ _
 have HS : Hid (l.length = 0 ∨ ∃ b off X, a = some ⟨b, off, none⟩ ∧ MS w w 1 l.length (lsF cString l) k B b off X 0 0) := by
  obtain ⟨a', c', e, hO⟩ := Own.open hS
  simp only [Value.slice.injEq] at e
  obtain ⟨rfl, -, -⟩ := e
  exact hO.imp id (fun ⟨b, off, X, ha, h⟩ => ⟨b, off, X, ha, MS.start h⟩)
 have H0 := Lib.hid h0
 clear hS ho h1 h0
 go_enter Tryz.func47, Tryz.ntmps47
 go_wp2_with fail
 go_loopw [1, 5] (fun q i wr => ∃ m kk : Nat, m ≤ l.length ∧ i = .int .i64 m ∧ q = .int .i64 (kk : Int) ∧ Hid (atN (lsF cString l) 1 k m 0 = kk ∧ ((l.length = 0 ∧ wr = w) ∨ ∃ b off X, a = some ⟨b, off, none⟩ ∧ MS w wr 1 l.length (lsF cString l) k B b off X m 0))) (fun _ i _ => l.length - (intOf i).toNat)
 case atStart => exact ⟨0, k, Nat.zero_le _, rfl, rfl, atN_zero _ _ _, HS.out.imp (fun h => ⟨h, rfl⟩) id⟩
 case round =>
  obtain ⟨m, kk, hm, rfl, rfl, HR⟩ := hrel
  by_cases hlt : m < l.length
  case neg =>
   have hm' : m = l.length := by omega
   have hmi : decide ((m : Int) < (l.length : Int)) = false := decide_eq_false (by omega)
   have HF : Hid ((kk : Int) = ((k + (dStringS l).wd : Nat) : Int) ∧ Own wr ((dStringS l).mkd k) B (.slice a l.length c) ∧ Frm B w wr) := by
    obtain ⟨hk, h⟩ := HR.out
    have hal := HAL.out
    rw [hm'] at hk
    rw [hk] at hal
    refine ⟨by rw [hal], ?_⟩
    rcases h with ⟨h, rfl⟩ | ⟨b, off, X, rfl, h⟩
    ·
     exact ⟨⟨a, c, rfl, .inl h⟩, Frm.refl _ _⟩
    ·
     rw [hm'] at h
     exact ⟨h.done c, h.frm⟩
   clear hm' HR
   go_wp2_with fail
   go_ret
   exact ⟨ret_i HF.out.1, HF.out.2⟩
  obtain ⟨hk0, hz⟩ := HR.out
  clear HS HR
  obtain ⟨b, off, X, rfl, h⟩ : ∃ b off X, a = some ⟨b, off, none⟩ ∧ MS w wr 1 l.length (lsF cString l) k B b off X m 0 := by
   rcases hz with ⟨h, -⟩ | h
   ·
    omega
   ·
    exact h
  clear hz
  have M0 := Lib.hid h
  have HFA : Hid (lsF cString l m = cString l[m]) := lsF_at hlt
  have N0 := Lib.hid hk0
  have HXK := Lib.hid (HX.out m hlt)
  have HM := Lib.hid hlt
  have hmi : (m : Int) < (l.length : Int) := by omega
  have hb : kk < 100000000000 ∧ 0 < kk := by have h1 := HWD.out m 0 hlt (by omega); have := H0.out; rw [hk0] at h1; omega
  obtain ⟨hb0, hp0⟩ := hb
  clear h hk0 HX
  generalize l[m] = x at *
  have hbd0 : kk < 100000000000 ∧ 0 < kk := by have h1 := HWD.out m 0 HM.out (by omega); have := H0.out; rw [N0.out] at h1; omega
  go_wp2_with fail
  refine (markText (kk) _ hbd0.2 (by have := hbd0.1; omega)).mono ?_
  rintro e v0 ⟨rfl, hB0⟩
  have K0 := Lib.hid (M0.out.later hB0)
  clear hB0 M0 hbd0
  obtain ⟨u0, e0, z0, o0⟩ := K0.out.peek HFA.out HM.out (j' := 0) (by omega) (by omega)
  clear o0
  rw [Nat.mul_one] at e0 z0
  replace e0 : v0.cell? ⟨b, off + m, none⟩ = _ := e0
  replace z0 : v0.frozen? ⟨b, off + m, none⟩ = false := z0
  have M1 : Hid (MS w (v0.setCell ⟨b, off + m, none⟩ (.string ⟨(mt (kk)).toArray⟩)) 1 l.length (lsF cString l) k B b off X m 1) := K0.out.scalar (x := .s x) (q := kk) HM.out (by omega) (by rw [HFA.out]; rfl) N0.out.symm trivial rfl (by omega)
  have N1 : Hid (atN (lsF cString l) 1 k m 1 = kk + 1) := atN_next HFA.out N0.out
  generalize mt (kk) = yt0 at *
  go_wp2_with fail
  go_roundw
  case rel => exact ⟨m + 1, kk + 1, by omega, by go_num, by first | rfl | go_num, by rw [atN_row]; exact N1.out, .inr ⟨b, off, X, rfl, M1.out.row⟩⟩
  case measure => simp [intOf]; omega
end Go.Proofs.YtlddhbamcndggaaGreatDoor
namespace Go.Proofs.YtlddhbamcndggaaGreatDoor
open Go.RowKit
set_option linter.unusedSimpArgs false
set_option maxRecDepth 100000 in
set_option maxHeartbeats 3200000 in
theorem mkDMonitor (x : MoV) (a2 : Option Addr) (c2 : Nat) (a7 : Option Addr) (c7 : Nat) (k : Nat) (B2 B7 : Nat → Prop) (w : World) (l2 : (dStringS x.cs).le maxLen) (l7 : (dCondS x.wh).le maxLen) (h0 : 0 < k) (h1 : k + (dStringS x.cs).wd + (dCondS x.wh).wd < 100000000000) (o2 : Own w (dStringS x.cs) B2 (.slice a2 x.cs.length c2)) (o7 : Own w (dCondS x.wh) B7 (.slice a7 x.wh.length c7)) (n2_7 : ∀ b, B2 b → ¬ B7 b) (n7_2 : ∀ b, B7 b → ¬ B2 b) :
  Calls Tryz.prog 18 #[.agg #[.string ⟨x.nm.toArray⟩, .string ⟨x.tb.toArray⟩, .slice a2 x.cs.length c2, .bool x.ini, .bool x.ins, .bool x.del, .bool x.mod, .slice a7 x.wh.length c7], .int .i64 k] w fun e w' => e = .returned (.int .i64 (k + (dStringS x.cs).wd + (dCondS x.wh).wd : Nat)) ∧ (Own w' ((dStringS x.cs).mkd (k)) B2 (.slice a2 x.cs.length c2) ∧ Own w' ((dCondS x.wh).mkd (k + (dStringS x.cs).wd)) B7 (.slice a7 x.wh.length c7)) ∧ Frm (fun b => B2 b ∨ B7 b) w w' := by
 have hx := boxD 48 w #[.string ⟨x.nm.toArray⟩, .string ⟨x.tb.toArray⟩, .slice a2 x.cs.length c2, .bool x.ini, .bool x.ins, .bool x.del, .bool x.mod, .slice a7 x.wh.length c7]
 have F0 : Hid (Frm (fun b => B2 b ∨ B7 b) w (w.alloc (.cells #[.string ⟨x.nm.toArray⟩, .string ⟨x.tb.toArray⟩, .slice a2 x.cs.length c2, .bool x.ini, .bool x.ins, .bool x.del, .bool x.mod, .slice a7 x.wh.length c7] 48))) := Frm.of_below (below_allocD _ _)
 have O2 := Lib.hid ((Own.inside _ _ _ o2).later hx.2)
 have O7 := Lib.hid ((Own.inside _ _ _ o7).later hx.2)
 have x0 := cell_at (o := 0) hx.1 rfl
 have x1 := cell_at (o := 1) hx.1 rfl
 have x2 := cell_at (o := 2) hx.1 rfl
 have x3 := cell_at (o := 3) hx.1 rfl
 have x4 := cell_at (o := 4) hx.1 rfl
 have x5 := cell_at (o := 5) hx.1 rfl
 have x6 := cell_at (o := 6) hx.1 rfl
 have x7 := cell_at (o := 7) hx.1 rfl
 have HX := Lib.hid hx.1
 have L2 := Lib.hid l2
 have L7 := Lib.hid l7
 have D2_7 := Lib.hid n2_7
 have D7_2 := Lib.hid n7_2
 have HB := Lib.hid (And.intro h0 h1)
 clear hx h0 h1 o2 l2 o7 l7 n2_7 n7_2
 go_enter Tryz.func18, Tryz.ntmps18
 go_wp2_with fail
 refine (mkDStringS x.cs a2 c2 (k) (fun b => B2 b ∧ b < w.heap.size) _ L2.out (by have := HB.out; omega) (by have := HB.out; omega) O2.out).mono ?_
 rintro e v2 ⟨rfl, p2, f2⟩
 have Q2 := Lib.hid p2
 have F3 : Hid (Frm (fun b => B2 b ∨ B7 b) w v2) := F0.out.trans (f2.mono (fun b h => .inl h.1))
 have P7 := Lib.hid (O7.out.frm f2 (fun b h h2 => D7_2.out b h.1 h2.1))
 clear O7
 have O7 := P7
 clear P7
 have hx : v2.heap[w.heap.size]? = some (.cells #[.string ⟨x.nm.toArray⟩, .string ⟨x.tb.toArray⟩, .slice a2 x.cs.length c2, .bool x.ini, .bool x.ins, .bool x.del, .bool x.mod, .slice a7 x.wh.length c7] 48) := (f2.block _ (Array.getElem?_eq_some_iff.1 HX.out).1 (fun h => by have := h.2; omega)).trans HX.out
 clear p2 f2 F0 O2 HX x0 x1 x2 x3 x4 x5 x6 x7
 have HX2 := Lib.hid hx
 have x0 := cell_at (o := 0) hx rfl
 have x1 := cell_at (o := 1) hx rfl
 have x2 := cell_at (o := 2) hx rfl
 have x3 := cell_at (o := 3) hx rfl
 have x4 := cell_at (o := 4) hx rfl
 have x5 := cell_at (o := 5) hx rfl
 have x6 := cell_at (o := 6) hx rfl
 have x7 := cell_at (o := 7) hx rfl
 clear hx
 go_wp2_with fail
 refine (mkDCondS x.wh a7 c7 (k + (dStringS x.cs).wd) (fun b => B7 b ∧ b < w.heap.size) _ L7.out (by have := HB.out; omega) (by have := HB.out; omega) O7.out).mono ?_
 rintro e v7 ⟨rfl, p7, f7⟩
 have Q7 := Lib.hid p7
 have F8 : Hid (Frm (fun b => B2 b ∨ B7 b) w v7) := F3.out.trans (f7.mono (fun b h => .inr h.1))
 have P2 := Lib.hid (Q2.out.frm f7 (fun b h h2 => D2_7.out b h.1 h2.1))
 clear Q2
 have Q2 := P2
 clear P2
 have hx : v7.heap[w.heap.size]? = some (.cells #[.string ⟨x.nm.toArray⟩, .string ⟨x.tb.toArray⟩, .slice a2 x.cs.length c2, .bool x.ini, .bool x.ins, .bool x.del, .bool x.mod, .slice a7 x.wh.length c7] 48) := (f7.block _ (Array.getElem?_eq_some_iff.1 HX2.out).1 (fun h => by have := h.2; omega)).trans HX2.out
 clear p7 f7 F3 O7 HX2 x0 x1 x2 x3 x4 x5 x6 x7
 have HX7 := Lib.hid hx
 have x0 := cell_at (o := 0) hx rfl
 have x1 := cell_at (o := 1) hx rfl
 have x2 := cell_at (o := 2) hx rfl
 have x3 := cell_at (o := 3) hx rfl
 have x4 := cell_at (o := 4) hx rfl
 have x5 := cell_at (o := 5) hx rfl
 have x6 := cell_at (o := 6) hx rfl
 have x7 := cell_at (o := 7) hx rfl
 clear hx
 go_wp2_with fail
 go_ret
 exact ⟨rfl, ⟨Q2.out.mono (fun _ h => h.1), Q7.out.mono (fun _ h => h.1)⟩, F8.out⟩
end Go.Proofs.YtlddhbamcndggaaGreatDoor
