import Derived.Test.YtlbcaaodkggohaaGreatDoorZbw
import Derived.Test.YtlbcaaodkggohaaGreatDoorZai
import Derived.Test.YtlbcaaodkggohaaGreatDoorZae
import Derived.Test.YtlbcaaodkggohaaGreatDoorZao
import Derived.Deep.RegionHeld3
namespace Go.Proofs.YtlbcaaodkggohaaGreatDoor
open Go.RowKit
set_option linter.unusedSimpArgs false
def wordsR : List (List UInt8) := [[111, 107], [98, 97, 100], [108, 111, 110, 103], [102, 111, 114, 109], [114, 97, 110, 103, 101], [110, 111, 110, 101], [109, 97, 110, 121], [102, 117, 108, 108], [116, 119, 105, 99, 101], [116, 121, 112, 101], [116, 97, 98, 108, 101], [99, 111, 108, 117, 109, 110], [117, 110, 105, 113, 117, 101], [114, 101, 102], [111, 119, 110, 101, 114], [119, 97, 105, 116], [97, 98, 111, 114, 116], [99, 108, 111, 115, 101, 100], [100, 101, 101, 112], [109, 101, 116, 104, 111, 100]]
def TabR (w : World) : Prop := ∀ k : Nat, k < 20 → w.cell? ⟨0, k, none⟩ = some (.string ⟨(wordsR.getD k []).toArray⟩)
theorem TabR.later {w w1 : World} (hT : TabR w) (h0 : 0 < w.heap.size) (hB : Below w.heap.size w w1) : TabR w1 := fun k hk => by
 rw [hB.cell (p := ⟨0, k, none⟩) h0]; exact hT k hk
theorem words_some {k : Nat} (hk : k < 20) : (wordsR.getD k [] == []) = false := by
 have : ∀ k : Fin 20, (wordsR.getD k.val [] == []) = false := by decide
 exact this ⟨k, hk⟩
set_option maxHeartbeats 800000 in
theorem wordC (n : Int) (w : World) (hT : TabR w) : Calls Tryz.prog 20 #[.int .i64 n] w fun e w' => (∃ s : List UInt8, e = .returned (.string ⟨s.toArray⟩) ∧ (s == []) = !(inB 0 n 19)) ∧ w' = w := by
 by_cases h : 0 ≤ n ∧ n ≤ 19
 ·
  obtain ⟨k, rfl⟩ : ∃ k : Nat, n = (k : Int) := ⟨n.toNat, by omega⟩; have hk : k < 20 := by omega
  have hc := hT k hk; have hw := words_some hk; have HI : Hid (inB 0 (k : Int) 19 = true) := by show inB _ _ _ = true; unfold inB; exact decide_eq_true h
  have h1 : decide ((k : Int) < 0) = false := decide_eq_false (by omega); have h2 : decide ((20 : Int) ≤ (k : Int)) = false := decide_eq_false (by omega); have h3 : (k : Int) < 20 := by omega
  have HW := Lib.hid hw; clear h hT hw; generalize wordsR.getD k [] = s at *; (go_enter Tryz.func20, Tryz.ntmps20); (go_wp2_with fail); go_ret; exact ⟨⟨s, rfl, by rw [HI.out]; exact HW.out⟩, rfl⟩
 ·
  have HI : Hid (inB 0 n 19 = false) := by show inB _ _ _ = false; unfold inB; exact decide_eq_false h
  by_cases h0 : n < 0
  ·
   have h1 : decide (n < 0) = true := decide_eq_true h0; clear h h0 hT; (go_enter Tryz.func20, Tryz.ntmps20); (go_wp2_with fail); go_ret; exact ⟨⟨[], rfl, by rw [HI.out]; rfl⟩, rfl⟩
  ·
   have h1 : decide (n < 0) = false := decide_eq_false h0; have h2 : decide ((20 : Int) ≤ n) = true := decide_eq_true (by omega); clear h h0 hT; (go_enter Tryz.func20, Tryz.ntmps20); (go_wp2_with fail); go_ret; exact ⟨⟨[], rfl, by rw [HI.out]; rfl⟩, rfl⟩
theorem le_textR {l : List (List UInt8)} {K : Nat} (h : (dStringS l).le K) {k : Nat} (hk : k < l.length) : l[k].length ≤ K := (Ls_le.1 h).2.2 k hk 0 (by omega)
theorem le_rowR {rows : List RowV} {K : Nat} (h : (dRowS rows).le K) {k : Nat} (hk : k < rows.length) : (dAtomSS rows[k].cells).le K := (Ls_le.1 h).2.2 k hk 1 (by omega)
theorem le_cellR {l : List (List At)} {K : Nat} (h : (dAtomSS l).le K) {k : Nat} (hk : k < l.length) : (dAtomS l[k]).le K := (Ls_le.1 h).2.2 k hk 0 (by omega)
def hasN (n : Nat) (r : RowV) : Bool := (r.cells.length == n) && r.cells.all datumB
def resB (x : ResV) : Bool := inB 0 x.code 19 && (inB 0 x.cnt 1000 && (inB 0 x.id 1000000 && (decide (x.rows.length ≤ 12) && (decide (x.cols.length ≤ 7) && (x.cols.all nameB && (x.rows.all (hasN x.cols.length) && ((x.code == 0 || ((x.cnt == 0) && ((x.id == 0) && (decide (x.rows.length = 0) && decide (x.cols.length = 0))))))))))))
theorem fewR_no {α : Type} {f : α → Bool} {l : List α} {M k : Nat} (hk : k < l.length) (h : f l[k] = false) : (l.all f && decide (l.length ≤ M)) = false := by
 rw [List.all_eq_false.2 ⟨_, List.getElem_mem hk, by simp [h]⟩]; rfl
theorem fewR_yes {α : Type} {f : α → Bool} {l : List α} {M : Nat} (h : ∀ k (hk : k < l.length), f l[k] = true) (hl : l.length ≤ M) : (l.all f && decide (l.length ≤ M)) = true := by
 rw [List.all_eq_true.2 (fun x hx => by obtain ⟨k, hk, rfl⟩ := List.mem_iff_getElem.1 hx; exact h k hk), decide_eq_true hl]; rfl
theorem fewR_long {α : Type} {f : α → Bool} {l : List α} {M : Nat} (h : M < l.length) : (l.all f && decide (l.length ≤ M)) = false := by rw [decide_eq_false (by omega), Bool.and_false]
set_option maxRecDepth 100000 in
set_option maxHeartbeats 6400000 in
theorem fewNames7 (list : List (List UInt8)) (a : Option Addr) (c : Nat) (B : Nat → Prop) (w : World) (ho : (dStringS list).le maxLen) (hL : Rd w B (dStringS list) (.slice a list.length c)) :
  Calls Tryz.prog 21 #[.slice a list.length c, .int .i64 7, .func (.func 22) #[] #[]] w fun e w' => e = .returned (.bool (list.all nameB && decide (list.length ≤ 7))) ∧ Below w.heap.size w w' := by
 have HL : Hid (∀ W, Below w.heap.size w W → Rd W B (dStringS list) (.slice a list.length c)) := fun W h => Rd.later hL h
 have HO := Lib.hid ho; have hll : list.length ≤ maxLen := (Ls_le.1 ho).2.1; unfold maxLen at hll; clear ho hL
 by_cases h8 : 7 < list.length
 case pos =>
  have HR := Lib.hid (fewR_long (f := nameB) h8); have hd : decide (7 < (list.length : Int)) = true := decide_eq_true (by omega); clear h8; (go_enter Tryz.func21, Tryz.ntmps21); (go_wp2_with fail); go_ret; exact ⟨ret_b HR.out.symm, Below.refl _ _⟩
 have hd : decide (7 < (list.length : Int)) = false := decide_eq_false (by omega); have H8 := Lib.hid h8; clear h8; (go_enter Tryz.func21, Tryz.ntmps21); (go_wp2_with fail); go_loopw [14] (fun i wr => ∃ k : Nat, k ≤ list.length ∧ i = .int .i64 k ∧ Hid ((∀ m (h : m < list.length), m < k → nameB list[m] = true) ∧ Below w.heap.size w wr)) (fun i _ => list.length - (intOf i).toNat)
 case atStart => exact ⟨0, Nat.zero_le _, rfl, fun m _ h => absurd h (by omega), Below.refl _ _⟩
 case round =>
  obtain ⟨k, hk, rfl, HW⟩ := hrel
  by_cases hlt : k < list.length
  case neg =>
   have hki : decide ((k : Int) < (list.length : Int)) = false := by simp; omega
   have HR := Lib.hid (fewR_yes (f := nameB) (M := 7) (fun m h => HW.out.1 m h (by omega)) (by have := H8.out; omega)); (go_wp2_with fail); go_ret; exact ⟨ret_b HR.out.symm, HW.out.2⟩
  have hki : (k : Int) < (list.length : Int) := by omega
  obtain ⟨b, off, rfl, -, hc⟩ := Rd.things (HL.out _ HW.out.2) k hlt; obtain ⟨u0, c0, r0⟩ := hc 0 (by omega); obtain rfl : u0 = .string ⟨list[k].toArray⟩ := r0; rw [Nat.mul_one, Nat.add_zero] at c0; clear hc; have CO := Lib.hid (nameI list[k] wr (le_textR HO.out hlt)); have HNO : Hid (nameB list[k] = false → (list.all nameB && decide (list.length ≤ 7)) = false) := fun h => fewR_no hlt h
  have HNX : Hid (nameB list[k] = true → ∀ m (h : m < list.length), m < k + 1 → nameB list[m] = true) := fun he m h hm => by
   by_cases e : m = k
   ·
    subst e; exact he
   ·
    exact HW.out.1 m h (by omega)
  generalize list[k] = x at *; (go_wp2_with fail); refine CO.out.mono ?_; rintro e w1 ⟨rfl, rfl⟩
  cases he : nameB x
  case false =>
   have HR := Lib.hid (HNO.out he); clear HNO HNX he CO; (go_wp2_with fail); go_ret; exact ⟨ret_b HR.out.symm, HW.out.2⟩
  have HN := Lib.hid (HNX.out he); clear HNO HNX he CO; (go_wp2_with fail); go_roundw
  case rel => exact ⟨k + 1, by omega, by go_num, HN.out, HW.out.2⟩
  case measure => simp [intOf]; omega
set_option maxRecDepth 100000 in
set_option maxHeartbeats 6400000 in
theorem hasSetsI (r : RowV) (n : Nat) (ra : Option Addr) (rc : Nat) (B : Nat → Prop) (w : World) (ho : (dAtomSS r.cells).le maxLen) (hR : Rd w B (dAtomSS r.cells) (.slice ra r.cells.length rc)) :
  Calls Tryz.prog 25 #[.agg #[.int .i64 r.id, .slice ra r.cells.length rc], .int .i64 (n : Int)] w fun e w' => e = .returned (.bool (hasN n r)) ∧ Below w.heap.size w w' := by
 have HR : Hid (∀ W, Below w.heap.size w W → Rd W B (Ls 1 cAtomS r.cells) (.slice ra r.cells.length rc)) := fun W h => Rd.later hR h
 have HO := Lib.hid ho; have hll : r.cells.length ≤ maxLen := (Ls_le.1 ho).2.1; unfold maxLen at hll; have hb := boxD 67 w #[.int .i64 r.id, .slice ra r.cells.length rc]; have HB := Lib.hid hb; have y1 := cell_at (o := 1) hb.1 rfl; clear hb ho hR
 by_cases hn : r.cells.length = n
 case neg =>
  have HF : Hid (hasN n r = false) := by show hasN n r = false; unfold hasN; rw [show (r.cells.length == n) = false from beq_eq_false_iff_ne.2 hn]; rfl
  have e1 : ((r.cells.length : Int) != (n : Int)) = true := by rw [bne_iff_ne]; omega
  clear hn; (go_enter Tryz.func25, Tryz.ntmps25); (go_wp2_with fail); go_ret; exact ⟨ret_b HF.out.symm, HB.out.2⟩
 have HE : Hid (hasN n r = r.cells.all datumB) := by show hasN n r = _; unfold hasN; rw [hn]; simp
 have e1 : ((r.cells.length : Int) != (n : Int)) = false := by rw [bne_eq_false_iff_eq]; omega
 clear hn; (go_enter Tryz.func25, Tryz.ntmps25); (go_wp2_with fail); go_loopw [15] (fun i wr => ∃ k : Nat, k ≤ r.cells.length ∧ i = .int .i64 k ∧ Hid ((∀ m (h : m < r.cells.length), m < k → datumB r.cells[m] = true) ∧ Below w.heap.size w wr)) (fun i _ => r.cells.length - (intOf i).toNat)
 case atStart => exact ⟨0, Nat.zero_le _, rfl, fun m _ h => absurd h (by omega), HB.out.2⟩
 case round =>
  obtain ⟨k, hk, rfl, HW⟩ := hrel
  by_cases hlt : k < r.cells.length
  case neg =>
   have hki : decide ((k : Int) < (r.cells.length : Int)) = false := by simp; omega
   have HT : Hid (hasN n r = true) := by show hasN n r = true; rw [HE.out]; exact List.all_eq_true.2 (fun x hx => by obtain ⟨j, hj, rfl⟩ := List.mem_iff_getElem.1 hx; exact HW.out.1 j hj (by omega))
   (go_wp2_with fail); go_ret; exact ⟨ret_b HT.out.symm, HW.out.2⟩
  have hki : (k : Int) < (r.cells.length : Int) := by omega
  obtain ⟨b, off, rfl, -, hc⟩ := (HR.out _ HW.out.2).things k hlt; obtain ⟨u0, c0, r0⟩ := hc 0 (by omega); replace r0 : Rd wr B (dAtomS r.cells[k]) u0 := r0; obtain ⟨sa, sq, rfl⟩ := r0.lsSlice; rw [Nat.mul_one, Nat.add_zero] at c0; have KL := Lib.hid (le_atoms (le_cellR HO.out hlt)); have CO := Lib.hid (datumOKi r.cells[k] sa sq wr.heap.size wr KL.out.1 KL.out.2 (Nat.le_refl _) r0.lt.ats); have HNO : Hid (datumB r.cells[k] = false → hasN n r = false) := fun h => by show hasN n r = false; rw [HE.out]; exact List.all_eq_false.2 ⟨_, List.getElem_mem hlt, by simp [h]⟩
  have HNX : Hid (datumB r.cells[k] = true → ∀ m (h : m < r.cells.length), m < k + 1 → datumB r.cells[m] = true) := fun he m h hm => by
   by_cases e : m = k
   ·
    subst e; exact he
   ·
    exact HW.out.1 m h (by omega)
  clear hc r0; generalize r.cells[k] = x at *; (go_wp2_with fail); refine CO.out.mono ?_; rintro e w1 ⟨rfl, hB1⟩; have HB1 := Lib.hid (HW.out.2.trans (hB1.mono HW.out.2.size)); clear hB1 c0
  cases he : datumB x
  case false =>
   have HF := Lib.hid (HNO.out he); clear HNO HNX he CO; (go_wp2_with fail); go_ret; exact ⟨ret_b HF.out.symm, HB1.out⟩
  have HN := Lib.hid (HNX.out he); clear HNO HNX he CO; (go_wp2_with fail); go_roundw
  case rel => exact ⟨k + 1, by omega, by go_num, HN.out, HB1.out⟩
  case measure => simp [intOf]; omega
set_option maxRecDepth 100000 in
set_option maxHeartbeats 3200000 in
theorem closI (r : RowV) (n : Nat) (pb : Nat) (ca : Option Addr) (cc : Nat) (ra : Option Addr) (rc : Nat) (B : Nat → Prop) (w : World) (ho : (dAtomSS r.cells).le maxLen) (hn : n ≤ maxLen) (hR : Rd w B (dAtomSS r.cells) (.slice ra r.cells.length rc)) (hp : w.cell? ⟨pb, 3, none⟩ = some (.slice ca n cc)) :
  Calls Tryz.prog 24 #[.agg #[.int .i64 r.id, .slice ra r.cells.length rc], .pointer (some ⟨pb, 0, none⟩)] w fun e w' => e = .returned (.bool (hasN n r)) ∧ Below w.heap.size w w' := by
 have HS : Hid (∀ W, BoxD 67 w W #[.int .i64 r.id, .slice ra r.cells.length rc] → Calls Tryz.prog 25 #[.agg #[.int .i64 r.id, .slice ra r.cells.length rc], .int .i64 (n : Int)] W fun e w' => e = .returned (.bool (hasN n r)) ∧ BoxD 67 w w' #[.int .i64 r.id, .slice ra r.cells.length rc]) := fun W h => (hasSetsI r n ra rc B W ho (hR.later h.2)).mono (fun _ _ ⟨he, hB⟩ => ⟨he, h.later hB⟩)
 have hb := boxD 67 w #[.int .i64 r.id, .slice ra r.cells.length rc]; have HB := Lib.hid hb; obtain ⟨y0, y1⟩ := ck2 0 1 hb.1; have p3 : (w.alloc (.cells #[.int .i64 r.id, .slice ra r.cells.length rc] 67)).cell? ⟨pb, 3, none⟩ = some (.slice ca n cc) := (hb.2.cell (p := ⟨pb, 3, none⟩) (World.block_lt_of_cell? _ _ hp)).trans hp; have hnn := hn; unfold maxLen at hnn; clear hb ho hR hn; (go_enter Tryz.func24, Tryz.ntmps24); (go_wp2_with fail); refine (HS.out _ HB.out).mono ?_; rintro e w1 ⟨rfl, hb⟩; have HB1 := Lib.hid hb; clear hb y0 y1 p3; (go_wp2_with fail); go_ret; exact ⟨rfl, HB1.out.2⟩
set_option maxRecDepth 100000 in
set_option maxHeartbeats 6400000 in
theorem fewRowsR (n pb : Nat) (ca : Option Addr) (cc : Nat) (list : List RowV) (a : Option Addr) (c : Nat) (B : Nat → Prop) (w : World) (hn : n ≤ maxLen) (hp : w.cell? ⟨pb, 3, none⟩ = some (.slice ca n cc)) (ho : (dRowS list).le maxLen) (hL : Rd w B (dRowS list) (.slice a list.length c)) :
  Calls Tryz.prog 23 #[.slice a list.length c, .int .i64 12, .func (.func 24) #[] #[.pointer (some ⟨pb, 0, none⟩)]] w fun e w' => e = .returned (.bool (list.all (hasN n) && decide (list.length ≤ 12))) ∧ Below w.heap.size w w' := by
 have HL : Hid (∀ W, Below w.heap.size w W → Rd W B (dRowS list) (.slice a list.length c)) := fun W h => Rd.later hL h
 have HO := Lib.hid ho; have HNM := Lib.hid hn; have HP : Hid (∀ W, Below w.heap.size w W → W.cell? ⟨pb, 3, none⟩ = some (.slice ca n cc)) := fun W h => (h.cell (p := ⟨pb, 3, none⟩) (World.block_lt_of_cell? _ _ hp)).trans hp
 have hll : list.length ≤ maxLen := (Ls_le.1 ho).2.1; unfold maxLen at hll; clear ho hL hn hp
 by_cases h8 : 12 < list.length
 case pos =>
  have HR := Lib.hid (fewR_long (f := (hasN n)) h8); have hd : decide (12 < (list.length : Int)) = true := decide_eq_true (by omega); clear h8; (go_enter Tryz.func23, Tryz.ntmps23); (go_wp2_with fail); go_ret; exact ⟨ret_b HR.out.symm, Below.refl _ _⟩
 have hd : decide (12 < (list.length : Int)) = false := decide_eq_false (by omega); have H8 := Lib.hid h8; clear h8; (go_enter Tryz.func23, Tryz.ntmps23); (go_wp2_with fail); go_loopw [14] (fun i wr => ∃ k : Nat, k ≤ list.length ∧ i = .int .i64 k ∧ Hid ((∀ m (h : m < list.length), m < k → (hasN n) list[m] = true) ∧ Below w.heap.size w wr)) (fun i _ => list.length - (intOf i).toNat)
 case atStart => exact ⟨0, Nat.zero_le _, rfl, fun m _ h => absurd h (by omega), Below.refl _ _⟩
 case round =>
  obtain ⟨k, hk, rfl, HW⟩ := hrel
  by_cases hlt : k < list.length
  case neg =>
   have hki : decide ((k : Int) < (list.length : Int)) = false := by simp; omega
   have HR := Lib.hid (fewR_yes (f := (hasN n)) (M := 12) (fun m h => HW.out.1 m h (by omega)) (by have := H8.out; omega)); (go_wp2_with fail); go_ret; exact ⟨ret_b HR.out.symm, HW.out.2⟩
  have hki : (k : Int) < (list.length : Int) := by omega
  obtain ⟨b, off, rfl, -, hc⟩ := Rd.things (HL.out _ HW.out.2) k hlt; obtain ⟨u0, c0, r0⟩ := hc 0 (by omega); obtain rfl : u0 = .int .i64 list[k].id := r0; rw [Nat.add_zero] at c0; obtain ⟨u1, c1, r1⟩ := hc 1 (by omega); replace r1 : Rd wr B (dAtomSS list[k].cells) u1 := r1; obtain ⟨ra, rc, rfl⟩ := r1.lsSlice; clear hc; have CO := Lib.hid (closI list[k] n pb ca cc ra rc B wr (le_rowR HO.out hlt) HNM.out r1 (HP.out wr HW.out.2)); have HNO : Hid ((hasN n) list[k] = false → (list.all (hasN n) && decide (list.length ≤ 12)) = false) := fun h => fewR_no hlt h
  have HNX : Hid ((hasN n) list[k] = true → ∀ m (h : m < list.length), m < k + 1 → (hasN n) list[m] = true) := fun he m h hm => by
   by_cases e : m = k
   ·
    subst e; exact he
   ·
    exact HW.out.1 m h (by omega)
  clear r1; generalize list[k] = x at *; (go_wp2_with fail); refine CO.out.mono ?_; rintro e w1 ⟨rfl, hB1⟩; have HB1 := Lib.hid (HW.out.2.trans (hB1.mono HW.out.2.size)); clear hB1
  cases he : (hasN n) x
  case false =>
   have HR := Lib.hid (HNO.out he); clear HNO HNX he CO; (go_wp2_with fail); go_ret; exact ⟨ret_b HR.out.symm, HB1.out⟩
  have HN := Lib.hid (HNX.out he); clear HNO HNX he CO; (go_wp2_with fail); go_roundw
  case rel => exact ⟨k + 1, by omega, by go_num, HN.out, HB1.out⟩
  case measure => simp [intOf]; omega
set_option maxRecDepth 100000 in
set_option maxHeartbeats 12800000 in
theorem resI (x : ResV) (ca : Option Addr) (cc : Nat) (ra : Option Addr) (rc : Nat) (B : Nat → Prop) (w : World) (h3 : (dStringS x.cols).le maxLen) (h4 : (dRowS x.rows).le maxLen) (hTab : TabR w) (h0w : 0 < w.heap.size) (r3 : Rd w B (dStringS x.cols) (.slice ca x.cols.length cc)) (r4 : Rd w B (dRowS x.rows) (.slice ra x.rows.length rc)) :
  Calls Tryz.prog 9 #[.agg #[.int .i64 x.code, .int .i64 x.cnt, .int .i64 x.id, .slice ca x.cols.length cc, .slice ra x.rows.length rc]] w fun e w' => e = .returned (.bool (resB x)) ∧ Below w.heap.size w w' := by
 have CW : Hid (∀ W, BoxD 41 w W #[.int .i64 x.code, .int .i64 x.cnt, .int .i64 x.id, .slice ca x.cols.length cc, .slice ra x.rows.length rc] → Calls Tryz.prog 20 #[.int .i64 x.code] W fun e w' => (∃ s : List UInt8, e = .returned (.string ⟨s.toArray⟩) ∧ (s == []) = !(inB 0 x.code 19)) ∧ BoxD 41 w w' #[.int .i64 x.code, .int .i64 x.cnt, .int .i64 x.id, .slice ca x.cols.length cc, .slice ra x.rows.length rc]) := fun W h => (wordC x.code W (hTab.later h0w h.2)).mono (fun _ _ ⟨he, e⟩ => ⟨he, by rw [e]; exact h⟩)
 have CF : Hid (∀ W, BoxD 41 w W #[.int .i64 x.code, .int .i64 x.cnt, .int .i64 x.id, .slice ca x.cols.length cc, .slice ra x.rows.length rc] → Calls Tryz.prog 21 #[.slice ca x.cols.length cc, .int .i64 7, .func (.func 22) #[] #[]] W fun e w' => e = .returned (.bool (x.cols.all nameB && decide (x.cols.length ≤ 7))) ∧ BoxD 41 w w' #[.int .i64 x.code, .int .i64 x.cnt, .int .i64 x.id, .slice ca x.cols.length cc, .slice ra x.rows.length rc]) := fun W h => (fewNames7 x.cols ca cc B W h3 (r3.later h.2)).mono (fun _ _ ⟨he, hB⟩ => ⟨he, h.later hB⟩)
 have RF : Hid (∀ W, BoxD 41 w W #[.int .i64 x.code, .int .i64 x.cnt, .int .i64 x.id, .slice ca x.cols.length cc, .slice ra x.rows.length rc] → Calls Tryz.prog 23 #[.slice ra x.rows.length rc, .int .i64 12, .func (.func 24) #[] #[.pointer (some ⟨w.heap.size, 0, none⟩)]] W fun e w' => e = .returned (.bool (x.rows.all (hasN x.cols.length) && decide (x.rows.length ≤ 12))) ∧ BoxD 41 w w' #[.int .i64 x.code, .int .i64 x.cnt, .int .i64 x.id, .slice ca x.cols.length cc, .slice ra x.rows.length rc]) := fun W h => (fewRowsR x.cols.length w.heap.size ca cc x.rows ra rc B W (Ls_le.1 h3).2.1 (cell_at (o := 3) h.1 rfl) h4 (r4.later h.2)).mono (fun _ _ ⟨he, hB⟩ => ⟨he, h.later hB⟩)
 have hcl : x.cols.length ≤ maxLen := (Ls_le.1 h3).2.1; have hrl : x.rows.length ≤ maxLen := (Ls_le.1 h4).2.1; unfold maxLen at hcl hrl; have hb := boxD 41 w #[.int .i64 x.code, .int .i64 x.cnt, .int .i64 x.id, .slice ca x.cols.length cc, .slice ra x.rows.length rc]; have HB := Lib.hid hb; obtain ⟨y0, y1, y2, y3, y4⟩ := ck5 0 1 2 3 4 hb.1; clear hb h3 h4 r3 r4 hTab h0w
 cases hc : inB 0 x.code 19
 case false =>
  have HR : Hid (resB x = false) := by show resB x = _; unfold resB; simp [hc]
  rw [hc] at CW; clear hc; (go_enter Tryz.func9, Tryz.ntmps9); (go_wp2_with fail); refine (CW.out _ HB.out).mono ?_; rintro e w1 ⟨⟨s, rfl, hs⟩, hb⟩; have HB1 := Lib.hid hb; clear y0 y1 y2 y3 y4; obtain ⟨y0, y1, y2, y3, y4⟩ := ck5 0 1 2 3 4 hb.1; clear hb; (go_wp2_with fail); go_ret; exact ⟨ret_b HR.out.symm, HB1.out.2⟩
 rw [hc] at CW
 by_cases h0 : x.code = 0
 case neg =>
  have e0 : (x.code != 0) = true := by simpa using h0
  have f0 : (x.code == 0) = false := by simpa using h0
  have n3 : x.cols.length = 0 → x.cols = [] := fun h => List.eq_nil_of_length_eq_zero h
  have n4 : x.rows.length = 0 → x.rows = [] := fun h => List.eq_nil_of_length_eq_zero h
  have HNN := Lib.hid (And.intro n3 n4); clear n3 n4
  by_cases zc : x.cnt = 0
  case neg =>
   have e1 : (x.cnt == 0) = false := by simpa using zc
   have HR : Hid (resB x = false) := by show resB x = false; unfold resB; simp [f0, zc]
   clear hc h0 zc; (go_enter Tryz.func9, Tryz.ntmps9); (go_wp2_with fail); refine (CW.out _ HB.out).mono ?_; rintro e w1 ⟨⟨s, rfl, hs⟩, hb⟩; have HB1 := Lib.hid hb; clear y0 y1 y2 y3 y4; obtain ⟨y0, y1, y2, y3, y4⟩ := ck5 0 1 2 3 4 hb.1; clear hb; (go_wp2_with fail); go_ret; exact ⟨ret_b HR.out.symm, HB1.out.2⟩
  have e1 : (x.cnt == 0) = true := by simpa using zc
  by_cases zi : x.id = 0
  case neg =>
   have e2 : (x.id == 0) = false := by simpa using zi
   have HR : Hid (resB x = false) := by show resB x = false; unfold resB; simp [f0, zi]
   clear hc h0 zc zi; (go_enter Tryz.func9, Tryz.ntmps9); (go_wp2_with fail); refine (CW.out _ HB.out).mono ?_; rintro e w1 ⟨⟨s, rfl, hs⟩, hb⟩; have HB1 := Lib.hid hb; clear y0 y1 y2 y3 y4; obtain ⟨y0, y1, y2, y3, y4⟩ := ck5 0 1 2 3 4 hb.1; clear hb; (go_wp2_with fail); go_ret; exact ⟨ret_b HR.out.symm, HB1.out.2⟩
  have e2 : (x.id == 0) = true := by simpa using zi
  by_cases zo : x.cols.length = 0
  case neg =>
   have e3 : ((x.cols.length : Int) == 0) = false := by rw [beq_eq_false_iff_ne]; omega
   have g3 : (x.cols.length == 0) = false := by rw [beq_eq_false_iff_ne]; omega
   have k3 : x.cols ≠ [] := fun e => zo (by rw [e]; rfl)
   have HR : Hid (resB x = false) := by show resB x = false; unfold resB; simp [f0, k3]
   clear hc h0 zc zi zo; (go_enter Tryz.func9, Tryz.ntmps9); (go_wp2_with fail); refine (CW.out _ HB.out).mono ?_; rintro e w1 ⟨⟨s, rfl, hs⟩, hb⟩; have HB1 := Lib.hid hb; clear y0 y1 y2 y3 y4; obtain ⟨y0, y1, y2, y3, y4⟩ := ck5 0 1 2 3 4 hb.1; clear hb; (go_wp2_with fail); go_ret; exact ⟨ret_b HR.out.symm, HB1.out.2⟩
  have e3 : ((x.cols.length : Int) == 0) = true := by simp [zo]
  have g3 : (x.cols.length == 0) = true := by simp [zo]
  by_cases zr : x.rows.length = 0
  case neg =>
   have e4 : ((x.rows.length : Int) == 0) = false := by rw [beq_eq_false_iff_ne]; omega
   have g4 : (x.rows.length == 0) = false := by rw [beq_eq_false_iff_ne]; omega
   have k4 : x.rows ≠ [] := fun e => zr (by rw [e]; rfl)
   have HR : Hid (resB x = false) := by show resB x = false; unfold resB; simp [f0, k4]
   clear hc h0 zc zi zo zr; (go_enter Tryz.func9, Tryz.ntmps9); (go_wp2_with fail); refine (CW.out _ HB.out).mono ?_; rintro e w1 ⟨⟨s, rfl, hs⟩, hb⟩; have HB1 := Lib.hid hb; clear y0 y1 y2 y3 y4; obtain ⟨y0, y1, y2, y3, y4⟩ := ck5 0 1 2 3 4 hb.1; clear hb; (go_wp2_with fail); go_ret; exact ⟨ret_b HR.out.symm, HB1.out.2⟩
  have e4 : ((x.rows.length : Int) == 0) = true := by simp [zr]
  have g4 : (x.rows.length == 0) = true := by simp [zr]
  have HR : Hid (resB x = true) := by show resB x = true; unfold resB; rw [hc]; simp [zc, zi, HNN.out.1 zo, HNN.out.2 zr, inB]
  clear hc h0 zc zi zo zr; (go_enter Tryz.func9, Tryz.ntmps9); (go_wp2_with fail); refine (CW.out _ HB.out).mono ?_; rintro e w1 ⟨⟨s, rfl, hs⟩, hb⟩; have HB1 := Lib.hid hb; clear y0 y1 y2 y3 y4; obtain ⟨y0, y1, y2, y3, y4⟩ := ck5 0 1 2 3 4 hb.1; clear hb; (go_wp2_with fail); go_ret; exact ⟨ret_b HR.out.symm, HB1.out.2⟩
 have e0 : (x.code != 0) = false := by simpa using h0
 have f0 : (x.code == 0) = true := by simpa using h0
 by_cases t1 : 0 ≤ x.cnt
 case neg =>
  have d1 : decide (0 ≤ x.cnt) = false := decide_eq_false t1; have hi : inB 0 x.cnt 1000 = false := by unfold inB; exact decide_eq_false (by omega)
  have HR : Hid (resB x = false) := by show resB x = _; unfold resB; simp [hi]
  clear hc h0 hi t1; (go_enter Tryz.func9, Tryz.ntmps9); (go_wp2_with fail); refine (CW.out _ HB.out).mono ?_; rintro e w1 ⟨⟨s, rfl, hs⟩, hb⟩; have HB1 := Lib.hid hb; clear y0 y1 y2 y3 y4; obtain ⟨y0, y1, y2, y3, y4⟩ := ck5 0 1 2 3 4 hb.1; clear hb; (go_wp2_with fail); go_ret; exact ⟨ret_b HR.out.symm, HB1.out.2⟩
 have d1 : decide (0 ≤ x.cnt) = true := decide_eq_true t1
 by_cases t2 : x.cnt ≤ 1000
 case neg =>
  have d2 : decide (x.cnt ≤ 1000) = false := decide_eq_false t2; have hi : inB 0 x.cnt 1000 = false := by unfold inB; exact decide_eq_false (by omega)
  have HR : Hid (resB x = false) := by show resB x = _; unfold resB; simp [hi]
  clear hc h0 hi t1 t2; (go_enter Tryz.func9, Tryz.ntmps9); (go_wp2_with fail); refine (CW.out _ HB.out).mono ?_; rintro e w1 ⟨⟨s, rfl, hs⟩, hb⟩; have HB1 := Lib.hid hb; clear y0 y1 y2 y3 y4; obtain ⟨y0, y1, y2, y3, y4⟩ := ck5 0 1 2 3 4 hb.1; clear hb; (go_wp2_with fail); go_ret; exact ⟨ret_b HR.out.symm, HB1.out.2⟩
 have d2 : decide (x.cnt ≤ 1000) = true := decide_eq_true t2
 by_cases t3 : 0 ≤ x.id
 case neg =>
  have d3 : decide (0 ≤ x.id) = false := decide_eq_false t3; have hi : inB 0 x.id 1000000 = false := by unfold inB; exact decide_eq_false (by omega)
  have HR : Hid (resB x = false) := by show resB x = _; unfold resB; simp [hi]
  clear hc h0 hi t1 t2 t3; (go_enter Tryz.func9, Tryz.ntmps9); (go_wp2_with fail); refine (CW.out _ HB.out).mono ?_; rintro e w1 ⟨⟨s, rfl, hs⟩, hb⟩; have HB1 := Lib.hid hb; clear y0 y1 y2 y3 y4; obtain ⟨y0, y1, y2, y3, y4⟩ := ck5 0 1 2 3 4 hb.1; clear hb; (go_wp2_with fail); go_ret; exact ⟨ret_b HR.out.symm, HB1.out.2⟩
 have d3 : decide (0 ≤ x.id) = true := decide_eq_true t3
 by_cases t4 : x.id ≤ 1000000
 case neg =>
  have d4 : decide (x.id ≤ 1000000) = false := decide_eq_false t4; have hi : inB 0 x.id 1000000 = false := by unfold inB; exact decide_eq_false (by omega)
  have HR : Hid (resB x = false) := by show resB x = _; unfold resB; simp [hi]
  clear hc h0 hi t1 t2 t3 t4; (go_enter Tryz.func9, Tryz.ntmps9); (go_wp2_with fail); refine (CW.out _ HB.out).mono ?_; rintro e w1 ⟨⟨s, rfl, hs⟩, hb⟩; have HB1 := Lib.hid hb; clear y0 y1 y2 y3 y4; obtain ⟨y0, y1, y2, y3, y4⟩ := ck5 0 1 2 3 4 hb.1; clear hb; (go_wp2_with fail); go_ret; exact ⟨ret_b HR.out.symm, HB1.out.2⟩
 have d4 : decide (x.id ≤ 1000000) = true := decide_eq_true t4; have hi1 : inB 0 x.cnt 1000 = true := by unfold inB; exact decide_eq_true ⟨t1, t2⟩
 have hi2 : inB 0 x.id 1000000 = true := by unfold inB; exact decide_eq_true ⟨t3, t4⟩
 have HE : Hid (resB x = ((x.cols.all nameB && decide (x.cols.length ≤ 7)) && (x.rows.all (hasN x.cols.length) && decide (x.rows.length ≤ 12)))) := by
  show resB x = _; unfold resB; rw [hc, hi1, hi2, f0]
  cases x.cols.all nameB <;> cases decide (x.cols.length ≤ 7) <;> cases x.rows.all (hasN x.cols.length) <;> cases decide (x.rows.length ≤ 12) <;> rfl
 clear hc h0 t1 t2 t3 t4 hi1 hi2; generalize (x.cols.all nameB && decide (x.cols.length ≤ 7)) = b1 at *; generalize (x.rows.all (hasN x.cols.length) && decide (x.rows.length ≤ 12)) = b2 at *
 cases b1
 case false =>
  have HR : Hid (resB x = false) := by show resB x = false; rw [HE.out]; rfl
  clear HE; (go_enter Tryz.func9, Tryz.ntmps9); (go_wp2_with fail); refine (CW.out _ HB.out).mono ?_; rintro e w1 ⟨⟨s, rfl, hs⟩, hb⟩; have HB1 := Lib.hid hb; clear y0 y1 y2 y3 y4; obtain ⟨y0, y1, y2, y3, y4⟩ := ck5 0 1 2 3 4 hb.1; clear hb; (go_wp2_with fail); refine (CF.out _ HB1.out).mono ?_; rintro e w2 ⟨rfl, hb⟩; have HB2 := Lib.hid hb; clear y0 y1 y2 y3 y4; obtain ⟨y0, y1, y2, y3, y4⟩ := ck5 0 1 2 3 4 hb.1; clear hb; (go_wp2_with fail); go_ret; exact ⟨ret_b HR.out.symm, HB2.out.2⟩
 have HR : Hid (resB x = b2) := by show resB x = b2; rw [HE.out]; rfl
 clear HE; (go_enter Tryz.func9, Tryz.ntmps9); (go_wp2_with fail); refine (CW.out _ HB.out).mono ?_; rintro e w1 ⟨⟨s, rfl, hs⟩, hb⟩; have HB1 := Lib.hid hb; clear y0 y1 y2 y3 y4; obtain ⟨y0, y1, y2, y3, y4⟩ := ck5 0 1 2 3 4 hb.1; clear hb; (go_wp2_with fail); refine (CF.out _ HB1.out).mono ?_; rintro e w2 ⟨rfl, hb⟩; have HB2 := Lib.hid hb; clear y0 y1 y2 y3 y4; obtain ⟨y0, y1, y2, y3, y4⟩ := ck5 0 1 2 3 4 hb.1; clear hb; (go_wp2_with fail); refine (RF.out _ HB2.out).mono ?_; rintro e w3 ⟨rfl, hb⟩; have HB3 := Lib.hid hb; clear y0 y1 y2 y3 y4; obtain ⟨y0, y1, y2, y3, y4⟩ := ck5 0 1 2 3 4 hb.1; clear hb; (go_wp2_with fail); go_ret; exact ⟨ret_b HR.out.symm, HB3.out.2⟩
end Go.Proofs.YtlbcaaodkggohaaGreatDoor
