import Derived.Test.YtlbcaaodkggohaaGreatDoorZaj
import Derived.Test.YtlbcaaodkggohaaGreatDoorZal
import Derived.Test.YtlbcaaodkggohaaGreatDoorZTk
namespace Go.Proofs.YtlbcaaodkggohaaGreatDoor
open Go.RowKit
set_option linter.unusedSimpArgs false
structure SchP (l : List Tb) : Prop where
 len : 1 ≤ l.length ∧ l.length ≤ 4
 tab : ∀ i (h : i < l.length), tabB l[i] = true
 up : ∀ i (h : i + 1 < l.length), Op.bytesLess l[i].nm l[i + 1].nm = true
 ref : ∀ i (h : i < l.length) k (hk : k < l[i].cols.length), l[i].cols[k].rf ≠ [] → ∃ j, ∃ hj : j < l.length, l[j].nm = l[i].cols[k].rf
noncomputable def schB (l : List Tb) : Bool := @decide (SchP l) (Classical.propDecidable _)
theorem sch_yes {l : List Tb} (h : SchP l) : schB l = true := by unfold schB; exact @decide_eq_true _ (Classical.propDecidable _) h
theorem sch_no {l : List Tb} (h : ¬ SchP l) : schB l = false := by unfold schB; exact @decide_eq_false _ (Classical.propDecidable _) h
def BoxS (w W : World) (a : Option Addr) (n c : Nat) : Prop := W.heap[w.heap.size]? = some (.cells #[.slice a n c] 25) ∧ Below w.heap.size w W
theorem BoxS.later {w W W' : World} {a : Option Addr} {n c : Nat} (h : BoxS w W a n c) (hB : Below W.heap.size W W') : BoxS w W' a n c := ⟨heap_keptC h.1 hB, h.2.trans (hB.mono h.2.size)⟩
theorem boxS (w : World) (a : Option Addr) (n c : Nat) : BoxS w (w.alloc (.cells #[.slice a n c] 25)) a n c := ⟨heap_newC _ _, (Below.refl _ _).alloc (Nat.le_refl _) _⟩
theorem BoxS.drew {w W : World} {a : Option Addr} {n c : Nat} (h : BoxS w W a n c) : BoxS w W.drew a n c := h.later (Below.refl _ _).drew
theorem BoxS.new {w W : World} {a : Option Addr} {n c : Nat} (h : BoxS w W a n c) (o : Obj) : BoxS w (W.alloc o) a n c := h.later ((Below.refl _ _).alloc (Nat.le_refl _) _)
theorem BoxS.cell {w W : World} {a : Option Addr} {n c : Nat} (h : BoxS w W a n c) : W.cell? ⟨w.heap.size, 0, none⟩ = some (.slice a n c) := cell_at (o := 0) h.1 rfl
def FindAns (l : List Tb) (s : List UInt8) (w : World) (e : Ending) (w' : World) : Prop := ∃ q : Int, e = .returned (.int .i64 q) ∧ (q < 0 ↔ ∀ k (h : k < l.length), l[k].nm ≠ s) ∧ Below w.heap.size w w'
set_option maxRecDepth 100000 in
set_option maxHeartbeats 3200000 in
theorem findS (l : List Tb) (s : List UInt8) (a : Option Addr) (c : Nat) (A : Nat → Ad) (B : Nat → Prop) (w : World) (hl : l.length ≤ maxLen) (hS : Tabs w B a l A) :
  Calls Tryz.prog 47 #[.agg #[.slice a l.length c], .string ⟨s.toArray⟩] w (FindAns l s w) := by
 unfold maxLen at hl; have HS : Hid (∀ W, Below w.heap.size w W → Tabs W B a l A) := fun W h => hS.later h
 have HX := Lib.hid (boxS w a l.length c); clear hS; (go_enter Tryz.func47, Tryz.ntmps47); (go_wp2_with fail); go_loopw [5] (fun i wr => ∃ k : Nat, k ≤ l.length ∧ i = .int .i64 k ∧ Hid ((∀ m (h : m < l.length), m < k → l[m].nm ≠ s) ∧ BoxS w wr a l.length c)) (fun i _ => l.length - (intOf i).toNat)
 case atStart => exact ⟨0, Nat.zero_le _, rfl, fun m _ h => absurd h (by omega), HX.out⟩
 case round =>
  obtain ⟨k, hk, rfl, HW⟩ := hrel; have x0 := HW.out.2.cell
  by_cases hlt : k < l.length
  ·
   have hki : (k : Int) < (l.length : Int) := by omega
   obtain ⟨b, off, rfl, -, hc⟩ := (HS.out _ HW.out.2.2).at k hlt; have c0 := (hc k hlt).1; clear hc
   by_cases he : l[k].nm = s
   ·
    have HP : Hid (((k : Int) < 0) ↔ ∀ m (h : m < l.length), l[m].nm ≠ s) := ⟨fun h => by omega, fun h => absurd he (h k hlt)⟩; rw [he] at c0; clear he; (go_wp2_with fail); go_ret; exact ⟨k, rfl, HP.out, HW.out.2.2⟩
   ·
    have HN : Hid (∀ m (h : m < l.length), m < k + 1 → l[m].nm ≠ s) := fun m h hm => by
     by_cases e : m = k
     ·
      subst e; exact he
     ·
      exact HW.out.1 m h (by omega)
    have hne : (l[k].nm == s) = false := by simpa using he
    clear he; generalize l[k] = x at *; (go_wp2_with fail); go_roundw
    case rel => exact ⟨k + 1, by omega, by go_num, HN.out, HW.out.2⟩
    case measure => simp [intOf]; omega
  ·
   have HP : Hid (((-1 : Int) < 0) ↔ ∀ m (h : m < l.length), l[m].nm ≠ s) := ⟨fun _ m h => HW.out.1 m h (by omega), fun _ => by omega⟩; have hki : decide ((k : Int) < (l.length : Int)) = false := by simp; omega
   (go_wp2_with fail); go_ret; exact ⟨-1, rfl, HP.out, HW.out.2.2⟩
def RefP (l : List Tb) (i : Nat) (h : i < l.length) (k : Nat) : Prop := ∀ (hk : k < l[i].cols.length), l[i].cols[k].rf ≠ [] → ∃ j, ∃ hj : j < l.length, l[j].nm = l[i].cols[k].rf
def DonS (l : List Tb) (i : Nat) : Prop := (∀ m (h : m < l.length), m < i → tabB l[m] = true ∧ ∀ k, RefP l m h k) ∧ ∀ m (h : m + 1 < l.length), m + 1 < i → Op.bytesLess l[m].nm l[m + 1].nm = true
set_option maxRecDepth 100000 in
set_option maxHeartbeats 6400000 in
theorem schemaS (l : List Tb) (a : Option Addr) (c : Nat) (A : Nat → Ad) (B : Nat → Prop) (w : World) (ho : TbsOk l) (hS : Tabs w B a l A) :
  Calls Tryz.prog 15 #[.agg #[.slice a l.length c]] w fun e w' => e = .returned (.bool (schB l)) ∧ Below w.heap.size w w' := by
 have hl := ho.1; unfold maxLen at hl; have HO : Hid (TbsOk l) := ho; have HS : Hid (∀ W, Below w.heap.size w W → Tabs W B a l A) := fun W h => hS.later h
 have hx := boxS w a l.length c; have x0 := hx.cell; clear ho hS
 cases hc : inB 1 l.length 4
 case false =>
  have HP : Hid (schB l = false) := sch_no (fun h => by have := h.len; unfold inB at hc; simp at hc; omega); (go_enter Tryz.func15, Tryz.ntmps15); (go_wp2_with (go_at_call 45; refine (inS _ _ _ _).mono ?_; rintro e w' ⟨rfl, rfl⟩)); go_ret; exact ⟨ret_b HP.out.symm, hx.2⟩
 have HC4 : Hid (1 ≤ l.length ∧ l.length ≤ 4) := by unfold inB at hc; simp at hc; show _ ∧ _; omega
 (go_enter Tryz.func15, Tryz.ntmps15); (go_wp2_with (go_at_call 45; refine (inS _ _ _ _).mono ?_; rintro e w' ⟨rfl, rfl⟩)); have HX0 := Lib.hid hx; clear hx x0 hc; go_loopw [3] (fun i wr => ∃ k : Nat, k ≤ l.length ∧ i = .int .i64 k ∧ Hid (DonS l k ∧ BoxS w wr a l.length c)) (fun i _ => l.length - (intOf i).toNat)
 case atStart => exact ⟨0, Nat.zero_le _, rfl, ⟨fun m _ h => absurd h (by omega), fun m _ h => absurd h (by omega)⟩, HX0.out⟩
 case round =>
  obtain ⟨i, hi, rfl, HW⟩ := hrel; have hx := HW.out.2; have x0 := hx.cell
  by_cases hlt : i < l.length
  case neg =>
   have hid : decide ((i : Int) < (l.length : Int)) = false := by simp; omega
   have HP : Hid (schB l = true) := sch_yes ⟨HC4.out, fun m h => (HW.out.1.1 m h (by omega)).1, fun m h => HW.out.1.2 m h (by omega), fun m h k hk => (HW.out.1.1 m h (by omega)).2 k hk⟩; (go_wp2_with fail); go_ret; exact ⟨ret_b HP.out.symm, hx.2⟩
  have hki : (i : Int) < (l.length : Int) := by omega
  obtain ⟨b, off, rfl, -, -⟩ := (HS.out _ hx.2).at i hlt; have TB : Hid (∀ W, BoxS w W (some ⟨b, off, none⟩) l.length c → Calls Tryz.prog 46 #[.agg #[.string ⟨l[i].nm.toArray⟩, .slice (A i).ca l[i].cols.length (A i).cc, .slice (A i).ua l[i].uq.length (A i).uc, .bool l[i].rt]] W fun e w' => e = .returned (.bool (tabB l[i])) ∧ BoxS w w' (some ⟨b, off, none⟩) l.length c) := fun W h => (tableS l[i] _ _ _ _ B W (HO.out.2 _ (List.getElem_mem hlt)) ((HS.out _ h.2).has i hlt)).mono (fun e w' ⟨he, hB⟩ => ⟨he, h.later hB⟩)
  have CE : Hid (∀ W, BoxS w W (some ⟨b, off, none⟩) l.length c → W.cell? ⟨w.heap.size, 0, none⟩ = some (.slice (some ⟨b, off, none⟩) l.length c) ∧ W.cell? ⟨b, off + i * 4, none⟩ = some (.string ⟨l[i].nm.toArray⟩) ∧ W.cell? ⟨b, off + i * 4 + 1, none⟩ = some (.slice (A i).ca l[i].cols.length (A i).cc) ∧ W.cell? ⟨b, off + i * 4 + 2, none⟩ = some (.slice (A i).ua l[i].uq.length (A i).uc) ∧ W.cell? ⟨b, off + i * 4 + 3, none⟩ = some (.bool l[i].rt)) := fun W h => ⟨h.cell, (HS.out _ h.2).spot i hlt⟩
  cases htb : tabB l[i]
  case false =>
   have HP : Hid (schB l = false) := sch_no (fun h => by have := h.tab i hlt; rw [htb] at this; cases this); rw [htb] at TB; clear htb HW; generalize l[i] = z at *; (go_wp2_with fail); refine wp_region_held_drew (S := (fun W => W.cell? ⟨w.heap.size, 0, none⟩ = some (.slice (some ⟨b, off, none⟩) l.length c) ∧ W.cell? ⟨b, off + i * 4, none⟩ = some (.string ⟨z.nm.toArray⟩) ∧ W.cell? ⟨b, off + i * 4 + 1, none⟩ = some (.slice (A i).ca z.cols.length (A i).cc) ∧ W.cell? ⟨b, off + i * 4 + 2, none⟩ = some (.slice (A i).ua z.uq.length (A i).uc) ∧ W.cell? ⟨b, off + i * 4 + 3, none⟩ = some (.bool z.rt))) (by kernel_rfl) ?_ (fun hHeld => ?_)
   ·
    (first | exact CE.out _ hx | exact CE.out _ hx.drew)
   refine tkB (i := 0) ?_; refine tkB (i := 1) ?_; refine tkB (i := 2) ?_; refine tkB (i := 3) ?_; refine tkB (i := 4) ?_; refine tkR (i := 5) (fun K hK => ?_); go_simp
   (go_at_call 46; (with_reducible refine (TB.out _ ?_).mono ?_); (first | exact hx | exact hx.drew); rintro e w1 ⟨rfl, hx⟩)
   refine hK.out _ _ ?_ (fun hHeld => ?_)
   ·
    (first | exact CE.out _ hx | exact CE.out _ hx.drew)
   clear hK K; (try simp only [Act.put, tkS]); refine tkB (i := 6) ?_; refine tkB (i := 7) ?_; refine tkV (i := 8) ?_; refine tkV (i := 9) ?_; refine tkV (i := 10) ?_; refine tkV (i := 11) ?_; refine tkV (i := 12) ?_; refine tkV (i := 13) ?_; refine tkV (i := 14) ?_; refine tkV (i := 15) ?_; refine tkV (i := 16) ?_; refine tkV (i := 17) ?_; refine tkV (i := 18) ?_; refine tkV (i := 19) ?_; refine tkV (i := 20) ?_; refine tkV (i := 21) ?_; refine tkV (i := 22) ?_; refine tkV (i := 23) ?_; refine tkV (i := 24) ?_; refine tkV (i := 25) ?_; refine tkB (i := 26) ?_; refine wpAnyH_done (by kernel_rfl) ?_ _; (go_wp2_with fail); go_ret; exact ⟨ret_b HP.out.symm, by first | exact hx.2 | exact hx.2.drew⟩
  have HTB := Lib.hid htb; rw [htb] at TB; have HIN : Hid (∀ wr, BoxS w wr (some ⟨b, off, none⟩) l.length c → (∀ m (h : m + 1 < l.length), m + 1 < i + 1 → Op.bytesLess l[m].nm l[m + 1].nm = true) → True) := fun _ _ _ => trivial
  clear htb HIN
  -- the names rise up to here, or they do not
  have hup : i = 0 ∨ ∃ m, ∃ hm : m + 1 < l.length, i = m + 1 := by
   rcases Nat.eq_zero_or_pos i with h | h
   ·
    exact .inl h
   ·
    exact .inr ⟨i - 1, by omega, by omega⟩
  obtain ⟨z, hz⟩ : ∃ z, z = l[i] := ⟨_, rfl⟩; rw [← hz] at TB CE; have HZ := Lib.hid hz; clear hz; rcases hup with h0 | ⟨m, hm, him⟩
  case inl =>
   subst h0; have HUP : Hid (∀ m (h : m + 1 < l.length), m + 1 < 0 + 1 → Op.bytesLess l[m].nm l[m + 1].nm = true) := fun m h hm => absurd hm (by omega)
   have CE0 : Hid (∀ W, BoxS w W (some ⟨b, off, none⟩) l.length c → W.cell? ⟨w.heap.size, 0, none⟩ = some (.slice (some ⟨b, off, none⟩) l.length c) ∧ W.cell? ⟨b, off, none⟩ = some (.string ⟨z.nm.toArray⟩) ∧ W.cell? ⟨b, off + 1, none⟩ = some (.slice (A 0).ca z.cols.length (A 0).cc) ∧ W.cell? ⟨b, off + 2, none⟩ = some (.slice (A 0).ua z.uq.length (A 0).uc) ∧ W.cell? ⟨b, off + 3, none⟩ = some (.bool z.rt)) := fun W h => by have := CE.out W h; simpa using this
   (go_wp2_with fail); refine wp_region_held_drew (S := (fun W => W.cell? ⟨w.heap.size, 0, none⟩ = some (.slice (some ⟨b, off, none⟩) l.length c) ∧ W.cell? ⟨b, off, none⟩ = some (.string ⟨z.nm.toArray⟩) ∧ W.cell? ⟨b, off + 1, none⟩ = some (.slice (A 0).ca z.cols.length (A 0).cc) ∧ W.cell? ⟨b, off + 2, none⟩ = some (.slice (A 0).ua z.uq.length (A 0).uc) ∧ W.cell? ⟨b, off + 3, none⟩ = some (.bool z.rt))) (by kernel_rfl) ?_ (fun hHeld => ?_)
   ·
    (first | exact CE0.out _ hx | exact CE0.out _ hx.drew)
   refine tkB (i := 0) ?_; refine tkB (i := 1) ?_; refine tkB (i := 2) ?_; refine tkB (i := 3) ?_; refine tkB (i := 4) ?_; refine tkR (i := 5) (fun K hK => ?_); go_simp
   (go_at_call 46; (with_reducible refine (TB.out _ ?_).mono ?_); (first | exact hx | exact hx.drew); rintro e w1 ⟨rfl, hx⟩)
   refine hK.out _ _ ?_ (fun hHeld => ?_)
   ·
    (first | exact CE0.out _ hx | exact CE0.out _ hx.drew)
   clear hK K; (try simp only [Act.put, tkS]); refine tkB (i := 6) ?_; refine tkB (i := 7) ?_; refine tkB (i := 8) ?_; refine tkB (i := 9) ?_; refine tkB (i := 10) ?_; refine tkV (i := 11) ?_; refine tkV (i := 12) ?_; refine tkV (i := 13) ?_; refine tkV (i := 14) ?_; refine tkV (i := 15) ?_; refine tkV (i := 16) ?_; refine tkV (i := 17) ?_; refine tkV (i := 18) ?_; refine tkV (i := 19) ?_; refine tkV (i := 20) ?_; refine tkV (i := 21) ?_; refine tkV (i := 22) ?_; refine tkV (i := 23) ?_; refine tkV (i := 24) ?_; refine tkB (i := 25) ?_; refine tkB (i := 26) ?_; refine wpAnyH_done (by kernel_rfl) ?_ _; (go_wp2_with fail); have HX1 := Lib.hid hx; clear hx x0; go_loopw [4] (fun q wr => ∃ k : Nat, k ≤ z.cols.length ∧ q = .int .i64 k ∧ Hid ((∀ j, j < k → RefP l 0 hlt j) ∧ BoxS w wr (some ⟨b, off, none⟩) l.length c)) (fun q _ => z.cols.length - (intOf q).toNat)
   case atStart => exact ⟨0, Nat.zero_le _, rfl, fun j h => absurd h (by omega), HX1.out⟩
   case round =>
    obtain ⟨k, hk, rfl, HV⟩ := hrel; have hx := HV.out.2; have x0 := hx.cell; have x1 := (CE0.out _ hx).2.2.1; have hzl := (HO.out.2 _ (List.getElem_mem hlt)).2.1; rw [← HZ.out] at hzl; unfold maxLen at hzl
    by_cases hkl : k < z.cols.length
    case neg =>
     have hkd : decide ((k : Int) < (z.cols.length : Int)) = false := by simp; omega
     have HG : Hid (DonS l (0 + 1)) := ⟨fun q h hq => by
      by_cases e : q = 0
      ·
       subst e; exact ⟨HTB.out, fun j hj => HV.out.1 j (by have : j < z.cols.length := (by rw [HZ.out]; exact hj); omega) hj⟩
      ·
       exact HW.out.1.1 q h (by omega), HUP.out⟩
     clear HV HW; (go_wp2_with fail); go_roundw
     case rel => exact ⟨0 + 1, by omega, by first | rfl | go_num, HG.out, hx⟩
     case measure => simp [intOf]; omega
    have hkk : (k : Int) < (z.cols.length : Int) := by omega
    have hih := (HS.out _ hx.2).has 0 hlt; rw [← HZ.out] at hih; obtain ⟨bc, oc, ea, -, hcc⟩ := hih.1.at k hkl; rw [ea] at x1; clear ea; obtain ⟨c0, c1, c2, c3, c4, c5, c6, c7⟩ := hcc k hkl
    have HNX : Hid ((z.cols[k].rf ≠ [] → ∃ j, ∃ hj : j < l.length, l[j].nm = z.cols[k].rf) → ∀ j, j < k + 1 → RefP l 0 hlt j) := fun hg j hj => by
     by_cases e : j = k
     ·
      subst e; intro hk' hr; have e1 : l[0].cols[j] = z.cols[j] := by congr 1; rw [HZ.out]
      rw [e1] at hr ⊢; exact hg hr
     ·
      exact HV.out.1 j (by omega)
    have HBAD : Hid ((z.cols[k].rf ≠ [] ∧ ∀ j (hj : j < l.length), l[j].nm ≠ z.cols[k].rf) → schB l = false) := fun ⟨h1, h2⟩ => sch_no (fun h => by
     have e1 : l[0].cols[k]'(by rw [← HZ.out]; exact hkl) = z.cols[k] := by congr 1; rw [HZ.out]
     obtain ⟨j, hj, e⟩ := h.ref 0 hlt k (by rw [← HZ.out]; exact hkl) (by rw [e1]; exact h1); rw [e1] at e; exact h2 j hj e)
    have FI : Hid (∀ W, BoxS w W (some ⟨b, off, none⟩) l.length c → Calls Tryz.prog 47 #[.agg #[.slice (some ⟨b, off, none⟩) l.length c], .string ⟨z.cols[k].rf.toArray⟩] W fun e w' => ∃ q : Int, e = .returned (.int .i64 q) ∧ (q < 0 ↔ ∀ j (h : j < l.length), l[j].nm ≠ z.cols[k].rf) ∧ BoxS w w' (some ⟨b, off, none⟩) l.length c) := fun W h => (findS l z.cols[k].rf _ c A B W (by have := HO.out.1; exact this) (HS.out _ h.2)).mono (fun e w' ⟨q, he, hq, hB⟩ => ⟨q, he, hq, h.later hB⟩)
    have hb1 : w.heap.size < wr.heap.size := (Array.getElem?_eq_some_iff.1 hx.1).1; have hnb : (w.heap.size = wr.heap.size) = False := by simp; omega
    have HXA : Hid (∀ o, BoxS w (wr.alloc o) (some ⟨b, off, none⟩) l.length c) := fun o => hx.new o
    clear HV hcc hih
    by_cases hr : z.cols[k].rf = []
    case pos =>
     have HG := Lib.hid (HNX.out (fun h => absurd hr h)); have hrn : (z.cols[k].rf != []) = false := by simpa using hr
     have hre : z.cols[k].rf.isEmpty = true := by simpa using hr
     rw [hr] at c6; clear hr HNX HBAD; generalize z.cols[k] = y2 at *; (go_wp2_with fail); go_roundw
     case rel => exact ⟨k + 1, by omega, by go_num, HG.out, HXA.out _⟩
     case measure => simp [intOf]; omega
    have hre : z.cols[k].rf.isEmpty = false := by simpa using hr
    by_cases hfd : ∀ j (h : j < l.length), l[j].nm ≠ z.cols[k].rf
    case pos =>
     have HP := Lib.hid (HBAD.out ⟨hr, hfd⟩); have FI2 : Hid (∀ W, BoxS w W (some ⟨b, off, none⟩) l.length c → Calls Tryz.prog 47 #[.agg #[.slice (some ⟨b, off, none⟩) l.length c], .string ⟨z.cols[k].rf.toArray⟩] W fun e w' => ∃ q : Int, e = .returned (.int .i64 q) ∧ decide (q < 0) = true ∧ BoxS w w' (some ⟨b, off, none⟩) l.length c) := fun W h => (FI.out W h).mono (fun e w' ⟨q, he, hq, hB⟩ => ⟨q, he, decide_eq_true (hq.2 hfd), hB⟩)
     clear hfd HNX HBAD FI hr; generalize z.cols[k] = y2 at *; have hrl : (y2.rf = []) = False := by simpa using hre
     (go_wp2_with (go_at_call 47; refine (FI2.out _ (HXA.out _)).mono ?_; rintro e w7 ⟨q, rfl, hq, hx⟩)); go_ret; exact ⟨ret_b HP.out.symm, hx.2⟩
    have HG := Lib.hid (HNX.out (fun _ => by
     by_cases h : ∃ j, ∃ hj : j < l.length, l[j].nm = z.cols[k].rf
     ·
      exact h
     ·
      exact absurd (fun j hj e => h ⟨j, hj, e⟩) hfd))
    have FI2 : Hid (∀ W, BoxS w W (some ⟨b, off, none⟩) l.length c → Calls Tryz.prog 47 #[.agg #[.slice (some ⟨b, off, none⟩) l.length c], .string ⟨z.cols[k].rf.toArray⟩] W fun e w' => ∃ q : Int, e = .returned (.int .i64 q) ∧ decide (q < 0) = false ∧ BoxS w w' (some ⟨b, off, none⟩) l.length c) := fun W h => (FI.out W h).mono (fun e w' ⟨q, he, hq, hB⟩ => ⟨q, he, decide_eq_false (fun h => hfd (hq.1 h)), hB⟩)
    clear hfd HNX HBAD FI hr; generalize z.cols[k] = y2 at *; have hrl : (y2.rf = []) = False := by simpa using hre
    (go_wp2_with (go_at_call 47; refine (FI2.out _ (HXA.out _)).mono ?_; rintro e w7 ⟨q, rfl, hq, hx⟩)); go_roundw
    case rel => exact ⟨k + 1, by omega, by go_num, HG.out, hx⟩
    case measure => simp [intOf]; omega
  have HM := Lib.hid him; have hmi : (m : Int) < (l.length : Int) := by omega
  have fk : IntKind.i64.wrap ((i : Int) - 1) = (m : Int) := by rw [IntKind.wrap_i64]; omega
  have hk1 : decide ((0 : Int) < (i : Int)) = true := by simp; omega
  have hk1' : decide (0 < i) = true := by simp; omega
  have CE2 : Hid (∀ W, BoxS w W (some ⟨b, off, none⟩) l.length c → W.cell? ⟨w.heap.size, 0, none⟩ = some (.slice (some ⟨b, off, none⟩) l.length c) ∧ W.cell? ⟨b, off + i * 4, none⟩ = some (.string ⟨z.nm.toArray⟩) ∧ W.cell? ⟨b, off + i * 4 + 1, none⟩ = some (.slice (A i).ca z.cols.length (A i).cc) ∧ W.cell? ⟨b, off + i * 4 + 2, none⟩ = some (.slice (A i).ua z.uq.length (A i).uc) ∧ W.cell? ⟨b, off + i * 4 + 3, none⟩ = some (.bool z.rt) ∧ W.cell? ⟨b, off + m * 4, none⟩ = some (.string ⟨l[m].nm.toArray⟩)) := fun W h => by
   obtain ⟨h1, h2, h3, h4, h5⟩ := CE.out W h; exact ⟨h1, h2, h3, h4, h5, ((HS.out _ h.2).spot m (by omega)).1⟩
  cases hb : Op.bytesLess l[m].nm z.nm
  case false =>
   have HP : Hid (schB l = false) := sch_no (fun h => by
    have h1 := h.up m hm; have e : l[m + 1] = z := by have := HZ.out; subst him; exact this.symm
    rw [e, hb] at h1; cases h1)
   clear HW him; generalize l[m]'(by omega) = y at *; (go_wp2_with fail); refine wp_region_held_drew (S := (fun W => W.cell? ⟨w.heap.size, 0, none⟩ = some (.slice (some ⟨b, off, none⟩) l.length c) ∧ W.cell? ⟨b, off + i * 4, none⟩ = some (.string ⟨z.nm.toArray⟩) ∧ W.cell? ⟨b, off + i * 4 + 1, none⟩ = some (.slice (A i).ca z.cols.length (A i).cc) ∧ W.cell? ⟨b, off + i * 4 + 2, none⟩ = some (.slice (A i).ua z.uq.length (A i).uc) ∧ W.cell? ⟨b, off + i * 4 + 3, none⟩ = some (.bool z.rt) ∧ W.cell? ⟨b, off + m * 4, none⟩ = some (.string ⟨y.nm.toArray⟩))) (by kernel_rfl) ?_ (fun hHeld => ?_)
   ·
    (first | exact CE2.out _ hx | exact CE2.out _ hx.drew)
   refine tkB (i := 0) ?_; refine tkB (i := 1) ?_; refine tkB (i := 2) ?_; refine tkB (i := 3) ?_; refine tkB (i := 4) ?_; refine tkR (i := 5) (fun K hK => ?_); go_simp
   (go_at_call 46; (with_reducible refine (TB.out _ ?_).mono ?_); (first | exact hx | exact hx.drew); rintro e w1 ⟨rfl, hx⟩)
   refine hK.out _ _ ?_ (fun hHeld => ?_)
   ·
    (first | exact CE2.out _ hx | exact CE2.out _ hx.drew)
   clear hK K; (try simp only [Act.put, tkS]); refine tkB (i := 6) ?_; refine tkB (i := 7) ?_; refine tkB (i := 8) ?_; refine tkB (i := 9) ?_; refine tkB (i := 10) ?_; refine tkB (i := 11) ?_; refine tkB (i := 12) ?_; refine tkB (i := 13) ?_; refine tkB (i := 14) ?_; refine tkB (i := 15) ?_; refine tkB (i := 16) ?_; refine tkB (i := 17) ?_; refine tkB (i := 18) ?_; refine tkB (i := 19) ?_; refine tkB (i := 20) ?_; refine tkB (i := 21) ?_; refine tkB (i := 22) ?_; refine tkB (i := 23) ?_; refine tkB (i := 24) ?_; refine tkB (i := 25) ?_; refine tkB (i := 26) ?_; refine wpAnyH_done (by kernel_rfl) ?_ _; (go_wp2_with fail); go_ret; exact ⟨ret_b HP.out.symm, by first | exact hx.2 | exact hx.2.drew⟩
  have HUP : Hid (∀ q (h : q + 1 < l.length), q + 1 < i + 1 → Op.bytesLess l[q].nm l[q + 1].nm = true) := fun q h hq => by
   by_cases e : q = m
   ·
    subst e; have e : l[q + 1] = z := by have := HZ.out; have := HM.out; subst this; exact HZ.out.symm
    rw [e]; exact hb
   ·
    exact HW.out.1.2 q h (by have := HM.out; omega)
  clear him; obtain ⟨y, hy⟩ : ∃ y, y = l[m]'(by omega) := ⟨_, rfl⟩; rw [← hy] at CE2 hb; clear hy; (go_wp2_with fail); refine wp_region_held_drew (S := (fun W => W.cell? ⟨w.heap.size, 0, none⟩ = some (.slice (some ⟨b, off, none⟩) l.length c) ∧ W.cell? ⟨b, off + i * 4, none⟩ = some (.string ⟨z.nm.toArray⟩) ∧ W.cell? ⟨b, off + i * 4 + 1, none⟩ = some (.slice (A i).ca z.cols.length (A i).cc) ∧ W.cell? ⟨b, off + i * 4 + 2, none⟩ = some (.slice (A i).ua z.uq.length (A i).uc) ∧ W.cell? ⟨b, off + i * 4 + 3, none⟩ = some (.bool z.rt) ∧ W.cell? ⟨b, off + m * 4, none⟩ = some (.string ⟨y.nm.toArray⟩))) (by kernel_rfl) ?_ (fun hHeld => ?_)
  ·
   (first | exact CE2.out _ hx | exact CE2.out _ hx.drew)
  refine tkB (i := 0) ?_; refine tkB (i := 1) ?_; refine tkB (i := 2) ?_; refine tkB (i := 3) ?_; refine tkB (i := 4) ?_; refine tkR (i := 5) (fun K hK => ?_); go_simp
  (go_at_call 46; (with_reducible refine (TB.out _ ?_).mono ?_); (first | exact hx | exact hx.drew); rintro e w1 ⟨rfl, hx⟩)
  refine hK.out _ _ ?_ (fun hHeld => ?_)
  ·
   (first | exact CE2.out _ hx | exact CE2.out _ hx.drew)
  clear hK K; (try simp only [Act.put, tkS]); refine tkB (i := 6) ?_; refine tkB (i := 7) ?_; refine tkB (i := 8) ?_; refine tkB (i := 9) ?_; refine tkB (i := 10) ?_; refine tkB (i := 11) ?_; refine tkB (i := 12) ?_; refine tkB (i := 13) ?_; refine tkB (i := 14) ?_; refine tkB (i := 15) ?_; refine tkB (i := 16) ?_; refine tkB (i := 17) ?_; refine tkB (i := 18) ?_; refine tkB (i := 19) ?_; refine tkB (i := 20) ?_; refine tkB (i := 21) ?_; refine tkB (i := 22) ?_; refine tkB (i := 23) ?_; refine tkB (i := 24) ?_; refine tkB (i := 25) ?_; refine tkB (i := 26) ?_; refine wpAnyH_done (by kernel_rfl) ?_ _; (go_wp2_with fail); have HX1 := Lib.hid hx; clear hx x0; go_loopw [4] (fun q wr => ∃ k : Nat, k ≤ z.cols.length ∧ q = .int .i64 k ∧ Hid ((∀ j, j < k → RefP l i hlt j) ∧ BoxS w wr (some ⟨b, off, none⟩) l.length c)) (fun q _ => z.cols.length - (intOf q).toNat)
  case atStart => exact ⟨0, Nat.zero_le _, rfl, fun j h => absurd h (by omega), HX1.out⟩
  case round =>
   obtain ⟨k, hk, rfl, HV⟩ := hrel; have hx := HV.out.2; have x0 := hx.cell; have x1 := (CE2.out _ hx).2.2.1; have hzl := (HO.out.2 _ (List.getElem_mem hlt)).2.1; rw [← HZ.out] at hzl; unfold maxLen at hzl
   by_cases hkl : k < z.cols.length
   case neg =>
    have hkd : decide ((k : Int) < (z.cols.length : Int)) = false := by simp; omega
    have HG : Hid (DonS l (i + 1)) := ⟨fun q h hq => by
     by_cases e : q = i
     ·
      subst e; exact ⟨HTB.out, fun j hj => HV.out.1 j (by have : j < z.cols.length := (by rw [HZ.out]; exact hj); omega) hj⟩
     ·
      exact HW.out.1.1 q h (by omega), HUP.out⟩
    clear HV HW; (go_wp2_with fail); go_roundw
    case rel => exact ⟨i + 1, by omega, by first | rfl | go_num, HG.out, hx⟩
    case measure => simp [intOf]; omega
   have hkk : (k : Int) < (z.cols.length : Int) := by omega
   have hih := (HS.out _ hx.2).has i hlt; rw [← HZ.out] at hih; obtain ⟨bc, oc, ea, -, hcc⟩ := hih.1.at k hkl; rw [ea] at x1; clear ea; obtain ⟨c0, c1, c2, c3, c4, c5, c6, c7⟩ := hcc k hkl
   have HNX : Hid ((z.cols[k].rf ≠ [] → ∃ j, ∃ hj : j < l.length, l[j].nm = z.cols[k].rf) → ∀ j, j < k + 1 → RefP l i hlt j) := fun hg j hj => by
    by_cases e : j = k
    ·
     subst e; intro hk' hr; have e1 : l[i].cols[j] = z.cols[j] := by congr 1; rw [HZ.out]
     rw [e1] at hr ⊢; exact hg hr
    ·
     exact HV.out.1 j (by omega)
   have HBAD : Hid ((z.cols[k].rf ≠ [] ∧ ∀ j (hj : j < l.length), l[j].nm ≠ z.cols[k].rf) → schB l = false) := fun ⟨h1, h2⟩ => sch_no (fun h => by
    have e1 : l[i].cols[k]'(by rw [← HZ.out]; exact hkl) = z.cols[k] := by congr 1; rw [HZ.out]
    obtain ⟨j, hj, e⟩ := h.ref i hlt k (by rw [← HZ.out]; exact hkl) (by rw [e1]; exact h1); rw [e1] at e; exact h2 j hj e)
   have FI : Hid (∀ W, BoxS w W (some ⟨b, off, none⟩) l.length c → Calls Tryz.prog 47 #[.agg #[.slice (some ⟨b, off, none⟩) l.length c], .string ⟨z.cols[k].rf.toArray⟩] W fun e w' => ∃ q : Int, e = .returned (.int .i64 q) ∧ (q < 0 ↔ ∀ j (h : j < l.length), l[j].nm ≠ z.cols[k].rf) ∧ BoxS w w' (some ⟨b, off, none⟩) l.length c) := fun W h => (findS l z.cols[k].rf _ c A B W (by have := HO.out.1; exact this) (HS.out _ h.2)).mono (fun e w' ⟨q, he, hq, hB⟩ => ⟨q, he, hq, h.later hB⟩)
   have hb1 : w.heap.size < wr.heap.size := (Array.getElem?_eq_some_iff.1 hx.1).1; have hnb : (w.heap.size = wr.heap.size) = False := by simp; omega
   have HXA : Hid (∀ o, BoxS w (wr.alloc o) (some ⟨b, off, none⟩) l.length c) := fun o => hx.new o
   clear HV hcc hih
   by_cases hr : z.cols[k].rf = []
   case pos =>
    have HG := Lib.hid (HNX.out (fun h => absurd hr h)); have hrn : (z.cols[k].rf != []) = false := by simpa using hr
    have hre : z.cols[k].rf.isEmpty = true := by simpa using hr
    rw [hr] at c6; clear hr HNX HBAD; generalize z.cols[k] = y2 at *; (go_wp2_with fail); go_roundw
    case rel => exact ⟨k + 1, by omega, by go_num, HG.out, HXA.out _⟩
    case measure => simp [intOf]; omega
   have hre : z.cols[k].rf.isEmpty = false := by simpa using hr
   by_cases hfd : ∀ j (h : j < l.length), l[j].nm ≠ z.cols[k].rf
   case pos =>
    have HP := Lib.hid (HBAD.out ⟨hr, hfd⟩); have FI2 : Hid (∀ W, BoxS w W (some ⟨b, off, none⟩) l.length c → Calls Tryz.prog 47 #[.agg #[.slice (some ⟨b, off, none⟩) l.length c], .string ⟨z.cols[k].rf.toArray⟩] W fun e w' => ∃ q : Int, e = .returned (.int .i64 q) ∧ decide (q < 0) = true ∧ BoxS w w' (some ⟨b, off, none⟩) l.length c) := fun W h => (FI.out W h).mono (fun e w' ⟨q, he, hq, hB⟩ => ⟨q, he, decide_eq_true (hq.2 hfd), hB⟩)
    clear hfd HNX HBAD FI hr; generalize z.cols[k] = y2 at *; have hrl : (y2.rf = []) = False := by simpa using hre
    (go_wp2_with (go_at_call 47; refine (FI2.out _ (HXA.out _)).mono ?_; rintro e w7 ⟨q, rfl, hq, hx⟩)); go_ret; exact ⟨ret_b HP.out.symm, hx.2⟩
   have HG := Lib.hid (HNX.out (fun _ => by
    by_cases h : ∃ j, ∃ hj : j < l.length, l[j].nm = z.cols[k].rf
    ·
     exact h
    ·
     exact absurd (fun j hj e => h ⟨j, hj, e⟩) hfd))
   have FI2 : Hid (∀ W, BoxS w W (some ⟨b, off, none⟩) l.length c → Calls Tryz.prog 47 #[.agg #[.slice (some ⟨b, off, none⟩) l.length c], .string ⟨z.cols[k].rf.toArray⟩] W fun e w' => ∃ q : Int, e = .returned (.int .i64 q) ∧ decide (q < 0) = false ∧ BoxS w w' (some ⟨b, off, none⟩) l.length c) := fun W h => (FI.out W h).mono (fun e w' ⟨q, he, hq, hB⟩ => ⟨q, he, decide_eq_false (fun h => hfd (hq.1 h)), hB⟩)
   clear hfd HNX HBAD FI hr; generalize z.cols[k] = y2 at *; have hrl : (y2.rf = []) = False := by simpa using hre
   (go_wp2_with (go_at_call 47; refine (FI2.out _ (HXA.out _)).mono ?_; rintro e w7 ⟨q, rfl, hq, hx⟩)); go_roundw
   case rel => exact ⟨k + 1, by omega, by go_num, HG.out, hx⟩
   case measure => simp [intOf]; omega
end Go.Proofs.YtlbcaaodkggohaaGreatDoor
