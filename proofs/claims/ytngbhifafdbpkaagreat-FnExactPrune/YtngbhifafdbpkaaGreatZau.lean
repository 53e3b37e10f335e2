import Derived.Test.YtngbhifafdbpkaaGreatZap
import Derived.Test.YtngbhifafdbpkaaGreatZad
import Derived.Test.YtngbhifafdbpkaaGreatZat
import Derived.Test.YtngbhifafdbpkaaGreatZag
import Derived.Test.YtngbhifafdbpkaaGreatZTk
namespace Go.Proofs.YtngbhifafdbpkaaGreat
open Go.RowKit
set_option linter.unusedSimpArgs false
structure RowP (t : Tb) (id : Int) (l : List (List At)) : Prop where
  id : inB 1 id 1000000 = true
  len : l.length = t.cols.length
  fit : ∀ i (h : i < l.length) (h' : i < t.cols.length), datumB l[i] = true ∧ fitC t.cols[i] l[i] = 0
noncomputable def rowB (t : Tb) (id : Int) (l : List (List At)) : Bool := @decide (RowP t id l) (Classical.propDecidable _)
theorem row_no {t : Tb} {id : Int} {l : List (List At)} (h : ¬ RowP t id l) : rowB t id l = false := by unfold rowB; exact @decide_eq_false _ (Classical.propDecidable _) h
theorem row_yes {t : Tb} {id : Int} {l : List (List At)} (h : RowP t id l) : rowB t id l = true := by unfold rowB; exact @decide_eq_true _ (Classical.propDecidable _) h
def BoxTR (ty tr : TypeId) (w W : World) (t : Tb) (ca : Option Addr) (cc : Nat) (ua : Option Addr) (uc : Nat) (id : Int) (n : Nat) (a : Option Addr) (c : Nat) : Prop := (W.heap[w.heap.size]? = some (.cells #[.string ⟨t.nm.toArray⟩, .slice ca t.cols.length cc, .slice ua t.uq.length uc, .bool t.rt] ty) ∧ W.heap[w.heap.size + 1]? = some (.cells #[.int .i64 id, .slice a n c] tr)) ∧ Below w.heap.size w W
theorem BoxTR.later {ty tr : TypeId} {w W W' : World} {t : Tb} {ca : Option Addr} {cc : Nat} {ua : Option Addr} {uc : Nat} {id : Int} {n : Nat} {a : Option Addr} {c : Nat} (h : BoxTR ty tr w W t ca cc ua uc id n a c) (hB : Below W.heap.size W W') : BoxTR ty tr w W' t ca cc ua uc id n a c := ⟨⟨heap_keptC h.1.1 hB, heap_keptC h.1.2 hB⟩, h.2.trans (hB.mono h.2.size)⟩
theorem BoxTR.drew {ty tr : TypeId} {w W : World} {t : Tb} {ca : Option Addr} {cc : Nat} {ua : Option Addr} {uc : Nat} {id : Int} {n : Nat} {a : Option Addr} {c : Nat} (h : BoxTR ty tr w W t ca cc ua uc id n a c) : BoxTR ty tr w W.drew t ca cc ua uc id n a c := h.later (Below.refl _ _).drew
theorem boxTR (ty tr : TypeId) (w : World) (t : Tb) (ca : Option Addr) (cc : Nat) (ua : Option Addr) (uc : Nat) (id : Int) (n : Nat) (a : Option Addr) (c : Nat) : BoxTR ty tr w ((w.alloc (.cells #[.string ⟨t.nm.toArray⟩, .slice ca t.cols.length cc, .slice ua t.uq.length uc, .bool t.rt] ty)).alloc (.cells #[.int .i64 id, .slice a n c] tr)) t ca cc ua uc id n a c := by
  have h1 : Below (w.alloc (.cells #[.string ⟨t.nm.toArray⟩, .slice ca t.cols.length cc, .slice ua t.uq.length uc, .bool t.rt] ty)).heap.size (w.alloc (.cells #[.string ⟨t.nm.toArray⟩, .slice ca t.cols.length cc, .slice ua t.uq.length uc, .bool t.rt] ty)) ((w.alloc (.cells #[.string ⟨t.nm.toArray⟩, .slice ca t.cols.length cc, .slice ua t.uq.length uc, .bool t.rt] ty)).alloc (.cells #[.int .i64 id, .slice a n c] tr)) := (Below.refl _ _).alloc (Nat.le_refl _) _
  refine ⟨⟨heap_keptC (heap_newC _ _) h1, ?_⟩, ((Below.refl _ _).alloc (Nat.le_refl _) _).alloc (by simp) _⟩
  have h := heap_newC (w.alloc (.cells #[.string ⟨t.nm.toArray⟩, .slice ca t.cols.length cc, .slice ua t.uq.length uc, .bool t.rt] ty)) (.cells #[.int .i64 id, .slice a n c] tr)
  simpa using h
set_option maxRecDepth 100000 in
set_option maxHeartbeats 6400000 in
theorem rowS (t : Tb) (ca : Option Addr) (cc : Nat) (ua : Option Addr) (uc : Nat) (id : Int) (l : List (List At)) (a : Option Addr) (c : Nat) (X : Nat → AdS) (B : Nat → Prop) (S : Nat) (w : World) (ho : t.ok) (hs : SetsOk l) (hT : t.Has w B ca ua) (hw : S ≤ w.heap.size) (hS : Sets w (· < S) a l X) :
    Calls Tryz.prog 35 #[.agg #[.string ⟨t.nm.toArray⟩, .slice ca t.cols.length cc, .slice ua t.uq.length uc, .bool t.rt], .agg #[.int .i64 id, .slice a l.length c]] w fun e w' => e = .returned (.bool (rowB t id l)) ∧ Below w.heap.size w w' := by
  have hcl := ho.2.1
  have hll := hs.1
  unfold maxLen at hcl hll
  have HO : Hid t.ok := ho
  have HL : Hid (∀ s ∈ l, s.length ≤ maxLen ∧ ∀ x ∈ s, x.t.length ≤ maxLen) := hs.2
  have HT : Hid (t.Has w B ca ua) := hT
  have HS : Hid (S ≤ w.heap.size ∧ ∀ W, Below w.heap.size w W → Sets W (· < S) a l X) := ⟨hw, fun W h => hS.same (fun b hb => h.block b (by omega)) (fun _ h => h)⟩
  have hx := boxTR 70 77 w t ca cc ua uc id l.length a c
  clear ho hs hT hS hw
  have x1 := cell_at (o := 1) hx.1.1 rfl
  have y0 := cell_at (o := 0) hx.1.2 rfl
  have y1 := cell_at (o := 1) hx.1.2 rfl
  cases hi : inB 1 id 1000000
  case false =>
    have HP : Hid (rowB t id l = false) := row_no (fun h => by rw [h.id] at hi; cases hi)
    go_enter Tryz.func35, Tryz.ntmps35
    go_wp2_with (go_at_call 32; refine (inS _ _ _ _).mono ?_; rintro e w' ⟨rfl, rfl⟩)
    go_ret
    exact ⟨ret_b HP.out.symm, hx.2⟩
  by_cases hn : l.length = t.cols.length
  case neg =>
    have HP : Hid (rowB t id l = false) := row_no (fun h => hn h.len)
    have e1 : ((l.length : Int) != (t.cols.length : Int)) = true := bne_iff_ne.2 (by omega)
    clear hn
    go_enter Tryz.func35, Tryz.ntmps35
    go_wp2_with (go_at_call 32; refine (inS _ _ _ _).mono ?_; rintro e w' ⟨rfl, rfl⟩)
    go_ret
    exact ⟨ret_b HP.out.symm, hx.2⟩
  have HN := Lib.hid hn
  have HI := Lib.hid hi
  have e1 : ((l.length : Int) != (t.cols.length : Int)) = false := by simp [bne, hn]
  clear hn
  go_enter Tryz.func35, Tryz.ntmps35
  go_wp2_with (go_at_call 32; refine (inS _ _ _ _).mono ?_; rintro e w' ⟨rfl, rfl⟩)
  have HX0 := Lib.hid hx
  clear hx x1 y0 y1 hi e1
  go_loopw [5] (fun q wr => ∃ k : Nat, k ≤ l.length ∧ q = .int .i64 k ∧ Hid ((∀ m (h : m < l.length) (h' : m < t.cols.length), m < k → datumB l[m] = true ∧ fitC t.cols[m] l[m] = 0) ∧ BoxTR 70 77 w wr t ca cc ua uc id l.length a c)) (fun q _ => l.length - (intOf q).toNat)
  case atStart => exact ⟨0, Nat.zero_le _, rfl, fun m _ _ h => absurd h (by omega), HX0.out⟩
  case round =>
    obtain ⟨i, hi, rfl, HW⟩ := hrel
    have hx := HW.out.2
    have y1 := cell_at (o := 1) hx.1.2 rfl
    by_cases hlt : i < l.length
    case neg =>
      have hid : decide ((i : Int) < (l.length : Int)) = false := by simp; omega
      have HP : Hid (rowB t id l = true) := row_yes ⟨HI.out, HN.out, fun m h h' => HW.out.1 m h h' (by omega)⟩
      clear HW
      go_wp2_with fail
      go_ret
      exact ⟨ret_b HP.out.symm, hx.2⟩
    have hlc : i < t.cols.length := by rw [← HN.out]; exact hlt
    have hki : (i : Int) < (l.length : Int) := by omega
    have hkc : (i : Int) < (t.cols.length : Int) := by omega
    obtain ⟨b2, off2, rfl, -, -⟩ := (HS.out.2 _ hx.2).at i hlt
    obtain ⟨b, off, rfl, -, -⟩ := (HT.out.later hx.2).1.at i hlc
    have HSC : Hid (∀ W, Below w.heap.size w W → W.cell? ⟨b2, off2 + i, none⟩ = some (.slice (X i).a l[i].length (X i).c)) := fun W h => (HS.out.2 W h).spot i hlt
    have HCA : Hid (∀ W, Below w.heap.size w W → ColAt W b (off + i * 8) t.cols[i]) := fun W h => by
      obtain ⟨b', off', e, -, hc'⟩ := (HT.out.later h).1.at i hlc
      simp only [Option.some.injEq, Addr.mk.injEq, and_true] at e
      obtain ⟨rfl, rfl⟩ := e
      exact hc' i hlc
    have DO : Hid (∀ W, BoxTR 70 77 w W t (some ⟨b, off, none⟩) cc ua uc id l.length (some ⟨b2, off2, none⟩) c → Calls Tryz.prog 62 #[.slice (X i).a l[i].length (X i).c] W fun e w' => e = .returned (.bool (datumB l[i])) ∧ BoxTR 70 77 w w' t (some ⟨b, off, none⟩) cc ua uc id l.length (some ⟨b2, off2, none⟩) c) := fun W h => (datumOKs l[i] _ _ S W (HL.out _ (List.getElem_mem hlt)).1 (HL.out _ (List.getElem_mem hlt)).2 (Nat.le_trans HS.out.1 h.2.size) ((HS.out.2 _ h.2).has i hlt)).mono (fun e w' ⟨he, hB⟩ => ⟨he, h.later hB⟩)
    have FT : Hid (∀ W, BoxTR 70 77 w W t (some ⟨b, off, none⟩) cc ua uc id l.length (some ⟨b2, off2, none⟩) c → Calls Tryz.prog 63 #[.agg #[.string ⟨t.cols[i].nm.toArray⟩, .int .i64 t.cols[i].k, .int .i64 t.cols[i].mn, .int .i64 t.cols[i].mx, .int .i64 t.cols[i].lo, .int .i64 t.cols[i].hi, .string ⟨t.cols[i].rf.toArray⟩, .bool t.cols[i].st], .slice (X i).a l[i].length (X i).c] W fun e w' => e = .returned (.int .i64 (fitC t.cols[i] l[i])) ∧ BoxTR 70 77 w w' t (some ⟨b, off, none⟩) cc ua uc id l.length (some ⟨b2, off2, none⟩) c) := fun W h => (fitsS t.cols[i] l[i] _ _ S W (HL.out _ (List.getElem_mem hlt)).1 (Nat.le_trans HS.out.1 h.2.size) ((HS.out.2 _ h.2).has i hlt)).mono (fun e w' ⟨he, hB⟩ => ⟨he, h.later hB⟩)
    cases hd : datumB l[i]
    case false =>
      have HP : Hid (rowB t id l = false) := row_no (fun h => by have := (h.fit i hlt hlc).1; rw [hd] at this; cases this)
      rw [hd] at DO
      have CE : Hid (∀ W, BoxTR 70 77 w W t (some ⟨b, off, none⟩) cc ua uc id l.length (some ⟨b2, off2, none⟩) c → W.cell? ⟨w.heap.size, 1, none⟩ = some (.slice (some ⟨b, off, none⟩) t.cols.length cc) ∧ W.cell? ⟨w.heap.size + 1, 1, none⟩ = some (.slice (some ⟨b2, off2, none⟩) l.length c) ∧ W.cell? ⟨b2, off2 + i, none⟩ = some (.slice (X i).a l[i].length (X i).c)) := fun W h => ⟨cell_at (o := 1) h.1.1 rfl, cell_at (o := 1) h.1.2 rfl, HSC.out W h.2⟩
      clear hd HW HSC HCA FT
      generalize l[i] = s at *
      go_wp2_with fail
      refine wp_region_held_drew (S := (fun W => W.cell? ⟨w.heap.size, 1, none⟩ = some (.slice (some ⟨b, off, none⟩) t.cols.length cc) ∧ W.cell? ⟨w.heap.size + 1, 1, none⟩ = some (.slice (some ⟨b2, off2, none⟩) l.length c) ∧ W.cell? ⟨b2, off2 + i, none⟩ = some (.slice (X i).a s.length (X i).c))) (by kernel_rfl) ?_ (fun hHeld => ?_)
      · (first | exact CE.out _ hx | exact CE.out _ hx.drew)
      refine tkB (i := 0) ?_
      refine tkB (i := 1) ?_
      refine tkB (i := 2) ?_
      refine tkB (i := 3) ?_
      refine tkB (i := 4) ?_
      refine tkR (i := 5) (fun K hK => ?_)
      go_simp
      (first | (go_at_call 62; refine (DO.out _ (by first | exact hx | exact hx.drew)).mono ?_; rintro e w1 ⟨rfl, hx⟩) | (go_at_call 63; refine (FT.out _ (by first | exact hx | exact hx.drew)).mono ?_; rintro e w2 ⟨rfl, hx⟩))
      refine hK.out _ _ ?_ (fun hHeld => ?_)
      · (first | exact CE.out _ hx | exact CE.out _ hx.drew)
      clear hK K
      try simp only [Act.put, tkS]
      refine tkB (i := 6) ?_
      refine tkB (i := 7) ?_
      refine tkV (i := 8) ?_
      refine tkV (i := 9) ?_
      refine tkV (i := 10) ?_
      refine tkV (i := 11) ?_
      refine tkV (i := 12) ?_
      refine tkV (i := 13) ?_
      refine tkV (i := 14) ?_
      refine tkV (i := 15) ?_
      refine tkV (i := 16) ?_
      refine tkV (i := 17) ?_
      refine tkV (i := 18) ?_
      refine tkV (i := 19) ?_
      refine tkB (i := 20) ?_
      refine wpAnyH_done (by kernel_rfl) ?_ _
      go_wp2_with fail
      go_ret
      exact ⟨ret_b HP.out.symm, by first | exact hx.2 | exact hx.2.drew⟩
    rw [hd] at DO
    have HD := Lib.hid hd
    clear hd
    have CE : Hid (∀ W, BoxTR 70 77 w W t (some ⟨b, off, none⟩) cc ua uc id l.length (some ⟨b2, off2, none⟩) c → W.cell? ⟨w.heap.size, 1, none⟩ = some (.slice (some ⟨b, off, none⟩) t.cols.length cc) ∧ W.cell? ⟨w.heap.size + 1, 1, none⟩ = some (.slice (some ⟨b2, off2, none⟩) l.length c) ∧ W.cell? ⟨b2, off2 + i, none⟩ = some (.slice (X i).a l[i].length (X i).c) ∧ ColAt W b (off + i * 8) t.cols[i]) := fun W h => ⟨cell_at (o := 1) h.1.1 rfl, cell_at (o := 1) h.1.2 rfl, HSC.out W h.2, HCA.out W h.2⟩
    unfold ColAt at CE
    by_cases hf : fitC t.cols[i] l[i] = 0
    case pos =>
      have HG : Hid (∀ m (h : m < l.length) (h' : m < t.cols.length), m < i + 1 → datumB l[m] = true ∧ fitC t.cols[m] l[m] = 0) := fun m h h' hm => by
        by_cases e : m = i
        · subst e; exact ⟨HD.out, hf⟩
        · exact HW.out.1 m h h' (by omega)
      rw [hf] at FT
      clear hf HW HSC HCA HD
      generalize l[i] = s at *
      generalize t.cols[i] = z at *
      go_wp2_with fail
      refine wp_region_held_drew (S := (fun W => W.cell? ⟨w.heap.size, 1, none⟩ = some (.slice (some ⟨b, off, none⟩) t.cols.length cc) ∧ W.cell? ⟨w.heap.size + 1, 1, none⟩ = some (.slice (some ⟨b2, off2, none⟩) l.length c) ∧ W.cell? ⟨b2, off2 + i, none⟩ = some (.slice (X i).a s.length (X i).c) ∧ W.cell? ⟨b, off + i * 8, none⟩ = some (.string ⟨z.nm.toArray⟩) ∧ W.cell? ⟨b, off + i * 8 + 1, none⟩ = some (.int .i64 z.k) ∧ W.cell? ⟨b, off + i * 8 + 2, none⟩ = some (.int .i64 z.mn) ∧ W.cell? ⟨b, off + i * 8 + 3, none⟩ = some (.int .i64 z.mx) ∧ W.cell? ⟨b, off + i * 8 + 4, none⟩ = some (.int .i64 z.lo) ∧ W.cell? ⟨b, off + i * 8 + 5, none⟩ = some (.int .i64 z.hi) ∧ W.cell? ⟨b, off + i * 8 + 6, none⟩ = some (.string ⟨z.rf.toArray⟩) ∧ W.cell? ⟨b, off + i * 8 + 7, none⟩ = some (.bool z.st))) (by kernel_rfl) ?_ (fun hHeld => ?_)
      · (first | exact CE.out _ hx | exact CE.out _ hx.drew)
      refine tkB (i := 0) ?_
      refine tkB (i := 1) ?_
      refine tkB (i := 2) ?_
      refine tkB (i := 3) ?_
      refine tkB (i := 4) ?_
      refine tkR (i := 5) (fun K hK => ?_)
      go_simp
      (first | (go_at_call 62; refine (DO.out _ (by first | exact hx | exact hx.drew)).mono ?_; rintro e w1 ⟨rfl, hx⟩) | (go_at_call 63; refine (FT.out _ (by first | exact hx | exact hx.drew)).mono ?_; rintro e w2 ⟨rfl, hx⟩))
      refine hK.out _ _ ?_ (fun hHeld => ?_)
      · (first | exact CE.out _ hx | exact CE.out _ hx.drew)
      clear hK K
      try simp only [Act.put, tkS]
      refine tkB (i := 6) ?_
      refine tkB (i := 7) ?_
      refine tkB (i := 8) ?_
      refine tkB (i := 9) ?_
      refine tkB (i := 10) ?_
      refine tkB (i := 11) ?_
      refine tkB (i := 12) ?_
      refine tkB (i := 13) ?_
      refine tkB (i := 14) ?_
      refine tkB (i := 15) ?_
      refine tkB (i := 16) ?_
      refine tkB (i := 17) ?_
      refine tkR (i := 18) (fun K hK => ?_)
      go_simp
      (first | (go_at_call 62; refine (DO.out _ (by first | exact hx | exact hx.drew)).mono ?_; rintro e w1 ⟨rfl, hx⟩) | (go_at_call 63; refine (FT.out _ (by first | exact hx | exact hx.drew)).mono ?_; rintro e w2 ⟨rfl, hx⟩))
      refine hK.out _ _ ?_ (fun hHeld => ?_)
      · (first | exact CE.out _ hx | exact CE.out _ hx.drew)
      clear hK K
      try simp only [Act.put, tkS]
      refine tkB (i := 19) ?_
      refine tkB (i := 20) ?_
      refine wpAnyH_done (by kernel_rfl) ?_ _
      go_wp2_with fail
      go_roundw
      case rel => exact ⟨i + 1, by omega, by go_num, HG.out, by first | exact hx | exact hx.drew⟩
      case measure => simp [intOf]; omega
    have HP : Hid (rowB t id l = false) := row_no (fun h => hf (h.fit i hlt hlc).2)
    have f1 : (fitC t.cols[i] l[i] == 0) = false := by simpa using hf
    have f2 : decide (fitC t.cols[i] l[i] = 0) = false := decide_eq_false hf
    clear hf HW HSC HCA HD
    generalize fitC t.cols[i] l[i] = r at *
    generalize l[i] = s at *
    generalize t.cols[i] = z at *
    go_wp2_with fail
    refine wp_region_held_drew (S := (fun W => W.cell? ⟨w.heap.size, 1, none⟩ = some (.slice (some ⟨b, off, none⟩) t.cols.length cc) ∧ W.cell? ⟨w.heap.size + 1, 1, none⟩ = some (.slice (some ⟨b2, off2, none⟩) l.length c) ∧ W.cell? ⟨b2, off2 + i, none⟩ = some (.slice (X i).a s.length (X i).c) ∧ W.cell? ⟨b, off + i * 8, none⟩ = some (.string ⟨z.nm.toArray⟩) ∧ W.cell? ⟨b, off + i * 8 + 1, none⟩ = some (.int .i64 z.k) ∧ W.cell? ⟨b, off + i * 8 + 2, none⟩ = some (.int .i64 z.mn) ∧ W.cell? ⟨b, off + i * 8 + 3, none⟩ = some (.int .i64 z.mx) ∧ W.cell? ⟨b, off + i * 8 + 4, none⟩ = some (.int .i64 z.lo) ∧ W.cell? ⟨b, off + i * 8 + 5, none⟩ = some (.int .i64 z.hi) ∧ W.cell? ⟨b, off + i * 8 + 6, none⟩ = some (.string ⟨z.rf.toArray⟩) ∧ W.cell? ⟨b, off + i * 8 + 7, none⟩ = some (.bool z.st))) (by kernel_rfl) ?_ (fun hHeld => ?_)
    · (first | exact CE.out _ hx | exact CE.out _ hx.drew)
    refine tkB (i := 0) ?_
    refine tkB (i := 1) ?_
    refine tkB (i := 2) ?_
    refine tkB (i := 3) ?_
    refine tkB (i := 4) ?_
    refine tkR (i := 5) (fun K hK => ?_)
    go_simp
    (first | (go_at_call 62; refine (DO.out _ (by first | exact hx | exact hx.drew)).mono ?_; rintro e w1 ⟨rfl, hx⟩) | (go_at_call 63; refine (FT.out _ (by first | exact hx | exact hx.drew)).mono ?_; rintro e w2 ⟨rfl, hx⟩))
    refine hK.out _ _ ?_ (fun hHeld => ?_)
    · (first | exact CE.out _ hx | exact CE.out _ hx.drew)
    clear hK K
    try simp only [Act.put, tkS]
    refine tkB (i := 6) ?_
    refine tkB (i := 7) ?_
    refine tkB (i := 8) ?_
    refine tkB (i := 9) ?_
    refine tkB (i := 10) ?_
    refine tkB (i := 11) ?_
    refine tkB (i := 12) ?_
    refine tkB (i := 13) ?_
    refine tkB (i := 14) ?_
    refine tkB (i := 15) ?_
    refine tkB (i := 16) ?_
    refine tkB (i := 17) ?_
    refine tkR (i := 18) (fun K hK => ?_)
    go_simp
    (first | (go_at_call 62; refine (DO.out _ (by first | exact hx | exact hx.drew)).mono ?_; rintro e w1 ⟨rfl, hx⟩) | (go_at_call 63; refine (FT.out _ (by first | exact hx | exact hx.drew)).mono ?_; rintro e w2 ⟨rfl, hx⟩))
    refine hK.out _ _ ?_ (fun hHeld => ?_)
    · (first | exact CE.out _ hx | exact CE.out _ hx.drew)
    clear hK K
    try simp only [Act.put, tkS]
    refine tkB (i := 19) ?_
    refine tkB (i := 20) ?_
    refine wpAnyH_done (by kernel_rfl) ?_ _
    go_wp2_with fail
    go_ret
    exact ⟨ret_b HP.out.symm, by first | exact hx.2 | exact hx.2.drew⟩
end Go.Proofs.YtngbhifafdbpkaaGreat
