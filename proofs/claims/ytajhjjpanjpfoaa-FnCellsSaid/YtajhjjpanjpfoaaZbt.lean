import Derived.Test.YtajhjjpanjpfoaaZbs
import Derived.Test.YtajhjjpanjpfoaaZbd
import Derived.Test.YtajhjjpanjpfoaaZau
import Derived.Test.YtajhjjpanjpfoaaZTk
namespace Go.Proofs.Ytajhjjpanjpfoaa
open Go.RowKit
set_option linter.unusedSimpArgs false
structure IQS (w wr : World) (tc : Array Value) (id : Int) (cs : List (List At)) (q n mb : Nat) : Prop where
  tb : wr.heap[w.heap.size]? = some (.cells tc 27)
  zr : wr.heap[w.heap.size + 1 + 1]? = some (.cells #[.int .i64 0, .slice none 0 0] 34)
  mx : wr.heap[mb]? = some (.cells #[.int .i64 id, .slice (some ⟨q, 0, none⟩) cs.length n] 34)
  lo : w.heap.size + 1 + 1 + 1 ≤ mb
  own : Own wr (dAtomSS cs) (fun b => w.heap.size + 1 + 1 + 1 ≤ b ∧ b ≠ mb ∧ b < wr.heap.size) (.slice (some ⟨q, 0, none⟩) cs.length n)
  bel : Below w.heap.size w wr
theorem IQS.later {w wr W : World} {tc : Array Value} {id : Int} {cs : List (List At)} {q n mb : Nat} (h : IQS w wr tc id cs q n mb) (hB : Below wr.heap.size wr W) : IQS w W tc id cs q n mb := ⟨heap_keptD h.tb hB, heap_keptD h.zr hB, heap_keptD h.mx hB, h.lo, (h.own.later hB).mono (fun _ hb => ⟨hb.1, hb.2.1, Nat.lt_of_lt_of_le hb.2.2 hB.size⟩), h.bel.trans (hB.mono h.bel.size)⟩
theorem IQS.store {w wr W : World} {tc : Array Value} {id : Int} {cs : List (List At)} {q n mb k : Nat} {o : List At} {a : Option Addr} {cp : Nat} (h : IQS w wr tc id cs q n mb) (hB : Below wr.heap.size wr W) (hk : k < cs.length) (ho : Own W (dAtomS o) (fun c => wr.heap.size ≤ c ∧ c < W.heap.size) (.slice a o.length cp)) :
    IQS w (W.setCell ⟨q, k, none⟩ (.slice a o.length cp)) tc id (cs.set k o) q n mb := by
  have h2 := h.later hB
  obtain ⟨hq, -⟩ := own_atA h.own hk
  have hm := (Array.getElem?_eq_some_iff.1 h.mx).1
  have st : ∀ b x, W.heap[b]? = some x → b ≠ q → (W.setCell ⟨q, k, none⟩ (.slice a o.length cp)).heap[b]? = some x := fun b x hx hb => by
    rw [Below.heap_setCell _ ⟨q, k, none⟩ _ _ hb]; exact hx
  have hs : (W.setCell ⟨q, k, none⟩ (.slice a o.length cp)).heap.size = W.heap.size := by simp [World.setCell]
  refine ⟨st _ _ h2.tb (by have := hq.1; omega), st _ _ h2.zr (by have := hq.1; omega), by rw [List.length_set]; exact st _ _ h2.mx (fun e => hq.2.1 e.symm), h.lo, ?_, h2.bel.setCell (by show w.heap.size ≤ q; have := hq.1; omega) _⟩
  refine (own_setA h.own (fun b hb => hb.2.2) hB hk ho (fun b hb => hb.1)).mono (fun b hb => ?_)
  have hsz := hB.size
  have hlo := h.lo
  rcases hb with hb | hb
  · exact ⟨hb.1, hb.2.1, by rw [hs]; omega⟩
  · exact ⟨by have := hb.1; omega, by have := hb.1; omega, by rw [hs]; exact hb.2⟩
set_option maxRecDepth 100000 in
set_option maxHeartbeats 12800000 in
theorem setRowI (t : Tb) (ca : Option Addr) (cc : Nat) (ua : Option Addr) (uc : Nat) (A : Nat → Prop) (r : RowV) (ra : Option Addr) (rc : Nat) (R : Nat → Prop) (list : List SetV) (a : Option Addr) (c : Nat) (B : Nat → Prop) (w : World) (hto : t.ok) (hlo : (dSetS list).le 1048576) (hr : (dAtomSS r.cells).le 1048576) (hcap : list.length ≤ c) (hT : t.Has w A ca ua) (hR : Rd w R (dAtomSS r.cells) (.slice ra r.cells.length rc)) (hL : Rd w B (dSetS list) (.slice a list.length c)) :
    Calls Try.prog 8 #[.agg #[.string ⟨t.nm.toArray⟩, .slice ca t.cols.length cc, .slice ua t.uq.length uc, .bool t.rt], .agg #[.int .i64 r.id, .slice ra r.cells.length rc], .slice a list.length c] w (RowAnsO w (seR t r list) (seC t r list)) := by
  have hlm : (dSetS list).le maxLen := D.le.mono (by unfold maxLen; omega) _ hlo
  have hrm : (dAtomSS r.cells).le maxLen := D.le.mono (by unfold maxLen; omega) _ hr
  have hll : list.length ≤ 1048576 := (Ls_le.1 hlo).2.1
  have RO : Hid (∀ W, MB3 w W #[.string ⟨t.nm.toArray⟩, .slice ca t.cols.length cc, .slice ua t.uq.length uc, .bool t.rt] #[.int .i64 r.id, .slice ra r.cells.length rc] #[.int .i64 0, .slice none 0 0] → Calls Try.prog 11 #[.agg #[.string ⟨t.nm.toArray⟩, .slice ca t.cols.length cc, .slice ua t.uq.length uc, .bool t.rt], .agg #[.int .i64 r.id, .slice ra r.cells.length rc]] W fun e w' => e = .returned (.bool (rokM t r)) ∧ MB3 w w' #[.string ⟨t.nm.toArray⟩, .slice ca t.cols.length cc, .slice ua t.uq.length uc, .bool t.rt] #[.int .i64 r.id, .slice ra r.cells.length rc] #[.int .i64 0, .slice none 0 0]) := fun W h => by
    obtain ⟨X, hX⟩ := (hR.later h.bel).rowX
    exact (rowOKi t ca cc ua uc r.id r.cells ra rc X A W.heap.size W hto (le_sets hrm) (hT.later h.bel) (Nat.le_refl _) hX).mono (fun e w' ⟨he, hB⟩ => ⟨he, h.later hB⟩)
  have HL : Hid (∀ W, Below w.heap.size w W → Rd W B (Ls 3 dSet list) (.slice a list.length c)) := fun W h => Rd.later hL h
  have HT : Hid (t.ok ∧ ∀ W, Below w.heap.size w W → t.Has W A ca ua) := ⟨hto, fun W h => hT.later h⟩
  have HLO := Lib.hid hlo
  have hcl := hto.2.1
  unfold maxLen at hcl
  have CO : Hid (∀ W, MB3 w W #[.string ⟨t.nm.toArray⟩, .slice ca t.cols.length cc, .slice ua t.uq.length uc, .bool t.rt] #[.int .i64 r.id, .slice ra r.cells.length rc] #[.int .i64 0, .slice none 0 0] → Calls Try.prog 19 #[.slice a list.length c, .int .i64 6, .func (.func 20) #[] #[]] W fun e w' => e = .returned (.bool (valsB list)) ∧ MB3 w w' #[.string ⟨t.nm.toArray⟩, .slice ca t.cols.length cc, .slice ua t.uq.length uc, .bool t.rt] #[.int .i64 r.id, .slice ra r.cells.length rc] #[.int .i64 0, .slice none 0 0]) := fun W h => (fewValI list a c B W hlm (hL.later h.bel)).mono (fun e w' ⟨he, hB⟩ => ⟨he, h.later hB⟩)
  have CC : Hid (valsB list = true → ∀ W, MB3 w W #[.string ⟨t.nm.toArray⟩, .slice ca t.cols.length cc, .slice ua t.uq.length uc, .bool t.rt] #[.int .i64 r.id, .slice ra r.cells.length rc] #[.int .i64 0, .slice none 0 0] → Calls Try.prog 21 #[.agg #[.string ⟨t.nm.toArray⟩, .slice ca t.cols.length cc, .slice ua t.uq.length uc, .bool t.rt], .slice a list.length c] W fun e w' => e = .returned (.int .i64 (setsC t list)) ∧ MB3 w w' #[.string ⟨t.nm.toArray⟩, .slice ca t.cols.length cc, .slice ua t.uq.length uc, .bool t.rt] #[.int .i64 r.id, .slice ra r.cells.length rc] #[.int .i64 0, .slice none 0 0]) := fun hv W h => (rowCodeI t ca cc ua uc A list a c B W hto hlm (fun k hk => (val_set ((vals_all hv).2 k hk)).1) hcap (hT.later h.bel) (hL.later h.bel)).mono (fun e w' ⟨he, hB⟩ => ⟨he, h.later hB⟩)
  have CP : Hid (∀ W, MB3 w W #[.string ⟨t.nm.toArray⟩, .slice ca t.cols.length cc, .slice ua t.uq.length uc, .bool t.rt] #[.int .i64 r.id, .slice ra r.cells.length rc] #[.int .i64 0, .slice none 0 0] → Calls Try.prog 22 #[.pointer (some ⟨w.heap.size + 1, 0, none⟩)] W fun e w' => ∃ q : Nat, e = .returned (.agg #[.int .i64 r.id, .slice (some ⟨q, 0, none⟩) r.cells.length r.cells.length]) ∧ Own w' (dAtomSS r.cells) (fun c => W.heap.size ≤ c ∧ c < w'.heap.size) (.slice (some ⟨q, 0, none⟩) r.cells.length r.cells.length) ∧ Below W.heap.size W w') := fun W h => copyRowI r (w.heap.size + 1) 0 ra rc R W hr (hR.later h.bel) (cell_at (o := 0) h.rb rfl) (cell_at (o := 1) h.rb rfl)
  have hb := mb3 w #[.string ⟨t.nm.toArray⟩, .slice ca t.cols.length cc, .slice ua t.uq.length uc, .bool t.rt] #[.int .i64 r.id, .slice ra r.cells.length rc] #[.int .i64 0, .slice none 0 0]
  have HB := Lib.hid hb
  have x0 := cell_at (o := 0) hb.tb rfl
  have x1 := cell_at (o := 1) hb.tb rfl
  have x2 := cell_at (o := 2) hb.tb rfl
  have x3 := cell_at (o := 3) hb.tb rfl
  have y0 := cell_at (o := 0) hb.rb rfl
  have y1 := cell_at (o := 1) hb.rb rfl
  have z0 := cell_at (o := 0) hb.zr rfl
  have z1 := cell_at (o := 1) hb.zr rfl
  have f0 := frozen_at 0 hb.zr
  have f1 := frozen_at 1 hb.zr
  clear hlm hrm hto hlo hr hcap hT hR hL hb
  by_cases h4 : 4096 < list.length
  case pos =>
    have HP := Lib.hid (se_long (t := t) (r := r) h4)
    have hd : decide (4096 < (list.length : Int)) = true := decide_eq_true (by omega)
    clear h4
    go_enter Try.func8, Try.ntmps8
    go_wp2_with fail
    refine bodyPost_ret (v := .tuple #[.agg #[.int .i64 0, .slice none 0 0], .int .i64 2]) (by simp [results, Try.results8, go_sem, *]) rfl ?_
    rw [HP.out.1, HP.out.2]
    exact ⟨none, 0, rfl, ⟨none, 0, rfl, .inl rfl⟩, by first | exact HB.out.bel | exact (HB.out.bel.setCell (by show w.heap.size ≤ w.heap.size + 1 + 1; omega) _).setCell (by show w.heap.size ≤ w.heap.size + 1 + 1; omega) _⟩
  have hd : decide (4096 < (list.length : Int)) = false := decide_eq_false (by omega)
  have H4 := Lib.hid h4
  clear h4
  cases hro : rokM t r
  case false =>
    have HP := Lib.hid (se_bad (t := t) (r := r) H4.out (fun h => by rw [hro] at h; cases h.1))
    rw [hro] at RO
    clear hro
    go_enter Try.func8, Try.ntmps8
    go_wp2_with fail
    refine (RO.out _ HB.out).mono ?_
    rintro e w1 ⟨rfl, hb⟩
    have HB1 := Lib.hid hb
    clear x0 x1 x2 x3 y0 y1 z0 z1 f0 f1
    have x0 := cell_at (o := 0) hb.tb rfl
    have x1 := cell_at (o := 1) hb.tb rfl
    have x2 := cell_at (o := 2) hb.tb rfl
    have x3 := cell_at (o := 3) hb.tb rfl
    have y0 := cell_at (o := 0) hb.rb rfl
    have y1 := cell_at (o := 1) hb.rb rfl
    have z0 := cell_at (o := 0) hb.zr rfl
    have z1 := cell_at (o := 1) hb.zr rfl
    have f0 := frozen_at 0 hb.zr
    have f1 := frozen_at 1 hb.zr
    clear hb
    go_wp2_with fail
    refine bodyPost_ret (v := .tuple #[.agg #[.int .i64 0, .slice none 0 0], .int .i64 1]) (by simp [results, Try.results8, go_sem, *]) rfl ?_
    rw [HP.out.1, HP.out.2]
    exact ⟨none, 0, rfl, ⟨none, 0, rfl, .inl rfl⟩, by first | exact HB1.out.bel | exact (HB1.out.bel.setCell (by show w.heap.size ≤ w.heap.size + 1 + 1; omega) _).setCell (by show w.heap.size ≤ w.heap.size + 1 + 1; omega) _⟩
  have HRO := Lib.hid hro
  rw [hro] at RO
  clear hro
  cases hbo : valsB list
  case false =>
    have HP := Lib.hid (se_bad (t := t) (r := r) H4.out (fun h => by rw [hbo] at h; cases h.2))
    rw [hbo] at CO
    clear hbo
    go_enter Try.func8, Try.ntmps8
    go_wp2_with fail
    refine (RO.out _ HB.out).mono ?_
    rintro e w1 ⟨rfl, hb⟩
    have HB1 := Lib.hid hb
    clear x0 x1 x2 x3 y0 y1 z0 z1 f0 f1
    have x0 := cell_at (o := 0) hb.tb rfl
    have x1 := cell_at (o := 1) hb.tb rfl
    have x2 := cell_at (o := 2) hb.tb rfl
    have x3 := cell_at (o := 3) hb.tb rfl
    have y0 := cell_at (o := 0) hb.rb rfl
    have y1 := cell_at (o := 1) hb.rb rfl
    have z0 := cell_at (o := 0) hb.zr rfl
    have z1 := cell_at (o := 1) hb.zr rfl
    have f0 := frozen_at 0 hb.zr
    have f1 := frozen_at 1 hb.zr
    clear hb
    go_wp2_with fail
    refine (CO.out _ HB1.out).mono ?_
    rintro e w2 ⟨rfl, hb⟩
    have HB2 := Lib.hid hb
    clear x0 x1 x2 x3 y0 y1 z0 z1 f0 f1
    have x0 := cell_at (o := 0) hb.tb rfl
    have x1 := cell_at (o := 1) hb.tb rfl
    have x2 := cell_at (o := 2) hb.tb rfl
    have x3 := cell_at (o := 3) hb.tb rfl
    have y0 := cell_at (o := 0) hb.rb rfl
    have y1 := cell_at (o := 1) hb.rb rfl
    have z0 := cell_at (o := 0) hb.zr rfl
    have z1 := cell_at (o := 1) hb.zr rfl
    have f0 := frozen_at 0 hb.zr
    have f1 := frozen_at 1 hb.zr
    clear hb
    go_wp2_with fail
    refine bodyPost_ret (v := .tuple #[.agg #[.int .i64 0, .slice none 0 0], .int .i64 1]) (by simp [results, Try.results8, go_sem, *]) rfl ?_
    rw [HP.out.1, HP.out.2]
    exact ⟨none, 0, rfl, ⟨none, 0, rfl, .inl rfl⟩, by first | exact HB2.out.bel | exact (HB2.out.bel.setCell (by show w.heap.size ≤ w.heap.size + 1 + 1; omega) _).setCell (by show w.heap.size ≤ w.heap.size + 1 + 1; omega) _⟩
  have HRB := Lib.hid (And.intro HRO.out hbo)
  have CC := Lib.hid (CC.out hbo)
  rw [hbo] at CO
  clear hbo
  by_cases h0 : setsC t list = 0
  case neg =>
    have HP := Lib.hid (se_code H4.out HRB.out h0)
    have hne : (setsC t list != 0) = true := by simpa using h0
    clear h0
    go_enter Try.func8, Try.ntmps8
    go_wp2_with fail
    refine (RO.out _ HB.out).mono ?_
    rintro e w1 ⟨rfl, hb⟩
    have HB1 := Lib.hid hb
    clear x0 x1 x2 x3 y0 y1 z0 z1 f0 f1
    have x0 := cell_at (o := 0) hb.tb rfl
    have x1 := cell_at (o := 1) hb.tb rfl
    have x2 := cell_at (o := 2) hb.tb rfl
    have x3 := cell_at (o := 3) hb.tb rfl
    have y0 := cell_at (o := 0) hb.rb rfl
    have y1 := cell_at (o := 1) hb.rb rfl
    have z0 := cell_at (o := 0) hb.zr rfl
    have z1 := cell_at (o := 1) hb.zr rfl
    have f0 := frozen_at 0 hb.zr
    have f1 := frozen_at 1 hb.zr
    clear hb
    go_wp2_with fail
    refine (CO.out _ HB1.out).mono ?_
    rintro e w2 ⟨rfl, hb⟩
    have HB2 := Lib.hid hb
    clear x0 x1 x2 x3 y0 y1 z0 z1 f0 f1
    have x0 := cell_at (o := 0) hb.tb rfl
    have x1 := cell_at (o := 1) hb.tb rfl
    have x2 := cell_at (o := 2) hb.tb rfl
    have x3 := cell_at (o := 3) hb.tb rfl
    have y0 := cell_at (o := 0) hb.rb rfl
    have y1 := cell_at (o := 1) hb.rb rfl
    have z0 := cell_at (o := 0) hb.zr rfl
    have z1 := cell_at (o := 1) hb.zr rfl
    have f0 := frozen_at 0 hb.zr
    have f1 := frozen_at 1 hb.zr
    clear hb
    go_wp2_with fail
    refine (CC.out _ HB2.out).mono ?_
    rintro e w3 ⟨rfl, hb⟩
    have HB3 := Lib.hid hb
    clear x0 x1 x2 x3 y0 y1 z0 z1 f0 f1
    have x0 := cell_at (o := 0) hb.tb rfl
    have x1 := cell_at (o := 1) hb.tb rfl
    have x2 := cell_at (o := 2) hb.tb rfl
    have x3 := cell_at (o := 3) hb.tb rfl
    have y0 := cell_at (o := 0) hb.rb rfl
    have y1 := cell_at (o := 1) hb.rb rfl
    have z0 := cell_at (o := 0) hb.zr rfl
    have z1 := cell_at (o := 1) hb.zr rfl
    have f0 := frozen_at 0 hb.zr
    have f1 := frozen_at 1 hb.zr
    clear hb
    go_wp2_with fail
    refine bodyPost_ret (v := .tuple #[.agg #[.int .i64 0, .slice none 0 0], .int .i64 (setsC t list)]) (by simp [results, Try.results8, go_sem, *]) rfl ?_
    rw [HP.out.1, HP.out.2]
    exact ⟨none, 0, rfl, ⟨none, 0, rfl, .inl rfl⟩, by first | exact HB3.out.bel | exact (HB3.out.bel.setCell (by show w.heap.size ≤ w.heap.size + 1 + 1; omega) _).setCell (by show w.heap.size ≤ w.heap.size + 1 + 1; omega) _⟩
  have HP := Lib.hid (se_ok H4.out HRB.out h0)
  have HE := Lib.hid (setsC_all h0)
  rw [h0] at CC
  clear h0
  go_enter Try.func8, Try.ntmps8
  go_wp2_with fail
  refine (RO.out _ HB.out).mono ?_
  rintro e w1 ⟨rfl, hb⟩
  have HB1 := Lib.hid hb
  clear x0 x1 x2 x3 y0 y1 z0 z1 f0 f1
  have x0 := cell_at (o := 0) hb.tb rfl
  have x1 := cell_at (o := 1) hb.tb rfl
  have x2 := cell_at (o := 2) hb.tb rfl
  have x3 := cell_at (o := 3) hb.tb rfl
  have y0 := cell_at (o := 0) hb.rb rfl
  have y1 := cell_at (o := 1) hb.rb rfl
  have z0 := cell_at (o := 0) hb.zr rfl
  have z1 := cell_at (o := 1) hb.zr rfl
  have f0 := frozen_at 0 hb.zr
  have f1 := frozen_at 1 hb.zr
  clear hb
  go_wp2_with fail
  refine (CO.out _ HB1.out).mono ?_
  rintro e w2 ⟨rfl, hb⟩
  have HB2 := Lib.hid hb
  clear x0 x1 x2 x3 y0 y1 z0 z1 f0 f1
  have x0 := cell_at (o := 0) hb.tb rfl
  have x1 := cell_at (o := 1) hb.tb rfl
  have x2 := cell_at (o := 2) hb.tb rfl
  have x3 := cell_at (o := 3) hb.tb rfl
  have y0 := cell_at (o := 0) hb.rb rfl
  have y1 := cell_at (o := 1) hb.rb rfl
  have z0 := cell_at (o := 0) hb.zr rfl
  have z1 := cell_at (o := 1) hb.zr rfl
  have f0 := frozen_at 0 hb.zr
  have f1 := frozen_at 1 hb.zr
  clear hb
  go_wp2_with fail
  refine (CC.out _ HB2.out).mono ?_
  rintro e w3 ⟨rfl, hb⟩
  have HB3 := Lib.hid hb
  clear x0 x1 x2 x3 y0 y1 z0 z1 f0 f1
  have x0 := cell_at (o := 0) hb.tb rfl
  have x1 := cell_at (o := 1) hb.tb rfl
  have x2 := cell_at (o := 2) hb.tb rfl
  have x3 := cell_at (o := 3) hb.tb rfl
  have y0 := cell_at (o := 0) hb.rb rfl
  have y1 := cell_at (o := 1) hb.rb rfl
  have z0 := cell_at (o := 0) hb.zr rfl
  have z1 := cell_at (o := 1) hb.zr rfl
  have f0 := frozen_at 0 hb.zr
  have f1 := frozen_at 1 hb.zr
  clear hb
  go_wp2_with fail
  refine (CP.out _ HB3.out).mono ?_
  rintro e w4 ⟨cq, rfl, hown, hB4⟩
  clear x0 x1 x2 x3 y0 y1 z0 z1 f0 f1
  have ST0 : Hid (IQS w (w4.alloc (.cells #[.int .i64 r.id, .slice (some ⟨cq, 0, none⟩) r.cells.length r.cells.length] 34)) #[.string ⟨t.nm.toArray⟩, .slice ca t.cols.length cc, .slice ua t.uq.length uc, .bool t.rt] r.id r.cells cq r.cells.length w4.heap.size) := by
    have h4 := (HB3.out.later hB4).later (below_allocD w4 (.cells #[.int .i64 r.id, .slice (some ⟨cq, 0, none⟩) r.cells.length r.cells.length] 34))
    have hz3 := (Array.getElem?_eq_some_iff.1 HB3.out.zr).1
    have hsz := hB4.size
    refine ⟨h4.tb, h4.zr, heap_newD _ _, by omega, (hown.later (below_allocD _ _)).mono (fun b hb => ⟨by have := hb.1; omega, by have := hb.2; omega, by have := hb.2; simp; omega⟩), h4.bel⟩
  clear hown hB4
  obtain ⟨mb, hmb⟩ : ∃ mb, mb = w4.heap.size := ⟨_, rfl⟩
  rw [← hmb] at ST0
  have HMB := Lib.hid hmb
  clear hmb
  go_wp2_with fail
  rw [← HMB.out]
  clear HB HB1 HB2 HB3 RO CO CC CP
  have HLN := Lib.hid (rok_lenS HRO.out)
  go_loopw [38] (fun i wr => ∃ m : Nat, m ≤ list.length ∧ i = .int .i64 m ∧ Hid (∃ cs, IQS w wr #[.string ⟨t.nm.toArray⟩, .slice ca t.cols.length cc, .slice ua t.uq.length uc, .bool t.rt] r.id cs cq r.cells.length mb ∧ cs.length = t.cols.length ∧ rowW t r.cells list = rowW t cs (list.drop m))) (fun i _ => list.length - (intOf i).toNat)
  case atStart => exact ⟨0, Nat.zero_le _, rfl, _, ST0.out, HLN.out, by rw [List.drop_zero]⟩
  case round =>
    obtain ⟨m, hm, rfl, HX⟩ := hrel
    obtain ⟨cs, hS, hlen, hM⟩ := HX.out
    by_cases hlt : m < list.length
    case neg =>
      have hmi : decide ((m : Int) < (list.length : Int)) = false := by simp; omega
      have HR := Lib.hid (rowW_ok (r := r) (by rw [hM, List.drop_eq_nil_of_le (by omega)]; rfl))
      have HS := Lib.hid hS
      have z0 := cell_at (o := 0) hS.zr rfl
      have z1 := cell_at (o := 1) hS.zr rfl
      have f0 := frozen_at 0 hS.zr
      have f1 := frozen_at 1 hS.zr
      have k0 := cell_at (o := 0) hS.mx rfl
      have k1 := cell_at (o := 1) hS.mx rfl
      clear hS hlen hM
      go_wp2_with fail
      refine bodyPost_ret (v := .tuple #[.agg #[.int .i64 r.id, .slice (some ⟨cq, 0, none⟩) cs.length r.cells.length], .int .i64 0]) (by simp [results, Try.results8, go_sem, *]) rfl ?_
      rw [HP.out.1, HP.out.2, HR.out.1, HR.out.2]
      refine ⟨_, _, rfl, ?_, (HS.out.bel.setCell (by show w.heap.size ≤ w.heap.size + 1 + 1; omega) _).setCell (by show w.heap.size ≤ w.heap.size + 1 + 1; omega) _⟩
      exact (HS.out.own.frm (F := (· = w.heap.size + 1 + 1)) ((frm_set _ _ _ _).trans (frm_set _ _ _ _)) (fun b hb e => by have h1 := hb.1; have e2 : b = w.heap.size + 1 + 1 := e; omega)).mono (fun b hb => ⟨by have := hb.1; omega, by simpa using hb.2.2⟩)
    have hmi : (m : Int) < (list.length : Int) := by omega
    obtain ⟨k, hk, hpl⟩ := setK_place (HE.out m hlt)
    have hkc : k < cs.length := by omega
    obtain ⟨b, off, rfl, -, hc⟩ := (HL.out _ hS.bel).things m hlt
    obtain ⟨u0, l0, r0⟩ := hc 0 (by omega)
    obtain rfl : u0 = .string ⟨list[m].col.toArray⟩ := r0
    rw [Nat.add_zero] at l0
    obtain ⟨u1, l1, r1⟩ := hc 1 (by omega)
    replace r1 : Rd wr B (dAtomS list[m].val) u1 := r1
    obtain ⟨va, vc, rfl⟩ := r1.lsSlice
    obtain ⟨u2, l2, r2⟩ := hc 2 (by omega)
    replace r2 : Rd wr B (dStringS list[m].nms) u2 := r2
    obtain ⟨na, nc, rfl⟩ := r2.lsSlice
    obtain ⟨b1, off1, hca, -, -⟩ := (HT.out.2 _ hS.bel).1.at k hk
    subst hca
    obtain ⟨hgq, da, dc, gc, gf, -⟩ := own_atA hS.own hkc
    have HS := Lib.hid hS
    have TCE : Hid (∀ W, Below wr.heap.size wr W → W.cell? ⟨w.heap.size, 0, none⟩ = some (.string ⟨t.nm.toArray⟩) ∧ W.cell? ⟨w.heap.size, 1, none⟩ = some (.slice (some ⟨b1, off1, none⟩) t.cols.length cc) ∧ W.cell? ⟨w.heap.size, 2, none⟩ = some (.slice ua t.uq.length uc) ∧ W.cell? ⟨w.heap.size, 3, none⟩ = some (.bool t.rt)) := fun W h => ⟨cell_at (o := 0) (HS.out.later h).tb rfl, cell_at (o := 1) (HS.out.later h).tb rfl, cell_at (o := 2) (HS.out.later h).tb rfl, cell_at (o := 3) (HS.out.later h).tb rfl⟩
    have CCE : Hid (∀ W, Below wr.heap.size wr W → W.cell? ⟨b1, off1 + k * 8, none⟩ = some (.string ⟨t.cols[k].nm.toArray⟩) ∧ W.cell? ⟨b1, off1 + k * 8 + 1, none⟩ = some (.int .i64 t.cols[k].k) ∧ W.cell? ⟨b1, off1 + k * 8 + 2, none⟩ = some (.int .i64 t.cols[k].mn) ∧ W.cell? ⟨b1, off1 + k * 8 + 3, none⟩ = some (.int .i64 t.cols[k].mx) ∧ W.cell? ⟨b1, off1 + k * 8 + 4, none⟩ = some (.int .i64 t.cols[k].lo) ∧ W.cell? ⟨b1, off1 + k * 8 + 5, none⟩ = some (.int .i64 t.cols[k].hi) ∧ W.cell? ⟨b1, off1 + k * 8 + 6, none⟩ = some (.string ⟨t.cols[k].rf.toArray⟩) ∧ W.cell? ⟨b1, off1 + k * 8 + 7, none⟩ = some (.bool t.cols[k].st)) := fun W h => by
      obtain ⟨b2, off2, e2, -, hc2⟩ := (HT.out.2 W (HS.out.bel.trans (h.mono HS.out.bel.size))).1.at k hk
      simp only [Option.some.injEq, Addr.mk.injEq, and_true] at e2
      obtain ⟨rfl, rfl⟩ := e2
      exact hc2 k hk
    have PL : Hid (∀ W, Below wr.heap.size wr W → Calls Try.prog 23 #[.agg #[.string ⟨t.nm.toArray⟩, .slice (some ⟨b1, off1, none⟩) t.cols.length cc, .slice ua t.uq.length uc, .bool t.rt], .string ⟨list[m].col.toArray⟩] W fun e w' => e = .returned (.int .i64 (k : Int)) ∧ Below W.heap.size W w') := fun W h => by
      rw [← hpl]
      exact placeI t list[m].col _ cc ua uc A W HT.out.1.2.1 (HT.out.2 W (HS.out.bel.trans (h.mono HS.out.bel.size)))
    have HVL := Lib.hid (le_set HLO.out hlt)
    have FT : Hid (∀ W, Below wr.heap.size wr W → Calls Try.prog 24 #[.agg #[.string ⟨t.cols[k].nm.toArray⟩, .int .i64 t.cols[k].k, .int .i64 t.cols[k].mn, .int .i64 t.cols[k].mx, .int .i64 t.cols[k].lo, .int .i64 t.cols[k].hi, .string ⟨t.cols[k].rf.toArray⟩, .bool t.cols[k].st], .slice va list[m].val.length vc] W fun e w' => e = .returned (.int .i64 (fitC t.cols[k] list[m].val)) ∧ Below W.heap.size W w') := fun W h => fitsI t.cols[k] list[m].val va vc W.heap.size W (by have := (Ls_le.1 HVL.out.2.1).2.1; unfold maxLen; omega) (Nat.le_refl _) (r1.later h).lt.ats
    have HST : Hid (fitC t.cols[k] list[m].val = 0 → (cs.set k list[m].val).length = t.cols.length ∧ rowW t r.cells list = rowW t (cs.set k list[m].val) (list.drop (m + 1))) := fun h0 => ⟨by rw [List.length_set]; exact hlen, hM.trans (rowW_step hlt hk hpl h0)⟩
    have HSP : Hid (¬ fitC t.cols[k] list[m].val = 0 → rowWR t r list = rowZ ∧ (rowW t r.cells list).1 = fitC t.cols[k] list[m].val) := fun h0 => rowW_no (hM.trans (rowW_stop hlt hk hpl h0)) h0
    have AP : Hid (∀ W, Below wr.heap.size wr W → ∃ a8 c8 w8, (Builtin.append_ #[42, 42] 42 #[.slice none 0 0, .slice va list[m].val.length vc]).run Try.prog W = .ok (.slice a8 list[m].val.length c8) w8 ∧ Own w8 (dAtomS list[m].val) (fun b => W.heap.size ≤ b ∧ b < w8.heap.size) (.slice a8 list[m].val.length c8) ∧ Below W.heap.size W w8) := fun W h => app_nilA list[m].val va vc B W _ (Ls_le.1 HVL.out.2.1).2.1 (r1.later h)
    have RCE : Hid (∀ W, Below wr.heap.size wr W → W.cell? ⟨mb, 1, none⟩ = some (.slice (some ⟨cq, 0, none⟩) cs.length r.cells.length) ∧ W.cell? ⟨cq, k, none⟩ = some (.slice da cs[k].length dc)) := fun W h => ⟨cell_at (o := 1) (HS.out.later h).mx rfl, cell_keptX gc h⟩
    have hk1 : (k : Int) < (t.cols.length : Int) := by omega
    have hk2 : (k : Int) < (cs.length : Int) := by omega
    have HK := Lib.hid hkc
    clear hS hM hpl hc r1 r2 gc gf hgq
    generalize cs[k] = d at *
    generalize t.cols[k] = x at *
    generalize list[m] = y at *
    clear hk hlen hkc
    have BA : Hid (Below wr.heap.size wr (wr.alloc (.cells #[.string ⟨y.col.toArray⟩, .slice va y.val.length vc, .slice na y.nms.length nc] 45))) := below_allocD _ _
    have MCE : Hid (∀ W, Below (wr.alloc (.cells #[.string ⟨y.col.toArray⟩, .slice va y.val.length vc, .slice na y.nms.length nc] 45)).heap.size (wr.alloc (.cells #[.string ⟨y.col.toArray⟩, .slice va y.val.length vc, .slice na y.nms.length nc] 45)) W → W.cell? ⟨wr.heap.size, 0, none⟩ = some (.string ⟨y.col.toArray⟩) ∧ W.cell? ⟨wr.heap.size, 1, none⟩ = some (.slice va y.val.length vc) ∧ W.cell? ⟨wr.heap.size, 2, none⟩ = some (.slice na y.nms.length nc)) := fun W h => ⟨cell_at (o := 0) (heap_keptD (heap_newD _ _) h) rfl, cell_at (o := 1) (heap_keptD (heap_newD _ _) h) rfl, cell_at (o := 2) (heap_keptD (heap_newD _ _) h) rfl⟩
    obtain ⟨x0, x1, x2, x3⟩ := TCE.out _ BA.out
    obtain ⟨i0, i1, i2⟩ := MCE.out _ (Below.refl _ _)
    go_wp2_with fail
    refine (PL.out _ BA.out).mono ?_
    rintro e w5 ⟨rfl, hB⟩
    have BW : Hid (Below (wr.alloc (.cells #[.string ⟨y.col.toArray⟩, .slice va y.val.length vc, .slice na y.nms.length nc] 45)).heap.size (wr.alloc (.cells #[.string ⟨y.col.toArray⟩, .slice va y.val.length vc, .slice na y.nms.length nc] 45)) w5) := hB
    clear hB x0 x1 x2 x3 i0 i1 i2 l0 l1 l2
    have BX5 : Hid (Below wr.heap.size wr w5) := BA.out.trans (BW.out.mono BA.out.size)
    go_wp2_with fail
    have CX6 : Hid (∀ W, Below w5.heap.size w5 W → W.cell? ⟨w.heap.size, 1, none⟩ = some (.slice (some ⟨b1, off1, none⟩) t.cols.length cc) ∧ W.cell? ⟨b1, off1 + k * 8, none⟩ = some (.string ⟨x.nm.toArray⟩) ∧ W.cell? ⟨b1, off1 + k * 8 + 1, none⟩ = some (.int .i64 x.k) ∧ W.cell? ⟨b1, off1 + k * 8 + 2, none⟩ = some (.int .i64 x.mn) ∧ W.cell? ⟨b1, off1 + k * 8 + 3, none⟩ = some (.int .i64 x.mx) ∧ W.cell? ⟨b1, off1 + k * 8 + 4, none⟩ = some (.int .i64 x.lo) ∧ W.cell? ⟨b1, off1 + k * 8 + 5, none⟩ = some (.int .i64 x.hi) ∧ W.cell? ⟨b1, off1 + k * 8 + 6, none⟩ = some (.string ⟨x.rf.toArray⟩) ∧ W.cell? ⟨b1, off1 + k * 8 + 7, none⟩ = some (.bool x.st) ∧ W.cell? ⟨wr.heap.size, 1, none⟩ = some (.slice va y.val.length vc)) := fun W h => by
      have h2 := BX5.out.trans (h.mono BX5.out.size)
      obtain ⟨e0, e1, e2, e3, e4, e5, e6, e7⟩ := CCE.out W h2
      exact ⟨(TCE.out W h2).2.1, e0, e1, e2, e3, e4, e5, e6, e7, (MCE.out W (BW.out.trans (h.mono BW.out.size))).2.1⟩
    refine wp_region_held_drew (S := (fun W => W.cell? ⟨w.heap.size, 1, none⟩ = some (.slice (some ⟨b1, off1, none⟩) t.cols.length cc) ∧ W.cell? ⟨b1, off1 + k * 8, none⟩ = some (.string ⟨x.nm.toArray⟩) ∧ W.cell? ⟨b1, off1 + k * 8 + 1, none⟩ = some (.int .i64 x.k) ∧ W.cell? ⟨b1, off1 + k * 8 + 2, none⟩ = some (.int .i64 x.mn) ∧ W.cell? ⟨b1, off1 + k * 8 + 3, none⟩ = some (.int .i64 x.mx) ∧ W.cell? ⟨b1, off1 + k * 8 + 4, none⟩ = some (.int .i64 x.lo) ∧ W.cell? ⟨b1, off1 + k * 8 + 5, none⟩ = some (.int .i64 x.hi) ∧ W.cell? ⟨b1, off1 + k * 8 + 6, none⟩ = some (.string ⟨x.rf.toArray⟩) ∧ W.cell? ⟨b1, off1 + k * 8 + 7, none⟩ = some (.bool x.st) ∧ W.cell? ⟨wr.heap.size, 1, none⟩ = some (.slice va y.val.length vc))) (by kernel_rfl) ?_ (fun hHeld => ?_)
    · (first | exact CX6.out _ (Below.refl _ _) | exact CX6.out _ (Below.refl _ _).drew | exact CX6.out _ BW3.out)
    refine wpAnyH_take (i := 0) (v := ?_) rfl (by kernel_rfl) (by kernel_rfl) (by kernel_rfl) (fun _ _ _ h => h) (Or.inl ⟨by kernel_rfl, ?_⟩) (by assumption) ?_
    rotate_left
    · (intro wS hSw; (try dsimp only at hSw); go_simp <;> with_reducible rfl)
    try simp only [Act.put, tkS]
    refine wpAnyH_take (i := 1) (v := ?_) rfl (by kernel_rfl) (by kernel_rfl) (by kernel_rfl) (fun _ _ _ h => h) (Or.inl ⟨by kernel_rfl, ?_⟩) (by assumption) ?_
    rotate_left
    · (intro wS hSw; (try dsimp only at hSw); go_simp <;> with_reducible rfl)
    try simp only [Act.put, tkS]
    refine wpAnyH_take (i := 2) (v := ?_) rfl (by kernel_rfl) (by kernel_rfl) (by kernel_rfl) (fun _ _ _ h => h) (Or.inl ⟨by kernel_rfl, ?_⟩) (by assumption) ?_
    rotate_left
    · (intro wS hSw; (try dsimp only at hSw); go_simp <;> with_reducible rfl)
    try simp only [Act.put, tkS]
    refine wpAnyH_take (i := 3) (v := ?_) rfl (by kernel_rfl) (by kernel_rfl) (by kernel_rfl) (fun _ _ _ h => h) (Or.inl ⟨by kernel_rfl, ?_⟩) (by assumption) ?_
    rotate_left
    · (intro wS hSw; (try dsimp only at hSw); go_simp <;> with_reducible rfl)
    try simp only [Act.put, tkS]
    refine wpAnyH_take (i := 4) (v := ?_) rfl (by kernel_rfl) (by kernel_rfl) (by kernel_rfl) (fun _ _ _ h => h) (Or.inl ⟨by kernel_rfl, ?_⟩) (by assumption) ?_
    rotate_left
    · (intro wS hSw; (try dsimp only at hSw); go_simp <;> with_reducible rfl)
    try simp only [Act.put, tkS]
    refine wpAnyH_take (i := 5) (v := ?_) rfl (by kernel_rfl) (by kernel_rfl) (by kernel_rfl) (fun _ _ _ h => h) (Or.inl ⟨by kernel_rfl, ?_⟩) (by assumption) ?_
    rotate_left
    · (intro wS hSw; (try dsimp only at hSw); go_simp <;> with_reducible rfl)
    try simp only [Act.put, tkS]
    refine wpAnyH_take (i := 6) (v := ?_) rfl (by kernel_rfl) (by kernel_rfl) (by kernel_rfl) (fun _ _ _ h => h) (Or.inl ⟨by kernel_rfl, ?_⟩) (by assumption) ?_
    rotate_left
    · (intro wS hSw; (try dsimp only at hSw); go_simp <;> with_reducible rfl)
    try simp only [Act.put, tkS]
    refine wpAnyH_ready (rs := [7]) (by kernel_rfl) (by simp) (AllReadyH.cons rfl (fun K hK => ?_) AllReadyH.nil)
    go_simp
    (go_at_call 24; refine (FT.out _ BX5.out.drew).mono ?_; rintro e w6 ⟨rfl, hB⟩; have BW3 : Hid (Below w5.heap.size w5 w6) := (Below.refl _ _).drew.trans hB; clear hB)
    refine hK.out _ _ ?_ (fun hHeld => ?_)
    · (first | exact CX6.out _ (Below.refl _ _) | exact CX6.out _ (Below.refl _ _).drew | exact CX6.out _ BW3.out)
    clear hK K
    try simp only [Act.put, tkS]
    refine wpAnyH_take (i := 8) (v := ?_) rfl (by kernel_rfl) (by kernel_rfl) (by kernel_rfl) (fun _ _ _ h => h) (Or.inl ⟨by kernel_rfl, ?_⟩) (by assumption) ?_
    rotate_left
    · (intro wS hSw; (try dsimp only at hSw); go_simp <;> with_reducible rfl)
    try simp only [Act.put, tkS]
    refine wpAnyH_done (by kernel_rfl) ?_ _
    have BX6 : Hid (Below wr.heap.size wr w6) := BX5.out.trans (BW3.out.mono BX5.out.size)
    have BY6 : Hid (Below (wr.alloc (.cells #[.string ⟨y.col.toArray⟩, .slice va y.val.length vc, .slice na y.nms.length nc] 45)).heap.size (wr.alloc (.cells #[.string ⟨y.col.toArray⟩, .slice va y.val.length vc, .slice na y.nms.length nc] 45)) w6) := BW.out.trans (BW3.out.mono BW.out.size)
    have HS3 := Lib.hid (HS.out.later BX6.out)
    generalize fitC x y.val = mc at *
    by_cases h0 : mc = 0
    case neg =>
      have HR := Lib.hid (HSP.out h0)
      have hne : (mc != 0) = true := by simpa using h0
      have z0 := cell_at (o := 0) HS3.out.zr rfl
      have zf0 := frozen_at 0 HS3.out.zr
      have z1 := cell_at (o := 1) HS3.out.zr rfl
      have zf1 := frozen_at 1 HS3.out.zr
      clear h0 HST HSP PL FT
      go_wp2_with fail
      refine bodyPost_ret (v := .tuple #[.agg #[.int .i64 0, .slice none 0 0], .int .i64 mc]) (by simp [results, Try.results8, go_sem, *]) rfl ?_
      rw [HP.out.1, HP.out.2, HR.out.1, HR.out.2]
      exact ⟨none, 0, rfl, ⟨none, 0, rfl, .inl rfl⟩, (HS3.out.bel.setCell (by show w.heap.size ≤ w.heap.size + 1 + 1; omega) _).setCell (by show w.heap.size ≤ w.heap.size + 1 + 1; omega) _⟩
    have HN := Lib.hid (HST.out h0)
    subst h0
    clear HST HSP PL FT
    have CX16 : Hid (∀ W : World, (W.heap[mb]? = some (.cells #[.int .i64 r.id, .slice (some ⟨cq, 0, none⟩) cs.length r.cells.length] 34) ∧ W.heap[wr.heap.size]? = some (.cells #[.string ⟨y.col.toArray⟩, .slice va y.val.length vc, .slice na y.nms.length nc] 45)) → W.cell? ⟨mb, 1, none⟩ = some (.slice (some ⟨cq, 0, none⟩) cs.length r.cells.length) ∧ W.cell? ⟨wr.heap.size, 1, none⟩ = some (.slice va y.val.length vc)) := fun W h => ⟨cell_at (o := 1) h.1 rfl, cell_at (o := 1) h.2 rfl⟩
    have KB16 : Hid (∀ W, Below w6.heap.size w6 W → (W.heap[mb]? = some (.cells #[.int .i64 r.id, .slice (some ⟨cq, 0, none⟩) cs.length r.cells.length] 34) ∧ W.heap[wr.heap.size]? = some (.cells #[.string ⟨y.col.toArray⟩, .slice va y.val.length vc, .slice na y.nms.length nc] 45))) := fun W h => ⟨(HS.out.later (BX6.out.trans (h.mono BX6.out.size))).mx, heap_keptD (heap_newD _ _) (BY6.out.trans (h.mono BY6.out.size))⟩
    have BN0 : Hid (w6.drew.heap[mb]? = some (.cells #[.int .i64 r.id, .slice (some ⟨cq, 0, none⟩) cs.length r.cells.length] 34) ∧ w6.drew.heap[wr.heap.size]? = some (.cells #[.string ⟨y.col.toArray⟩, .slice va y.val.length vc, .slice na y.nms.length nc] 45)) := KB16.out _ (Below.refl _ _).drew
    have bN1 : Below wr.heap.size wr w6.drew := BX6.out.drew
    obtain ⟨a8, c8, w8, hr8, hrd8, hB8⟩ := AP.out _ bN1
    have b68 : Below w6.heap.size w6 w8 := (Below.refl _ _).drew.trans hB8
    have BN8 : Hid (w8.heap[mb]? = some (.cells #[.int .i64 r.id, .slice (some ⟨cq, 0, none⟩) cs.length r.cells.length] 34) ∧ w8.heap[wr.heap.size]? = some (.cells #[.string ⟨y.col.toArray⟩, .slice va y.val.length vc, .slice na y.nms.length nc] 45)) := KB16.out _ b68
    have bN8 : Below wr.heap.size wr w8 := bN1.trans (hB8.mono bN1.size)
    have hst := HS.out.store bN8 HK.out (hrd8.mono (fun b hb => ⟨Nat.le_trans bN1.size hb.1, hb.2⟩))
    obtain ⟨hcq, -⟩ := own_atA HS.out.own HK.out
    have BN9 : Hid ((w8.setCell ⟨cq, k, none⟩ (.slice a8 y.val.length c8)).heap[mb]? = some (.cells #[.int .i64 r.id, .slice (some ⟨cq, 0, none⟩) cs.length r.cells.length] 34) ∧ (w8.setCell ⟨cq, k, none⟩ (.slice a8 y.val.length c8)).heap[wr.heap.size]? = some (.cells #[.string ⟨y.col.toArray⟩, .slice va y.val.length vc, .slice na y.nms.length nc] 45)) := ⟨by have h := hst.mx; rw [List.length_set] at h; exact h, by rw [Below.heap_setCell _ ⟨cq, k, none⟩ _ _ (by show wr.heap.size ≠ cq; have := hcq.2.2; omega)]; exact BN8.out.2⟩
    have HS4 := Lib.hid hst
    have RUN5 := Lib.hid hr8
    have q2 := (RCE.out _ bN8).2
    obtain ⟨-, da9, dc9, -, gf, -⟩ := own_atA (HS.out.later bN8).own HK.out
    clear hst hr8 hrd8 hB8 bN8 bN1 b68 hcq
    go_wp2_with fail
    refine wp_region_held_drew (S := (fun W => W.cell? ⟨mb, 1, none⟩ = some (.slice (some ⟨cq, 0, none⟩) cs.length r.cells.length) ∧ W.cell? ⟨wr.heap.size, 1, none⟩ = some (.slice va y.val.length vc))) (by kernel_rfl) ?_ (fun hHeld => ?_)
    · (exact CX16.out _ (by first | exact BN0.out | exact BN8.out | exact BN9.out))
    refine wpAnyH_take (i := 0) (v := ?_) rfl (by kernel_rfl) (by kernel_rfl) (by kernel_rfl) (fun _ _ _ h => h) (Or.inl ⟨by kernel_rfl, ?_⟩) (by assumption) ?_
    rotate_left
    · (intro wS hSw; (try dsimp only at hSw); go_simp <;> with_reducible rfl)
    try simp only [Act.put, tkS]
    refine wpAnyH_take (i := 1) (v := ?_) rfl (by kernel_rfl) (by kernel_rfl) (by kernel_rfl) (fun _ _ _ h => h) (Or.inl ⟨by kernel_rfl, ?_⟩) (by assumption) ?_
    rotate_left
    · (intro wS hSw; (try dsimp only at hSw); go_simp <;> with_reducible rfl)
    try simp only [Act.put, tkS]
    refine wpAnyH_take (i := 2) (v := ?_) rfl (by kernel_rfl) (by kernel_rfl) (by kernel_rfl) (fun _ _ _ h => h) (Or.inl ⟨by kernel_rfl, ?_⟩) (by assumption) ?_
    rotate_left
    · (intro wS hSw; (try dsimp only at hSw); go_simp <;> with_reducible rfl)
    try simp only [Act.put, tkS]
    refine wpAnyH_take (i := 3) (v := ?_) rfl (by kernel_rfl) (by kernel_rfl) (by kernel_rfl) (fun _ _ _ h => h) (Or.inl ⟨by kernel_rfl, ?_⟩) (by assumption) ?_
    rotate_left
    · (intro wS hSw; (try dsimp only at hSw); go_simp <;> with_reducible rfl)
    try simp only [Act.put, tkS]
    refine wpAnyH_take (i := 4) (v := ?_) rfl (by kernel_rfl) (by kernel_rfl) (by kernel_rfl) (fun _ _ _ h => h) (Or.inl ⟨by kernel_rfl, ?_⟩) (by assumption) ?_
    rotate_left
    · (intro wS hSw; (try dsimp only at hSw); go_simp <;> with_reducible rfl)
    try simp only [Act.put, tkS]
    refine wpAnyH_ready (rs := [5]) (by kernel_rfl) (by simp) (AllReadyH.cons rfl (fun K hK => ?_) AllReadyH.nil)
    refine step_append_is rfl (.const (.slice none 0 0)) (.tmp 62) 42 rfl _ _ (by rfl) (by rfl) _ _ RUN5.out ?_
    refine hK.out _ _ ?_ (fun hHeld => ?_)
    · (exact CX16.out _ (by first | exact BN0.out | exact BN8.out | exact BN9.out))
    clear hK K
    try simp only [Act.put, tkS]
    refine wpAnyH_take (i := 6) (v := ?_) rfl (by kernel_rfl) (by kernel_rfl) (by kernel_rfl) (fun _ _ _ h => h) (Or.inl ⟨by kernel_rfl, ?_⟩) (by assumption) ?_
    rotate_left
    · (intro wS hSw; (try dsimp only at hSw); go_simp <;> with_reducible rfl)
    try simp only [Act.put, tkS]
    refine wpAnyH_ready (rs := [7]) (by kernel_rfl) (by simp) (AllReadyH.cons rfl (fun K hK => ?_) AllReadyH.nil)
    go_simp
    refine hK.out _ _ ?_ (fun hHeld => ?_)
    · (exact CX16.out _ (by first | exact BN0.out | exact BN8.out | exact BN9.out))
    clear hK K
    try simp only [Act.put, tkS]
    refine wpAnyH_done (by kernel_rfl) ?_ _
    go_wp2_with fail
    go_roundw
    case rel => exact ⟨m + 1, by omega, by go_num, _, HS4.out, HN.out.1, HN.out.2⟩
    case measure => simp [intOf]; omega
end Go.Proofs.Ytajhjjpanjpfoaa
