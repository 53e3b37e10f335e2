import Derived.Test.YtgpoigkfoliflaaGreatDoorZbm
import Derived.Test.YtgpoigkfoliflaaGreatDoorZac
import Derived.Test.YtgpoigkfoliflaaGreatDoorZTk
namespace Go.Proofs.YtgpoigkfoliflaaGreatDoor
open Go.RowKit
set_option linter.unusedSimpArgs false
structure IPS (w wr : World) (tc : Array Value) (id : Int) (cs : List (List At)) (q n mb : Nat) : Prop where
  tb : wr.heap[w.heap.size]? = some (.cells tc 27)
  zr : wr.heap[w.heap.size + 1 + 1]? = some (.cells #[.int .i64 0, .slice none 0 0] 34)
  mx : wr.heap[mb]? = some (.cells #[.int .i64 id, .slice (some ⟨q, 0, none⟩) cs.length n] 34)
  lo : w.heap.size + 1 + 1 + 1 ≤ mb
  own : Own wr (dAtomSS cs) (fun b => w.heap.size + 1 + 1 + 1 ≤ b ∧ b ≠ mb ∧ b < wr.heap.size) (.slice (some ⟨q, 0, none⟩) cs.length n)
  bel : Below w.heap.size w wr
theorem IPS.later {w wr W : World} {tc : Array Value} {id : Int} {cs : List (List At)} {q n mb : Nat} (h : IPS w wr tc id cs q n mb) (hB : Below wr.heap.size wr W) : IPS w W tc id cs q n mb := ⟨heap_keptD h.tb hB, heap_keptD h.zr hB, heap_keptD h.mx hB, h.lo, (h.own.later hB).mono (fun _ hb => ⟨hb.1, hb.2.1, Nat.lt_of_lt_of_le hb.2.2 hB.size⟩), h.bel.trans (hB.mono h.bel.size)⟩
theorem IPS.store {w wr W : World} {tc : Array Value} {id : Int} {cs : List (List At)} {q n mb k : Nat} {o : List At} {a : Option Addr} {cp : Nat} (h : IPS w wr tc id cs q n mb) (hB : Below wr.heap.size wr W) (hk : k < cs.length) (ho : OwnAts W (fun c => wr.heap.size ≤ c ∧ c < W.heap.size) a o) :
    IPS w (W.setCell ⟨q, k, none⟩ (.slice a o.length cp)) tc id (cs.set k o) q n mb := by
  have h2 := h.later hB
  obtain ⟨hq, -⟩ := own_atA h.own hk
  have hm := (Array.getElem?_eq_some_iff.1 h.mx).1
  have st : ∀ b x, W.heap[b]? = some x → b ≠ q → (W.setCell ⟨q, k, none⟩ (.slice a o.length cp)).heap[b]? = some x := fun b x hx hb => by
    rw [Below.heap_setCell _ ⟨q, k, none⟩ _ _ hb]; exact hx
  have hs : (W.setCell ⟨q, k, none⟩ (.slice a o.length cp)).heap.size = W.heap.size := by simp [World.setCell]
  refine ⟨st _ _ h2.tb (by have := hq.1; omega), st _ _ h2.zr (by have := hq.1; omega), by rw [List.length_set]; exact st _ _ h2.mx (fun e => hq.2.1 e.symm), h.lo, ?_, h2.bel.setCell (by show w.heap.size ≤ q; have := hq.1; omega) _⟩
  refine (own_setA h.own (fun b hb => hb.2.2) hB hk (ho.own cp) (fun b hb => hb.1)).mono (fun b hb => ?_)
  have hsz := hB.size
  have hlo := h.lo
  rcases hb with hb | hb
  · exact ⟨hb.1, hb.2.1, by rw [hs]; omega⟩
  · exact ⟨by have := hb.1; omega, by have := hb.1; omega, by rw [hs]; exact hb.2⟩
set_option maxRecDepth 100000 in
set_option maxHeartbeats 12800000 in
theorem mutRowI (t : Tb) (ca : Option Addr) (cc : Nat) (ua : Option Addr) (uc : Nat) (A : Nat → Prop) (r : RowV) (ra : Option Addr) (rc : Nat) (R : Nat → Prop) (list : List MutV) (a : Option Addr) (c : Nat) (B : Nat → Prop) (w : World) (hto : t.ok) (hlo : (dMutS list).le 1048576) (hr : (dAtomSS r.cells).le 1048576) (hT : t.Has w A ca ua) (hR : Rd w R (dAtomSS r.cells) (.slice ra r.cells.length rc)) (hL : Rd w B (dMutS list) (.slice a list.length c)) :
    Calls Tryz.prog 8 #[.agg #[.string ⟨t.nm.toArray⟩, .slice ca t.cols.length cc, .slice ua t.uq.length uc, .bool t.rt], .agg #[.int .i64 r.id, .slice ra r.cells.length rc], .slice a list.length c] w (RowAnsO w (mrR t r list) (mrC t r list)) := by
  have hlm : (dMutS list).le maxLen := D.le.mono (by unfold maxLen; omega) _ hlo
  have hrm : (dAtomSS r.cells).le maxLen := D.le.mono (by unfold maxLen; omega) _ hr
  have hll : list.length ≤ 1048576 := (Ls_le.1 hlo).2.1
  have RO : Hid (∀ W, MB3 w W #[.string ⟨t.nm.toArray⟩, .slice ca t.cols.length cc, .slice ua t.uq.length uc, .bool t.rt] #[.int .i64 r.id, .slice ra r.cells.length rc] #[.int .i64 0, .slice none 0 0] → Calls Tryz.prog 11 #[.agg #[.string ⟨t.nm.toArray⟩, .slice ca t.cols.length cc, .slice ua t.uq.length uc, .bool t.rt], .agg #[.int .i64 r.id, .slice ra r.cells.length rc]] W fun e w' => e = .returned (.bool (rokM t r)) ∧ MB3 w w' #[.string ⟨t.nm.toArray⟩, .slice ca t.cols.length cc, .slice ua t.uq.length uc, .bool t.rt] #[.int .i64 r.id, .slice ra r.cells.length rc] #[.int .i64 0, .slice none 0 0]) := fun W h => by
    obtain ⟨X, hX⟩ := (hR.later h.bel).rowX
    exact (rowOKi t ca cc ua uc r.id r.cells ra rc X A W.heap.size W hto (le_sets hrm) (hT.later h.bel) (Nat.le_refl _) hX).mono (fun e w' ⟨he, hB⟩ => ⟨he, h.later hB⟩)
  have CO : Hid (∀ W, MB3 w W #[.string ⟨t.nm.toArray⟩, .slice ca t.cols.length cc, .slice ua t.uq.length uc, .bool t.rt] #[.int .i64 r.id, .slice ra r.cells.length rc] #[.int .i64 0, .slice none 0 0] → Calls Tryz.prog 20 #[.slice a list.length c, .int .i64 8, .func (.func 21) #[] #[]] W fun e w' => e = .returned (.bool (mutsB list)) ∧ MB3 w w' #[.string ⟨t.nm.toArray⟩, .slice ca t.cols.length cc, .slice ua t.uq.length uc, .bool t.rt] #[.int .i64 r.id, .slice ra r.cells.length rc] #[.int .i64 0, .slice none 0 0]) := fun W h => (mfewI list a c B W hlm (hL.later h.bel)).mono (fun e w' ⟨he, hB⟩ => ⟨he, h.later hB⟩)
  have CC : Hid ((∀ k (h : k < list.length), mutB list[k] = true) → ∀ W, MB3 w W #[.string ⟨t.nm.toArray⟩, .slice ca t.cols.length cc, .slice ua t.uq.length uc, .bool t.rt] #[.int .i64 r.id, .slice ra r.cells.length rc] #[.int .i64 0, .slice none 0 0] → Calls Tryz.prog 22 #[.agg #[.string ⟨t.nm.toArray⟩, .slice ca t.cols.length cc, .slice ua t.uq.length uc, .bool t.rt], .slice a list.length c, .func (.func 23) #[] #[]] W fun e w' => e = .returned (.int .i64 (mutsC t list)) ∧ MB3 w w' #[.string ⟨t.nm.toArray⟩, .slice ca t.cols.length cc, .slice ua t.uq.length uc, .bool t.rt] #[.int .i64 r.id, .slice ra r.cells.length rc] #[.int .i64 0, .slice none 0 0]) := fun hq W h => (mfirstI t ca cc ua uc A list a c B W hto hq hlm (hT.later h.bel) (hL.later h.bel)).mono (fun e w' ⟨he, hB⟩ => ⟨he, h.later hB⟩)
  have CP : Hid (∀ W, MB3 w W #[.string ⟨t.nm.toArray⟩, .slice ca t.cols.length cc, .slice ua t.uq.length uc, .bool t.rt] #[.int .i64 r.id, .slice ra r.cells.length rc] #[.int .i64 0, .slice none 0 0] → Calls Tryz.prog 24 #[.pointer (some ⟨w.heap.size + 1, 0, none⟩)] W fun e w' => ∃ q : Nat, e = .returned (.agg #[.int .i64 r.id, .slice (some ⟨q, 0, none⟩) r.cells.length r.cells.length]) ∧ Own w' (dAtomSS r.cells) (fun c => W.heap.size ≤ c ∧ c < w'.heap.size) (.slice (some ⟨q, 0, none⟩) r.cells.length r.cells.length) ∧ Below W.heap.size W w') := fun W h => copyRowI r (w.heap.size + 1) 0 ra rc R W hr (hR.later h.bel) (cell_at (o := 0) h.rb rfl) (cell_at (o := 1) h.rb rfl)
  have HL : Hid (∀ W, Below w.heap.size w W → Rd W B (Ls 3 dMut list) (.slice a list.length c)) := fun W h => Rd.later hL h
  have HT : Hid (t.ok ∧ ∀ W, Below w.heap.size w W → t.Has W A ca ua) := ⟨hto, fun W h => hT.later h⟩
  have hcl := hto.2.1
  unfold maxLen at hcl
  have hb := mb3 w #[.string ⟨t.nm.toArray⟩, .slice ca t.cols.length cc, .slice ua t.uq.length uc, .bool t.rt] #[.int .i64 r.id, .slice ra r.cells.length rc] #[.int .i64 0, .slice none 0 0]
  have HB := Lib.hid hb
  have x0 := cell_at (o := 0) hb.tb rfl
  have x1 := cell_at (o := 1) hb.tb rfl
  have x2 := cell_at (o := 2) hb.tb rfl
  have x3 := cell_at (o := 3) hb.tb rfl
  have y0 := cell_at (o := 0) hb.rb rfl
  have y1 := cell_at (o := 1) hb.rb rfl
  have z0 := cell_at (o := 0) hb.zr rfl
  have z1 := cell_at (o := 1) hb.zr rfl
  have f0 := frozen_at 0 hb.zr
  have f1 := frozen_at 1 hb.zr
  clear hlm hrm hto hlo hr hT hR hL hb
  by_cases h4 : 4096 < list.length
  case pos =>
    have HP := Lib.hid (mr_long (t := t) (r := r) h4)
    have hd : decide (4096 < (list.length : Int)) = true := decide_eq_true (by omega)
    clear h4
    go_enter Tryz.func8, Tryz.ntmps8
    go_wp2_with fail
    refine bodyPost_ret (v := .tuple #[.agg #[.int .i64 0, .slice none 0 0], .int .i64 2]) (by simp [results, Tryz.results8, go_sem, *]) rfl ?_
    rw [HP.out.1, HP.out.2]
    exact ⟨none, 0, rfl, ⟨none, 0, rfl, .inl rfl⟩, by first | exact HB.out.bel | exact (HB.out.bel.setCell (by show w.heap.size ≤ w.heap.size + 1 + 1; omega) _).setCell (by show w.heap.size ≤ w.heap.size + 1 + 1; omega) _⟩
  have hd : decide (4096 < (list.length : Int)) = false := decide_eq_false (by omega)
  have H4 := Lib.hid h4
  clear h4
  cases hro : rokM t r
  case false =>
    have HP := Lib.hid (mr_bad (t := t) (r := r) H4.out (fun h => by rw [hro] at h; cases h.1))
    rw [hro] at RO
    clear hro
    go_enter Tryz.func8, Tryz.ntmps8
    go_wp2_with fail
    refine (RO.out _ HB.out).mono ?_
    rintro e w1 ⟨rfl, hb⟩
    have HB1 := Lib.hid hb
    clear x0 x1 x2 x3 y0 y1 z0 z1 f0 f1
    have x0 := cell_at (o := 0) hb.tb rfl
    have x1 := cell_at (o := 1) hb.tb rfl
    have x2 := cell_at (o := 2) hb.tb rfl
    have x3 := cell_at (o := 3) hb.tb rfl
    have y0 := cell_at (o := 0) hb.rb rfl
    have y1 := cell_at (o := 1) hb.rb rfl
    have z0 := cell_at (o := 0) hb.zr rfl
    have z1 := cell_at (o := 1) hb.zr rfl
    have f0 := frozen_at 0 hb.zr
    have f1 := frozen_at 1 hb.zr
    clear hb
    go_wp2_with fail
    refine bodyPost_ret (v := .tuple #[.agg #[.int .i64 0, .slice none 0 0], .int .i64 1]) (by simp [results, Tryz.results8, go_sem, *]) rfl ?_
    rw [HP.out.1, HP.out.2]
    exact ⟨none, 0, rfl, ⟨none, 0, rfl, .inl rfl⟩, by first | exact HB1.out.bel | exact (HB1.out.bel.setCell (by show w.heap.size ≤ w.heap.size + 1 + 1; omega) _).setCell (by show w.heap.size ≤ w.heap.size + 1 + 1; omega) _⟩
  rw [hro] at RO
  cases hbo : mutsB list
  case false =>
    have HP := Lib.hid (mr_bad (t := t) (r := r) H4.out (fun h => by rw [hbo] at h; cases h.2))
    rw [hbo] at CO
    clear hro hbo
    go_enter Tryz.func8, Tryz.ntmps8
    go_wp2_with fail
    refine (RO.out _ HB.out).mono ?_
    rintro e w1 ⟨rfl, hb⟩
    have HB1 := Lib.hid hb
    clear x0 x1 x2 x3 y0 y1 z0 z1 f0 f1
    have x0 := cell_at (o := 0) hb.tb rfl
    have x1 := cell_at (o := 1) hb.tb rfl
    have x2 := cell_at (o := 2) hb.tb rfl
    have x3 := cell_at (o := 3) hb.tb rfl
    have y0 := cell_at (o := 0) hb.rb rfl
    have y1 := cell_at (o := 1) hb.rb rfl
    have z0 := cell_at (o := 0) hb.zr rfl
    have z1 := cell_at (o := 1) hb.zr rfl
    have f0 := frozen_at 0 hb.zr
    have f1 := frozen_at 1 hb.zr
    clear hb
    go_wp2_with fail
    refine (CO.out _ HB1.out).mono ?_
    rintro e w2 ⟨rfl, hb⟩
    have HB2 := Lib.hid hb
    clear x0 x1 x2 x3 y0 y1 z0 z1 f0 f1
    have x0 := cell_at (o := 0) hb.tb rfl
    have x1 := cell_at (o := 1) hb.tb rfl
    have x2 := cell_at (o := 2) hb.tb rfl
    have x3 := cell_at (o := 3) hb.tb rfl
    have y0 := cell_at (o := 0) hb.rb rfl
    have y1 := cell_at (o := 1) hb.rb rfl
    have z0 := cell_at (o := 0) hb.zr rfl
    have z1 := cell_at (o := 1) hb.zr rfl
    have f0 := frozen_at 0 hb.zr
    have f1 := frozen_at 1 hb.zr
    clear hb
    go_wp2_with fail
    refine bodyPost_ret (v := .tuple #[.agg #[.int .i64 0, .slice none 0 0], .int .i64 1]) (by simp [results, Tryz.results8, go_sem, *]) rfl ?_
    rw [HP.out.1, HP.out.2]
    exact ⟨none, 0, rfl, ⟨none, 0, rfl, .inl rfl⟩, by first | exact HB2.out.bel | exact (HB2.out.bel.setCell (by show w.heap.size ≤ w.heap.size + 1 + 1; omega) _).setCell (by show w.heap.size ≤ w.heap.size + 1 + 1; omega) _⟩
  have HRB := Lib.hid (And.intro hro hbo)
  rw [hbo] at CO
  have CC2 := Lib.hid (CC.out (fun k h => muts_all hbo _ (List.getElem_mem h)))
  clear CC
  have CC := CC2
  clear CC2
  clear hro hbo
  by_cases h0 : mutsC t list = 0
  case neg =>
    have HP := Lib.hid (mr_code H4.out HRB.out h0)
    have hne : (mutsC t list != 0) = true := by simpa using h0
    clear h0
    go_enter Tryz.func8, Tryz.ntmps8
    go_wp2_with fail
    refine (RO.out _ HB.out).mono ?_
    rintro e w1 ⟨rfl, hb⟩
    have HB1 := Lib.hid hb
    clear x0 x1 x2 x3 y0 y1 z0 z1 f0 f1
    have x0 := cell_at (o := 0) hb.tb rfl
    have x1 := cell_at (o := 1) hb.tb rfl
    have x2 := cell_at (o := 2) hb.tb rfl
    have x3 := cell_at (o := 3) hb.tb rfl
    have y0 := cell_at (o := 0) hb.rb rfl
    have y1 := cell_at (o := 1) hb.rb rfl
    have z0 := cell_at (o := 0) hb.zr rfl
    have z1 := cell_at (o := 1) hb.zr rfl
    have f0 := frozen_at 0 hb.zr
    have f1 := frozen_at 1 hb.zr
    clear hb
    go_wp2_with fail
    refine (CO.out _ HB1.out).mono ?_
    rintro e w2 ⟨rfl, hb⟩
    have HB2 := Lib.hid hb
    clear x0 x1 x2 x3 y0 y1 z0 z1 f0 f1
    have x0 := cell_at (o := 0) hb.tb rfl
    have x1 := cell_at (o := 1) hb.tb rfl
    have x2 := cell_at (o := 2) hb.tb rfl
    have x3 := cell_at (o := 3) hb.tb rfl
    have y0 := cell_at (o := 0) hb.rb rfl
    have y1 := cell_at (o := 1) hb.rb rfl
    have z0 := cell_at (o := 0) hb.zr rfl
    have z1 := cell_at (o := 1) hb.zr rfl
    have f0 := frozen_at 0 hb.zr
    have f1 := frozen_at 1 hb.zr
    clear hb
    go_wp2_with fail
    refine (CC.out _ HB2.out).mono ?_
    rintro e w3 ⟨rfl, hb⟩
    have HB3 := Lib.hid hb
    clear x0 x1 x2 x3 y0 y1 z0 z1 f0 f1
    have x0 := cell_at (o := 0) hb.tb rfl
    have x1 := cell_at (o := 1) hb.tb rfl
    have x2 := cell_at (o := 2) hb.tb rfl
    have x3 := cell_at (o := 3) hb.tb rfl
    have y0 := cell_at (o := 0) hb.rb rfl
    have y1 := cell_at (o := 1) hb.rb rfl
    have z0 := cell_at (o := 0) hb.zr rfl
    have z1 := cell_at (o := 1) hb.zr rfl
    have f0 := frozen_at 0 hb.zr
    have f1 := frozen_at 1 hb.zr
    clear hb
    go_wp2_with fail
    refine bodyPost_ret (v := .tuple #[.agg #[.int .i64 0, .slice none 0 0], .int .i64 (mutsC t list)]) (by simp [results, Tryz.results8, go_sem, *]) rfl ?_
    rw [HP.out.1, HP.out.2]
    exact ⟨none, 0, rfl, ⟨none, 0, rfl, .inl rfl⟩, by first | exact HB3.out.bel | exact (HB3.out.bel.setCell (by show w.heap.size ≤ w.heap.size + 1 + 1; omega) _).setCell (by show w.heap.size ≤ w.heap.size + 1 + 1; omega) _⟩
  have HP := Lib.hid (mr_ok H4.out HRB.out h0)
  have HE := Lib.hid (muts_each HRB.out.2 h0)
  have HI0 := Lib.hid (rok_I HRB.out.1)
  rw [h0] at CC
  clear h0
  go_enter Tryz.func8, Tryz.ntmps8
  go_wp2_with fail
  refine (RO.out _ HB.out).mono ?_
  rintro e w1 ⟨rfl, hb⟩
  have HB1 := Lib.hid hb
  clear x0 x1 x2 x3 y0 y1 z0 z1 f0 f1
  have x0 := cell_at (o := 0) hb.tb rfl
  have x1 := cell_at (o := 1) hb.tb rfl
  have x2 := cell_at (o := 2) hb.tb rfl
  have x3 := cell_at (o := 3) hb.tb rfl
  have y0 := cell_at (o := 0) hb.rb rfl
  have y1 := cell_at (o := 1) hb.rb rfl
  have z0 := cell_at (o := 0) hb.zr rfl
  have z1 := cell_at (o := 1) hb.zr rfl
  have f0 := frozen_at 0 hb.zr
  have f1 := frozen_at 1 hb.zr
  clear hb
  go_wp2_with fail
  refine (CO.out _ HB1.out).mono ?_
  rintro e w2 ⟨rfl, hb⟩
  have HB2 := Lib.hid hb
  clear x0 x1 x2 x3 y0 y1 z0 z1 f0 f1
  have x0 := cell_at (o := 0) hb.tb rfl
  have x1 := cell_at (o := 1) hb.tb rfl
  have x2 := cell_at (o := 2) hb.tb rfl
  have x3 := cell_at (o := 3) hb.tb rfl
  have y0 := cell_at (o := 0) hb.rb rfl
  have y1 := cell_at (o := 1) hb.rb rfl
  have z0 := cell_at (o := 0) hb.zr rfl
  have z1 := cell_at (o := 1) hb.zr rfl
  have f0 := frozen_at 0 hb.zr
  have f1 := frozen_at 1 hb.zr
  clear hb
  go_wp2_with fail
  refine (CC.out _ HB2.out).mono ?_
  rintro e w3 ⟨rfl, hb⟩
  have HB3 := Lib.hid hb
  clear x0 x1 x2 x3 y0 y1 z0 z1 f0 f1
  have x0 := cell_at (o := 0) hb.tb rfl
  have x1 := cell_at (o := 1) hb.tb rfl
  have x2 := cell_at (o := 2) hb.tb rfl
  have x3 := cell_at (o := 3) hb.tb rfl
  have y0 := cell_at (o := 0) hb.rb rfl
  have y1 := cell_at (o := 1) hb.rb rfl
  have z0 := cell_at (o := 0) hb.zr rfl
  have z1 := cell_at (o := 1) hb.zr rfl
  have f0 := frozen_at 0 hb.zr
  have f1 := frozen_at 1 hb.zr
  clear hb
  go_wp2_with fail
  refine (CP.out _ HB3.out).mono ?_
  rintro e w4 ⟨cq, rfl, hown, hB4⟩
  clear x0 x1 x2 x3 y0 y1 z0 z1 f0 f1
  have ST0 : Hid (IPS w (w4.alloc (.cells #[.int .i64 r.id, .slice (some ⟨cq, 0, none⟩) r.cells.length r.cells.length] 34)) #[.string ⟨t.nm.toArray⟩, .slice ca t.cols.length cc, .slice ua t.uq.length uc, .bool t.rt] r.id r.cells cq r.cells.length w4.heap.size) := by
    have h4 := (HB3.out.later hB4).later (below_allocD w4 (.cells #[.int .i64 r.id, .slice (some ⟨cq, 0, none⟩) r.cells.length r.cells.length] 34))
    have hz3 := (Array.getElem?_eq_some_iff.1 HB3.out.zr).1
    have hsz := hB4.size
    refine ⟨h4.tb, h4.zr, heap_newD _ _, by omega, (hown.later (below_allocD _ _)).mono (fun b hb => ⟨by have := hb.1; omega, by have := hb.2; omega, by have := hb.2; simp; omega⟩), h4.bel⟩
  clear hown hB4
  obtain ⟨mb, hmb⟩ : ∃ mb, mb = w4.heap.size := ⟨_, rfl⟩
  rw [← hmb] at ST0
  have HMB := Lib.hid hmb
  clear hmb
  go_wp2_with fail
  rw [← HMB.out]
  clear HB HB1 HB2 HB3 RO CO CC CP
  go_loopw [39] (fun i wr => ∃ m : Nat, m ≤ list.length ∧ i = .int .i64 m ∧ Hid (∃ cs, IPS w wr #[.string ⟨t.nm.toArray⟩, .slice ca t.cols.length cc, .slice ua t.uq.length uc, .bool t.rt] r.id cs cq r.cells.length mb ∧ RowI t cs ∧ rowM t r.cells list = rowM t cs (list.drop m))) (fun i _ => list.length - (intOf i).toNat)
  case atStart => exact ⟨0, Nat.zero_le _, rfl, _, ST0.out, HI0.out, by rw [List.drop_zero]⟩
  case round =>
    obtain ⟨m, hm, rfl, HX⟩ := hrel
    obtain ⟨cs, hS, hI, hM⟩ := HX.out
    by_cases hlt : m < list.length
    case neg =>
      have hmi : decide ((m : Int) < (list.length : Int)) = false := by simp; omega
      have HR : Hid (rowR t r list = ⟨r.id, cs⟩ ∧ (rowM t r.cells list).1 = 0) := rowR_ok (by rw [hM, List.drop_eq_nil_of_le (by omega)]; rfl)
      have HS := Lib.hid hS
      have z0 := cell_at (o := 0) hS.zr rfl
      have z1 := cell_at (o := 1) hS.zr rfl
      have f0 := frozen_at 0 hS.zr
      have f1 := frozen_at 1 hS.zr
      have k0 := cell_at (o := 0) hS.mx rfl
      have k1 := cell_at (o := 1) hS.mx rfl
      clear hS hI hM
      go_wp2_with fail
      refine bodyPost_ret (v := .tuple #[.agg #[.int .i64 r.id, .slice (some ⟨cq, 0, none⟩) cs.length r.cells.length], .int .i64 0]) (by simp [results, Tryz.results8, go_sem, *]) rfl ?_
      rw [HP.out.1, HP.out.2, HR.out.1, HR.out.2]
      refine ⟨_, _, rfl, ?_, (HS.out.bel.setCell (by show w.heap.size ≤ w.heap.size + 1 + 1; omega) _).setCell (by show w.heap.size ≤ w.heap.size + 1 + 1; omega) _⟩
      exact (HS.out.own.frm (F := (· = w.heap.size + 1 + 1)) ((frm_set _ _ _ _).trans (frm_set _ _ _ _)) (fun b hb e => by have h1 := hb.1; have e2 : b = w.heap.size + 1 + 1 := e; omega)).mono (fun b hb => ⟨by have := hb.1; omega, by simpa using hb.2.2⟩)
    have hmi : (m : Int) < (list.length : Int) := by omega
    obtain ⟨k, hk, hpl, hmk⟩ := mutC_place (HE.out m hlt).2
    have hlen := hI.1
    have hkc : k < cs.length := by omega
    obtain ⟨hgq, da, dc, gc, gf, gr⟩ := own_atA hS.own hkc
    have HS := Lib.hid hS
    have HCM := Lib.hid (CanM.row hI hk (HE.out m hlt).1 hmk)
    obtain ⟨b, off, rfl, -, hc⟩ := (HL.out _ hS.bel).things m hlt
    obtain ⟨u0, l0, r0⟩ := hc 0 (by omega)
    obtain rfl : u0 = .string ⟨list[m].col.toArray⟩ := r0
    rw [Nat.add_zero] at l0
    obtain ⟨u1, l1, r1⟩ := hc 1 (by omega)
    obtain rfl : u1 = .int .i64 list[m].fn := r1
    obtain ⟨u2, l2, r2⟩ := hc 2 (by omega)
    replace r2 : Rd wr B (dAtomS list[m].val) u2 := r2
    obtain ⟨va, vc, rfl⟩ := r2.lsSlice
    obtain ⟨b1, off1, hca, -, -⟩ := (HT.out.2 _ hS.bel).1.at k hk
    subst hca
    have TCE : Hid (∀ W, Below wr.heap.size wr W → W.cell? ⟨w.heap.size, 0, none⟩ = some (.string ⟨t.nm.toArray⟩) ∧ W.cell? ⟨w.heap.size, 1, none⟩ = some (.slice (some ⟨b1, off1, none⟩) t.cols.length cc) ∧ W.cell? ⟨w.heap.size, 2, none⟩ = some (.slice ua t.uq.length uc) ∧ W.cell? ⟨w.heap.size, 3, none⟩ = some (.bool t.rt)) := fun W h => ⟨cell_at (o := 0) (HS.out.later h).tb rfl, cell_at (o := 1) (HS.out.later h).tb rfl, cell_at (o := 2) (HS.out.later h).tb rfl, cell_at (o := 3) (HS.out.later h).tb rfl⟩
    have CCE : Hid (∀ W, Below wr.heap.size wr W → W.cell? ⟨b1, off1 + k * 8, none⟩ = some (.string ⟨t.cols[k].nm.toArray⟩) ∧ W.cell? ⟨b1, off1 + k * 8 + 1, none⟩ = some (.int .i64 t.cols[k].k) ∧ W.cell? ⟨b1, off1 + k * 8 + 2, none⟩ = some (.int .i64 t.cols[k].mn) ∧ W.cell? ⟨b1, off1 + k * 8 + 3, none⟩ = some (.int .i64 t.cols[k].mx) ∧ W.cell? ⟨b1, off1 + k * 8 + 4, none⟩ = some (.int .i64 t.cols[k].lo) ∧ W.cell? ⟨b1, off1 + k * 8 + 5, none⟩ = some (.int .i64 t.cols[k].hi) ∧ W.cell? ⟨b1, off1 + k * 8 + 6, none⟩ = some (.string ⟨t.cols[k].rf.toArray⟩) ∧ W.cell? ⟨b1, off1 + k * 8 + 7, none⟩ = some (.bool t.cols[k].st)) := fun W h => by
      obtain ⟨b2, off2, e2, -, hc2⟩ := (HT.out.2 W (HS.out.bel.trans (h.mono HS.out.bel.size))).1.at k hk
      simp only [Option.some.injEq, Addr.mk.injEq, and_true] at e2
      obtain ⟨rfl, rfl⟩ := e2
      exact hc2 k hk
    have RCE : Hid (∀ W, Below wr.heap.size wr W → W.cell? ⟨mb, 1, none⟩ = some (.slice (some ⟨cq, 0, none⟩) cs.length r.cells.length) ∧ W.cell? ⟨cq, k, none⟩ = some (.slice da cs[k].length dc)) := fun W h => ⟨cell_at (o := 1) (HS.out.later h).mx rfl, cell_kept gc h⟩
    have PL : Hid (∀ W, Below wr.heap.size wr W → Calls Tryz.prog 25 #[.agg #[.string ⟨t.nm.toArray⟩, .slice (some ⟨b1, off1, none⟩) t.cols.length cc, .slice ua t.uq.length uc, .bool t.rt], .string ⟨list[m].col.toArray⟩] W fun e w' => e = .returned (.int .i64 (k : Int)) ∧ Below W.heap.size W w') := fun W h => by
      rw [← hpl]
      exact placeI t list[m].col _ cc ua uc A W HT.out.1.2.1 (HT.out.2 W (HS.out.bel.trans (h.mono HS.out.bel.size)))
    have MU : Hid (∀ W, Below wr.heap.size wr W → Calls Tryz.prog 26 #[.agg #[.string ⟨t.cols[k].nm.toArray⟩, .int .i64 t.cols[k].k, .int .i64 t.cols[k].mn, .int .i64 t.cols[k].mx, .int .i64 t.cols[k].lo, .int .i64 t.cols[k].hi, .string ⟨t.cols[k].rf.toArray⟩, .bool t.cols[k].st], .slice da cs[k].length dc, .agg #[.string ⟨list[m].col.toArray⟩, .int .i64 list[m].fn, .slice va list[m].val.length vc]] W (AAns2 W (mutP t.cols[k] cs[k] list[m]).2 (mutP t.cols[k] cs[k] list[m]).1)) := fun W h => mutatedI t.cols[k] cs[k] list[m] da dc va vc W.heap.size W HCM.out (Nat.le_refl _) (gr.later h).lt.ats (r2.later h).lt.ats
    have HST : Hid ((mutP t.cols[k] cs[k] list[m]).1 = 0 → RowI t (cs.set k (mutP t.cols[k] cs[k] list[m]).2) ∧ rowM t r.cells list = rowM t (cs.set k (mutP t.cols[k] cs[k] list[m]).2) (list.drop (m + 1))) := fun h0 => ⟨hI.set hk (mutP_ok HCM.out h0).1 (mutP_ok HCM.out h0).2.1, hM.trans (rowM_step hlt hk hlen hpl h0)⟩
    have HSP : Hid (¬ (mutP t.cols[k] cs[k] list[m]).1 = 0 → rowR t r list = rowZ ∧ (rowM t r.cells list).1 = (mutP t.cols[k] cs[k] list[m]).1) := fun h0 => rowR_no (hM.trans (rowM_stop hlt hk hlen hpl h0)) h0
    have hk1 : (k : Int) < (t.cols.length : Int) := by omega
    have hk2 : (k : Int) < (cs.length : Int) := by omega
    have HK := Lib.hid hkc
    clear hS hI hM hpl hmk hc r2 gr gc gf HCM hgq
    generalize cs[k] = d at *
    generalize t.cols[k] = x at *
    generalize list[m] = y at *
    clear hk hlen hkc
    have BA : Hid (Below wr.heap.size wr (wr.alloc (.cells #[.string ⟨y.col.toArray⟩, .int .i64 y.fn, .slice va y.val.length vc] 49))) := below_allocD _ _
    have MCE : Hid (∀ W, Below (wr.alloc (.cells #[.string ⟨y.col.toArray⟩, .int .i64 y.fn, .slice va y.val.length vc] 49)).heap.size (wr.alloc (.cells #[.string ⟨y.col.toArray⟩, .int .i64 y.fn, .slice va y.val.length vc] 49)) W → W.cell? ⟨wr.heap.size, 0, none⟩ = some (.string ⟨y.col.toArray⟩) ∧ W.cell? ⟨wr.heap.size, 1, none⟩ = some (.int .i64 y.fn) ∧ W.cell? ⟨wr.heap.size, 2, none⟩ = some (.slice va y.val.length vc)) := fun W h => ⟨cell_at (o := 0) (heap_keptD (heap_newD _ _) h) rfl, cell_at (o := 1) (heap_keptD (heap_newD _ _) h) rfl, cell_at (o := 2) (heap_keptD (heap_newD _ _) h) rfl⟩
    obtain ⟨x0, x1, x2, x3⟩ := TCE.out _ BA.out
    obtain ⟨i0, i1, i2⟩ := MCE.out _ (Below.refl _ _)
    go_wp2_with fail
    refine (PL.out _ BA.out).mono ?_
    rintro e w5 ⟨rfl, hB⟩
    have BW : Hid (Below (wr.alloc (.cells #[.string ⟨y.col.toArray⟩, .int .i64 y.fn, .slice va y.val.length vc] 49)).heap.size (wr.alloc (.cells #[.string ⟨y.col.toArray⟩, .int .i64 y.fn, .slice va y.val.length vc] 49)) w5) := hB
    clear hB x0 x1 x2 x3 i0 i1 i2 l0 l1 l2
    have BX5 : Hid (Below wr.heap.size wr w5) := BA.out.trans (BW.out.mono BA.out.size)
    go_wp2_with fail
    have CX6 : Hid (∀ W, Below w5.heap.size w5 W → W.cell? ⟨w.heap.size, 1, none⟩ = some (.slice (some ⟨b1, off1, none⟩) t.cols.length cc) ∧ W.cell? ⟨b1, off1 + k * 8, none⟩ = some (.string ⟨x.nm.toArray⟩) ∧ W.cell? ⟨b1, off1 + k * 8 + 1, none⟩ = some (.int .i64 x.k) ∧ W.cell? ⟨b1, off1 + k * 8 + 2, none⟩ = some (.int .i64 x.mn) ∧ W.cell? ⟨b1, off1 + k * 8 + 3, none⟩ = some (.int .i64 x.mx) ∧ W.cell? ⟨b1, off1 + k * 8 + 4, none⟩ = some (.int .i64 x.lo) ∧ W.cell? ⟨b1, off1 + k * 8 + 5, none⟩ = some (.int .i64 x.hi) ∧ W.cell? ⟨b1, off1 + k * 8 + 6, none⟩ = some (.string ⟨x.rf.toArray⟩) ∧ W.cell? ⟨b1, off1 + k * 8 + 7, none⟩ = some (.bool x.st) ∧ W.cell? ⟨mb, 1, none⟩ = some (.slice (some ⟨cq, 0, none⟩) cs.length r.cells.length) ∧ W.cell? ⟨cq, k, none⟩ = some (.slice da d.length dc) ∧ W.cell? ⟨wr.heap.size, 0, none⟩ = some (.string ⟨y.col.toArray⟩) ∧ W.cell? ⟨wr.heap.size, 1, none⟩ = some (.int .i64 y.fn) ∧ W.cell? ⟨wr.heap.size, 2, none⟩ = some (.slice va y.val.length vc)) := fun W h => by
      have h2 := BX5.out.trans (h.mono BX5.out.size)
      obtain ⟨e0, e1, e2, e3, e4, e5, e6, e7⟩ := CCE.out W h2
      obtain ⟨f0, f1⟩ := RCE.out W h2
      obtain ⟨i0, i1, i2⟩ := MCE.out W (BW.out.trans (h.mono BW.out.size))
      exact ⟨(TCE.out W h2).2.1, e0, e1, e2, e3, e4, e5, e6, e7, f0, f1, i0, i1, i2⟩
    refine wp_region_held_drew (S := (fun W => W.cell? ⟨w.heap.size, 1, none⟩ = some (.slice (some ⟨b1, off1, none⟩) t.cols.length cc) ∧ W.cell? ⟨b1, off1 + k * 8, none⟩ = some (.string ⟨x.nm.toArray⟩) ∧ W.cell? ⟨b1, off1 + k * 8 + 1, none⟩ = some (.int .i64 x.k) ∧ W.cell? ⟨b1, off1 + k * 8 + 2, none⟩ = some (.int .i64 x.mn) ∧ W.cell? ⟨b1, off1 + k * 8 + 3, none⟩ = some (.int .i64 x.mx) ∧ W.cell? ⟨b1, off1 + k * 8 + 4, none⟩ = some (.int .i64 x.lo) ∧ W.cell? ⟨b1, off1 + k * 8 + 5, none⟩ = some (.int .i64 x.hi) ∧ W.cell? ⟨b1, off1 + k * 8 + 6, none⟩ = some (.string ⟨x.rf.toArray⟩) ∧ W.cell? ⟨b1, off1 + k * 8 + 7, none⟩ = some (.bool x.st) ∧ W.cell? ⟨mb, 1, none⟩ = some (.slice (some ⟨cq, 0, none⟩) cs.length r.cells.length) ∧ W.cell? ⟨cq, k, none⟩ = some (.slice da d.length dc) ∧ W.cell? ⟨wr.heap.size, 0, none⟩ = some (.string ⟨y.col.toArray⟩) ∧ W.cell? ⟨wr.heap.size, 1, none⟩ = some (.int .i64 y.fn) ∧ W.cell? ⟨wr.heap.size, 2, none⟩ = some (.slice va y.val.length vc))) (by kernel_rfl) ?_ (fun hHeld => ?_)
    · (first | exact CX6.out _ (Below.refl _ _) | exact CX6.out _ (Below.refl _ _).drew | exact CX6.out _ BW3.out)
    refine wpAnyH_take (i := 0) (v := ?_) rfl (by kernel_rfl) (by kernel_rfl) (by kernel_rfl) (fun _ _ _ h => h) (Or.inl ⟨by kernel_rfl, ?_⟩) (by assumption) ?_
    rotate_left
    · (intro wS hSw; (try dsimp only at hSw); go_simp <;> with_reducible rfl)
    try simp only [Act.put, tkS]
    refine wpAnyH_take (i := 1) (v := ?_) rfl (by kernel_rfl) (by kernel_rfl) (by kernel_rfl) (fun _ _ _ h => h) (Or.inl ⟨by kernel_rfl, ?_⟩) (by assumption) ?_
    rotate_left
    · (intro wS hSw; (try dsimp only at hSw); go_simp <;> with_reducible rfl)
    try simp only [Act.put, tkS]
    refine wpAnyH_take (i := 2) (v := ?_) rfl (by kernel_rfl) (by kernel_rfl) (by kernel_rfl) (fun _ _ _ h => h) (Or.inl ⟨by kernel_rfl, ?_⟩) (by assumption) ?_
    rotate_left
    · (intro wS hSw; (try dsimp only at hSw); go_simp <;> with_reducible rfl)
    try simp only [Act.put, tkS]
    refine wpAnyH_take (i := 3) (v := ?_) rfl (by kernel_rfl) (by kernel_rfl) (by kernel_rfl) (fun _ _ _ h => h) (Or.inl ⟨by kernel_rfl, ?_⟩) (by assumption) ?_
    rotate_left
    · (intro wS hSw; (try dsimp only at hSw); go_simp <;> with_reducible rfl)
    try simp only [Act.put, tkS]
    refine wpAnyH_take (i := 4) (v := ?_) rfl (by kernel_rfl) (by kernel_rfl) (by kernel_rfl) (fun _ _ _ h => h) (Or.inl ⟨by kernel_rfl, ?_⟩) (by assumption) ?_
    rotate_left
    · (intro wS hSw; (try dsimp only at hSw); go_simp <;> with_reducible rfl)
    try simp only [Act.put, tkS]
    refine wpAnyH_take (i := 5) (v := ?_) rfl (by kernel_rfl) (by kernel_rfl) (by kernel_rfl) (fun _ _ _ h => h) (Or.inl ⟨by kernel_rfl, ?_⟩) (by assumption) ?_
    rotate_left
    · (intro wS hSw; (try dsimp only at hSw); go_simp <;> with_reducible rfl)
    try simp only [Act.put, tkS]
    refine wpAnyH_take (i := 6) (v := ?_) rfl (by kernel_rfl) (by kernel_rfl) (by kernel_rfl) (fun _ _ _ h => h) (Or.inl ⟨by kernel_rfl, ?_⟩) (by assumption) ?_
    rotate_left
    · (intro wS hSw; (try dsimp only at hSw); go_simp <;> with_reducible rfl)
    try simp only [Act.put, tkS]
    refine wpAnyH_take (i := 7) (v := ?_) rfl (by kernel_rfl) (by kernel_rfl) (by kernel_rfl) (fun _ _ _ h => h) (Or.inl ⟨by kernel_rfl, ?_⟩) (by assumption) ?_
    rotate_left
    · (intro wS hSw; (try dsimp only at hSw); go_simp <;> with_reducible rfl)
    try simp only [Act.put, tkS]
    refine wpAnyH_take (i := 8) (v := ?_) rfl (by kernel_rfl) (by kernel_rfl) (by kernel_rfl) (fun _ _ _ h => h) (Or.inl ⟨by kernel_rfl, ?_⟩) (by assumption) ?_
    rotate_left
    · (intro wS hSw; (try dsimp only at hSw); go_simp <;> with_reducible rfl)
    try simp only [Act.put, tkS]
    refine wpAnyH_take (i := 9) (v := ?_) rfl (by kernel_rfl) (by kernel_rfl) (by kernel_rfl) (fun _ _ _ h => h) (Or.inl ⟨by kernel_rfl, ?_⟩) (by assumption) ?_
    rotate_left
    · (intro wS hSw; (try dsimp only at hSw); go_simp <;> with_reducible rfl)
    try simp only [Act.put, tkS]
    refine wpAnyH_take (i := 10) (v := ?_) rfl (by kernel_rfl) (by kernel_rfl) (by kernel_rfl) (fun _ _ _ h => h) (Or.inl ⟨by kernel_rfl, ?_⟩) (by assumption) ?_
    rotate_left
    · (intro wS hSw; (try dsimp only at hSw); go_simp <;> with_reducible rfl)
    try simp only [Act.put, tkS]
    refine wpAnyH_ready (rs := [11]) (by kernel_rfl) (by simp) (AllReadyH.cons rfl (fun K hK => ?_) AllReadyH.nil)
    go_simp
    (go_at_call 26; refine (MU.out _ BX5.out.drew).mono ?_; rintro e w6 ⟨na, nc, rfl, ho, hB⟩; have BW3 : Hid (Below w5.heap.size w5 w6) := (Below.refl _ _).drew.trans hB; have HO : Hid (OwnAts w6 (fun c => wr.heap.size ≤ c ∧ c < w6.heap.size) na (mutP x d y).2) := ho.same (fun _ _ => rfl) (fun _ hb => ⟨Nat.le_trans BX5.out.drew.size hb.1, hb.2⟩); clear ho hB)
    refine hK.out _ _ ?_ (fun hHeld => ?_)
    · (first | exact CX6.out _ (Below.refl _ _) | exact CX6.out _ (Below.refl _ _).drew | exact CX6.out _ BW3.out)
    clear hK K
    try simp only [Act.put, tkS]
    refine wpAnyH_take (i := 12) (v := ?_) rfl (by kernel_rfl) (by kernel_rfl) (by kernel_rfl) (fun _ _ _ h => h) (Or.inl ⟨by kernel_rfl, ?_⟩) (by assumption) ?_
    rotate_left
    · (intro wS hSw; (try dsimp only at hSw); go_simp <;> with_reducible rfl)
    try simp only [Act.put, tkS]
    refine wpAnyH_take (i := 13) (v := ?_) rfl (by kernel_rfl) (by kernel_rfl) (by kernel_rfl) (fun _ _ _ h => h) (Or.inl ⟨by kernel_rfl, ?_⟩) (by assumption) ?_
    rotate_left
    · (intro wS hSw; (try dsimp only at hSw); go_simp <;> with_reducible rfl)
    try simp only [Act.put, tkS]
    refine wpAnyH_take (i := 14) (v := ?_) rfl (by kernel_rfl) (by kernel_rfl) (by kernel_rfl) (fun _ _ _ h => h) (Or.inl ⟨by kernel_rfl, ?_⟩) (by assumption) ?_
    rotate_left
    · (intro wS hSw; (try dsimp only at hSw); go_simp <;> with_reducible rfl)
    try simp only [Act.put, tkS]
    refine wpAnyH_take (i := 15) (v := ?_) rfl (by kernel_rfl) (by kernel_rfl) (by kernel_rfl) (fun _ _ _ h => h) (Or.inl ⟨by kernel_rfl, ?_⟩) (by assumption) ?_
    rotate_left
    · (intro wS hSw; (try dsimp only at hSw); go_simp <;> with_reducible rfl)
    try simp only [Act.put, tkS]
    refine wpAnyH_take (i := 16) (v := ?_) rfl (by kernel_rfl) (by kernel_rfl) (by kernel_rfl) (fun _ _ _ h => h) (Or.inl ⟨by kernel_rfl, ?_⟩) (by assumption) ?_
    rotate_left
    · (intro wS hSw; (try dsimp only at hSw); go_simp <;> with_reducible rfl)
    try simp only [Act.put, tkS]
    refine wpAnyH_done (by kernel_rfl) ?_ _
    have BX6 : Hid (Below wr.heap.size wr w6) := BX5.out.trans (BW3.out.mono BX5.out.size)
    have HS3 := Lib.hid (HS.out.later BX6.out)
    generalize hmp : mutP x d y = mp at *
    clear hmp
    obtain ⟨mc, mo⟩ := mp
    dsimp only at HST HSP HO ⊢
    by_cases h0 : mc = 0
    case neg =>
      have HR := Lib.hid (HSP.out h0)
      have hne : (mc != 0) = true := by simpa using h0
      have z0 := cell_at (o := 0) HS3.out.zr rfl
      have zf0 := frozen_at 0 HS3.out.zr
      have z1 := cell_at (o := 1) HS3.out.zr rfl
      have zf1 := frozen_at 1 HS3.out.zr
      clear h0 HST HSP PL MU
      go_wp2_with fail
      refine bodyPost_ret (v := .tuple #[.agg #[.int .i64 0, .slice none 0 0], .int .i64 mc]) (by simp [results, Tryz.results8, go_sem, *]) rfl ?_
      rw [HP.out.1, HP.out.2, HR.out.1, HR.out.2]
      exact ⟨none, 0, rfl, ⟨none, 0, rfl, .inl rfl⟩, (HS3.out.bel.setCell (by show w.heap.size ≤ w.heap.size + 1 + 1; omega) _).setCell (by show w.heap.size ≤ w.heap.size + 1 + 1; omega) _⟩
    have HN := Lib.hid (HST.out h0)
    subst h0
    have HS4 := Lib.hid (HS.out.store (cp := nc) BX6.out HK.out HO.out)
    have q1 := (RCE.out _ BX6.out).1
    have q2 := (RCE.out _ BX6.out).2
    obtain ⟨-, da9, dc9, -, gf, -⟩ := own_atA HS3.out.own HK.out
    clear HST HSP PL MU
    go_wp2_with fail
    go_roundw
    case rel => exact ⟨m + 1, by omega, by go_num, _, HS4.out, HN.out.1, HN.out.2⟩
    case measure => simp [intOf]; omega
end Go.Proofs.YtgpoigkfoliflaaGreatDoor
