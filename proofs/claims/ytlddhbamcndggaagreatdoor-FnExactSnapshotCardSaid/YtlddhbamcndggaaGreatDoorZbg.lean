import Derived.Test.YtlddhbamcndggaaGreatDoorZay
import Derived.Test.YtlddhbamcndggaaGreatDoorZbc
import Derived.Deep.LoopGhost
import Derived.WalkMore
import Derived.Test.YtlddhbamcndggaaGreatDoorZTk
namespace Go.Proofs.YtlddhbamcndggaaGreatDoor
open Go.RowKit
set_option linter.unusedSimpArgs false
def wordsW : List (List UInt8) := [[], [61, 61], [33, 61], [60], [60, 61], [62], [62, 61], [105, 110, 99, 108, 117, 100, 101, 115], [101, 120, 99, 108, 117, 100, 101, 115]]
def TabW (w : World) : Prop := ∀ k : Nat, k < 9 → w.cell? ⟨0, k, none⟩ = some (.string ⟨(wordsW.getD k []).toArray⟩)
theorem TabW.later {w w1 : World} (hT : TabW w) (h0 : 0 < w.heap.size) (hB : Below w.heap.size w w1) : TabW w1 := fun k hk => by
 rw [hB.cell (p := ⟨0, k, none⟩) h0]; exact hT k hk
set_option maxHeartbeats 400000 in
theorem wordI (k : Nat) (s : ByteArray) (w : World) (hk : k < 9) (hc : w.cell? ⟨0, k, none⟩ = some (.string s)) : Calls Tryz.prog 120 #[.int .i64 (k : Int)] w fun e w' => e = .returned (.string s) ∧ w' = w := by
 have h1 : decide ((k : Int) < 0) = false := decide_eq_false (by omega)
 have h2 : decide ((9 : Int) ≤ (k : Int)) = false := decide_eq_false (by omega)
 have h3 : (k : Int) < 9 := by omega
 go_enter Tryz.func120, Tryz.ntmps120
 go_wp2_with fail
 go_ret
 exact ⟨rfl, rfl⟩
set_option maxRecDepth 100000 in
set_option maxHeartbeats 3200000 in
theorem cellI (t : Tb) (r : RowV) (s : List UInt8) (ca : Option Addr) (cc : Nat) (ua : Option Addr) (uc : Nat) (pb po : Nat) (ra : Option Addr) (rc : Nat) (A B : Nat → Prop) (w : World) (ho : t.ok) (hlen : r.cells.length = t.cols.length) (hT : t.Has w A ca ua) (hR : Rd w B (dAtomSS r.cells) (.slice ra r.cells.length rc)) (hp0 : w.cell? ⟨pb, po, none⟩ = some (.int .i64 r.id)) (hp1 : w.cell? ⟨pb, po + 1, none⟩ = some (.slice ra r.cells.length rc)) :
  Calls Tryz.prog 121 #[.agg #[.string ⟨t.nm.toArray⟩, .slice ca t.cols.length cc, .slice ua t.uq.length uc, .bool t.rt], .pointer (some ⟨pb, po, none⟩), .string ⟨s.toArray⟩] w (CellAns w (cellOf t r s)) := by
 have PL : Hid (∀ W, BoxD 75 w W #[.string ⟨t.nm.toArray⟩, .slice ca t.cols.length cc, .slice ua t.uq.length uc, .bool t.rt] → Calls Tryz.prog 116 #[.agg #[.string ⟨t.nm.toArray⟩, .slice ca t.cols.length cc, .slice ua t.uq.length uc, .bool t.rt], .string ⟨s.toArray⟩] W fun e w' => e = .returned (.int .i64 (placeC t.cols s)) ∧ BoxD 75 w w' #[.string ⟨t.nm.toArray⟩, .slice ca t.cols.length cc, .slice ua t.uq.length uc, .bool t.rt]) := fun W h => (placeI t s ca cc ua uc A W ho.2.1 (hT.later h.2)).mono (fun e w' ⟨he, hB⟩ => ⟨he, h.later hB⟩)
 have HR : Hid (∀ W, Below w.heap.size w W → Rd W B (Ls 1 cAtomS r.cells) (.slice ra r.cells.length rc)) := fun W h => Rd.later hR h
 have HP : Hid (∀ W, Below w.heap.size w W → W.cell? ⟨pb, po, none⟩ = some (.int .i64 r.id) ∧ W.cell? ⟨pb, po + 1, none⟩ = some (.slice ra r.cells.length rc)) := fun W h => ⟨(h.cell (p := ⟨pb, po, none⟩) (World.block_lt_of_cell? _ _ hp0)).trans hp0, (h.cell (p := ⟨pb, po + 1, none⟩) (World.block_lt_of_cell? _ _ hp1)).trans hp1⟩
 have hb := boxD 75 w #[.string ⟨t.nm.toArray⟩, .slice ca t.cols.length cc, .slice ua t.uq.length uc, .bool t.rt]
 have hcl := ho.2.1
 unfold maxLen at hcl
 have x0 := cell_at (o := 0) hb.1 rfl
 have x1 := cell_at (o := 1) hb.1 rfl
 have x2 := cell_at (o := 2) hb.1 rfl
 have x3 := cell_at (o := 3) hb.1 rfl
 have HB := Lib.hid hb
 clear ho hT hR hb hp0 hp1
 rcases place_cases t.cols s with hp | ⟨k, hk, hp⟩
 ·
  have HE := Lib.hid (cell_id (r := r) hp)
  rw [hp] at PL
  clear hp HR hlen
  go_enter Tryz.func121, Tryz.ntmps121
  go_wp2_with fail
  refine (PL.out _ HB.out).mono ?_
  rintro e w1 ⟨rfl, hb⟩
  clear x0 x1 x2 x3
  have y0 := (HP.out _ hb.2).1
  have y1 := (HP.out _ hb.2).2
  have HB1 := Lib.hid hb.2
  clear hb
  go_wp2_with fail
  go_ret
  exact CellAns.new (x := ⟨4, r.id, []⟩) HE HB1.out
 ·
  have hk2 : k < r.cells.length := by omega
  have HE := Lib.hid (cell_col hk2 hp)
  have hk1 : (k : Int) < (r.cells.length : Int) := by omega
  have hk0 : decide ((0 : Int) ≤ (k : Int)) = true := decide_eq_true (by omega)
  rw [hp] at PL
  clear hp hlen
  go_enter Tryz.func121, Tryz.ntmps121
  go_wp2_with fail
  refine (PL.out _ HB.out).mono ?_
  rintro e w1 ⟨rfl, hb⟩
  clear x0 x1 x2 x3
  have y0 := (HP.out _ hb.2).1
  have y1 := (HP.out _ hb.2).2
  have HB1 := Lib.hid hb.2
  obtain ⟨b, off, rfl, -, hc⟩ := (HR.out _ hb.2).things k hk2
  obtain ⟨u0, c0, r0⟩ := hc 0 (by omega)
  replace r0 : Rd w1 B (dAtomS r.cells[k]) u0 := r0
  obtain ⟨va, vq, rfl⟩ := r0.lsSlice
  rw [Nat.mul_one, Nat.add_zero] at c0
  have HR0 := Lib.hid r0.any
  clear hc r0
  generalize r.cells[k] = x at *
  clear hb
  go_wp2_with fail
  go_ret
  exact ⟨va, vq, by rw [HE.out]; rfl, by rw [HE.out]; exact HR0.out, HB1.out⟩
noncomputable def chosen (t : Tb) (rows : List RowV) (list : List CondV) : List Int := (rows.filter (fun r => allM t r list)).map (·.id)
theorem chosen_take {t : Tb} {rows : List RowV} {list : List CondV} {k : Nat} (hk : k < rows.length) : chosen t (rows.take (k + 1)) list = chosen t (rows.take k) list ++ (if allM t rows[k] list = true then [rows[k].id] else []) := by
 unfold chosen
 rw [List.take_succ_eq_append_getElem hk, List.filter_append, List.map_append]
 congr 1
 by_cases h : allM t rows[k] list = true
 ·
  rw [if_pos h]; simp [h]
 ·
  rw [if_neg h]; simp [h]
theorem chosen_at {t : Tb} {rows : List RowV} {list : List CondV} {k : Nat} (hk : k < rows.length) (h : allM t rows[k] list = true) : (chosen t rows list).getD (chosen t (rows.take k) list).length 0 = rows[k].id := by
 have e : chosen t rows list = chosen t (rows.take (k + 1)) list ++ chosen t (rows.drop (k + 1)) list := by
  unfold chosen
  rw [← List.map_append, ← List.filter_append, List.take_append_drop]
 rw [e, chosen_take hk, if_pos h, List.append_assoc, List.getD_eq_getElem?_getD, List.getElem?_append_right (Nat.le_refl _), Nat.sub_self]; rfl
theorem infoInt : ∃ i, Tryz.prog.info? 3 = some i ∧ i.zero = some (.int .i64 0) ∧ i.size = 1 ∧ i.bytes = 8 := by
 have h : (Tryz.prog.info? 3).map (fun i => (i.zero, i.size, i.bytes)) = some (some (.int .i64 0), 1, 8) := by kernel_rfl
 obtain ⟨i, hi, hzz⟩ := Option.map_eq_some_iff.1 h
 simp only [Prod.mk.injEq] at hzz
 exact ⟨i, hi, hzz⟩
structure CHS (w wr : World) (cs : Array Value) (F : List Int) (n : Nat) (v : Value) : Prop where
 tb : wr.heap[w.heap.size]? = some (.cells cs 75)
 gr : SG wr (w.heap.size + 1) (fun _ => True) 3 1 (fun i _ => .i (F.getD i 0)) n v
 lo : ∀ g, v.ownBlock = some g → w.heap.size + 1 ≤ g
 bel : Below w.heap.size w wr
theorem CHS.later {w wr wr' : World} {cs : Array Value} {F : List Int} {n : Nat} {v : Value} (h : CHS w wr cs F n v) (hB : Below wr.heap.size wr wr') : CHS w wr' cs F n v := ⟨heap_keptD h.tb hB, h.gr.later hB, h.lo, h.bel.trans (hB.mono h.bel.size)⟩
theorem CHS.first (w : World) (cs : Array Value) (F : List Int) : CHS w (w.alloc (.cells cs 75)) cs F 0 (.slice none 0 0) :=
 ⟨heap_newD _ _, ⟨[], ⟨by simp, .inl ⟨rfl, rfl⟩⟩, fun i j h => absurd h (by omega)⟩, fun g hg => by simp [Value.ownBlock] at hg, below_allocD _ _⟩
theorem CHS.push {w wr w3 : World} {cs : Array Value} {F : List Int} {n : Nat} {v v' : Value} (h : CHS w wr cs F n v) (hs : SG w3 (w.heap.size + 1) (fun _ => True) 3 1 (fun i _ => .i (F.getD i 0)) (n + 1) v') (hg : wr.grownBy w3 v.ownBlock) (hl : ∃ g, v'.ownBlock = some g ∧ (v.ownBlock = some g ∨ wr.heap.size ≤ g)) : CHS w w3 cs F (n + 1) v' := by
 have hlt := (Array.getElem?_eq_some_iff.1 h.tb).1
 refine ⟨?_, hs, fun g hg' => ?_, ?_⟩
 ·
  rw [hg.block _ hlt (fun e => by have := h.lo _ e.symm; omega)]; exact h.tb
 ·
  obtain ⟨g2, e2, h2⟩ := hl
  rw [e2] at hg'
  simp only [Option.some.injEq] at hg'
  subst hg'
  rcases h2 with h2 | h2
  ·
   exact h.lo _ h2
  ·
   omega
 ·
  exact h.bel.trans ⟨hg.os, hg.tape, hg.output, hg.size, fun b hb => hg.block b (Nat.lt_of_lt_of_le hb h.bel.size) (fun e => by have := h.lo _ e.symm; omega)⟩
theorem le_rowC {rows : List RowV} {K : Nat} (h : (dRowS rows).le K) {k : Nat} (hk : k < rows.length) : iOK rows[k].id ∧ (dAtomSS rows[k].cells).le K :=
 ⟨(Ls_le.1 h).2.2 k hk 0 (by omega), (Ls_le.1 h).2.2 k hk 1 (by omega)⟩
def ChAns (w : World) (F : List Int) (e : Ending) (w' : World) : Prop := ∃ va vq, e = .returned (.slice va F.length vq) ∧ SG w' (w.heap.size + 1) (fun _ => True) 3 1 (fun i _ => .i (F.getD i 0)) F.length (.slice va F.length vq) ∧ Below w.heap.size w w'
set_option maxRecDepth 100000 in
set_option maxHeartbeats 25600000 in
theorem chosenI (t : Tb) (ca : Option Addr) (cc : Nat) (ua : Option Addr) (uc : Nat) (A : Nat → Prop) (rows : List RowV) (ra : Option Addr) (rc : Nat) (R : Nat → Prop) (list : List CondV) (a : Option Addr) (c : Nat) (B : Nat → Prop) (w : World) (hto : t.ok) (ho : (dCondS list).le maxLen) (hr : (dRowS rows).le 1048576) (hTab : TabW w) (h0w : 0 < w.heap.size) (hq : ∀ i (h : i < rows.length) k (h' : k < list.length), Asks t rows[i] list[k]) (hT : t.Has w A ca ua) (hR : Rd w R (dRowS rows) (.slice ra rows.length rc)) (hL : Rd w B (dCondS list) (.slice a list.length c)) :
  Calls Tryz.prog 80 #[.agg #[.string ⟨t.nm.toArray⟩, .slice ca t.cols.length cc, .slice ua t.uq.length uc, .bool t.rt], .slice ra rows.length rc, .slice a list.length c] w (ChAns w (chosen t rows list)) := by
 have HL : Hid (∀ W, Below w.heap.size w W → Rd W B (Ls 3 dCond list) (.slice a list.length c)) := fun W h => Rd.later hL h
 have HR : Hid (∀ W, Below w.heap.size w W → Rd W R (Ls 2 dRow rows) (.slice ra rows.length rc)) := fun W h => Rd.later hR h
 have HT : Hid (t.ok ∧ ∀ W, Below w.heap.size w W → t.Has W A ca ua) := ⟨hto, fun W h => hT.later h⟩
 have HTB : Hid (∀ W, Below w.heap.size w W → TabW W) := fun W h => hTab.later h0w h
 have hrm : (dRowS rows).le maxLen := D.le.mono (by unfold maxLen; omega) _ hr
 have HO := Lib.hid (And.intro ho (And.intro hrm hq))
 have hll : list.length ≤ maxLen := (Ls_le.1 ho).2.1
 have hrl : rows.length ≤ 1048576 := (Ls_le.1 hr).2.1
 unfold maxLen at hll
 have HF : ∃ F : List Int, Hid (chosen t rows list = F) := ⟨_, rfl⟩
 obtain ⟨F, HF⟩ := HF
 rw [HF.out]
 have HX := Lib.hid (CHS.first w #[.string ⟨t.nm.toArray⟩, .slice ca t.cols.length cc, .slice ua t.uq.length uc, .bool t.rt] F)
 obtain ⟨iI, hiI⟩ := infoInt
 have HII := Lib.hid hiI
 clear hto ho hr hrm hTab h0w hq hT hR hL hiI
 go_enter Tryz.func80, Tryz.ntmps80
 go_wp2_with fail
 go_step3
 go_wp2_with fail
 go_step3
 go_wp2_with fail
 go_loopg [7, 14] rows.length (fun g v i wr => ∃ k : Nat, k + g = rows.length ∧ i = .int .i64 k ∧ ∃ (n : Nat) (va : Option Addr) (vq : Nat), v = .slice va n vq ∧ Hid (n = (chosen t (rows.take k) list).length ∧ CHS w wr #[.string ⟨t.nm.toArray⟩, .slice ca t.cols.length cc, .slice ua t.uq.length uc, .bool t.rt] F n v))
 case atStart => exact ⟨0, by omega, rfl, 0, none, 0, rfl, by simp [chosen], HX.out⟩
 case round =>
  obtain ⟨k, hk, rfl, n, va, vq, rfl, HW⟩ := hrel
  by_cases hlt : k < rows.length
  case neg =>
   have hki : decide ((k : Int) < (rows.length : Int)) = false := by simp; omega
   have HE : Hid (n = F.length) := by
    show n = F.length
    rw [HW.out.1, List.take_of_length_le (by omega), HF.out]
   go_wp2_with fail
   rw [Exit.noGoto_ret]
   go_ret
   exact ⟨va, vq, by rw [← HE.out]; rfl, by rw [← HE.out]; exact HW.out.2.gr, HW.out.2.bel⟩
  have hki : (k : Int) < (rows.length : Int) := by omega
  generalize wr = wo at *
  obtain ⟨b1, off1, rfl, -, hc⟩ := (HR.out _ HW.out.2.bel).things k hlt
  obtain ⟨v0, i0, j0⟩ := hc 0 (by omega)
  obtain rfl : v0 = .int .i64 rows[k].id := j0
  rw [Nat.add_zero] at i0
  obtain ⟨v1, i1, j1⟩ := hc 1 (by omega)
  replace j1 : Rd wo R (dAtomSS rows[k].cells) v1 := j1
  obtain ⟨sa, sq, rfl⟩ := j1.lsSlice
  have HRW : Hid (∀ W, Below wo.heap.size wo W → W.cell? ⟨b1, off1 + k * 2, none⟩ = some (.int .i64 rows[k].id) ∧ W.cell? ⟨b1, off1 + k * 2 + 1, none⟩ = some (.slice sa rows[k].cells.length sq) ∧ Rd W R (dAtomSS rows[k].cells) (.slice sa rows[k].cells.length sq)) := fun W h => ⟨(h.cell (p := ⟨b1, off1 + k * 2, none⟩) (World.block_lt_of_cell? _ _ i0)).trans i0, (h.cell (p := ⟨b1, off1 + k * 2 + 1, none⟩) (World.block_lt_of_cell? _ _ i1)).trans i1, j1.later h⟩
  have HKL := Lib.hid (And.intro (le_rowC HO.out.2.1 hlt) (HO.out.2.2 k hlt))
  have HYES : Hid (allM t rows[k] list = true → F.getD n 0 = rows[k].id ∧ n + 1 = (chosen t (rows.take (k + 1)) list).length) := fun h => ⟨by rw [HW.out.1, ← HF.out]; exact chosen_at hlt h, by rw [chosen_take hlt, if_pos h, HW.out.1]; simp⟩
  have HNOT : Hid (allM t rows[k] list = false → n = (chosen t (rows.take (k + 1)) list).length) := fun h => by rw [chosen_take hlt, if_neg (by simp [h]), HW.out.1]; simp
  have HNB : Hid (n ≤ 1048576) := by
   show n ≤ 1048576
   rw [HW.out.1]
   unfold chosen
   rw [List.length_map]
   exact Nat.le_trans (List.length_filter_le _ _) (Nat.le_trans (List.length_take_le _ _) (by omega))
  clear hc i0 i1 j1
  generalize rows[k] = y at *
  go_wp2_with fail
  go_loopg [19] list.length (fun g i wr => ∃ m : Nat, m + g = list.length ∧ i = .int .i64 m ∧ Hid ((∀ j (h : j < list.length), j < m → matchC t y list[j] = true) ∧ Below wo.heap.size wo wr))
  case atStart => exact ⟨0, by omega, rfl, fun m _ h => absurd h (by omega), Below.refl _ _⟩
  case round =>
   obtain ⟨m, hm, rfl, HV⟩ := hrel
   by_cases hlt2 : m < list.length
   case neg =>
    have hmi : decide ((m : Int) < (list.length : Int)) = false := by simp; omega
    have HAL := Lib.hid (HYES.out (allM_yes (fun j h => HV.out.1 j h (by omega))))
    have s0 := (HRW.out _ HV.out.2).1
    have SG2 := Lib.hid ((HW.out.2.later HV.out.2).later (below_allocD wr (.cells #[.int .i64 y.id] 3)))
    have NEW : Hid ((wr.alloc (.cells #[.int .i64 y.id] 3)).cell? ⟨wr.heap.size, 0, none⟩ = some (.int .i64 y.id)) := cell_at (o := 0) (heap_newD _ _) rfl
    go_wp2_with (at_builtin; go_must (refine wpList_grow rfl (.tmp 40) (.tmp 46) 73 rfl rfl SG2.out.gr iI (.int .i64 0) 8 Tryz.underlying73 HII.out.1 HII.out.2.1 HII.out.2.2.1 HII.out.2.2.2 rfl (Nat.lt_succ_self 0) ⟨wr.heap.size, 0, none⟩ 1 rfl [.int .i64 y.id] rfl ?news ?one ?h63 ?hby ?hba ?hrd ?go))
    case news =>
     intro j u hj
     have : j = 0 := by
      have := (List.getElem?_eq_some_iff.1 hj).1
      simpa using this
     subst this
     simp only [List.getElem?_cons_zero, Option.some.injEq] at hj
     subst hj
     rw [Addr.add_mid]
     exact NEW.out
    case one => intro u hu; simp only [List.mem_singleton] at hu; subst hu; rfl
    case h63 => have := HNB.out; unfold maxLen; omega
    case hby => have := HNB.out; omega
    case hba => have := SG2.out.bel.size; have := (Array.getElem?_eq_some_iff.1 SG2.out.tb).1; omega
    case hrd =>
     intro j hj
     obtain rfl : j = 0 := by omega
     exact ⟨_, rfl, by rw [HAL.out.1]; rfl⟩
    case go =>
     intro a' c' w3 hsg hgr gg hg1 hg2
     have HST := Lib.hid (SG2.out.push hsg hgr ⟨gg, hg1, by simpa using hg2⟩)
     clear hsg hgr hg1 hg2
     go_wp2_with fail
     go_roundg (rows.length - (k + 1))
     case measure => omega
     case rel => exact ⟨k + 1, by omega, by go_num, n + 1, a', c', rfl, HAL.out.2, HST.out⟩
   have hmi : (m : Int) < (list.length : Int) := by omega
   have hBW : Below w.heap.size w wr := HW.out.2.bel.trans (HV.out.2.mono HW.out.2.bel.size)
   obtain ⟨b, off, rfl, -, hc⟩ := (HL.out _ hBW).things m hlt2
   obtain ⟨u0, c0, r0⟩ := hc 0 (by omega)
   obtain rfl : u0 = .string ⟨list[m].col.toArray⟩ := r0
   rw [Nat.add_zero] at c0
   obtain ⟨u1, c1, r1⟩ := hc 1 (by omega)
   obtain rfl : u1 = .int .i64 list[m].fn := r1
   obtain ⟨u2, c2, r2⟩ := hc 2 (by omega)
   replace r2 : Rd wr B (dAtomS list[m].val) u2 := r2
   obtain ⟨xa, xc, rfl⟩ := r2.lsSlice
   have HR2 := Lib.hid r2
   have HAS := Lib.hid (And.intro (HKL.out.2 m hlt2) (le_cond HO.out.1 hlt2).2)
   have HNO : Hid (matchC t y list[m] = false → n = (chosen t (rows.take (k + 1)) list).length) := fun h => HNOT.out (allM_no hlt2 h)
   have HNX : Hid (matchC t y list[m] = true → ∀ j (h : j < list.length), j < m + 1 → matchC t y list[j] = true) := fun he j h hj => by
    by_cases e : j = m
    ·
     subst e; exact he
    ·
     exact HV.out.1 j h (by omega)
   clear hc r2
   generalize list[m] = x at *
   have hb1 := HV.out.2.trans ((below_allocD wr (.cells #[.string ⟨x.col.toArray⟩, .int .i64 x.fn, .slice xa x.val.length xc] 119)).mono HV.out.2.size)
   have z0 := cell_at (o := 0) (heap_newD wr (.cells #[.string ⟨x.col.toArray⟩, .int .i64 x.fn, .slice xa x.val.length xc] 119)) rfl
   have z1 := cell_at (o := 1) (heap_newD wr (.cells #[.string ⟨x.col.toArray⟩, .int .i64 x.fn, .slice xa x.val.length xc] 119)) rfl
   have z2 := cell_at (o := 2) (heap_newD wr (.cells #[.string ⟨x.col.toArray⟩, .int .i64 x.fn, .slice xa x.val.length xc] 119)) rfl
   have HCE := Lib.hid (cell_le (t := t) (s := x.col) HKL.out.1.2 HKL.out.1.1 HAS.out.1.len)
   have CL : Hid (∀ W, Below wo.heap.size wo W → Calls Tryz.prog 121 #[.agg #[.string ⟨t.nm.toArray⟩, .slice ca t.cols.length cc, .slice ua t.uq.length uc, .bool t.rt], .pointer (some ⟨b1, off1 + k * 2, none⟩), .string ⟨x.col.toArray⟩] W (CellAns W (cellOf t y x.col))) := fun W h => cellI t y x.col ca cc ua uc b1 (off1 + k * 2) sa sq A R W HT.out.1 HAS.out.1.len (HT.out.2 W (HW.out.2.bel.trans (h.mono HW.out.2.bel.size))) (HRW.out W h).2.2 (HRW.out W h).1 (HRW.out W h).2.1
   have HM : Hid (matchC t y x = matchP x.fn (cellOf t y x.col) x.val) := rfl
   have HB1 := Lib.hid hb1
   have HBW := Lib.hid hBW
   have HQ := Lib.hid HAS.out.1.ord
   clear hb1 hBW
   generalize cellOf t y x.col = l at *
   rcases HQ.out with (hf | hf | hf | hf) | ⟨hf | hf | hf | hf, hv1, hc1⟩
   ·
    skip
    have HE : Hid (matchC t y x = (eqB l x.val)) := by show matchC t y x = _; rw [HM.out]; simp [matchP, hf]
    have WD : Hid (∀ W, TabW W → Calls Tryz.prog 120 #[.int .i64 x.fn] W fun e w' => e = .returned (.string ⟨#[61, 61]⟩) ∧ w' = W) := fun W h => by rw [hf]; exact wordI 1 _ W (by omega) (h 1 (by omega))
    clear hf HQ HM
    go_wp2_with fail
    refine (WD.out _ (HTB.out _ (HBW.out.trans ((below_allocD _ _).mono HBW.out.size)))).mono ?_
    rintro e w1 ⟨rfl, rfl⟩
    go_wp2_with fail
    refine (test1I _).mono ?_
    rintro e w2 ⟨rfl, h2⟩
    have hB2 : Below (wr.alloc (.cells #[.string ⟨x.col.toArray⟩, .int .i64 x.fn, .slice xa x.val.length xc] 119)).heap.size (wr.alloc (.cells #[.string ⟨x.col.toArray⟩, .int .i64 x.fn, .slice xa x.val.length xc] 119)) w2 := by rw [h2]; exact Below.refl _ _
    clear h2
    have HC2 := Lib.hid (HW.out.2.later (HB1.out.trans (hB2.mono HB1.out.size)))
    have HBO := Lib.hid (HB1.out.trans (hB2.mono HB1.out.size))
    have HBX := Lib.hid (heap_keptD (heap_newD wr (.cells #[.string ⟨x.col.toArray⟩, .int .i64 x.fn, .slice xa x.val.length xc] 119)) hB2)
    have HRV : Hid (∀ W, Below w2.heap.size w2 W → Rd W B (dAtomS x.val) (.slice xa x.val.length xc)) := fun W h => ((HR2.out.later (below_allocD _ _)).later hB2).later h
    have CX : Hid (∀ W, Below w2.heap.size w2 W → (W.cell? ⟨w.heap.size, 0, none⟩ = some (.string ⟨t.nm.toArray⟩) ∧ W.cell? ⟨w.heap.size, 1, none⟩ = some (.slice ca t.cols.length cc) ∧ W.cell? ⟨w.heap.size, 2, none⟩ = some (.slice ua t.uq.length uc) ∧ W.cell? ⟨w.heap.size, 3, none⟩ = some (.bool t.rt)) ∧ W.cell? ⟨wr.heap.size, 0, none⟩ = some (.string ⟨x.col.toArray⟩) ∧ W.cell? ⟨wr.heap.size, 2, none⟩ = some (.slice xa x.val.length xc)) := fun W h => ⟨⟨cell_at (o := 0) (HC2.out.later h).tb rfl, cell_at (o := 1) (HC2.out.later h).tb rfl, cell_at (o := 2) (HC2.out.later h).tb rfl, cell_at (o := 3) (HC2.out.later h).tb rfl⟩, cell_at (o := 0) (heap_keptD HBX.out h) rfl, cell_at (o := 2) (heap_keptD HBX.out h) rfl⟩
    clear hB2 z0 z1 z2 c0 c1 c2
    go_wp2_with fail
    refine wp_region_held_drew (S := (fun W => (W.cell? ⟨w.heap.size, 0, none⟩ = some (.string ⟨t.nm.toArray⟩) ∧ W.cell? ⟨w.heap.size, 1, none⟩ = some (.slice ca t.cols.length cc) ∧ W.cell? ⟨w.heap.size, 2, none⟩ = some (.slice ua t.uq.length uc) ∧ W.cell? ⟨w.heap.size, 3, none⟩ = some (.bool t.rt)) ∧ W.cell? ⟨wr.heap.size, 0, none⟩ = some (.string ⟨x.col.toArray⟩) ∧ W.cell? ⟨wr.heap.size, 2, none⟩ = some (.slice xa x.val.length xc))) (by kernel_rfl) ?_ (fun hHeld => ?_)
    ·
     (first | exact CX.out _ (Below.refl _ _) | exact CX.out _ (Below.refl _ _).drew | exact CX.out _ BW3.out | exact CX.out _ BW4.out)
    refine tkB (i := 0) ?_
    refine tkB (i := 1) ?_
    refine tkB (i := 2) ?_
    refine tkB (i := 3) ?_
    refine tkB (i := 4) ?_
    refine tkB (i := 5) ?_
    refine tkB (i := 6) ?_
    refine tkB (i := 8) ?_
    refine tkB (i := 9) ?_
    refine tkR (i := 7) (fun K hK => ?_)
    go_simp
    go_at_call 121
    refine (CL.out _ (HBO.out.drew)).mono ?_
    rintro e w3 ⟨la, lq, rfl, hrd, hB3⟩
    have BW3 : Hid (Below w2.heap.size w2 w3) := (Below.refl _ _).drew.trans hB3
    have HRD := Lib.hid hrd
    clear hrd hB3
    refine hK.out _ _ ?_ (fun hHeld => ?_)
    ·
     (first | exact CX.out _ (Below.refl _ _) | exact CX.out _ (Below.refl _ _).drew | exact CX.out _ BW3.out | exact CX.out _ BW4.out)
    clear hK K
    try simp only [Act.put, tkS]
    refine tkR (i := 10) (fun K hK => ?_)
    go_simp
    go_at_call 149
    refine (sameSetI l x.val la lq xa xc _ _ _ HCE.out HAS.out.2 HRD.out (HRV.out _ BW3.out)).mono ?_
    rintro e w4 ⟨rfl, hB4⟩
    have BW4 : Hid (Below w2.heap.size w2 w4) := BW3.out.trans (hB4.mono BW3.out.size)
    clear hB4
    refine hK.out _ _ ?_ (fun hHeld => ?_)
    ·
     (first | exact CX.out _ (Below.refl _ _) | exact CX.out _ (Below.refl _ _).drew | exact CX.out _ BW3.out | exact CX.out _ BW4.out)
    clear hK K
    try simp only [Act.put, tkS]
    refine tkB (i := 11) ?_
    refine wpAnyH_done (by kernel_rfl) ?_ _
    have HFW := Lib.hid (HBO.out.trans (BW4.out.mono HBO.out.size))
    cases he : eqB l x.val
    case false =>
     rw [he] at HE
     have HN := Lib.hid (HNO.out HE.out)
     clear HNO HNX HE he CL
     go_wp2_with fail
     go_roundg (rows.length - (k + 1))
     case measure => omega
     case rel => exact ⟨k + 1, by omega, by go_num, n, va, vq, rfl, HN.out, HW.out.2.later HFW.out⟩
    case true =>
     rw [he] at HE
     have HN := Lib.hid (HNX.out HE.out)
     clear HNO HNX HE he CL
     go_wp2_with fail
     go_roundg (list.length - (m + 1))
     case measure => omega
     case rel => exact ⟨m + 1, by omega, by go_num, HN.out, HFW.out⟩
   ·
    skip
    have HE : Hid (matchC t y x = (!eqB l x.val)) := by show matchC t y x = _; rw [HM.out]; simp [matchP, hf]
    have WD : Hid (∀ W, TabW W → Calls Tryz.prog 120 #[.int .i64 x.fn] W fun e w' => e = .returned (.string ⟨#[33, 61]⟩) ∧ w' = W) := fun W h => by rw [hf]; exact wordI 2 _ W (by omega) (h 2 (by omega))
    clear hf HQ HM
    go_wp2_with fail
    refine (WD.out _ (HTB.out _ (HBW.out.trans ((below_allocD _ _).mono HBW.out.size)))).mono ?_
    rintro e w1 ⟨rfl, rfl⟩
    go_wp2_with fail
    refine (test2I _).mono ?_
    rintro e w2 ⟨rfl, h2⟩
    have hB2 : Below (wr.alloc (.cells #[.string ⟨x.col.toArray⟩, .int .i64 x.fn, .slice xa x.val.length xc] 119)).heap.size (wr.alloc (.cells #[.string ⟨x.col.toArray⟩, .int .i64 x.fn, .slice xa x.val.length xc] 119)) w2 := by rw [h2]; exact Below.refl _ _
    clear h2
    have HC2 := Lib.hid (HW.out.2.later (HB1.out.trans (hB2.mono HB1.out.size)))
    have HBO := Lib.hid (HB1.out.trans (hB2.mono HB1.out.size))
    have HBX := Lib.hid (heap_keptD (heap_newD wr (.cells #[.string ⟨x.col.toArray⟩, .int .i64 x.fn, .slice xa x.val.length xc] 119)) hB2)
    have HRV : Hid (∀ W, Below w2.heap.size w2 W → Rd W B (dAtomS x.val) (.slice xa x.val.length xc)) := fun W h => ((HR2.out.later (below_allocD _ _)).later hB2).later h
    have CX : Hid (∀ W, Below w2.heap.size w2 W → (W.cell? ⟨w.heap.size, 0, none⟩ = some (.string ⟨t.nm.toArray⟩) ∧ W.cell? ⟨w.heap.size, 1, none⟩ = some (.slice ca t.cols.length cc) ∧ W.cell? ⟨w.heap.size, 2, none⟩ = some (.slice ua t.uq.length uc) ∧ W.cell? ⟨w.heap.size, 3, none⟩ = some (.bool t.rt)) ∧ W.cell? ⟨wr.heap.size, 0, none⟩ = some (.string ⟨x.col.toArray⟩) ∧ W.cell? ⟨wr.heap.size, 2, none⟩ = some (.slice xa x.val.length xc)) := fun W h => ⟨⟨cell_at (o := 0) (HC2.out.later h).tb rfl, cell_at (o := 1) (HC2.out.later h).tb rfl, cell_at (o := 2) (HC2.out.later h).tb rfl, cell_at (o := 3) (HC2.out.later h).tb rfl⟩, cell_at (o := 0) (heap_keptD HBX.out h) rfl, cell_at (o := 2) (heap_keptD HBX.out h) rfl⟩
    clear hB2 z0 z1 z2 c0 c1 c2
    go_wp2_with fail
    refine wp_region_held_drew (S := (fun W => (W.cell? ⟨w.heap.size, 0, none⟩ = some (.string ⟨t.nm.toArray⟩) ∧ W.cell? ⟨w.heap.size, 1, none⟩ = some (.slice ca t.cols.length cc) ∧ W.cell? ⟨w.heap.size, 2, none⟩ = some (.slice ua t.uq.length uc) ∧ W.cell? ⟨w.heap.size, 3, none⟩ = some (.bool t.rt)) ∧ W.cell? ⟨wr.heap.size, 0, none⟩ = some (.string ⟨x.col.toArray⟩) ∧ W.cell? ⟨wr.heap.size, 2, none⟩ = some (.slice xa x.val.length xc))) (by kernel_rfl) ?_ (fun hHeld => ?_)
    ·
     (first | exact CX.out _ (Below.refl _ _) | exact CX.out _ (Below.refl _ _).drew | exact CX.out _ BW3.out | exact CX.out _ BW4.out)
    refine tkB (i := 0) ?_
    refine tkB (i := 1) ?_
    refine tkB (i := 2) ?_
    refine tkB (i := 3) ?_
    refine tkB (i := 4) ?_
    refine tkB (i := 5) ?_
    refine tkB (i := 6) ?_
    refine tkB (i := 8) ?_
    refine tkB (i := 9) ?_
    refine tkR (i := 7) (fun K hK => ?_)
    go_simp
    go_at_call 121
    refine (CL.out _ (HBO.out.drew)).mono ?_
    rintro e w3 ⟨la, lq, rfl, hrd, hB3⟩
    have BW3 : Hid (Below w2.heap.size w2 w3) := (Below.refl _ _).drew.trans hB3
    have HRD := Lib.hid hrd
    clear hrd hB3
    refine hK.out _ _ ?_ (fun hHeld => ?_)
    ·
     (first | exact CX.out _ (Below.refl _ _) | exact CX.out _ (Below.refl _ _).drew | exact CX.out _ BW3.out | exact CX.out _ BW4.out)
    clear hK K
    try simp only [Act.put, tkS]
    refine tkR (i := 10) (fun K hK => ?_)
    go_simp
    go_at_call 150
    refine (unlikeI l x.val la lq xa xc _ _ _ HCE.out HAS.out.2 HRD.out (HRV.out _ BW3.out)).mono ?_
    rintro e w4 ⟨rfl, hB4⟩
    have BW4 : Hid (Below w2.heap.size w2 w4) := BW3.out.trans (hB4.mono BW3.out.size)
    clear hB4
    refine hK.out _ _ ?_ (fun hHeld => ?_)
    ·
     (first | exact CX.out _ (Below.refl _ _) | exact CX.out _ (Below.refl _ _).drew | exact CX.out _ BW3.out | exact CX.out _ BW4.out)
    clear hK K
    try simp only [Act.put, tkS]
    refine tkB (i := 11) ?_
    refine wpAnyH_done (by kernel_rfl) ?_ _
    have HFW := Lib.hid (HBO.out.trans (BW4.out.mono HBO.out.size))
    cases he : eqB l x.val
    case false =>
     rw [he] at HE
     have HN := Lib.hid (HNX.out HE.out)
     clear HNO HNX HE he CL
     go_wp2_with fail
     go_roundg (list.length - (m + 1))
     case measure => omega
     case rel => exact ⟨m + 1, by omega, by go_num, HN.out, HFW.out⟩
    case true =>
     rw [he] at HE
     have HN := Lib.hid (HNO.out HE.out)
     clear HNO HNX HE he CL
     go_wp2_with fail
     go_roundg (rows.length - (k + 1))
     case measure => omega
     case rel => exact ⟨k + 1, by omega, by go_num, n, va, vq, rfl, HN.out, HW.out.2.later HFW.out⟩
   ·
    skip
    have HE : Hid (matchC t y x = (allB l x.val)) := by show matchC t y x = _; rw [HM.out]; simp [matchP, hf]
    have WD : Hid (∀ W, TabW W → Calls Tryz.prog 120 #[.int .i64 x.fn] W fun e w' => e = .returned (.string ⟨#[105, 110, 99, 108, 117, 100, 101, 115]⟩) ∧ w' = W) := fun W h => by rw [hf]; exact wordI 7 _ W (by omega) (h 7 (by omega))
    clear hf HQ HM
    go_wp2_with fail
    refine (WD.out _ (HTB.out _ (HBW.out.trans ((below_allocD _ _).mono HBW.out.size)))).mono ?_
    rintro e w1 ⟨rfl, rfl⟩
    go_wp2_with fail
    refine (test7I _).mono ?_
    rintro e w2 ⟨rfl, h2⟩
    have hB2 : Below (wr.alloc (.cells #[.string ⟨x.col.toArray⟩, .int .i64 x.fn, .slice xa x.val.length xc] 119)).heap.size (wr.alloc (.cells #[.string ⟨x.col.toArray⟩, .int .i64 x.fn, .slice xa x.val.length xc] 119)) w2 := by rw [h2]; exact Below.refl _ _
    clear h2
    have HC2 := Lib.hid (HW.out.2.later (HB1.out.trans (hB2.mono HB1.out.size)))
    have HBO := Lib.hid (HB1.out.trans (hB2.mono HB1.out.size))
    have HBX := Lib.hid (heap_keptD (heap_newD wr (.cells #[.string ⟨x.col.toArray⟩, .int .i64 x.fn, .slice xa x.val.length xc] 119)) hB2)
    have HRV : Hid (∀ W, Below w2.heap.size w2 W → Rd W B (dAtomS x.val) (.slice xa x.val.length xc)) := fun W h => ((HR2.out.later (below_allocD _ _)).later hB2).later h
    have CX : Hid (∀ W, Below w2.heap.size w2 W → (W.cell? ⟨w.heap.size, 0, none⟩ = some (.string ⟨t.nm.toArray⟩) ∧ W.cell? ⟨w.heap.size, 1, none⟩ = some (.slice ca t.cols.length cc) ∧ W.cell? ⟨w.heap.size, 2, none⟩ = some (.slice ua t.uq.length uc) ∧ W.cell? ⟨w.heap.size, 3, none⟩ = some (.bool t.rt)) ∧ W.cell? ⟨wr.heap.size, 0, none⟩ = some (.string ⟨x.col.toArray⟩) ∧ W.cell? ⟨wr.heap.size, 2, none⟩ = some (.slice xa x.val.length xc)) := fun W h => ⟨⟨cell_at (o := 0) (HC2.out.later h).tb rfl, cell_at (o := 1) (HC2.out.later h).tb rfl, cell_at (o := 2) (HC2.out.later h).tb rfl, cell_at (o := 3) (HC2.out.later h).tb rfl⟩, cell_at (o := 0) (heap_keptD HBX.out h) rfl, cell_at (o := 2) (heap_keptD HBX.out h) rfl⟩
    clear hB2 z0 z1 z2 c0 c1 c2
    go_wp2_with fail
    refine wp_region_held_drew (S := (fun W => (W.cell? ⟨w.heap.size, 0, none⟩ = some (.string ⟨t.nm.toArray⟩) ∧ W.cell? ⟨w.heap.size, 1, none⟩ = some (.slice ca t.cols.length cc) ∧ W.cell? ⟨w.heap.size, 2, none⟩ = some (.slice ua t.uq.length uc) ∧ W.cell? ⟨w.heap.size, 3, none⟩ = some (.bool t.rt)) ∧ W.cell? ⟨wr.heap.size, 0, none⟩ = some (.string ⟨x.col.toArray⟩) ∧ W.cell? ⟨wr.heap.size, 2, none⟩ = some (.slice xa x.val.length xc))) (by kernel_rfl) ?_ (fun hHeld => ?_)
    ·
     (first | exact CX.out _ (Below.refl _ _) | exact CX.out _ (Below.refl _ _).drew | exact CX.out _ BW3.out | exact CX.out _ BW4.out)
    refine tkB (i := 0) ?_
    refine tkB (i := 1) ?_
    refine tkB (i := 2) ?_
    refine tkB (i := 3) ?_
    refine tkB (i := 4) ?_
    refine tkB (i := 5) ?_
    refine tkB (i := 6) ?_
    refine tkB (i := 8) ?_
    refine tkB (i := 9) ?_
    refine tkR (i := 7) (fun K hK => ?_)
    go_simp
    go_at_call 121
    refine (CL.out _ (HBO.out.drew)).mono ?_
    rintro e w3 ⟨la, lq, rfl, hrd, hB3⟩
    have BW3 : Hid (Below w2.heap.size w2 w3) := (Below.refl _ _).drew.trans hB3
    have HRD := Lib.hid hrd
    clear hrd hB3
    refine hK.out _ _ ?_ (fun hHeld => ?_)
    ·
     (first | exact CX.out _ (Below.refl _ _) | exact CX.out _ (Below.refl _ _).drew | exact CX.out _ BW3.out | exact CX.out _ BW4.out)
    clear hK K
    try simp only [Act.put, tkS]
    refine tkR (i := 10) (fun K hK => ?_)
    go_simp
    go_at_call 156
    refine (hasAllI l x.val la lq xa xc _ _ _ HCE.out HAS.out.2 HRD.out (HRV.out _ BW3.out)).mono ?_
    rintro e w4 ⟨rfl, hB4⟩
    have BW4 : Hid (Below w2.heap.size w2 w4) := BW3.out.trans (hB4.mono BW3.out.size)
    clear hB4
    refine hK.out _ _ ?_ (fun hHeld => ?_)
    ·
     (first | exact CX.out _ (Below.refl _ _) | exact CX.out _ (Below.refl _ _).drew | exact CX.out _ BW3.out | exact CX.out _ BW4.out)
    clear hK K
    try simp only [Act.put, tkS]
    refine tkB (i := 11) ?_
    refine wpAnyH_done (by kernel_rfl) ?_ _
    have HFW := Lib.hid (HBO.out.trans (BW4.out.mono HBO.out.size))
    cases he : allB l x.val
    case false =>
     rw [he] at HE
     have HN := Lib.hid (HNO.out HE.out)
     clear HNO HNX HE he CL
     go_wp2_with fail
     go_roundg (rows.length - (k + 1))
     case measure => omega
     case rel => exact ⟨k + 1, by omega, by go_num, n, va, vq, rfl, HN.out, HW.out.2.later HFW.out⟩
    case true =>
     rw [he] at HE
     have HN := Lib.hid (HNX.out HE.out)
     clear HNO HNX HE he CL
     go_wp2_with fail
     go_roundg (list.length - (m + 1))
     case measure => omega
     case rel => exact ⟨m + 1, by omega, by go_num, HN.out, HFW.out⟩
   ·
    skip
    have HE : Hid (matchC t y x = (noneB l x.val)) := by show matchC t y x = _; rw [HM.out]; simp [matchP, hf]
    have WD : Hid (∀ W, TabW W → Calls Tryz.prog 120 #[.int .i64 x.fn] W fun e w' => e = .returned (.string ⟨#[101, 120, 99, 108, 117, 100, 101, 115]⟩) ∧ w' = W) := fun W h => by rw [hf]; exact wordI 8 _ W (by omega) (h 8 (by omega))
    clear hf HQ HM
    go_wp2_with fail
    refine (WD.out _ (HTB.out _ (HBW.out.trans ((below_allocD _ _).mono HBW.out.size)))).mono ?_
    rintro e w1 ⟨rfl, rfl⟩
    go_wp2_with fail
    refine (test8I _).mono ?_
    rintro e w2 ⟨rfl, h2⟩
    have hB2 : Below (wr.alloc (.cells #[.string ⟨x.col.toArray⟩, .int .i64 x.fn, .slice xa x.val.length xc] 119)).heap.size (wr.alloc (.cells #[.string ⟨x.col.toArray⟩, .int .i64 x.fn, .slice xa x.val.length xc] 119)) w2 := by rw [h2]; exact Below.refl _ _
    clear h2
    have HC2 := Lib.hid (HW.out.2.later (HB1.out.trans (hB2.mono HB1.out.size)))
    have HBO := Lib.hid (HB1.out.trans (hB2.mono HB1.out.size))
    have HBX := Lib.hid (heap_keptD (heap_newD wr (.cells #[.string ⟨x.col.toArray⟩, .int .i64 x.fn, .slice xa x.val.length xc] 119)) hB2)
    have HRV : Hid (∀ W, Below w2.heap.size w2 W → Rd W B (dAtomS x.val) (.slice xa x.val.length xc)) := fun W h => ((HR2.out.later (below_allocD _ _)).later hB2).later h
    have CX : Hid (∀ W, Below w2.heap.size w2 W → (W.cell? ⟨w.heap.size, 0, none⟩ = some (.string ⟨t.nm.toArray⟩) ∧ W.cell? ⟨w.heap.size, 1, none⟩ = some (.slice ca t.cols.length cc) ∧ W.cell? ⟨w.heap.size, 2, none⟩ = some (.slice ua t.uq.length uc) ∧ W.cell? ⟨w.heap.size, 3, none⟩ = some (.bool t.rt)) ∧ W.cell? ⟨wr.heap.size, 0, none⟩ = some (.string ⟨x.col.toArray⟩) ∧ W.cell? ⟨wr.heap.size, 2, none⟩ = some (.slice xa x.val.length xc)) := fun W h => ⟨⟨cell_at (o := 0) (HC2.out.later h).tb rfl, cell_at (o := 1) (HC2.out.later h).tb rfl, cell_at (o := 2) (HC2.out.later h).tb rfl, cell_at (o := 3) (HC2.out.later h).tb rfl⟩, cell_at (o := 0) (heap_keptD HBX.out h) rfl, cell_at (o := 2) (heap_keptD HBX.out h) rfl⟩
    clear hB2 z0 z1 z2 c0 c1 c2
    go_wp2_with fail
    refine wp_region_held_drew (S := (fun W => (W.cell? ⟨w.heap.size, 0, none⟩ = some (.string ⟨t.nm.toArray⟩) ∧ W.cell? ⟨w.heap.size, 1, none⟩ = some (.slice ca t.cols.length cc) ∧ W.cell? ⟨w.heap.size, 2, none⟩ = some (.slice ua t.uq.length uc) ∧ W.cell? ⟨w.heap.size, 3, none⟩ = some (.bool t.rt)) ∧ W.cell? ⟨wr.heap.size, 0, none⟩ = some (.string ⟨x.col.toArray⟩) ∧ W.cell? ⟨wr.heap.size, 2, none⟩ = some (.slice xa x.val.length xc))) (by kernel_rfl) ?_ (fun hHeld => ?_)
    ·
     (first | exact CX.out _ (Below.refl _ _) | exact CX.out _ (Below.refl _ _).drew | exact CX.out _ BW3.out | exact CX.out _ BW4.out)
    refine tkB (i := 0) ?_
    refine tkB (i := 1) ?_
    refine tkB (i := 2) ?_
    refine tkB (i := 3) ?_
    refine tkB (i := 4) ?_
    refine tkB (i := 5) ?_
    refine tkB (i := 6) ?_
    refine tkB (i := 8) ?_
    refine tkB (i := 9) ?_
    refine tkR (i := 7) (fun K hK => ?_)
    go_simp
    go_at_call 121
    refine (CL.out _ (HBO.out.drew)).mono ?_
    rintro e w3 ⟨la, lq, rfl, hrd, hB3⟩
    have BW3 : Hid (Below w2.heap.size w2 w3) := (Below.refl _ _).drew.trans hB3
    have HRD := Lib.hid hrd
    clear hrd hB3
    refine hK.out _ _ ?_ (fun hHeld => ?_)
    ·
     (first | exact CX.out _ (Below.refl _ _) | exact CX.out _ (Below.refl _ _).drew | exact CX.out _ BW3.out | exact CX.out _ BW4.out)
    clear hK K
    try simp only [Act.put, tkS]
    refine tkR (i := 10) (fun K hK => ?_)
    go_simp
    go_at_call 157
    refine (hasNoneI l x.val la lq xa xc _ _ _ HCE.out HAS.out.2 HRD.out (HRV.out _ BW3.out)).mono ?_
    rintro e w4 ⟨rfl, hB4⟩
    have BW4 : Hid (Below w2.heap.size w2 w4) := BW3.out.trans (hB4.mono BW3.out.size)
    clear hB4
    refine hK.out _ _ ?_ (fun hHeld => ?_)
    ·
     (first | exact CX.out _ (Below.refl _ _) | exact CX.out _ (Below.refl _ _).drew | exact CX.out _ BW3.out | exact CX.out _ BW4.out)
    clear hK K
    try simp only [Act.put, tkS]
    refine tkB (i := 11) ?_
    refine wpAnyH_done (by kernel_rfl) ?_ _
    have HFW := Lib.hid (HBO.out.trans (BW4.out.mono HBO.out.size))
    cases he : noneB l x.val
    case false =>
     rw [he] at HE
     have HN := Lib.hid (HNO.out HE.out)
     clear HNO HNX HE he CL
     go_wp2_with fail
     go_roundg (rows.length - (k + 1))
     case measure => omega
     case rel => exact ⟨k + 1, by omega, by go_num, n, va, vq, rfl, HN.out, HW.out.2.later HFW.out⟩
    case true =>
     rw [he] at HE
     have HN := Lib.hid (HNX.out HE.out)
     clear HNO HNX HE he CL
     go_wp2_with fail
     go_roundg (list.length - (m + 1))
     case measure => omega
     case rel => exact ⟨m + 1, by omega, by go_num, HN.out, HFW.out⟩
   ·
    have HN1 := Lib.hid (And.intro hv1 hc1)
    clear hv1 hc1
    have HE : Hid (matchC t y x = (ncmpB 3 l x.val)) := by show matchC t y x = _; rw [HM.out]; simp [matchP, hf]
    have WD : Hid (∀ W, TabW W → Calls Tryz.prog 120 #[.int .i64 x.fn] W fun e w' => e = .returned (.string ⟨#[60]⟩) ∧ w' = W) := fun W h => by rw [hf]; exact wordI 3 _ W (by omega) (h 3 (by omega))
    clear hf HQ HM
    go_wp2_with fail
    refine (WD.out _ (HTB.out _ (HBW.out.trans ((below_allocD _ _).mono HBW.out.size)))).mono ?_
    rintro e w1 ⟨rfl, rfl⟩
    go_wp2_with fail
    refine (test3I _).mono ?_
    rintro e w2 ⟨rfl, hB2, hcl⟩
    rw [size_allocD] at hcl
    have HCL := Lib.hid hcl
    clear hcl
    have HC2 := Lib.hid (HW.out.2.later (HB1.out.trans (hB2.mono HB1.out.size)))
    have HBO := Lib.hid (HB1.out.trans (hB2.mono HB1.out.size))
    have HBX := Lib.hid (heap_keptD (heap_newD wr (.cells #[.string ⟨x.col.toArray⟩, .int .i64 x.fn, .slice xa x.val.length xc] 119)) hB2)
    have HRV : Hid (∀ W, Below w2.heap.size w2 W → Rd W B (dAtomS x.val) (.slice xa x.val.length xc)) := fun W h => ((HR2.out.later (below_allocD _ _)).later hB2).later h
    have CX : Hid (∀ W, Below w2.heap.size w2 W → (W.cell? ⟨w.heap.size, 0, none⟩ = some (.string ⟨t.nm.toArray⟩) ∧ W.cell? ⟨w.heap.size, 1, none⟩ = some (.slice ca t.cols.length cc) ∧ W.cell? ⟨w.heap.size, 2, none⟩ = some (.slice ua t.uq.length uc) ∧ W.cell? ⟨w.heap.size, 3, none⟩ = some (.bool t.rt)) ∧ W.cell? ⟨wr.heap.size, 0, none⟩ = some (.string ⟨x.col.toArray⟩) ∧ W.cell? ⟨wr.heap.size, 2, none⟩ = some (.slice xa x.val.length xc)) := fun W h => ⟨⟨cell_at (o := 0) (HC2.out.later h).tb rfl, cell_at (o := 1) (HC2.out.later h).tb rfl, cell_at (o := 2) (HC2.out.later h).tb rfl, cell_at (o := 3) (HC2.out.later h).tb rfl⟩, cell_at (o := 0) (heap_keptD HBX.out h) rfl, cell_at (o := 2) (heap_keptD HBX.out h) rfl⟩
    clear hB2 z0 z1 z2 c0 c1 c2
    go_wp2_with fail
    refine wp_region_held_drew (S := (fun W => (W.cell? ⟨w.heap.size, 0, none⟩ = some (.string ⟨t.nm.toArray⟩) ∧ W.cell? ⟨w.heap.size, 1, none⟩ = some (.slice ca t.cols.length cc) ∧ W.cell? ⟨w.heap.size, 2, none⟩ = some (.slice ua t.uq.length uc) ∧ W.cell? ⟨w.heap.size, 3, none⟩ = some (.bool t.rt)) ∧ W.cell? ⟨wr.heap.size, 0, none⟩ = some (.string ⟨x.col.toArray⟩) ∧ W.cell? ⟨wr.heap.size, 2, none⟩ = some (.slice xa x.val.length xc))) (by kernel_rfl) ?_ (fun hHeld => ?_)
    ·
     (first | exact CX.out _ (Below.refl _ _) | exact CX.out _ (Below.refl _ _).drew | exact CX.out _ BW3.out | exact CX.out _ BW4.out)
    refine tkB (i := 0) ?_
    refine tkB (i := 1) ?_
    refine tkB (i := 2) ?_
    refine tkB (i := 3) ?_
    refine tkB (i := 4) ?_
    refine tkB (i := 5) ?_
    refine tkB (i := 6) ?_
    refine tkB (i := 8) ?_
    refine tkB (i := 9) ?_
    refine tkR (i := 7) (fun K hK => ?_)
    go_simp
    go_at_call 121
    refine (CL.out _ (HBO.out.drew)).mono ?_
    rintro e w3 ⟨la, lq, rfl, hrd, hB3⟩
    have BW3 : Hid (Below w2.heap.size w2 w3) := (Below.refl _ _).drew.trans hB3
    have HRD := Lib.hid hrd
    clear hrd hB3
    refine hK.out _ _ ?_ (fun hHeld => ?_)
    ·
     (first | exact CX.out _ (Below.refl _ _) | exact CX.out _ (Below.refl _ _).drew | exact CX.out _ BW3.out | exact CX.out _ BW4.out)
    clear hK K
    try simp only [Act.put, tkS]
    refine tkR (i := 10) (fun K hK => ?_)
    go_simp
    go_at_call 172
    have hord : x.val.length = 1 ∧ l.length ≤ 1 := HN1.out
    refine (num3I l x.val la lq xa xc _ _ _ _ ((BW3.out.cell (p := ⟨wr.heap.size + 1, 0, none⟩) (World.block_lt_of_cell? _ _ HCL.out)).trans HCL.out) hord.1 hord.2 HRD.out (HRV.out _ BW3.out)).mono ?_
    rintro e w4 ⟨rfl, hB4⟩
    have BW4 : Hid (Below w2.heap.size w2 w4) := BW3.out.trans (hB4.mono BW3.out.size)
    clear hB4
    refine hK.out _ _ ?_ (fun hHeld => ?_)
    ·
     (first | exact CX.out _ (Below.refl _ _) | exact CX.out _ (Below.refl _ _).drew | exact CX.out _ BW3.out | exact CX.out _ BW4.out)
    clear hK K
    try simp only [Act.put, tkS]
    refine tkB (i := 11) ?_
    refine wpAnyH_done (by kernel_rfl) ?_ _
    have HFW := Lib.hid (HBO.out.trans (BW4.out.mono HBO.out.size))
    cases he : ncmpB 3 l x.val
    case false =>
     rw [he] at HE
     have HN := Lib.hid (HNO.out HE.out)
     clear HNO HNX HE he CL
     go_wp2_with fail
     go_roundg (rows.length - (k + 1))
     case measure => omega
     case rel => exact ⟨k + 1, by omega, by go_num, n, va, vq, rfl, HN.out, HW.out.2.later HFW.out⟩
    case true =>
     rw [he] at HE
     have HN := Lib.hid (HNX.out HE.out)
     clear HNO HNX HE he CL
     go_wp2_with fail
     go_roundg (list.length - (m + 1))
     case measure => omega
     case rel => exact ⟨m + 1, by omega, by go_num, HN.out, HFW.out⟩
   ·
    have HN1 := Lib.hid (And.intro hv1 hc1)
    clear hv1 hc1
    have HE : Hid (matchC t y x = (ncmpB 4 l x.val)) := by show matchC t y x = _; rw [HM.out]; simp [matchP, hf]
    have WD : Hid (∀ W, TabW W → Calls Tryz.prog 120 #[.int .i64 x.fn] W fun e w' => e = .returned (.string ⟨#[60, 61]⟩) ∧ w' = W) := fun W h => by rw [hf]; exact wordI 4 _ W (by omega) (h 4 (by omega))
    clear hf HQ HM
    go_wp2_with fail
    refine (WD.out _ (HTB.out _ (HBW.out.trans ((below_allocD _ _).mono HBW.out.size)))).mono ?_
    rintro e w1 ⟨rfl, rfl⟩
    go_wp2_with fail
    refine (test4I _).mono ?_
    rintro e w2 ⟨rfl, hB2, hcl⟩
    rw [size_allocD] at hcl
    have HCL := Lib.hid hcl
    clear hcl
    have HC2 := Lib.hid (HW.out.2.later (HB1.out.trans (hB2.mono HB1.out.size)))
    have HBO := Lib.hid (HB1.out.trans (hB2.mono HB1.out.size))
    have HBX := Lib.hid (heap_keptD (heap_newD wr (.cells #[.string ⟨x.col.toArray⟩, .int .i64 x.fn, .slice xa x.val.length xc] 119)) hB2)
    have HRV : Hid (∀ W, Below w2.heap.size w2 W → Rd W B (dAtomS x.val) (.slice xa x.val.length xc)) := fun W h => ((HR2.out.later (below_allocD _ _)).later hB2).later h
    have CX : Hid (∀ W, Below w2.heap.size w2 W → (W.cell? ⟨w.heap.size, 0, none⟩ = some (.string ⟨t.nm.toArray⟩) ∧ W.cell? ⟨w.heap.size, 1, none⟩ = some (.slice ca t.cols.length cc) ∧ W.cell? ⟨w.heap.size, 2, none⟩ = some (.slice ua t.uq.length uc) ∧ W.cell? ⟨w.heap.size, 3, none⟩ = some (.bool t.rt)) ∧ W.cell? ⟨wr.heap.size, 0, none⟩ = some (.string ⟨x.col.toArray⟩) ∧ W.cell? ⟨wr.heap.size, 2, none⟩ = some (.slice xa x.val.length xc)) := fun W h => ⟨⟨cell_at (o := 0) (HC2.out.later h).tb rfl, cell_at (o := 1) (HC2.out.later h).tb rfl, cell_at (o := 2) (HC2.out.later h).tb rfl, cell_at (o := 3) (HC2.out.later h).tb rfl⟩, cell_at (o := 0) (heap_keptD HBX.out h) rfl, cell_at (o := 2) (heap_keptD HBX.out h) rfl⟩
    clear hB2 z0 z1 z2 c0 c1 c2
    go_wp2_with fail
    refine wp_region_held_drew (S := (fun W => (W.cell? ⟨w.heap.size, 0, none⟩ = some (.string ⟨t.nm.toArray⟩) ∧ W.cell? ⟨w.heap.size, 1, none⟩ = some (.slice ca t.cols.length cc) ∧ W.cell? ⟨w.heap.size, 2, none⟩ = some (.slice ua t.uq.length uc) ∧ W.cell? ⟨w.heap.size, 3, none⟩ = some (.bool t.rt)) ∧ W.cell? ⟨wr.heap.size, 0, none⟩ = some (.string ⟨x.col.toArray⟩) ∧ W.cell? ⟨wr.heap.size, 2, none⟩ = some (.slice xa x.val.length xc))) (by kernel_rfl) ?_ (fun hHeld => ?_)
    ·
     (first | exact CX.out _ (Below.refl _ _) | exact CX.out _ (Below.refl _ _).drew | exact CX.out _ BW3.out | exact CX.out _ BW4.out)
    refine tkB (i := 0) ?_
    refine tkB (i := 1) ?_
    refine tkB (i := 2) ?_
    refine tkB (i := 3) ?_
    refine tkB (i := 4) ?_
    refine tkB (i := 5) ?_
    refine tkB (i := 6) ?_
    refine tkB (i := 8) ?_
    refine tkB (i := 9) ?_
    refine tkR (i := 7) (fun K hK => ?_)
    go_simp
    go_at_call 121
    refine (CL.out _ (HBO.out.drew)).mono ?_
    rintro e w3 ⟨la, lq, rfl, hrd, hB3⟩
    have BW3 : Hid (Below w2.heap.size w2 w3) := (Below.refl _ _).drew.trans hB3
    have HRD := Lib.hid hrd
    clear hrd hB3
    refine hK.out _ _ ?_ (fun hHeld => ?_)
    ·
     (first | exact CX.out _ (Below.refl _ _) | exact CX.out _ (Below.refl _ _).drew | exact CX.out _ BW3.out | exact CX.out _ BW4.out)
    clear hK K
    try simp only [Act.put, tkS]
    refine tkR (i := 10) (fun K hK => ?_)
    go_simp
    go_at_call 172
    have hord : x.val.length = 1 ∧ l.length ≤ 1 := HN1.out
    refine (num4I l x.val la lq xa xc _ _ _ _ ((BW3.out.cell (p := ⟨wr.heap.size + 1, 0, none⟩) (World.block_lt_of_cell? _ _ HCL.out)).trans HCL.out) hord.1 hord.2 HRD.out (HRV.out _ BW3.out)).mono ?_
    rintro e w4 ⟨rfl, hB4⟩
    have BW4 : Hid (Below w2.heap.size w2 w4) := BW3.out.trans (hB4.mono BW3.out.size)
    clear hB4
    refine hK.out _ _ ?_ (fun hHeld => ?_)
    ·
     (first | exact CX.out _ (Below.refl _ _) | exact CX.out _ (Below.refl _ _).drew | exact CX.out _ BW3.out | exact CX.out _ BW4.out)
    clear hK K
    try simp only [Act.put, tkS]
    refine tkB (i := 11) ?_
    refine wpAnyH_done (by kernel_rfl) ?_ _
    have HFW := Lib.hid (HBO.out.trans (BW4.out.mono HBO.out.size))
    cases he : ncmpB 4 l x.val
    case false =>
     rw [he] at HE
     have HN := Lib.hid (HNO.out HE.out)
     clear HNO HNX HE he CL
     go_wp2_with fail
     go_roundg (rows.length - (k + 1))
     case measure => omega
     case rel => exact ⟨k + 1, by omega, by go_num, n, va, vq, rfl, HN.out, HW.out.2.later HFW.out⟩
    case true =>
     rw [he] at HE
     have HN := Lib.hid (HNX.out HE.out)
     clear HNO HNX HE he CL
     go_wp2_with fail
     go_roundg (list.length - (m + 1))
     case measure => omega
     case rel => exact ⟨m + 1, by omega, by go_num, HN.out, HFW.out⟩
   ·
    have HN1 := Lib.hid (And.intro hv1 hc1)
    clear hv1 hc1
    have HE : Hid (matchC t y x = (ncmpB 5 l x.val)) := by show matchC t y x = _; rw [HM.out]; simp [matchP, hf]
    have WD : Hid (∀ W, TabW W → Calls Tryz.prog 120 #[.int .i64 x.fn] W fun e w' => e = .returned (.string ⟨#[62]⟩) ∧ w' = W) := fun W h => by rw [hf]; exact wordI 5 _ W (by omega) (h 5 (by omega))
    clear hf HQ HM
    go_wp2_with fail
    refine (WD.out _ (HTB.out _ (HBW.out.trans ((below_allocD _ _).mono HBW.out.size)))).mono ?_
    rintro e w1 ⟨rfl, rfl⟩
    go_wp2_with fail
    refine (test5I _).mono ?_
    rintro e w2 ⟨rfl, hB2, hcl⟩
    rw [size_allocD] at hcl
    have HCL := Lib.hid hcl
    clear hcl
    have HC2 := Lib.hid (HW.out.2.later (HB1.out.trans (hB2.mono HB1.out.size)))
    have HBO := Lib.hid (HB1.out.trans (hB2.mono HB1.out.size))
    have HBX := Lib.hid (heap_keptD (heap_newD wr (.cells #[.string ⟨x.col.toArray⟩, .int .i64 x.fn, .slice xa x.val.length xc] 119)) hB2)
    have HRV : Hid (∀ W, Below w2.heap.size w2 W → Rd W B (dAtomS x.val) (.slice xa x.val.length xc)) := fun W h => ((HR2.out.later (below_allocD _ _)).later hB2).later h
    have CX : Hid (∀ W, Below w2.heap.size w2 W → (W.cell? ⟨w.heap.size, 0, none⟩ = some (.string ⟨t.nm.toArray⟩) ∧ W.cell? ⟨w.heap.size, 1, none⟩ = some (.slice ca t.cols.length cc) ∧ W.cell? ⟨w.heap.size, 2, none⟩ = some (.slice ua t.uq.length uc) ∧ W.cell? ⟨w.heap.size, 3, none⟩ = some (.bool t.rt)) ∧ W.cell? ⟨wr.heap.size, 0, none⟩ = some (.string ⟨x.col.toArray⟩) ∧ W.cell? ⟨wr.heap.size, 2, none⟩ = some (.slice xa x.val.length xc)) := fun W h => ⟨⟨cell_at (o := 0) (HC2.out.later h).tb rfl, cell_at (o := 1) (HC2.out.later h).tb rfl, cell_at (o := 2) (HC2.out.later h).tb rfl, cell_at (o := 3) (HC2.out.later h).tb rfl⟩, cell_at (o := 0) (heap_keptD HBX.out h) rfl, cell_at (o := 2) (heap_keptD HBX.out h) rfl⟩
    clear hB2 z0 z1 z2 c0 c1 c2
    go_wp2_with fail
    refine wp_region_held_drew (S := (fun W => (W.cell? ⟨w.heap.size, 0, none⟩ = some (.string ⟨t.nm.toArray⟩) ∧ W.cell? ⟨w.heap.size, 1, none⟩ = some (.slice ca t.cols.length cc) ∧ W.cell? ⟨w.heap.size, 2, none⟩ = some (.slice ua t.uq.length uc) ∧ W.cell? ⟨w.heap.size, 3, none⟩ = some (.bool t.rt)) ∧ W.cell? ⟨wr.heap.size, 0, none⟩ = some (.string ⟨x.col.toArray⟩) ∧ W.cell? ⟨wr.heap.size, 2, none⟩ = some (.slice xa x.val.length xc))) (by kernel_rfl) ?_ (fun hHeld => ?_)
    ·
     (first | exact CX.out _ (Below.refl _ _) | exact CX.out _ (Below.refl _ _).drew | exact CX.out _ BW3.out | exact CX.out _ BW4.out)
    refine tkB (i := 0) ?_
    refine tkB (i := 1) ?_
    refine tkB (i := 2) ?_
    refine tkB (i := 3) ?_
    refine tkB (i := 4) ?_
    refine tkB (i := 5) ?_
    refine tkB (i := 6) ?_
    refine tkB (i := 8) ?_
    refine tkB (i := 9) ?_
    refine tkR (i := 7) (fun K hK => ?_)
    go_simp
    go_at_call 121
    refine (CL.out _ (HBO.out.drew)).mono ?_
    rintro e w3 ⟨la, lq, rfl, hrd, hB3⟩
    have BW3 : Hid (Below w2.heap.size w2 w3) := (Below.refl _ _).drew.trans hB3
    have HRD := Lib.hid hrd
    clear hrd hB3
    refine hK.out _ _ ?_ (fun hHeld => ?_)
    ·
     (first | exact CX.out _ (Below.refl _ _) | exact CX.out _ (Below.refl _ _).drew | exact CX.out _ BW3.out | exact CX.out _ BW4.out)
    clear hK K
    try simp only [Act.put, tkS]
    refine tkR (i := 10) (fun K hK => ?_)
    go_simp
    go_at_call 172
    have hord : x.val.length = 1 ∧ l.length ≤ 1 := HN1.out
    refine (num5I l x.val la lq xa xc _ _ _ _ ((BW3.out.cell (p := ⟨wr.heap.size + 1, 0, none⟩) (World.block_lt_of_cell? _ _ HCL.out)).trans HCL.out) hord.1 hord.2 HRD.out (HRV.out _ BW3.out)).mono ?_
    rintro e w4 ⟨rfl, hB4⟩
    have BW4 : Hid (Below w2.heap.size w2 w4) := BW3.out.trans (hB4.mono BW3.out.size)
    clear hB4
    refine hK.out _ _ ?_ (fun hHeld => ?_)
    ·
     (first | exact CX.out _ (Below.refl _ _) | exact CX.out _ (Below.refl _ _).drew | exact CX.out _ BW3.out | exact CX.out _ BW4.out)
    clear hK K
    try simp only [Act.put, tkS]
    refine tkB (i := 11) ?_
    refine wpAnyH_done (by kernel_rfl) ?_ _
    have HFW := Lib.hid (HBO.out.trans (BW4.out.mono HBO.out.size))
    cases he : ncmpB 5 l x.val
    case false =>
     rw [he] at HE
     have HN := Lib.hid (HNO.out HE.out)
     clear HNO HNX HE he CL
     go_wp2_with fail
     go_roundg (rows.length - (k + 1))
     case measure => omega
     case rel => exact ⟨k + 1, by omega, by go_num, n, va, vq, rfl, HN.out, HW.out.2.later HFW.out⟩
    case true =>
     rw [he] at HE
     have HN := Lib.hid (HNX.out HE.out)
     clear HNO HNX HE he CL
     go_wp2_with fail
     go_roundg (list.length - (m + 1))
     case measure => omega
     case rel => exact ⟨m + 1, by omega, by go_num, HN.out, HFW.out⟩
   ·
    have HN1 := Lib.hid (And.intro hv1 hc1)
    clear hv1 hc1
    have HE : Hid (matchC t y x = (ncmpB 6 l x.val)) := by show matchC t y x = _; rw [HM.out]; simp [matchP, hf]
    have WD : Hid (∀ W, TabW W → Calls Tryz.prog 120 #[.int .i64 x.fn] W fun e w' => e = .returned (.string ⟨#[62, 61]⟩) ∧ w' = W) := fun W h => by rw [hf]; exact wordI 6 _ W (by omega) (h 6 (by omega))
    clear hf HQ HM
    go_wp2_with fail
    refine (WD.out _ (HTB.out _ (HBW.out.trans ((below_allocD _ _).mono HBW.out.size)))).mono ?_
    rintro e w1 ⟨rfl, rfl⟩
    go_wp2_with fail
    refine (test6I _).mono ?_
    rintro e w2 ⟨rfl, hB2, hcl⟩
    rw [size_allocD] at hcl
    have HCL := Lib.hid hcl
    clear hcl
    have HC2 := Lib.hid (HW.out.2.later (HB1.out.trans (hB2.mono HB1.out.size)))
    have HBO := Lib.hid (HB1.out.trans (hB2.mono HB1.out.size))
    have HBX := Lib.hid (heap_keptD (heap_newD wr (.cells #[.string ⟨x.col.toArray⟩, .int .i64 x.fn, .slice xa x.val.length xc] 119)) hB2)
    have HRV : Hid (∀ W, Below w2.heap.size w2 W → Rd W B (dAtomS x.val) (.slice xa x.val.length xc)) := fun W h => ((HR2.out.later (below_allocD _ _)).later hB2).later h
    have CX : Hid (∀ W, Below w2.heap.size w2 W → (W.cell? ⟨w.heap.size, 0, none⟩ = some (.string ⟨t.nm.toArray⟩) ∧ W.cell? ⟨w.heap.size, 1, none⟩ = some (.slice ca t.cols.length cc) ∧ W.cell? ⟨w.heap.size, 2, none⟩ = some (.slice ua t.uq.length uc) ∧ W.cell? ⟨w.heap.size, 3, none⟩ = some (.bool t.rt)) ∧ W.cell? ⟨wr.heap.size, 0, none⟩ = some (.string ⟨x.col.toArray⟩) ∧ W.cell? ⟨wr.heap.size, 2, none⟩ = some (.slice xa x.val.length xc)) := fun W h => ⟨⟨cell_at (o := 0) (HC2.out.later h).tb rfl, cell_at (o := 1) (HC2.out.later h).tb rfl, cell_at (o := 2) (HC2.out.later h).tb rfl, cell_at (o := 3) (HC2.out.later h).tb rfl⟩, cell_at (o := 0) (heap_keptD HBX.out h) rfl, cell_at (o := 2) (heap_keptD HBX.out h) rfl⟩
    clear hB2 z0 z1 z2 c0 c1 c2
    go_wp2_with fail
    refine wp_region_held_drew (S := (fun W => (W.cell? ⟨w.heap.size, 0, none⟩ = some (.string ⟨t.nm.toArray⟩) ∧ W.cell? ⟨w.heap.size, 1, none⟩ = some (.slice ca t.cols.length cc) ∧ W.cell? ⟨w.heap.size, 2, none⟩ = some (.slice ua t.uq.length uc) ∧ W.cell? ⟨w.heap.size, 3, none⟩ = some (.bool t.rt)) ∧ W.cell? ⟨wr.heap.size, 0, none⟩ = some (.string ⟨x.col.toArray⟩) ∧ W.cell? ⟨wr.heap.size, 2, none⟩ = some (.slice xa x.val.length xc))) (by kernel_rfl) ?_ (fun hHeld => ?_)
    ·
     (first | exact CX.out _ (Below.refl _ _) | exact CX.out _ (Below.refl _ _).drew | exact CX.out _ BW3.out | exact CX.out _ BW4.out)
    refine tkB (i := 0) ?_
    refine tkB (i := 1) ?_
    refine tkB (i := 2) ?_
    refine tkB (i := 3) ?_
    refine tkB (i := 4) ?_
    refine tkB (i := 5) ?_
    refine tkB (i := 6) ?_
    refine tkB (i := 8) ?_
    refine tkB (i := 9) ?_
    refine tkR (i := 7) (fun K hK => ?_)
    go_simp
    go_at_call 121
    refine (CL.out _ (HBO.out.drew)).mono ?_
    rintro e w3 ⟨la, lq, rfl, hrd, hB3⟩
    have BW3 : Hid (Below w2.heap.size w2 w3) := (Below.refl _ _).drew.trans hB3
    have HRD := Lib.hid hrd
    clear hrd hB3
    refine hK.out _ _ ?_ (fun hHeld => ?_)
    ·
     (first | exact CX.out _ (Below.refl _ _) | exact CX.out _ (Below.refl _ _).drew | exact CX.out _ BW3.out | exact CX.out _ BW4.out)
    clear hK K
    try simp only [Act.put, tkS]
    refine tkR (i := 10) (fun K hK => ?_)
    go_simp
    go_at_call 172
    have hord : x.val.length = 1 ∧ l.length ≤ 1 := HN1.out
    refine (num6I l x.val la lq xa xc _ _ _ _ ((BW3.out.cell (p := ⟨wr.heap.size + 1, 0, none⟩) (World.block_lt_of_cell? _ _ HCL.out)).trans HCL.out) hord.1 hord.2 HRD.out (HRV.out _ BW3.out)).mono ?_
    rintro e w4 ⟨rfl, hB4⟩
    have BW4 : Hid (Below w2.heap.size w2 w4) := BW3.out.trans (hB4.mono BW3.out.size)
    clear hB4
    refine hK.out _ _ ?_ (fun hHeld => ?_)
    ·
     (first | exact CX.out _ (Below.refl _ _) | exact CX.out _ (Below.refl _ _).drew | exact CX.out _ BW3.out | exact CX.out _ BW4.out)
    clear hK K
    try simp only [Act.put, tkS]
    refine tkB (i := 11) ?_
    refine wpAnyH_done (by kernel_rfl) ?_ _
    have HFW := Lib.hid (HBO.out.trans (BW4.out.mono HBO.out.size))
    cases he : ncmpB 6 l x.val
    case false =>
     rw [he] at HE
     have HN := Lib.hid (HNO.out HE.out)
     clear HNO HNX HE he CL
     go_wp2_with fail
     go_roundg (rows.length - (k + 1))
     case measure => omega
     case rel => exact ⟨k + 1, by omega, by go_num, n, va, vq, rfl, HN.out, HW.out.2.later HFW.out⟩
    case true =>
     rw [he] at HE
     have HN := Lib.hid (HNX.out HE.out)
     clear HNO HNX HE he CL
     go_wp2_with fail
     go_roundg (list.length - (m + 1))
     case measure => omega
     case rel => exact ⟨m + 1, by omega, by go_num, HN.out, HFW.out⟩
end Go.Proofs.YtlddhbamcndggaaGreatDoor
