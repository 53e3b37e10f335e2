import Derived.Test.YtlddhbamcndggaaGreatDoorZad
import Derived.Test.YtlddhbamcndggaaGreatDoorZbc
import Derived.Test.YtlddhbamcndggaaGreatDoorZbd
import Derived.Test.YtlddhbamcndggaaGreatDoorZax
import Derived.Test.YtlddhbamcndggaaGreatDoorZar
import Derived.Test.YtlddhbamcndggaaGreatDoorZTk
namespace Go.Proofs.YtlddhbamcndggaaGreatDoor
open Go.RowKit
set_option linter.unusedSimpArgs false
noncomputable def pkN (t : Tb) (names : List (List UInt8)) : Int := if names.all (askT t) = true then 0 else 11
noncomputable def pkC (t : Tb) (r : RowV) (names : List (List UInt8)) : Int := if 4096 < names.length then 2 else if rokM t r = true then pkN t names else 1
noncomputable def pkR (t : Tb) (r : RowV) (names : List (List UInt8)) : RowV := if ¬ 4096 < names.length ∧ rokM t r = true ∧ pkN t names = 0 then ⟨r.id, names.map (cellOf t r)⟩ else rowZ
theorem pk_long {t : Tb} {r : RowV} {l : List (List UInt8)} (h : 4096 < l.length) : pkR t r l = rowZ ∧ pkC t r l = 2 := by
 unfold pkR pkC; rw [if_neg (fun hn => hn.1 h), if_pos h]; exact ⟨rfl, rfl⟩
theorem pk_bad {t : Tb} {r : RowV} {l : List (List UInt8)} (h : ¬ 4096 < l.length) (hb : rokM t r = false) : pkR t r l = rowZ ∧ pkC t r l = 1 := by
 unfold pkR pkC; rw [if_neg (fun hn => by rw [hb] at hn; cases hn.2.1), if_neg h, if_neg (by rw [hb]; decide)]; exact ⟨rfl, rfl⟩
theorem pk_code {t : Tb} {r : RowV} {l : List (List UInt8)} (h : ¬ 4096 < l.length) (hb : rokM t r = true) (hc : ¬ pkN t l = 0) : pkR t r l = rowZ ∧ pkC t r l = pkN t l := by
 unfold pkR pkC; rw [if_neg (fun hn => hc hn.2.2), if_neg h, if_pos hb]; exact ⟨rfl, rfl⟩
theorem pk_ok {t : Tb} {r : RowV} {l : List (List UInt8)} (h : ¬ 4096 < l.length) (hb : rokM t r = true) (hc : pkN t l = 0) : pkR t r l = ⟨r.id, l.map (cellOf t r)⟩ ∧ pkC t r l = 0 := by
 unfold pkR pkC; rw [if_pos ⟨h, hb, hc⟩, if_neg h, if_pos hb]; exact ⟨rfl, hc⟩
theorem pkN_no {t : Tb} {l : List (List UInt8)} {k : Nat} (hk : k < l.length) (h : askT t l[k] = false) : pkN t l = 11 := by
 unfold pkN; rw [if_neg]; intro hn
 have := List.all_eq_true.1 hn _ (List.getElem_mem hk)
 rw [h] at this; cases this
theorem pkN_yes {t : Tb} {l : List (List UInt8)} (h : ∀ k (hk : k < l.length), askT t l[k] = true) : pkN t l = 0 := by
 unfold pkN; rw [if_pos]
 exact List.all_eq_true.2 (fun x hx => by obtain ⟨k, hk, rfl⟩ := List.mem_iff_getElem.1 hx; exact h k hk)
theorem rok_len {t : Tb} {r : RowV} (h : rokM t r = true) : r.cells.length = t.cols.length := by
 unfold rokM at h
 simp only [Bool.and_eq_true] at h
 exact (row_of h.2).len
theorem pkF {t : Tb} {r : RowV} {l : List (List UInt8)} {k : Nat} (h : k < l.length) : lsF cAtomS (l.map (cellOf t r)) k = cAtomS (cellOf t r l[k]) := by rw [lsF_at (by simpa using h)]; simp
theorem cell_leK {t : Tb} {r : RowV} {s : List UInt8} {K : Nat} (hK : 1 ≤ K) (hr : (dAtomSS r.cells).le K) (hid : iOK r.id) (hlen : r.cells.length = t.cols.length) : (dAtomS (cellOf t r s)).le K := by
 rcases place_cases t.cols s with hp | ⟨k, hk, hp⟩
 ·
  rw [cell_id hp]
  refine Ls_le.2 ⟨by omega, by simpa using hK, fun i hi j hj => ?_⟩
  obtain rfl : i = 0 := by simpa using hi
  rcases (by omega : j = 0 ∨ j = 1 ∨ j = 2) with rfl | rfl | rfl
  ·
   show iOK 4; unfold iOK; decide
  ·
   exact hid
  ·
   show (0 : Nat) ≤ K; omega
 ·
  rw [cell_col (by omega) hp]
  exact (Ls_le.1 hr).2.2 k (by omega) 0 (by omega)
set_option maxRecDepth 100000 in
set_option maxHeartbeats 12800000 in
theorem pickS (t : Tb) (ca : Option Addr) (cc : Nat) (ua : Option Addr) (uc : Nat) (A : Nat → Prop) (r : RowV) (ra : Option Addr) (rc : Nat) (R : Nat → Prop) (names : List (List UInt8)) (a : Option Addr) (c : Nat) (B : Nat → Prop) (w : World) (hto : t.ok) (hn4 : names.length ≤ 4096) (hlen : r.cells.length = t.cols.length) (hcl : ∀ s, (cellOf t r s).length ≤ 1048576) (hT : t.Has w A ca ua) (hR : Rd w R (dAtomSS r.cells) (.slice ra r.cells.length rc)) (hL : Rd w B (dStringS names) (.slice a names.length c)) :
  Calls Tryz.prog 101 #[.agg #[.string ⟨t.nm.toArray⟩, .slice ca t.cols.length cc, .slice ua t.uq.length uc, .bool t.rt], .agg #[.int .i64 r.id, .slice ra r.cells.length rc], .slice a names.length c] w fun e w' => ∃ pa pc, e = .returned (.agg #[.int .i64 r.id, .slice pa (names.map (cellOf t r)).length pc]) ∧ Rd w' (fun b => w.heap.size ≤ b ∧ b < w'.heap.size) (dAtomSS (names.map (cellOf t r))) (.slice pa (names.map (cellOf t r)).length pc) ∧ Below w.heap.size w w' := by
 obtain ⟨iA, hiA⟩ := infoAs
 have HIA := Lib.hid hiA
 have HL : Hid (∀ W, Below w.heap.size w W → Rd W B (Ls 1 cString names) (.slice a names.length c)) := fun W h => Rd.later hL h
 have HC : Hid (∀ (s : List UInt8) W, Below w.heap.size w W → Calls Tryz.prog 136 #[.agg #[.string ⟨t.nm.toArray⟩, .slice ca t.cols.length cc, .slice ua t.uq.length uc, .bool t.rt], .agg #[.int .i64 r.id, .slice ra r.cells.length rc], .string ⟨s.toArray⟩] W (CellAns W (cellOf t r s))) := fun s W h => cellS t r s ca cc ua uc ra rc A R W hto hlen (hT.later h) (hR.later h)
 have H0 : Hid (GQ w (((((w.alloc (.cells #[.string ⟨t.nm.toArray⟩, .slice ca t.cols.length cc, .slice ua t.uq.length uc, .bool t.rt] 75)).alloc (.cells #[.int .i64 r.id, .slice ra r.cells.length rc] 81)).alloc (.cells #[.int .i64 0, .slice none 0 0] 81)).alloc (.cells #[] 117)).alloc (.cells #[.int .i64 r.id, .slice (some ⟨w.heap.size + 1 + 1 + 1, 0, none⟩) 0 0] 81)) [.cells #[.string ⟨t.nm.toArray⟩, .slice ca t.cols.length cc, .slice ua t.uq.length uc, .bool t.rt] 75, .cells #[.int .i64 r.id, .slice ra r.cells.length rc] 81, .cells #[.int .i64 0, .slice none 0 0] 81] (w.heap.size + 1 + 1 + 1) 81 (fun v => #[.int .i64 r.id, v]) 117 1 (lsF cAtomS (names.map (cellOf t r))) 0 (.slice (some ⟨w.heap.size + 1 + 1 + 1, 0, none⟩) 0 0)) := GQ.first w [.cells #[.string ⟨t.nm.toArray⟩, .slice ca t.cols.length cc, .slice ua t.uq.length uc, .bool t.rt] 75, .cells #[.int .i64 r.id, .slice ra r.cells.length rc] 81, .cells #[.int .i64 0, .slice none 0 0] 81] (w.heap.size + 1 + 1 + 1) rfl 81 (fun v => #[.int .i64 r.id, v]) 117 1 (lsF cAtomS (names.map (cellOf t r)))
 have HN4 := Lib.hid hn4
 have HCL := Lib.hid hcl
 have hr1 : ((w.alloc (.cells #[.string ⟨t.nm.toArray⟩, .slice ca t.cols.length cc, .slice ua t.uq.length uc, .bool t.rt] 75)).alloc (.cells #[.int .i64 r.id, .slice ra r.cells.length rc] 81)).alloc (.cells #[.int .i64 0, .slice none 0 0] 81) = allocs w [.cells #[.string ⟨t.nm.toArray⟩, .slice ca t.cols.length cc, .slice ua t.uq.length uc, .bool t.rt] 75, .cells #[.int .i64 r.id, .slice ra r.cells.length rc] 81, .cells #[.int .i64 0, .slice none 0 0] 81] := rfl
 have hr2 : (((w.alloc (.cells #[.string ⟨t.nm.toArray⟩, .slice ca t.cols.length cc, .slice ua t.uq.length uc, .bool t.rt] 75)).alloc (.cells #[.int .i64 r.id, .slice ra r.cells.length rc] 81)).alloc (.cells #[.int .i64 0, .slice none 0 0] 81)).heap[w.heap.size + 1]? = some (.cells #[.int .i64 r.id, .slice ra r.cells.length rc] 81) := by rw [hr1]; exact allocs_at [.cells #[.string ⟨t.nm.toArray⟩, .slice ca t.cols.length cc, .slice ua t.uq.length uc, .bool t.rt] 75, .cells #[.int .i64 r.id, .slice ra r.cells.length rc] 81, .cells #[.int .i64 0, .slice none 0 0] 81] w 1 _ rfl
 have e0 := cell_at (o := 0) hr2 rfl
 clear hiA hT hto hR hL hlen hcl hr1 hr2
 go_enter Tryz.func101, Tryz.ntmps101
 go_wp2_with fail
 clear e0
 go_loopw [8] (fun i wr => ∃ k : Nat, k ≤ names.length ∧ i = .int .i64 k ∧ Hid (∃ va vc, GQ w wr [.cells #[.string ⟨t.nm.toArray⟩, .slice ca t.cols.length cc, .slice ua t.uq.length uc, .bool t.rt] 75, .cells #[.int .i64 r.id, .slice ra r.cells.length rc] 81, .cells #[.int .i64 0, .slice none 0 0] 81] (w.heap.size + 1 + 1 + 1) 81 (fun v => #[.int .i64 r.id, v]) 117 1 (lsF cAtomS (names.map (cellOf t r))) k (.slice va k vc))) (fun i _ => names.length - (intOf i).toNat)
 case atStart => exact ⟨0, Nat.zero_le _, rfl, _, _, H0.out⟩
 case round =>
  obtain ⟨k, hk, rfl, HW⟩ := hrel
  obtain ⟨va, vc, hN⟩ := HW.out
  have HN := Lib.hid hN
  clear HW
  have hbx : wr.heap[w.heap.size]? = some (.cells #[.string ⟨t.nm.toArray⟩, .slice ca t.cols.length cc, .slice ua t.uq.length uc, .bool t.rt] 75) := hN.bx 0 _ rfl
  have hby : wr.heap[w.heap.size + 1]? = some (.cells #[.int .i64 r.id, .slice ra r.cells.length rc] 81) := hN.bx 1 _ rfl
  have t0 := cell_at (o := 0) hN.ot rfl
  have t1 := cell_at (o := 1) hN.ot rfl
  by_cases hlt : k < names.length
  case neg =>
   have hkd : decide ((k : Int) < (names.length : Int)) = false := by simp; omega
   have HKM : Hid (k = names.length) := by show k = _; omega
   have hrv : wr.heap[w.heap.size + 1 + 1]? = some (.cells #[.int .i64 0, .slice none 0 0] 81) := hN.bx 2 _ rfl
   have r0 := cell_at (o := 0) hrv rfl
   have r1 := cell_at (o := 1) hrv rfl
   have g0 := frozen_at 0 hrv
   have g1 := frozen_at 1 hrv
   clear hN hbx hby hrv
   go_wp2_with fail
   refine bodyPost_ret (v := .agg #[.int .i64 r.id, .slice va k vc]) (by simp [results, Tryz.results101, go_sem, *]) rfl ?_
   have hkm := HKM.out
   subst hkm
   have hfr : Frm (· = w.heap.size + 1 + 1) wr ((wr.setCell ⟨w.heap.size + 1 + 1, 0, none⟩ (.int .i64 r.id)).setCell ⟨w.heap.size + 1 + 1, 1, none⟩ (.slice va names.length vc)) := (frm_set _ _ _ _).trans (frm_set _ _ _ _)
   refine ⟨va, vc, by rw [List.length_map], ?_, (HN.out.bel.setCell (by simp <;> omega) _).setCell (by simp <;> omega) _⟩
   have hr := HN.out.rd (by omega)
   have hr2 := (hr.frm hfr (fun b hb e => by have h1 := hb.1.1; have e' : b = w.heap.size + 1 + 1 := e; omega)).mono (B' := fun b => w.heap.size ≤ b ∧ b < ((wr.setCell ⟨w.heap.size + 1 + 1, 0, none⟩ (.int .i64 r.id)).setCell ⟨w.heap.size + 1 + 1, 1, none⟩ (.slice va names.length vc)).heap.size) (fun b hb => ⟨by have := hb.1.1; omega, by simpa using hb.2⟩)
   unfold dAtomSS Ls
   rw [List.length_map]
   exact hr2
  have hki : (k : Int) < (names.length : Int) := by omega
  obtain ⟨b, off, rfl, -, hc⟩ := (HL.out _ hN.bel).things k hlt
  obtain ⟨u0, l0, lr0⟩ := hc 0 (by omega)
  obtain rfl : u0 = .string ⟨names[k].toArray⟩ := lr0
  rw [Nat.mul_one, Nat.add_zero] at l0
  clear hc
  have CE : Hid (∀ W, (Below w.heap.size w W ∧ W.heap[w.heap.size]? = some (.cells #[.string ⟨t.nm.toArray⟩, .slice ca t.cols.length cc, .slice ua t.uq.length uc, .bool t.rt] 75) ∧ W.heap[w.heap.size + 1]? = some (.cells #[.int .i64 r.id, .slice ra r.cells.length rc] 81)) → W.cell? ⟨w.heap.size, 0, none⟩ = some (.string ⟨t.nm.toArray⟩) ∧ W.cell? ⟨w.heap.size, 1, none⟩ = some (.slice ca t.cols.length cc) ∧ W.cell? ⟨w.heap.size, 2, none⟩ = some (.slice ua t.uq.length uc) ∧ W.cell? ⟨w.heap.size, 3, none⟩ = some (.bool t.rt) ∧ W.cell? ⟨w.heap.size + 1, 0, none⟩ = some (.int .i64 r.id) ∧ W.cell? ⟨w.heap.size + 1, 1, none⟩ = some (.slice ra r.cells.length rc) ∧ W.cell? ⟨b, off + k, none⟩ = some (.string ⟨names[k].toArray⟩)) := fun W h => ⟨cell_at (o := 0) h.2.1 rfl, cell_at (o := 1) h.2.1 rfl, cell_at (o := 2) h.2.1 rfl, cell_at (o := 3) h.2.1 rfl, cell_at (o := 0) h.2.2 rfl, cell_at (o := 1) h.2.2 rfl, by
   obtain ⟨u, e, hr⟩ := (HL.out W h.1).spotT hlt (j := 0) (by omega)
   obtain rfl : u = .string ⟨names[k].toArray⟩ := hr
   rw [Nat.mul_one, Nat.add_zero] at e
   exact e⟩
  have BW0 : Hid (Below w.heap.size w wr.drew ∧ wr.drew.heap[w.heap.size]? = some (.cells #[.string ⟨t.nm.toArray⟩, .slice ca t.cols.length cc, .slice ua t.uq.length uc, .bool t.rt] 75) ∧ wr.drew.heap[w.heap.size + 1]? = some (.cells #[.int .i64 r.id, .slice ra r.cells.length rc] 81)) := ⟨hN.bel.drew, hbx, hby⟩
  have PU : Hid (∀ (V : World) (a8 : Option Addr) (c8 : Nat), Below wr.heap.size wr V → Rd V (fun b => wr.heap.size ≤ b ∧ b < V.heap.size) (dAtomS (cellOf t r names[k])) (.slice a8 (cellOf t r names[k]).length c8) → ∃ a' c' W4, (Builtin.append_ #[79, 79] 79 #[.slice va k vc, .slice (some ⟨V.heap.size, 0, none⟩) 1 1]).run Tryz.prog (V.alloc (.cells #[.slice a8 (cellOf t r names[k]).length c8] 117)) = .ok (.slice a' (k + 1) c') W4 ∧ GQ w (W4.setCell ⟨w.heap.size + 1 + 1 + 1 + 1, 1, none⟩ (.slice a' (k + 1) c')) [.cells #[.string ⟨t.nm.toArray⟩, .slice ca t.cols.length cc, .slice ua t.uq.length uc, .bool t.rt] 75, .cells #[.int .i64 r.id, .slice ra r.cells.length rc] 81, .cells #[.int .i64 0, .slice none 0 0] 81] (w.heap.size + 1 + 1 + 1) 81 (fun v => #[.int .i64 r.id, v]) 117 1 (lsF cAtomS (names.map (cellOf t r))) (k + 1) (.slice a' (k + 1) c') ∧ W4.heap[w.heap.size + 1 + 1 + 1 + 1]? = some (.cells #[.int .i64 r.id, .slice va k vc] 81) ∧ (Below w.heap.size w W4 ∧ W4.heap[w.heap.size]? = some (.cells #[.string ⟨t.nm.toArray⟩, .slice ca t.cols.length cc, .slice ua t.uq.length uc, .bool t.rt] 75) ∧ W4.heap[w.heap.size + 1]? = some (.cells #[.int .i64 r.id, .slice ra r.cells.length rc] 81))) := fun V a8 c8 hB ho => by
   obtain ⟨a', c', W4, h1, h2, h3, h4, h5⟩ := HN.out.push (P := Tryz.prog) 79 79 iA (.slice none 0 0) 24 Tryz.underlying79 HIA.out.1 HIA.out.2.1 HIA.out.2.2.1 HIA.out.2.2.2 rfl 1 (fun _ => rfl) hB (.slice a8 (cellOf t r names[k]).length c8) rfl (by have := HN4.out; unfold maxLen; omega) (by have := HN4.out; omega) (by rw [pkF hlt]; exact ho)
   exact ⟨a', c', W4, h1, h2, h3, h5, h4 0 _ rfl, h4 1 _ rfl⟩
  have DF : Hid (∀ W, Below wr.heap.size wr W → Calls Tryz.prog 136 #[.agg #[.string ⟨t.nm.toArray⟩, .slice ca t.cols.length cc, .slice ua t.uq.length uc, .bool t.rt], .agg #[.int .i64 r.id, .slice ra r.cells.length rc], .string ⟨names[k].toArray⟩] W (CellAns W (cellOf t r names[k]))) := fun W h => HC.out names[k] W (HN.out.bel.trans (h.mono HN.out.bel.size))
  have HCK := Lib.hid (HCL.out names[k])
  have KB : Hid (∀ V, Below wr.heap.size wr V → (Below w.heap.size w V ∧ V.heap[w.heap.size]? = some (.cells #[.string ⟨t.nm.toArray⟩, .slice ca t.cols.length cc, .slice ua t.uq.length uc, .bool t.rt] 75) ∧ V.heap[w.heap.size + 1]? = some (.cells #[.int .i64 r.id, .slice ra r.cells.length rc] 81)) ∧ V.cell? ⟨w.heap.size + 1 + 1 + 1 + 1, 1, none⟩ = some (.slice va k vc)) := fun V hB => ⟨⟨hN.bel.trans (hB.mono hN.bel.size), heap_keptD hbx hB, heap_keptD hby hB⟩, cell_at (o := 1) (heap_keptD hN.ot hB) rfl⟩
  clear hN hbx hby l0 t0 t1
  generalize cellOf t r names[k] = s at *
  generalize names[k] = y at *
  go_wp2_with fail
  have p0 := (KB.out _ (Below.refl _ _).drew).2
  refine wp_region_held_drew (S := (fun W => W.cell? ⟨w.heap.size, 0, none⟩ = some (.string ⟨t.nm.toArray⟩) ∧ W.cell? ⟨w.heap.size, 1, none⟩ = some (.slice ca t.cols.length cc) ∧ W.cell? ⟨w.heap.size, 2, none⟩ = some (.slice ua t.uq.length uc) ∧ W.cell? ⟨w.heap.size, 3, none⟩ = some (.bool t.rt) ∧ W.cell? ⟨w.heap.size + 1, 0, none⟩ = some (.int .i64 r.id) ∧ W.cell? ⟨w.heap.size + 1, 1, none⟩ = some (.slice ra r.cells.length rc) ∧ W.cell? ⟨b, off + k, none⟩ = some (.string ⟨y.toArray⟩))) (by kernel_rfl) ?_ (fun hHeld => ?_)
  ·
   (exact CE.out _ (by first | exact BW0.out | exact BW1.out | exact BW2.out | exact BW6.out | exact BW8.out | exact BW3.out | exact BW4.out | exact BW5.out))
  refine tkB (i := 0) ?_
  refine tkB (i := 3) ?_
  refine tkB (i := 4) ?_
  refine tkB (i := 5) ?_
  refine tkB (i := 6) ?_
  refine tkB (i := 7) ?_
  refine tkB (i := 8) ?_
  refine wpAnyH_ready (rs := [1, 2, 9]) (by kernel_rfl) (by simp) (AllReadyH.cons rfl (fun K hK => ?_) (AllReadyH.cons rfl (fun K hK => ?_) (AllReadyH.cons rfl (fun K hK => ?_) AllReadyH.nil)))
  ·
   go_simp
   refine hK.out _ _ ?_ (fun hHeld => ?_)
   ·
    (exact CE.out _ (by first | exact BW0.out | exact BW1.out | exact BW2.out | exact BW6.out | exact BW8.out | exact BW3.out | exact BW4.out | exact BW5.out))
   clear hK K
   try simp only [Act.put, tkS]
   refine wpAnyH_ready (rs := [2, 9]) (by kernel_rfl) (by simp) (AllReadyH.cons rfl (fun K hK => ?_) (AllReadyH.cons rfl (fun K hK => ?_) AllReadyH.nil))
   ·
    go_simp
    have bW2 : Below wr.heap.size wr (wr.alloc (.cells #[] 165)).drew := ((Below.refl _ _).alloc (Nat.le_refl _) _).drew
    have BW2 : Hid (Below w.heap.size w (wr.alloc (.cells #[] 165)).drew ∧ (wr.alloc (.cells #[] 165)).drew.heap[w.heap.size]? = some (.cells #[.string ⟨t.nm.toArray⟩, .slice ca t.cols.length cc, .slice ua t.uq.length uc, .bool t.rt] 75) ∧ (wr.alloc (.cells #[] 165)).drew.heap[w.heap.size + 1]? = some (.cells #[.int .i64 r.id, .slice ra r.cells.length rc] 81)) := (KB.out _ bW2).1
    have p2 := (KB.out _ bW2).2
    refine hK.out _ _ ?_ (fun hHeld => ?_)
    ·
     (exact CE.out _ (by first | exact BW0.out | exact BW1.out | exact BW2.out | exact BW6.out | exact BW8.out | exact BW3.out | exact BW4.out | exact BW5.out))
    clear hK K
    try simp only [Act.put, tkS]
    refine tkR (i := 9) (fun K hK => ?_)
    go_simp
    go_at_call 136
    refine (DF.out _ bW2).mono ?_
    rintro e w1 ⟨a1, c1, rfl, ho, hB⟩
    have bW1 : Below wr.heap.size wr w1 := bW2.trans (hB.mono bW2.size)
    have BW1 : Hid (Below w.heap.size w w1 ∧ w1.heap[w.heap.size]? = some (.cells #[.string ⟨t.nm.toArray⟩, .slice ca t.cols.length cc, .slice ua t.uq.length uc, .bool t.rt] 75) ∧ w1.heap[w.heap.size + 1]? = some (.cells #[.int .i64 r.id, .slice ra r.cells.length rc] 81)) := (KB.out _ bW1).1
    have p1 := (KB.out _ bW1).2
    refine hK.out _ _ ?_ (fun hHeld => ?_)
    ·
     (exact CE.out _ (by first | exact BW0.out | exact BW1.out | exact BW2.out | exact BW6.out | exact BW8.out | exact BW3.out | exact BW4.out | exact BW5.out))
    clear hK K
    try simp only [Act.put, tkS]
    refine tkR (i := 10) (fun K hK => ?_)
    obtain ⟨a8, c8, W2, hr8, hrd8, hB8⟩ := app_emptyA s wr.heap.size a1 c1 _ w1 117 HCK.out ho
    have bW8 : Below wr.heap.size wr W2 := bW1.trans (hB8.mono bW1.size)
    obtain ⟨a', c', W4, hr12, hst, o4, hk4⟩ := PU.out W2 a8 c8 bW8 (hrd8.mono (fun b hb => ⟨by have h1 := hb.1; have h2 := bW1.size; omega, hb.2⟩))
    have RUN10 := Lib.hid hr8
    have RUN12 := Lib.hid hr12
    have HST := Lib.hid hst
    have BW8 : Hid (Below w.heap.size w W2 ∧ W2.heap[w.heap.size]? = some (.cells #[.string ⟨t.nm.toArray⟩, .slice ca t.cols.length cc, .slice ua t.uq.length uc, .bool t.rt] 75) ∧ W2.heap[w.heap.size + 1]? = some (.cells #[.int .i64 r.id, .slice ra r.cells.length rc] 81)) := (KB.out _ bW8).1
    have p8 := (KB.out _ bW8).2
    have BW3 : Hid (Below w.heap.size w (W2.alloc (.cells #[.slice a8 s.length c8] 117)) ∧ (W2.alloc (.cells #[.slice a8 s.length c8] 117)).heap[w.heap.size]? = some (.cells #[.string ⟨t.nm.toArray⟩, .slice ca t.cols.length cc, .slice ua t.uq.length uc, .bool t.rt] 75) ∧ (W2.alloc (.cells #[.slice a8 s.length c8] 117)).heap[w.heap.size + 1]? = some (.cells #[.int .i64 r.id, .slice ra r.cells.length rc] 81)) := (KB.out _ (bW8.alloc bW8.size _)).1
    have p3 := (KB.out _ (bW8.alloc bW8.size (.cells #[.slice a8 s.length c8] 117))).2
    have BW4 : Hid (Below w.heap.size w W4 ∧ W4.heap[w.heap.size]? = some (.cells #[.string ⟨t.nm.toArray⟩, .slice ca t.cols.length cc, .slice ua t.uq.length uc, .bool t.rt] 75) ∧ W4.heap[w.heap.size + 1]? = some (.cells #[.int .i64 r.id, .slice ra r.cells.length rc] 81)) := hk4
    have BW5 : Hid (Below w.heap.size w (W4.setCell ⟨w.heap.size + 1 + 1 + 1 + 1, 1, none⟩ (.slice a' (k + 1) c')) ∧ (W4.setCell ⟨w.heap.size + 1 + 1 + 1 + 1, 1, none⟩ (.slice a' (k + 1) c')).heap[w.heap.size]? = some (.cells #[.string ⟨t.nm.toArray⟩, .slice ca t.cols.length cc, .slice ua t.uq.length uc, .bool t.rt] 75) ∧ (W4.setCell ⟨w.heap.size + 1 + 1 + 1 + 1, 1, none⟩ (.slice a' (k + 1) c')).heap[w.heap.size + 1]? = some (.cells #[.int .i64 r.id, .slice ra r.cells.length rc] 81)) := ⟨hst.bel, hst.bx 0 _ rfl, hst.bx 1 _ rfl⟩
    have t4 := cell_at (o := 1) o4 rfl
    have z4 := frozen_at 1 o4
    clear hr8 hrd8 hB8 hr12 hst o4 hk4 bW8
    refine step_append_is rfl (.tmp 21) (.tmp 28) 117 rfl _ _ (by rfl) (by rfl) _ _ RUN10.out ?_
    refine hK.out _ _ ?_ (fun hHeld => ?_)
    ·
     (exact CE.out _ (by first | exact BW0.out | exact BW1.out | exact BW2.out | exact BW6.out | exact BW8.out | exact BW3.out | exact BW4.out | exact BW5.out))
    clear hK K
    try simp only [Act.put, tkS]
    refine tkR (i := 11) (fun K hK => ?_)
    go_simp
    refine hK.out _ _ ?_ (fun hHeld => ?_)
    ·
     (exact CE.out _ (by first | exact BW0.out | exact BW1.out | exact BW2.out | exact BW6.out | exact BW8.out | exact BW3.out | exact BW4.out | exact BW5.out))
    clear hK K
    try simp only [Act.put, tkS]
    refine tkR (i := 12) (fun K hK => ?_)
    refine step_append_is rfl (.tmp 20) (.tmp 30) 79 rfl _ _ (by rfl) (by rfl) _ _ RUN12.out ?_
    refine hK.out _ _ ?_ (fun hHeld => ?_)
    ·
     (exact CE.out _ (by first | exact BW0.out | exact BW1.out | exact BW2.out | exact BW6.out | exact BW8.out | exact BW3.out | exact BW4.out | exact BW5.out))
    clear hK K
    try simp only [Act.put, tkS]
    refine tkB (i := 13) ?_
    refine tkR (i := 14) (fun K hK => ?_)
    go_simp
    refine hK.out _ _ ?_ (fun hHeld => ?_)
    ·
     (exact CE.out _ (by first | exact BW0.out | exact BW1.out | exact BW2.out | exact BW6.out | exact BW8.out | exact BW3.out | exact BW4.out | exact BW5.out))
    clear hK K
    try simp only [Act.put, tkS]
    refine wpAnyH_done (by kernel_rfl) ?_ _
    go_wp2_with fail
    go_roundw
    case rel => exact ⟨k + 1, by omega, by go_num, a', c', HST.out⟩
    case measure => simp [intOf]; omega
   ·
    go_simp
    go_at_call 136
    refine (DF.out _ (Below.refl _ _).drew).mono ?_
    rintro e w1 ⟨a1, c1, rfl, ho, hB⟩
    have bW1 : Below wr.heap.size wr w1 := (Below.refl _ _).drew.trans hB
    have BW1 : Hid (Below w.heap.size w w1 ∧ w1.heap[w.heap.size]? = some (.cells #[.string ⟨t.nm.toArray⟩, .slice ca t.cols.length cc, .slice ua t.uq.length uc, .bool t.rt] 75) ∧ w1.heap[w.heap.size + 1]? = some (.cells #[.int .i64 r.id, .slice ra r.cells.length rc] 81)) := (KB.out _ bW1).1
    have p1 := (KB.out _ bW1).2
    refine hK.out _ _ ?_ (fun hHeld => ?_)
    ·
     (exact CE.out _ (by first | exact BW0.out | exact BW1.out | exact BW2.out | exact BW6.out | exact BW8.out | exact BW3.out | exact BW4.out | exact BW5.out))
    clear hK K
    try simp only [Act.put, tkS]
    refine tkR (i := 2) (fun K hK => ?_)
    go_simp
    have bW6 : Below wr.heap.size wr (w1.alloc (.cells #[] 165)) := bW1.alloc bW1.size _
    have BW6 : Hid (Below w.heap.size w (w1.alloc (.cells #[] 165)) ∧ (w1.alloc (.cells #[] 165)).heap[w.heap.size]? = some (.cells #[.string ⟨t.nm.toArray⟩, .slice ca t.cols.length cc, .slice ua t.uq.length uc, .bool t.rt] 75) ∧ (w1.alloc (.cells #[] 165)).heap[w.heap.size + 1]? = some (.cells #[.int .i64 r.id, .slice ra r.cells.length rc] 81)) := (KB.out _ bW6).1
    have p6 := (KB.out _ bW6).2
    refine hK.out _ _ ?_ (fun hHeld => ?_)
    ·
     (exact CE.out _ (by first | exact BW0.out | exact BW1.out | exact BW2.out | exact BW6.out | exact BW8.out | exact BW3.out | exact BW4.out | exact BW5.out))
    clear hK K
    try simp only [Act.put, tkS]
    refine tkR (i := 10) (fun K hK => ?_)
    obtain ⟨a8, c8, W2, hr8, hrd8, hB8⟩ := app_emptyA s w1.heap.size a1 c1 _ (w1.alloc (.cells #[] 165)) 117 HCK.out (ho.later (below_allocD _ _))
    have bW8 : Below wr.heap.size wr W2 := bW6.trans (hB8.mono bW6.size)
    obtain ⟨a', c', W4, hr12, hst, o4, hk4⟩ := PU.out W2 a8 c8 bW8 (hrd8.mono (fun b hb => ⟨by have h1 := hb.1; have h2 := bW6.size; omega, hb.2⟩))
    have RUN10 := Lib.hid hr8
    have RUN12 := Lib.hid hr12
    have HST := Lib.hid hst
    have BW8 : Hid (Below w.heap.size w W2 ∧ W2.heap[w.heap.size]? = some (.cells #[.string ⟨t.nm.toArray⟩, .slice ca t.cols.length cc, .slice ua t.uq.length uc, .bool t.rt] 75) ∧ W2.heap[w.heap.size + 1]? = some (.cells #[.int .i64 r.id, .slice ra r.cells.length rc] 81)) := (KB.out _ bW8).1
    have p8 := (KB.out _ bW8).2
    have BW3 : Hid (Below w.heap.size w (W2.alloc (.cells #[.slice a8 s.length c8] 117)) ∧ (W2.alloc (.cells #[.slice a8 s.length c8] 117)).heap[w.heap.size]? = some (.cells #[.string ⟨t.nm.toArray⟩, .slice ca t.cols.length cc, .slice ua t.uq.length uc, .bool t.rt] 75) ∧ (W2.alloc (.cells #[.slice a8 s.length c8] 117)).heap[w.heap.size + 1]? = some (.cells #[.int .i64 r.id, .slice ra r.cells.length rc] 81)) := (KB.out _ (bW8.alloc bW8.size _)).1
    have p3 := (KB.out _ (bW8.alloc bW8.size (.cells #[.slice a8 s.length c8] 117))).2
    have BW4 : Hid (Below w.heap.size w W4 ∧ W4.heap[w.heap.size]? = some (.cells #[.string ⟨t.nm.toArray⟩, .slice ca t.cols.length cc, .slice ua t.uq.length uc, .bool t.rt] 75) ∧ W4.heap[w.heap.size + 1]? = some (.cells #[.int .i64 r.id, .slice ra r.cells.length rc] 81)) := hk4
    have BW5 : Hid (Below w.heap.size w (W4.setCell ⟨w.heap.size + 1 + 1 + 1 + 1, 1, none⟩ (.slice a' (k + 1) c')) ∧ (W4.setCell ⟨w.heap.size + 1 + 1 + 1 + 1, 1, none⟩ (.slice a' (k + 1) c')).heap[w.heap.size]? = some (.cells #[.string ⟨t.nm.toArray⟩, .slice ca t.cols.length cc, .slice ua t.uq.length uc, .bool t.rt] 75) ∧ (W4.setCell ⟨w.heap.size + 1 + 1 + 1 + 1, 1, none⟩ (.slice a' (k + 1) c')).heap[w.heap.size + 1]? = some (.cells #[.int .i64 r.id, .slice ra r.cells.length rc] 81)) := ⟨hst.bel, hst.bx 0 _ rfl, hst.bx 1 _ rfl⟩
    have t4 := cell_at (o := 1) o4 rfl
    have z4 := frozen_at 1 o4
    clear hr8 hrd8 hB8 hr12 hst o4 hk4 bW8
    refine step_append_is rfl (.tmp 21) (.tmp 28) 117 rfl _ _ (by rfl) (by rfl) _ _ RUN10.out ?_
    refine hK.out _ _ ?_ (fun hHeld => ?_)
    ·
     (exact CE.out _ (by first | exact BW0.out | exact BW1.out | exact BW2.out | exact BW6.out | exact BW8.out | exact BW3.out | exact BW4.out | exact BW5.out))
    clear hK K
    try simp only [Act.put, tkS]
    refine tkR (i := 11) (fun K hK => ?_)
    go_simp
    refine hK.out _ _ ?_ (fun hHeld => ?_)
    ·
     (exact CE.out _ (by first | exact BW0.out | exact BW1.out | exact BW2.out | exact BW6.out | exact BW8.out | exact BW3.out | exact BW4.out | exact BW5.out))
    clear hK K
    try simp only [Act.put, tkS]
    refine tkR (i := 12) (fun K hK => ?_)
    refine step_append_is rfl (.tmp 20) (.tmp 30) 79 rfl _ _ (by rfl) (by rfl) _ _ RUN12.out ?_
    refine hK.out _ _ ?_ (fun hHeld => ?_)
    ·
     (exact CE.out _ (by first | exact BW0.out | exact BW1.out | exact BW2.out | exact BW6.out | exact BW8.out | exact BW3.out | exact BW4.out | exact BW5.out))
    clear hK K
    try simp only [Act.put, tkS]
    refine tkB (i := 13) ?_
    refine tkR (i := 14) (fun K hK => ?_)
    go_simp
    refine hK.out _ _ ?_ (fun hHeld => ?_)
    ·
     (exact CE.out _ (by first | exact BW0.out | exact BW1.out | exact BW2.out | exact BW6.out | exact BW8.out | exact BW3.out | exact BW4.out | exact BW5.out))
    clear hK K
    try simp only [Act.put, tkS]
    refine wpAnyH_done (by kernel_rfl) ?_ _
    go_wp2_with fail
    go_roundw
    case rel => exact ⟨k + 1, by omega, by go_num, a', c', HST.out⟩
    case measure => simp [intOf]; omega
  ·
   go_simp
   have bW2 : Below wr.heap.size wr (wr.alloc (.cells #[] 165)).drew := ((Below.refl _ _).alloc (Nat.le_refl _) _).drew
   have BW2 : Hid (Below w.heap.size w (wr.alloc (.cells #[] 165)).drew ∧ (wr.alloc (.cells #[] 165)).drew.heap[w.heap.size]? = some (.cells #[.string ⟨t.nm.toArray⟩, .slice ca t.cols.length cc, .slice ua t.uq.length uc, .bool t.rt] 75) ∧ (wr.alloc (.cells #[] 165)).drew.heap[w.heap.size + 1]? = some (.cells #[.int .i64 r.id, .slice ra r.cells.length rc] 81)) := (KB.out _ bW2).1
   have p2 := (KB.out _ bW2).2
   refine hK.out _ _ ?_ (fun hHeld => ?_)
   ·
    (exact CE.out _ (by first | exact BW0.out | exact BW1.out | exact BW2.out | exact BW6.out | exact BW8.out | exact BW3.out | exact BW4.out | exact BW5.out))
   clear hK K
   try simp only [Act.put, tkS]
   refine wpAnyH_ready (rs := [1, 9]) (by kernel_rfl) (by simp) (AllReadyH.cons rfl (fun K hK => ?_) (AllReadyH.cons rfl (fun K hK => ?_) AllReadyH.nil))
   ·
    go_simp
    refine hK.out _ _ ?_ (fun hHeld => ?_)
    ·
     (exact CE.out _ (by first | exact BW0.out | exact BW1.out | exact BW2.out | exact BW6.out | exact BW8.out | exact BW3.out | exact BW4.out | exact BW5.out))
    clear hK K
    try simp only [Act.put, tkS]
    refine tkR (i := 9) (fun K hK => ?_)
    go_simp
    go_at_call 136
    refine (DF.out _ bW2).mono ?_
    rintro e w1 ⟨a1, c1, rfl, ho, hB⟩
    have bW1 : Below wr.heap.size wr w1 := bW2.trans (hB.mono bW2.size)
    have BW1 : Hid (Below w.heap.size w w1 ∧ w1.heap[w.heap.size]? = some (.cells #[.string ⟨t.nm.toArray⟩, .slice ca t.cols.length cc, .slice ua t.uq.length uc, .bool t.rt] 75) ∧ w1.heap[w.heap.size + 1]? = some (.cells #[.int .i64 r.id, .slice ra r.cells.length rc] 81)) := (KB.out _ bW1).1
    have p1 := (KB.out _ bW1).2
    refine hK.out _ _ ?_ (fun hHeld => ?_)
    ·
     (exact CE.out _ (by first | exact BW0.out | exact BW1.out | exact BW2.out | exact BW6.out | exact BW8.out | exact BW3.out | exact BW4.out | exact BW5.out))
    clear hK K
    try simp only [Act.put, tkS]
    refine tkR (i := 10) (fun K hK => ?_)
    obtain ⟨a8, c8, W2, hr8, hrd8, hB8⟩ := app_emptyA s wr.heap.size a1 c1 _ w1 117 HCK.out ho
    have bW8 : Below wr.heap.size wr W2 := bW1.trans (hB8.mono bW1.size)
    obtain ⟨a', c', W4, hr12, hst, o4, hk4⟩ := PU.out W2 a8 c8 bW8 (hrd8.mono (fun b hb => ⟨by have h1 := hb.1; have h2 := bW1.size; omega, hb.2⟩))
    have RUN10 := Lib.hid hr8
    have RUN12 := Lib.hid hr12
    have HST := Lib.hid hst
    have BW8 : Hid (Below w.heap.size w W2 ∧ W2.heap[w.heap.size]? = some (.cells #[.string ⟨t.nm.toArray⟩, .slice ca t.cols.length cc, .slice ua t.uq.length uc, .bool t.rt] 75) ∧ W2.heap[w.heap.size + 1]? = some (.cells #[.int .i64 r.id, .slice ra r.cells.length rc] 81)) := (KB.out _ bW8).1
    have p8 := (KB.out _ bW8).2
    have BW3 : Hid (Below w.heap.size w (W2.alloc (.cells #[.slice a8 s.length c8] 117)) ∧ (W2.alloc (.cells #[.slice a8 s.length c8] 117)).heap[w.heap.size]? = some (.cells #[.string ⟨t.nm.toArray⟩, .slice ca t.cols.length cc, .slice ua t.uq.length uc, .bool t.rt] 75) ∧ (W2.alloc (.cells #[.slice a8 s.length c8] 117)).heap[w.heap.size + 1]? = some (.cells #[.int .i64 r.id, .slice ra r.cells.length rc] 81)) := (KB.out _ (bW8.alloc bW8.size _)).1
    have p3 := (KB.out _ (bW8.alloc bW8.size (.cells #[.slice a8 s.length c8] 117))).2
    have BW4 : Hid (Below w.heap.size w W4 ∧ W4.heap[w.heap.size]? = some (.cells #[.string ⟨t.nm.toArray⟩, .slice ca t.cols.length cc, .slice ua t.uq.length uc, .bool t.rt] 75) ∧ W4.heap[w.heap.size + 1]? = some (.cells #[.int .i64 r.id, .slice ra r.cells.length rc] 81)) := hk4
    have BW5 : Hid (Below w.heap.size w (W4.setCell ⟨w.heap.size + 1 + 1 + 1 + 1, 1, none⟩ (.slice a' (k + 1) c')) ∧ (W4.setCell ⟨w.heap.size + 1 + 1 + 1 + 1, 1, none⟩ (.slice a' (k + 1) c')).heap[w.heap.size]? = some (.cells #[.string ⟨t.nm.toArray⟩, .slice ca t.cols.length cc, .slice ua t.uq.length uc, .bool t.rt] 75) ∧ (W4.setCell ⟨w.heap.size + 1 + 1 + 1 + 1, 1, none⟩ (.slice a' (k + 1) c')).heap[w.heap.size + 1]? = some (.cells #[.int .i64 r.id, .slice ra r.cells.length rc] 81)) := ⟨hst.bel, hst.bx 0 _ rfl, hst.bx 1 _ rfl⟩
    have t4 := cell_at (o := 1) o4 rfl
    have z4 := frozen_at 1 o4
    clear hr8 hrd8 hB8 hr12 hst o4 hk4 bW8
    refine step_append_is rfl (.tmp 21) (.tmp 28) 117 rfl _ _ (by rfl) (by rfl) _ _ RUN10.out ?_
    refine hK.out _ _ ?_ (fun hHeld => ?_)
    ·
     (exact CE.out _ (by first | exact BW0.out | exact BW1.out | exact BW2.out | exact BW6.out | exact BW8.out | exact BW3.out | exact BW4.out | exact BW5.out))
    clear hK K
    try simp only [Act.put, tkS]
    refine tkR (i := 11) (fun K hK => ?_)
    go_simp
    refine hK.out _ _ ?_ (fun hHeld => ?_)
    ·
     (exact CE.out _ (by first | exact BW0.out | exact BW1.out | exact BW2.out | exact BW6.out | exact BW8.out | exact BW3.out | exact BW4.out | exact BW5.out))
    clear hK K
    try simp only [Act.put, tkS]
    refine tkR (i := 12) (fun K hK => ?_)
    refine step_append_is rfl (.tmp 20) (.tmp 30) 79 rfl _ _ (by rfl) (by rfl) _ _ RUN12.out ?_
    refine hK.out _ _ ?_ (fun hHeld => ?_)
    ·
     (exact CE.out _ (by first | exact BW0.out | exact BW1.out | exact BW2.out | exact BW6.out | exact BW8.out | exact BW3.out | exact BW4.out | exact BW5.out))
    clear hK K
    try simp only [Act.put, tkS]
    refine tkB (i := 13) ?_
    refine tkR (i := 14) (fun K hK => ?_)
    go_simp
    refine hK.out _ _ ?_ (fun hHeld => ?_)
    ·
     (exact CE.out _ (by first | exact BW0.out | exact BW1.out | exact BW2.out | exact BW6.out | exact BW8.out | exact BW3.out | exact BW4.out | exact BW5.out))
    clear hK K
    try simp only [Act.put, tkS]
    refine wpAnyH_done (by kernel_rfl) ?_ _
    go_wp2_with fail
    go_roundw
    case rel => exact ⟨k + 1, by omega, by go_num, a', c', HST.out⟩
    case measure => simp [intOf]; omega
   ·
    go_simp
    go_at_call 136
    refine (DF.out _ bW2).mono ?_
    rintro e w1 ⟨a1, c1, rfl, ho, hB⟩
    have bW1 : Below wr.heap.size wr w1 := bW2.trans (hB.mono bW2.size)
    have BW1 : Hid (Below w.heap.size w w1 ∧ w1.heap[w.heap.size]? = some (.cells #[.string ⟨t.nm.toArray⟩, .slice ca t.cols.length cc, .slice ua t.uq.length uc, .bool t.rt] 75) ∧ w1.heap[w.heap.size + 1]? = some (.cells #[.int .i64 r.id, .slice ra r.cells.length rc] 81)) := (KB.out _ bW1).1
    have p1 := (KB.out _ bW1).2
    refine hK.out _ _ ?_ (fun hHeld => ?_)
    ·
     (exact CE.out _ (by first | exact BW0.out | exact BW1.out | exact BW2.out | exact BW6.out | exact BW8.out | exact BW3.out | exact BW4.out | exact BW5.out))
    clear hK K
    try simp only [Act.put, tkS]
    refine wpAnyH_ready (rs := [1, 10]) (by kernel_rfl) (by simp) (AllReadyH.cons rfl (fun K hK => ?_) (AllReadyH.cons rfl (fun K hK => ?_) AllReadyH.nil))
    ·
     go_simp
     refine hK.out _ _ ?_ (fun hHeld => ?_)
     ·
      (exact CE.out _ (by first | exact BW0.out | exact BW1.out | exact BW2.out | exact BW6.out | exact BW8.out | exact BW3.out | exact BW4.out | exact BW5.out))
     clear hK K
     try simp only [Act.put, tkS]
     refine tkR (i := 10) (fun K hK => ?_)
     obtain ⟨a8, c8, W2, hr8, hrd8, hB8⟩ := app_emptyA s wr.heap.size a1 c1 _ w1 117 HCK.out ho
     have bW8 : Below wr.heap.size wr W2 := bW1.trans (hB8.mono bW1.size)
     obtain ⟨a', c', W4, hr12, hst, o4, hk4⟩ := PU.out W2 a8 c8 bW8 (hrd8.mono (fun b hb => ⟨by have h1 := hb.1; have h2 := bW1.size; omega, hb.2⟩))
     have RUN10 := Lib.hid hr8
     have RUN12 := Lib.hid hr12
     have HST := Lib.hid hst
     have BW8 : Hid (Below w.heap.size w W2 ∧ W2.heap[w.heap.size]? = some (.cells #[.string ⟨t.nm.toArray⟩, .slice ca t.cols.length cc, .slice ua t.uq.length uc, .bool t.rt] 75) ∧ W2.heap[w.heap.size + 1]? = some (.cells #[.int .i64 r.id, .slice ra r.cells.length rc] 81)) := (KB.out _ bW8).1
     have p8 := (KB.out _ bW8).2
     have BW3 : Hid (Below w.heap.size w (W2.alloc (.cells #[.slice a8 s.length c8] 117)) ∧ (W2.alloc (.cells #[.slice a8 s.length c8] 117)).heap[w.heap.size]? = some (.cells #[.string ⟨t.nm.toArray⟩, .slice ca t.cols.length cc, .slice ua t.uq.length uc, .bool t.rt] 75) ∧ (W2.alloc (.cells #[.slice a8 s.length c8] 117)).heap[w.heap.size + 1]? = some (.cells #[.int .i64 r.id, .slice ra r.cells.length rc] 81)) := (KB.out _ (bW8.alloc bW8.size _)).1
     have p3 := (KB.out _ (bW8.alloc bW8.size (.cells #[.slice a8 s.length c8] 117))).2
     have BW4 : Hid (Below w.heap.size w W4 ∧ W4.heap[w.heap.size]? = some (.cells #[.string ⟨t.nm.toArray⟩, .slice ca t.cols.length cc, .slice ua t.uq.length uc, .bool t.rt] 75) ∧ W4.heap[w.heap.size + 1]? = some (.cells #[.int .i64 r.id, .slice ra r.cells.length rc] 81)) := hk4
     have BW5 : Hid (Below w.heap.size w (W4.setCell ⟨w.heap.size + 1 + 1 + 1 + 1, 1, none⟩ (.slice a' (k + 1) c')) ∧ (W4.setCell ⟨w.heap.size + 1 + 1 + 1 + 1, 1, none⟩ (.slice a' (k + 1) c')).heap[w.heap.size]? = some (.cells #[.string ⟨t.nm.toArray⟩, .slice ca t.cols.length cc, .slice ua t.uq.length uc, .bool t.rt] 75) ∧ (W4.setCell ⟨w.heap.size + 1 + 1 + 1 + 1, 1, none⟩ (.slice a' (k + 1) c')).heap[w.heap.size + 1]? = some (.cells #[.int .i64 r.id, .slice ra r.cells.length rc] 81)) := ⟨hst.bel, hst.bx 0 _ rfl, hst.bx 1 _ rfl⟩
     have t4 := cell_at (o := 1) o4 rfl
     have z4 := frozen_at 1 o4
     clear hr8 hrd8 hB8 hr12 hst o4 hk4 bW8
     refine step_append_is rfl (.tmp 21) (.tmp 28) 117 rfl _ _ (by rfl) (by rfl) _ _ RUN10.out ?_
     refine hK.out _ _ ?_ (fun hHeld => ?_)
     ·
      (exact CE.out _ (by first | exact BW0.out | exact BW1.out | exact BW2.out | exact BW6.out | exact BW8.out | exact BW3.out | exact BW4.out | exact BW5.out))
     clear hK K
     try simp only [Act.put, tkS]
     refine tkR (i := 11) (fun K hK => ?_)
     go_simp
     refine hK.out _ _ ?_ (fun hHeld => ?_)
     ·
      (exact CE.out _ (by first | exact BW0.out | exact BW1.out | exact BW2.out | exact BW6.out | exact BW8.out | exact BW3.out | exact BW4.out | exact BW5.out))
     clear hK K
     try simp only [Act.put, tkS]
     refine tkR (i := 12) (fun K hK => ?_)
     refine step_append_is rfl (.tmp 20) (.tmp 30) 79 rfl _ _ (by rfl) (by rfl) _ _ RUN12.out ?_
     refine hK.out _ _ ?_ (fun hHeld => ?_)
     ·
      (exact CE.out _ (by first | exact BW0.out | exact BW1.out | exact BW2.out | exact BW6.out | exact BW8.out | exact BW3.out | exact BW4.out | exact BW5.out))
     clear hK K
     try simp only [Act.put, tkS]
     refine tkB (i := 13) ?_
     refine tkR (i := 14) (fun K hK => ?_)
     go_simp
     refine hK.out _ _ ?_ (fun hHeld => ?_)
     ·
      (exact CE.out _ (by first | exact BW0.out | exact BW1.out | exact BW2.out | exact BW6.out | exact BW8.out | exact BW3.out | exact BW4.out | exact BW5.out))
     clear hK K
     try simp only [Act.put, tkS]
     refine wpAnyH_done (by kernel_rfl) ?_ _
     go_wp2_with fail
     go_roundw
     case rel => exact ⟨k + 1, by omega, by go_num, a', c', HST.out⟩
     case measure => simp [intOf]; omega
    ·
     obtain ⟨a8, c8, W2, hr8, hrd8, hB8⟩ := app_emptyA s wr.heap.size a1 c1 _ w1 117 HCK.out ho
     have bW8 : Below wr.heap.size wr W2 := bW1.trans (hB8.mono bW1.size)
     obtain ⟨a', c', W4, hr12, hst, o4, hk4⟩ := PU.out W2 a8 c8 bW8 (hrd8.mono (fun b hb => ⟨by have h1 := hb.1; have h2 := bW1.size; omega, hb.2⟩))
     have RUN10 := Lib.hid hr8
     have RUN12 := Lib.hid hr12
     have HST := Lib.hid hst
     have BW8 : Hid (Below w.heap.size w W2 ∧ W2.heap[w.heap.size]? = some (.cells #[.string ⟨t.nm.toArray⟩, .slice ca t.cols.length cc, .slice ua t.uq.length uc, .bool t.rt] 75) ∧ W2.heap[w.heap.size + 1]? = some (.cells #[.int .i64 r.id, .slice ra r.cells.length rc] 81)) := (KB.out _ bW8).1
     have p8 := (KB.out _ bW8).2
     have BW3 : Hid (Below w.heap.size w (W2.alloc (.cells #[.slice a8 s.length c8] 117)) ∧ (W2.alloc (.cells #[.slice a8 s.length c8] 117)).heap[w.heap.size]? = some (.cells #[.string ⟨t.nm.toArray⟩, .slice ca t.cols.length cc, .slice ua t.uq.length uc, .bool t.rt] 75) ∧ (W2.alloc (.cells #[.slice a8 s.length c8] 117)).heap[w.heap.size + 1]? = some (.cells #[.int .i64 r.id, .slice ra r.cells.length rc] 81)) := (KB.out _ (bW8.alloc bW8.size _)).1
     have p3 := (KB.out _ (bW8.alloc bW8.size (.cells #[.slice a8 s.length c8] 117))).2
     have BW4 : Hid (Below w.heap.size w W4 ∧ W4.heap[w.heap.size]? = some (.cells #[.string ⟨t.nm.toArray⟩, .slice ca t.cols.length cc, .slice ua t.uq.length uc, .bool t.rt] 75) ∧ W4.heap[w.heap.size + 1]? = some (.cells #[.int .i64 r.id, .slice ra r.cells.length rc] 81)) := hk4
     have BW5 : Hid (Below w.heap.size w (W4.setCell ⟨w.heap.size + 1 + 1 + 1 + 1, 1, none⟩ (.slice a' (k + 1) c')) ∧ (W4.setCell ⟨w.heap.size + 1 + 1 + 1 + 1, 1, none⟩ (.slice a' (k + 1) c')).heap[w.heap.size]? = some (.cells #[.string ⟨t.nm.toArray⟩, .slice ca t.cols.length cc, .slice ua t.uq.length uc, .bool t.rt] 75) ∧ (W4.setCell ⟨w.heap.size + 1 + 1 + 1 + 1, 1, none⟩ (.slice a' (k + 1) c')).heap[w.heap.size + 1]? = some (.cells #[.int .i64 r.id, .slice ra r.cells.length rc] 81)) := ⟨hst.bel, hst.bx 0 _ rfl, hst.bx 1 _ rfl⟩
     have t4 := cell_at (o := 1) o4 rfl
     have z4 := frozen_at 1 o4
     clear hr8 hrd8 hB8 hr12 hst o4 hk4 bW8
     refine step_append_is rfl (.tmp 21) (.tmp 28) 117 rfl _ _ (by rfl) (by rfl) _ _ RUN10.out ?_
     refine hK.out _ _ ?_ (fun hHeld => ?_)
     ·
      (exact CE.out _ (by first | exact BW0.out | exact BW1.out | exact BW2.out | exact BW6.out | exact BW8.out | exact BW3.out | exact BW4.out | exact BW5.out))
     clear hK K
     try simp only [Act.put, tkS]
     refine wpAnyH_ready (rs := [1, 11]) (by kernel_rfl) (by simp) (AllReadyH.cons rfl (fun K hK => ?_) (AllReadyH.cons rfl (fun K hK => ?_) AllReadyH.nil))
     ·
      go_simp
      refine hK.out _ _ ?_ (fun hHeld => ?_)
      ·
       (exact CE.out _ (by first | exact BW0.out | exact BW1.out | exact BW2.out | exact BW6.out | exact BW8.out | exact BW3.out | exact BW4.out | exact BW5.out))
      clear hK K
      try simp only [Act.put, tkS]
      refine tkR (i := 11) (fun K hK => ?_)
      go_simp
      refine hK.out _ _ ?_ (fun hHeld => ?_)
      ·
       (exact CE.out _ (by first | exact BW0.out | exact BW1.out | exact BW2.out | exact BW6.out | exact BW8.out | exact BW3.out | exact BW4.out | exact BW5.out))
      clear hK K
      try simp only [Act.put, tkS]
      refine tkR (i := 12) (fun K hK => ?_)
      refine step_append_is rfl (.tmp 20) (.tmp 30) 79 rfl _ _ (by rfl) (by rfl) _ _ RUN12.out ?_
      refine hK.out _ _ ?_ (fun hHeld => ?_)
      ·
       (exact CE.out _ (by first | exact BW0.out | exact BW1.out | exact BW2.out | exact BW6.out | exact BW8.out | exact BW3.out | exact BW4.out | exact BW5.out))
      clear hK K
      try simp only [Act.put, tkS]
      refine tkB (i := 13) ?_
      refine tkR (i := 14) (fun K hK => ?_)
      go_simp
      refine hK.out _ _ ?_ (fun hHeld => ?_)
      ·
       (exact CE.out _ (by first | exact BW0.out | exact BW1.out | exact BW2.out | exact BW6.out | exact BW8.out | exact BW3.out | exact BW4.out | exact BW5.out))
      clear hK K
      try simp only [Act.put, tkS]
      refine wpAnyH_done (by kernel_rfl) ?_ _
      go_wp2_with fail
      go_roundw
      case rel => exact ⟨k + 1, by omega, by go_num, a', c', HST.out⟩
      case measure => simp [intOf]; omega
     ·
      go_simp
      refine hK.out _ _ ?_ (fun hHeld => ?_)
      ·
       (exact CE.out _ (by first | exact BW0.out | exact BW1.out | exact BW2.out | exact BW6.out | exact BW8.out | exact BW3.out | exact BW4.out | exact BW5.out))
      clear hK K
      try simp only [Act.put, tkS]
      refine tkR (i := 1) (fun K hK => ?_)
      go_simp
      refine hK.out _ _ ?_ (fun hHeld => ?_)
      ·
       (exact CE.out _ (by first | exact BW0.out | exact BW1.out | exact BW2.out | exact BW6.out | exact BW8.out | exact BW3.out | exact BW4.out | exact BW5.out))
      clear hK K
      try simp only [Act.put, tkS]
      refine tkR (i := 12) (fun K hK => ?_)
      refine step_append_is rfl (.tmp 20) (.tmp 30) 79 rfl _ _ (by rfl) (by rfl) _ _ RUN12.out ?_
      refine hK.out _ _ ?_ (fun hHeld => ?_)
      ·
       (exact CE.out _ (by first | exact BW0.out | exact BW1.out | exact BW2.out | exact BW6.out | exact BW8.out | exact BW3.out | exact BW4.out | exact BW5.out))
      clear hK K
      try simp only [Act.put, tkS]
      refine tkB (i := 13) ?_
      refine tkR (i := 14) (fun K hK => ?_)
      go_simp
      refine hK.out _ _ ?_ (fun hHeld => ?_)
      ·
       (exact CE.out _ (by first | exact BW0.out | exact BW1.out | exact BW2.out | exact BW6.out | exact BW8.out | exact BW3.out | exact BW4.out | exact BW5.out))
      clear hK K
      try simp only [Act.put, tkS]
      refine wpAnyH_done (by kernel_rfl) ?_ _
      go_wp2_with fail
      go_roundw
      case rel => exact ⟨k + 1, by omega, by go_num, a', c', HST.out⟩
      case measure => simp [intOf]; omega
  ·
   go_simp
   go_at_call 136
   refine (DF.out _ (Below.refl _ _).drew).mono ?_
   rintro e w1 ⟨a1, c1, rfl, ho, hB⟩
   have bW1 : Below wr.heap.size wr w1 := (Below.refl _ _).drew.trans hB
   have BW1 : Hid (Below w.heap.size w w1 ∧ w1.heap[w.heap.size]? = some (.cells #[.string ⟨t.nm.toArray⟩, .slice ca t.cols.length cc, .slice ua t.uq.length uc, .bool t.rt] 75) ∧ w1.heap[w.heap.size + 1]? = some (.cells #[.int .i64 r.id, .slice ra r.cells.length rc] 81)) := (KB.out _ bW1).1
   have p1 := (KB.out _ bW1).2
   refine hK.out _ _ ?_ (fun hHeld => ?_)
   ·
    (exact CE.out _ (by first | exact BW0.out | exact BW1.out | exact BW2.out | exact BW6.out | exact BW8.out | exact BW3.out | exact BW4.out | exact BW5.out))
   clear hK K
   try simp only [Act.put, tkS]
   refine wpAnyH_ready (rs := [1, 2]) (by kernel_rfl) (by simp) (AllReadyH.cons rfl (fun K hK => ?_) (AllReadyH.cons rfl (fun K hK => ?_) AllReadyH.nil))
   ·
    go_simp
    refine hK.out _ _ ?_ (fun hHeld => ?_)
    ·
     (exact CE.out _ (by first | exact BW0.out | exact BW1.out | exact BW2.out | exact BW6.out | exact BW8.out | exact BW3.out | exact BW4.out | exact BW5.out))
    clear hK K
    try simp only [Act.put, tkS]
    refine tkR (i := 2) (fun K hK => ?_)
    go_simp
    have bW6 : Below wr.heap.size wr (w1.alloc (.cells #[] 165)) := bW1.alloc bW1.size _
    have BW6 : Hid (Below w.heap.size w (w1.alloc (.cells #[] 165)) ∧ (w1.alloc (.cells #[] 165)).heap[w.heap.size]? = some (.cells #[.string ⟨t.nm.toArray⟩, .slice ca t.cols.length cc, .slice ua t.uq.length uc, .bool t.rt] 75) ∧ (w1.alloc (.cells #[] 165)).heap[w.heap.size + 1]? = some (.cells #[.int .i64 r.id, .slice ra r.cells.length rc] 81)) := (KB.out _ bW6).1
    have p6 := (KB.out _ bW6).2
    refine hK.out _ _ ?_ (fun hHeld => ?_)
    ·
     (exact CE.out _ (by first | exact BW0.out | exact BW1.out | exact BW2.out | exact BW6.out | exact BW8.out | exact BW3.out | exact BW4.out | exact BW5.out))
    clear hK K
    try simp only [Act.put, tkS]
    refine tkR (i := 10) (fun K hK => ?_)
    obtain ⟨a8, c8, W2, hr8, hrd8, hB8⟩ := app_emptyA s w1.heap.size a1 c1 _ (w1.alloc (.cells #[] 165)) 117 HCK.out (ho.later (below_allocD _ _))
    have bW8 : Below wr.heap.size wr W2 := bW6.trans (hB8.mono bW6.size)
    obtain ⟨a', c', W4, hr12, hst, o4, hk4⟩ := PU.out W2 a8 c8 bW8 (hrd8.mono (fun b hb => ⟨by have h1 := hb.1; have h2 := bW6.size; omega, hb.2⟩))
    have RUN10 := Lib.hid hr8
    have RUN12 := Lib.hid hr12
    have HST := Lib.hid hst
    have BW8 : Hid (Below w.heap.size w W2 ∧ W2.heap[w.heap.size]? = some (.cells #[.string ⟨t.nm.toArray⟩, .slice ca t.cols.length cc, .slice ua t.uq.length uc, .bool t.rt] 75) ∧ W2.heap[w.heap.size + 1]? = some (.cells #[.int .i64 r.id, .slice ra r.cells.length rc] 81)) := (KB.out _ bW8).1
    have p8 := (KB.out _ bW8).2
    have BW3 : Hid (Below w.heap.size w (W2.alloc (.cells #[.slice a8 s.length c8] 117)) ∧ (W2.alloc (.cells #[.slice a8 s.length c8] 117)).heap[w.heap.size]? = some (.cells #[.string ⟨t.nm.toArray⟩, .slice ca t.cols.length cc, .slice ua t.uq.length uc, .bool t.rt] 75) ∧ (W2.alloc (.cells #[.slice a8 s.length c8] 117)).heap[w.heap.size + 1]? = some (.cells #[.int .i64 r.id, .slice ra r.cells.length rc] 81)) := (KB.out _ (bW8.alloc bW8.size _)).1
    have p3 := (KB.out _ (bW8.alloc bW8.size (.cells #[.slice a8 s.length c8] 117))).2
    have BW4 : Hid (Below w.heap.size w W4 ∧ W4.heap[w.heap.size]? = some (.cells #[.string ⟨t.nm.toArray⟩, .slice ca t.cols.length cc, .slice ua t.uq.length uc, .bool t.rt] 75) ∧ W4.heap[w.heap.size + 1]? = some (.cells #[.int .i64 r.id, .slice ra r.cells.length rc] 81)) := hk4
    have BW5 : Hid (Below w.heap.size w (W4.setCell ⟨w.heap.size + 1 + 1 + 1 + 1, 1, none⟩ (.slice a' (k + 1) c')) ∧ (W4.setCell ⟨w.heap.size + 1 + 1 + 1 + 1, 1, none⟩ (.slice a' (k + 1) c')).heap[w.heap.size]? = some (.cells #[.string ⟨t.nm.toArray⟩, .slice ca t.cols.length cc, .slice ua t.uq.length uc, .bool t.rt] 75) ∧ (W4.setCell ⟨w.heap.size + 1 + 1 + 1 + 1, 1, none⟩ (.slice a' (k + 1) c')).heap[w.heap.size + 1]? = some (.cells #[.int .i64 r.id, .slice ra r.cells.length rc] 81)) := ⟨hst.bel, hst.bx 0 _ rfl, hst.bx 1 _ rfl⟩
    have t4 := cell_at (o := 1) o4 rfl
    have z4 := frozen_at 1 o4
    clear hr8 hrd8 hB8 hr12 hst o4 hk4 bW8
    refine step_append_is rfl (.tmp 21) (.tmp 28) 117 rfl _ _ (by rfl) (by rfl) _ _ RUN10.out ?_
    refine hK.out _ _ ?_ (fun hHeld => ?_)
    ·
     (exact CE.out _ (by first | exact BW0.out | exact BW1.out | exact BW2.out | exact BW6.out | exact BW8.out | exact BW3.out | exact BW4.out | exact BW5.out))
    clear hK K
    try simp only [Act.put, tkS]
    refine tkR (i := 11) (fun K hK => ?_)
    go_simp
    refine hK.out _ _ ?_ (fun hHeld => ?_)
    ·
     (exact CE.out _ (by first | exact BW0.out | exact BW1.out | exact BW2.out | exact BW6.out | exact BW8.out | exact BW3.out | exact BW4.out | exact BW5.out))
    clear hK K
    try simp only [Act.put, tkS]
    refine tkR (i := 12) (fun K hK => ?_)
    refine step_append_is rfl (.tmp 20) (.tmp 30) 79 rfl _ _ (by rfl) (by rfl) _ _ RUN12.out ?_
    refine hK.out _ _ ?_ (fun hHeld => ?_)
    ·
     (exact CE.out _ (by first | exact BW0.out | exact BW1.out | exact BW2.out | exact BW6.out | exact BW8.out | exact BW3.out | exact BW4.out | exact BW5.out))
    clear hK K
    try simp only [Act.put, tkS]
    refine tkB (i := 13) ?_
    refine tkR (i := 14) (fun K hK => ?_)
    go_simp
    refine hK.out _ _ ?_ (fun hHeld => ?_)
    ·
     (exact CE.out _ (by first | exact BW0.out | exact BW1.out | exact BW2.out | exact BW6.out | exact BW8.out | exact BW3.out | exact BW4.out | exact BW5.out))
    clear hK K
    try simp only [Act.put, tkS]
    refine wpAnyH_done (by kernel_rfl) ?_ _
    go_wp2_with fail
    go_roundw
    case rel => exact ⟨k + 1, by omega, by go_num, a', c', HST.out⟩
    case measure => simp [intOf]; omega
   ·
    go_simp
    have bW6 : Below wr.heap.size wr (w1.alloc (.cells #[] 165)) := bW1.alloc bW1.size _
    have BW6 : Hid (Below w.heap.size w (w1.alloc (.cells #[] 165)) ∧ (w1.alloc (.cells #[] 165)).heap[w.heap.size]? = some (.cells #[.string ⟨t.nm.toArray⟩, .slice ca t.cols.length cc, .slice ua t.uq.length uc, .bool t.rt] 75) ∧ (w1.alloc (.cells #[] 165)).heap[w.heap.size + 1]? = some (.cells #[.int .i64 r.id, .slice ra r.cells.length rc] 81)) := (KB.out _ bW6).1
    have p6 := (KB.out _ bW6).2
    refine hK.out _ _ ?_ (fun hHeld => ?_)
    ·
     (exact CE.out _ (by first | exact BW0.out | exact BW1.out | exact BW2.out | exact BW6.out | exact BW8.out | exact BW3.out | exact BW4.out | exact BW5.out))
    clear hK K
    try simp only [Act.put, tkS]
    refine wpAnyH_ready (rs := [1, 10]) (by kernel_rfl) (by simp) (AllReadyH.cons rfl (fun K hK => ?_) (AllReadyH.cons rfl (fun K hK => ?_) AllReadyH.nil))
    ·
     go_simp
     refine hK.out _ _ ?_ (fun hHeld => ?_)
     ·
      (exact CE.out _ (by first | exact BW0.out | exact BW1.out | exact BW2.out | exact BW6.out | exact BW8.out | exact BW3.out | exact BW4.out | exact BW5.out))
     clear hK K
     try simp only [Act.put, tkS]
     refine tkR (i := 10) (fun K hK => ?_)
     obtain ⟨a8, c8, W2, hr8, hrd8, hB8⟩ := app_emptyA s w1.heap.size a1 c1 _ (w1.alloc (.cells #[] 165)) 117 HCK.out (ho.later (below_allocD _ _))
     have bW8 : Below wr.heap.size wr W2 := bW6.trans (hB8.mono bW6.size)
     obtain ⟨a', c', W4, hr12, hst, o4, hk4⟩ := PU.out W2 a8 c8 bW8 (hrd8.mono (fun b hb => ⟨by have h1 := hb.1; have h2 := bW6.size; omega, hb.2⟩))
     have RUN10 := Lib.hid hr8
     have RUN12 := Lib.hid hr12
     have HST := Lib.hid hst
     have BW8 : Hid (Below w.heap.size w W2 ∧ W2.heap[w.heap.size]? = some (.cells #[.string ⟨t.nm.toArray⟩, .slice ca t.cols.length cc, .slice ua t.uq.length uc, .bool t.rt] 75) ∧ W2.heap[w.heap.size + 1]? = some (.cells #[.int .i64 r.id, .slice ra r.cells.length rc] 81)) := (KB.out _ bW8).1
     have p8 := (KB.out _ bW8).2
     have BW3 : Hid (Below w.heap.size w (W2.alloc (.cells #[.slice a8 s.length c8] 117)) ∧ (W2.alloc (.cells #[.slice a8 s.length c8] 117)).heap[w.heap.size]? = some (.cells #[.string ⟨t.nm.toArray⟩, .slice ca t.cols.length cc, .slice ua t.uq.length uc, .bool t.rt] 75) ∧ (W2.alloc (.cells #[.slice a8 s.length c8] 117)).heap[w.heap.size + 1]? = some (.cells #[.int .i64 r.id, .slice ra r.cells.length rc] 81)) := (KB.out _ (bW8.alloc bW8.size _)).1
     have p3 := (KB.out _ (bW8.alloc bW8.size (.cells #[.slice a8 s.length c8] 117))).2
     have BW4 : Hid (Below w.heap.size w W4 ∧ W4.heap[w.heap.size]? = some (.cells #[.string ⟨t.nm.toArray⟩, .slice ca t.cols.length cc, .slice ua t.uq.length uc, .bool t.rt] 75) ∧ W4.heap[w.heap.size + 1]? = some (.cells #[.int .i64 r.id, .slice ra r.cells.length rc] 81)) := hk4
     have BW5 : Hid (Below w.heap.size w (W4.setCell ⟨w.heap.size + 1 + 1 + 1 + 1, 1, none⟩ (.slice a' (k + 1) c')) ∧ (W4.setCell ⟨w.heap.size + 1 + 1 + 1 + 1, 1, none⟩ (.slice a' (k + 1) c')).heap[w.heap.size]? = some (.cells #[.string ⟨t.nm.toArray⟩, .slice ca t.cols.length cc, .slice ua t.uq.length uc, .bool t.rt] 75) ∧ (W4.setCell ⟨w.heap.size + 1 + 1 + 1 + 1, 1, none⟩ (.slice a' (k + 1) c')).heap[w.heap.size + 1]? = some (.cells #[.int .i64 r.id, .slice ra r.cells.length rc] 81)) := ⟨hst.bel, hst.bx 0 _ rfl, hst.bx 1 _ rfl⟩
     have t4 := cell_at (o := 1) o4 rfl
     have z4 := frozen_at 1 o4
     clear hr8 hrd8 hB8 hr12 hst o4 hk4 bW8
     refine step_append_is rfl (.tmp 21) (.tmp 28) 117 rfl _ _ (by rfl) (by rfl) _ _ RUN10.out ?_
     refine hK.out _ _ ?_ (fun hHeld => ?_)
     ·
      (exact CE.out _ (by first | exact BW0.out | exact BW1.out | exact BW2.out | exact BW6.out | exact BW8.out | exact BW3.out | exact BW4.out | exact BW5.out))
     clear hK K
     try simp only [Act.put, tkS]
     refine tkR (i := 11) (fun K hK => ?_)
     go_simp
     refine hK.out _ _ ?_ (fun hHeld => ?_)
     ·
      (exact CE.out _ (by first | exact BW0.out | exact BW1.out | exact BW2.out | exact BW6.out | exact BW8.out | exact BW3.out | exact BW4.out | exact BW5.out))
     clear hK K
     try simp only [Act.put, tkS]
     refine tkR (i := 12) (fun K hK => ?_)
     refine step_append_is rfl (.tmp 20) (.tmp 30) 79 rfl _ _ (by rfl) (by rfl) _ _ RUN12.out ?_
     refine hK.out _ _ ?_ (fun hHeld => ?_)
     ·
      (exact CE.out _ (by first | exact BW0.out | exact BW1.out | exact BW2.out | exact BW6.out | exact BW8.out | exact BW3.out | exact BW4.out | exact BW5.out))
     clear hK K
     try simp only [Act.put, tkS]
     refine tkB (i := 13) ?_
     refine tkR (i := 14) (fun K hK => ?_)
     go_simp
     refine hK.out _ _ ?_ (fun hHeld => ?_)
     ·
      (exact CE.out _ (by first | exact BW0.out | exact BW1.out | exact BW2.out | exact BW6.out | exact BW8.out | exact BW3.out | exact BW4.out | exact BW5.out))
     clear hK K
     try simp only [Act.put, tkS]
     refine wpAnyH_done (by kernel_rfl) ?_ _
     go_wp2_with fail
     go_roundw
     case rel => exact ⟨k + 1, by omega, by go_num, a', c', HST.out⟩
     case measure => simp [intOf]; omega
    ·
     obtain ⟨a8, c8, W2, hr8, hrd8, hB8⟩ := app_emptyA s w1.heap.size a1 c1 _ (w1.alloc (.cells #[] 165)) 117 HCK.out (ho.later (below_allocD _ _))
     have bW8 : Below wr.heap.size wr W2 := bW6.trans (hB8.mono bW6.size)
     obtain ⟨a', c', W4, hr12, hst, o4, hk4⟩ := PU.out W2 a8 c8 bW8 (hrd8.mono (fun b hb => ⟨by have h1 := hb.1; have h2 := bW6.size; omega, hb.2⟩))
     have RUN10 := Lib.hid hr8
     have RUN12 := Lib.hid hr12
     have HST := Lib.hid hst
     have BW8 : Hid (Below w.heap.size w W2 ∧ W2.heap[w.heap.size]? = some (.cells #[.string ⟨t.nm.toArray⟩, .slice ca t.cols.length cc, .slice ua t.uq.length uc, .bool t.rt] 75) ∧ W2.heap[w.heap.size + 1]? = some (.cells #[.int .i64 r.id, .slice ra r.cells.length rc] 81)) := (KB.out _ bW8).1
     have p8 := (KB.out _ bW8).2
     have BW3 : Hid (Below w.heap.size w (W2.alloc (.cells #[.slice a8 s.length c8] 117)) ∧ (W2.alloc (.cells #[.slice a8 s.length c8] 117)).heap[w.heap.size]? = some (.cells #[.string ⟨t.nm.toArray⟩, .slice ca t.cols.length cc, .slice ua t.uq.length uc, .bool t.rt] 75) ∧ (W2.alloc (.cells #[.slice a8 s.length c8] 117)).heap[w.heap.size + 1]? = some (.cells #[.int .i64 r.id, .slice ra r.cells.length rc] 81)) := (KB.out _ (bW8.alloc bW8.size _)).1
     have p3 := (KB.out _ (bW8.alloc bW8.size (.cells #[.slice a8 s.length c8] 117))).2
     have BW4 : Hid (Below w.heap.size w W4 ∧ W4.heap[w.heap.size]? = some (.cells #[.string ⟨t.nm.toArray⟩, .slice ca t.cols.length cc, .slice ua t.uq.length uc, .bool t.rt] 75) ∧ W4.heap[w.heap.size + 1]? = some (.cells #[.int .i64 r.id, .slice ra r.cells.length rc] 81)) := hk4
     have BW5 : Hid (Below w.heap.size w (W4.setCell ⟨w.heap.size + 1 + 1 + 1 + 1, 1, none⟩ (.slice a' (k + 1) c')) ∧ (W4.setCell ⟨w.heap.size + 1 + 1 + 1 + 1, 1, none⟩ (.slice a' (k + 1) c')).heap[w.heap.size]? = some (.cells #[.string ⟨t.nm.toArray⟩, .slice ca t.cols.length cc, .slice ua t.uq.length uc, .bool t.rt] 75) ∧ (W4.setCell ⟨w.heap.size + 1 + 1 + 1 + 1, 1, none⟩ (.slice a' (k + 1) c')).heap[w.heap.size + 1]? = some (.cells #[.int .i64 r.id, .slice ra r.cells.length rc] 81)) := ⟨hst.bel, hst.bx 0 _ rfl, hst.bx 1 _ rfl⟩
     have t4 := cell_at (o := 1) o4 rfl
     have z4 := frozen_at 1 o4
     clear hr8 hrd8 hB8 hr12 hst o4 hk4 bW8
     refine step_append_is rfl (.tmp 21) (.tmp 28) 117 rfl _ _ (by rfl) (by rfl) _ _ RUN10.out ?_
     refine hK.out _ _ ?_ (fun hHeld => ?_)
     ·
      (exact CE.out _ (by first | exact BW0.out | exact BW1.out | exact BW2.out | exact BW6.out | exact BW8.out | exact BW3.out | exact BW4.out | exact BW5.out))
     clear hK K
     try simp only [Act.put, tkS]
     refine wpAnyH_ready (rs := [1, 11]) (by kernel_rfl) (by simp) (AllReadyH.cons rfl (fun K hK => ?_) (AllReadyH.cons rfl (fun K hK => ?_) AllReadyH.nil))
     ·
      go_simp
      refine hK.out _ _ ?_ (fun hHeld => ?_)
      ·
       (exact CE.out _ (by first | exact BW0.out | exact BW1.out | exact BW2.out | exact BW6.out | exact BW8.out | exact BW3.out | exact BW4.out | exact BW5.out))
      clear hK K
      try simp only [Act.put, tkS]
      refine tkR (i := 11) (fun K hK => ?_)
      go_simp
      refine hK.out _ _ ?_ (fun hHeld => ?_)
      ·
       (exact CE.out _ (by first | exact BW0.out | exact BW1.out | exact BW2.out | exact BW6.out | exact BW8.out | exact BW3.out | exact BW4.out | exact BW5.out))
      clear hK K
      try simp only [Act.put, tkS]
      refine tkR (i := 12) (fun K hK => ?_)
      refine step_append_is rfl (.tmp 20) (.tmp 30) 79 rfl _ _ (by rfl) (by rfl) _ _ RUN12.out ?_
      refine hK.out _ _ ?_ (fun hHeld => ?_)
      ·
       (exact CE.out _ (by first | exact BW0.out | exact BW1.out | exact BW2.out | exact BW6.out | exact BW8.out | exact BW3.out | exact BW4.out | exact BW5.out))
      clear hK K
      try simp only [Act.put, tkS]
      refine tkB (i := 13) ?_
      refine tkR (i := 14) (fun K hK => ?_)
      go_simp
      refine hK.out _ _ ?_ (fun hHeld => ?_)
      ·
       (exact CE.out _ (by first | exact BW0.out | exact BW1.out | exact BW2.out | exact BW6.out | exact BW8.out | exact BW3.out | exact BW4.out | exact BW5.out))
      clear hK K
      try simp only [Act.put, tkS]
      refine wpAnyH_done (by kernel_rfl) ?_ _
      go_wp2_with fail
      go_roundw
      case rel => exact ⟨k + 1, by omega, by go_num, a', c', HST.out⟩
      case measure => simp [intOf]; omega
     ·
      go_simp
      refine hK.out _ _ ?_ (fun hHeld => ?_)
      ·
       (exact CE.out _ (by first | exact BW0.out | exact BW1.out | exact BW2.out | exact BW6.out | exact BW8.out | exact BW3.out | exact BW4.out | exact BW5.out))
      clear hK K
      try simp only [Act.put, tkS]
      refine tkR (i := 1) (fun K hK => ?_)
      go_simp
      refine hK.out _ _ ?_ (fun hHeld => ?_)
      ·
       (exact CE.out _ (by first | exact BW0.out | exact BW1.out | exact BW2.out | exact BW6.out | exact BW8.out | exact BW3.out | exact BW4.out | exact BW5.out))
      clear hK K
      try simp only [Act.put, tkS]
      refine tkR (i := 12) (fun K hK => ?_)
      refine step_append_is rfl (.tmp 20) (.tmp 30) 79 rfl _ _ (by rfl) (by rfl) _ _ RUN12.out ?_
      refine hK.out _ _ ?_ (fun hHeld => ?_)
      ·
       (exact CE.out _ (by first | exact BW0.out | exact BW1.out | exact BW2.out | exact BW6.out | exact BW8.out | exact BW3.out | exact BW4.out | exact BW5.out))
      clear hK K
      try simp only [Act.put, tkS]
      refine tkB (i := 13) ?_
      refine tkR (i := 14) (fun K hK => ?_)
      go_simp
      refine hK.out _ _ ?_ (fun hHeld => ?_)
      ·
       (exact CE.out _ (by first | exact BW0.out | exact BW1.out | exact BW2.out | exact BW6.out | exact BW8.out | exact BW3.out | exact BW4.out | exact BW5.out))
      clear hK K
      try simp only [Act.put, tkS]
      refine wpAnyH_done (by kernel_rfl) ?_ _
      go_wp2_with fail
      go_roundw
      case rel => exact ⟨k + 1, by omega, by go_num, a', c', HST.out⟩
      case measure => simp [intOf]; omega
end Go.Proofs.YtlddhbamcndggaaGreatDoor
