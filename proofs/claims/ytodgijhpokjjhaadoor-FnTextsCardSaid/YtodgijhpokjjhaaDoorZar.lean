import Derived.Test.YtodgijhpokjjhaaDoorZaq
import Derived.Deep.RegionHeld3
import Derived.Deep.CutRange
import Derived.Test.YtodgijhpokjjhaaDoorZTk
namespace Go.Proofs.YtodgijhpokjjhaaDoor
open Go.RowKit
set_option linter.unusedSimpArgs false
variable {W W' : World} {p S : Nat} {a : Option Addr} {l : List UInt8} {c m s : Nat}
theorem nd_pos : ∀ d, 1 ≤ nd d
  | 0 => Nat.le_refl _
  | d + 1 => by unfold nd; omega
theorem kd_pos : ∀ d, 4 ≤ kd d
  | 0 => Nat.le_refl _
  | d + 1 => by have := kd_pos d; unfold kd; omega
theorem kd_ge : ∀ d, d ≤ kd d
  | 0 => by unfold kd; omega
  | d + 1 => by have := kd_ge d; unfold kd; omega
def set5 (w : World) (b : Nat) (y0 y1 y2 y3 y4 : Value) : World := ((((w.setCell ⟨b, 0, none⟩ y0).setCell ⟨b, 1, none⟩ y1).setCell ⟨b, 2, none⟩ y2).setCell ⟨b, 3, none⟩ y3).setCell ⟨b, 4, none⟩ y4
theorem frm5 (w : World) (b : Nat) (y0 y1 y2 y3 y4 : Value) : Frm (· = b) w (set5 w b y0 y1 y2 y3 y4) := (((((Frm.refl (· = b) w).set (o := 0) rfl y0).set (o := 1) rfl y1).set (o := 2) rfl y2).set (o := 3) rfl y3).set (o := 4) rfl y4
theorem Frm.over {A W1 W2 : World} (hF : Frm (· = p) A W1) {b : Nat} (hb : A.heap.size ≤ b) (hG : Frm (· = b) W1 W2) : Frm (· = p) A W2 :=
  ⟨hG.os.trans hF.os, hG.tape.trans hF.tape, hG.output.trans hF.output, Nat.le_trans hF.size hG.size, fun i hi hn => (hG.block i (Nat.lt_of_lt_of_le hi hF.size) (show ¬ i = b by omega)).trans (hF.block i hi hn)⟩
theorem cnt_leaf {d : Nat} {k n : Int} {t : List UInt8} (h : partB ⟨k, n, t, [], []⟩ = true) : cnt (d + 1) ⟨k, n, t, [], []⟩ = some 1 := by
  rw [cnt_part h]; exact cntTo_zero _ _
theorem cnt_node {d n : Nat} {j : J} (h : partB j = true) (hs : sumO (j.items.map (cnt d)) = some n) : cnt (d + 1) j = some (1 + n) := by
  unfold cnt; rw [if_pos h, hs]; rfl
theorem sumO_snoc {d n k : Nat} {L : List J} {x : J} (h : sumO (L.map (cnt d)) = some n) (hx : cnt d x = some k) : sumO ((L ++ [x]).map (cnt d)) = some (n + k) := by
  rw [List.map_append, sumO_append, h]; simp [sumO, hx, addO]
theorem leafV {w1 : World} {k n : Int} {t : List UInt8} {d m' s' : Nat} (hp : partB ⟨k, n, t, [], []⟩ = true) (ht : t.length ≤ 9) (hP : p < W.heap.size) (hF : Frm (· = p) W w1) (h : Src w1 p S a l c m' s') (hm : m' ≤ m + kd d) :
    JsonV W p S a l c m d (.returned (.agg #[.int .i64 k, .int .i64 n, .string ⟨t.toArray⟩, .slice none 0 0, .slice none 0 0])) (set5 w1 W.heap.size (.int .i64 k) (.int .i64 n) (.string ⟨t.toArray⟩) (.slice none 0 0) (.slice none 0 0)) := by
  refine ⟨⟨k, n, t, [], []⟩, none, 0, none, 0, 1, m', s', rfl, cnt_leaf hp, nd_pos d, .mk ht (fun _ h => absurd h (by simp)) (fun _ h => absurd h (by simp)), ⟨none, 0, rfl, .inl rfl⟩, ⟨none, 0, rfl, .inl rfl⟩, ?_, hm, hF.over (Nat.le_refl _) (frm5 _ _ _ _ _ _ _)⟩
  exact h.frm (frm5 _ _ _ _ _ _ _) (show ¬ p = W.heap.size by omega) (fun b hb e => by have := h.le; have e' : b = W.heap.size := e; omega)
theorem JL.fin {W0 W : World} {q d n m0 : Nat} {kk : Int} {keys : List (List UInt8)} {L : List J} {ka ia : Option Addr} {kc ic : Nat} (h : JL W0 W p S a l c m q kk keys L (.slice ka keys.length kc) (.slice ia L.length ic)) (hc : cnt (d + 1) ⟨kk, 0, [], keys, L⟩ = some n) (hn : n ≤ nd d) (hsm : Small ⟨kk, 0, [], keys, L⟩) (hm : m ≤ m0 + kd d) :
    JsonV W0 p S a l c m0 d (.returned (.agg #[.int .i64 kk, .int .i64 0, .string ⟨#[]⟩, .slice ka keys.length kc, .slice ia L.length ic])) (set5 W W0.heap.size (.int .i64 kk) (.int .i64 0) (.string ⟨#[]⟩) (.slice ka keys.length kc) (.slice ia L.length ic)) := by
  obtain ⟨s, hs⟩ := h.src
  have hlt := h.lt
  have hF := frm5 W W0.heap.size (.int .i64 kk) (.int .i64 0) (.string ⟨#[]⟩) (.slice ka keys.length kc) (.slice ia L.length ic)
  refine ⟨⟨kk, 0, [], keys, L⟩, ka, kc, ia, ic, n, m, s, rfl, hc, hn, hsm, ?_, ?_, hs.frm hF (show ¬ p = W0.heap.size by omega) (fun b hb e => by have := hs.le; have e' : b = W0.heap.size := e; omega), hm, h.fr.over (Nat.le_refl _) hF⟩
  · have h1 := (h.ks.conv (G' := fun b => W0.heap.size < b) (fun _ _ _ => rfl) (fun b _ hb => hb.elim)).rd (by omega) (fun g hg => (h.kn g hg).1)
    exact (h1.frm hF (fun b hb e => by have := hb.1; have e' : b = W0.heap.size := e; omega)).mono (fun b hb => ⟨by have := hb.1; omega, Nat.lt_of_lt_of_le hb.2 hF.size⟩)
  · have h1 := h.is.rd (by omega) (fun g hg => by have h3 := h.vn g hg; exact ⟨h3.1, h3.2.1, h3.2.2.2⟩)
    exact (h1.frm hF (fun b hb e => by have := hb.1.1; have e' : b = W0.heap.size := e; omega)).mono (fun b hb => ⟨by have := hb.1.1; omega, Nat.lt_of_lt_of_le hb.2 hF.size⟩)
theorem infoJv : ∃ i, Tryd.prog.info? 28 = some i ∧ i.zero = some (.agg #[.int .i64 0, .int .i64 0, .string ⟨#[]⟩, .slice none 0 0, .slice none 0 0]) ∧ i.size = 5 ∧ i.bytes = 80 := by
  have h : (Tryd.prog.info? 28).map (fun i => (i.zero, i.size, i.bytes)) = some (some (.agg #[.int .i64 0, .int .i64 0, .string ⟨#[]⟩, .slice none 0 0, .slice none 0 0]), 5, 80) := by kernel_rfl
  obtain ⟨i, hi, hzz⟩ := Option.map_eq_some_iff.1 h
  simp only [Prod.mk.injEq] at hzz
  exact ⟨i, hi, hzz⟩
theorem infoSv : ∃ i, Tryd.prog.info? 9 = some i ∧ i.zero = some (.string ⟨#[]⟩) ∧ i.size = 1 ∧ i.bytes = 16 := by
  have h : (Tryd.prog.info? 9).map (fun i => (i.zero, i.size, i.bytes)) = some (some (.string ⟨#[]⟩), 1, 16) := by kernel_rfl
  obtain ⟨i, hi, hzz⟩ := Option.map_eq_some_iff.1 h
  simp only [Prod.mk.injEq] at hzz
  exact ⟨i, hi, hzz⟩
def fourK : List (List UInt8) := [[97], [98], [107], [122, 122]]
theorem four_keys {keys : List (List UInt8)} (h : keys.Sublist fourK) : keysB keys = true := by
  unfold fourK at h
  cases h with
  | cons _ h => cases h with
    | cons _ h => cases h with
      | cons _ h => cases h with
        | cons _ h => cases h; decide
        | cons_cons _ h => cases h; decide
      | cons_cons _ h => cases h with
        | cons _ h => cases h; decide
        | cons_cons _ h => cases h; decide
    | cons_cons _ h => cases h with
      | cons _ h => cases h with
        | cons _ h => cases h; decide
        | cons_cons _ h => cases h; decide
      | cons_cons _ h => cases h with
        | cons _ h => cases h; decide
        | cons_cons _ h => cases h; decide
  | cons_cons _ h => cases h with
    | cons _ h => cases h with
      | cons _ h => cases h with
        | cons _ h => cases h; decide
        | cons_cons _ h => cases h; decide
      | cons_cons _ h => cases h with
        | cons _ h => cases h; decide
        | cons_cons _ h => cases h; decide
    | cons_cons _ h => cases h with
      | cons _ h => cases h with
        | cons _ h => cases h; decide
        | cons_cons _ h => cases h; decide
      | cons_cons _ h => cases h with
        | cons _ h => cases h; decide
        | cons_cons _ h => cases h; decide
theorem four_len {keys : List (List UInt8)} {n : Nat} (h : keys.Sublist (fourK.take n)) : ∀ x ∈ keys, x.length ≤ 2 := fun x hx => by
  have h1 := List.mem_of_mem_take (h.subset hx)
  simp only [fourK, List.mem_cons, List.not_mem_nil, or_false] at h1
  rcases h1 with rfl | rfl | rfl | rfl <;> decide
theorem small_snoc {L : List J} {y : J} (h : ∀ x ∈ L, Small x) (hy : Small y) : ∀ x ∈ L ++ [y], Small x := fun x hx => by
  rcases List.mem_append.1 hx with hx | hx
  · exact h x hx
  · rw [List.mem_singleton.1 hx]; exact hy
theorem four_more {keys : List (List UInt8)} {x : List UInt8} {n : Nat} (hn : n < 4) (h : keys.Sublist (fourK.take n)) (hx : x = fourK.getD n []) : (keys ++ [x]).Sublist (fourK.take (n + 1)) := by
  have hl : n < fourK.length := hn
  rw [List.take_succ_eq_append_getElem hl, hx, List.getD_eq_getElem?_getD, List.getElem?_eq_getElem hl]
  exact h.append (List.Sublist.refl _)
theorem obj_part {keys : List (List UInt8)} {L : List J} (hl : keys.length = L.length) (h : keys.Sublist (fourK.take 4)) : partB ⟨5, 0, [], keys, L⟩ = true := by
  rw [part5 rfl]
  have hk := four_keys (show keys.Sublist fourK from h)
  simp only [hl, hk]
  simp
def SrcJ (p S : Nat) (a : Option Addr) (l : List UInt8) (c d : Nat) : Prop := ∀ (W : World) (m s : Nat), Src W p S a l c m s → m + kd d < 1000000 → Calls Tryd.prog 11 #[.pointer (some ⟨p, 0, none⟩), .int .i64 (d : Int)] W (JsonV W p S a l c m d)
set_option maxRecDepth 100000 in
set_option maxHeartbeats 12800000 in
theorem srcJson0 : SrcJ p S a l c 0 := by
  intro W m s h hm
  have HP : Hid (p < W.heap.size) := (Array.getElem?_eq_some_iff.1 h.box).1
  have NX : Hid (∀ (V : World) (m s : Nat), Src V p S a l c m s → m < 1000000 → ∀ n : Nat, 1 < n → n ≤ 256 → Calls Tryd.prog 19 #[.pointer (some ⟨p, 0, none⟩), .int .i64 (n : Int)] V (NextAns V p S a l c m n)) := fun V m s h hm n h1 h2 => srcNext h hm n h1 h2
  have TX : Hid (∀ (V : World) (m s : Nat), Src V p S a l c m s → m < 1000000 → Calls Tryd.prog 20 #[.pointer (some ⟨p, 0, none⟩)] V (TextV V p S a l c m)) := fun V m s h hm => srcJsText h hm
  have HS0 : Hid (Src (W.alloc (.cells #[.int .i64 0, .int .i64 0, .string ⟨#[]⟩, .slice none 0 0, .slice none 0 0] 28)) p S a l c m s) := h.on (below_allocD _ _)
  have HF0 : Hid (Frm (· = p) W (W.alloc (.cells #[.int .i64 0, .int .i64 0, .string ⟨#[]⟩, .slice none 0 0, .slice none 0 0] 28))) := Frm.of_below (below_allocD _ _)
  have HX0 : Hid ((W.alloc (.cells #[.int .i64 0, .int .i64 0, .string ⟨#[]⟩, .slice none 0 0, .slice none 0 0] 28)).heap[W.heap.size]? = some (.cells #[.int .i64 0, .int .i64 0, .string ⟨#[]⟩, .slice none 0 0, .slice none 0 0] 28)) := heap_newD _ _
  have hkd := kd_pos 0
  clear h
  go_enter Tryd.func11, Tryd.ntmps11
  go_wp2_with fail
  refine (NX.out _ _ _ HS0.out (by omega) 6 (by omega) (by omega)).mono ?_
  rintro e w1 ⟨r, s1, rfl, hr, hS, hF⟩
  have HS1 := Lib.hid hS
  have HF1 : Hid (Frm (· = p) W w1) := HF0.out.trans hF
  have hbx : w1.heap[W.heap.size]? = some (.cells #[.int .i64 0, .int .i64 0, .string ⟨#[]⟩, .slice none 0 0, .slice none 0 0] 28) := by rw [hF.block W.heap.size (Array.getElem?_eq_some_iff.1 HX0.out).1 (by have := HP.out; show ¬ W.heap.size = p; omega)]; exact HX0.out
  have HX1 := Lib.hid hbx
  have z0 := frozen_at 0 hbx
  have c0 : w1.cell? ⟨W.heap.size, 0, none⟩ = some (.int .i64 0) := cell_at (o := 0) hbx rfl
  have z1 := frozen_at 1 hbx
  have c1 : w1.cell? ⟨W.heap.size, 1, none⟩ = some (.int .i64 0) := cell_at (o := 1) hbx rfl
  have z2 := frozen_at 2 hbx
  have c2 : w1.cell? ⟨W.heap.size, 2, none⟩ = some (.string ⟨#[]⟩) := cell_at (o := 2) hbx rfl
  have z3 := frozen_at 3 hbx
  have c3 : w1.cell? ⟨W.heap.size, 3, none⟩ = some (.slice none 0 0) := cell_at (o := 3) hbx rfl
  have z4 := frozen_at 4 hbx
  have c4 : w1.cell? ⟨W.heap.size, 4, none⟩ = some (.slice none 0 0) := cell_at (o := 4) hbx rfl
  clear hbx hS hF
  have hkd0 : kd 0 = 4 := rfl
  go_wp2_with fail
  refine (NX.out _ _ _ HS1.out (by omega) 4 (by omega) (by omega)).mono ?_
  rintro e w2 ⟨r0, s2, rfl, hr0, hS, hF⟩
  have HS2 := Lib.hid hS
  have HF2 : Hid (Frm (· = p) W w2) := HF1.out.trans hF
  have hbx : w2.heap[W.heap.size]? = some (.cells #[.int .i64 0, .int .i64 0, .string ⟨#[]⟩, .slice none 0 0, .slice none 0 0] 28) := by rw [hF.block W.heap.size (Array.getElem?_eq_some_iff.1 HX1.out).1 (by have := HP.out; show ¬ W.heap.size = p; omega)]; exact HX1.out
  have HX2 := Lib.hid hbx
  clear z0 z1 z2 z3 z4 c0 c1 c2 c3 c4
  have z0 := frozen_at 0 hbx
  have c0 : w2.cell? ⟨W.heap.size, 0, none⟩ = some (.int .i64 0) := cell_at (o := 0) hbx rfl
  have z1 := frozen_at 1 hbx
  have c1 : w2.cell? ⟨W.heap.size, 1, none⟩ = some (.int .i64 0) := cell_at (o := 1) hbx rfl
  have z2 := frozen_at 2 hbx
  have c2 : w2.cell? ⟨W.heap.size, 2, none⟩ = some (.string ⟨#[]⟩) := cell_at (o := 2) hbx rfl
  have z3 := frozen_at 3 hbx
  have c3 : w2.cell? ⟨W.heap.size, 3, none⟩ = some (.slice none 0 0) := cell_at (o := 3) hbx rfl
  have z4 := frozen_at 4 hbx
  have c4 : w2.cell? ⟨W.heap.size, 4, none⟩ = some (.slice none 0 0) := cell_at (o := 4) hbx rfl
  clear hbx hS hF
  rcases (by omega : r0 = 0 ∨ r0 = 1 ∨ r0 = 2 ∨ r0 = 3) with rfl | rfl | rfl | rfl
  ·
    go_wp2_with fail
    refine bodyPost_ret (v := .agg #[.int .i64 0, .int .i64 0, .string ⟨#[]⟩, .slice none 0 0, .slice none 0 0]) (by simp [results, Tryd.results11, go_sem, c0, c1, c2, c3, c4]) rfl ?_
    exact leafV (k := 0) (n := 0) (t := []) (d := 0) rfl (by simp) HP.out HF2.out HS2.out (by have := kd_pos 0; omega)
  ·
    go_wp2_with fail
    refine (NX.out _ _ _ HS2.out (by omega) 2 (by omega) (by omega)).mono ?_
    rintro e w8 ⟨r1, s3, rfl, hr1, hS, hF⟩
    have HS3 := Lib.hid hS
    have HF3 : Hid (Frm (· = p) W w8) := HF2.out.trans hF
    have hbx : w8.heap[W.heap.size]? = some (.cells #[.int .i64 0, .int .i64 0, .string ⟨#[]⟩, .slice none 0 0, .slice none 0 0] 28) := by rw [hF.block W.heap.size (Array.getElem?_eq_some_iff.1 HX2.out).1 (by have := HP.out; show ¬ W.heap.size = p; omega)]; exact HX2.out
    have HX3 := Lib.hid hbx
    clear z0 z1 z2 z3 z4 c0 c1 c2 c3 c4
    have z0 := frozen_at 0 hbx
    have c0 : w8.cell? ⟨W.heap.size, 0, none⟩ = some (.int .i64 0) := cell_at (o := 0) hbx rfl
    have z1 := frozen_at 1 hbx
    have c1 : w8.cell? ⟨W.heap.size, 1, none⟩ = some (.int .i64 0) := cell_at (o := 1) hbx rfl
    have z2 := frozen_at 2 hbx
    have c2 : w8.cell? ⟨W.heap.size, 2, none⟩ = some (.string ⟨#[]⟩) := cell_at (o := 2) hbx rfl
    have z3 := frozen_at 3 hbx
    have c3 : w8.cell? ⟨W.heap.size, 3, none⟩ = some (.slice none 0 0) := cell_at (o := 3) hbx rfl
    have z4 := frozen_at 4 hbx
    have c4 : w8.cell? ⟨W.heap.size, 4, none⟩ = some (.slice none 0 0) := cell_at (o := 4) hbx rfl
    clear hbx hS hF
    have HB1 : Hid (partB ⟨1, (r1 : Int), [], [], []⟩ = true) := by show partB _ = true; rw [part1 rfl]; simp [inB, noKeys, noItems]; omega
    go_wp2_with fail
    refine bodyPost_ret (v := .agg #[.int .i64 1, .int .i64 (r1 : Int), .string ⟨#[]⟩, .slice none 0 0, .slice none 0 0]) (by simp [results, Tryd.results11, go_sem, c0, c1, c2, c3, c4]) rfl ?_
    exact leafV (k := 1) (n := (r1 : Int)) (t := []) (d := 0) HB1.out (by simp) HP.out HF3.out HS3.out (by have := kd_pos 0; omega)
  ·
    go_wp2_with fail
    refine (NX.out _ _ _ HS2.out (by omega) 20 (by omega) (by omega)).mono ?_
    rintro e w8 ⟨r1, s3, rfl, hr1, hS, hF⟩
    have HS3 := Lib.hid hS
    have HF3 : Hid (Frm (· = p) W w8) := HF2.out.trans hF
    have hbx : w8.heap[W.heap.size]? = some (.cells #[.int .i64 0, .int .i64 0, .string ⟨#[]⟩, .slice none 0 0, .slice none 0 0] 28) := by rw [hF.block W.heap.size (Array.getElem?_eq_some_iff.1 HX2.out).1 (by have := HP.out; show ¬ W.heap.size = p; omega)]; exact HX2.out
    have HX3 := Lib.hid hbx
    clear z0 z1 z2 z3 z4 c0 c1 c2 c3 c4
    have z0 := frozen_at 0 hbx
    have c0 : w8.cell? ⟨W.heap.size, 0, none⟩ = some (.int .i64 0) := cell_at (o := 0) hbx rfl
    have z1 := frozen_at 1 hbx
    have c1 : w8.cell? ⟨W.heap.size, 1, none⟩ = some (.int .i64 0) := cell_at (o := 1) hbx rfl
    have z2 := frozen_at 2 hbx
    have c2 : w8.cell? ⟨W.heap.size, 2, none⟩ = some (.string ⟨#[]⟩) := cell_at (o := 2) hbx rfl
    have z3 := frozen_at 3 hbx
    have c3 : w8.cell? ⟨W.heap.size, 3, none⟩ = some (.slice none 0 0) := cell_at (o := 3) hbx rfl
    have z4 := frozen_at 4 hbx
    have c4 : w8.cell? ⟨W.heap.size, 4, none⟩ = some (.slice none 0 0) := cell_at (o := 4) hbx rfl
    clear hbx hS hF
    obtain ⟨x9, hx9⟩ : ∃ x : Int, x = (r1 : Int) - 9 := ⟨_, rfl⟩
    have fx : IntKind.i64.wrap ((r1 : Int) - 9) = x9 := by rw [IntKind.wrap_i64]; omega
    have HX9 : Hid (-9 ≤ x9 ∧ x9 ≤ 10) := by show _ ∧ _; omega
    clear hx9 hr1
    have HS4 : Hid (Src (w8.alloc (.cells #[.int .i64 x9, .int .i64 1000000000] 3)) p S a l c _ _) := HS3.out.on (below_allocD _ _)
    have HF4 : Hid (Frm (· = p) W (w8.alloc (.cells #[.int .i64 x9, .int .i64 1000000000] 3))) := HF3.out.trans (Frm.of_below (below_allocD _ _))
    have HX4 : Hid ((w8.alloc (.cells #[.int .i64 x9, .int .i64 1000000000] 3)).heap[W.heap.size]? = some (.cells #[.int .i64 0, .int .i64 0, .string ⟨#[]⟩, .slice none 0 0, .slice none 0 0] 28)) := heap_keptD HX3.out (below_allocD _ _)
    have HN : Hid ((w8.alloc (.cells #[.int .i64 x9, .int .i64 1000000000] 3)).heap[w8.heap.size]? = some (.cells #[.int .i64 x9, .int .i64 1000000000] 3)) := heap_newD _ _
    go_wp2_with fail
    refine (NX.out _ _ _ HS4.out (by omega) 6 (by omega) (by omega)).mono ?_
    rintro e w9 ⟨r2, s5, rfl, hr2, hS, hF⟩
    have HS5 := Lib.hid hS
    have HF5 : Hid (Frm (· = p) W w9) := HF4.out.trans hF
    have hbx : w9.heap[W.heap.size]? = some (.cells #[.int .i64 0, .int .i64 0, .string ⟨#[]⟩, .slice none 0 0, .slice none 0 0] 28) := by rw [hF.block W.heap.size (Array.getElem?_eq_some_iff.1 HX4.out).1 (by have := HP.out; show ¬ W.heap.size = p; omega)]; exact HX4.out
    have HX5 := Lib.hid hbx
    clear z0 z1 z2 z3 z4 c0 c1 c2 c3 c4
    have hrow : w9.heap[w8.heap.size]? = some (.cells #[.int .i64 x9, .int .i64 1000000000] 3) := by rw [hF.block w8.heap.size (Array.getElem?_eq_some_iff.1 HN.out).1 (by have := HP.out; have := HF3.out.size; show ¬ w8.heap.size = p; omega)]; exact HN.out
    have n0 : w9.cell? ⟨w8.heap.size, 0, none⟩ = some (.int .i64 x9) := cell_at (o := 0) hrow rfl
    have n1 : w9.cell? ⟨w8.heap.size, 1, none⟩ = some (.int .i64 1000000000) := cell_at (o := 1) hrow rfl
    clear hrow
    have z0 := frozen_at 0 hbx
    have c0 : w9.cell? ⟨W.heap.size, 0, none⟩ = some (.int .i64 0) := cell_at (o := 0) hbx rfl
    have z1 := frozen_at 1 hbx
    have c1 : w9.cell? ⟨W.heap.size, 1, none⟩ = some (.int .i64 0) := cell_at (o := 1) hbx rfl
    have z2 := frozen_at 2 hbx
    have c2 : w9.cell? ⟨W.heap.size, 2, none⟩ = some (.string ⟨#[]⟩) := cell_at (o := 2) hbx rfl
    have z3 := frozen_at 3 hbx
    have c3 : w9.cell? ⟨W.heap.size, 3, none⟩ = some (.slice none 0 0) := cell_at (o := 3) hbx rfl
    have z4 := frozen_at 4 hbx
    have c4 : w9.cell? ⟨W.heap.size, 4, none⟩ = some (.slice none 0 0) := cell_at (o := 4) hbx rfl
    clear hbx hS hF
    by_cases h5 : r2 = 5
    case pos =>
      subst h5
      have hq : (((5 : Nat) : Int).tdiv 5) = 1 := rfl
      go_wp2_with fail
      refine bodyPost_ret (v := .agg #[.int .i64 2, .int .i64 1000000000, .string ⟨#[]⟩, .slice none 0 0, .slice none 0 0]) (by simp [results, Tryd.results11, go_sem, c0, c1, c2, c3, c4]) rfl ?_
      exact leafV (k := 2) (n := 1000000000) (t := []) (d := 0) rfl (by simp) HP.out HF5.out HS5.out (by have := kd_pos 0; omega)
    case neg =>
      have hq : ((r2 : Int).tdiv 5) = 0 := by rw [Int.tdiv_eq_ediv_of_nonneg (by omega)]; omega
      have hq2 : ((r2 : Int) / 5) = 0 := by omega
      have HB2 : Hid (partB ⟨2, x9, [], [], []⟩ = true) := by show partB _ = true; have := HX9.out; rw [part2 rfl]; simp [inB, noKeys, noItems]; omega
      clear h5
      go_wp2_with fail
      refine bodyPost_ret (v := .agg #[.int .i64 2, .int .i64 x9, .string ⟨#[]⟩, .slice none 0 0, .slice none 0 0]) (by simp [results, Tryd.results11, go_sem, c0, c1, c2, c3, c4]) rfl ?_
      exact leafV (k := 2) (n := x9) (t := []) (d := 0) HB2.out (by simp) HP.out HF5.out HS5.out (by have := kd_pos 0; omega)
  ·
    go_wp2_with fail
    refine (TX.out _ _ _ HS2.out (by omega)).mono ?_
    rintro e w8 ⟨t3, s8, rfl, ht3, hS, hF⟩
    have HS3 := Lib.hid hS
    have HF3 : Hid (Frm (· = p) W w8) := HF2.out.trans hF
    have hbx : w8.heap[W.heap.size]? = some (.cells #[.int .i64 0, .int .i64 0, .string ⟨#[]⟩, .slice none 0 0, .slice none 0 0] 28) := by rw [hF.block W.heap.size (Array.getElem?_eq_some_iff.1 HX2.out).1 (by have := HP.out; show ¬ W.heap.size = p; omega)]; exact HX2.out
    clear z0 z1 z2 z3 z4 c0 c1 c2 c3 c4
    have z0 := frozen_at 0 hbx
    have c0 : w8.cell? ⟨W.heap.size, 0, none⟩ = some (.int .i64 0) := cell_at (o := 0) hbx rfl
    have z1 := frozen_at 1 hbx
    have c1 : w8.cell? ⟨W.heap.size, 1, none⟩ = some (.int .i64 0) := cell_at (o := 1) hbx rfl
    have z2 := frozen_at 2 hbx
    have c2 : w8.cell? ⟨W.heap.size, 2, none⟩ = some (.string ⟨#[]⟩) := cell_at (o := 2) hbx rfl
    have z3 := frozen_at 3 hbx
    have c3 : w8.cell? ⟨W.heap.size, 3, none⟩ = some (.slice none 0 0) := cell_at (o := 3) hbx rfl
    have z4 := frozen_at 4 hbx
    have c4 : w8.cell? ⟨W.heap.size, 4, none⟩ = some (.slice none 0 0) := cell_at (o := 4) hbx rfl
    have HB3 : Hid (partB ⟨3, 0, t3, [], []⟩ = true) := by show partB _ = true; rw [part3 rfl, ht3.1]; rfl
    have HT9 := Lib.hid ht3.2
    clear hbx hS hF ht3
    go_wp2_with fail
    refine bodyPost_ret (v := .agg #[.int .i64 3, .int .i64 0, .string ⟨t3.toArray⟩, .slice none 0 0, .slice none 0 0]) (by simp [results, Tryd.results11, go_sem, c0, c1, c2, c3, c4]) rfl ?_
    exact leafV (k := 3) (n := 0) (t := t3) (d := 0) HB3.out HT9.out HP.out HF3.out HS3.out (by have := kd_pos 0; omega)
set_option maxRecDepth 100000 in
set_option maxHeartbeats 12800000 in
theorem srcJsonS (d' : Nat) (ih : SrcJ p S a l c d') : SrcJ p S a l c (d' + 1) := by
  intro W m s h hm
  have IH := Lib.hid ih
  obtain ⟨d, hd⟩ : ∃ d, d = d' + 1 := ⟨_, rfl⟩
  have HD := Lib.hid hd
  have hd0 : ((d : Int) == 0) = false := by rw [beq_eq_false_iff_ne]; omega
  have hd1 : (d == 0) = false := by rw [beq_eq_false_iff_ne]; omega
  have hkd2 : kd d = 5 + 4 * kd d' := by rw [hd]; rfl
  rw [← hd] at hm ⊢
  have fd : IntKind.i64.wrap ((d : Int) - 1) = (d' : Int) := by have := kd_ge d; rw [IntKind.wrap_i64]; omega
  clear ih hd
  have HP : Hid (p < W.heap.size) := (Array.getElem?_eq_some_iff.1 h.box).1
  have NX : Hid (∀ (V : World) (m s : Nat), Src V p S a l c m s → m < 1000000 → ∀ n : Nat, 1 < n → n ≤ 256 → Calls Tryd.prog 19 #[.pointer (some ⟨p, 0, none⟩), .int .i64 (n : Int)] V (NextAns V p S a l c m n)) := fun V m s h hm n h1 h2 => srcNext h hm n h1 h2
  have TX : Hid (∀ (V : World) (m s : Nat), Src V p S a l c m s → m < 1000000 → Calls Tryd.prog 20 #[.pointer (some ⟨p, 0, none⟩)] V (TextV V p S a l c m)) := fun V m s h hm => srcJsText h hm
  have HS0 : Hid (Src (W.alloc (.cells #[.int .i64 0, .int .i64 0, .string ⟨#[]⟩, .slice none 0 0, .slice none 0 0] 28)) p S a l c m s) := h.on (below_allocD _ _)
  have HF0 : Hid (Frm (· = p) W (W.alloc (.cells #[.int .i64 0, .int .i64 0, .string ⟨#[]⟩, .slice none 0 0, .slice none 0 0] 28))) := Frm.of_below (below_allocD _ _)
  have HX0 : Hid ((W.alloc (.cells #[.int .i64 0, .int .i64 0, .string ⟨#[]⟩, .slice none 0 0, .slice none 0 0] 28)).heap[W.heap.size]? = some (.cells #[.int .i64 0, .int .i64 0, .string ⟨#[]⟩, .slice none 0 0, .slice none 0 0] 28)) := heap_newD _ _
  have hkd := kd_pos d
  clear h
  go_enter Tryd.func11, Tryd.ntmps11
  go_wp2_with fail
  refine (NX.out _ _ _ HS0.out (by omega) 6 (by omega) (by omega)).mono ?_
  rintro e w1 ⟨r, s1, rfl, hr, hS, hF⟩
  have HS1 := Lib.hid hS
  have HF1 : Hid (Frm (· = p) W w1) := HF0.out.trans hF
  have hbx : w1.heap[W.heap.size]? = some (.cells #[.int .i64 0, .int .i64 0, .string ⟨#[]⟩, .slice none 0 0, .slice none 0 0] 28) := by rw [hF.block W.heap.size (Array.getElem?_eq_some_iff.1 HX0.out).1 (by have := HP.out; show ¬ W.heap.size = p; omega)]; exact HX0.out
  have HX1 := Lib.hid hbx
  have z0 := frozen_at 0 hbx
  have c0 : w1.cell? ⟨W.heap.size, 0, none⟩ = some (.int .i64 0) := cell_at (o := 0) hbx rfl
  have z1 := frozen_at 1 hbx
  have c1 : w1.cell? ⟨W.heap.size, 1, none⟩ = some (.int .i64 0) := cell_at (o := 1) hbx rfl
  have z2 := frozen_at 2 hbx
  have c2 : w1.cell? ⟨W.heap.size, 2, none⟩ = some (.string ⟨#[]⟩) := cell_at (o := 2) hbx rfl
  have z3 := frozen_at 3 hbx
  have c3 : w1.cell? ⟨W.heap.size, 3, none⟩ = some (.slice none 0 0) := cell_at (o := 3) hbx rfl
  have z4 := frozen_at 4 hbx
  have c4 : w1.cell? ⟨W.heap.size, 4, none⟩ = some (.slice none 0 0) := cell_at (o := 4) hbx rfl
  clear hbx hS hF
  rcases (by omega : r = 0 ∨ r = 1 ∨ r = 2 ∨ r = 3 ∨ r = 4 ∨ r = 5) with rfl | rfl | rfl | rfl | rfl | rfl
  ·
    go_wp2_with fail
    refine bodyPost_ret (v := .agg #[.int .i64 0, .int .i64 0, .string ⟨#[]⟩, .slice none 0 0, .slice none 0 0]) (by simp [results, Tryd.results11, go_sem, c0, c1, c2, c3, c4]) rfl ?_
    exact leafV (k := 0) (n := 0) (t := []) (d := d) rfl (by simp) HP.out HF1.out HS1.out (by have := kd_pos d; omega)
  ·
    go_wp2_with fail
    refine (NX.out _ _ _ HS1.out (by omega) 2 (by omega) (by omega)).mono ?_
    rintro e w8 ⟨r1, s2, rfl, hr1, hS, hF⟩
    have HS2 := Lib.hid hS
    have HF2 : Hid (Frm (· = p) W w8) := HF1.out.trans hF
    have hbx : w8.heap[W.heap.size]? = some (.cells #[.int .i64 0, .int .i64 0, .string ⟨#[]⟩, .slice none 0 0, .slice none 0 0] 28) := by rw [hF.block W.heap.size (Array.getElem?_eq_some_iff.1 HX1.out).1 (by have := HP.out; show ¬ W.heap.size = p; omega)]; exact HX1.out
    have HX2 := Lib.hid hbx
    clear z0 z1 z2 z3 z4 c0 c1 c2 c3 c4
    have z0 := frozen_at 0 hbx
    have c0 : w8.cell? ⟨W.heap.size, 0, none⟩ = some (.int .i64 0) := cell_at (o := 0) hbx rfl
    have z1 := frozen_at 1 hbx
    have c1 : w8.cell? ⟨W.heap.size, 1, none⟩ = some (.int .i64 0) := cell_at (o := 1) hbx rfl
    have z2 := frozen_at 2 hbx
    have c2 : w8.cell? ⟨W.heap.size, 2, none⟩ = some (.string ⟨#[]⟩) := cell_at (o := 2) hbx rfl
    have z3 := frozen_at 3 hbx
    have c3 : w8.cell? ⟨W.heap.size, 3, none⟩ = some (.slice none 0 0) := cell_at (o := 3) hbx rfl
    have z4 := frozen_at 4 hbx
    have c4 : w8.cell? ⟨W.heap.size, 4, none⟩ = some (.slice none 0 0) := cell_at (o := 4) hbx rfl
    clear hbx hS hF
    have HB1 : Hid (partB ⟨1, (r1 : Int), [], [], []⟩ = true) := by show partB _ = true; rw [part1 rfl]; simp [inB, noKeys, noItems]; omega
    go_wp2_with fail
    refine bodyPost_ret (v := .agg #[.int .i64 1, .int .i64 (r1 : Int), .string ⟨#[]⟩, .slice none 0 0, .slice none 0 0]) (by simp [results, Tryd.results11, go_sem, c0, c1, c2, c3, c4]) rfl ?_
    exact leafV (k := 1) (n := (r1 : Int)) (t := []) (d := d) HB1.out (by simp) HP.out HF2.out HS2.out (by have := kd_pos d; omega)
  ·
    go_wp2_with fail
    refine (NX.out _ _ _ HS1.out (by omega) 20 (by omega) (by omega)).mono ?_
    rintro e w8 ⟨r1, s2, rfl, hr1, hS, hF⟩
    have HS2 := Lib.hid hS
    have HF2 : Hid (Frm (· = p) W w8) := HF1.out.trans hF
    have hbx : w8.heap[W.heap.size]? = some (.cells #[.int .i64 0, .int .i64 0, .string ⟨#[]⟩, .slice none 0 0, .slice none 0 0] 28) := by rw [hF.block W.heap.size (Array.getElem?_eq_some_iff.1 HX1.out).1 (by have := HP.out; show ¬ W.heap.size = p; omega)]; exact HX1.out
    have HX2 := Lib.hid hbx
    clear z0 z1 z2 z3 z4 c0 c1 c2 c3 c4
    have z0 := frozen_at 0 hbx
    have c0 : w8.cell? ⟨W.heap.size, 0, none⟩ = some (.int .i64 0) := cell_at (o := 0) hbx rfl
    have z1 := frozen_at 1 hbx
    have c1 : w8.cell? ⟨W.heap.size, 1, none⟩ = some (.int .i64 0) := cell_at (o := 1) hbx rfl
    have z2 := frozen_at 2 hbx
    have c2 : w8.cell? ⟨W.heap.size, 2, none⟩ = some (.string ⟨#[]⟩) := cell_at (o := 2) hbx rfl
    have z3 := frozen_at 3 hbx
    have c3 : w8.cell? ⟨W.heap.size, 3, none⟩ = some (.slice none 0 0) := cell_at (o := 3) hbx rfl
    have z4 := frozen_at 4 hbx
    have c4 : w8.cell? ⟨W.heap.size, 4, none⟩ = some (.slice none 0 0) := cell_at (o := 4) hbx rfl
    clear hbx hS hF
    obtain ⟨x9, hx9⟩ : ∃ x : Int, x = (r1 : Int) - 9 := ⟨_, rfl⟩
    have fx : IntKind.i64.wrap ((r1 : Int) - 9) = x9 := by rw [IntKind.wrap_i64]; omega
    have HX9 : Hid (-9 ≤ x9 ∧ x9 ≤ 10) := by show _ ∧ _; omega
    clear hx9 hr1
    have HS3 : Hid (Src (w8.alloc (.cells #[.int .i64 x9, .int .i64 1000000000] 3)) p S a l c _ _) := HS2.out.on (below_allocD _ _)
    have HF3 : Hid (Frm (· = p) W (w8.alloc (.cells #[.int .i64 x9, .int .i64 1000000000] 3))) := HF2.out.trans (Frm.of_below (below_allocD _ _))
    have HX3 : Hid ((w8.alloc (.cells #[.int .i64 x9, .int .i64 1000000000] 3)).heap[W.heap.size]? = some (.cells #[.int .i64 0, .int .i64 0, .string ⟨#[]⟩, .slice none 0 0, .slice none 0 0] 28)) := heap_keptD HX2.out (below_allocD _ _)
    have HN : Hid ((w8.alloc (.cells #[.int .i64 x9, .int .i64 1000000000] 3)).heap[w8.heap.size]? = some (.cells #[.int .i64 x9, .int .i64 1000000000] 3)) := heap_newD _ _
    go_wp2_with fail
    refine (NX.out _ _ _ HS3.out (by omega) 6 (by omega) (by omega)).mono ?_
    rintro e w9 ⟨r2, s4, rfl, hr2, hS, hF⟩
    have HS4 := Lib.hid hS
    have HF4 : Hid (Frm (· = p) W w9) := HF3.out.trans hF
    have hbx : w9.heap[W.heap.size]? = some (.cells #[.int .i64 0, .int .i64 0, .string ⟨#[]⟩, .slice none 0 0, .slice none 0 0] 28) := by rw [hF.block W.heap.size (Array.getElem?_eq_some_iff.1 HX3.out).1 (by have := HP.out; show ¬ W.heap.size = p; omega)]; exact HX3.out
    have HX4 := Lib.hid hbx
    clear z0 z1 z2 z3 z4 c0 c1 c2 c3 c4
    have hrow : w9.heap[w8.heap.size]? = some (.cells #[.int .i64 x9, .int .i64 1000000000] 3) := by rw [hF.block w8.heap.size (Array.getElem?_eq_some_iff.1 HN.out).1 (by have := HP.out; have := HF2.out.size; show ¬ w8.heap.size = p; omega)]; exact HN.out
    have n0 : w9.cell? ⟨w8.heap.size, 0, none⟩ = some (.int .i64 x9) := cell_at (o := 0) hrow rfl
    have n1 : w9.cell? ⟨w8.heap.size, 1, none⟩ = some (.int .i64 1000000000) := cell_at (o := 1) hrow rfl
    clear hrow
    have z0 := frozen_at 0 hbx
    have c0 : w9.cell? ⟨W.heap.size, 0, none⟩ = some (.int .i64 0) := cell_at (o := 0) hbx rfl
    have z1 := frozen_at 1 hbx
    have c1 : w9.cell? ⟨W.heap.size, 1, none⟩ = some (.int .i64 0) := cell_at (o := 1) hbx rfl
    have z2 := frozen_at 2 hbx
    have c2 : w9.cell? ⟨W.heap.size, 2, none⟩ = some (.string ⟨#[]⟩) := cell_at (o := 2) hbx rfl
    have z3 := frozen_at 3 hbx
    have c3 : w9.cell? ⟨W.heap.size, 3, none⟩ = some (.slice none 0 0) := cell_at (o := 3) hbx rfl
    have z4 := frozen_at 4 hbx
    have c4 : w9.cell? ⟨W.heap.size, 4, none⟩ = some (.slice none 0 0) := cell_at (o := 4) hbx rfl
    clear hbx hS hF
    by_cases h5 : r2 = 5
    case pos =>
      subst h5
      have hq : (((5 : Nat) : Int).tdiv 5) = 1 := rfl
      go_wp2_with fail
      refine bodyPost_ret (v := .agg #[.int .i64 2, .int .i64 1000000000, .string ⟨#[]⟩, .slice none 0 0, .slice none 0 0]) (by simp [results, Tryd.results11, go_sem, c0, c1, c2, c3, c4]) rfl ?_
      exact leafV (k := 2) (n := 1000000000) (t := []) (d := d) rfl (by simp) HP.out HF4.out HS4.out (by have := kd_pos d; omega)
    case neg =>
      have hq : ((r2 : Int).tdiv 5) = 0 := by rw [Int.tdiv_eq_ediv_of_nonneg (by omega)]; omega
      have hq2 : ((r2 : Int) / 5) = 0 := by omega
      have HB2 : Hid (partB ⟨2, x9, [], [], []⟩ = true) := by show partB _ = true; have := HX9.out; rw [part2 rfl]; simp [inB, noKeys, noItems]; omega
      clear h5
      go_wp2_with fail
      refine bodyPost_ret (v := .agg #[.int .i64 2, .int .i64 x9, .string ⟨#[]⟩, .slice none 0 0, .slice none 0 0]) (by simp [results, Tryd.results11, go_sem, c0, c1, c2, c3, c4]) rfl ?_
      exact leafV (k := 2) (n := x9) (t := []) (d := d) HB2.out (by simp) HP.out HF4.out HS4.out (by have := kd_pos d; omega)
  ·
    go_wp2_with fail
    refine (TX.out _ _ _ HS1.out (by omega)).mono ?_
    rintro e w8 ⟨t3, s8, rfl, ht3, hS, hF⟩
    have HS2 := Lib.hid hS
    have HF2 : Hid (Frm (· = p) W w8) := HF1.out.trans hF
    have hbx : w8.heap[W.heap.size]? = some (.cells #[.int .i64 0, .int .i64 0, .string ⟨#[]⟩, .slice none 0 0, .slice none 0 0] 28) := by rw [hF.block W.heap.size (Array.getElem?_eq_some_iff.1 HX1.out).1 (by have := HP.out; show ¬ W.heap.size = p; omega)]; exact HX1.out
    clear z0 z1 z2 z3 z4 c0 c1 c2 c3 c4
    have z0 := frozen_at 0 hbx
    have c0 : w8.cell? ⟨W.heap.size, 0, none⟩ = some (.int .i64 0) := cell_at (o := 0) hbx rfl
    have z1 := frozen_at 1 hbx
    have c1 : w8.cell? ⟨W.heap.size, 1, none⟩ = some (.int .i64 0) := cell_at (o := 1) hbx rfl
    have z2 := frozen_at 2 hbx
    have c2 : w8.cell? ⟨W.heap.size, 2, none⟩ = some (.string ⟨#[]⟩) := cell_at (o := 2) hbx rfl
    have z3 := frozen_at 3 hbx
    have c3 : w8.cell? ⟨W.heap.size, 3, none⟩ = some (.slice none 0 0) := cell_at (o := 3) hbx rfl
    have z4 := frozen_at 4 hbx
    have c4 : w8.cell? ⟨W.heap.size, 4, none⟩ = some (.slice none 0 0) := cell_at (o := 4) hbx rfl
    have HB3 : Hid (partB ⟨3, 0, t3, [], []⟩ = true) := by show partB _ = true; rw [part3 rfl, ht3.1]; rfl
    have HT9 := Lib.hid ht3.2
    clear hbx hS hF ht3
    go_wp2_with fail
    refine bodyPost_ret (v := .agg #[.int .i64 3, .int .i64 0, .string ⟨t3.toArray⟩, .slice none 0 0, .slice none 0 0]) (by simp [results, Tryd.results11, go_sem, c0, c1, c2, c3, c4]) rfl ?_
    exact leafV (k := 3) (n := 0) (t := t3) (d := d) HB3.out HT9.out HP.out HF2.out HS2.out (by have := kd_pos d; omega)
  ·
    have HJ0 : Hid (JL W (w1.alloc (.cells #[.int .i64 4, .int .i64 0, .string ⟨#[]⟩, .slice none 0 0, .slice none 0 0] 28)) p S a l c (m + 1) w1.heap.size 4 [] [] (.slice none 0 0) (.slice none 0 0)) := ⟨⟨_, HS1.out.on (below_allocD _ _)⟩, heap_keptD HX1.out (below_allocD _ _), heap_newD _ _, HF1.out.trans (Frm.of_below (below_allocD _ _)), ⟨HP.out, (Array.getElem?_eq_some_iff.1 HX1.out).1⟩, SG.nil, SG.nil, fun g hg => (by cases hg), fun g hg => (by cases hg)⟩
    go_wp2_with fail
    refine (NX.out _ _ _ (HS1.out.on (below_allocD _ _)) (by omega) 4 (by omega) (by omega)).mono ?_
    rintro e w2 ⟨r4, s4, rfl, hr4, hS, hF⟩
    have HJ1 : Hid (JL W w2 p S a l c (m + 1 + 1) w1.heap.size 4 [] [] (.slice none 0 0) (.slice none 0 0)) := HJ0.out.draw hF ⟨s4, hS⟩
    obtain ⟨qb, hqb⟩ : ∃ q, q = w1.heap.size := ⟨_, rfl⟩
    rw [← hqb] at HJ1
    clear hS hF HJ0 HS1 HF1 HX1 HS0 HF0 HX0
    clear z0 z1 z2 z3 z4 c0 c1 c2 c3 c4
    go_wp2_with fail
    rw [← hqb]
    clear hqb
    have RC : Hid (∀ V, ∀ mm, (∃ s, Src V p S a l c mm s) → mm + kd d' < 1000000 → Calls Tryd.prog 11 #[.pointer (some ⟨p, 0, none⟩), .int .i64 (d' : Int)] V (JsonV V p S a l c mm d')) := fun V mm ⟨s, h⟩ hb => IH.out V mm s h hb
    go_loopw [7] (fun iv wr => ∃ (i' : Nat) (L : List J) (ia : Option Addr) (ic mm nn : Nat), i' + L.length = r4 ∧ iv = .int .i64 (i' : Int) ∧ Hid (JL W wr p S a l c mm qb 4 [] L (.slice none 0 0) (.slice ia L.length ic) ∧ mm ≤ m + 2 + L.length * kd d' ∧ sumO (L.map (cnt (d' + 1))) = some nn ∧ nn ≤ L.length * nd d' ∧ ∀ x ∈ L, Small x)) (fun iv _ => (intOf iv).toNat)
    case atStart => exact ⟨r4, [], none, 0, m + 1 + 1, 0, rfl, rfl, HJ1.out, by simp, rfl, by simp, fun _ h => absurd h (by simp)⟩
    case round =>
      obtain ⟨i', L, ia, ic, mm, nn, hij, rfl, HR⟩ := hrel
      have HJ := Lib.hid HR.out.1
      by_cases hi : i' = 0
      case pos =>
        subst hi
        have y0 := cell_at (o := 0) HJ.out.bx rfl
        have y1 := cell_at (o := 1) HJ.out.bx rfl
        have y2 := cell_at (o := 2) HJ.out.bx rfl
        have y3 := cell_at (o := 3) HJ.out.bx rfl
        have y4 := cell_at (o := 4) HJ.out.bx rfl
        have hbx := HJ.out.rv
        have z0 := frozen_at 0 hbx
        have c0 : wr.cell? ⟨W.heap.size, 0, none⟩ = some (.int .i64 0) := cell_at (o := 0) hbx rfl
        have z1 := frozen_at 1 hbx
        have c1 : wr.cell? ⟨W.heap.size, 1, none⟩ = some (.int .i64 0) := cell_at (o := 1) hbx rfl
        have z2 := frozen_at 2 hbx
        have c2 : wr.cell? ⟨W.heap.size, 2, none⟩ = some (.string ⟨#[]⟩) := cell_at (o := 2) hbx rfl
        have z3 := frozen_at 3 hbx
        have c3 : wr.cell? ⟨W.heap.size, 3, none⟩ = some (.slice none 0 0) := cell_at (o := 3) hbx rfl
        have z4 := frozen_at 4 hbx
        have c4 : wr.cell? ⟨W.heap.size, 4, none⟩ = some (.slice none 0 0) := cell_at (o := 4) hbx rfl
        clear hbx
        have HFIN := Lib.hid (HJ.out.fin (d := d) (n := 1 + nn) (m0 := m) (by rw [HD.out]; exact cnt_node rfl HR.out.2.2.1) (by rw [HD.out]; have := HR.out.2.2.2.1; have h4 : L.length * nd d' ≤ 4 * nd d' := Nat.mul_le_mul_right _ (by omega); unfold nd; omega) (.mk (by simp) (fun _ h => absurd h (by simp)) HR.out.2.2.2.2) (by have := HR.out.2.1; have h4 : L.length * kd d' ≤ 4 * kd d' := Nat.mul_le_mul_right _ (by omega); omega))
        clear HR HJ hij
        go_wp2_with fail
        refine bodyPost_ret (v := .agg #[.int .i64 4, .int .i64 0, .string ⟨#[]⟩, .slice none 0 0, .slice ia L.length ic]) (by simp [results, Tryd.results11, go_sem, c0, c1, c2, c3, c4]) rfl ?_
        exact HFIN.out
      obtain ⟨q1, rfl⟩ : ∃ q, i' = q + 1 := ⟨i' - 1, by omega⟩
      obtain ⟨i2, hi2⟩ : ∃ i2, i2 = q1 + 1 := ⟨_, rfl⟩
      have g1 : decide (0 < (i2 : Int)) = true := decide_eq_true (by omega)
      have g2 : decide (0 < i2) = true := decide_eq_true (by omega)
      have f1 : IntKind.i64.wrap ((i2 : Int) - 1) = (q1 : Int) := by rw [IntKind.wrap_i64]; omega
      have HQ : Hid (q1 + (L.length + 1) = r4 ∧ i2 = q1 + 1) := ⟨by omega, hi2⟩
      have HLL : Hid (L.length ≤ 3) := by show _ ≤ _; omega
      have RC2 : Hid (∀ V, (∃ s, Src V p S a l c mm s) → Calls Tryd.prog 11 #[.pointer (some ⟨p, 0, none⟩), .int .i64 (d' : Int)] V (JsonV V p S a l c mm d')) := fun V h => RC.out V mm h (by have h1 := HR.out.2.1; have h4 : L.length * kd d' ≤ 3 * kd d' := Nat.mul_le_mul_right _ HLL.out; omega)
      rw [← hi2]
      clear hi hi2 hij
      have HRN := Lib.hid HR.out.2
      clear HR
      go_wp2_with fail
      have RC3 := RC2
      clear RC RC2
      have RC := RC3
      clear RC3
      refine wp_region_held_drew (S := (fun _ => True)) (by kernel_rfl) trivial (fun hHeld => ?_)
      refine wpAnyH_take (i := 0) (v := ?_) rfl (by kernel_rfl) (by kernel_rfl) (by kernel_rfl) (fun _ _ _ h => h) (Or.inl ⟨by kernel_rfl, ?_⟩) (by assumption) ?_
      rotate_left
      · (intro wS hSw; (try dsimp only at hSw); go_simp <;> with_reducible rfl)
      try simp only [Act.put, tkS]
      refine wpAnyH_take (i := 2) (v := ?_) rfl (by kernel_rfl) (by kernel_rfl) (by kernel_rfl) (fun _ _ _ h => h) (Or.inl ⟨by kernel_rfl, ?_⟩) (by assumption) ?_
      rotate_left
      · (intro wS hSw; (try dsimp only at hSw); go_simp <;> with_reducible rfl)
      try simp only [Act.put, tkS]
      refine wpAnyH_take (i := 3) (v := ?_) rfl (by kernel_rfl) (by kernel_rfl) (by kernel_rfl) (fun _ _ _ h => h) (Or.inl ⟨by kernel_rfl, ?_⟩) (by assumption) ?_
      rotate_left
      · (intro wS hSw; (try dsimp only at hSw); go_simp <;> with_reducible rfl)
      try simp only [Act.put, tkS]
      refine wpAnyH_take (i := 4) (v := ?_) rfl (by kernel_rfl) (by kernel_rfl) (by kernel_rfl) (fun _ _ _ h => h) (Or.inl ⟨by kernel_rfl, ?_⟩) (by assumption) ?_
      rotate_left
      · (intro wS hSw; (try dsimp only at hSw); go_simp <;> with_reducible rfl)
      try simp only [Act.put, tkS]
      refine wpAnyH_ready (rs := [1, 5]) (by kernel_rfl) (by simp) (AllReadyH.cons rfl (fun K hK => ?_) (AllReadyH.cons rfl (fun K hK => ?_) AllReadyH.nil))
      ·
        have k4 := cell_at (o := 4) HJ.out.bx rfl
        have k4d := cell_at (o := 4) HJ.out.drew.bx rfl
        go_simp
        clear k4 k4d
        refine hK.out _ _ trivial (fun hHeld => ?_)
        clear hK K
        try simp only [Act.put, tkS]
        refine wpAnyH_ready (rs := [5]) (by kernel_rfl) (by simp) (AllReadyH.cons rfl (fun K hK => ?_) AllReadyH.nil)
        go_simp
        go_at_call 11
        refine (RC.out _ (by first | exact HJ.out.src | exact HJ.out.drew.src)).mono ?_
        rintro e w2 ⟨x, xa, xc, ya, yc, n2, m2, s2, rfl, hx1, hx2, hxs, hx3, hx4, hx5, hx6, hF⟩
        have hF' : Frm (· = p) wr w2 := (by first | exact hF | exact (Frm.of_below (Below.refl _ _).drew).trans hF)
        have HJ2 : Hid (JL W w2 p S a l c m2 qb 4 [] L (.slice none 0 0) (.slice ia L.length ic)) := HJ.out.draw hF' ⟨s2, hx5⟩
        have hsz : wr.heap.size ≤ wr.drew.heap.size := ((Below.refl wr.heap.size wr).drew).size
        have HX3 : Hid (Rd w2 (fun b => wr.heap.size ≤ b ∧ b < w2.heap.size) (.l 1 x.keys.length (dKs x.keys)) (.slice xa x.keys.length xc)) := hx3.mono (fun b hb => ⟨Nat.le_trans (by first | exact Nat.le_refl _ | exact hsz) hb.1, hb.2⟩)
        have HX4 : Hid (Rd w2 (fun b => wr.heap.size ≤ b ∧ b < w2.heap.size) (.l 5 x.items.length (dJs x.items)) (.slice ya x.items.length yc)) := hx4.mono (fun b hb => ⟨Nat.le_trans (by first | exact Nat.le_refl _ | exact hsz) hb.1, hb.2⟩)
        have HXN : Hid (cnt (d' + 1) x = some n2 ∧ n2 ≤ nd d' ∧ m2 ≤ mm + kd d' ∧ Small x) := ⟨hx1, hx2, hx6, hxs⟩
        clear hx1 hx2 hxs hx3 hx4 hx5 hx6 hF hF' hsz
        refine hK.out _ _ trivial (fun hHeld => ?_)
        clear hK K
        try simp only [Act.put, tkS]
        refine wpAnyH_ready (rs := [6]) (by kernel_rfl) (by simp) (AllReadyH.cons rfl (fun K hK => ?_) AllReadyH.nil)
        go_simp
        have HJ3 : Hid (JL W (w2.alloc (.cells #[.int .i64 x.k, .int .i64 x.n, .string ⟨x.t.toArray⟩, .slice xa x.keys.length xc, .slice ya x.items.length yc] 28)) p S a l c m2 qb 4 [] L (.slice none 0 0) (.slice ia L.length ic)) := HJ2.out.later (below_allocD _ _)
        have HROW : Hid ((w2.alloc (.cells #[.int .i64 x.k, .int .i64 x.n, .string ⟨x.t.toArray⟩, .slice xa x.keys.length xc, .slice ya x.items.length yc] 28)).heap[w2.heap.size]? = some (.cells #[.int .i64 x.k, .int .i64 x.n, .string ⟨x.t.toArray⟩, .slice xa x.keys.length xc, .slice ya x.items.length yc] 28)) := heap_newD _ _
        have HX3' : Hid (Rd (w2.alloc (.cells #[.int .i64 x.k, .int .i64 x.n, .string ⟨x.t.toArray⟩, .slice xa x.keys.length xc, .slice ya x.items.length yc] 28)) (fun b => wr.heap.size ≤ b ∧ b < w2.heap.size) (.l 1 x.keys.length (dKs x.keys)) (.slice xa x.keys.length xc)) := Rd.later HX3.out (below_allocD _ _)
        have HX4' : Hid (Rd (w2.alloc (.cells #[.int .i64 x.k, .int .i64 x.n, .string ⟨x.t.toArray⟩, .slice xa x.keys.length xc, .slice ya x.items.length yc] 28)) (fun b => wr.heap.size ≤ b ∧ b < w2.heap.size) (.l 5 x.items.length (dJs x.items)) (.slice ya x.items.length yc)) := Rd.later HX4.out (below_allocD _ _)
        have HLT : Hid (w2.heap.size ≤ (w2.alloc (.cells #[.int .i64 x.k, .int .i64 x.n, .string ⟨x.t.toArray⟩, .slice xa x.keys.length xc, .slice ya x.items.length yc] 28)).heap.size) := (below_allocD w2 _).size
        have HJ2' := HJ3
        clear HJ2 HX3 HX4
        have HJ2 := HJ2'
        clear HJ2'
        generalize (w2.alloc (.cells #[.int .i64 x.k, .int .i64 x.n, .string ⟨x.t.toArray⟩, .slice xa x.keys.length xc, .slice ya x.items.length yc] 28)) = V at *
        refine hK.out _ _ trivial (fun hHeld => ?_)
        clear hK K
        try simp only [Act.put, tkS]
        refine wpAnyH_ready (rs := [7]) (by kernel_rfl) (by simp) (AllReadyH.cons rfl (fun K hK => ?_) AllReadyH.nil)
        have hng : ∀ b, wr.heap.size ≤ b → W.heap.size < b ∧ b ≠ qb ∧ (Value.ownBlock (.slice none 0 0)) ≠ some b ∧ (Value.ownBlock (.slice ia L.length ic)) ≠ some b := fun b hb => ⟨by have h1 := HJ.out.lt; have h2 := HJ.out.qlt; omega, by have h2 := HJ.out.qlt; omega, fun e => by have := HJ.out.kn b e; omega, fun e => by have := HJ.out.vn b e; omega⟩
        obtain ⟨iJ, hiJ⟩ := infoJv
        refine step_grow rfl (.tmp 52) (.tmp 57) 26 rfl (v := (.slice ia L.length ic)) (by rfl) (HJ3.out.is.conv (f' := dJs (L ++ [x])) (fun i j hi => dJs_old hi j) (fun _ _ h => h)) iJ _ 80 Tryd.underlying26 hiJ.1 hiJ.2.1 hiJ.2.2.1 hiJ.2.2.2 rfl (by omega) ⟨w2.heap.size, 0, none⟩ 1 (by rfl) [.int .i64 x.k, .int .i64 x.n, .string ⟨x.t.toArray⟩, .slice xa x.keys.length xc, .slice ya x.items.length yc] rfl ?n1 ?n2 (by have := HLL.out; unfold maxLen; omega) (by have := HLL.out; omega) (by have := HJ.out.lt; have := HJ.out.qlt; have := HJ3.out.fr.size; have := HJ3.out.qlt; omega) ?n3 ?n4
        case n1 =>
          intro j u hu
          rw [Addr.add_mid, Nat.zero_add]
          exact cell_at (o := j) HROW.out (by simpa using hu)
        case n2 =>
          intro u hu
          simp only [List.mem_cons, List.not_mem_nil, or_false] at hu
          rcases hu with rfl | rfl | rfl | rfl | rfl <;> rfl
        case n3 =>
          intro j hj
          rw [dJs_new]
          rcases (by omega : j = 0 ∨ j = 1 ∨ j = 2 ∨ j = 3 ∨ j = 4) with rfl | rfl | rfl | rfl | rfl
          · exact ⟨_, rfl, by rw [dJ_0]; rfl⟩
          · exact ⟨_, rfl, by rw [dJ_1]; rfl⟩
          · exact ⟨_, rfl, by rw [dJ_2]; rfl⟩
          · exact ⟨_, rfl, by rw [dJ_3]; exact HX3'.out.mono (fun b hb => by have h1 := hng b hb.1; exact ⟨⟨h1.2.2.2, Nat.lt_of_lt_of_le hb.2 HLT.out⟩, h1.1, h1.2.1, h1.2.2.1⟩)⟩
          · exact ⟨_, rfl, by rw [dJ_4]; exact HX4'.out.mono (fun b hb => by have h1 := hng b hb.1; exact ⟨⟨h1.2.2.2, Nat.lt_of_lt_of_le hb.2 HLT.out⟩, h1.1, h1.2.1, h1.2.2.1⟩)⟩
        case n4 =>
          intro a' c' w3 hsg hgr hog
          have HJ4 : Hid (JL W (w3.setCell ⟨qb, 4, none⟩ (.slice a' (L.length + 1) c')) p S a l c m2 qb 4 [] (L ++ [x]) (.slice none 0 0) (.slice a' (L.length + 1) c')) := HJ3.out.item hsg hgr hog
          have hb3 : w3.heap[qb]? = some (.cells #[.int .i64 4, .int .i64 0, .string ⟨#[]⟩, (.slice none 0 0), (.slice ia L.length ic)] 28) := by rw [hgr.block qb HJ3.out.qlt (fun e => (HJ3.out.vn _ e.symm).2.1 rfl)]; exact HJ3.out.bx
          have k4 := cell_at (o := 4) hb3 rfl
          have k4f := frozen_at 4 hb3
          clear hb3 hsg hgr hog hng hiJ HJ3 HJ2 HX3' HX4' HLT HROW
          refine hK.out _ _ trivial (fun hHeld => ?_)
          clear hK K
          try simp only [Act.put, tkS]
          refine wpAnyH_take (i := 8) (v := ?_) rfl (by kernel_rfl) (by kernel_rfl) (by kernel_rfl) (fun _ _ _ h => h) (Or.inl ⟨by kernel_rfl, ?_⟩) (by assumption) ?_
          rotate_left
          · (intro wS hSw; (try dsimp only at hSw); go_simp <;> with_reducible rfl)
          try simp only [Act.put, tkS]
          refine wpAnyH_ready (rs := [9]) (by kernel_rfl) (by simp) (AllReadyH.cons rfl (fun K hK => ?_) AllReadyH.nil)
          go_simp
          refine hK.out _ _ trivial (fun hHeld => ?_)
          clear hK K
          try simp only [Act.put, tkS]
          refine wpAnyH_done (by kernel_rfl) ?_ _
          clear k4 k4f
          go_wp2_with fail
          go_roundw
          case rel => exact ⟨q1, L ++ [x], a', c', m2, nn + n2, by have := HQ.out.1; simpa using this, rfl, by rw [List.length_append]; exact HJ4.out, by have h1 := HRN.out.1; have h2 := HXN.out.2.2.1; rw [List.length_append, List.length_singleton, Nat.add_mul, Nat.one_mul]; omega, sumO_snoc HRN.out.2.1 HXN.out.1, by have h1 := HRN.out.2.2.1; have h2 := HXN.out.2.1; rw [List.length_append, List.length_singleton, Nat.add_mul, Nat.one_mul]; omega, small_snoc HRN.out.2.2.2 HXN.out.2.2.2⟩
          case measure => have := HQ.out.2; simp [intOf]; omega
      ·
        go_simp
        go_at_call 11
        refine (RC.out _ (by first | exact HJ.out.src | exact HJ.out.drew.src)).mono ?_
        rintro e w2 ⟨x, xa, xc, ya, yc, n2, m2, s2, rfl, hx1, hx2, hxs, hx3, hx4, hx5, hx6, hF⟩
        have hF' : Frm (· = p) wr w2 := (by first | exact hF | exact (Frm.of_below (Below.refl _ _).drew).trans hF)
        have HJ2 : Hid (JL W w2 p S a l c m2 qb 4 [] L (.slice none 0 0) (.slice ia L.length ic)) := HJ.out.draw hF' ⟨s2, hx5⟩
        have hsz : wr.heap.size ≤ wr.drew.heap.size := ((Below.refl wr.heap.size wr).drew).size
        have HX3 : Hid (Rd w2 (fun b => wr.heap.size ≤ b ∧ b < w2.heap.size) (.l 1 x.keys.length (dKs x.keys)) (.slice xa x.keys.length xc)) := hx3.mono (fun b hb => ⟨Nat.le_trans (by first | exact Nat.le_refl _ | exact hsz) hb.1, hb.2⟩)
        have HX4 : Hid (Rd w2 (fun b => wr.heap.size ≤ b ∧ b < w2.heap.size) (.l 5 x.items.length (dJs x.items)) (.slice ya x.items.length yc)) := hx4.mono (fun b hb => ⟨Nat.le_trans (by first | exact Nat.le_refl _ | exact hsz) hb.1, hb.2⟩)
        have HXN : Hid (cnt (d' + 1) x = some n2 ∧ n2 ≤ nd d' ∧ m2 ≤ mm + kd d' ∧ Small x) := ⟨hx1, hx2, hx6, hxs⟩
        clear hx1 hx2 hxs hx3 hx4 hx5 hx6 hF hF' hsz
        refine hK.out _ _ trivial (fun hHeld => ?_)
        clear hK K
        try simp only [Act.put, tkS]
        refine wpAnyH_ready (rs := [1, 6]) (by kernel_rfl) (by simp) (AllReadyH.cons rfl (fun K hK => ?_) (AllReadyH.cons rfl (fun K hK => ?_) AllReadyH.nil))
        ·
          have k4 := cell_at (o := 4) HJ2.out.bx rfl
          go_simp
          clear k4
          refine hK.out _ _ trivial (fun hHeld => ?_)
          clear hK K
          try simp only [Act.put, tkS]
          refine wpAnyH_ready (rs := [6]) (by kernel_rfl) (by simp) (AllReadyH.cons rfl (fun K hK => ?_) AllReadyH.nil)
          go_simp
          have HJ3 : Hid (JL W (w2.alloc (.cells #[.int .i64 x.k, .int .i64 x.n, .string ⟨x.t.toArray⟩, .slice xa x.keys.length xc, .slice ya x.items.length yc] 28)) p S a l c m2 qb 4 [] L (.slice none 0 0) (.slice ia L.length ic)) := HJ2.out.later (below_allocD _ _)
          have HROW : Hid ((w2.alloc (.cells #[.int .i64 x.k, .int .i64 x.n, .string ⟨x.t.toArray⟩, .slice xa x.keys.length xc, .slice ya x.items.length yc] 28)).heap[w2.heap.size]? = some (.cells #[.int .i64 x.k, .int .i64 x.n, .string ⟨x.t.toArray⟩, .slice xa x.keys.length xc, .slice ya x.items.length yc] 28)) := heap_newD _ _
          have HX3' : Hid (Rd (w2.alloc (.cells #[.int .i64 x.k, .int .i64 x.n, .string ⟨x.t.toArray⟩, .slice xa x.keys.length xc, .slice ya x.items.length yc] 28)) (fun b => wr.heap.size ≤ b ∧ b < w2.heap.size) (.l 1 x.keys.length (dKs x.keys)) (.slice xa x.keys.length xc)) := Rd.later HX3.out (below_allocD _ _)
          have HX4' : Hid (Rd (w2.alloc (.cells #[.int .i64 x.k, .int .i64 x.n, .string ⟨x.t.toArray⟩, .slice xa x.keys.length xc, .slice ya x.items.length yc] 28)) (fun b => wr.heap.size ≤ b ∧ b < w2.heap.size) (.l 5 x.items.length (dJs x.items)) (.slice ya x.items.length yc)) := Rd.later HX4.out (below_allocD _ _)
          have HLT : Hid (w2.heap.size ≤ (w2.alloc (.cells #[.int .i64 x.k, .int .i64 x.n, .string ⟨x.t.toArray⟩, .slice xa x.keys.length xc, .slice ya x.items.length yc] 28)).heap.size) := (below_allocD w2 _).size
          have HJ2' := HJ3
          clear HJ2 HX3 HX4
          have HJ2 := HJ2'
          clear HJ2'
          generalize (w2.alloc (.cells #[.int .i64 x.k, .int .i64 x.n, .string ⟨x.t.toArray⟩, .slice xa x.keys.length xc, .slice ya x.items.length yc] 28)) = V at *
          refine hK.out _ _ trivial (fun hHeld => ?_)
          clear hK K
          try simp only [Act.put, tkS]
          refine wpAnyH_ready (rs := [7]) (by kernel_rfl) (by simp) (AllReadyH.cons rfl (fun K hK => ?_) AllReadyH.nil)
          have hng : ∀ b, wr.heap.size ≤ b → W.heap.size < b ∧ b ≠ qb ∧ (Value.ownBlock (.slice none 0 0)) ≠ some b ∧ (Value.ownBlock (.slice ia L.length ic)) ≠ some b := fun b hb => ⟨by have h1 := HJ.out.lt; have h2 := HJ.out.qlt; omega, by have h2 := HJ.out.qlt; omega, fun e => by have := HJ.out.kn b e; omega, fun e => by have := HJ.out.vn b e; omega⟩
          obtain ⟨iJ, hiJ⟩ := infoJv
          refine step_grow rfl (.tmp 52) (.tmp 57) 26 rfl (v := (.slice ia L.length ic)) (by rfl) (HJ3.out.is.conv (f' := dJs (L ++ [x])) (fun i j hi => dJs_old hi j) (fun _ _ h => h)) iJ _ 80 Tryd.underlying26 hiJ.1 hiJ.2.1 hiJ.2.2.1 hiJ.2.2.2 rfl (by omega) ⟨w2.heap.size, 0, none⟩ 1 (by rfl) [.int .i64 x.k, .int .i64 x.n, .string ⟨x.t.toArray⟩, .slice xa x.keys.length xc, .slice ya x.items.length yc] rfl ?n1 ?n2 (by have := HLL.out; unfold maxLen; omega) (by have := HLL.out; omega) (by have := HJ.out.lt; have := HJ.out.qlt; have := HJ3.out.fr.size; have := HJ3.out.qlt; omega) ?n3 ?n4
          case n1 =>
            intro j u hu
            rw [Addr.add_mid, Nat.zero_add]
            exact cell_at (o := j) HROW.out (by simpa using hu)
          case n2 =>
            intro u hu
            simp only [List.mem_cons, List.not_mem_nil, or_false] at hu
            rcases hu with rfl | rfl | rfl | rfl | rfl <;> rfl
          case n3 =>
            intro j hj
            rw [dJs_new]
            rcases (by omega : j = 0 ∨ j = 1 ∨ j = 2 ∨ j = 3 ∨ j = 4) with rfl | rfl | rfl | rfl | rfl
            · exact ⟨_, rfl, by rw [dJ_0]; rfl⟩
            · exact ⟨_, rfl, by rw [dJ_1]; rfl⟩
            · exact ⟨_, rfl, by rw [dJ_2]; rfl⟩
            · exact ⟨_, rfl, by rw [dJ_3]; exact HX3'.out.mono (fun b hb => by have h1 := hng b hb.1; exact ⟨⟨h1.2.2.2, Nat.lt_of_lt_of_le hb.2 HLT.out⟩, h1.1, h1.2.1, h1.2.2.1⟩)⟩
            · exact ⟨_, rfl, by rw [dJ_4]; exact HX4'.out.mono (fun b hb => by have h1 := hng b hb.1; exact ⟨⟨h1.2.2.2, Nat.lt_of_lt_of_le hb.2 HLT.out⟩, h1.1, h1.2.1, h1.2.2.1⟩)⟩
          case n4 =>
            intro a' c' w3 hsg hgr hog
            have HJ4 : Hid (JL W (w3.setCell ⟨qb, 4, none⟩ (.slice a' (L.length + 1) c')) p S a l c m2 qb 4 [] (L ++ [x]) (.slice none 0 0) (.slice a' (L.length + 1) c')) := HJ3.out.item hsg hgr hog
            have hb3 : w3.heap[qb]? = some (.cells #[.int .i64 4, .int .i64 0, .string ⟨#[]⟩, (.slice none 0 0), (.slice ia L.length ic)] 28) := by rw [hgr.block qb HJ3.out.qlt (fun e => (HJ3.out.vn _ e.symm).2.1 rfl)]; exact HJ3.out.bx
            have k4 := cell_at (o := 4) hb3 rfl
            have k4f := frozen_at 4 hb3
            clear hb3 hsg hgr hog hng hiJ HJ3 HJ2 HX3' HX4' HLT HROW
            refine hK.out _ _ trivial (fun hHeld => ?_)
            clear hK K
            try simp only [Act.put, tkS]
            refine wpAnyH_take (i := 8) (v := ?_) rfl (by kernel_rfl) (by kernel_rfl) (by kernel_rfl) (fun _ _ _ h => h) (Or.inl ⟨by kernel_rfl, ?_⟩) (by assumption) ?_
            rotate_left
            · (intro wS hSw; (try dsimp only at hSw); go_simp <;> with_reducible rfl)
            try simp only [Act.put, tkS]
            refine wpAnyH_ready (rs := [9]) (by kernel_rfl) (by simp) (AllReadyH.cons rfl (fun K hK => ?_) AllReadyH.nil)
            go_simp
            refine hK.out _ _ trivial (fun hHeld => ?_)
            clear hK K
            try simp only [Act.put, tkS]
            refine wpAnyH_done (by kernel_rfl) ?_ _
            clear k4 k4f
            go_wp2_with fail
            go_roundw
            case rel => exact ⟨q1, L ++ [x], a', c', m2, nn + n2, by have := HQ.out.1; simpa using this, rfl, by rw [List.length_append]; exact HJ4.out, by have h1 := HRN.out.1; have h2 := HXN.out.2.2.1; rw [List.length_append, List.length_singleton, Nat.add_mul, Nat.one_mul]; omega, sumO_snoc HRN.out.2.1 HXN.out.1, by have h1 := HRN.out.2.2.1; have h2 := HXN.out.2.1; rw [List.length_append, List.length_singleton, Nat.add_mul, Nat.one_mul]; omega, small_snoc HRN.out.2.2.2 HXN.out.2.2.2⟩
            case measure => have := HQ.out.2; simp [intOf]; omega
        ·
          go_simp
          have HJ3 : Hid (JL W (w2.alloc (.cells #[.int .i64 x.k, .int .i64 x.n, .string ⟨x.t.toArray⟩, .slice xa x.keys.length xc, .slice ya x.items.length yc] 28)) p S a l c m2 qb 4 [] L (.slice none 0 0) (.slice ia L.length ic)) := HJ2.out.later (below_allocD _ _)
          have HROW : Hid ((w2.alloc (.cells #[.int .i64 x.k, .int .i64 x.n, .string ⟨x.t.toArray⟩, .slice xa x.keys.length xc, .slice ya x.items.length yc] 28)).heap[w2.heap.size]? = some (.cells #[.int .i64 x.k, .int .i64 x.n, .string ⟨x.t.toArray⟩, .slice xa x.keys.length xc, .slice ya x.items.length yc] 28)) := heap_newD _ _
          have HX3' : Hid (Rd (w2.alloc (.cells #[.int .i64 x.k, .int .i64 x.n, .string ⟨x.t.toArray⟩, .slice xa x.keys.length xc, .slice ya x.items.length yc] 28)) (fun b => wr.heap.size ≤ b ∧ b < w2.heap.size) (.l 1 x.keys.length (dKs x.keys)) (.slice xa x.keys.length xc)) := Rd.later HX3.out (below_allocD _ _)
          have HX4' : Hid (Rd (w2.alloc (.cells #[.int .i64 x.k, .int .i64 x.n, .string ⟨x.t.toArray⟩, .slice xa x.keys.length xc, .slice ya x.items.length yc] 28)) (fun b => wr.heap.size ≤ b ∧ b < w2.heap.size) (.l 5 x.items.length (dJs x.items)) (.slice ya x.items.length yc)) := Rd.later HX4.out (below_allocD _ _)
          have HLT : Hid (w2.heap.size ≤ (w2.alloc (.cells #[.int .i64 x.k, .int .i64 x.n, .string ⟨x.t.toArray⟩, .slice xa x.keys.length xc, .slice ya x.items.length yc] 28)).heap.size) := (below_allocD w2 _).size
          have HJ2' := HJ3
          clear HJ2 HX3 HX4
          have HJ2 := HJ2'
          clear HJ2'
          generalize (w2.alloc (.cells #[.int .i64 x.k, .int .i64 x.n, .string ⟨x.t.toArray⟩, .slice xa x.keys.length xc, .slice ya x.items.length yc] 28)) = V at *
          refine hK.out _ _ trivial (fun hHeld => ?_)
          clear hK K
          try simp only [Act.put, tkS]
          refine wpAnyH_ready (rs := [1]) (by kernel_rfl) (by simp) (AllReadyH.cons rfl (fun K hK => ?_) AllReadyH.nil)
          have k4 := cell_at (o := 4) HJ2.out.bx rfl
          go_simp
          clear k4
          refine hK.out _ _ trivial (fun hHeld => ?_)
          clear hK K
          try simp only [Act.put, tkS]
          refine wpAnyH_ready (rs := [7]) (by kernel_rfl) (by simp) (AllReadyH.cons rfl (fun K hK => ?_) AllReadyH.nil)
          have hng : ∀ b, wr.heap.size ≤ b → W.heap.size < b ∧ b ≠ qb ∧ (Value.ownBlock (.slice none 0 0)) ≠ some b ∧ (Value.ownBlock (.slice ia L.length ic)) ≠ some b := fun b hb => ⟨by have h1 := HJ.out.lt; have h2 := HJ.out.qlt; omega, by have h2 := HJ.out.qlt; omega, fun e => by have := HJ.out.kn b e; omega, fun e => by have := HJ.out.vn b e; omega⟩
          obtain ⟨iJ, hiJ⟩ := infoJv
          refine step_grow rfl (.tmp 52) (.tmp 57) 26 rfl (v := (.slice ia L.length ic)) (by rfl) (HJ3.out.is.conv (f' := dJs (L ++ [x])) (fun i j hi => dJs_old hi j) (fun _ _ h => h)) iJ _ 80 Tryd.underlying26 hiJ.1 hiJ.2.1 hiJ.2.2.1 hiJ.2.2.2 rfl (by omega) ⟨w2.heap.size, 0, none⟩ 1 (by rfl) [.int .i64 x.k, .int .i64 x.n, .string ⟨x.t.toArray⟩, .slice xa x.keys.length xc, .slice ya x.items.length yc] rfl ?n1 ?n2 (by have := HLL.out; unfold maxLen; omega) (by have := HLL.out; omega) (by have := HJ.out.lt; have := HJ.out.qlt; have := HJ3.out.fr.size; have := HJ3.out.qlt; omega) ?n3 ?n4
          case n1 =>
            intro j u hu
            rw [Addr.add_mid, Nat.zero_add]
            exact cell_at (o := j) HROW.out (by simpa using hu)
          case n2 =>
            intro u hu
            simp only [List.mem_cons, List.not_mem_nil, or_false] at hu
            rcases hu with rfl | rfl | rfl | rfl | rfl <;> rfl
          case n3 =>
            intro j hj
            rw [dJs_new]
            rcases (by omega : j = 0 ∨ j = 1 ∨ j = 2 ∨ j = 3 ∨ j = 4) with rfl | rfl | rfl | rfl | rfl
            · exact ⟨_, rfl, by rw [dJ_0]; rfl⟩
            · exact ⟨_, rfl, by rw [dJ_1]; rfl⟩
            · exact ⟨_, rfl, by rw [dJ_2]; rfl⟩
            · exact ⟨_, rfl, by rw [dJ_3]; exact HX3'.out.mono (fun b hb => by have h1 := hng b hb.1; exact ⟨⟨h1.2.2.2, Nat.lt_of_lt_of_le hb.2 HLT.out⟩, h1.1, h1.2.1, h1.2.2.1⟩)⟩
            · exact ⟨_, rfl, by rw [dJ_4]; exact HX4'.out.mono (fun b hb => by have h1 := hng b hb.1; exact ⟨⟨h1.2.2.2, Nat.lt_of_lt_of_le hb.2 HLT.out⟩, h1.1, h1.2.1, h1.2.2.1⟩)⟩
          case n4 =>
            intro a' c' w3 hsg hgr hog
            have HJ4 : Hid (JL W (w3.setCell ⟨qb, 4, none⟩ (.slice a' (L.length + 1) c')) p S a l c m2 qb 4 [] (L ++ [x]) (.slice none 0 0) (.slice a' (L.length + 1) c')) := HJ3.out.item hsg hgr hog
            have hb3 : w3.heap[qb]? = some (.cells #[.int .i64 4, .int .i64 0, .string ⟨#[]⟩, (.slice none 0 0), (.slice ia L.length ic)] 28) := by rw [hgr.block qb HJ3.out.qlt (fun e => (HJ3.out.vn _ e.symm).2.1 rfl)]; exact HJ3.out.bx
            have k4 := cell_at (o := 4) hb3 rfl
            have k4f := frozen_at 4 hb3
            clear hb3 hsg hgr hog hng hiJ HJ3 HJ2 HX3' HX4' HLT HROW
            refine hK.out _ _ trivial (fun hHeld => ?_)
            clear hK K
            try simp only [Act.put, tkS]
            refine wpAnyH_take (i := 8) (v := ?_) rfl (by kernel_rfl) (by kernel_rfl) (by kernel_rfl) (fun _ _ _ h => h) (Or.inl ⟨by kernel_rfl, ?_⟩) (by assumption) ?_
            rotate_left
            · (intro wS hSw; (try dsimp only at hSw); go_simp <;> with_reducible rfl)
            try simp only [Act.put, tkS]
            refine wpAnyH_ready (rs := [9]) (by kernel_rfl) (by simp) (AllReadyH.cons rfl (fun K hK => ?_) AllReadyH.nil)
            go_simp
            refine hK.out _ _ trivial (fun hHeld => ?_)
            clear hK K
            try simp only [Act.put, tkS]
            refine wpAnyH_done (by kernel_rfl) ?_ _
            clear k4 k4f
            go_wp2_with fail
            go_roundw
            case rel => exact ⟨q1, L ++ [x], a', c', m2, nn + n2, by have := HQ.out.1; simpa using this, rfl, by rw [List.length_append]; exact HJ4.out, by have h1 := HRN.out.1; have h2 := HXN.out.2.2.1; rw [List.length_append, List.length_singleton, Nat.add_mul, Nat.one_mul]; omega, sumO_snoc HRN.out.2.1 HXN.out.1, by have h1 := HRN.out.2.2.1; have h2 := HXN.out.2.1; rw [List.length_append, List.length_singleton, Nat.add_mul, Nat.one_mul]; omega, small_snoc HRN.out.2.2.2 HXN.out.2.2.2⟩
            case measure => have := HQ.out.2; simp [intOf]; omega
  ·
    have HJ1 : Hid (JL W (w1.alloc (.cells #[.int .i64 5, .int .i64 0, .string ⟨#[]⟩, .slice none 0 0, .slice none 0 0] 28)) p S a l c (m + 1) w1.heap.size 5 [] [] (.slice none 0 0) (.slice none 0 0)) := ⟨⟨_, HS1.out.on (below_allocD _ _)⟩, heap_keptD HX1.out (below_allocD _ _), heap_newD _ _, HF1.out.trans (Frm.of_below (below_allocD _ _)), ⟨HP.out, (Array.getElem?_eq_some_iff.1 HX1.out).1⟩, SG.nil, SG.nil, fun g hg => (by cases hg), fun g hg => (by cases hg)⟩
    clear HS1 HF1 HX1 HS0 HF0 HX0
    clear z0 z1 z2 z3 z4 c0 c1 c2 c3 c4
    go_wp2_with fail
    generalize (w1.alloc (.cells #[.int .i64 5, .int .i64 0, .string ⟨#[]⟩, .slice none 0 0, .slice none 0 0] 28)) = wv at *
    generalize w1.heap.size = qb at *
    have RC : Hid (∀ V, ∀ mm, (∃ s, Src V p S a l c mm s) → mm + kd d' < 1000000 → Calls Tryd.prog 11 #[.pointer (some ⟨p, 0, none⟩), .int .i64 (d' : Int)] V (JsonV V p S a l c mm d')) := fun V mm ⟨s, h⟩ hb => IH.out V mm s h hb
    have CH : Hid (∀ V mm, (∃ s, Src V p S a l c mm s) → mm < 1000000 → Calls Tryd.prog 21 #[.pointer (some ⟨p, 0, none⟩), .int .i64 2] V (ChanceV V p S a l c mm)) := fun V mm ⟨s, h⟩ hb => srcChanceV h hb 2 (by omega) (by omega)
    go_loopw [9] (fun iv wr => ∃ (ni : Nat) (keys : List (List UInt8)) (L : List J) (ka : Option Addr) (kc : Nat) (ia : Option Addr) (ic mm nn : Nat), ni ≤ 4 ∧ iv = .int .i64 (ni : Int) ∧ Hid (JL W wr p S a l c mm qb 5 keys L (.slice ka keys.length kc) (.slice ia L.length ic) ∧ mm ≤ m + 1 + ni * (1 + kd d') ∧ sumO (L.map (cnt (d' + 1))) = some nn ∧ nn ≤ L.length * nd d' ∧ keys.length = L.length ∧ keys.Sublist (fourK.take ni) ∧ ∀ x ∈ L, Small x)) (fun iv _ => 4 - (intOf iv).toNat)
    case atStart => exact ⟨0, [], [], none, 0, none, 0, m + 1, 0, by omega, rfl, HJ1.out, by simp, rfl, by simp, rfl, by simp, fun _ h => absurd h (by simp)⟩
    case round =>
      obtain ⟨ni, keys, L, ka, kc, ia, ic, mm, nn, hn4, rfl, HR⟩ := hrel
      have HJ := Lib.hid HR.out.1
      have HLN : Hid (L.length ≤ ni) := by have h1 := HR.out.2.2.2.2.1; have h2 := HR.out.2.2.2.2.2.1.length_le; rw [List.length_take] at h2; show _ ≤ _; omega
      by_cases hi : ni = 4
      case pos =>
        subst hi
        have y0 := cell_at (o := 0) HJ.out.bx rfl
        have y1 := cell_at (o := 1) HJ.out.bx rfl
        have y2 := cell_at (o := 2) HJ.out.bx rfl
        have y3 := cell_at (o := 3) HJ.out.bx rfl
        have y4 := cell_at (o := 4) HJ.out.bx rfl
        have hbx := HJ.out.rv
        have z0 := frozen_at 0 hbx
        have c0 : wr.cell? ⟨W.heap.size, 0, none⟩ = some (.int .i64 0) := cell_at (o := 0) hbx rfl
        have z1 := frozen_at 1 hbx
        have c1 : wr.cell? ⟨W.heap.size, 1, none⟩ = some (.int .i64 0) := cell_at (o := 1) hbx rfl
        have z2 := frozen_at 2 hbx
        have c2 : wr.cell? ⟨W.heap.size, 2, none⟩ = some (.string ⟨#[]⟩) := cell_at (o := 2) hbx rfl
        have z3 := frozen_at 3 hbx
        have c3 : wr.cell? ⟨W.heap.size, 3, none⟩ = some (.slice none 0 0) := cell_at (o := 3) hbx rfl
        have z4 := frozen_at 4 hbx
        have c4 : wr.cell? ⟨W.heap.size, 4, none⟩ = some (.slice none 0 0) := cell_at (o := 4) hbx rfl
        clear hbx
        have HFIN := Lib.hid (HJ.out.fin (d := d) (n := 1 + nn) (m0 := m) (by rw [HD.out]; exact cnt_node (obj_part HR.out.2.2.2.2.1 HR.out.2.2.2.2.2.1) HR.out.2.2.1) (by rw [HD.out]; have := HR.out.2.2.2.1; have h4 : L.length * nd d' ≤ 4 * nd d' := Nat.mul_le_mul_right _ HLN.out; unfold nd; omega) (.mk (by simp) (four_len HR.out.2.2.2.2.2.1) HR.out.2.2.2.2.2.2) (by have := HR.out.2.1; omega))
        clear HR HJ HLN hn4
        go_wp2_with fail
        refine bodyPost_ret (v := .agg #[.int .i64 5, .int .i64 0, .string ⟨#[]⟩, .slice ka keys.length kc, .slice ia L.length ic]) (by simp [results, Tryd.results11, go_sem, c0, c1, c2, c3, c4]) rfl ?_
        exact HFIN.out
      have hn : ni < 4 := by omega
      have g1 : decide ((ni : Int) < 4) = true := decide_eq_true (by omega)
      have g3 : (ni : Int) < 4 := by omega
      have f1 : IntKind.i64.wrap ((ni : Int) + 1) = ((ni + 1 : Nat) : Int) := by rw [IntKind.wrap_i64]; omega
      have hmb : mm + kd d' + 1 < 1000000 := by have h1 := HR.out.2.1; have h4 : ni * (1 + kd d') ≤ 3 * (1 + kd d') := Nat.mul_le_mul_right _ (by omega); omega
      clear hi hn4
      go_wp2_with fail
      refine (CH.out _ _ HJ.out.src (by omega)).mono ?_
      rintro e w2 ⟨b2, s2, rfl, hS, hF⟩
      have HJ2 := Lib.hid (HJ.out.draw hF ⟨s2, hS⟩)
      clear hS hF
      cases b2
      case false =>
        go_wp2_with fail
        go_roundw
        case rel => exact ⟨ni + 1, keys, L, ka, kc, ia, ic, mm + 1, nn, by omega, by go_num, HJ2.out, by have h1 := HR.out.2.1; rw [Nat.add_mul, Nat.one_mul]; omega, HR.out.2.2.1, HR.out.2.2.2.1, HR.out.2.2.2.2.1, HR.out.2.2.2.2.2.1.trans (List.take_sublist_take_left (by omega)), HR.out.2.2.2.2.2.2⟩
        case measure => simp [intOf]; omega
      case true =>
        obtain ⟨x4, hx4⟩ : ∃ x, x = fourK.getD ni [] := ⟨_, rfl⟩
        have H4 : Hid (∀ (V : World) {b : Nat}, V.heap[b]? = some (.cells #[.string ⟨#[97]⟩, .string ⟨#[98]⟩, .string ⟨#[107]⟩, .string ⟨#[122, 122]⟩] 9) → V.cell? ⟨b, ni, none⟩ = some (.string ⟨x4.toArray⟩)) := fun V b h => by rw [hx4]; rcases (by omega : ni = 0 ∨ ni = 1 ∨ ni = 2 ∨ ni = 3) with rfl | rfl | rfl | rfl <;> exact cell_at h rfl
        have HX4 := Lib.hid hx4
        obtain ⟨m1, hm1⟩ : ∃ x, x = mm + 1 := ⟨_, rfl⟩
        rw [← hm1] at HJ2
        have HRN := Lib.hid HR.out.2
        have HM1 := Lib.hid (And.intro hm1 hmb)
        clear HR HJ hx4 hm1 hmb
        have HKL : Hid (keys.length ≤ 3 ∧ L.length ≤ 3) := by have h1 := HRN.out.2.2.2.1; have h2 := HLN.out; show _ ∧ _; omega
        go_upto_region 25 with fail
        go_cut [] from 68 to 76 (fun wx => ∃ (k2 : Option Addr) (c2 : Nat), Hid (JL W wx p S a l c m1 qb 5 (keys ++ [x4]) L (.slice k2 (keys.length + 1) c2) (.slice ia L.length ic)))
        case first =>
          refine wp_region_held_drew (S := (fun _ => True)) (by kernel_rfl) trivial (fun hHeld => ?_)
          refine wpAnyH_take (i := 0) (v := ?_) rfl (by kernel_rfl) (by kernel_rfl) (by kernel_rfl) (fun _ _ _ h => h) (Or.inl ⟨by kernel_rfl, ?_⟩) (by assumption) ?_
          rotate_left
          · (intro wS hSw; (try dsimp only at hSw); go_simp <;> with_reducible rfl)
          try simp only [Act.put, tkS]
          refine wpAnyH_take (i := 3) (v := ?_) rfl (by kernel_rfl) (by kernel_rfl) (by kernel_rfl) (fun _ _ _ h => h) (Or.inl ⟨by kernel_rfl, ?_⟩) (by assumption) ?_
          rotate_left
          · (intro wS hSw; (try dsimp only at hSw); go_simp <;> with_reducible rfl)
          try simp only [Act.put, tkS]
          refine wpAnyH_ready (rs := [1, 2]) (by kernel_rfl) (by simp) (AllReadyH.cons rfl (fun K hK => ?_) (AllReadyH.cons rfl (fun K hK => ?_) AllReadyH.nil))
          ·
            have k3 : w2.cell? ⟨qb, 3, none⟩ = some (.slice ka keys.length kc) := cell_at (o := 3) (HJ2.out).bx rfl
            have k3d : w2.drew.cell? ⟨qb, 3, none⟩ = some (.slice ka keys.length kc) := cell_at (o := 3) (HJ2.out.drew).bx rfl
            go_simp
            clear k3 k3d
            refine hK.out _ _ trivial (fun hHeld => ?_)
            clear hK K
            try simp only [Act.put, tkS]
            refine wpAnyH_ready (rs := [2]) (by kernel_rfl) (by simp) (AllReadyH.cons rfl (fun K hK => ?_) AllReadyH.nil)
            go_simp
            refine hK.out _ _ trivial (fun hHeld => ?_)
            clear hK K
            try simp only [Act.put, tkS]
            refine wpAnyH_take (i := 4) (v := ?_) rfl (by kernel_rfl) (by kernel_rfl) (by kernel_rfl) (fun _ _ _ h => h) (Or.inl ⟨by kernel_rfl, ?_⟩) (by assumption) ?_
            rotate_left
            · (intro wS hSw; (try dsimp only at hSw); go_simp <;> with_reducible rfl)
            try simp only [Act.put, tkS]
            refine wpAnyH_ready (rs := [5]) (by kernel_rfl) (by simp) (AllReadyH.cons rfl (fun K hK => ?_) AllReadyH.nil)
            have k5 : (w2.alloc (.cells #[.string ⟨#[97]⟩, .string ⟨#[98]⟩, .string ⟨#[107]⟩, .string ⟨#[122, 122]⟩] 9)).cell? ⟨w2.heap.size, ni, none⟩ = some (.string ⟨x4.toArray⟩) := H4.out _ (heap_newD _ _)
            have k5d : (w2.alloc (.cells #[.string ⟨#[97]⟩, .string ⟨#[98]⟩, .string ⟨#[107]⟩, .string ⟨#[122, 122]⟩] 9)).drew.cell? ⟨w2.heap.size, ni, none⟩ = some (.string ⟨x4.toArray⟩) := H4.out _ (heap_keptD (heap_newD _ _) (Below.refl _ _).drew)
            go_simp
            clear k5 k5d
            refine hK.out _ _ trivial (fun hHeld => ?_)
            clear hK K
            try simp only [Act.put, tkS]
            refine wpAnyH_ready (rs := [6]) (by kernel_rfl) (by simp) (AllReadyH.cons rfl (fun K hK => ?_) AllReadyH.nil)
            go_simp
            refine hK.out _ _ trivial (fun hHeld => ?_)
            clear hK K
            try simp only [Act.put, tkS]
            refine wpAnyH_ready (rs := [7]) (by kernel_rfl) (by simp) (AllReadyH.cons rfl (fun K hK => ?_) AllReadyH.nil)
            have HJ3 : Hid (JL W ((w2.alloc (.cells #[.string ⟨#[97]⟩, .string ⟨#[98]⟩, .string ⟨#[107]⟩, .string ⟨#[122, 122]⟩] 9)).alloc (.cells #[.string ⟨x4.toArray⟩] 9)).drew p S a l c m1 qb 5 keys L (.slice ka keys.length kc) (.slice ia L.length ic)) := ((HJ2.out.later (below_allocD _ (.cells #[.string ⟨#[97]⟩, .string ⟨#[98]⟩, .string ⟨#[107]⟩, .string ⟨#[122, 122]⟩] 9))).later (below_allocD _ (.cells #[.string ⟨x4.toArray⟩] 9))).drew
            have HROW : Hid (((w2.alloc (.cells #[.string ⟨#[97]⟩, .string ⟨#[98]⟩, .string ⟨#[107]⟩, .string ⟨#[122, 122]⟩] 9)).alloc (.cells #[.string ⟨x4.toArray⟩] 9)).drew.heap[w2.heap.size + 1]? = some (.cells #[.string ⟨x4.toArray⟩] 9)) := by have h := heap_keptD (heap_newD (w2.alloc (.cells #[.string ⟨#[97]⟩, .string ⟨#[98]⟩, .string ⟨#[107]⟩, .string ⟨#[122, 122]⟩] 9)) (.cells #[.string ⟨x4.toArray⟩] 9)) (Below.refl _ _).drew; rw [size_allocD] at h; exact h
            generalize ((w2.alloc (.cells #[.string ⟨#[97]⟩, .string ⟨#[98]⟩, .string ⟨#[107]⟩, .string ⟨#[122, 122]⟩] 9)).alloc (.cells #[.string ⟨x4.toArray⟩] 9)).drew = V at *
            obtain ⟨iJ, hiJ⟩ := infoSv
            refine step_grow rfl (.tmp 69) (.tmp 74) 25 rfl (v := (.slice ka keys.length kc)) (by rfl) (HJ3.out.ks.conv (f' := dKs (keys ++ [x4])) (fun i j hi => dKs_old hi j) (fun _ _ h => h)) iJ _ 16 Tryd.underlying25 hiJ.1 hiJ.2.1 hiJ.2.2.1 hiJ.2.2.2 rfl (by omega) ⟨w2.heap.size + 1, 0, none⟩ 1 (by first | rfl | simp [Act.eval]) [.string ⟨x4.toArray⟩] rfl ?n1 ?n2 (by have := HKL.out; unfold maxLen; omega) (by have := HKL.out; omega) (by have := HJ3.out.lt; have := HJ3.out.fr.size; have := HJ3.out.qlt; omega) ?n3 ?n4
            case n1 =>
              intro j u hu
              rw [Addr.add_mid, Nat.zero_add]
              exact cell_at (o := j) HROW.out (by simpa using hu)
            case n2 =>
              intro u hu
              simp only [List.mem_cons, List.not_mem_nil, or_false] at hu
              subst hu; rfl
            case n3 =>
              intro j hj
              rw [dKs_new]
              obtain rfl : j = 0 := by omega
              exact ⟨_, rfl, rfl⟩
            case n4 =>
              intro ka2 kc2 w3 hsg hgr hog
              have HJ4 : Hid (JL W (w3.setCell ⟨qb, 3, none⟩ (.slice ka2 (keys.length + 1) kc2)) p S a l c m1 qb 5 (keys ++ [x4]) L (.slice ka2 (keys.length + 1) kc2) (.slice ia L.length ic)) := HJ3.out.key hsg hgr hog
              have hb3 : w3.heap[qb]? = some (.cells #[.int .i64 5, .int .i64 0, .string ⟨#[]⟩, (.slice ka keys.length kc), (.slice ia L.length ic)] 28) := by rw [hgr.block qb HJ3.out.qlt (fun e => (HJ3.out.kn _ e.symm).2.1 rfl)]; exact HJ3.out.bx
              have k3 := cell_at (o := 3) hb3 rfl
              have k3f := frozen_at 3 hb3
              clear hb3 hsg hgr hog hiJ HJ3 HROW
              refine hK.out _ _ trivial (fun hHeld => ?_)
              clear hK K
              try simp only [Act.put, tkS]
              refine wpAnyH_take (i := 8) (v := ?_) rfl (by kernel_rfl) (by kernel_rfl) (by kernel_rfl) (fun _ _ _ h => h) (Or.inl ⟨by kernel_rfl, ?_⟩) (by assumption) ?_
              rotate_left
              · (intro wS hSw; (try dsimp only at hSw); go_simp <;> with_reducible rfl)
              try simp only [Act.put, tkS]
              refine wpAnyH_ready (rs := [9]) (by kernel_rfl) (by simp) (AllReadyH.cons rfl (fun K hK => ?_) AllReadyH.nil)
              go_simp
              refine hK.out _ _ trivial (fun hHeld => ?_)
              clear hK K
              try simp only [Act.put, tkS]
              refine wpAnyH_done (by kernel_rfl) ?_ _
              clear k3 k3f
              go_wp2_with fail
              go_meet
              exact ⟨ka2, kc2, HJ4⟩
          ·
            go_simp
            refine hK.out _ _ trivial (fun hHeld => ?_)
            clear hK K
            try simp only [Act.put, tkS]
            refine wpAnyH_take (i := 4) (v := ?_) rfl (by kernel_rfl) (by kernel_rfl) (by kernel_rfl) (fun _ _ _ h => h) (Or.inl ⟨by kernel_rfl, ?_⟩) (by assumption) ?_
            rotate_left
            · (intro wS hSw; (try dsimp only at hSw); go_simp <;> with_reducible rfl)
            try simp only [Act.put, tkS]
            refine wpAnyH_ready (rs := [1, 5]) (by kernel_rfl) (by simp) (AllReadyH.cons rfl (fun K hK => ?_) (AllReadyH.cons rfl (fun K hK => ?_) AllReadyH.nil))
            ·
              have k3 : (w2.alloc (.cells #[.string ⟨#[97]⟩, .string ⟨#[98]⟩, .string ⟨#[107]⟩, .string ⟨#[122, 122]⟩] 9)).cell? ⟨qb, 3, none⟩ = some (.slice ka keys.length kc) := cell_at (o := 3) ((HJ2.out.later (below_allocD _ (.cells #[.string ⟨#[97]⟩, .string ⟨#[98]⟩, .string ⟨#[107]⟩, .string ⟨#[122, 122]⟩] 9)))).bx rfl
              have k3d : (w2.alloc (.cells #[.string ⟨#[97]⟩, .string ⟨#[98]⟩, .string ⟨#[107]⟩, .string ⟨#[122, 122]⟩] 9)).drew.cell? ⟨qb, 3, none⟩ = some (.slice ka keys.length kc) := cell_at (o := 3) ((HJ2.out.later (below_allocD _ (.cells #[.string ⟨#[97]⟩, .string ⟨#[98]⟩, .string ⟨#[107]⟩, .string ⟨#[122, 122]⟩] 9))).drew).bx rfl
              go_simp
              clear k3 k3d
              refine hK.out _ _ trivial (fun hHeld => ?_)
              clear hK K
              try simp only [Act.put, tkS]
              refine wpAnyH_ready (rs := [5]) (by kernel_rfl) (by simp) (AllReadyH.cons rfl (fun K hK => ?_) AllReadyH.nil)
              have k5 : (w2.alloc (.cells #[.string ⟨#[97]⟩, .string ⟨#[98]⟩, .string ⟨#[107]⟩, .string ⟨#[122, 122]⟩] 9)).cell? ⟨w2.heap.size, ni, none⟩ = some (.string ⟨x4.toArray⟩) := H4.out _ (heap_newD _ _)
              have k5d : (w2.alloc (.cells #[.string ⟨#[97]⟩, .string ⟨#[98]⟩, .string ⟨#[107]⟩, .string ⟨#[122, 122]⟩] 9)).drew.cell? ⟨w2.heap.size, ni, none⟩ = some (.string ⟨x4.toArray⟩) := H4.out _ (heap_keptD (heap_newD _ _) (Below.refl _ _).drew)
              go_simp
              clear k5 k5d
              refine hK.out _ _ trivial (fun hHeld => ?_)
              clear hK K
              try simp only [Act.put, tkS]
              refine wpAnyH_ready (rs := [6]) (by kernel_rfl) (by simp) (AllReadyH.cons rfl (fun K hK => ?_) AllReadyH.nil)
              go_simp
              refine hK.out _ _ trivial (fun hHeld => ?_)
              clear hK K
              try simp only [Act.put, tkS]
              refine wpAnyH_ready (rs := [7]) (by kernel_rfl) (by simp) (AllReadyH.cons rfl (fun K hK => ?_) AllReadyH.nil)
              have HJ3 : Hid (JL W ((w2.alloc (.cells #[.string ⟨#[97]⟩, .string ⟨#[98]⟩, .string ⟨#[107]⟩, .string ⟨#[122, 122]⟩] 9)).alloc (.cells #[.string ⟨x4.toArray⟩] 9)).drew p S a l c m1 qb 5 keys L (.slice ka keys.length kc) (.slice ia L.length ic)) := ((HJ2.out.later (below_allocD _ (.cells #[.string ⟨#[97]⟩, .string ⟨#[98]⟩, .string ⟨#[107]⟩, .string ⟨#[122, 122]⟩] 9))).later (below_allocD _ (.cells #[.string ⟨x4.toArray⟩] 9))).drew
              have HROW : Hid (((w2.alloc (.cells #[.string ⟨#[97]⟩, .string ⟨#[98]⟩, .string ⟨#[107]⟩, .string ⟨#[122, 122]⟩] 9)).alloc (.cells #[.string ⟨x4.toArray⟩] 9)).drew.heap[w2.heap.size + 1]? = some (.cells #[.string ⟨x4.toArray⟩] 9)) := by have h := heap_keptD (heap_newD (w2.alloc (.cells #[.string ⟨#[97]⟩, .string ⟨#[98]⟩, .string ⟨#[107]⟩, .string ⟨#[122, 122]⟩] 9)) (.cells #[.string ⟨x4.toArray⟩] 9)) (Below.refl _ _).drew; rw [size_allocD] at h; exact h
              generalize ((w2.alloc (.cells #[.string ⟨#[97]⟩, .string ⟨#[98]⟩, .string ⟨#[107]⟩, .string ⟨#[122, 122]⟩] 9)).alloc (.cells #[.string ⟨x4.toArray⟩] 9)).drew = V at *
              obtain ⟨iJ, hiJ⟩ := infoSv
              refine step_grow rfl (.tmp 69) (.tmp 74) 25 rfl (v := (.slice ka keys.length kc)) (by rfl) (HJ3.out.ks.conv (f' := dKs (keys ++ [x4])) (fun i j hi => dKs_old hi j) (fun _ _ h => h)) iJ _ 16 Tryd.underlying25 hiJ.1 hiJ.2.1 hiJ.2.2.1 hiJ.2.2.2 rfl (by omega) ⟨w2.heap.size + 1, 0, none⟩ 1 (by first | rfl | simp [Act.eval]) [.string ⟨x4.toArray⟩] rfl ?n1 ?n2 (by have := HKL.out; unfold maxLen; omega) (by have := HKL.out; omega) (by have := HJ3.out.lt; have := HJ3.out.fr.size; have := HJ3.out.qlt; omega) ?n3 ?n4
              case n1 =>
                intro j u hu
                rw [Addr.add_mid, Nat.zero_add]
                exact cell_at (o := j) HROW.out (by simpa using hu)
              case n2 =>
                intro u hu
                simp only [List.mem_cons, List.not_mem_nil, or_false] at hu
                subst hu; rfl
              case n3 =>
                intro j hj
                rw [dKs_new]
                obtain rfl : j = 0 := by omega
                exact ⟨_, rfl, rfl⟩
              case n4 =>
                intro ka2 kc2 w3 hsg hgr hog
                have HJ4 : Hid (JL W (w3.setCell ⟨qb, 3, none⟩ (.slice ka2 (keys.length + 1) kc2)) p S a l c m1 qb 5 (keys ++ [x4]) L (.slice ka2 (keys.length + 1) kc2) (.slice ia L.length ic)) := HJ3.out.key hsg hgr hog
                have hb3 : w3.heap[qb]? = some (.cells #[.int .i64 5, .int .i64 0, .string ⟨#[]⟩, (.slice ka keys.length kc), (.slice ia L.length ic)] 28) := by rw [hgr.block qb HJ3.out.qlt (fun e => (HJ3.out.kn _ e.symm).2.1 rfl)]; exact HJ3.out.bx
                have k3 := cell_at (o := 3) hb3 rfl
                have k3f := frozen_at 3 hb3
                clear hb3 hsg hgr hog hiJ HJ3 HROW
                refine hK.out _ _ trivial (fun hHeld => ?_)
                clear hK K
                try simp only [Act.put, tkS]
                refine wpAnyH_take (i := 8) (v := ?_) rfl (by kernel_rfl) (by kernel_rfl) (by kernel_rfl) (fun _ _ _ h => h) (Or.inl ⟨by kernel_rfl, ?_⟩) (by assumption) ?_
                rotate_left
                · (intro wS hSw; (try dsimp only at hSw); go_simp <;> with_reducible rfl)
                try simp only [Act.put, tkS]
                refine wpAnyH_ready (rs := [9]) (by kernel_rfl) (by simp) (AllReadyH.cons rfl (fun K hK => ?_) AllReadyH.nil)
                go_simp
                refine hK.out _ _ trivial (fun hHeld => ?_)
                clear hK K
                try simp only [Act.put, tkS]
                refine wpAnyH_done (by kernel_rfl) ?_ _
                clear k3 k3f
                go_wp2_with fail
                go_meet
                exact ⟨ka2, kc2, HJ4⟩
            ·
              have k5 : (w2.alloc (.cells #[.string ⟨#[97]⟩, .string ⟨#[98]⟩, .string ⟨#[107]⟩, .string ⟨#[122, 122]⟩] 9)).cell? ⟨w2.heap.size, ni, none⟩ = some (.string ⟨x4.toArray⟩) := H4.out _ (heap_newD _ _)
              have k5d : (w2.alloc (.cells #[.string ⟨#[97]⟩, .string ⟨#[98]⟩, .string ⟨#[107]⟩, .string ⟨#[122, 122]⟩] 9)).drew.cell? ⟨w2.heap.size, ni, none⟩ = some (.string ⟨x4.toArray⟩) := H4.out _ (heap_keptD (heap_newD _ _) (Below.refl _ _).drew)
              go_simp
              clear k5 k5d
              refine hK.out _ _ trivial (fun hHeld => ?_)
              clear hK K
              try simp only [Act.put, tkS]
              refine wpAnyH_ready (rs := [1, 6]) (by kernel_rfl) (by simp) (AllReadyH.cons rfl (fun K hK => ?_) (AllReadyH.cons rfl (fun K hK => ?_) AllReadyH.nil))
              ·
                have k3 : (w2.alloc (.cells #[.string ⟨#[97]⟩, .string ⟨#[98]⟩, .string ⟨#[107]⟩, .string ⟨#[122, 122]⟩] 9)).cell? ⟨qb, 3, none⟩ = some (.slice ka keys.length kc) := cell_at (o := 3) ((HJ2.out.later (below_allocD _ (.cells #[.string ⟨#[97]⟩, .string ⟨#[98]⟩, .string ⟨#[107]⟩, .string ⟨#[122, 122]⟩] 9)))).bx rfl
                have k3d : (w2.alloc (.cells #[.string ⟨#[97]⟩, .string ⟨#[98]⟩, .string ⟨#[107]⟩, .string ⟨#[122, 122]⟩] 9)).drew.cell? ⟨qb, 3, none⟩ = some (.slice ka keys.length kc) := cell_at (o := 3) ((HJ2.out.later (below_allocD _ (.cells #[.string ⟨#[97]⟩, .string ⟨#[98]⟩, .string ⟨#[107]⟩, .string ⟨#[122, 122]⟩] 9))).drew).bx rfl
                go_simp
                clear k3 k3d
                refine hK.out _ _ trivial (fun hHeld => ?_)
                clear hK K
                try simp only [Act.put, tkS]
                refine wpAnyH_ready (rs := [6]) (by kernel_rfl) (by simp) (AllReadyH.cons rfl (fun K hK => ?_) AllReadyH.nil)
                go_simp
                refine hK.out _ _ trivial (fun hHeld => ?_)
                clear hK K
                try simp only [Act.put, tkS]
                refine wpAnyH_ready (rs := [7]) (by kernel_rfl) (by simp) (AllReadyH.cons rfl (fun K hK => ?_) AllReadyH.nil)
                have HJ3 : Hid (JL W ((w2.alloc (.cells #[.string ⟨#[97]⟩, .string ⟨#[98]⟩, .string ⟨#[107]⟩, .string ⟨#[122, 122]⟩] 9)).alloc (.cells #[.string ⟨x4.toArray⟩] 9)).drew p S a l c m1 qb 5 keys L (.slice ka keys.length kc) (.slice ia L.length ic)) := ((HJ2.out.later (below_allocD _ (.cells #[.string ⟨#[97]⟩, .string ⟨#[98]⟩, .string ⟨#[107]⟩, .string ⟨#[122, 122]⟩] 9))).later (below_allocD _ (.cells #[.string ⟨x4.toArray⟩] 9))).drew
                have HROW : Hid (((w2.alloc (.cells #[.string ⟨#[97]⟩, .string ⟨#[98]⟩, .string ⟨#[107]⟩, .string ⟨#[122, 122]⟩] 9)).alloc (.cells #[.string ⟨x4.toArray⟩] 9)).drew.heap[w2.heap.size + 1]? = some (.cells #[.string ⟨x4.toArray⟩] 9)) := by have h := heap_keptD (heap_newD (w2.alloc (.cells #[.string ⟨#[97]⟩, .string ⟨#[98]⟩, .string ⟨#[107]⟩, .string ⟨#[122, 122]⟩] 9)) (.cells #[.string ⟨x4.toArray⟩] 9)) (Below.refl _ _).drew; rw [size_allocD] at h; exact h
                generalize ((w2.alloc (.cells #[.string ⟨#[97]⟩, .string ⟨#[98]⟩, .string ⟨#[107]⟩, .string ⟨#[122, 122]⟩] 9)).alloc (.cells #[.string ⟨x4.toArray⟩] 9)).drew = V at *
                obtain ⟨iJ, hiJ⟩ := infoSv
                refine step_grow rfl (.tmp 69) (.tmp 74) 25 rfl (v := (.slice ka keys.length kc)) (by rfl) (HJ3.out.ks.conv (f' := dKs (keys ++ [x4])) (fun i j hi => dKs_old hi j) (fun _ _ h => h)) iJ _ 16 Tryd.underlying25 hiJ.1 hiJ.2.1 hiJ.2.2.1 hiJ.2.2.2 rfl (by omega) ⟨w2.heap.size + 1, 0, none⟩ 1 (by first | rfl | simp [Act.eval]) [.string ⟨x4.toArray⟩] rfl ?n1 ?n2 (by have := HKL.out; unfold maxLen; omega) (by have := HKL.out; omega) (by have := HJ3.out.lt; have := HJ3.out.fr.size; have := HJ3.out.qlt; omega) ?n3 ?n4
                case n1 =>
                  intro j u hu
                  rw [Addr.add_mid, Nat.zero_add]
                  exact cell_at (o := j) HROW.out (by simpa using hu)
                case n2 =>
                  intro u hu
                  simp only [List.mem_cons, List.not_mem_nil, or_false] at hu
                  subst hu; rfl
                case n3 =>
                  intro j hj
                  rw [dKs_new]
                  obtain rfl : j = 0 := by omega
                  exact ⟨_, rfl, rfl⟩
                case n4 =>
                  intro ka2 kc2 w3 hsg hgr hog
                  have HJ4 : Hid (JL W (w3.setCell ⟨qb, 3, none⟩ (.slice ka2 (keys.length + 1) kc2)) p S a l c m1 qb 5 (keys ++ [x4]) L (.slice ka2 (keys.length + 1) kc2) (.slice ia L.length ic)) := HJ3.out.key hsg hgr hog
                  have hb3 : w3.heap[qb]? = some (.cells #[.int .i64 5, .int .i64 0, .string ⟨#[]⟩, (.slice ka keys.length kc), (.slice ia L.length ic)] 28) := by rw [hgr.block qb HJ3.out.qlt (fun e => (HJ3.out.kn _ e.symm).2.1 rfl)]; exact HJ3.out.bx
                  have k3 := cell_at (o := 3) hb3 rfl
                  have k3f := frozen_at 3 hb3
                  clear hb3 hsg hgr hog hiJ HJ3 HROW
                  refine hK.out _ _ trivial (fun hHeld => ?_)
                  clear hK K
                  try simp only [Act.put, tkS]
                  refine wpAnyH_take (i := 8) (v := ?_) rfl (by kernel_rfl) (by kernel_rfl) (by kernel_rfl) (fun _ _ _ h => h) (Or.inl ⟨by kernel_rfl, ?_⟩) (by assumption) ?_
                  rotate_left
                  · (intro wS hSw; (try dsimp only at hSw); go_simp <;> with_reducible rfl)
                  try simp only [Act.put, tkS]
                  refine wpAnyH_ready (rs := [9]) (by kernel_rfl) (by simp) (AllReadyH.cons rfl (fun K hK => ?_) AllReadyH.nil)
                  go_simp
                  refine hK.out _ _ trivial (fun hHeld => ?_)
                  clear hK K
                  try simp only [Act.put, tkS]
                  refine wpAnyH_done (by kernel_rfl) ?_ _
                  clear k3 k3f
                  go_wp2_with fail
                  go_meet
                  exact ⟨ka2, kc2, HJ4⟩
              ·
                go_simp
                refine hK.out _ _ trivial (fun hHeld => ?_)
                clear hK K
                try simp only [Act.put, tkS]
                refine wpAnyH_ready (rs := [1]) (by kernel_rfl) (by simp) (AllReadyH.cons rfl (fun K hK => ?_) AllReadyH.nil)
                have k3 : ((w2.alloc (.cells #[.string ⟨#[97]⟩, .string ⟨#[98]⟩, .string ⟨#[107]⟩, .string ⟨#[122, 122]⟩] 9)).alloc (.cells #[.string ⟨x4.toArray⟩] 9)).cell? ⟨qb, 3, none⟩ = some (.slice ka keys.length kc) := cell_at (o := 3) (((HJ2.out.later (below_allocD _ (.cells #[.string ⟨#[97]⟩, .string ⟨#[98]⟩, .string ⟨#[107]⟩, .string ⟨#[122, 122]⟩] 9))).later (below_allocD _ (.cells #[.string ⟨x4.toArray⟩] 9)))).bx rfl
                have k3d : ((w2.alloc (.cells #[.string ⟨#[97]⟩, .string ⟨#[98]⟩, .string ⟨#[107]⟩, .string ⟨#[122, 122]⟩] 9)).alloc (.cells #[.string ⟨x4.toArray⟩] 9)).drew.cell? ⟨qb, 3, none⟩ = some (.slice ka keys.length kc) := cell_at (o := 3) (((HJ2.out.later (below_allocD _ (.cells #[.string ⟨#[97]⟩, .string ⟨#[98]⟩, .string ⟨#[107]⟩, .string ⟨#[122, 122]⟩] 9))).later (below_allocD _ (.cells #[.string ⟨x4.toArray⟩] 9))).drew).bx rfl
                go_simp
                clear k3 k3d
                refine hK.out _ _ trivial (fun hHeld => ?_)
                clear hK K
                try simp only [Act.put, tkS]
                refine wpAnyH_ready (rs := [7]) (by kernel_rfl) (by simp) (AllReadyH.cons rfl (fun K hK => ?_) AllReadyH.nil)
                have HJ3 : Hid (JL W ((w2.alloc (.cells #[.string ⟨#[97]⟩, .string ⟨#[98]⟩, .string ⟨#[107]⟩, .string ⟨#[122, 122]⟩] 9)).alloc (.cells #[.string ⟨x4.toArray⟩] 9)).drew p S a l c m1 qb 5 keys L (.slice ka keys.length kc) (.slice ia L.length ic)) := ((HJ2.out.later (below_allocD _ (.cells #[.string ⟨#[97]⟩, .string ⟨#[98]⟩, .string ⟨#[107]⟩, .string ⟨#[122, 122]⟩] 9))).later (below_allocD _ (.cells #[.string ⟨x4.toArray⟩] 9))).drew
                have HROW : Hid (((w2.alloc (.cells #[.string ⟨#[97]⟩, .string ⟨#[98]⟩, .string ⟨#[107]⟩, .string ⟨#[122, 122]⟩] 9)).alloc (.cells #[.string ⟨x4.toArray⟩] 9)).drew.heap[w2.heap.size + 1]? = some (.cells #[.string ⟨x4.toArray⟩] 9)) := by have h := heap_keptD (heap_newD (w2.alloc (.cells #[.string ⟨#[97]⟩, .string ⟨#[98]⟩, .string ⟨#[107]⟩, .string ⟨#[122, 122]⟩] 9)) (.cells #[.string ⟨x4.toArray⟩] 9)) (Below.refl _ _).drew; rw [size_allocD] at h; exact h
                generalize ((w2.alloc (.cells #[.string ⟨#[97]⟩, .string ⟨#[98]⟩, .string ⟨#[107]⟩, .string ⟨#[122, 122]⟩] 9)).alloc (.cells #[.string ⟨x4.toArray⟩] 9)).drew = V at *
                obtain ⟨iJ, hiJ⟩ := infoSv
                refine step_grow rfl (.tmp 69) (.tmp 74) 25 rfl (v := (.slice ka keys.length kc)) (by rfl) (HJ3.out.ks.conv (f' := dKs (keys ++ [x4])) (fun i j hi => dKs_old hi j) (fun _ _ h => h)) iJ _ 16 Tryd.underlying25 hiJ.1 hiJ.2.1 hiJ.2.2.1 hiJ.2.2.2 rfl (by omega) ⟨w2.heap.size + 1, 0, none⟩ 1 (by first | rfl | simp [Act.eval]) [.string ⟨x4.toArray⟩] rfl ?n1 ?n2 (by have := HKL.out; unfold maxLen; omega) (by have := HKL.out; omega) (by have := HJ3.out.lt; have := HJ3.out.fr.size; have := HJ3.out.qlt; omega) ?n3 ?n4
                case n1 =>
                  intro j u hu
                  rw [Addr.add_mid, Nat.zero_add]
                  exact cell_at (o := j) HROW.out (by simpa using hu)
                case n2 =>
                  intro u hu
                  simp only [List.mem_cons, List.not_mem_nil, or_false] at hu
                  subst hu; rfl
                case n3 =>
                  intro j hj
                  rw [dKs_new]
                  obtain rfl : j = 0 := by omega
                  exact ⟨_, rfl, rfl⟩
                case n4 =>
                  intro ka2 kc2 w3 hsg hgr hog
                  have HJ4 : Hid (JL W (w3.setCell ⟨qb, 3, none⟩ (.slice ka2 (keys.length + 1) kc2)) p S a l c m1 qb 5 (keys ++ [x4]) L (.slice ka2 (keys.length + 1) kc2) (.slice ia L.length ic)) := HJ3.out.key hsg hgr hog
                  have hb3 : w3.heap[qb]? = some (.cells #[.int .i64 5, .int .i64 0, .string ⟨#[]⟩, (.slice ka keys.length kc), (.slice ia L.length ic)] 28) := by rw [hgr.block qb HJ3.out.qlt (fun e => (HJ3.out.kn _ e.symm).2.1 rfl)]; exact HJ3.out.bx
                  have k3 := cell_at (o := 3) hb3 rfl
                  have k3f := frozen_at 3 hb3
                  clear hb3 hsg hgr hog hiJ HJ3 HROW
                  refine hK.out _ _ trivial (fun hHeld => ?_)
                  clear hK K
                  try simp only [Act.put, tkS]
                  refine wpAnyH_take (i := 8) (v := ?_) rfl (by kernel_rfl) (by kernel_rfl) (by kernel_rfl) (fun _ _ _ h => h) (Or.inl ⟨by kernel_rfl, ?_⟩) (by assumption) ?_
                  rotate_left
                  · (intro wS hSw; (try dsimp only at hSw); go_simp <;> with_reducible rfl)
                  try simp only [Act.put, tkS]
                  refine wpAnyH_ready (rs := [9]) (by kernel_rfl) (by simp) (AllReadyH.cons rfl (fun K hK => ?_) AllReadyH.nil)
                  go_simp
                  refine hK.out _ _ trivial (fun hHeld => ?_)
                  clear hK K
                  try simp only [Act.put, tkS]
                  refine wpAnyH_done (by kernel_rfl) ?_ _
                  clear k3 k3f
                  go_wp2_with fail
                  go_meet
                  exact ⟨ka2, kc2, HJ4⟩
        obtain ⟨k2, c2, HJ5⟩ := hcut
        have RC2 : Hid (∀ V, (∃ s, Src V p S a l c m1 s) → Calls Tryd.prog 11 #[.pointer (some ⟨p, 0, none⟩), .int .i64 (d' : Int)] V (JsonV V p S a l c m1 d')) := fun V h => RC.out V m1 h (by have := HM1.out; omega)
        have HLL : Hid (L.length ≤ 3) := HKL.out.2
        clear RC HJ2
        have RC := RC2
        clear RC2
        go_wp2_with fail
        refine wp_region_held_drew (S := (fun _ => True)) (by kernel_rfl) trivial (fun hHeld => ?_)
        refine wpAnyH_take (i := 0) (v := ?_) rfl (by kernel_rfl) (by kernel_rfl) (by kernel_rfl) (fun _ _ _ h => h) (Or.inl ⟨by kernel_rfl, ?_⟩) (by assumption) ?_
        rotate_left
        · (intro wS hSw; (try dsimp only at hSw); go_simp <;> with_reducible rfl)
        try simp only [Act.put, tkS]
        refine wpAnyH_take (i := 2) (v := ?_) rfl (by kernel_rfl) (by kernel_rfl) (by kernel_rfl) (fun _ _ _ h => h) (Or.inl ⟨by kernel_rfl, ?_⟩) (by assumption) ?_
        rotate_left
        · (intro wS hSw; (try dsimp only at hSw); go_simp <;> with_reducible rfl)
        try simp only [Act.put, tkS]
        refine wpAnyH_take (i := 3) (v := ?_) rfl (by kernel_rfl) (by kernel_rfl) (by kernel_rfl) (fun _ _ _ h => h) (Or.inl ⟨by kernel_rfl, ?_⟩) (by assumption) ?_
        rotate_left
        · (intro wS hSw; (try dsimp only at hSw); go_simp <;> with_reducible rfl)
        try simp only [Act.put, tkS]
        refine wpAnyH_take (i := 4) (v := ?_) rfl (by kernel_rfl) (by kernel_rfl) (by kernel_rfl) (fun _ _ _ h => h) (Or.inl ⟨by kernel_rfl, ?_⟩) (by assumption) ?_
        rotate_left
        · (intro wS hSw; (try dsimp only at hSw); go_simp <;> with_reducible rfl)
        try simp only [Act.put, tkS]
        refine wpAnyH_ready (rs := [1, 5]) (by kernel_rfl) (by simp) (AllReadyH.cons rfl (fun K hK => ?_) (AllReadyH.cons rfl (fun K hK => ?_) AllReadyH.nil))
        ·
          have k4 := cell_at (o := 4) HJ5.out.bx rfl
          have k4d := cell_at (o := 4) HJ5.out.drew.bx rfl
          go_simp
          clear k4 k4d
          refine hK.out _ _ trivial (fun hHeld => ?_)
          clear hK K
          try simp only [Act.put, tkS]
          refine wpAnyH_ready (rs := [5]) (by kernel_rfl) (by simp) (AllReadyH.cons rfl (fun K hK => ?_) AllReadyH.nil)
          go_simp
          go_at_call 11
          refine (RC.out _ (by first | exact HJ5.out.src | exact HJ5.out.drew.src)).mono ?_
          rintro e w2 ⟨x, xa, xc, ya, yc, n2, m2, s2, rfl, hx1, hx2, hxs, hx3, hx4, hx5, hx6, hF⟩
          have hF' : Frm (· = p) wc w2 := (by first | exact hF | exact (Frm.of_below (Below.refl _ _).drew).trans hF)
          have HJ2 : Hid (JL W w2 p S a l c m2 qb 5 (keys ++ [x4]) L (.slice k2 (keys.length + 1) c2) (.slice ia L.length ic)) := HJ5.out.draw hF' ⟨s2, hx5⟩
          have hsz : wc.heap.size ≤ wc.drew.heap.size := ((Below.refl wc.heap.size wc).drew).size
          have HX3 : Hid (Rd w2 (fun b => wc.heap.size ≤ b ∧ b < w2.heap.size) (.l 1 x.keys.length (dKs x.keys)) (.slice xa x.keys.length xc)) := hx3.mono (fun b hb => ⟨Nat.le_trans (by first | exact Nat.le_refl _ | exact hsz) hb.1, hb.2⟩)
          have HX4 : Hid (Rd w2 (fun b => wc.heap.size ≤ b ∧ b < w2.heap.size) (.l 5 x.items.length (dJs x.items)) (.slice ya x.items.length yc)) := hx4.mono (fun b hb => ⟨Nat.le_trans (by first | exact Nat.le_refl _ | exact hsz) hb.1, hb.2⟩)
          have HXN : Hid (cnt (d' + 1) x = some n2 ∧ n2 ≤ nd d' ∧ m2 ≤ m1 + kd d' ∧ Small x) := ⟨hx1, hx2, hx6, hxs⟩
          clear hx1 hx2 hxs hx3 hx4 hx5 hx6 hF hF' hsz
          refine hK.out _ _ trivial (fun hHeld => ?_)
          clear hK K
          try simp only [Act.put, tkS]
          refine wpAnyH_ready (rs := [6]) (by kernel_rfl) (by simp) (AllReadyH.cons rfl (fun K hK => ?_) AllReadyH.nil)
          go_simp
          have HJ3 : Hid (JL W (w2.alloc (.cells #[.int .i64 x.k, .int .i64 x.n, .string ⟨x.t.toArray⟩, .slice xa x.keys.length xc, .slice ya x.items.length yc] 28)) p S a l c m2 qb 5 (keys ++ [x4]) L (.slice k2 (keys.length + 1) c2) (.slice ia L.length ic)) := HJ2.out.later (below_allocD _ _)
          have HROW : Hid ((w2.alloc (.cells #[.int .i64 x.k, .int .i64 x.n, .string ⟨x.t.toArray⟩, .slice xa x.keys.length xc, .slice ya x.items.length yc] 28)).heap[w2.heap.size]? = some (.cells #[.int .i64 x.k, .int .i64 x.n, .string ⟨x.t.toArray⟩, .slice xa x.keys.length xc, .slice ya x.items.length yc] 28)) := heap_newD _ _
          have HX3' : Hid (Rd (w2.alloc (.cells #[.int .i64 x.k, .int .i64 x.n, .string ⟨x.t.toArray⟩, .slice xa x.keys.length xc, .slice ya x.items.length yc] 28)) (fun b => wc.heap.size ≤ b ∧ b < w2.heap.size) (.l 1 x.keys.length (dKs x.keys)) (.slice xa x.keys.length xc)) := Rd.later HX3.out (below_allocD _ _)
          have HX4' : Hid (Rd (w2.alloc (.cells #[.int .i64 x.k, .int .i64 x.n, .string ⟨x.t.toArray⟩, .slice xa x.keys.length xc, .slice ya x.items.length yc] 28)) (fun b => wc.heap.size ≤ b ∧ b < w2.heap.size) (.l 5 x.items.length (dJs x.items)) (.slice ya x.items.length yc)) := Rd.later HX4.out (below_allocD _ _)
          have HLT : Hid (w2.heap.size ≤ (w2.alloc (.cells #[.int .i64 x.k, .int .i64 x.n, .string ⟨x.t.toArray⟩, .slice xa x.keys.length xc, .slice ya x.items.length yc] 28)).heap.size) := (below_allocD w2 _).size
          have HJ2' := HJ3
          clear HJ2 HX3 HX4
          have HJ2 := HJ2'
          clear HJ2'
          generalize (w2.alloc (.cells #[.int .i64 x.k, .int .i64 x.n, .string ⟨x.t.toArray⟩, .slice xa x.keys.length xc, .slice ya x.items.length yc] 28)) = V at *
          refine hK.out _ _ trivial (fun hHeld => ?_)
          clear hK K
          try simp only [Act.put, tkS]
          refine wpAnyH_ready (rs := [7]) (by kernel_rfl) (by simp) (AllReadyH.cons rfl (fun K hK => ?_) AllReadyH.nil)
          have hng : ∀ b, wc.heap.size ≤ b → W.heap.size < b ∧ b ≠ qb ∧ (Value.ownBlock (.slice k2 (keys.length + 1) c2)) ≠ some b ∧ (Value.ownBlock (.slice ia L.length ic)) ≠ some b := fun b hb => ⟨by have h1 := HJ5.out.lt; have h2 := HJ5.out.qlt; omega, by have h2 := HJ5.out.qlt; omega, fun e => by have := HJ5.out.kn b e; omega, fun e => by have := HJ5.out.vn b e; omega⟩
          obtain ⟨iJ, hiJ⟩ := infoJv
          refine step_grow rfl (.tmp 78) (.tmp 83) 26 rfl (v := (.slice ia L.length ic)) (by rfl) (HJ3.out.is.conv (f' := dJs (L ++ [x])) (fun i j hi => dJs_old hi j) (fun _ _ h => h)) iJ _ 80 Tryd.underlying26 hiJ.1 hiJ.2.1 hiJ.2.2.1 hiJ.2.2.2 rfl (by omega) ⟨w2.heap.size, 0, none⟩ 1 (by rfl) [.int .i64 x.k, .int .i64 x.n, .string ⟨x.t.toArray⟩, .slice xa x.keys.length xc, .slice ya x.items.length yc] rfl ?n1 ?n2 (by have := HLL.out; unfold maxLen; omega) (by have := HLL.out; omega) (by have := HJ5.out.lt; have := HJ5.out.qlt; have := HJ3.out.fr.size; have := HJ3.out.qlt; omega) ?n3 ?n4
          case n1 =>
            intro j u hu
            rw [Addr.add_mid, Nat.zero_add]
            exact cell_at (o := j) HROW.out (by simpa using hu)
          case n2 =>
            intro u hu
            simp only [List.mem_cons, List.not_mem_nil, or_false] at hu
            rcases hu with rfl | rfl | rfl | rfl | rfl <;> rfl
          case n3 =>
            intro j hj
            rw [dJs_new]
            rcases (by omega : j = 0 ∨ j = 1 ∨ j = 2 ∨ j = 3 ∨ j = 4) with rfl | rfl | rfl | rfl | rfl
            · exact ⟨_, rfl, by rw [dJ_0]; rfl⟩
            · exact ⟨_, rfl, by rw [dJ_1]; rfl⟩
            · exact ⟨_, rfl, by rw [dJ_2]; rfl⟩
            · exact ⟨_, rfl, by rw [dJ_3]; exact HX3'.out.mono (fun b hb => by have h1 := hng b hb.1; exact ⟨⟨h1.2.2.2, Nat.lt_of_lt_of_le hb.2 HLT.out⟩, h1.1, h1.2.1, h1.2.2.1⟩)⟩
            · exact ⟨_, rfl, by rw [dJ_4]; exact HX4'.out.mono (fun b hb => by have h1 := hng b hb.1; exact ⟨⟨h1.2.2.2, Nat.lt_of_lt_of_le hb.2 HLT.out⟩, h1.1, h1.2.1, h1.2.2.1⟩)⟩
          case n4 =>
            intro a' c' w3 hsg hgr hog
            have HJ4 : Hid (JL W (w3.setCell ⟨qb, 4, none⟩ (.slice a' (L.length + 1) c')) p S a l c m2 qb 5 (keys ++ [x4]) (L ++ [x]) (.slice k2 (keys.length + 1) c2) (.slice a' (L.length + 1) c')) := HJ3.out.item hsg hgr hog
            have hb3 : w3.heap[qb]? = some (.cells #[.int .i64 5, .int .i64 0, .string ⟨#[]⟩, (.slice k2 (keys.length + 1) c2), (.slice ia L.length ic)] 28) := by rw [hgr.block qb HJ3.out.qlt (fun e => (HJ3.out.vn _ e.symm).2.1 rfl)]; exact HJ3.out.bx
            have k4 := cell_at (o := 4) hb3 rfl
            have k4f := frozen_at 4 hb3
            clear hb3 hsg hgr hog hng hiJ HJ3 HJ2 HX3' HX4' HLT HROW
            refine hK.out _ _ trivial (fun hHeld => ?_)
            clear hK K
            try simp only [Act.put, tkS]
            refine wpAnyH_take (i := 8) (v := ?_) rfl (by kernel_rfl) (by kernel_rfl) (by kernel_rfl) (fun _ _ _ h => h) (Or.inl ⟨by kernel_rfl, ?_⟩) (by assumption) ?_
            rotate_left
            · (intro wS hSw; (try dsimp only at hSw); go_simp <;> with_reducible rfl)
            try simp only [Act.put, tkS]
            refine wpAnyH_ready (rs := [9]) (by kernel_rfl) (by simp) (AllReadyH.cons rfl (fun K hK => ?_) AllReadyH.nil)
            go_simp
            refine hK.out _ _ trivial (fun hHeld => ?_)
            clear hK K
            try simp only [Act.put, tkS]
            refine wpAnyH_done (by kernel_rfl) ?_ _
            clear k4 k4f
            go_wp2_with fail
            go_roundw
            case rel => exact ⟨ni + 1, keys ++ [x4], L ++ [x], k2, c2, a', c', m2, nn + n2, by omega, by go_num, by simpa only [List.length_append, List.length_singleton] using HJ4.out, by have h1 := HRN.out.1; have h2 := HXN.out.2.2.1; have h3 := HM1.out.1; rw [Nat.add_mul, Nat.one_mul]; omega, sumO_snoc HRN.out.2.1 HXN.out.1, by have h1 := HRN.out.2.2.1; have h2 := HXN.out.2.1; rw [List.length_append, List.length_singleton, Nat.add_mul, Nat.one_mul]; omega, by rw [List.length_append, List.length_append, HRN.out.2.2.2.1]; rfl, four_more (by omega) HRN.out.2.2.2.2.1 HX4.out, small_snoc HRN.out.2.2.2.2.2 HXN.out.2.2.2⟩
            case measure => simp [intOf]; omega
        ·
          go_simp
          go_at_call 11
          refine (RC.out _ (by first | exact HJ5.out.src | exact HJ5.out.drew.src)).mono ?_
          rintro e w2 ⟨x, xa, xc, ya, yc, n2, m2, s2, rfl, hx1, hx2, hxs, hx3, hx4, hx5, hx6, hF⟩
          have hF' : Frm (· = p) wc w2 := (by first | exact hF | exact (Frm.of_below (Below.refl _ _).drew).trans hF)
          have HJ2 : Hid (JL W w2 p S a l c m2 qb 5 (keys ++ [x4]) L (.slice k2 (keys.length + 1) c2) (.slice ia L.length ic)) := HJ5.out.draw hF' ⟨s2, hx5⟩
          have hsz : wc.heap.size ≤ wc.drew.heap.size := ((Below.refl wc.heap.size wc).drew).size
          have HX3 : Hid (Rd w2 (fun b => wc.heap.size ≤ b ∧ b < w2.heap.size) (.l 1 x.keys.length (dKs x.keys)) (.slice xa x.keys.length xc)) := hx3.mono (fun b hb => ⟨Nat.le_trans (by first | exact Nat.le_refl _ | exact hsz) hb.1, hb.2⟩)
          have HX4 : Hid (Rd w2 (fun b => wc.heap.size ≤ b ∧ b < w2.heap.size) (.l 5 x.items.length (dJs x.items)) (.slice ya x.items.length yc)) := hx4.mono (fun b hb => ⟨Nat.le_trans (by first | exact Nat.le_refl _ | exact hsz) hb.1, hb.2⟩)
          have HXN : Hid (cnt (d' + 1) x = some n2 ∧ n2 ≤ nd d' ∧ m2 ≤ m1 + kd d' ∧ Small x) := ⟨hx1, hx2, hx6, hxs⟩
          clear hx1 hx2 hxs hx3 hx4 hx5 hx6 hF hF' hsz
          refine hK.out _ _ trivial (fun hHeld => ?_)
          clear hK K
          try simp only [Act.put, tkS]
          refine wpAnyH_ready (rs := [1, 6]) (by kernel_rfl) (by simp) (AllReadyH.cons rfl (fun K hK => ?_) (AllReadyH.cons rfl (fun K hK => ?_) AllReadyH.nil))
          ·
            have k4 := cell_at (o := 4) HJ2.out.bx rfl
            go_simp
            clear k4
            refine hK.out _ _ trivial (fun hHeld => ?_)
            clear hK K
            try simp only [Act.put, tkS]
            refine wpAnyH_ready (rs := [6]) (by kernel_rfl) (by simp) (AllReadyH.cons rfl (fun K hK => ?_) AllReadyH.nil)
            go_simp
            have HJ3 : Hid (JL W (w2.alloc (.cells #[.int .i64 x.k, .int .i64 x.n, .string ⟨x.t.toArray⟩, .slice xa x.keys.length xc, .slice ya x.items.length yc] 28)) p S a l c m2 qb 5 (keys ++ [x4]) L (.slice k2 (keys.length + 1) c2) (.slice ia L.length ic)) := HJ2.out.later (below_allocD _ _)
            have HROW : Hid ((w2.alloc (.cells #[.int .i64 x.k, .int .i64 x.n, .string ⟨x.t.toArray⟩, .slice xa x.keys.length xc, .slice ya x.items.length yc] 28)).heap[w2.heap.size]? = some (.cells #[.int .i64 x.k, .int .i64 x.n, .string ⟨x.t.toArray⟩, .slice xa x.keys.length xc, .slice ya x.items.length yc] 28)) := heap_newD _ _
            have HX3' : Hid (Rd (w2.alloc (.cells #[.int .i64 x.k, .int .i64 x.n, .string ⟨x.t.toArray⟩, .slice xa x.keys.length xc, .slice ya x.items.length yc] 28)) (fun b => wc.heap.size ≤ b ∧ b < w2.heap.size) (.l 1 x.keys.length (dKs x.keys)) (.slice xa x.keys.length xc)) := Rd.later HX3.out (below_allocD _ _)
            have HX4' : Hid (Rd (w2.alloc (.cells #[.int .i64 x.k, .int .i64 x.n, .string ⟨x.t.toArray⟩, .slice xa x.keys.length xc, .slice ya x.items.length yc] 28)) (fun b => wc.heap.size ≤ b ∧ b < w2.heap.size) (.l 5 x.items.length (dJs x.items)) (.slice ya x.items.length yc)) := Rd.later HX4.out (below_allocD _ _)
            have HLT : Hid (w2.heap.size ≤ (w2.alloc (.cells #[.int .i64 x.k, .int .i64 x.n, .string ⟨x.t.toArray⟩, .slice xa x.keys.length xc, .slice ya x.items.length yc] 28)).heap.size) := (below_allocD w2 _).size
            have HJ2' := HJ3
            clear HJ2 HX3 HX4
            have HJ2 := HJ2'
            clear HJ2'
            generalize (w2.alloc (.cells #[.int .i64 x.k, .int .i64 x.n, .string ⟨x.t.toArray⟩, .slice xa x.keys.length xc, .slice ya x.items.length yc] 28)) = V at *
            refine hK.out _ _ trivial (fun hHeld => ?_)
            clear hK K
            try simp only [Act.put, tkS]
            refine wpAnyH_ready (rs := [7]) (by kernel_rfl) (by simp) (AllReadyH.cons rfl (fun K hK => ?_) AllReadyH.nil)
            have hng : ∀ b, wc.heap.size ≤ b → W.heap.size < b ∧ b ≠ qb ∧ (Value.ownBlock (.slice k2 (keys.length + 1) c2)) ≠ some b ∧ (Value.ownBlock (.slice ia L.length ic)) ≠ some b := fun b hb => ⟨by have h1 := HJ5.out.lt; have h2 := HJ5.out.qlt; omega, by have h2 := HJ5.out.qlt; omega, fun e => by have := HJ5.out.kn b e; omega, fun e => by have := HJ5.out.vn b e; omega⟩
            obtain ⟨iJ, hiJ⟩ := infoJv
            refine step_grow rfl (.tmp 78) (.tmp 83) 26 rfl (v := (.slice ia L.length ic)) (by rfl) (HJ3.out.is.conv (f' := dJs (L ++ [x])) (fun i j hi => dJs_old hi j) (fun _ _ h => h)) iJ _ 80 Tryd.underlying26 hiJ.1 hiJ.2.1 hiJ.2.2.1 hiJ.2.2.2 rfl (by omega) ⟨w2.heap.size, 0, none⟩ 1 (by rfl) [.int .i64 x.k, .int .i64 x.n, .string ⟨x.t.toArray⟩, .slice xa x.keys.length xc, .slice ya x.items.length yc] rfl ?n1 ?n2 (by have := HLL.out; unfold maxLen; omega) (by have := HLL.out; omega) (by have := HJ5.out.lt; have := HJ5.out.qlt; have := HJ3.out.fr.size; have := HJ3.out.qlt; omega) ?n3 ?n4
            case n1 =>
              intro j u hu
              rw [Addr.add_mid, Nat.zero_add]
              exact cell_at (o := j) HROW.out (by simpa using hu)
            case n2 =>
              intro u hu
              simp only [List.mem_cons, List.not_mem_nil, or_false] at hu
              rcases hu with rfl | rfl | rfl | rfl | rfl <;> rfl
            case n3 =>
              intro j hj
              rw [dJs_new]
              rcases (by omega : j = 0 ∨ j = 1 ∨ j = 2 ∨ j = 3 ∨ j = 4) with rfl | rfl | rfl | rfl | rfl
              · exact ⟨_, rfl, by rw [dJ_0]; rfl⟩
              · exact ⟨_, rfl, by rw [dJ_1]; rfl⟩
              · exact ⟨_, rfl, by rw [dJ_2]; rfl⟩
              · exact ⟨_, rfl, by rw [dJ_3]; exact HX3'.out.mono (fun b hb => by have h1 := hng b hb.1; exact ⟨⟨h1.2.2.2, Nat.lt_of_lt_of_le hb.2 HLT.out⟩, h1.1, h1.2.1, h1.2.2.1⟩)⟩
              · exact ⟨_, rfl, by rw [dJ_4]; exact HX4'.out.mono (fun b hb => by have h1 := hng b hb.1; exact ⟨⟨h1.2.2.2, Nat.lt_of_lt_of_le hb.2 HLT.out⟩, h1.1, h1.2.1, h1.2.2.1⟩)⟩
            case n4 =>
              intro a' c' w3 hsg hgr hog
              have HJ4 : Hid (JL W (w3.setCell ⟨qb, 4, none⟩ (.slice a' (L.length + 1) c')) p S a l c m2 qb 5 (keys ++ [x4]) (L ++ [x]) (.slice k2 (keys.length + 1) c2) (.slice a' (L.length + 1) c')) := HJ3.out.item hsg hgr hog
              have hb3 : w3.heap[qb]? = some (.cells #[.int .i64 5, .int .i64 0, .string ⟨#[]⟩, (.slice k2 (keys.length + 1) c2), (.slice ia L.length ic)] 28) := by rw [hgr.block qb HJ3.out.qlt (fun e => (HJ3.out.vn _ e.symm).2.1 rfl)]; exact HJ3.out.bx
              have k4 := cell_at (o := 4) hb3 rfl
              have k4f := frozen_at 4 hb3
              clear hb3 hsg hgr hog hng hiJ HJ3 HJ2 HX3' HX4' HLT HROW
              refine hK.out _ _ trivial (fun hHeld => ?_)
              clear hK K
              try simp only [Act.put, tkS]
              refine wpAnyH_take (i := 8) (v := ?_) rfl (by kernel_rfl) (by kernel_rfl) (by kernel_rfl) (fun _ _ _ h => h) (Or.inl ⟨by kernel_rfl, ?_⟩) (by assumption) ?_
              rotate_left
              · (intro wS hSw; (try dsimp only at hSw); go_simp <;> with_reducible rfl)
              try simp only [Act.put, tkS]
              refine wpAnyH_ready (rs := [9]) (by kernel_rfl) (by simp) (AllReadyH.cons rfl (fun K hK => ?_) AllReadyH.nil)
              go_simp
              refine hK.out _ _ trivial (fun hHeld => ?_)
              clear hK K
              try simp only [Act.put, tkS]
              refine wpAnyH_done (by kernel_rfl) ?_ _
              clear k4 k4f
              go_wp2_with fail
              go_roundw
              case rel => exact ⟨ni + 1, keys ++ [x4], L ++ [x], k2, c2, a', c', m2, nn + n2, by omega, by go_num, by simpa only [List.length_append, List.length_singleton] using HJ4.out, by have h1 := HRN.out.1; have h2 := HXN.out.2.2.1; have h3 := HM1.out.1; rw [Nat.add_mul, Nat.one_mul]; omega, sumO_snoc HRN.out.2.1 HXN.out.1, by have h1 := HRN.out.2.2.1; have h2 := HXN.out.2.1; rw [List.length_append, List.length_singleton, Nat.add_mul, Nat.one_mul]; omega, by rw [List.length_append, List.length_append, HRN.out.2.2.2.1]; rfl, four_more (by omega) HRN.out.2.2.2.2.1 HX4.out, small_snoc HRN.out.2.2.2.2.2 HXN.out.2.2.2⟩
              case measure => simp [intOf]; omega
          ·
            go_simp
            have HJ3 : Hid (JL W (w2.alloc (.cells #[.int .i64 x.k, .int .i64 x.n, .string ⟨x.t.toArray⟩, .slice xa x.keys.length xc, .slice ya x.items.length yc] 28)) p S a l c m2 qb 5 (keys ++ [x4]) L (.slice k2 (keys.length + 1) c2) (.slice ia L.length ic)) := HJ2.out.later (below_allocD _ _)
            have HROW : Hid ((w2.alloc (.cells #[.int .i64 x.k, .int .i64 x.n, .string ⟨x.t.toArray⟩, .slice xa x.keys.length xc, .slice ya x.items.length yc] 28)).heap[w2.heap.size]? = some (.cells #[.int .i64 x.k, .int .i64 x.n, .string ⟨x.t.toArray⟩, .slice xa x.keys.length xc, .slice ya x.items.length yc] 28)) := heap_newD _ _
            have HX3' : Hid (Rd (w2.alloc (.cells #[.int .i64 x.k, .int .i64 x.n, .string ⟨x.t.toArray⟩, .slice xa x.keys.length xc, .slice ya x.items.length yc] 28)) (fun b => wc.heap.size ≤ b ∧ b < w2.heap.size) (.l 1 x.keys.length (dKs x.keys)) (.slice xa x.keys.length xc)) := Rd.later HX3.out (below_allocD _ _)
            have HX4' : Hid (Rd (w2.alloc (.cells #[.int .i64 x.k, .int .i64 x.n, .string ⟨x.t.toArray⟩, .slice xa x.keys.length xc, .slice ya x.items.length yc] 28)) (fun b => wc.heap.size ≤ b ∧ b < w2.heap.size) (.l 5 x.items.length (dJs x.items)) (.slice ya x.items.length yc)) := Rd.later HX4.out (below_allocD _ _)
            have HLT : Hid (w2.heap.size ≤ (w2.alloc (.cells #[.int .i64 x.k, .int .i64 x.n, .string ⟨x.t.toArray⟩, .slice xa x.keys.length xc, .slice ya x.items.length yc] 28)).heap.size) := (below_allocD w2 _).size
            have HJ2' := HJ3
            clear HJ2 HX3 HX4
            have HJ2 := HJ2'
            clear HJ2'
            generalize (w2.alloc (.cells #[.int .i64 x.k, .int .i64 x.n, .string ⟨x.t.toArray⟩, .slice xa x.keys.length xc, .slice ya x.items.length yc] 28)) = V at *
            refine hK.out _ _ trivial (fun hHeld => ?_)
            clear hK K
            try simp only [Act.put, tkS]
            refine wpAnyH_ready (rs := [1]) (by kernel_rfl) (by simp) (AllReadyH.cons rfl (fun K hK => ?_) AllReadyH.nil)
            have k4 := cell_at (o := 4) HJ2.out.bx rfl
            go_simp
            clear k4
            refine hK.out _ _ trivial (fun hHeld => ?_)
            clear hK K
            try simp only [Act.put, tkS]
            refine wpAnyH_ready (rs := [7]) (by kernel_rfl) (by simp) (AllReadyH.cons rfl (fun K hK => ?_) AllReadyH.nil)
            have hng : ∀ b, wc.heap.size ≤ b → W.heap.size < b ∧ b ≠ qb ∧ (Value.ownBlock (.slice k2 (keys.length + 1) c2)) ≠ some b ∧ (Value.ownBlock (.slice ia L.length ic)) ≠ some b := fun b hb => ⟨by have h1 := HJ5.out.lt; have h2 := HJ5.out.qlt; omega, by have h2 := HJ5.out.qlt; omega, fun e => by have := HJ5.out.kn b e; omega, fun e => by have := HJ5.out.vn b e; omega⟩
            obtain ⟨iJ, hiJ⟩ := infoJv
            refine step_grow rfl (.tmp 78) (.tmp 83) 26 rfl (v := (.slice ia L.length ic)) (by rfl) (HJ3.out.is.conv (f' := dJs (L ++ [x])) (fun i j hi => dJs_old hi j) (fun _ _ h => h)) iJ _ 80 Tryd.underlying26 hiJ.1 hiJ.2.1 hiJ.2.2.1 hiJ.2.2.2 rfl (by omega) ⟨w2.heap.size, 0, none⟩ 1 (by rfl) [.int .i64 x.k, .int .i64 x.n, .string ⟨x.t.toArray⟩, .slice xa x.keys.length xc, .slice ya x.items.length yc] rfl ?n1 ?n2 (by have := HLL.out; unfold maxLen; omega) (by have := HLL.out; omega) (by have := HJ5.out.lt; have := HJ5.out.qlt; have := HJ3.out.fr.size; have := HJ3.out.qlt; omega) ?n3 ?n4
            case n1 =>
              intro j u hu
              rw [Addr.add_mid, Nat.zero_add]
              exact cell_at (o := j) HROW.out (by simpa using hu)
            case n2 =>
              intro u hu
              simp only [List.mem_cons, List.not_mem_nil, or_false] at hu
              rcases hu with rfl | rfl | rfl | rfl | rfl <;> rfl
            case n3 =>
              intro j hj
              rw [dJs_new]
              rcases (by omega : j = 0 ∨ j = 1 ∨ j = 2 ∨ j = 3 ∨ j = 4) with rfl | rfl | rfl | rfl | rfl
              · exact ⟨_, rfl, by rw [dJ_0]; rfl⟩
              · exact ⟨_, rfl, by rw [dJ_1]; rfl⟩
              · exact ⟨_, rfl, by rw [dJ_2]; rfl⟩
              · exact ⟨_, rfl, by rw [dJ_3]; exact HX3'.out.mono (fun b hb => by have h1 := hng b hb.1; exact ⟨⟨h1.2.2.2, Nat.lt_of_lt_of_le hb.2 HLT.out⟩, h1.1, h1.2.1, h1.2.2.1⟩)⟩
              · exact ⟨_, rfl, by rw [dJ_4]; exact HX4'.out.mono (fun b hb => by have h1 := hng b hb.1; exact ⟨⟨h1.2.2.2, Nat.lt_of_lt_of_le hb.2 HLT.out⟩, h1.1, h1.2.1, h1.2.2.1⟩)⟩
            case n4 =>
              intro a' c' w3 hsg hgr hog
              have HJ4 : Hid (JL W (w3.setCell ⟨qb, 4, none⟩ (.slice a' (L.length + 1) c')) p S a l c m2 qb 5 (keys ++ [x4]) (L ++ [x]) (.slice k2 (keys.length + 1) c2) (.slice a' (L.length + 1) c')) := HJ3.out.item hsg hgr hog
              have hb3 : w3.heap[qb]? = some (.cells #[.int .i64 5, .int .i64 0, .string ⟨#[]⟩, (.slice k2 (keys.length + 1) c2), (.slice ia L.length ic)] 28) := by rw [hgr.block qb HJ3.out.qlt (fun e => (HJ3.out.vn _ e.symm).2.1 rfl)]; exact HJ3.out.bx
              have k4 := cell_at (o := 4) hb3 rfl
              have k4f := frozen_at 4 hb3
              clear hb3 hsg hgr hog hng hiJ HJ3 HJ2 HX3' HX4' HLT HROW
              refine hK.out _ _ trivial (fun hHeld => ?_)
              clear hK K
              try simp only [Act.put, tkS]
              refine wpAnyH_take (i := 8) (v := ?_) rfl (by kernel_rfl) (by kernel_rfl) (by kernel_rfl) (fun _ _ _ h => h) (Or.inl ⟨by kernel_rfl, ?_⟩) (by assumption) ?_
              rotate_left
              · (intro wS hSw; (try dsimp only at hSw); go_simp <;> with_reducible rfl)
              try simp only [Act.put, tkS]
              refine wpAnyH_ready (rs := [9]) (by kernel_rfl) (by simp) (AllReadyH.cons rfl (fun K hK => ?_) AllReadyH.nil)
              go_simp
              refine hK.out _ _ trivial (fun hHeld => ?_)
              clear hK K
              try simp only [Act.put, tkS]
              refine wpAnyH_done (by kernel_rfl) ?_ _
              clear k4 k4f
              go_wp2_with fail
              go_roundw
              case rel => exact ⟨ni + 1, keys ++ [x4], L ++ [x], k2, c2, a', c', m2, nn + n2, by omega, by go_num, by simpa only [List.length_append, List.length_singleton] using HJ4.out, by have h1 := HRN.out.1; have h2 := HXN.out.2.2.1; have h3 := HM1.out.1; rw [Nat.add_mul, Nat.one_mul]; omega, sumO_snoc HRN.out.2.1 HXN.out.1, by have h1 := HRN.out.2.2.1; have h2 := HXN.out.2.1; rw [List.length_append, List.length_singleton, Nat.add_mul, Nat.one_mul]; omega, by rw [List.length_append, List.length_append, HRN.out.2.2.2.1]; rfl, four_more (by omega) HRN.out.2.2.2.2.1 HX4.out, small_snoc HRN.out.2.2.2.2.2 HXN.out.2.2.2⟩
              case measure => simp [intOf]; omega
end Go.Proofs.YtodgijhpokjjhaaDoor
