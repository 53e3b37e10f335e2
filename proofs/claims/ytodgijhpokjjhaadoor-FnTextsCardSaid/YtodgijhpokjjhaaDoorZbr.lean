import Derived.Test.YtodgijhpokjjhaaDoorZbq
namespace Go.Proofs.YtodgijhpokjjhaaDoor
open Go.RowKit
set_option linter.unusedSimpArgs false
variable {w W : World} {p : Nat} {f : Fr} {out : List (List UInt8)} {b : UInt8}
def TakeAns (w : World) (p : Nat) (f : Fr) (out : List (List UInt8)) (e : Ending) (W' : World) : Prop := e = .returned (.tuple #[]) ∧ FrS w p W' f out
theorem doesAt {k : Nat} (h : doesB b = k) (W : World) : Calls Tryd.prog 28 #[.int .u8 (b.toNat : Int)] W fun e w' => e = .returned (.int .u8 (k : Int)) ∧ w' = W := by
  have := doesI b W
  rw [h] at this
  exact this
set_option maxRecDepth 100000 in
set_option maxHeartbeats 3200000 in
theorem takeA (h : FrS w p W f out) (hb : f.buf = []) (hD : doesB b = 1) :
    Calls Tryd.prog 22 #[.pointer (some ⟨p, 0, none⟩), .int .u8 (b.toNat : Int)] W (TakeAns w p f out) := by
  obtain ⟨ba, bp, ea, ep, h⟩ := h.open
  have H := Lib.hid h
  obtain ⟨c0, c1, c2, c3, c4, c5⟩ := h.cell
  clear h
  have hl0 : f.buf.length = 0 := by rw [hb]; rfl
  rw [hl0] at c0
  have DO : Hid (∀ W : World, Calls Tryd.prog 28 #[.int .u8 (b.toNat : Int)] W fun e w' => e = .returned (.int .u8 1) ∧ w' = W) := doesAt hD
  go_enter Tryd.func22, Tryd.ntmps22
  go_wp2_with (go_at_call 28; refine (DO.out _).mono ?_; rintro e w1 ⟨rfl, rfl⟩)
  refine bodyPost_ret (results_none rfl _ _ _) rfl ⟨rfl, ⟨_, _, H.out⟩⟩
set_option maxRecDepth 100000 in
set_option maxHeartbeats 3200000 in
theorem takeB0 (h : FrS w p W f out) (hb : f.buf = []) (hD : doesB b = 0) :
    Calls Tryd.prog 22 #[.pointer (some ⟨p, 0, none⟩), .int .u8 (b.toNat : Int)] W (TakeAns w p frC out) := by
  obtain ⟨ba, bp, ea, ep, h⟩ := h.open
  have H := Lib.hid h
  obtain ⟨c0, c1, c2, c3, c4, c5⟩ := h.cell
  clear h
  have hl0 : f.buf.length = 0 := by rw [hb]; rfl
  rw [hl0] at c0
  have DO : Hid (∀ W : World, Calls Tryd.prog 28 #[.int .u8 (b.toNat : Int)] W fun e w' => e = .returned (.int .u8 0) ∧ w' = W) := doesAt hD
  go_enter Tryd.func22, Tryd.ntmps22
  go_wp2_with (first | (go_at_call 28; refine (DO.out _).mono ?_; rintro e w1 ⟨rfl, rfl⟩) | (go_at_call 29; refine (closeI w p f out _ ⟨_, _, H.out⟩).mono ?_; rintro e w2 ⟨rfl, hs⟩))
  refine bodyPost_ret (results_none rfl _ _ _) rfl ⟨rfl, hs⟩
set_option maxRecDepth 100000 in
set_option maxHeartbeats 3200000 in
theorem takeB3 (h : FrS w p W f out) (hb : f.buf = []) (hD : doesB b = 3) :
    Calls Tryd.prog 22 #[.pointer (some ⟨p, 0, none⟩), .int .u8 (b.toNat : Int)] W (TakeAns w p frC out) := by
  obtain ⟨ba, bp, ea, ep, h⟩ := h.open
  have H := Lib.hid h
  obtain ⟨c0, c1, c2, c3, c4, c5⟩ := h.cell
  clear h
  have hl0 : f.buf.length = 0 := by rw [hb]; rfl
  rw [hl0] at c0
  have DO : Hid (∀ W : World, Calls Tryd.prog 28 #[.int .u8 (b.toNat : Int)] W fun e w' => e = .returned (.int .u8 3) ∧ w' = W) := doesAt hD
  go_enter Tryd.func22, Tryd.ntmps22
  go_wp2_with (first | (go_at_call 28; refine (DO.out _).mono ?_; rintro e w1 ⟨rfl, rfl⟩) | (go_at_call 29; refine (closeI w p f out _ ⟨_, _, H.out⟩).mono ?_; rintro e w2 ⟨rfl, hs⟩))
  refine bodyPost_ret (results_none rfl _ _ _) rfl ⟨rfl, hs⟩
set_option maxRecDepth 100000 in
set_option maxHeartbeats 3200000 in
theorem takeB4 (h : FrS w p W f out) (hb : f.buf = []) (hD : doesB b = 4) :
    Calls Tryd.prog 22 #[.pointer (some ⟨p, 0, none⟩), .int .u8 (b.toNat : Int)] W (TakeAns w p frC out) := by
  obtain ⟨ba, bp, ea, ep, h⟩ := h.open
  have H := Lib.hid h
  obtain ⟨c0, c1, c2, c3, c4, c5⟩ := h.cell
  clear h
  have hl0 : f.buf.length = 0 := by rw [hb]; rfl
  rw [hl0] at c0
  have DO : Hid (∀ W : World, Calls Tryd.prog 28 #[.int .u8 (b.toNat : Int)] W fun e w' => e = .returned (.int .u8 4) ∧ w' = W) := doesAt hD
  go_enter Tryd.func22, Tryd.ntmps22
  go_wp2_with (first | (go_at_call 28; refine (DO.out _).mono ?_; rintro e w1 ⟨rfl, rfl⟩) | (go_at_call 29; refine (closeI w p f out _ ⟨_, _, H.out⟩).mono ?_; rintro e w2 ⟨rfl, hs⟩))
  refine bodyPost_ret (results_none rfl _ _ _) rfl ⟨rfl, hs⟩
set_option maxRecDepth 100000 in
set_option maxHeartbeats 3200000 in
theorem takeB5 (h : FrS w p W f out) (hb : f.buf = []) (hD : doesB b = 5) :
    Calls Tryd.prog 22 #[.pointer (some ⟨p, 0, none⟩), .int .u8 (b.toNat : Int)] W (TakeAns w p frC out) := by
  obtain ⟨ba, bp, ea, ep, h⟩ := h.open
  have H := Lib.hid h
  obtain ⟨c0, c1, c2, c3, c4, c5⟩ := h.cell
  clear h
  have hl0 : f.buf.length = 0 := by rw [hb]; rfl
  rw [hl0] at c0
  have DO : Hid (∀ W : World, Calls Tryd.prog 28 #[.int .u8 (b.toNat : Int)] W fun e w' => e = .returned (.int .u8 5) ∧ w' = W) := doesAt hD
  go_enter Tryd.func22, Tryd.ntmps22
  go_wp2_with (first | (go_at_call 28; refine (DO.out _).mono ?_; rintro e w1 ⟨rfl, rfl⟩) | (go_at_call 29; refine (closeI w p f out _ ⟨_, _, H.out⟩).mono ?_; rintro e w2 ⟨rfl, hs⟩))
  refine bodyPost_ret (results_none rfl _ _ _) rfl ⟨rfl, hs⟩
set_option maxRecDepth 100000 in
set_option maxHeartbeats 3200000 in
theorem takeC (h : FrS w p W f out) (hb : f.buf.length = 3000) (D : Nat) (hD : doesB b = D) :
    Calls Tryd.prog 22 #[.pointer (some ⟨p, 0, none⟩), .int .u8 (b.toNat : Int)] W (TakeAns w p frC out) := by
  obtain ⟨ba, bp, ea, ep, h⟩ := h.open
  have H := Lib.hid h
  obtain ⟨c0, c1, c2, c3, c4, c5⟩ := h.cell
  clear h
  rw [hb] at c0
  have DO : Hid (∀ W : World, Calls Tryd.prog 28 #[.int .u8 (b.toNat : Int)] W fun e w' => e = .returned (.int .u8 (D : Int)) ∧ w' = W) := doesAt hD
  go_enter Tryd.func22, Tryd.ntmps22
  go_wp2_with (first | (go_at_call 28; refine (DO.out _).mono ?_; rintro e w1 ⟨rfl, rfl⟩) | (go_at_call 29; refine (closeI w p f out _ ⟨_, _, H.out⟩).mono ?_; rintro e w2 ⟨rfl, hs⟩))
  refine bodyPost_ret (results_none rfl _ _ _) rfl ⟨rfl, hs⟩
set_option maxRecDepth 100000 in
set_option maxHeartbeats 3200000 in
theorem takeS (h : FrS w p W f out) (hb : f.buf ≠ []) (hlt : f.buf.length < 3000) (hs : f.s = true) (D : Nat) (hD : doesB b = D) :
    Calls Tryd.prog 22 #[.pointer (some ⟨p, 0, none⟩), .int .u8 (b.toNat : Int)] W (TakeAns w p { f with buf := f.buf ++ [b], s := false } out) := by
  obtain ⟨ba, bp, ea, ep, h⟩ := h.open
  have H := Lib.hid h
  obtain ⟨c0, c1, c2, c3, c4, c5⟩ := h.cell
  clear h
  have hbl : 0 < f.buf.length := List.length_pos_iff.2 hb
  obtain ⟨n, hn⟩ : ∃ n, n = f.buf.length := ⟨_, rfl⟩
  rw [← hn] at c0 H
  have HN : Hid (n = f.buf.length ∧ n < 3000) := ⟨hn, by omega⟩
  have HS := Lib.hid (H.out.on ((Below.refl _ _).alloc (Nat.le_refl _) (.cells #[.int .u8 (b.toNat : Int)] 5)))
  have d1 : ((n : Int) == 3000) = false := by simp; omega
  have d0 : ((n : Int) == 0) = false := by simp; omega
  clear hn hlt
  have DO : Hid (∀ W : World, Calls Tryd.prog 28 #[.int .u8 (b.toNat : Int)] W fun e w' => e = .returned (.int .u8 (D : Int)) ∧ w' = W) := doesAt hD
  go_enter Tryd.func22, Tryd.ntmps22
  go_wp2_with (first | (go_at_call 28; refine (DO.out _).mono ?_; rintro e w1 ⟨rfl, rfl⟩) | (at_builtin; refine wpList_push1 rfl (.tmp 41) (.tmp 43) rfl w.heap.size _ f.buf b ⟨_, 0, none⟩ 1 rfl rfl (n + 1) (by rw [List.length_append, ← HN.out.1]; rfl) HS.out.ob HS.out.bel.size (by have := HN.out; omega) (cell_new1 _ rfl) rfl ?_; intro a2 c2 w2 hb2 hg2; have HE := Lib.hid (HS.out.push hb2 hg2); have hbx : w2.heap[p]? = some (.cells (fcs f (.slice ba n bp) (.slice ea out.length ep)) 42) := (by rw [hg2.block p HS.out.lt HS.out.nb]; exact HS.out.box); have y0 := (box_cell hbx).1; have y1 := (box_cell hbx).2.1; have y2 := (box_cell hbx).2.2.1; have y3 := (box_cell hbx).2.2.2.1; have z0 := frozen_at 0 hbx; have z1 := frozen_at 1 hbx; have z2 := frozen_at 2 hbx; have z3 := frozen_at 3 hbx; try rw [hs] at y3; try rw [hq] at y2; clear hbx hb2 hg2))
  refine bodyPost_end (results_none rfl _ _ _) rfl ⟨rfl, ⟨_, _, HE.out.put 3 (.bool false) { f with buf := f.buf ++ [b], s := false } rfl rfl⟩⟩
set_option maxRecDepth 100000 in
set_option maxHeartbeats 3200000 in
theorem take4 (h : FrS w p W f out) (hb : f.buf ≠ []) (hlt : f.buf.length < 3000) (hs : f.s = false) (hD : doesB b = 4) :
    Calls Tryd.prog 22 #[.pointer (some ⟨p, 0, none⟩), .int .u8 (b.toNat : Int)] W (TakeAns w p { f with buf := f.buf ++ [b], q := !f.q } out) := by
  obtain ⟨ba, bp, ea, ep, h⟩ := h.open
  have H := Lib.hid h
  obtain ⟨c0, c1, c2, c3, c4, c5⟩ := h.cell
  clear h
  have hbl : 0 < f.buf.length := List.length_pos_iff.2 hb
  obtain ⟨n, hn⟩ : ∃ n, n = f.buf.length := ⟨_, rfl⟩
  rw [← hn] at c0 H
  have HN : Hid (n = f.buf.length ∧ n < 3000) := ⟨hn, by omega⟩
  have HS := Lib.hid (H.out.on ((Below.refl _ _).alloc (Nat.le_refl _) (.cells #[.int .u8 (b.toNat : Int)] 5)))
  have d1 : ((n : Int) == 3000) = false := by simp; omega
  have d0 : ((n : Int) == 0) = false := by simp; omega
  clear hn hlt
  have DO : Hid (∀ W : World, Calls Tryd.prog 28 #[.int .u8 (b.toNat : Int)] W fun e w' => e = .returned (.int .u8 4) ∧ w' = W) := doesAt hD
  go_enter Tryd.func22, Tryd.ntmps22
  go_wp2_with (first | (go_at_call 28; refine (DO.out _).mono ?_; rintro e w1 ⟨rfl, rfl⟩) | (at_builtin; refine wpList_push1 rfl (.tmp 41) (.tmp 43) rfl w.heap.size _ f.buf b ⟨_, 0, none⟩ 1 rfl rfl (n + 1) (by rw [List.length_append, ← HN.out.1]; rfl) HS.out.ob HS.out.bel.size (by have := HN.out; omega) (cell_new1 _ rfl) rfl ?_; intro a2 c2 w2 hb2 hg2; have HE := Lib.hid (HS.out.push hb2 hg2); have hbx : w2.heap[p]? = some (.cells (fcs f (.slice ba n bp) (.slice ea out.length ep)) 42) := (by rw [hg2.block p HS.out.lt HS.out.nb]; exact HS.out.box); have y0 := (box_cell hbx).1; have y1 := (box_cell hbx).2.1; have y2 := (box_cell hbx).2.2.1; have y3 := (box_cell hbx).2.2.2.1; have z0 := frozen_at 0 hbx; have z1 := frozen_at 1 hbx; have z2 := frozen_at 2 hbx; have z3 := frozen_at 3 hbx; try rw [hs] at y3; try rw [hq] at y2; clear hbx hb2 hg2))
  refine bodyPost_end (results_none rfl _ _ _) rfl ⟨rfl, ⟨_, _, HE.out.put 2 (.bool (!f.q)) { f with buf := f.buf ++ [b], q := !f.q } rfl rfl⟩⟩
set_option maxRecDepth 100000 in
set_option maxHeartbeats 3200000 in
theorem takeQ0 (h : FrS w p W f out) (hb : f.buf ≠ []) (hlt : f.buf.length < 3000) (hs : f.s = false) (hq : f.q = true) (hD : doesB b = 0) :
    Calls Tryd.prog 22 #[.pointer (some ⟨p, 0, none⟩), .int .u8 (b.toNat : Int)] W (TakeAns w p { f with buf := f.buf ++ [b], s := false } out) := by
  obtain ⟨ba, bp, ea, ep, h⟩ := h.open
  have H := Lib.hid h
  obtain ⟨c0, c1, c2, c3, c4, c5⟩ := h.cell
  clear h
  have hbl : 0 < f.buf.length := List.length_pos_iff.2 hb
  obtain ⟨n, hn⟩ : ∃ n, n = f.buf.length := ⟨_, rfl⟩
  rw [← hn] at c0 H
  have HN : Hid (n = f.buf.length ∧ n < 3000) := ⟨hn, by omega⟩
  have HS := Lib.hid (H.out.on ((Below.refl _ _).alloc (Nat.le_refl _) (.cells #[.int .u8 (b.toNat : Int)] 5)))
  have d1 : ((n : Int) == 3000) = false := by simp; omega
  have d0 : ((n : Int) == 0) = false := by simp; omega
  clear hn hlt
  have DO : Hid (∀ W : World, Calls Tryd.prog 28 #[.int .u8 (b.toNat : Int)] W fun e w' => e = .returned (.int .u8 0) ∧ w' = W) := doesAt hD
  go_enter Tryd.func22, Tryd.ntmps22
  go_wp2_with (first | (go_at_call 28; refine (DO.out _).mono ?_; rintro e w1 ⟨rfl, rfl⟩) | (at_builtin; refine wpList_push1 rfl (.tmp 41) (.tmp 43) rfl w.heap.size _ f.buf b ⟨_, 0, none⟩ 1 rfl rfl (n + 1) (by rw [List.length_append, ← HN.out.1]; rfl) HS.out.ob HS.out.bel.size (by have := HN.out; omega) (cell_new1 _ rfl) rfl ?_; intro a2 c2 w2 hb2 hg2; have HE := Lib.hid (HS.out.push hb2 hg2); have hbx : w2.heap[p]? = some (.cells (fcs f (.slice ba n bp) (.slice ea out.length ep)) 42) := (by rw [hg2.block p HS.out.lt HS.out.nb]; exact HS.out.box); have y0 := (box_cell hbx).1; have y1 := (box_cell hbx).2.1; have y2 := (box_cell hbx).2.2.1; have y3 := (box_cell hbx).2.2.2.1; have z0 := frozen_at 0 hbx; have z1 := frozen_at 1 hbx; have z2 := frozen_at 2 hbx; have z3 := frozen_at 3 hbx; try rw [hs] at y3; try rw [hq] at y2; clear hbx hb2 hg2))
  refine bodyPost_end (results_none rfl _ _ _) rfl ⟨rfl, ⟨_, _, HE.out.put 3 (.bool false) { f with buf := f.buf ++ [b], s := false } rfl rfl⟩⟩
set_option maxRecDepth 100000 in
set_option maxHeartbeats 3200000 in
theorem takeQ1 (h : FrS w p W f out) (hb : f.buf ≠ []) (hlt : f.buf.length < 3000) (hs : f.s = false) (hq : f.q = true) (hD : doesB b = 1) :
    Calls Tryd.prog 22 #[.pointer (some ⟨p, 0, none⟩), .int .u8 (b.toNat : Int)] W (TakeAns w p { f with buf := f.buf ++ [b], s := false } out) := by
  obtain ⟨ba, bp, ea, ep, h⟩ := h.open
  have H := Lib.hid h
  obtain ⟨c0, c1, c2, c3, c4, c5⟩ := h.cell
  clear h
  have hbl : 0 < f.buf.length := List.length_pos_iff.2 hb
  obtain ⟨n, hn⟩ : ∃ n, n = f.buf.length := ⟨_, rfl⟩
  rw [← hn] at c0 H
  have HN : Hid (n = f.buf.length ∧ n < 3000) := ⟨hn, by omega⟩
  have HS := Lib.hid (H.out.on ((Below.refl _ _).alloc (Nat.le_refl _) (.cells #[.int .u8 (b.toNat : Int)] 5)))
  have d1 : ((n : Int) == 3000) = false := by simp; omega
  have d0 : ((n : Int) == 0) = false := by simp; omega
  clear hn hlt
  have DO : Hid (∀ W : World, Calls Tryd.prog 28 #[.int .u8 (b.toNat : Int)] W fun e w' => e = .returned (.int .u8 1) ∧ w' = W) := doesAt hD
  go_enter Tryd.func22, Tryd.ntmps22
  go_wp2_with (first | (go_at_call 28; refine (DO.out _).mono ?_; rintro e w1 ⟨rfl, rfl⟩) | (at_builtin; refine wpList_push1 rfl (.tmp 41) (.tmp 43) rfl w.heap.size _ f.buf b ⟨_, 0, none⟩ 1 rfl rfl (n + 1) (by rw [List.length_append, ← HN.out.1]; rfl) HS.out.ob HS.out.bel.size (by have := HN.out; omega) (cell_new1 _ rfl) rfl ?_; intro a2 c2 w2 hb2 hg2; have HE := Lib.hid (HS.out.push hb2 hg2); have hbx : w2.heap[p]? = some (.cells (fcs f (.slice ba n bp) (.slice ea out.length ep)) 42) := (by rw [hg2.block p HS.out.lt HS.out.nb]; exact HS.out.box); have y0 := (box_cell hbx).1; have y1 := (box_cell hbx).2.1; have y2 := (box_cell hbx).2.2.1; have y3 := (box_cell hbx).2.2.2.1; have z0 := frozen_at 0 hbx; have z1 := frozen_at 1 hbx; have z2 := frozen_at 2 hbx; have z3 := frozen_at 3 hbx; try rw [hs] at y3; try rw [hq] at y2; clear hbx hb2 hg2))
  refine bodyPost_end (results_none rfl _ _ _) rfl ⟨rfl, ⟨_, _, HE.out.put 3 (.bool false) { f with buf := f.buf ++ [b], s := false } rfl rfl⟩⟩
set_option maxRecDepth 100000 in
set_option maxHeartbeats 3200000 in
theorem takeQ2 (h : FrS w p W f out) (hb : f.buf ≠ []) (hlt : f.buf.length < 3000) (hs : f.s = false) (hq : f.q = true) (hD : doesB b = 2) :
    Calls Tryd.prog 22 #[.pointer (some ⟨p, 0, none⟩), .int .u8 (b.toNat : Int)] W (TakeAns w p { f with buf := f.buf ++ [b], s := false } out) := by
  obtain ⟨ba, bp, ea, ep, h⟩ := h.open
  have H := Lib.hid h
  obtain ⟨c0, c1, c2, c3, c4, c5⟩ := h.cell
  clear h
  have hbl : 0 < f.buf.length := List.length_pos_iff.2 hb
  obtain ⟨n, hn⟩ : ∃ n, n = f.buf.length := ⟨_, rfl⟩
  rw [← hn] at c0 H
  have HN : Hid (n = f.buf.length ∧ n < 3000) := ⟨hn, by omega⟩
  have HS := Lib.hid (H.out.on ((Below.refl _ _).alloc (Nat.le_refl _) (.cells #[.int .u8 (b.toNat : Int)] 5)))
  have d1 : ((n : Int) == 3000) = false := by simp; omega
  have d0 : ((n : Int) == 0) = false := by simp; omega
  clear hn hlt
  have DO : Hid (∀ W : World, Calls Tryd.prog 28 #[.int .u8 (b.toNat : Int)] W fun e w' => e = .returned (.int .u8 2) ∧ w' = W) := doesAt hD
  go_enter Tryd.func22, Tryd.ntmps22
  go_wp2_with (first | (go_at_call 28; refine (DO.out _).mono ?_; rintro e w1 ⟨rfl, rfl⟩) | (at_builtin; refine wpList_push1 rfl (.tmp 41) (.tmp 43) rfl w.heap.size _ f.buf b ⟨_, 0, none⟩ 1 rfl rfl (n + 1) (by rw [List.length_append, ← HN.out.1]; rfl) HS.out.ob HS.out.bel.size (by have := HN.out; omega) (cell_new1 _ rfl) rfl ?_; intro a2 c2 w2 hb2 hg2; have HE := Lib.hid (HS.out.push hb2 hg2); have hbx : w2.heap[p]? = some (.cells (fcs f (.slice ba n bp) (.slice ea out.length ep)) 42) := (by rw [hg2.block p HS.out.lt HS.out.nb]; exact HS.out.box); have y0 := (box_cell hbx).1; have y1 := (box_cell hbx).2.1; have y2 := (box_cell hbx).2.2.1; have y3 := (box_cell hbx).2.2.2.1; have z0 := frozen_at 0 hbx; have z1 := frozen_at 1 hbx; have z2 := frozen_at 2 hbx; have z3 := frozen_at 3 hbx; try rw [hs] at y3; try rw [hq] at y2; clear hbx hb2 hg2))
  refine bodyPost_end (results_none rfl _ _ _) rfl ⟨rfl, ⟨_, _, HE.out.put 3 (.bool false) { f with buf := f.buf ++ [b], s := false } rfl rfl⟩⟩
set_option maxRecDepth 100000 in
set_option maxHeartbeats 3200000 in
theorem takeQ3 (h : FrS w p W f out) (hb : f.buf ≠ []) (hlt : f.buf.length < 3000) (hs : f.s = false) (hq : f.q = true) (hD : doesB b = 3) :
    Calls Tryd.prog 22 #[.pointer (some ⟨p, 0, none⟩), .int .u8 (b.toNat : Int)] W (TakeAns w p { f with buf := f.buf ++ [b], s := false } out) := by
  obtain ⟨ba, bp, ea, ep, h⟩ := h.open
  have H := Lib.hid h
  obtain ⟨c0, c1, c2, c3, c4, c5⟩ := h.cell
  clear h
  have hbl : 0 < f.buf.length := List.length_pos_iff.2 hb
  obtain ⟨n, hn⟩ : ∃ n, n = f.buf.length := ⟨_, rfl⟩
  rw [← hn] at c0 H
  have HN : Hid (n = f.buf.length ∧ n < 3000) := ⟨hn, by omega⟩
  have HS := Lib.hid (H.out.on ((Below.refl _ _).alloc (Nat.le_refl _) (.cells #[.int .u8 (b.toNat : Int)] 5)))
  have d1 : ((n : Int) == 3000) = false := by simp; omega
  have d0 : ((n : Int) == 0) = false := by simp; omega
  clear hn hlt
  have DO : Hid (∀ W : World, Calls Tryd.prog 28 #[.int .u8 (b.toNat : Int)] W fun e w' => e = .returned (.int .u8 3) ∧ w' = W) := doesAt hD
  go_enter Tryd.func22, Tryd.ntmps22
  go_wp2_with (first | (go_at_call 28; refine (DO.out _).mono ?_; rintro e w1 ⟨rfl, rfl⟩) | (at_builtin; refine wpList_push1 rfl (.tmp 41) (.tmp 43) rfl w.heap.size _ f.buf b ⟨_, 0, none⟩ 1 rfl rfl (n + 1) (by rw [List.length_append, ← HN.out.1]; rfl) HS.out.ob HS.out.bel.size (by have := HN.out; omega) (cell_new1 _ rfl) rfl ?_; intro a2 c2 w2 hb2 hg2; have HE := Lib.hid (HS.out.push hb2 hg2); have hbx : w2.heap[p]? = some (.cells (fcs f (.slice ba n bp) (.slice ea out.length ep)) 42) := (by rw [hg2.block p HS.out.lt HS.out.nb]; exact HS.out.box); have y0 := (box_cell hbx).1; have y1 := (box_cell hbx).2.1; have y2 := (box_cell hbx).2.2.1; have y3 := (box_cell hbx).2.2.2.1; have z0 := frozen_at 0 hbx; have z1 := frozen_at 1 hbx; have z2 := frozen_at 2 hbx; have z3 := frozen_at 3 hbx; try rw [hs] at y3; try rw [hq] at y2; clear hbx hb2 hg2))
  refine bodyPost_end (results_none rfl _ _ _) rfl ⟨rfl, ⟨_, _, HE.out.put 3 (.bool false) { f with buf := f.buf ++ [b], s := false } rfl rfl⟩⟩
set_option maxRecDepth 100000 in
set_option maxHeartbeats 3200000 in
theorem takeQ5 (h : FrS w p W f out) (hb : f.buf ≠ []) (hlt : f.buf.length < 3000) (hs : f.s = false) (hq : f.q = true) (hD : doesB b = 5) :
    Calls Tryd.prog 22 #[.pointer (some ⟨p, 0, none⟩), .int .u8 (b.toNat : Int)] W (TakeAns w p { f with buf := f.buf ++ [b], s := true } out) := by
  obtain ⟨ba, bp, ea, ep, h⟩ := h.open
  have H := Lib.hid h
  obtain ⟨c0, c1, c2, c3, c4, c5⟩ := h.cell
  clear h
  have hbl : 0 < f.buf.length := List.length_pos_iff.2 hb
  obtain ⟨n, hn⟩ : ∃ n, n = f.buf.length := ⟨_, rfl⟩
  rw [← hn] at c0 H
  have HN : Hid (n = f.buf.length ∧ n < 3000) := ⟨hn, by omega⟩
  have HS := Lib.hid (H.out.on ((Below.refl _ _).alloc (Nat.le_refl _) (.cells #[.int .u8 (b.toNat : Int)] 5)))
  have d1 : ((n : Int) == 3000) = false := by simp; omega
  have d0 : ((n : Int) == 0) = false := by simp; omega
  clear hn hlt
  have DO : Hid (∀ W : World, Calls Tryd.prog 28 #[.int .u8 (b.toNat : Int)] W fun e w' => e = .returned (.int .u8 5) ∧ w' = W) := doesAt hD
  go_enter Tryd.func22, Tryd.ntmps22
  go_wp2_with (first | (go_at_call 28; refine (DO.out _).mono ?_; rintro e w1 ⟨rfl, rfl⟩) | (at_builtin; refine wpList_push1 rfl (.tmp 41) (.tmp 43) rfl w.heap.size _ f.buf b ⟨_, 0, none⟩ 1 rfl rfl (n + 1) (by rw [List.length_append, ← HN.out.1]; rfl) HS.out.ob HS.out.bel.size (by have := HN.out; omega) (cell_new1 _ rfl) rfl ?_; intro a2 c2 w2 hb2 hg2; have HE := Lib.hid (HS.out.push hb2 hg2); have hbx : w2.heap[p]? = some (.cells (fcs f (.slice ba n bp) (.slice ea out.length ep)) 42) := (by rw [hg2.block p HS.out.lt HS.out.nb]; exact HS.out.box); have y0 := (box_cell hbx).1; have y1 := (box_cell hbx).2.1; have y2 := (box_cell hbx).2.2.1; have y3 := (box_cell hbx).2.2.2.1; have z0 := frozen_at 0 hbx; have z1 := frozen_at 1 hbx; have z2 := frozen_at 2 hbx; have z3 := frozen_at 3 hbx; try rw [hs] at y3; try rw [hq] at y2; clear hbx hb2 hg2))
  refine bodyPost_end (results_none rfl _ _ _) rfl ⟨rfl, ⟨_, _, HE.out.put 3 (.bool true) { f with buf := f.buf ++ [b], s := true } rfl rfl⟩⟩
set_option maxRecDepth 100000 in
set_option maxHeartbeats 3200000 in
theorem take2 (h : FrS w p W f out) (hb : f.buf ≠ []) (hlt : f.buf.length < 3000) (hs : f.s = false) (hq : f.q = false) (hd0 : 0 ≤ f.d) (hd12 : f.d ≤ 12) (hD : doesB b = 2) :
    Calls Tryd.prog 22 #[.pointer (some ⟨p, 0, none⟩), .int .u8 (b.toNat : Int)] W (TakeAns w p (openF { f with buf := f.buf ++ [b] }) out) := by
  obtain ⟨ba, bp, ea, ep, h⟩ := h.open
  have H := Lib.hid h
  obtain ⟨c0, c1, c2, c3, c4, c5⟩ := h.cell
  clear h
  have hbl : 0 < f.buf.length := List.length_pos_iff.2 hb
  obtain ⟨n, hn⟩ : ∃ n, n = f.buf.length := ⟨_, rfl⟩
  rw [← hn] at c0 H
  have HN : Hid (n = f.buf.length ∧ n < 3000) := ⟨hn, by omega⟩
  have HS := Lib.hid (H.out.on ((Below.refl _ _).alloc (Nat.le_refl _) (.cells #[.int .u8 (b.toNat : Int)] 5)))
  have d1 : ((n : Int) == 3000) = false := by simp; omega
  have d0 : ((n : Int) == 0) = false := by simp; omega
  clear hn hlt
  have DO : Hid (∀ W : World, Calls Tryd.prog 28 #[.int .u8 (b.toNat : Int)] W fun e w' => e = .returned (.int .u8 2) ∧ w' = W) := doesAt hD
  go_enter Tryd.func22, Tryd.ntmps22
  go_wp2_with (first | (go_at_call 28; refine (DO.out _).mono ?_; rintro e w1 ⟨rfl, rfl⟩) | (at_builtin; refine wpList_push1 rfl (.tmp 41) (.tmp 43) rfl w.heap.size _ f.buf b ⟨_, 0, none⟩ 1 rfl rfl (n + 1) (by rw [List.length_append, ← HN.out.1]; rfl) HS.out.ob HS.out.bel.size (by have := HN.out; omega) (cell_new1 _ rfl) rfl ?_; intro a2 c2 w2 hb2 hg2; have HE := Lib.hid (HS.out.push hb2 hg2); have hbx : w2.heap[p]? = some (.cells (fcs f (.slice ba n bp) (.slice ea out.length ep)) 42) := (by rw [hg2.block p HS.out.lt HS.out.nb]; exact HS.out.box); have y0 := (box_cell hbx).1; have y1 := (box_cell hbx).2.1; have y2 := (box_cell hbx).2.2.1; have y3 := (box_cell hbx).2.2.2.1; have z0 := frozen_at 0 hbx; have z1 := frozen_at 1 hbx; have z2 := frozen_at 2 hbx; have z3 := frozen_at 3 hbx; try rw [hs] at y3; try rw [hq] at y2; clear hbx hb2 hg2) | (go_at_call 30; refine (openI w p { f with buf := f.buf ++ [b] } out _ hd0 hd12 ⟨_, _, HE.out⟩).mono ?_; rintro e w3 ⟨rfl, hso⟩))
  refine bodyPost_end (results_none rfl _ _ _) rfl ⟨rfl, hso⟩
set_option maxRecDepth 100000 in
set_option maxHeartbeats 3200000 in
theorem take20 (h : FrS w p W f out) (hb : f.buf = []) (hlt : f.buf.length < 3000) (hs : f.s = false) (hq : f.q = false) (hd0 : 0 ≤ f.d) (hd12 : f.d ≤ 12) (hD : doesB b = 2) :
    Calls Tryd.prog 22 #[.pointer (some ⟨p, 0, none⟩), .int .u8 (b.toNat : Int)] W (TakeAns w p (openF { f with buf := f.buf ++ [b] }) out) := by
  obtain ⟨ba, bp, ea, ep, h⟩ := h.open
  have H := Lib.hid h
  obtain ⟨c0, c1, c2, c3, c4, c5⟩ := h.cell
  clear h
  obtain ⟨n, hn⟩ : ∃ n, n = f.buf.length := ⟨_, rfl⟩
  rw [← hn] at c0 H
  have HN : Hid (n = f.buf.length ∧ n < 3000) := ⟨hn, by omega⟩
  have HS := Lib.hid (H.out.on ((Below.refl _ _).alloc (Nat.le_refl _) (.cells #[.int .u8 (b.toNat : Int)] 5)))
  have d1 : ((n : Int) == 3000) = false := by simp; omega
  obtain rfl : n = 0 := by rw [hn, hb]; rfl
  clear hn hlt
  have DO : Hid (∀ W : World, Calls Tryd.prog 28 #[.int .u8 (b.toNat : Int)] W fun e w' => e = .returned (.int .u8 2) ∧ w' = W) := doesAt hD
  go_enter Tryd.func22, Tryd.ntmps22
  go_wp2_with (first | (go_at_call 28; refine (DO.out _).mono ?_; rintro e w1 ⟨rfl, rfl⟩) | (at_builtin; refine wpList_push1 rfl (.tmp 41) (.tmp 43) rfl w.heap.size _ f.buf b ⟨_, 0, none⟩ 1 rfl rfl 1 (by rw [List.length_append, ← HN.out.1]; rfl) HS.out.ob HS.out.bel.size (by have := HN.out; omega) (cell_new1 _ rfl) rfl ?_; intro a2 c2 w2 hb2 hg2; have HE := Lib.hid (HS.out.push hb2 hg2); have hbx : w2.heap[p]? = some (.cells (fcs f (.slice ba 0 bp) (.slice ea out.length ep)) 42) := (by rw [hg2.block p HS.out.lt HS.out.nb]; exact HS.out.box); have y0 := (box_cell hbx).1; have y1 := (box_cell hbx).2.1; have y2 := (box_cell hbx).2.2.1; have y3 := (box_cell hbx).2.2.2.1; have z0 := frozen_at 0 hbx; have z1 := frozen_at 1 hbx; have z2 := frozen_at 2 hbx; have z3 := frozen_at 3 hbx; try rw [hs] at y3; try rw [hq] at y2; clear hbx hb2 hg2) | (go_at_call 30; refine (openI w p { f with buf := f.buf ++ [b] } out _ hd0 hd12 ⟨_, _, HE.out⟩).mono ?_; rintro e w3 ⟨rfl, hso⟩))
  refine bodyPost_end (results_none rfl _ _ _) rfl ⟨rfl, hso⟩
set_option maxRecDepth 100000 in
set_option maxHeartbeats 3200000 in
theorem take3 (h : FrS w p W f out) (hb : f.buf ≠ []) (hlt : f.buf.length < 3000) (hs : f.s = false) (hq : f.q = false) (hd0 : 0 ≤ f.d) (hd12 : f.d ≤ 12) (hol : out.length ≤ 100000000) (hD : doesB b = 3) :
    Calls Tryd.prog 22 #[.pointer (some ⟨p, 0, none⟩), .int .u8 (b.toNat : Int)] W (TakeAns w p (shutF { f with buf := f.buf ++ [b] }) (out ++ shutO { f with buf := f.buf ++ [b] })) := by
  obtain ⟨ba, bp, ea, ep, h⟩ := h.open
  have H := Lib.hid h
  obtain ⟨c0, c1, c2, c3, c4, c5⟩ := h.cell
  clear h
  have hbl : 0 < f.buf.length := List.length_pos_iff.2 hb
  obtain ⟨n, hn⟩ : ∃ n, n = f.buf.length := ⟨_, rfl⟩
  rw [← hn] at c0 H
  have HN : Hid (n = f.buf.length ∧ n < 3000) := ⟨hn, by omega⟩
  have HS := Lib.hid (H.out.on ((Below.refl _ _).alloc (Nat.le_refl _) (.cells #[.int .u8 (b.toNat : Int)] 5)))
  have d1 : ((n : Int) == 3000) = false := by simp; omega
  have d0 : ((n : Int) == 0) = false := by simp; omega
  clear hn hlt
  have DO : Hid (∀ W : World, Calls Tryd.prog 28 #[.int .u8 (b.toNat : Int)] W fun e w' => e = .returned (.int .u8 3) ∧ w' = W) := doesAt hD
  go_enter Tryd.func22, Tryd.ntmps22
  go_wp2_with (first | (go_at_call 28; refine (DO.out _).mono ?_; rintro e w1 ⟨rfl, rfl⟩) | (at_builtin; refine wpList_push1 rfl (.tmp 41) (.tmp 43) rfl w.heap.size _ f.buf b ⟨_, 0, none⟩ 1 rfl rfl (n + 1) (by rw [List.length_append, ← HN.out.1]; rfl) HS.out.ob HS.out.bel.size (by have := HN.out; omega) (cell_new1 _ rfl) rfl ?_; intro a2 c2 w2 hb2 hg2; have HE := Lib.hid (HS.out.push hb2 hg2); have hbx : w2.heap[p]? = some (.cells (fcs f (.slice ba n bp) (.slice ea out.length ep)) 42) := (by rw [hg2.block p HS.out.lt HS.out.nb]; exact HS.out.box); have y0 := (box_cell hbx).1; have y1 := (box_cell hbx).2.1; have y2 := (box_cell hbx).2.2.1; have y3 := (box_cell hbx).2.2.2.1; have z0 := frozen_at 0 hbx; have z1 := frozen_at 1 hbx; have z2 := frozen_at 2 hbx; have z3 := frozen_at 3 hbx; try rw [hs] at y3; try rw [hq] at y2; clear hbx hb2 hg2) | (go_at_call 31; refine (shutI w p { f with buf := f.buf ++ [b] } out _ hd0 hd12 (by simp) hol ⟨_, _, HE.out⟩).mono ?_; rintro e w3 ⟨rfl, hso⟩))
  refine bodyPost_end (results_none rfl _ _ _) rfl ⟨rfl, hso⟩
set_option maxRecDepth 100000 in
set_option maxHeartbeats 3200000 in
theorem takeP0 (h : FrS w p W f out) (hb : f.buf ≠ []) (hlt : f.buf.length < 3000) (hs : f.s = false) (hq : f.q = false) (hD : doesB b = 0) :
    Calls Tryd.prog 22 #[.pointer (some ⟨p, 0, none⟩), .int .u8 (b.toNat : Int)] W (TakeAns w p { f with buf := f.buf ++ [b] } out) := by
  obtain ⟨ba, bp, ea, ep, h⟩ := h.open
  have H := Lib.hid h
  obtain ⟨c0, c1, c2, c3, c4, c5⟩ := h.cell
  clear h
  have hbl : 0 < f.buf.length := List.length_pos_iff.2 hb
  obtain ⟨n, hn⟩ : ∃ n, n = f.buf.length := ⟨_, rfl⟩
  rw [← hn] at c0 H
  have HN : Hid (n = f.buf.length ∧ n < 3000) := ⟨hn, by omega⟩
  have HS := Lib.hid (H.out.on ((Below.refl _ _).alloc (Nat.le_refl _) (.cells #[.int .u8 (b.toNat : Int)] 5)))
  have d1 : ((n : Int) == 3000) = false := by simp; omega
  have d0 : ((n : Int) == 0) = false := by simp; omega
  clear hn hlt
  have DO : Hid (∀ W : World, Calls Tryd.prog 28 #[.int .u8 (b.toNat : Int)] W fun e w' => e = .returned (.int .u8 0) ∧ w' = W) := doesAt hD
  go_enter Tryd.func22, Tryd.ntmps22
  go_wp2_with (first | (go_at_call 28; refine (DO.out _).mono ?_; rintro e w1 ⟨rfl, rfl⟩) | (at_builtin; refine wpList_push1 rfl (.tmp 41) (.tmp 43) rfl w.heap.size _ f.buf b ⟨_, 0, none⟩ 1 rfl rfl (n + 1) (by rw [List.length_append, ← HN.out.1]; rfl) HS.out.ob HS.out.bel.size (by have := HN.out; omega) (cell_new1 _ rfl) rfl ?_; intro a2 c2 w2 hb2 hg2; have HE := Lib.hid (HS.out.push hb2 hg2); have hbx : w2.heap[p]? = some (.cells (fcs f (.slice ba n bp) (.slice ea out.length ep)) 42) := (by rw [hg2.block p HS.out.lt HS.out.nb]; exact HS.out.box); have y0 := (box_cell hbx).1; have y1 := (box_cell hbx).2.1; have y2 := (box_cell hbx).2.2.1; have y3 := (box_cell hbx).2.2.2.1; have z0 := frozen_at 0 hbx; have z1 := frozen_at 1 hbx; have z2 := frozen_at 2 hbx; have z3 := frozen_at 3 hbx; try rw [hs] at y3; try rw [hq] at y2; clear hbx hb2 hg2))
  refine bodyPost_end (results_none rfl _ _ _) rfl ⟨rfl, ⟨_, _, HE.out⟩⟩
set_option maxRecDepth 100000 in
set_option maxHeartbeats 3200000 in
theorem takeP1 (h : FrS w p W f out) (hb : f.buf ≠ []) (hlt : f.buf.length < 3000) (hs : f.s = false) (hq : f.q = false) (hD : doesB b = 1) :
    Calls Tryd.prog 22 #[.pointer (some ⟨p, 0, none⟩), .int .u8 (b.toNat : Int)] W (TakeAns w p { f with buf := f.buf ++ [b] } out) := by
  obtain ⟨ba, bp, ea, ep, h⟩ := h.open
  have H := Lib.hid h
  obtain ⟨c0, c1, c2, c3, c4, c5⟩ := h.cell
  clear h
  have hbl : 0 < f.buf.length := List.length_pos_iff.2 hb
  obtain ⟨n, hn⟩ : ∃ n, n = f.buf.length := ⟨_, rfl⟩
  rw [← hn] at c0 H
  have HN : Hid (n = f.buf.length ∧ n < 3000) := ⟨hn, by omega⟩
  have HS := Lib.hid (H.out.on ((Below.refl _ _).alloc (Nat.le_refl _) (.cells #[.int .u8 (b.toNat : Int)] 5)))
  have d1 : ((n : Int) == 3000) = false := by simp; omega
  have d0 : ((n : Int) == 0) = false := by simp; omega
  clear hn hlt
  have DO : Hid (∀ W : World, Calls Tryd.prog 28 #[.int .u8 (b.toNat : Int)] W fun e w' => e = .returned (.int .u8 1) ∧ w' = W) := doesAt hD
  go_enter Tryd.func22, Tryd.ntmps22
  go_wp2_with (first | (go_at_call 28; refine (DO.out _).mono ?_; rintro e w1 ⟨rfl, rfl⟩) | (at_builtin; refine wpList_push1 rfl (.tmp 41) (.tmp 43) rfl w.heap.size _ f.buf b ⟨_, 0, none⟩ 1 rfl rfl (n + 1) (by rw [List.length_append, ← HN.out.1]; rfl) HS.out.ob HS.out.bel.size (by have := HN.out; omega) (cell_new1 _ rfl) rfl ?_; intro a2 c2 w2 hb2 hg2; have HE := Lib.hid (HS.out.push hb2 hg2); have hbx : w2.heap[p]? = some (.cells (fcs f (.slice ba n bp) (.slice ea out.length ep)) 42) := (by rw [hg2.block p HS.out.lt HS.out.nb]; exact HS.out.box); have y0 := (box_cell hbx).1; have y1 := (box_cell hbx).2.1; have y2 := (box_cell hbx).2.2.1; have y3 := (box_cell hbx).2.2.2.1; have z0 := frozen_at 0 hbx; have z1 := frozen_at 1 hbx; have z2 := frozen_at 2 hbx; have z3 := frozen_at 3 hbx; try rw [hs] at y3; try rw [hq] at y2; clear hbx hb2 hg2))
  refine bodyPost_end (results_none rfl _ _ _) rfl ⟨rfl, ⟨_, _, HE.out⟩⟩
set_option maxRecDepth 100000 in
set_option maxHeartbeats 3200000 in
theorem takeP5 (h : FrS w p W f out) (hb : f.buf ≠ []) (hlt : f.buf.length < 3000) (hs : f.s = false) (hq : f.q = false) (hD : doesB b = 5) :
    Calls Tryd.prog 22 #[.pointer (some ⟨p, 0, none⟩), .int .u8 (b.toNat : Int)] W (TakeAns w p { f with buf := f.buf ++ [b] } out) := by
  obtain ⟨ba, bp, ea, ep, h⟩ := h.open
  have H := Lib.hid h
  obtain ⟨c0, c1, c2, c3, c4, c5⟩ := h.cell
  clear h
  have hbl : 0 < f.buf.length := List.length_pos_iff.2 hb
  obtain ⟨n, hn⟩ : ∃ n, n = f.buf.length := ⟨_, rfl⟩
  rw [← hn] at c0 H
  have HN : Hid (n = f.buf.length ∧ n < 3000) := ⟨hn, by omega⟩
  have HS := Lib.hid (H.out.on ((Below.refl _ _).alloc (Nat.le_refl _) (.cells #[.int .u8 (b.toNat : Int)] 5)))
  have d1 : ((n : Int) == 3000) = false := by simp; omega
  have d0 : ((n : Int) == 0) = false := by simp; omega
  clear hn hlt
  have DO : Hid (∀ W : World, Calls Tryd.prog 28 #[.int .u8 (b.toNat : Int)] W fun e w' => e = .returned (.int .u8 5) ∧ w' = W) := doesAt hD
  go_enter Tryd.func22, Tryd.ntmps22
  go_wp2_with (first | (go_at_call 28; refine (DO.out _).mono ?_; rintro e w1 ⟨rfl, rfl⟩) | (at_builtin; refine wpList_push1 rfl (.tmp 41) (.tmp 43) rfl w.heap.size _ f.buf b ⟨_, 0, none⟩ 1 rfl rfl (n + 1) (by rw [List.length_append, ← HN.out.1]; rfl) HS.out.ob HS.out.bel.size (by have := HN.out; omega) (cell_new1 _ rfl) rfl ?_; intro a2 c2 w2 hb2 hg2; have HE := Lib.hid (HS.out.push hb2 hg2); have hbx : w2.heap[p]? = some (.cells (fcs f (.slice ba n bp) (.slice ea out.length ep)) 42) := (by rw [hg2.block p HS.out.lt HS.out.nb]; exact HS.out.box); have y0 := (box_cell hbx).1; have y1 := (box_cell hbx).2.1; have y2 := (box_cell hbx).2.2.1; have y3 := (box_cell hbx).2.2.2.1; have z0 := frozen_at 0 hbx; have z1 := frozen_at 1 hbx; have z2 := frozen_at 2 hbx; have z3 := frozen_at 3 hbx; try rw [hs] at y3; try rw [hq] at y2; clear hbx hb2 hg2))
  refine bodyPost_end (results_none rfl _ _ _) rfl ⟨rfl, ⟨_, _, HE.out⟩⟩
end Go.Proofs.YtodgijhpokjjhaaDoor
