import Derived.Test.YtlbcaaodkggohaaGreatDoorZab
import Derived.Deep.CutRange
namespace Go.Proofs.YtlbcaaodkggohaaGreatDoor
open Go.RowKit
set_option linter.unusedSimpArgs false
def atOK (x : At) : Bool :=
 if x.k = 1 then inB (-1000000000) x.n 1000000000 && x.t.isEmpty
 else if x.k = 2 then (x.n == 0) && textB x.t
 else if x.k = 3 then inB 0 x.n 1 && x.t.isEmpty
 else if x.k = 4 then inB 1 x.n 1000000 && x.t.isEmpty
 else false
theorem atOK1 {x : At} (h : x.k = 1) : atOK x = (inB (-1000000000) x.n 1000000000 && x.t.isEmpty) := by unfold atOK; rw [if_pos h]
theorem atOK2 {x : At} (h : x.k = 2) : atOK x = ((x.n == 0) && textB x.t) := by unfold atOK; rw [if_neg (by omega), if_pos h]
theorem atOK3 {x : At} (h : x.k = 3) : atOK x = (inB 0 x.n 1 && x.t.isEmpty) := by unfold atOK; rw [if_neg (by omega), if_neg (by omega), if_pos h]
theorem atOK4 {x : At} (h : x.k = 4) : atOK x = (inB 1 x.n 1000000 && x.t.isEmpty) := by unfold atOK; rw [if_neg (by omega), if_neg (by omega), if_neg (by omega), if_pos h]
theorem atOKN {x : At} (h : x.k < 1 ∨ 4 < x.k) : atOK x = false := by unfold atOK; rw [if_neg (by omega), if_neg (by omega), if_neg (by omega), if_neg (by omega)]
theorem end_b {a x y : Bool} (HP : Hid (a = x)) (h : y = x) : y = a := by rw [HP.out]; exact h
theorem atOK_text {x : At} (h : atOK x = true) : x.t.length ≤ 200 := by
  unfold atOK at h
  split at h
  · simp at h; simp [h.2]
  split at h
  · simp [textB] at h; exact h.2.1
  split at h
  · simp at h; simp [h.2]
  split at h
  · simp at h; simp [h.2]
  · cases h
set_option maxHeartbeats 1600000 in
theorem atomOKs (x : At) (w : World) (ht : x.t.length ≤ maxLen) :
  Calls Tryz.prog 104 #[.agg #[.int .i64 x.k, .int .i64 x.n, .string ⟨x.t.toArray⟩]] w fun e w' => e = .returned (.bool (atOK x)) ∧ Below w.heap.size w w' := by
 have HTL : Hid (x.t.length ≤ maxLen) := ht; clear ht; rcases (by omega : x.k = 1 ∨ x.k = 2 ∨ x.k = 3 ∨ x.k = 4 ∨ (x.k < 1 ∨ 4 < x.k)) with k | k | k | k | k
 ·
  have HP : Hid (atOK x = _) := atOK1 k; rw [k]; (go_enter Tryz.func104, Tryz.ntmps104); go_wp2_with (go_at_call 45; refine (inS _ _ _ _).mono ?_; rintro e w' ⟨rfl, rfl⟩)
  all_goals
   go_ret; exact ⟨ret_b (end_b HP (by simp [*])), (Below.refl _ _).alloc (Nat.le_refl _) _⟩
 ·
  have HP : Hid (atOK x = _) := atOK2 k; rw [k]; (go_enter Tryz.func104, Tryz.ntmps104); go_wp2_with (go_at_call 111; refine (textS _ _ HTL.out).mono ?_; rintro e w' ⟨rfl, rfl⟩)
  all_goals
   go_ret; exact ⟨ret_b (end_b HP (by simp [*])), (Below.refl _ _).alloc (Nat.le_refl _) _⟩
 ·
  have HP : Hid (atOK x = _) := atOK3 k; rw [k]; (go_enter Tryz.func104, Tryz.ntmps104); go_wp2_with (go_at_call 45; refine (inS _ _ _ _).mono ?_; rintro e w' ⟨rfl, rfl⟩)
  all_goals
   go_ret; exact ⟨ret_b (end_b HP (by simp [*])), (Below.refl _ _).alloc (Nat.le_refl _) _⟩
 ·
  have HP : Hid (atOK x = _) := atOK4 k; rw [k]; (go_enter Tryz.func104, Tryz.ntmps104); go_wp2_with (go_at_call 45; refine (inS _ _ _ _).mono ?_; rintro e w' ⟨rfl, rfl⟩)
  all_goals
   go_ret; exact ⟨ret_b (end_b HP (by simp [*])), (Below.refl _ _).alloc (Nat.le_refl _) _⟩
 ·
  have HP : Hid (atOK x = false) := atOKN k; have k1 : (x.k == 1) = false := by simp; omega
  have k2 : (x.k == 2) = false := by simp; omega
  have k3 : (x.k == 3) = false := by simp; omega
  have k4 : (x.k == 4) = false := by simp; omega
  (go_enter Tryz.func104, Tryz.ntmps104); (go_wp2_with fail); go_ret; exact ⟨ret_b (end_b HP rfl), (Below.refl _ _).alloc (Nat.le_refl _) _⟩
def cmpA (a b : At) : Int :=
 if a.k ≠ b.k then (if a.k < b.k then -1 else 1)
 else if a.n ≠ b.n then (if a.n < b.n then -1 else 1)
 else if a.t ≠ b.t then (if Op.bytesLess a.t b.t then -1 else 1)
 else 0
theorem bitS (b : Bool) (w : World) : Calls Tryz.prog 112 #[.bool b] w fun e w' => e = .returned (.int .i64 (if b then 1 else 0)) ∧ w' = w := by
 cases b
 ·
  (go_enter Tryz.func112, Tryz.ntmps112); (go_wp2_with fail); go_ret; exact ⟨rfl, rfl⟩
 ·
  (go_enter Tryz.func112, Tryz.ntmps112); (go_wp2_with fail); go_ret; exact ⟨rfl, rfl⟩
theorem cmp_k {a b : At} (h : a.k ≠ b.k) : cmpA a b = 1 - 2 * (if decide (a.k < b.k) then 1 else 0) := by
 unfold cmpA; rw [if_pos h]
 by_cases hl : a.k < b.k <;> simp [hl]
theorem cmp_n {a b : At} (h : a.k = b.k) (h2 : a.n ≠ b.n) : cmpA a b = 1 - 2 * (if decide (a.n < b.n) then 1 else 0) := by
 unfold cmpA; rw [if_neg (by simp [h]), if_pos h2]
 by_cases hl : a.n < b.n <;> simp [hl]
theorem cmp_t {a b : At} (h : a.k = b.k) (h2 : a.n = b.n) (h3 : a.t ≠ b.t) : cmpA a b = 1 - 2 * (if Op.bytesLess a.t b.t then 1 else 0) := by
 unfold cmpA; rw [if_neg (by simp [h]), if_neg (by simp [h2]), if_pos h3]
 by_cases hl : Op.bytesLess a.t b.t = true <;> simp [hl]
theorem cmp_0 {a b : At} (h : a.k = b.k) (h2 : a.n = b.n) (h3 : a.t = b.t) : cmpA a b = 0 := by
 unfold cmpA; rw [if_neg (by simp [h]), if_neg (by simp [h2]), if_neg (by simp [h3])]
theorem below2 (w : World) (o o' : Obj) : Below w.heap.size w ((w.alloc o).alloc o') := ((Below.refl _ _).alloc (Nat.le_refl _) _).alloc (by simp) _
set_option maxHeartbeats 1600000 in
theorem orderS (a b : At) (w : World) :
  Calls Tryz.prog 105 #[.agg #[.int .i64 a.k, .int .i64 a.n, .string ⟨a.t.toArray⟩], .agg #[.int .i64 b.k, .int .i64 b.n, .string ⟨b.t.toArray⟩]] w fun e w' => e = .returned (.int .i64 (cmpA a b)) ∧ Below w.heap.size w w' := by
 by_cases h : a.k = b.k
 case neg =>
  have HC : Hid (cmpA a b = _) := cmp_k h; have hk : (a.k != b.k) = true := by simpa using h
  obtain ⟨l, hl⟩ : ∃ l, l = decide (a.k < b.k) := ⟨_, rfl⟩; rw [← hl] at HC; clear h
  cases l
  ·
   have hd : decide (a.k < b.k) = false := hl.symm; clear hl; (go_enter Tryz.func105, Tryz.ntmps105); (go_wp2_with (go_at_call 112; refine (bitS false _).mono ?_; rintro e w' ⟨rfl, rfl⟩)); go_ret; exact ⟨by rw [HC.out]; rfl, below2 _ _ _⟩
  ·
   have hd : decide (a.k < b.k) = true := hl.symm; clear hl; (go_enter Tryz.func105, Tryz.ntmps105); (go_wp2_with (go_at_call 112; refine (bitS true _).mono ?_; rintro e w' ⟨rfl, rfl⟩)); go_ret; exact ⟨by rw [HC.out]; rfl, below2 _ _ _⟩
 by_cases h2 : a.n = b.n
 case neg =>
  have HC : Hid (cmpA a b = _) := cmp_n h h2; have hk : (a.n != b.n) = true := by simpa using h2
  obtain ⟨l, hl⟩ : ∃ l, l = decide (a.n < b.n) := ⟨_, rfl⟩; rw [← hl] at HC; clear h2; rw [h]; clear h
  cases l
  ·
   have hd : decide (a.n < b.n) = false := hl.symm; clear hl; (go_enter Tryz.func105, Tryz.ntmps105); (go_wp2_with (go_at_call 112; refine (bitS false _).mono ?_; rintro e w' ⟨rfl, rfl⟩)); go_ret; exact ⟨by rw [HC.out]; rfl, below2 _ _ _⟩
  ·
   have hd : decide (a.n < b.n) = true := hl.symm; clear hl; (go_enter Tryz.func105, Tryz.ntmps105); (go_wp2_with (go_at_call 112; refine (bitS true _).mono ?_; rintro e w' ⟨rfl, rfl⟩)); go_ret; exact ⟨by rw [HC.out]; rfl, below2 _ _ _⟩
 by_cases h3 : a.t = b.t
 case neg =>
  have HC : Hid (cmpA a b = _) := cmp_t h h2 h3; have hk : (a.t == b.t) = false := by simpa using h3
  obtain ⟨l, hl⟩ : ∃ l, l = Op.bytesLess a.t b.t := ⟨_, rfl⟩; rw [← hl] at HC; rw [h, h2]; clear h h2
  cases l
  ·
   have hd : Op.bytesLess a.t b.t = false := hl.symm; clear hl; (go_enter Tryz.func105, Tryz.ntmps105); (go_wp2_with (go_at_call 112; refine (bitS false _).mono ?_; rintro e w' ⟨rfl, rfl⟩)); go_ret; exact ⟨by rw [HC.out]; rfl, below2 _ _ _⟩
  ·
   have hd : Op.bytesLess a.t b.t = true := hl.symm; clear hl; (go_enter Tryz.func105, Tryz.ntmps105); (go_wp2_with (go_at_call 112; refine (bitS true _).mono ?_; rintro e w' ⟨rfl, rfl⟩)); go_ret; exact ⟨by rw [HC.out]; rfl, below2 _ _ _⟩
 have HC : Hid (cmpA a b = 0) := cmp_0 h h2 h3; rw [h, h2, h3]; clear h h2 h3; (go_enter Tryz.func105, Tryz.ntmps105); (go_wp2_with fail); go_ret; exact ⟨by rw [HC.out]; rfl, below2 _ _ _⟩
variable {W W' : World} {p S : Nat} {a : Option Addr} {l : List UInt8} {c m s : Nat}
theorem fin3 {w1 : World} (hp : p < W.heap.size) (hF : Frm (· = p) W w1) (h : Src w1 p S a l c m s) (y0 y1 y2 : Value) : Src (((w1.setCell ⟨W.heap.size, 0, none⟩ y0).setCell ⟨W.heap.size, 1, none⟩ y1).setCell ⟨W.heap.size, 2, none⟩ y2) p S a l c m s ∧ Frm (· = p) W (((w1.setCell ⟨W.heap.size, 0, none⟩ y0).setCell ⟨W.heap.size, 1, none⟩ y1).setCell ⟨W.heap.size, 2, none⟩ y2) := by
 have hF3 : Frm (· = W.heap.size) w1 (((w1.setCell ⟨W.heap.size, 0, none⟩ y0).setCell ⟨W.heap.size, 1, none⟩ y1).setCell ⟨W.heap.size, 2, none⟩ y2) := (((Frm.refl (· = W.heap.size) w1).set (B := (· = W.heap.size)) (b := W.heap.size) (o := 0) rfl y0).set (B := (· = W.heap.size)) (b := W.heap.size) (o := 1) rfl y1).set (B := (· = W.heap.size)) (b := W.heap.size) (o := 2) rfl y2; have hle := h.le; refine ⟨h.frm hF3 (by omega) (fun b hb => by omega), ?_⟩; exact ⟨hF3.os.trans hF.os, hF3.tape.trans hF.tape, hF3.output.trans hF.output, Nat.le_trans hF.size hF3.size, fun b hb hn => (hF3.block b (Nat.lt_of_lt_of_le hb hF.size) (by omega)).trans (hF.block b hb hn)⟩
def AtomAns (W : World) (p S : Nat) (a : Option Addr) (l : List UInt8) (c m k : Nat) (e : Ending) (W' : World) : Prop := ∃ (x : At) (s' : Nat), e = .returned (.agg #[.int .i64 x.k, .int .i64 x.n, .string ⟨x.t.toArray⟩]) ∧ x.k = (k : Int) ∧ atOK x = true ∧ Src W' p S a l c (m + 1) s' ∧ Frm (· = p) W W'
def atZero : Obj := .cells #[.int .i64 0, .int .i64 0, .string ⟨#[]⟩] 132
theorem atN_ok {k n : Int} (h : (k = 1 ∧ -4 ≤ n ∧ n ≤ 8) ∨ (k = 3 ∧ 0 ≤ n ∧ n ≤ 1) ∨ (k = 4 ∧ 1 ≤ n ∧ n ≤ 6)) : atOK ⟨k, n, []⟩ = true := by
  rcases h with ⟨rfl, h1, h2⟩ | ⟨rfl, h1, h2⟩ | ⟨rfl, h1, h2⟩
  · rw [atOK1 rfl]; simp [inB]; omega
  · rw [atOK3 rfl]; simp [inB]; omega
  · rw [atOK4 rfl]; simp [inB]; omega
set_option maxRecDepth 100000 in
set_option maxHeartbeats 3200000 in
theorem srcAtomN (h : Src W p S a l c m s) (hm : m < 1000000) (k : Nat) (hk : k = 1 ∨ k = 3 ∨ k = 4) :
  Calls Tryz.prog 66 #[.pointer (some ⟨p, 0, none⟩), .int .i64 (k : Int)] W (AtomAns W p S a l c m k) := by
 have HP : Hid (p < W.heap.size) := (Array.getElem?_eq_some_iff.1 h.box).1; have hA : Below W.heap.size W (W.alloc atZero) := (Below.refl _ _).alloc (Nat.le_refl _) _; have NX : Hid (∀ n : Nat, 1 < n → n ≤ 256 → Calls Tryz.prog 28 #[.pointer (some ⟨p, 0, none⟩), .int .i64 (n : Int)] (W.alloc atZero) (NextAns (W.alloc atZero) p S a l c m n)) := fun n h1 h2 => srcNext (h.on hA) hm n h1 h2
 have HA := Lib.hid hA
 have HX : Hid (∀ w1, Frm (· = p) (W.alloc atZero) w1 → w1.heap[W.heap.size]? = some atZero) := fun w1 hF => by
  have e : (W.alloc atZero).heap.size = W.heap.size + 1 := by simp
  rw [hF.block W.heap.size (by omega) (by have := HP.out; omega)]; show (W.heap.push _)[W.heap.size]? = _
  simp
 clear h hm hA; rcases hk with rfl | rfl | rfl
 ·
  (go_enter Tryz.func66, Tryz.ntmps66); (go_wp2_with fail); refine (NX.out 12 (by omega) (by omega)).mono ?_; rintro e w1 ⟨r, s', rfl, hr, hS, hF⟩; have HS := Lib.hid hS; have HF := Lib.hid hF; have HR := Lib.hid hr; obtain ⟨n, hn⟩ : ∃ n : Int, n = (r : Int) - 4 := ⟨_, rfl⟩; have w0 : IntKind.i64.wrap ((r : Int) - 4) = n := by rw [IntKind.wrap_i64]; omega
  have HN : Hid (-4 ≤ n ∧ n ≤ 8) := by show _ ∧ _; omega
  have hb := HX.out w1 hF; obtain ⟨z0, z1, z2⟩ := fk3 0 1 2 hb; have c0 : w1.cell? ⟨W.heap.size, 0, none⟩ = some (.int .i64 0) := cell_at (o := 0) hb rfl; have c1 : w1.cell? ⟨W.heap.size, 1, none⟩ = some (.int .i64 0) := cell_at (o := 1) hb rfl; have c2 : w1.cell? ⟨W.heap.size, 2, none⟩ = some (.string ⟨#[]⟩) := cell_at (o := 2) hb rfl; clear hS hF hr hb hn; (go_wp2_with fail); refine bodyPost_ret (v := .agg #[.int .i64 1, .int .i64 n, .string ⟨#[]⟩]) (by simp [results, Tryz.results66, go_sem, c0, c1, c2]) rfl ?_; have hf := fin3 HP.out ((Frm.of_below HA.out).trans HF.out) HS.out; exact ⟨⟨1, n, []⟩, s', rfl, rfl, atN_ok (.inl ⟨rfl, HN.out⟩), (hf _ _ _).1, (hf _ _ _).2⟩
 ·
  (go_enter Tryz.func66, Tryz.ntmps66); (go_wp2_with fail); refine (NX.out 2 (by omega) (by omega)).mono ?_; rintro e w1 ⟨r, s', rfl, hr, hS, hF⟩; have HS := Lib.hid hS; have HF := Lib.hid hF; have HR := Lib.hid hr; have hb := HX.out w1 hF; obtain ⟨z0, z1, z2⟩ := fk3 0 1 2 hb; have c0 : w1.cell? ⟨W.heap.size, 0, none⟩ = some (.int .i64 0) := cell_at (o := 0) hb rfl; have c1 : w1.cell? ⟨W.heap.size, 1, none⟩ = some (.int .i64 0) := cell_at (o := 1) hb rfl; have c2 : w1.cell? ⟨W.heap.size, 2, none⟩ = some (.string ⟨#[]⟩) := cell_at (o := 2) hb rfl; clear hS hF hr hb; (go_wp2_with fail); refine bodyPost_ret (v := .agg #[.int .i64 3, .int .i64 r, .string ⟨#[]⟩]) (by simp [results, Tryz.results66, go_sem, c0, c1, c2]) rfl ?_; have hf := fin3 HP.out ((Frm.of_below HA.out).trans HF.out) HS.out; exact ⟨⟨3, r, []⟩, s', rfl, rfl, atN_ok (.inr (.inl ⟨rfl, by have := HR.out; omega⟩)), (hf _ _ _).1, (hf _ _ _).2⟩
 ·
  (go_enter Tryz.func66, Tryz.ntmps66); (go_wp2_with fail); refine (NX.out 6 (by omega) (by omega)).mono ?_; rintro e w1 ⟨r, s', rfl, hr, hS, hF⟩; have HS := Lib.hid hS; have HF := Lib.hid hF; have HR := Lib.hid hr; obtain ⟨n, hn⟩ : ∃ n : Int, n = 1 + (r : Int) := ⟨_, rfl⟩; have w0 : IntKind.i64.wrap (1 + (r : Int)) = n := by rw [IntKind.wrap_i64]; omega
  have HN : Hid (1 ≤ n ∧ n ≤ 6) := by show _ ∧ _; omega
  have hb := HX.out w1 hF; obtain ⟨z0, z1, z2⟩ := fk3 0 1 2 hb; have c0 : w1.cell? ⟨W.heap.size, 0, none⟩ = some (.int .i64 0) := cell_at (o := 0) hb rfl; have c1 : w1.cell? ⟨W.heap.size, 1, none⟩ = some (.int .i64 0) := cell_at (o := 1) hb rfl; have c2 : w1.cell? ⟨W.heap.size, 2, none⟩ = some (.string ⟨#[]⟩) := cell_at (o := 2) hb rfl; clear hS hF hr hb hn; (go_wp2_with fail); refine bodyPost_ret (v := .agg #[.int .i64 4, .int .i64 n, .string ⟨#[]⟩]) (by simp [results, Tryz.results66, go_sem, c0, c1, c2]) rfl ?_; have hf := fin3 HP.out ((Frm.of_below HA.out).trans HF.out) HS.out; exact ⟨⟨4, n, []⟩, s', rfl, rfl, atN_ok (.inr (.inr ⟨rfl, HN.out⟩)), (hf _ _ _).1, (hf _ _ _).2⟩
def fiveT : List (List UInt8) := [[], [97], [98], [99], [110, 101, 116]]
theorem five_ok : ∀ t ∈ fiveT, atOK ⟨2, 0, t⟩ = true := by
 intro t ht; rw [atOK2 rfl]; simp only [fiveT, List.mem_cons, List.not_mem_nil, or_false] at ht; rcases ht with rfl | rfl | rfl | rfl | rfl <;> decide
def rowFive : Obj := .cells #[.string ⟨#[]⟩, .string ⟨#[97]⟩, .string ⟨#[98]⟩, .string ⟨#[99]⟩, .string ⟨#[110, 101, 116]⟩] 9
set_option maxRecDepth 100000 in
set_option maxHeartbeats 3200000 in
theorem srcAtomT (h : Src W p S a l c m s) (hm : m < 1000000) :
  Calls Tryz.prog 66 #[.pointer (some ⟨p, 0, none⟩), .int .i64 2] W (AtomAns W p S a l c m 2) := by
 have HP : Hid (p < W.heap.size) := (Array.getElem?_eq_some_iff.1 h.box).1; have hA : Below W.heap.size W (W.alloc atZero) := (Below.refl _ _).alloc (Nat.le_refl _) _; have hA2 : Below W.heap.size W ((W.alloc atZero).alloc rowFive) := hA.alloc (by simp) _; have e1 : (W.alloc atZero).heap.size = W.heap.size + 1 := by simp
 have e2 : ((W.alloc atZero).alloc rowFive).heap.size = W.heap.size + 2 := by simp
 have hrow : ((W.alloc atZero).alloc rowFive).heap[W.heap.size + 1]? = some rowFive := by
  have hn : ∀ (V : World) (o : Obj), (V.alloc o).heap[V.heap.size]? = some o := fun V o => by
   show (V.heap.push o)[V.heap.size]? = _
   simp
  have := hn (W.alloc atZero) rowFive
  rwa [e1] at this
 have hbox : ((W.alloc atZero).alloc rowFive).heap[W.heap.size]? = some atZero := by
  show ((W.heap.push atZero).push rowFive)[W.heap.size]? = _
  simp [Array.getElem?_push]
 have hst : Strs ((W.alloc atZero).alloc rowFive) (· = W.heap.size + 1) (some ⟨W.heap.size + 1, 0, none⟩) fiveT := by
  refine .inr ⟨_, 0, rfl, rfl, fun i hi => ?_⟩
  match i, hi with
  | 0, _ => exact cell_at (o := 0) hrow rfl
  | 1, _ => exact cell_at (o := 1) hrow rfl
  | 2, _ => exact cell_at (o := 2) hrow rfl
  | 3, _ => exact cell_at (o := 3) hrow rfl
  | 4, _ => exact cell_at (o := 4) hrow rfl
 have PK : Hid (Calls Tryz.prog 67 #[.pointer (some ⟨p, 0, none⟩), .slice (some ⟨W.heap.size + 1, 0, none⟩) 5 5] ((W.alloc atZero).alloc rowFive) (PickAns ((W.alloc atZero).alloc rowFive) p S a l c m fiveT)) :=
  srcPick (h.on hA2) hm fiveT (· = W.heap.size + 1) _ 5 hst (fun b hb => by have := HP.out; omega) (by decide) (by decide)
 have HA := Lib.hid hA2
 have HX : Hid (∀ w1, Frm (· = p) ((W.alloc atZero).alloc rowFive) w1 → w1.heap[W.heap.size]? = some atZero) := fun w1 hF => by
  rw [hF.block W.heap.size (by omega) (by have := HP.out; omega)]; exact hbox
 clear h hm hA hA2 e1 e2 hrow hbox hst; (go_enter Tryz.func66, Tryz.ntmps66); (go_wp2_with fail); refine PK.out.mono ?_; rintro e w1 ⟨t, s', rfl, ht, hS, hF⟩; have HS := Lib.hid hS; have HF := Lib.hid hF; have HT := Lib.hid ht; have hb := HX.out w1 hF; obtain ⟨z0, z1, z2⟩ := fk3 0 1 2 hb; have c0 : w1.cell? ⟨W.heap.size, 0, none⟩ = some (.int .i64 0) := cell_at (o := 0) hb rfl; have c1 : w1.cell? ⟨W.heap.size, 1, none⟩ = some (.int .i64 0) := cell_at (o := 1) hb rfl; have c2 : w1.cell? ⟨W.heap.size, 2, none⟩ = some (.string ⟨#[]⟩) := cell_at (o := 2) hb rfl; clear hS hF ht hb; (go_wp2_with fail); refine bodyPost_ret (v := .agg #[.int .i64 2, .int .i64 0, .string ⟨t.toArray⟩]) (by simp [results, Tryz.results66, go_sem, c0, c1, c2]) rfl ?_; have hf := fin3 HP.out ((Frm.of_below HA.out).trans HF.out) HS.out; exact ⟨⟨2, 0, t⟩, s', rfl, rfl, five_ok t HT.out, (hf _ _ _).1, (hf _ _ _).2⟩
theorem srcAtom (h : Src W p S a l c m s) (hm : m < 1000000) (k : Nat) (h1 : 1 ≤ k) (h2 : k ≤ 4) :
  Calls Tryz.prog 66 #[.pointer (some ⟨p, 0, none⟩), .int .i64 (k : Int)] W (AtomAns W p S a l c m k) := by
 by_cases e : k = 2
 ·
  subst e; exact srcAtomT h hm
 ·
  exact srcAtomN h hm k (by omega)
end Go.Proofs.YtlbcaaodkggohaaGreatDoor
namespace Go.Proofs.YtlbcaaodkggohaaGreatDoor
open Go.RowKit
set_option linter.unusedSimpArgs false
def sameAt (x y : At) : Bool := (x.k == y.k) && ((x.n == y.n) && (x.t == y.t))
theorem sameAt_iff {x y : At} : sameAt x y = true ↔ x = y := by
 unfold sameAt; constructor
 ·
  intro h; simp at h; exact At.ext' h.1 h.2.1 h.2.2
 ·
  rintro rfl; simp
theorem differ {x y : At} (h : x ≠ y) : ¬ x.k = y.k ∨ (x.k = y.k ∧ ¬ x.n = y.n) ∨ (x.k = y.k ∧ x.n = y.n ∧ ¬ x.t = y.t) := by
  by_cases h1 : x.k = y.k
  · by_cases h2 : x.n = y.n
    · by_cases h3 : x.t = y.t
      · exact absurd (At.ext' h1 h2 h3) h
      · exact .inr (.inr ⟨h1, h2, h3⟩)
    · exact .inr (.inl ⟨h1, h2⟩)
  · exact .inl h1
def hasB (l : List At) (a : At) : Bool := l.any (fun x => sameAt x a)
theorem hasB_true {l : List At} {a : At} {k : Nat} (hk : k < l.length) (h : l[k] = a) : hasB l a = true := by
 unfold hasB; rw [List.any_eq_true]; exact ⟨l[k], List.getElem_mem hk, sameAt_iff.2 h⟩
theorem hasB_false {l : List At} {a : At} (h : ∀ k (hk : k < l.length), l[k] ≠ a) : hasB l a = false := by
 unfold hasB; rw [List.any_eq_false]; intro x hx; obtain ⟨k, hk, rfl⟩ := List.getElem_of_mem hx; intro e; exact h k hk (sameAt_iff.1 e)
def BoxA (w W : World) (x : At) : Prop := W.heap[w.heap.size]? = some (.cells #[.int .i64 x.k, .int .i64 x.n, .string ⟨x.t.toArray⟩] 132) ∧ Below w.heap.size w W
theorem BoxA.later {w W W' : World} {x : At} (h : BoxA w W x) (hB : Below W.heap.size W W') : BoxA w W' x := ⟨heap_keptA h.1 hB, h.2.trans (hB.mono h.2.size)⟩
theorem BoxA.drewN {w W : World} {x : At} (h : BoxA w W x) (n : Nat) : BoxA w (W.drewN n) x := h.later (below_drewN (Below.refl _ _) _)
set_option maxHeartbeats 3200000 in
theorem hasS (l : List At) (x : At) (a : Option Addr) (c : Nat) (B : Nat → Prop) (w : World) (hl : l.length ≤ maxLen) (hA : Ats w B a l) :
  Calls Tryz.prog 109 #[.slice a l.length c, .agg #[.int .i64 x.k, .int .i64 x.n, .string ⟨x.t.toArray⟩]] w fun e w' => e = .returned (.bool (hasB l x)) ∧ Below w.heap.size w w' := by
 unfold maxLen at hl; have HA : Hid (Ats w B a l) := hA; clear hA; (go_enter Tryz.func109, Tryz.ntmps109); (go_wp2_with fail); go_loopw [5] (fun i wr => ∃ k : Nat, k ≤ l.length ∧ i = .int .i64 k ∧ Hid ((∀ m (h : m < l.length), m < k → l[m] ≠ x) ∧ BoxA w wr x)) (fun i _ => l.length - (intOf i).toNat)
 case atStart => exact ⟨0, Nat.zero_le _, rfl, fun m _ h => absurd h (by omega), heap_newA _ _, (Below.refl _ _).alloc (Nat.le_refl _) _⟩
 case round =>
  obtain ⟨k, hk, rfl, HW⟩ := hrel; obtain ⟨x0, x1, x2⟩ := ck3 0 1 2 HW.out.2.1
  by_cases hlt : k < l.length
  ·
   obtain ⟨b, off, rfl, -, c0, c1, c2⟩ := (HA.out.later HW.out.2.2).item k hlt; have hki : (k : Int) < (l.length : Int) := by omega
   by_cases he : l[k] = x
   ·
    have HR : Hid (hasB l x = true) := hasB_true hlt he; rw [he] at c0 c1 c2; clear he; (go_wp2_with fail); (go_quiet (fail)); (go_wp2_with fail); go_ret; exact ⟨ret_b HR.out.symm, (HW.out.2.drewN _).2⟩
   ·
    have HN : Hid (∀ m (h : m < l.length), m < k + 1 → l[m] ≠ x) := fun m h hm => by
     by_cases e : m = k
     ·
      subst e; exact he
     ·
      exact HW.out.1 m h (by omega)
    rcases differ he with hd | ⟨hd, hd2⟩ | ⟨hd, hd2, hd3⟩
    ·
     clear he; (go_wp2_with fail); (go_quiet (fail)); (go_wp2_with fail); go_roundw
     case rel => exact ⟨k + 1, by omega, by go_num, HN.out, HW.out.2.drewN _⟩
     case measure => simp [intOf]; omega
    ·
     rw [hd] at c0; clear he hd; (go_wp2_with fail); (go_quiet (fail)); (go_wp2_with fail); go_roundw
     case rel => exact ⟨k + 1, by omega, by go_num, HN.out, HW.out.2.drewN _⟩
     case measure => simp [intOf]; omega
    ·
     rw [hd] at c0; rw [hd2] at c1; clear he hd hd2; (go_wp2_with fail); (go_quiet (fail)); (go_wp2_with fail); go_roundw
     case rel => exact ⟨k + 1, by omega, by go_num, HN.out, HW.out.2.drewN _⟩
     case measure => simp [intOf]; omega
  ·
   have HR : Hid (hasB l x = false) := hasB_false (fun m h => HW.out.1 m h (by omega)); have hki : decide ((k : Int) < (l.length : Int)) = false := by simp; omega
   (go_wp2_with fail); go_ret; exact ⟨ret_b HR.out.symm, HW.out.2.2⟩
end Go.Proofs.YtlbcaaodkggohaaGreatDoor
