import Derived.Test.YtgpoigkfoliflaaGreatDoorZbq
import Derived.Test.YtgpoigkfoliflaaGreatDoorZak
namespace Go.Proofs.YtgpoigkfoliflaaGreatDoor
open Go.RowKit
set_option linter.unusedSimpArgs false
variable {W W' : World} {p S : Nat} {a : Option Addr} {l : List UInt8} {c m s : Nat}
set_option maxHeartbeats 800000 in
theorem srcNew (W : World) (hS : S ≤ W.heap.size) (hb : Byts W (· < S) a l) :
    Calls Tryz.prog 17 #[.slice a l.length c] W fun e W' => ∃ s, e = .returned (.pointer (some ⟨W.heap.size, 0, none⟩)) ∧ Src W' W.heap.size S a l c 0 s ∧ Below W.heap.size W W' := by
  obtain ⟨s, hs⟩ : ∃ s : Nat, s = l.length % 1000 := ⟨_, rfl⟩
  have t1 : (l.length : Int).tmod 1000 = (s : Int) := by rw [Int.tmod_eq_emod_of_nonneg (by omega)]; omega
  have t2 : IntKind.i64.wrap (s : Int) = (s : Int) := by rw [IntKind.wrap_i64]; omega
  have t3 : IntKind.i64.wrap ((l.length : Int) % 1000) = (s : Int) := by rw [IntKind.wrap_i64]; omega
  have hB : Below W.heap.size W (W.alloc (.cells #[.slice a l.length c, .int .i64 0, .int .i64 (s : Int)] 77)) := (Below.refl _ _).alloc (Nat.le_refl _) _
  have H : Hid (Src (W.alloc (.cells #[.slice a l.length c, .int .i64 0, .int .i64 (s : Int)] 77)) W.heap.size S a l c 0 s ∧ Below W.heap.size W (W.alloc (.cells #[.slice a l.length c, .int .i64 0, .int .i64 (s : Int)] 77))) := by
    refine ⟨⟨?_, by omega, hb.same (fun b h => hB.block b (by omega)) (fun _ h => h), hS⟩, hB⟩
    show (W.heap.push _)[W.heap.size]? = _
    simp
  clear hs hb hS hB
  go_enter Tryz.func17, Tryz.ntmps17
  go_wp2_with fail
  go_ret
  exact ⟨s, rfl, H.out.1, H.out.2⟩
def PickAns (W : World) (p S : Nat) (a : Option Addr) (l : List UInt8) (c m : Nat) (ks : List (List UInt8)) (e : Ending) (W' : World) : Prop := ∃ t s', e = .returned (.string ⟨t.toArray⟩) ∧ t ∈ ks ∧ Src W' p S a l c (m + 1) s' ∧ Frm (· = p) W W'
set_option maxHeartbeats 1600000 in
theorem srcPick (h : Src W p S a l c m s) (hm : m < 1000000) (ks : List (List UInt8)) (B : Nat → Prop) (pk : Option Addr) (ck : Nat) (hk : Strs W B pk ks) (hB : ∀ b, B b → b ≠ p ∧ b < W.heap.size) (h1 : 1 < ks.length) (h2 : ks.length ≤ 256) :
    Calls Tryz.prog 80 #[.pointer (some ⟨p, 0, none⟩), .slice pk ks.length ck] W (PickAns W p S a l c m ks) := by
  rcases hk with hk | ⟨b, off, rfl, hb, hc⟩
  · omega
  have NX := Lib.hid (srcNext h hm ks.length h1 h2)
  have d1 : ((ks.length : Int) == 0) = false := by rw [beq_eq_false_iff_ne]; omega
  have d2 : (ks.length == 0) = false := by rw [beq_eq_false_iff_ne]; omega
  have HC : Hid (∀ i (hi : i < ks.length), W.cell? ⟨b, off + i, none⟩ = some (.string ⟨ks[i].toArray⟩)) := hc
  have HB := Lib.hid (hB b hb)
  have hne : ks ≠ [] := fun e => by rw [e] at h1; exact absurd h1 (by simp)
  clear h hm h1 h2 hc hB hb
  go_enter Tryz.func80, Tryz.ntmps80
  go_wp2_with fail
  refine NX.out.mono ?_
  rintro e w1 ⟨r, s', rfl, hr, hS, hF⟩
  have HS := Lib.hid hS
  have HF := Lib.hid hF
  have hcell : w1.cell? ⟨b, off + r, none⟩ = some (.string ⟨ks[r].toArray⟩) := by
    rw [← HC.out r hr]
    simp [World.cell?, hF.block b HB.out.2 HB.out.1]
  have HM : Hid (ks[r] ∈ ks) := List.getElem_mem hr
  clear hS hF
  generalize ks[r] = t at *
  go_wp2_with fail
  go_ret
  exact ⟨t, s', rfl, HM.out, HS.out, HF.out⟩
end Go.Proofs.YtgpoigkfoliflaaGreatDoor
namespace Go.Proofs.YtgpoigkfoliflaaGreatDoor
open Go.RowKit
set_option linter.unusedSimpArgs false
variable {W W' : World} {p S : Nat} {a : Option Addr} {l : List UInt8} {c m s : Nat}
theorem fin3 {w1 : World} (hp : p < W.heap.size) (hF : Frm (· = p) W w1) (h : Src w1 p S a l c m s) (y0 y1 y2 : Value) : Src (((w1.setCell ⟨W.heap.size, 0, none⟩ y0).setCell ⟨W.heap.size, 1, none⟩ y1).setCell ⟨W.heap.size, 2, none⟩ y2) p S a l c m s ∧ Frm (· = p) W (((w1.setCell ⟨W.heap.size, 0, none⟩ y0).setCell ⟨W.heap.size, 1, none⟩ y1).setCell ⟨W.heap.size, 2, none⟩ y2) := by
  have hF3 : Frm (· = W.heap.size) w1 (((w1.setCell ⟨W.heap.size, 0, none⟩ y0).setCell ⟨W.heap.size, 1, none⟩ y1).setCell ⟨W.heap.size, 2, none⟩ y2) := (((Frm.refl (· = W.heap.size) w1).set (B := (· = W.heap.size)) (b := W.heap.size) (o := 0) rfl y0).set (B := (· = W.heap.size)) (b := W.heap.size) (o := 1) rfl y1).set (B := (· = W.heap.size)) (b := W.heap.size) (o := 2) rfl y2
  have hle := h.le
  refine ⟨h.frm hF3 (by omega) (fun b hb => by omega), ?_⟩
  exact ⟨hF3.os.trans hF.os, hF3.tape.trans hF.tape, hF3.output.trans hF.output, Nat.le_trans hF.size hF3.size, fun b hb hn => (hF3.block b (Nat.lt_of_lt_of_le hb hF.size) (by omega)).trans (hF.block b hb hn)⟩
def AtomAns (W : World) (p S : Nat) (a : Option Addr) (l : List UInt8) (c m k : Nat) (e : Ending) (W' : World) : Prop := ∃ (x : At) (s' : Nat), e = .returned (.agg #[.int .i64 x.k, .int .i64 x.n, .string ⟨x.t.toArray⟩]) ∧ x.k = (k : Int) ∧ atOK x = true ∧ Src W' p S a l c (m + 1) s' ∧ Frm (· = p) W W'
def atZero : Obj := .cells #[.int .i64 0, .int .i64 0, .string ⟨#[]⟩] 55
theorem atN_ok {k n : Int} (h : (k = 1 ∧ -4 ≤ n ∧ n ≤ 8) ∨ (k = 3 ∧ 0 ≤ n ∧ n ≤ 1) ∨ (k = 4 ∧ 1 ≤ n ∧ n ≤ 6)) : atOK ⟨k, n, []⟩ = true := by
  rcases h with ⟨rfl, h1, h2⟩ | ⟨rfl, h1, h2⟩ | ⟨rfl, h1, h2⟩
  · rw [atOK1 rfl]; simp [inB]; omega
  · rw [atOK3 rfl]; simp [inB]; omega
  · rw [atOK4 rfl]; simp [inB]; omega
set_option maxRecDepth 100000 in
set_option maxHeartbeats 3200000 in
theorem srcAtomN (h : Src W p S a l c m s) (hm : m < 1000000) (k : Nat) (hk : k = 1 ∨ k = 3 ∨ k = 4) :
    Calls Tryz.prog 61 #[.pointer (some ⟨p, 0, none⟩), .int .i64 (k : Int)] W (AtomAns W p S a l c m k) := by
  have HP : Hid (p < W.heap.size) := (Array.getElem?_eq_some_iff.1 h.box).1
  have hA : Below W.heap.size W (W.alloc atZero) := (Below.refl _ _).alloc (Nat.le_refl _) _
  have NX : Hid (∀ n : Nat, 1 < n → n ≤ 256 → Calls Tryz.prog 18 #[.pointer (some ⟨p, 0, none⟩), .int .i64 (n : Int)] (W.alloc atZero) (NextAns (W.alloc atZero) p S a l c m n)) := fun n h1 h2 => srcNext (h.on hA) hm n h1 h2
  have HA := Lib.hid hA
  have HX : Hid (∀ w1, Frm (· = p) (W.alloc atZero) w1 → w1.heap[W.heap.size]? = some atZero) := fun w1 hF => by
    have e : (W.alloc atZero).heap.size = W.heap.size + 1 := by simp
    rw [hF.block W.heap.size (by omega) (by have := HP.out; omega)]
    show (W.heap.push _)[W.heap.size]? = _
    simp
  clear h hm hA
  rcases hk with rfl | rfl | rfl
  · go_enter Tryz.func61, Tryz.ntmps61
    go_wp2_with fail
    refine (NX.out 12 (by omega) (by omega)).mono ?_
    rintro e w1 ⟨r, s', rfl, hr, hS, hF⟩
    have HS := Lib.hid hS
    have HF := Lib.hid hF
    have HR := Lib.hid hr
    obtain ⟨n, hn⟩ : ∃ n : Int, n = (r : Int) - 4 := ⟨_, rfl⟩
    have w0 : IntKind.i64.wrap ((r : Int) - 4) = n := by rw [IntKind.wrap_i64]; omega
    have HN : Hid (-4 ≤ n ∧ n ≤ 8) := by show _ ∧ _; omega
    have hb := HX.out w1 hF
    have z0 := frozen_at 0 hb
    have z1 := frozen_at 1 hb
    have z2 := frozen_at 2 hb
    have c0 : w1.cell? ⟨W.heap.size, 0, none⟩ = some (.int .i64 0) := cell_at (o := 0) hb rfl
    have c1 : w1.cell? ⟨W.heap.size, 1, none⟩ = some (.int .i64 0) := cell_at (o := 1) hb rfl
    have c2 : w1.cell? ⟨W.heap.size, 2, none⟩ = some (.string ⟨#[]⟩) := cell_at (o := 2) hb rfl
    clear hS hF hr hb hn
    go_wp2_with fail
    refine bodyPost_ret (v := .agg #[.int .i64 1, .int .i64 n, .string ⟨#[]⟩]) (by simp [results, Tryz.results61, go_sem, c0, c1, c2]) rfl ?_
    have hf := fin3 HP.out ((Frm.of_below HA.out).trans HF.out) HS.out
    exact ⟨⟨1, n, []⟩, s', rfl, rfl, atN_ok (.inl ⟨rfl, HN.out⟩), (hf _ _ _).1, (hf _ _ _).2⟩
  · go_enter Tryz.func61, Tryz.ntmps61
    go_wp2_with fail
    refine (NX.out 2 (by omega) (by omega)).mono ?_
    rintro e w1 ⟨r, s', rfl, hr, hS, hF⟩
    have HS := Lib.hid hS
    have HF := Lib.hid hF
    have HR := Lib.hid hr
    have hb := HX.out w1 hF
    have z0 := frozen_at 0 hb
    have z1 := frozen_at 1 hb
    have z2 := frozen_at 2 hb
    have c0 : w1.cell? ⟨W.heap.size, 0, none⟩ = some (.int .i64 0) := cell_at (o := 0) hb rfl
    have c1 : w1.cell? ⟨W.heap.size, 1, none⟩ = some (.int .i64 0) := cell_at (o := 1) hb rfl
    have c2 : w1.cell? ⟨W.heap.size, 2, none⟩ = some (.string ⟨#[]⟩) := cell_at (o := 2) hb rfl
    clear hS hF hr hb
    go_wp2_with fail
    refine bodyPost_ret (v := .agg #[.int .i64 3, .int .i64 r, .string ⟨#[]⟩]) (by simp [results, Tryz.results61, go_sem, c0, c1, c2]) rfl ?_
    have hf := fin3 HP.out ((Frm.of_below HA.out).trans HF.out) HS.out
    exact ⟨⟨3, r, []⟩, s', rfl, rfl, atN_ok (.inr (.inl ⟨rfl, by have := HR.out; omega⟩)), (hf _ _ _).1, (hf _ _ _).2⟩
  · go_enter Tryz.func61, Tryz.ntmps61
    go_wp2_with fail
    refine (NX.out 6 (by omega) (by omega)).mono ?_
    rintro e w1 ⟨r, s', rfl, hr, hS, hF⟩
    have HS := Lib.hid hS
    have HF := Lib.hid hF
    have HR := Lib.hid hr
    obtain ⟨n, hn⟩ : ∃ n : Int, n = 1 + (r : Int) := ⟨_, rfl⟩
    have w0 : IntKind.i64.wrap (1 + (r : Int)) = n := by rw [IntKind.wrap_i64]; omega
    have HN : Hid (1 ≤ n ∧ n ≤ 6) := by show _ ∧ _; omega
    have hb := HX.out w1 hF
    have z0 := frozen_at 0 hb
    have z1 := frozen_at 1 hb
    have z2 := frozen_at 2 hb
    have c0 : w1.cell? ⟨W.heap.size, 0, none⟩ = some (.int .i64 0) := cell_at (o := 0) hb rfl
    have c1 : w1.cell? ⟨W.heap.size, 1, none⟩ = some (.int .i64 0) := cell_at (o := 1) hb rfl
    have c2 : w1.cell? ⟨W.heap.size, 2, none⟩ = some (.string ⟨#[]⟩) := cell_at (o := 2) hb rfl
    clear hS hF hr hb hn
    go_wp2_with fail
    refine bodyPost_ret (v := .agg #[.int .i64 4, .int .i64 n, .string ⟨#[]⟩]) (by simp [results, Tryz.results61, go_sem, c0, c1, c2]) rfl ?_
    have hf := fin3 HP.out ((Frm.of_below HA.out).trans HF.out) HS.out
    exact ⟨⟨4, n, []⟩, s', rfl, rfl, atN_ok (.inr (.inr ⟨rfl, HN.out⟩)), (hf _ _ _).1, (hf _ _ _).2⟩
def fiveT : List (List UInt8) := [[], [97], [98], [99], [110, 101, 116]]
theorem five_ok : ∀ t ∈ fiveT, atOK ⟨2, 0, t⟩ = true := by
  intro t ht
  rw [atOK2 rfl]
  simp only [fiveT, List.mem_cons, List.not_mem_nil, or_false] at ht
  rcases ht with rfl | rfl | rfl | rfl | rfl <;> decide
def rowFive : Obj := .cells #[.string ⟨#[]⟩, .string ⟨#[97]⟩, .string ⟨#[98]⟩, .string ⟨#[99]⟩, .string ⟨#[110, 101, 116]⟩] 9
set_option maxRecDepth 100000 in
set_option maxHeartbeats 3200000 in
theorem srcAtomT (h : Src W p S a l c m s) (hm : m < 1000000) :
    Calls Tryz.prog 61 #[.pointer (some ⟨p, 0, none⟩), .int .i64 2] W (AtomAns W p S a l c m 2) := by
  have HP : Hid (p < W.heap.size) := (Array.getElem?_eq_some_iff.1 h.box).1
  have hA : Below W.heap.size W (W.alloc atZero) := (Below.refl _ _).alloc (Nat.le_refl _) _
  have hA2 : Below W.heap.size W ((W.alloc atZero).alloc rowFive) := hA.alloc (by simp) _
  have e1 : (W.alloc atZero).heap.size = W.heap.size + 1 := by simp
  have e2 : ((W.alloc atZero).alloc rowFive).heap.size = W.heap.size + 2 := by simp
  have hrow : ((W.alloc atZero).alloc rowFive).heap[W.heap.size + 1]? = some rowFive := by
    have hn : ∀ (V : World) (o : Obj), (V.alloc o).heap[V.heap.size]? = some o := fun V o => by
      show (V.heap.push o)[V.heap.size]? = _
      simp
    have := hn (W.alloc atZero) rowFive
    rwa [e1] at this
  have hbox : ((W.alloc atZero).alloc rowFive).heap[W.heap.size]? = some atZero := by
    show ((W.heap.push atZero).push rowFive)[W.heap.size]? = _
    simp [Array.getElem?_push]
  have hst : Strs ((W.alloc atZero).alloc rowFive) (· = W.heap.size + 1) (some ⟨W.heap.size + 1, 0, none⟩) fiveT := by
    refine .inr ⟨_, 0, rfl, rfl, fun i hi => ?_⟩
    match i, hi with
    | 0, _ => exact cell_at (o := 0) hrow rfl
    | 1, _ => exact cell_at (o := 1) hrow rfl
    | 2, _ => exact cell_at (o := 2) hrow rfl
    | 3, _ => exact cell_at (o := 3) hrow rfl
    | 4, _ => exact cell_at (o := 4) hrow rfl
  have PK : Hid (Calls Tryz.prog 80 #[.pointer (some ⟨p, 0, none⟩), .slice (some ⟨W.heap.size + 1, 0, none⟩) 5 5] ((W.alloc atZero).alloc rowFive) (PickAns ((W.alloc atZero).alloc rowFive) p S a l c m fiveT)) :=
    srcPick (h.on hA2) hm fiveT (· = W.heap.size + 1) _ 5 hst (fun b hb => by have := HP.out; omega) (by decide) (by decide)
  have HA := Lib.hid hA2
  have HX : Hid (∀ w1, Frm (· = p) ((W.alloc atZero).alloc rowFive) w1 → w1.heap[W.heap.size]? = some atZero) := fun w1 hF => by
    rw [hF.block W.heap.size (by omega) (by have := HP.out; omega)]
    exact hbox
  clear h hm hA hA2 e1 e2 hrow hbox hst
  go_enter Tryz.func61, Tryz.ntmps61
  go_wp2_with fail
  refine PK.out.mono ?_
  rintro e w1 ⟨t, s', rfl, ht, hS, hF⟩
  have HS := Lib.hid hS
  have HF := Lib.hid hF
  have HT := Lib.hid ht
  have hb := HX.out w1 hF
  have z0 := frozen_at 0 hb
  have z1 := frozen_at 1 hb
  have z2 := frozen_at 2 hb
  have c0 : w1.cell? ⟨W.heap.size, 0, none⟩ = some (.int .i64 0) := cell_at (o := 0) hb rfl
  have c1 : w1.cell? ⟨W.heap.size, 1, none⟩ = some (.int .i64 0) := cell_at (o := 1) hb rfl
  have c2 : w1.cell? ⟨W.heap.size, 2, none⟩ = some (.string ⟨#[]⟩) := cell_at (o := 2) hb rfl
  clear hS hF ht hb
  go_wp2_with fail
  refine bodyPost_ret (v := .agg #[.int .i64 2, .int .i64 0, .string ⟨t.toArray⟩]) (by simp [results, Tryz.results61, go_sem, c0, c1, c2]) rfl ?_
  have hf := fin3 HP.out ((Frm.of_below HA.out).trans HF.out) HS.out
  exact ⟨⟨2, 0, t⟩, s', rfl, rfl, five_ok t HT.out, (hf _ _ _).1, (hf _ _ _).2⟩
theorem srcAtom (h : Src W p S a l c m s) (hm : m < 1000000) (k : Nat) (h1 : 1 ≤ k) (h2 : k ≤ 4) :
    Calls Tryz.prog 61 #[.pointer (some ⟨p, 0, none⟩), .int .i64 (k : Int)] W (AtomAns W p S a l c m k) := by
  by_cases e : k = 2
  · subst e
    exact srcAtomT h hm
  · exact srcAtomN h hm k (by omega)
end Go.Proofs.YtgpoigkfoliflaaGreatDoor
