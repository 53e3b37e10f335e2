import Derived.Test.YtbaelhehjepepaaKSr3
import Derived.Test.YtbaelhehjepepaaCSp
namespace Go.Proofs.Ytbaelhehjepepaa
open Go.RowKit
set_option linter.unusedSimpArgs false
variable {W W' : World} {p S : Nat} {a : Option Addr} {l : List UInt8} {c m s : Nat}
/-- a chance of the source -/
def ChanceAns (W : World) (p S : Nat) (a : Option Addr) (l : List UInt8) (c m : Nat) (e : Ending) (W' : World) : Prop := ∃ (b : Bool) (s' : Nat), e = .returned (.bool b) ∧ Src W' p S a l c (m + 1) s' ∧ Frm (· = p) W W'
set_option maxHeartbeats 1600000 in
theorem srcChance (h : Src W p S a l c m s) (hm : m < 1000000) (n : Nat) (h1 : 1 < n) (h2 : n ≤ 256) :
    Calls Try.prog 28 #[.pointer (some ⟨p, 0, none⟩), .int .i64 (n : Int)] W (ChanceAns W p S a l c m) := by
  have NX := Lib.hid (srcNext h hm n h1 h2)
  have hw : IntKind.i64.wrap ((n : Int) - 1) = (n : Int) - 1 := by rw [IntKind.wrap_i64]; omega
  clear h hm
  go_enter Try.func28, Try.ntmps28
  go_wp2_with fail
  refine NX.out.mono ?_
  rintro e w1 ⟨b, s', rfl, hb, hS, hF⟩
  have HS := Lib.hid hS
  have HF := Lib.hid hF
  clear hS hF hb
  go_wp2_with fail
  go_ret
  exact ⟨_, s', rfl, HS.out, HF.out⟩
def clZero : Obj := .cells #[.string ⟨#[]⟩, .int .i64 0, .int .i64 0, .int .i64 0, .int .i64 0, .int .i64 0, .string ⟨#[]⟩, .bool false] 24
def fourT : List (List UInt8) := [[97], [98], [110, 97, 109, 101], [116, 97, 103]]
def rowFour : Obj := .cells #[.string ⟨#[97]⟩, .string ⟨#[98]⟩, .string ⟨#[110, 97, 109, 101]⟩, .string ⟨#[116, 97, 103]⟩] 9
theorem four_ok : ∀ t ∈ fourT, nameB t = true := by
  intro t ht
  simp only [fourT, List.mem_cons, List.not_mem_nil, or_false] at ht
  rcases ht with rfl | rfl | rfl | rfl <;> decide
theorem port_ok : nameB [112, 111, 114, 116] = true := by decide
/-- while a column is drawn: the source, the place of the answer, the column x in its box q -/
structure CoSt (w V : World) (p S : Nat) (a : Option Addr) (l : List UInt8) (c m q : Nat) (x : Cl) : Prop where
  src : ∃ s, Src V p S a l c m s
  rv : V.heap[w.heap.size]? = some clZero
  bx : V.heap[q]? = some (.cells #[.string ⟨x.nm.toArray⟩, .int .i64 x.k, .int .i64 x.mn, .int .i64 x.mx, .int .i64 x.lo, .int .i64 x.hi, .string ⟨x.rf.toArray⟩, .bool x.st] 24)
  fr : Frm (· = p) w V
  qn : w.heap.size < q ∧ p < w.heap.size
theorem CoSt.qlt {w V : World} {q : Nat} {x : Cl} (h : CoSt w V p S a l c m q x) : q < V.heap.size := (Array.getElem?_eq_some_iff.1 h.bx).1
theorem CoSt.draw {w V V' : World} {q : Nat} {x : Cl} (h : CoSt w V p S a l c m q x) {s' : Nat} (hS : Src V' p S a l c (m + 1) s') (hF : Frm (· = p) V V') : CoSt w V' p S a l c (m + 1) q x := by
  have hq := h.qn
  have hl := h.qlt
  exact ⟨⟨s', hS⟩, by rw [hF.block _ (by omega) (by omega)]; exact h.rv, by rw [hF.block _ hl (by omega)]; exact h.bx, h.fr.trans hF, hq⟩
theorem CoSt.drew1 {w V : World} {q : Nat} {x : Cl} (h : CoSt w V p S a l c m q x) : CoSt w V.drew p S a l c m q x := by
  obtain ⟨s, hs⟩ := h.src
  exact ⟨⟨s, hs.drew1⟩, h.rv, h.bx, h.fr.drew1, h.qn⟩
theorem CoSt.set {w V : World} {q : Nat} {x y : Cl} (h : CoSt w V p S a l c m q x) (o : Nat) (v : Value) (e : (#[.string ⟨x.nm.toArray⟩, .int .i64 x.k, .int .i64 x.mn, .int .i64 x.mx, .int .i64 x.lo, .int .i64 x.hi, .string ⟨x.rf.toArray⟩, .bool x.st] : Array Value).setIfInBounds o v = #[.string ⟨y.nm.toArray⟩, .int .i64 y.k, .int .i64 y.mn, .int .i64 y.mx, .int .i64 y.lo, .int .i64 y.hi, .string ⟨y.rf.toArray⟩, .bool y.st]) : CoSt w (V.setCell ⟨q, o, none⟩ v) p S a l c m q y := by
  have hq := h.qn
  have hl := h.qlt
  obtain ⟨s, hs⟩ := h.src
  have hle := hs.le
  have hF := Frm.put1 V q o v
  refine ⟨⟨s, hs.frm hF (by omega) (fun b hb => by omega)⟩, by rw [hF.block _ (by omega) (by omega)]; exact h.rv, by rw [heap_set o v h.bx, e], ?_, hq⟩
  exact ⟨hF.os.trans h.fr.os, hF.tape.trans h.fr.tape, hF.output.trans h.fr.output, Nat.le_trans h.fr.size hF.size, fun b hb hn => (hF.block b (Nat.lt_of_lt_of_le hb h.fr.size) (by omega)).trans (h.fr.block b hb hn)⟩
/-- a right column, and the source goes on -/
def ColAns (W : World) (p S : Nat) (a : Option Addr) (l : List UInt8) (c : Nat) (e : Ending) (W' : World) : Prop := ∃ (x : Cl) (m' s' : Nat), e = .returned (.agg #[.string ⟨x.nm.toArray⟩, .int .i64 x.k, .int .i64 x.mn, .int .i64 x.mx, .int .i64 x.lo, .int .i64 x.hi, .string ⟨x.rf.toArray⟩, .bool x.st]) ∧ colB x = true ∧ m' ≤ 8 ∧ Src W' p S a l c m' s' ∧ Frm (· = p) W W'
theorem CoSt.fin {w V : World} {q : Nat} {x : Cl} (h : CoSt w V p S a l c m q x) (hm : m ≤ 8) (hx : colB x = true) (y0 y1 y2 y3 y4 y5 y6 y7 : Value) :
    ColAns w p S a l c (.returned (.agg #[.string ⟨x.nm.toArray⟩, .int .i64 x.k, .int .i64 x.mn, .int .i64 x.mx, .int .i64 x.lo, .int .i64 x.hi, .string ⟨x.rf.toArray⟩, .bool x.st])) ((((((((V.setCell ⟨w.heap.size, 0, none⟩ y0).setCell ⟨w.heap.size, 1, none⟩ y1).setCell ⟨w.heap.size, 2, none⟩ y2).setCell ⟨w.heap.size, 3, none⟩ y3).setCell ⟨w.heap.size, 4, none⟩ y4).setCell ⟨w.heap.size, 5, none⟩ y5).setCell ⟨w.heap.size, 6, none⟩ y6).setCell ⟨w.heap.size, 7, none⟩ y7) := by
  have hq := h.qn
  obtain ⟨s, hs⟩ := h.src
  have hle := hs.le
  have hF : Frm (· = w.heap.size) V _ := ((((((((Frm.refl (· = w.heap.size) V).set (b := w.heap.size) (o := 0) rfl y0).set (b := w.heap.size) (o := 1) rfl y1).set (b := w.heap.size) (o := 2) rfl y2).set (b := w.heap.size) (o := 3) rfl y3).set (b := w.heap.size) (o := 4) rfl y4).set (b := w.heap.size) (o := 5) rfl y5).set (b := w.heap.size) (o := 6) rfl y6).set (b := w.heap.size) (o := 7) rfl y7
  exact ⟨x, m, s, rfl, hx, hm, hs.frm hF (by omega) (fun b hb => by omega), hF.os.trans h.fr.os, hF.tape.trans h.fr.tape, hF.output.trans h.fr.output, Nat.le_trans h.fr.size hF.size, fun b hb hn => (hF.block b (Nat.lt_of_lt_of_le hb h.fr.size) (by omega)).trans (h.fr.block b hb hn)⟩
theorem box_after {w V : World} {o : Obj} (hR : V.heap[w.heap.size]? = some clZero) (hF : Frm (· = p) w V) (hp : p < w.heap.size) {x : Cl} (hs : ∃ s, Src V p S a l c m s) (e : o = .cells #[.string ⟨x.nm.toArray⟩, .int .i64 x.k, .int .i64 x.mn, .int .i64 x.mx, .int .i64 x.lo, .int .i64 x.hi, .string ⟨x.rf.toArray⟩, .bool x.st] 24) : CoSt w (V.alloc o) p S a l c m V.heap.size x := by
  have hl := (Array.getElem?_eq_some_iff.1 hR).1
  have hB : Below V.heap.size V (V.alloc o) := (Below.refl _ _).alloc (Nat.le_refl _) _
  obtain ⟨s, hs⟩ := hs
  subst e
  exact ⟨⟨s, hs.on hB⟩, by rw [hB.block _ hl]; exact hR, heap_newC _ _, hF.trans (Frm.of_below hB), hl, hp⟩
theorem col_drawn {x : Cl} (ht : x.nm ∈ fourT) (h1 : 0 ≤ x.mn ∧ x.mn ≤ 1) (h2 : 1 ≤ x.mx ∧ x.mx ≤ 8) (hk : kindB x = true) : colB x = true := by
  unfold colB
  rw [four_ok _ ht, hk]
  simp [inB]; omega
set_option maxRecDepth 100000 in
set_option maxHeartbeats 6400000 in
theorem srcColumn (h : Src W p S a l c 0 s) :
    Calls Try.prog 14 #[.pointer (some ⟨p, 0, none⟩)] W (ColAns W p S a l c) := by
  have HP : Hid (p < W.heap.size) := (Array.getElem?_eq_some_iff.1 h.box).1
  have hA : Below W.heap.size W (W.alloc clZero) := (Below.refl _ _).alloc (Nat.le_refl _) _
  have hA2 : Below W.heap.size W ((W.alloc clZero).alloc rowFour) := hA.alloc (by simp) _
  have e1 : (W.alloc clZero).heap.size = W.heap.size + 1 := by simp
  have e2 : ((W.alloc clZero).alloc rowFour).heap.size = W.heap.size + 2 := by simp
  have hrow : ((W.alloc clZero).alloc rowFour).heap[W.heap.size + 1]? = some rowFour := by
    have := heap_newC (W.alloc clZero) rowFour
    rwa [e1] at this
  have hbox : ((W.alloc clZero).alloc rowFour).heap[W.heap.size]? = some clZero := by
    show ((W.heap.push clZero).push rowFour)[W.heap.size]? = _
    simp [Array.getElem?_push]
  have hst : Strs ((W.alloc clZero).alloc rowFour) (· = W.heap.size + 1) (some ⟨W.heap.size + 1, 0, none⟩) fourT := by
    refine .inr ⟨_, 0, rfl, rfl, fun i hi => ?_⟩
    match i, hi with
    | 0, _ => exact cell_at (o := 0) hrow rfl
    | 1, _ => exact cell_at (o := 1) hrow rfl
    | 2, _ => exact cell_at (o := 2) hrow rfl
    | 3, _ => exact cell_at (o := 3) hrow rfl
  have PK : Hid (Calls Try.prog 26 #[.pointer (some ⟨p, 0, none⟩), .slice (some ⟨W.heap.size + 1, 0, none⟩) 4 4] ((W.alloc clZero).alloc rowFour) (PickAns ((W.alloc clZero).alloc rowFour) p S a l c 0 fourT)) :=
    srcPick (h.on hA2) (by omega) fourT (· = W.heap.size + 1) _ 4 hst (fun b hb => by have := HP.out; omega) (by decide) (by decide)
  have HA := Lib.hid hA2
  have HX : Hid (∀ w1, Frm (· = p) ((W.alloc clZero).alloc rowFour) w1 → w1.heap[W.heap.size]? = some clZero) := fun w1 hF => by
    rw [hF.block W.heap.size (by omega) (by have := HP.out; omega)]
    exact hbox
  have HNX : Hid (∀ V s m n, Src V p S a l c m s → m < 1000000 → 1 < n → n ≤ 256 → Calls Try.prog 27 #[.pointer (some ⟨p, 0, none⟩), .int .i64 ((n : Nat) : Int)] V (NextAns V p S a l c m n)) := fun V s m n h hm h1 h2 => srcNext h hm n h1 h2
  clear h hA hA2 e1 e2 hrow hbox hst
  go_enter Try.func14, Try.ntmps14
  go_wp2_with fail
  refine PK.out.mono ?_
  rintro e w1 ⟨t, s1, rfl, ht, hS1, hF1⟩
  have HT := Lib.hid ht
  have H1 := Lib.hid (And.intro hS1 hF1)
  clear ht hS1 hF1
  go_wp2_with fail
  refine (HNX.out w1 s1 1 4 H1.out.1 (by omega) (by omega) (by omega)).mono ?_
  rintro e w2 ⟨b, s2, rfl, hb, hS2, hF2⟩
  have H2 := Lib.hid (And.intro hS2 (H1.out.2.trans hF2))
  obtain ⟨K, hK⟩ : ∃ K : Int, K = 1 + (b : Int) := ⟨_, rfl⟩
  have w0 : IntKind.i64.wrap (1 + (b : Int)) = K := by rw [IntKind.wrap_i64]; omega
  have HK : Hid (1 ≤ K ∧ K ≤ 4) := by show _ ∧ _; omega
  clear hS2 hF2 H1 hb hK
  go_wp2_with fail
  refine (HNX.out w2 s2 2 2 H2.out.1 (by omega) (by omega) (by omega)).mono ?_
  rintro e w3 ⟨mn, s3, rfl, hmn, hS3, hF3⟩
  have H3 := Lib.hid (And.intro hS3 (H2.out.2.trans hF3))
  have HMN := Lib.hid hmn
  clear hS3 hF3 H2 hmn
  go_wp2_with fail
  refine (HNX.out w3 s3 3 3 H3.out.1 (by omega) (by omega) (by omega)).mono ?_
  rintro e w4 ⟨d, s4, rfl, hd, hS4, hF4⟩
  have HR := Lib.hid (HX.out w4 (H3.out.2.trans hF4))
  have H4 := Lib.hid (And.intro hS4 ((Frm.of_below HA.out).trans (H3.out.2.trans hF4)))
  obtain ⟨M, hM⟩ : ∃ M : Int, M = 1 + (d : Int) := ⟨_, rfl⟩
  have w5 : IntKind.i64.wrap (1 + (d : Int)) = M := by rw [IntKind.wrap_i64]; omega
  have HM : Hid (1 ≤ M ∧ M ≤ 3) := by show _ ∧ _; omega
  clear hS4 hF4 H3 hd hM
  have C0 : Hid (∀ (x : Cl) o, o = .cells #[.string ⟨x.nm.toArray⟩, .int .i64 x.k, .int .i64 x.mn, .int .i64 x.mx, .int .i64 x.lo, .int .i64 x.hi, .string ⟨x.rf.toArray⟩, .bool x.st] 24 → CoSt W (w4.alloc o) p S a l c 4 w4.heap.size x) := fun x o e => box_after HR.out H4.out.2 HP.out ⟨s4, H4.out.1⟩ e
  have hlt : W.heap.size < w4.heap.size := (Array.getElem?_eq_some_iff.1 HR.out).1
  have hne : (W.heap.size = w4.heap.size) = False := by simp; omega
  have hne' : (w4.heap.size = W.heap.size) = False := by simp; omega
  clear H4 HR HX hlt PK HA
  by_cases hk1 : K = 1
  case pos =>
    subst hk1
    obtain ⟨x, hx⟩ : ∃ x : Cl, x = ⟨t, 1, mn, M, 0, 0, [], false⟩ := ⟨_, rfl⟩
    have C1 := Lib.hid (C0.out x (.cells #[.string ⟨t.toArray⟩, .int .i64 1, .int .i64 mn, .int .i64 M, .int .i64 0, .int .i64 0, .string ⟨#[]⟩, .bool false] 24) (by rw [hx]))
    have HXX := Lib.hid hx
    clear C0 hx
    go_wp2_with fail
    obtain ⟨s5, hs5⟩ := C1.out.src
    refine (HNX.out _ s5 4 9 hs5 (by omega) (by omega) (by omega)).mono ?_
    rintro e w6 ⟨r, s6, rfl, hr, hS6, hF6⟩
    have C2 := Lib.hid (C1.out.draw hS6 hF6)
    obtain ⟨n, hn⟩ : ∃ n : Int, n = (r : Int) - 4 := ⟨_, rfl⟩
    have wn : IntKind.i64.wrap ((r : Int) - 4) = n := by rw [IntKind.wrap_i64]; omega
    have hnb : -4 ≤ n ∧ n ≤ 4 := by omega
    have HN := Lib.hid hnb
    have C3 := Lib.hid (C2.out.set (y := { x with lo := n }) 4 (.int .i64 n) rfl)
    have y4 := cell_at (o := 4) C2.out.bx rfl
    have z4 := frozen_at 4 C2.out.bx
    clear hS6 hF6 hr hn hs5 C1 hnb
    go_wp2_with fail
    obtain ⟨s7, hs7⟩ := C3.out.src
    have HS7 := Lib.hid hs7
    clear hs7 C2
    go_region_with (go_at_call 27; refine (HNX.out _ s7 5 9 (by first | exact HS7.out | exact HS7.out.drew1) (by omega) (by omega) (by omega)).mono ?_; rintro e w8 ⟨r2, s8, rfl, hr2, hS8, hF8⟩; have C4 := Lib.hid (CoSt.draw (by first | exact C3.out | exact C3.out.drew1) hS8 hF8); (obtain ⟨n2, hn2⟩ : ∃ n2 : Int, n2 = n + (r2 : Int) := ⟨_, rfl⟩); (have wn2 : IntKind.i64.wrap (n + (r2 : Int)) = n2 := (by have := HN.out; rw [IntKind.wrap_i64]; omega)); (have HN2 : Hid (n ≤ n2 ∧ n2 ≤ n + 8) := (by show _ ∧ _; omega)); have x0 := cell_at (o := 0) C4.out.bx rfl; have f0 := frozen_at 0 C4.out.bx; have r0 := cell_at (o := 0) C4.out.rv rfl; have g0 := frozen_at 0 C4.out.rv; have x1 := cell_at (o := 1) C4.out.bx rfl; have f1 := frozen_at 1 C4.out.bx; have r1 := cell_at (o := 1) C4.out.rv rfl; have g1 := frozen_at 1 C4.out.rv; have x2 := cell_at (o := 2) C4.out.bx rfl; have f2 := frozen_at 2 C4.out.bx; have r2 := cell_at (o := 2) C4.out.rv rfl; have g2 := frozen_at 2 C4.out.rv; have x3 := cell_at (o := 3) C4.out.bx rfl; have f3 := frozen_at 3 C4.out.bx; have r3 := cell_at (o := 3) C4.out.rv rfl; have g3 := frozen_at 3 C4.out.rv; have x4 := cell_at (o := 4) C4.out.bx rfl; have f4 := frozen_at 4 C4.out.bx; have r4 := cell_at (o := 4) C4.out.rv rfl; have g4 := frozen_at 4 C4.out.rv; have x5 := cell_at (o := 5) C4.out.bx rfl; have f5 := frozen_at 5 C4.out.bx; have r5 := cell_at (o := 5) C4.out.rv rfl; have g5 := frozen_at 5 C4.out.rv; have x6 := cell_at (o := 6) C4.out.bx rfl; have f6 := frozen_at 6 C4.out.bx; have r6 := cell_at (o := 6) C4.out.rv rfl; have g6 := frozen_at 6 C4.out.rv; have x7 := cell_at (o := 7) C4.out.bx rfl; have f7 := frozen_at 7 C4.out.bx; have r7 := cell_at (o := 7) C4.out.rv rfl; have g7 := frozen_at 7 C4.out.rv; clear hS8 hF8 hr2 hn2)
    all_goals
      go_wp2_with fail
      refine bodyPost_ret (v := .agg #[.string ⟨x.nm.toArray⟩, .int .i64 x.k, .int .i64 x.mn, .int .i64 x.mx, .int .i64 n, .int .i64 n2, .string ⟨x.rf.toArray⟩, .bool x.st]) (by simp [results, Try.results14, go_sem, *]) rfl ?_
      have C5 := C4.out.set (y := { x with lo := n, hi := n2 }) 5 (.int .i64 n2) rfl
      refine C5.fin (by omega) ?_ _ _ _ _ _ _ _ _
      have h1 := HN.out; have h2 := HN2.out; have h3 := HM.out; have h4 := HMN.out
      rw [HXX.out]
      exact col_drawn HT.out (by simp; omega) (by simp; omega) (by rw [kind1 rfl]; simp [inB]; omega)
  by_cases hk4 : K = 4
  case pos =>
    subst hk4
    obtain ⟨x, hx⟩ : ∃ x : Cl, x = ⟨t, 4, 0, M, 0, 0, [112, 111, 114, 116], false⟩ := ⟨_, rfl⟩
    have C1 := Lib.hid (C0.out x (.cells #[.string ⟨t.toArray⟩, .int .i64 4, .int .i64 0, .int .i64 M, .int .i64 0, .int .i64 0, .string ⟨#[112, 111, 114, 116]⟩, .bool false] 24) (by rw [hx]))
    have HXX := Lib.hid hx
    clear C0 hx hk1
    go_wp2_with fail
    obtain ⟨s5, hs5⟩ := C1.out.src
    refine (srcChance hs5 (by omega) 2 (by omega) (by omega)).mono ?_
    rintro e w6 ⟨b7, s6, rfl, hS6, hF6⟩
    have C2 := Lib.hid (C1.out.draw hS6 hF6)
    clear hS6 hF6 hs5 C1
    have x0 := cell_at (o := 0) C2.out.bx rfl
    have f0 := frozen_at 0 C2.out.bx
    have r0 := cell_at (o := 0) C2.out.rv rfl
    have g0 := frozen_at 0 C2.out.rv
    have x1 := cell_at (o := 1) C2.out.bx rfl
    have f1 := frozen_at 1 C2.out.bx
    have r1 := cell_at (o := 1) C2.out.rv rfl
    have g1 := frozen_at 1 C2.out.rv
    have x2 := cell_at (o := 2) C2.out.bx rfl
    have f2 := frozen_at 2 C2.out.bx
    have r2 := cell_at (o := 2) C2.out.rv rfl
    have g2 := frozen_at 2 C2.out.rv
    have x3 := cell_at (o := 3) C2.out.bx rfl
    have f3 := frozen_at 3 C2.out.bx
    have r3 := cell_at (o := 3) C2.out.rv rfl
    have g3 := frozen_at 3 C2.out.rv
    have x4 := cell_at (o := 4) C2.out.bx rfl
    have f4 := frozen_at 4 C2.out.bx
    have r4 := cell_at (o := 4) C2.out.rv rfl
    have g4 := frozen_at 4 C2.out.rv
    have x5 := cell_at (o := 5) C2.out.bx rfl
    have f5 := frozen_at 5 C2.out.bx
    have r5 := cell_at (o := 5) C2.out.rv rfl
    have g5 := frozen_at 5 C2.out.rv
    have x6 := cell_at (o := 6) C2.out.bx rfl
    have f6 := frozen_at 6 C2.out.bx
    have r6 := cell_at (o := 6) C2.out.rv rfl
    have g6 := frozen_at 6 C2.out.rv
    have x7 := cell_at (o := 7) C2.out.bx rfl
    have f7 := frozen_at 7 C2.out.bx
    have r7 := cell_at (o := 7) C2.out.rv rfl
    have g7 := frozen_at 7 C2.out.rv
    go_wp2_with fail
    refine bodyPost_ret (v := .agg #[.string ⟨x.nm.toArray⟩, .int .i64 x.k, .int .i64 x.mn, .int .i64 x.mx, .int .i64 x.lo, .int .i64 x.hi, .string ⟨x.rf.toArray⟩, .bool b7]) (by simp [results, Try.results14, go_sem, *]) rfl ?_
    have C5 := C2.out.set (y := { x with st := b7 }) 7 (.bool b7) rfl
    refine C5.fin (by omega) ?_ _ _ _ _ _ _ _ _
    have h3 := HM.out
    rw [HXX.out]
    exact col_drawn HT.out (by simp) (by simp; omega) (by rw [kind4 rfl, port_ok]; rfl)
  have k1 : (K == 1) = false := by simpa using hk1
  have k4 : (K == 4) = false := by simpa using hk4
  obtain ⟨x, hx⟩ : ∃ x : Cl, x = ⟨t, K, mn, M, 0, 0, [], false⟩ := ⟨_, rfl⟩
  have C1 := Lib.hid (C0.out x (.cells #[.string ⟨t.toArray⟩, .int .i64 K, .int .i64 mn, .int .i64 M, .int .i64 0, .int .i64 0, .string ⟨#[]⟩, .bool false] 24) (by rw [hx]))
  have HXX := Lib.hid hx
  have HK23 : Hid (K = 2 ∨ K = 3) := by have := HK.out; show _ ∨ _; omega
  clear C0 hx hk1 hk4
  have r0 := cell_at (o := 0) C1.out.rv rfl
  have g0 := frozen_at 0 C1.out.rv
  have r1 := cell_at (o := 1) C1.out.rv rfl
  have g1 := frozen_at 1 C1.out.rv
  have r2 := cell_at (o := 2) C1.out.rv rfl
  have g2 := frozen_at 2 C1.out.rv
  have r3 := cell_at (o := 3) C1.out.rv rfl
  have g3 := frozen_at 3 C1.out.rv
  have r4 := cell_at (o := 4) C1.out.rv rfl
  have g4 := frozen_at 4 C1.out.rv
  have r5 := cell_at (o := 5) C1.out.rv rfl
  have g5 := frozen_at 5 C1.out.rv
  have r6 := cell_at (o := 6) C1.out.rv rfl
  have g6 := frozen_at 6 C1.out.rv
  have r7 := cell_at (o := 7) C1.out.rv rfl
  have g7 := frozen_at 7 C1.out.rv
  go_wp2_with fail
  refine bodyPost_ret (v := .agg #[.string ⟨t.toArray⟩, .int .i64 K, .int .i64 mn, .int .i64 M, .int .i64 0, .int .i64 0, .string ⟨#[]⟩, .bool false]) (by simp [results, Try.results14, go_sem, *]) rfl ?_
  have h3 := HM.out; have h4 := HMN.out
  have hf := C1.out.fin (by omega) (by rw [HXX.out]; exact col_drawn HT.out (by simp; omega) (by simp; omega) (by rw [kind23 HK23.out]; rfl))
  rw [HXX.out] at hf
  exact hf _ _ _ _ _ _ _ _
end Go.Proofs.Ytbaelhehjepepaa
