import Derived.Test.YtjfkfeiohcfdaaaDGrow
import Derived.Test.YtjfkfeiohcfdaaaDBox
import Derived.Test.YtjfkfeiohcfdaaaDRwA
namespace Go.Proofs.Ytjfkfeiohcfdaaa
open Go.RowKit
set_option linter.unusedSimpArgs false
theorem infoRs : ∃ i, Try.prog.info? 85 = some i ∧ i.zero = some (.slice none 0 0) ∧ i.size = 1 ∧ i.bytes = 24 := by
  have h : (Try.prog.info? 85).map (fun i => (i.zero, i.size, i.bytes)) = some (some (.slice none 0 0), 1, 24) := by kernel_rfl
  obtain ⟨i, hi, hzz⟩ := Option.map_eq_some_iff.1 h
  simp only [Prod.mk.injEq] at hzz
  exact ⟨i, hi, hzz⟩
/-- no rows -/
theorem rd_none {w : World} {B : Nat → Prop} (a : Option Addr) (c : Nat) : Rd w B (dRowS []) (.slice a 0 c) := ⟨a, c, rfl, .inl rfl⟩
/-- while a new store is made -/
structure NSt (w wr : World) (m : Nat) (a : Option Addr) (c k : Nat) (v : Value) : Prop where
  bx : wr.heap[w.heap.size]? = some (.cells #[.slice a m c] 33)
  rv : wr.heap[w.heap.size + 1]? = some (.cells #[.slice none 0 0, .int .i64 0] 28)
  ot : wr.heap[w.heap.size + 1 + 1 + 1]? = some (.cells #[v, .int .i64 1] 28)
  gr : SG wr (w.heap.size + 1 + 1) 85 1 (fun _ _ => dRowS []) k v
  ne : v.ownBlock ≠ some (w.heap.size + 1 + 1 + 1)
  lo : ∀ g, v.ownBlock = some g → w.heap.size + 1 + 1 ≤ g
  bel : Below w.heap.size w wr
theorem NSt.first (w : World) (m : Nat) (a : Option Addr) (c : Nat) : NSt w ((((w.alloc (.cells #[.slice a m c] 33)).alloc (.cells #[.slice none 0 0, .int .i64 0] 28)).alloc (.cells #[] 85)).alloc (.cells #[.slice (some ⟨w.heap.size + 1 + 1, 0, none⟩) 0 0, .int .i64 1] 28)) m a c 0 (.slice (some ⟨w.heap.size + 1 + 1, 0, none⟩) 0 0) := by
  have h3 : ∀ (V : World) (o : Obj) (b : Nat) (x : Obj), V.heap[b]? = some x → (V.alloc o).heap[b]? = some x := fun V o b x h => heap_keptD h (below_allocD _ _)
  have s1 := size_allocD w (.cells #[.slice a m c] 33)
  have e1 := heap_newD (w.alloc (.cells #[.slice a m c] 33)) (.cells #[.slice none 0 0, .int .i64 0] 28)
  have s2 := size_allocD (w.alloc (.cells #[.slice a m c] 33)) (.cells #[.slice none 0 0, .int .i64 0] 28)
  have e2 := heap_newD ((w.alloc (.cells #[.slice a m c] 33)).alloc (.cells #[.slice none 0 0, .int .i64 0] 28)) (.cells #[] 85)
  have s3 := size_allocD ((w.alloc (.cells #[.slice a m c] 33)).alloc (.cells #[.slice none 0 0, .int .i64 0] 28)) (.cells #[] 85)
  have e3 := heap_newD (((w.alloc (.cells #[.slice a m c] 33)).alloc (.cells #[.slice none 0 0, .int .i64 0] 28)).alloc (.cells #[] 85)) (.cells #[.slice (some ⟨w.heap.size + 1 + 1, 0, none⟩) 0 0, .int .i64 1] 28)
  rw [s1] at e1 s2
  rw [s2] at e2 s3
  rw [s3] at e3
  refine ⟨h3 _ _ _ _ (h3 _ _ _ _ (h3 _ _ _ _ (heap_newD _ _))), h3 _ _ _ _ (h3 _ _ _ _ e1), e3, SG.start (Nat.le_refl _) (h3 _ _ _ _ e2), ?_, fun g hg => ?_, ?_⟩
  · simp [Value.ownBlock]
  · simp [Value.ownBlock] at hg; omega
  · exact ((((Below.refl _ _).alloc (Nat.le_refl _) _).alloc (by simp) _).alloc (by simp; omega) _).alloc (by simp; omega) _
theorem NSt.step {w wr w3 : World} {m : Nat} {a : Option Addr} {c k : Nat} {v v' : Value} {o1 o2 : Obj} (h : NSt w wr m a c k v) (hs : SG w3 (w.heap.size + 1 + 1) 85 1 (fun _ _ => dRowS []) (k + 1) v') (hg : ((wr.alloc o1).alloc o2).grownBy w3 v.ownBlock) (hl : ∃ g, v'.ownBlock = some g ∧ (v.ownBlock = some g ∨ ((wr.alloc o1).alloc o2).heap.size ≤ g)) :
    NSt w (w3.setCell ⟨w.heap.size + 1 + 1 + 1, 0, none⟩ v') m a c (k + 1) v' ∧ w3.heap[w.heap.size + 1 + 1 + 1]? = some (.cells #[v, .int .i64 1] 28) := by
  have hB2 : Below wr.heap.size wr ((wr.alloc o1).alloc o2) := (below_allocD _ _).trans ((below_allocD _ _).mono (by simp))
  have keep : ∀ b x, wr.heap[b]? = some x → v.ownBlock ≠ some b → w3.heap[b]? = some x := fun b x hx hn => by
    have hlt := (Array.getElem?_eq_some_iff.1 hx).1
    rw [hg.block b (Nat.lt_of_lt_of_le hlt hB2.size) (fun e => hn e.symm), hB2.block b hlt]; exact hx
  have lo := h.lo
  have n0 : v.ownBlock ≠ some w.heap.size := fun e => by have := lo _ e; omega
  have n1 : v.ownBlock ≠ some (w.heap.size + 1) := fun e => by have := lo _ e; omega
  obtain ⟨g, hgv, hgg⟩ := hl
  have hp := (Array.getElem?_eq_some_iff.1 h.ot).1
  have hgp : g ≠ w.heap.size + 1 + 1 + 1 := by
    rcases hgg with e | e
    · intro e'; subst e'; exact h.ne e
    · have := hB2.size; omega
  have o3 := keep _ _ h.ot h.ne
  refine ⟨⟨?_, ?_, heap_set 0 v' o3, ?_, ?_, fun q hq => ?_, ?_⟩, o3⟩
  · rw [Below.heap_setCell _ ⟨w.heap.size + 1 + 1 + 1, 0, none⟩ v' _ (by show w.heap.size ≠ w.heap.size + 1 + 1 + 1; omega)]; exact keep _ _ h.bx n0
  · rw [Below.heap_setCell _ ⟨w.heap.size + 1 + 1 + 1, 0, none⟩ v' _ (by show w.heap.size + 1 ≠ w.heap.size + 1 + 1 + 1; omega)]; exact keep _ _ h.rv n1
  · refine hs.same (p := w.heap.size + 1 + 1 + 1) (by simp [World.setCell]) (fun b hb => Below.heap_setCell _ _ _ _ hb) (by rw [hgv]; intro e; simp at e; exact hgp e) (fun i j u _ _ hr => ?_)
    obtain ⟨ra, rc, rfl, -⟩ := hr
    exact ⟨ra, rc, rfl, .inl rfl⟩
  · rw [hgv]; intro e; simp at e; exact hgp e
  · rw [hgv] at hq
    simp only [Option.some.injEq] at hq
    subst hq
    rcases hgg with e | e
    · exact lo _ e
    · have := hB2.size; omega
  · have hb3 : Below w.heap.size w w3 := h.bel.trans ⟨hg.os, hg.tape, hg.output, Nat.le_trans hB2.size hg.size, fun b hb => by
      have hlt : b < wr.heap.size := Nat.lt_of_lt_of_le hb h.bel.size
      rw [hg.block b (Nat.lt_of_lt_of_le hlt hB2.size) (fun e => by have := lo _ e.symm; omega), hB2.block b hlt]⟩
    exact hb3.setCell (by show w.heap.size ≤ w.heap.size + 1 + 1 + 1; omega) _
def noRows (m : Nat) : List (List RowV) := List.replicate m []
theorem noRows_len (m : Nat) : (noRows m).length = m := by simp [noRows]
theorem rd_noRows {w : World} {B : Nat → Prop} {m : Nat} {a : Option Addr} {c : Nat} (h : Rd w B (.l 1 m (fun _ _ => dRowS [])) (.slice a m c)) : Rd w B (dRowSS (noRows m)) (.slice a (noRows m).length c) := by
  have e : dRowSS (noRows m) = .l 1 m (lsF cRowS (noRows m)) := by unfold dRowSS Ls; rw [noRows_len]
  rw [e, noRows_len]
  refine h.congr (fun i j hi hj => ?_)
  rw [lsF_at (by rw [noRows_len]; exact hi)]
  simp [noRows, cRowS]
set_option maxRecDepth 100000 in
set_option maxHeartbeats 6400000 in
theorem newS (m : Nat) (a : Option Addr) (c : Nat) (w : World) (hm : m ≤ 1048576) :
    Calls Try.prog 24 #[.agg #[.slice a m c]] w fun e w' => ∃ ra rc, e = .returned (.agg #[.slice ra (noRows m).length rc, .int .i64 1]) ∧ Rd w' (fun b => w.heap.size ≤ b ∧ b < w'.heap.size) (dRowSS (noRows m)) (.slice ra (noRows m).length rc) ∧ Below w.heap.size w w' := by
  obtain ⟨iR, hiR⟩ := infoRs
  have HIR := Lib.hid hiR
  have H0 := Lib.hid (NSt.first w m a c)
  have HM := Lib.hid hm
  clear hiR
  go_enter Try.func24, Try.ntmps24
  go_wp2_with fail
  go_loopw [4] (fun t wr => ∃ k : Nat, k ≤ m ∧ t = .int .i64 k ∧ Hid (∃ va vc, NSt w wr m a c k (.slice va k vc))) (fun t _ => m - (intOf t).toNat)
  case atStart => exact ⟨0, Nat.zero_le _, rfl, _, _, H0.out⟩
  case round =>
    obtain ⟨k, hk, rfl, HW⟩ := hrel
    obtain ⟨va, vc, hN⟩ := HW.out
    have HN := Lib.hid hN
    clear HW
    have b0 := cell_at (o := 0) hN.bx rfl
    have t0 := cell_at (o := 0) hN.ot rfl
    have t1 := cell_at (o := 1) hN.ot rfl
    by_cases hlt : k < m
    case neg =>
      have hkd : decide ((k : Int) < (m : Int)) = false := by simp; omega
      have hkm : k = m := by omega
      have HKM := Lib.hid hkm
      have r0 := cell_at (o := 0) hN.rv rfl
      have r1 := cell_at (o := 1) hN.rv rfl
      have g0 := frozen_at 0 hN.rv
      have g1 := frozen_at 1 hN.rv
      clear hN hkm
      go_wp2_with fail
      refine bodyPost_ret (v := .agg #[.slice va k vc, .int .i64 1]) (by simp [results, Try.results24, go_sem, *]) rfl ?_
      have hkm := HKM.out
      subst hkm
      refine ⟨va, vc, by rw [noRows_len], ?_, ?_⟩
      · have hr := HN.out.gr.rd (by omega)
        refine rd_noRows ?_
        obtain ⟨ra, rc, e, h⟩ := hr
        simp only [Value.slice.injEq, true_and] at e
        obtain ⟨rfl, rfl⟩ := e
        have hfr : Frm (· = w.heap.size + 1) wr ((wr.setCell ⟨w.heap.size + 1, 0, none⟩ (.slice va k vc)).setCell ⟨w.heap.size + 1, 1, none⟩ (.int .i64 1)) := (frm_set _ _ _ _).trans (frm_set _ _ _ _)
        have hlo := HN.out.lo
        refine ⟨va, vc, rfl, ?_⟩
        rcases h with h | ⟨b, off, ha, hb, hn, hc⟩
        · exact .inl h
        · refine .inr ⟨b, off, ha, ⟨by have := hlo b (by rw [ha]; rfl); omega, by simpa using hb⟩, hn, fun i j hi hj => ?_⟩
          obtain ⟨u, hu, hr⟩ := hc i j hi hj
          have hbg : b ≠ w.heap.size + 1 := by have := hlo b (by rw [ha]; rfl); omega
          refine ⟨u, ?_, ?_⟩
          · rw [World.cell?_of_block (w := wr) (a := ⟨b, off + i * 1 + j, none⟩) (hfr.block b hb hbg)]; exact hu
          · obtain ⟨ra, rc, rfl, -⟩ := hr
            exact ⟨ra, rc, rfl, .inl rfl⟩
      · exact (HN.out.bel.setCell (by simp <;> omega) _).setCell (by simp <;> omega) _
    have hki : (k : Int) < (m : Int) := by omega
    have hpl := (Array.getElem?_eq_some_iff.1 hN.ot).1
    have SG2 : Hid (SG ((wr.alloc (.cells #[] 56)).alloc (.cells #[.slice (some ⟨wr.heap.size, 0, none⟩) 0 0] 85)) (w.heap.size + 1 + 1) 85 1 (fun _ _ => dRowS []) k (.slice va k vc)) := hN.gr.later ((below_allocD _ _).trans ((below_allocD _ _).mono (by simp)))
    have HSZ : Hid (w.heap.size + 1 + 1 ≤ wr.heap.size) := by show _ ≤ _; omega
    have NEW : Hid (((wr.alloc (.cells #[] 56)).alloc (.cells #[.slice (some ⟨wr.heap.size, 0, none⟩) 0 0] 85)).cell? ⟨wr.heap.size + 1, 0, none⟩ = some (.slice (some ⟨wr.heap.size, 0, none⟩) 0 0)) := by
      have h := heap_newD (wr.alloc (.cells #[] 56)) (.cells #[.slice (some ⟨wr.heap.size, 0, none⟩) 0 0] 85)
      rw [size_allocD] at h
      exact cell_at (o := 0) h rfl
    clear hN hpl
    go_wp2_with (at_builtin; go_must (refine wpList_grow rfl (.tmp 15) (.tmp 17) 26 rfl rfl SG2.out iR (.slice none 0 0) 24 Try.underlying26 HIR.out.1 HIR.out.2.1 HIR.out.2.2.1 HIR.out.2.2.2 rfl (Nat.lt_succ_self 0) ⟨wr.heap.size + 1, 0, none⟩ 1 rfl [.slice (some ⟨wr.heap.size, 0, none⟩) 0 0] rfl ?news ?one ?h63 ?hby ?hba ?hrd ?go))
    case news =>
      intro j u hj
      have : j = 0 := by
        have := (List.getElem?_eq_some_iff.1 hj).1
        simpa using this
      subst this
      simp only [List.getElem?_cons_zero, Option.some.injEq] at hj
      subst hj
      rw [Addr.add_mid]
      exact NEW.out
    case one => intro u hu; simp only [List.mem_singleton] at hu; subst hu; rfl
    case h63 => have := HM.out; unfold maxLen; omega
    case hby => have := HM.out; omega
    case hba => have := HSZ.out; simp; omega
    case hrd =>
      intro j hj
      obtain rfl : j = 0 := by omega
      exact ⟨_, rfl, rd_none _ _⟩
    case go =>
      intro a' c' w3 hsg hgr gg hg1 hg2
      obtain ⟨hst, o3⟩ := HN.out.step hsg hgr ⟨gg, hg1, by simpa using hg2⟩
      have t3 := cell_at (o := 0) o3 rfl
      have z3 := frozen_at 0 o3
      have HST := Lib.hid hst
      clear hst o3 hsg hgr hg1 hg2
      go_wp2_with fail
      go_roundw
      case rel => exact ⟨k + 1, by omega, by go_num, a', c', HST.out⟩
      case measure => simp [intOf]; omega
end Go.Proofs.Ytjfkfeiohcfdaaa
