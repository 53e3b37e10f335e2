import Derived.Test.YtnegmpdllbbnhaaZap
import Derived.Test.YtnegmpdllbbnhaaZan
import Derived.Test.YtnegmpdllbbnhaaZak
namespace Go.Proofs.Ytnegmpdllbbnhaa
open Go.RowKit
set_option linter.unusedSimpArgs false
theorem infoRw1 : ∃ i, Try.prog.info? 26 = some i ∧ i.zero = some (.slice none 0 0) ∧ i.size = 1 ∧ i.bytes = 24 := by
  have h : (Try.prog.info? 26).map (fun i => (i.zero, i.size, i.bytes)) = some (some (.slice none 0 0), 1, 24) := by kernel_rfl
  obtain ⟨i, hi, hzz⟩ := Option.map_eq_some_iff.1 h
  simp only [Prod.mk.injEq] at hzz
  exact ⟨i, hi, hzz⟩
theorem infoRw2 : ∃ i, Try.prog.info? 51 = some i ∧ i.zero = some (.agg #[.int .i64 0, .slice none 0 0]) ∧ i.size = 2 ∧ i.bytes = 32 := by
  have h : (Try.prog.info? 51).map (fun i => (i.zero, i.size, i.bytes)) = some (some (.agg #[.int .i64 0, .slice none 0 0]), 2, 32) := by kernel_rfl
  obtain ⟨i, hi, hzz⟩ := Option.map_eq_some_iff.1 h
  simp only [Prod.mk.injEq] at hzz
  exact ⟨i, hi, hzz⟩
def IRw (wr wq : World) (l : List RowV) (k : Nat) (v : Value) : Prop := Below wr.heap.size wr wq ∧ SG wq wr.heap.size (fun c => wr.heap.size ≤ c) 51 2 (lsF dRow l) k v ∧ ∃ g, v.ownBlock = some g
theorem IRw.first (wr : World) (l : List RowV) : IRw wr (wr.alloc (.cells #[] 51)) l 0 (.slice (some ⟨wr.heap.size, 0, none⟩) 0 0) := ⟨below_allocD _ _, SG.start (Nat.le_refl _) (heap_newD _ _), _, rfl⟩
def capQ (L : List (List RowV)) : Nat → Nat → Value → Prop := fun i _ u => ∃ a c, u = .slice a (L.getD i []).length c ∧ (L.getD i []).length ≤ c ∧ ∃ g, a = some ⟨g, 0, none⟩
abbrev OwT (w wr : World) (x : StV) (a : Option Addr) (c k : Nat) (v : Value) : Prop := GSq w wr 46 #[.slice a x.tables.length c, .int .i64 x.next] #[.slice none 0 0, .int .i64 0] (fun v => #[v, .int .i64 x.next]) 26 1 (lsF cRowS x.tables) (capQ x.tables) k v
set_option maxRecDepth 100000 in
set_option maxHeartbeats 12800000 in
theorem ownS (x : StV) (a : Option Addr) (c : Nat) (B : Nat → Prop) (w : World) (ho : (dRowSS x.tables).le 1048576) (hS : Rd w B (dRowSS x.tables) (.slice a x.tables.length c)) :
    Calls Try.prog 18 #[.agg #[.slice a x.tables.length c, .int .i64 x.next]] w fun e w' => ∃ ra rc, e = .returned (.agg #[.slice ra x.tables.length rc, .int .i64 x.next]) ∧ SQ w' w.heap.size (fun b => w.heap.size ≤ b) 26 1 (lsF cRowS x.tables) (capQ x.tables) x.tables.length (.slice ra x.tables.length rc) ∧ Below w.heap.size w w' := by
  obtain ⟨iR, hiR⟩ := infoRw1
  obtain ⟨iS, hiS⟩ := infoRw2
  have HIR := Lib.hid hiR
  have HIS := Lib.hid hiS
  have hl : x.tables.length ≤ 1048576 := (Ls_le.1 ho).2.1
  have HX : Hid (∀ i (h : i < x.tables.length) j, j < 1 → (cRowS x.tables[i] j).le 1048576) := (Ls_le.1 ho).2.2
  have HS : Hid (∀ W, Below w.heap.size w W → Rd W B (Ls 1 cRowS x.tables) (.slice a x.tables.length c)) := fun W h => Rd.later hS h
  have hf := GSq.first w 46 #[.slice a x.tables.length c, .int .i64 x.next] #[.slice none 0 0, .int .i64 0] (fun v => #[v, .int .i64 x.next]) 26 1 (lsF cRowS x.tables) (capQ x.tables)
  have H0 := Lib.hid hf
  clear hiR hiS hS ho hf
  go_enter Try.func18, Try.ntmps18
  go_wp2_with fail
  go_loopw [4] (fun t wr => ∃ i : Nat, i ≤ x.tables.length ∧ t = .int .i64 i ∧ Hid (∃ va vc, OwT w wr x a c i (.slice va i vc))) (fun t _ => x.tables.length - (intOf t).toNat)
  case atStart => exact ⟨0, Nat.zero_le _, rfl, _, _, H0.out⟩
  case round =>
    obtain ⟨i, hi, rfl, HW⟩ := hrel
    obtain ⟨va, vc, hN⟩ := HW.out
    have HN := Lib.hid hN
    clear HW
    have b0 := cell_at (o := 0) hN.bx rfl
    by_cases hlt : i < x.tables.length
    case neg =>
      have hkd : decide ((i : Int) < (x.tables.length : Int)) = false := by simp; omega
      have hkm : i = x.tables.length := by omega
      have HKM := Lib.hid hkm
      have t0 := cell_at (o := 0) hN.ot rfl
      have t1 := cell_at (o := 1) hN.ot rfl
      have r0 := cell_at (o := 0) hN.rv rfl
      have r1 := cell_at (o := 1) hN.rv rfl
      have g0 := frozen_at 0 hN.rv
      have g1 := frozen_at 1 hN.rv
      clear hN hkm
      go_wp2_with fail
      refine bodyPost_ret (v := .agg #[.slice va i vc, .int .i64 x.next]) (by simp [results, Try.results18, go_sem, *]) rfl ?_
      have hkm := HKM.out
      subst hkm
      have hgr := HN.out.gr
      refine ⟨va, vc, rfl, ?_, (HN.out.bel.setCell (by simp <;> omega) _).setCell (by simp <;> omega) _⟩
      have hne : ∀ {W : World}, SQ W (w.heap.size + 1 + 1) (fun c => w.heap.size + 1 + 1 ≤ c ∧ c ≠ w.heap.size + 1 + 1 + 1) 26 1 (lsF cRowS x.tables) (capQ x.tables) x.tables.length (.slice va x.tables.length vc) → ∀ o u, SQ (W.setCell ⟨w.heap.size + 1, o, none⟩ u) (w.heap.size + 1 + 1) (fun c => w.heap.size + 1 + 1 ≤ c ∧ c ≠ w.heap.size + 1 + 1 + 1) 26 1 (lsF cRowS x.tables) (capQ x.tables) x.tables.length (.slice va x.tables.length vc) := fun h o u => h.same (p := w.heap.size + 1) (by simp [World.setCell]) (fun b hb => Below.heap_setCell _ _ _ _ hb) (fun e => by have := (h.low e).1; omega) (fun c hc => by have := hc.1; omega)
      exact (hne (hne hgr _ _) _ _).wide (by omega) (fun c hc => by have := hc.1; omega)
    have hki : (i : Int) < (x.tables.length : Int) := by omega
    obtain ⟨b, off, rfl, -, hc⟩ := (HS.out _ hN.bel).things i hlt
    obtain ⟨u0, c0, r0⟩ := hc 0 (by omega)
    replace r0 : Rd wr B (dRowS x.tables[i]) u0 := r0
    obtain ⟨ra, rq, rfl⟩ := r0.lsSlice
    rw [Nat.mul_one] at c0
    replace c0 : wr.cell? ⟨b, off + i, none⟩ = _ := c0
    have HC : Hid (∀ W, Below wr.heap.size wr W → W.cell? ⟨b, off + i, none⟩ = some (.slice ra x.tables[i].length rq)) := fun W h => (h.cell (p := ⟨b, off + i, none⟩) (World.block_lt_of_cell? _ _ c0)).trans c0
    have RA : Hid (∀ W, Below wr.heap.size wr W → Rd W B (Ls 2 dRow x.tables[i]) (.slice ra x.tables[i].length rq)) := fun W h => Rd.later r0 h
    have HLL : Hid ((dRowS x.tables[i]).le 1048576) := HX.out i hlt 0 (by omega)
    have hll : x.tables[i].length ≤ 1048576 := (Ls_le.1 HLL.out).2.1
    have HFA : Hid (lsF cRowS x.tables i = cRowS x.tables[i]) := lsF_at hlt
    have HGD : Hid (x.tables.getD i [] = x.tables[i]) := getD_tab hlt
    have HI := Lib.hid (IRw.first wr x.tables[i])
    clear hc r0 hN
    generalize x.tables[i] = l at *
    go_wp2_with fail
    clear b0 c0
    generalize wr = wo at *
    go_loopw [5, 6] (fun v t wr => ∃ k : Nat, k ≤ l.length ∧ t = .int .i64 k ∧ ∃ qa qc, v = .slice qa k qc ∧ Hid (IRw wo wr l k (.slice qa k qc))) (fun _ t _ => l.length - (intOf t).toNat)
    case atStart => exact ⟨0, Nat.zero_le _, rfl, _, _, rfl, HI.out⟩
    case round =>
      obtain ⟨k, hk, rfl, qa, qc, rfl, HQ⟩ := hrel
      have b0 := cell_at (o := 0) (heap_keptD HN.out.bx HQ.out.1) rfl
      have c0 := HC.out _ HQ.out.1
      by_cases hkl : k < l.length
      case neg =>
        have hkd : decide ((k : Int) < (l.length : Int)) = false := by simp; omega
        have hkm : k = l.length := by omega
        subst hkm
        have t0 := cell_at (o := 0) (heap_keptD HN.out.ot HQ.out.1) rfl
        obtain ⟨W2, hW2⟩ : ∃ W2, W2 = wr.alloc (.cells #[.slice qa l.length qc] 26) := ⟨_, rfl⟩
        have bW2 : Below wo.heap.size wo W2 := by rw [hW2]; exact HQ.out.1.alloc HQ.out.1.size _
        have hn9 : W2.heap[wr.heap.size]? = some (.cells #[.slice qa l.length qc] 26) := by rw [hW2]; exact heap_newD _ _
        have hot := (Array.getElem?_eq_some_iff.1 HN.out.ot).1
        obtain ⟨a', c', W4, hr10, hsg, hgr, hgl⟩ := (HN.out.gr.later bW2).push (P := Try.prog) 44 44 iR (.slice none 0 0) 24 Try.underlying44 HIR.out.1 HIR.out.2.1 HIR.out.2.2.1 HIR.out.2.2.2 rfl (by omega) ⟨wr.heap.size, 0, none⟩ 1 [.slice qa l.length qc] rfl (fun j u hj => by
            have : j = 0 := by
              have := (List.getElem?_eq_some_iff.1 hj).1
              simpa using this
            subst this
            simp only [List.getElem?_cons_zero, Option.some.injEq] at hj
            subst hj
            rw [Addr.add_mid]
            exact cell_at (o := 0) hn9 rfl) (fun u hu => by simp only [List.mem_singleton] at hu; subst hu; rfl) (by unfold maxLen; omega) (by omega) (by have := bW2.size; omega) (fun j hj => by
            obtain rfl : j = 0 := by omega
            refine ⟨_, rfl, ⟨qa, qc, by rw [HGD.out], by rw [HGD.out]; exact HQ.out.2.1.cap, HQ.out.2.1.blk HQ.out.2.2⟩, ?_⟩
            rw [HFA.out]
            have hk3 : Below wr.heap.size wr W2 := by rw [hW2]; exact below_allocD _ _
            have hrd : Rd wr (fun c => wo.heap.size ≤ c ∧ c < wr.heap.size) (dRowS l) (.slice qa l.length qc) := HQ.out.2.1.rd (by omega) (fun g hg => (HQ.out.2.1.low hg).1)
            refine (hrd.later hk3).mono (fun q hq => ?_)
            have h1 := hq.1; have h2 := hq.2; have h3 := hk3.size
            refine ⟨⟨fun e => ?_, by omega⟩, by omega, by omega⟩
            have := (HN.out.gr.low e).2
            omega)
        obtain ⟨hst, o4⟩ := HN.out.step 0 rfl bW2 hsg hgr hgl
        have t4 := cell_at (o := 0) o4 rfl
        have z4 := frozen_at 0 o4
        have HST := Lib.hid hst
        have RUN := Lib.hid hr10
        rw [hW2] at RUN
        clear hst hr10 hsg hgr hgl o4 bW2 hn9 hot hW2
        go_wp2_with (at_builtin; go_must (refine wpList_append_is rfl (.tmp 42) (.tmp 44) 44 rfl _ _ rfl rfl _ _ RUN.out ?_))
        go_roundw
        case rel => exact ⟨i + 1, by omega, by go_num, a', c', HST.out⟩
        case measure => simp [intOf]; omega
      have hk1 : (k : Int) < (l.length : Int) := by omega
      obtain ⟨rb, roff, rfl, -, hcc⟩ := (RA.out _ HQ.out.1).things k hkl
      obtain ⟨u0, e0, q0⟩ := hcc 0 (by omega)
      obtain rfl : u0 = .int .i64 l[k].id := q0
      obtain ⟨u1, e1, q1⟩ := hcc 1 (by omega)
      replace q1 : Rd wr B (dAtomSS l[k].cells) u1 := q1
      obtain ⟨sa, sq, rfl⟩ := q1.lsSlice
      replace e0 : wr.cell? ⟨rb, roff + k * 2, none⟩ = _ := e0
      replace e1 : wr.cell? ⟨rb, roff + k * 2 + 1, none⟩ = _ := e1
      have CR := Lib.hid (ownRowS l[k] sa sq B wr ((Ls_le.1 HLL.out).2.2 k hkl 1 (by omega)) q1)
      have HFK : Hid (lsF dRow l k = dRow l[k]) := lsF_at hkl
      clear q1 hcc
      generalize l[k] = y at *
      go_wp2_with fail
      refine CR.out.mono ?_
      rintro e w1 ⟨pa, pc, rfl, hown, hB1⟩
      obtain ⟨W2, hW2⟩ : ∃ W2, W2 = w1.alloc (.cells #[.int .i64 y.id, .slice pa y.cells.length pc] 51) := ⟨_, rfl⟩
      have bW2 : Below wr.heap.size wr W2 := by rw [hW2]; exact hB1.alloc hB1.size _
      have hn9 : W2.heap[w1.heap.size]? = some (.cells #[.int .i64 y.id, .slice pa y.cells.length pc] 51) := by rw [hW2]; exact heap_newD _ _
      have hk3 : Below w1.heap.size w1 W2 := by rw [hW2]; exact below_allocD _ _
      obtain ⟨a', c', W4, hr10, hsg, hgr, hgl⟩ := (HQ.out.2.1.later bW2).push (P := Try.prog) 26 26 iS (.agg #[.int .i64 0, .slice none 0 0]) 32 Try.underlying26 HIS.out.1 HIS.out.2.1 HIS.out.2.2.1 HIS.out.2.2.2 rfl (by omega) ⟨w1.heap.size, 0, none⟩ 1 [.int .i64 y.id, .slice pa y.cells.length pc] rfl (fun j u hj => by
          have hj2 : j = 0 ∨ j = 1 := by
            have := (List.getElem?_eq_some_iff.1 hj).1
            simp only [List.length_cons, List.length_nil] at this
            omega
          rw [Addr.add_mid, Nat.zero_add]
          refine cell_at (o := j) hn9 ?_
          rcases hj2 with rfl | rfl
          · exact hj
          · exact hj) (fun u hu => by simp only [List.mem_cons, List.not_mem_nil, or_false] at hu; rcases hu with rfl | rfl <;> rfl) (by unfold maxLen; omega) (by omega) (by have := bW2.size; have := HQ.out.1.size; omega) (fun j hj => by
          rw [HFK.out]
          rcases (by omega : j = 0 ∨ j = 1) with rfl | rfl
          · exact ⟨_, rfl, rfl⟩
          · refine ⟨_, rfl, ?_⟩
            refine (hown.later hk3).mono (fun q hq => ?_)
            have h1 := hq.1; have h2 := hq.2; have h3 := hk3.size; have h4 := HQ.out.1.size
            refine ⟨⟨fun e => ?_, by omega⟩, by omega⟩
            have := (HQ.out.2.1.low e).2
            omega)
      have HST : Hid (IRw wo W4 l (k + 1) (.slice a' (k + 1) c')) := ⟨below_grown (HQ.out.1.trans (bW2.mono HQ.out.1.size)) hgr (fun g e => (HQ.out.2.1.low e).1) (Nat.le_trans HQ.out.1.size bW2.size), hsg, hgl.imp (fun _ h => h.1)⟩
      have RUN := Lib.hid hr10
      rw [hW2] at RUN
      clear hr10 hsg hgr hgl bW2 hn9 hk3 hown hB1 hW2 e0 e1 b0 c0
      go_wp2_with (at_builtin; go_must (refine wpList_append_is rfl (.tmp 29) (.tmp 39) 26 rfl _ _ rfl rfl _ _ RUN.out ?_))
      go_roundw
      case rel => exact ⟨k + 1, by omega, by go_num, a', c', rfl, HST.out⟩
      case measure => simp [intOf]; omega
end Go.Proofs.Ytnegmpdllbbnhaa
