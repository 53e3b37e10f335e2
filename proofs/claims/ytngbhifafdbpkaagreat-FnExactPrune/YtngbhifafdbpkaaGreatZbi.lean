import Derived.Test.YtngbhifafdbpkaaGreatZap
import Derived.Test.YtngbhifafdbpkaaGreatZal
import Derived.Test.YtngbhifafdbpkaaGreatZbg
import Derived.Test.YtngbhifafdbpkaaGreatZax
import Derived.Test.YtngbhifafdbpkaaGreatZbh
namespace Go.Proofs.YtngbhifafdbpkaaGreat
open Go.RowKit
set_option linter.unusedSimpArgs false
theorem below_grown {w w2 w3 : World} {m : Nat} {o : Option Nat} (h : Below m w w2) (hg : w2.grownBy w3 o) (ho : ∀ g, o = some g → m ≤ g) (hm : m ≤ w2.heap.size) : Below m w w3 :=
  h.trans ⟨hg.os, hg.tape, hg.output, hg.size, fun b hb => hg.block b (by omega) (fun e => by have := ho b e.symm; omega)⟩
end Go.Proofs.YtngbhifafdbpkaaGreat
namespace Go.Proofs.YtngbhifafdbpkaaGreat
open Go.RowKit
set_option linter.unusedSimpArgs false
theorem infoRw1 : ∃ i, Tryz.prog.info? 74 = some i ∧ i.zero = some (.slice none 0 0) ∧ i.size = 1 ∧ i.bytes = 24 := by
  have h : (Tryz.prog.info? 74).map (fun i => (i.zero, i.size, i.bytes)) = some (some (.slice none 0 0), 1, 24) := by kernel_rfl
  obtain ⟨i, hi, hzz⟩ := Option.map_eq_some_iff.1 h
  simp only [Prod.mk.injEq] at hzz
  exact ⟨i, hi, hzz⟩
theorem infoRw2 : ∃ i, Tryz.prog.info? 77 = some i ∧ i.zero = some (.agg #[.int .i64 0, .slice none 0 0]) ∧ i.size = 2 ∧ i.bytes = 32 := by
  have h : (Tryz.prog.info? 77).map (fun i => (i.zero, i.size, i.bytes)) = some (some (.agg #[.int .i64 0, .slice none 0 0]), 2, 32) := by kernel_rfl
  obtain ⟨i, hi, hzz⟩ := Option.map_eq_some_iff.1 h
  simp only [Prod.mk.injEq] at hzz
  exact ⟨i, hi, hzz⟩
def capQ (L : List (List RowV)) : Nat → Nat → Value → Prop := fun i _ u => ∃ a c, u = .slice a (L.getD i []).length c ∧ (L.getD i []).length ≤ c ∧ ∃ g, a = some ⟨g, 0, none⟩
end Go.Proofs.YtngbhifafdbpkaaGreat
namespace Go.Proofs.YtngbhifafdbpkaaGreat
open Go.RowKit
set_option linter.unusedSimpArgs false
theorem OG.cap {base : Nat} {W : World} {T : TypeId} {n : Nat} {d : Nat → Nat → D} {es : List OgE} {a : Option Addr} {m c : Nat} (h : OG base W T n d es (.slice a m c)) : es.length ≤ c := by
  rcases h.ow.2 with ⟨e, h0⟩ | ⟨g, cap, cur, e, hg, hh, r1, r2, r3, r4⟩
  · omega
  · simp only [Value.slice.injEq] at e
    omega
theorem OG.blk {base : Nat} {W : World} {T : TypeId} {n : Nat} {d : Nat → Nat → D} {es : List OgE} {a : Option Addr} {m c : Nat} (h : OG base W T n d es (.slice a m c)) (hg : ∃ g, (Value.slice a m c).ownBlock = some g) : ∃ g, a = some ⟨g, 0, none⟩ := by
  obtain ⟨g, hg⟩ := hg
  rcases h.ow.2 with ⟨e, h0⟩ | ⟨g2, cap, cur, e, -⟩
  · simp only [Value.slice.injEq] at e
    obtain ⟨rfl, -⟩ := e
    cases hg
  · simp only [Value.slice.injEq] at e
    exact ⟨g2, e.1⟩
structure GOo (w wr : World) (ty : TypeId) (bc rc : Array Value) (oc : Value → Array Value) (T : TypeId) (n : Nat) (d : Nat → Nat → D) (es : List OgE) (v : Value) : Prop where
  bx : wr.heap[w.heap.size]? = some (.cells bc ty)
  rv : wr.heap[w.heap.size + 1]? = some (.cells rc ty)
  ot : wr.heap[w.heap.size + 1 + 1 + 1]? = some (.cells (oc v) ty)
  gr : OG (w.heap.size + 1 + 1) wr T n d es v
  ge : ∀ e ∈ es, w.heap.size + 1 + 1 + 1 < e.s 0
  ne : v.ownBlock ≠ some (w.heap.size + 1 + 1 + 1)
  bel : Below w.heap.size w wr
theorem GOo.first (w : World) (ty : TypeId) (bc rc : Array Value) (oc : Value → Array Value) (T : TypeId) (n : Nat) (d : Nat → Nat → D) : GOo w ((((w.alloc (.cells bc ty)).alloc (.cells rc ty)).alloc (.cells #[] T)).alloc (.cells (oc (.slice (some ⟨w.heap.size + 1 + 1, 0, none⟩) 0 0)) ty)) ty bc rc oc T n d [] (.slice (some ⟨w.heap.size + 1 + 1, 0, none⟩) 0 0) := by
  have h3 : ∀ (V : World) (o : Obj) (b : Nat) (x : Obj), V.heap[b]? = some x → (V.alloc o).heap[b]? = some x := fun V o b x h => heap_keptD h (below_allocD _ _)
  have s1 := size_allocD w (.cells bc ty)
  have e1 := heap_newD (w.alloc (.cells bc ty)) (.cells rc ty)
  have s2 := size_allocD (w.alloc (.cells bc ty)) (.cells rc ty)
  have e2 := heap_newD ((w.alloc (.cells bc ty)).alloc (.cells rc ty)) (.cells #[] T)
  have s3 := size_allocD ((w.alloc (.cells bc ty)).alloc (.cells rc ty)) (.cells #[] T)
  have e3 := heap_newD (((w.alloc (.cells bc ty)).alloc (.cells rc ty)).alloc (.cells #[] T)) (.cells (oc (.slice (some ⟨w.heap.size + 1 + 1, 0, none⟩) 0 0)) ty)
  rw [s1] at e1 s2
  rw [s2] at e2 s3
  rw [s3] at e3
  exact ⟨h3 _ _ _ _ (h3 _ _ _ _ (h3 _ _ _ _ (heap_newD _ _))), h3 _ _ _ _ (h3 _ _ _ _ e1), e3, OG.start _ (Nat.le_refl _) (h3 _ _ _ _ e2), fun e he => absurd he (by simp), by simp [Value.ownBlock], ((((Below.refl _ _).alloc (Nat.le_refl _) _).alloc (by simp) _).alloc (by simp; omega) _).alloc (by simp; omega) _⟩
theorem GOo.step {w wr V w3 : World} {ty : TypeId} {bc rc : Array Value} {oc : Value → Array Value} {T : TypeId} {n : Nat} {d : Nat → Nat → D} {es : List OgE} {en : OgE} {v v' : Value} (h : GOo w wr ty bc rc oc T n d es v) (j : Nat) (hj : (oc v).setIfInBounds j v' = oc v') (hB2 : Below wr.heap.size wr V) (hs : OG (w.heap.size + 1 + 1) w3 T n d (es ++ [en]) v') (hen : wr.heap.size ≤ en.s 0) (hk : ∀ b, b < V.heap.size → v.ownBlock ≠ some b → w3.heap[b]? = V.heap[b]?) (hbl : Below (w.heap.size + 1 + 1) wr w3) (hl : ∀ g, v'.ownBlock = some g → v.ownBlock = some g ∨ V.heap.size ≤ g) :
    GOo w (w3.setCell ⟨w.heap.size + 1 + 1 + 1, j, none⟩ v') ty bc rc oc T n d (es ++ [en]) v' ∧ w3.heap[w.heap.size + 1 + 1 + 1]? = some (.cells (oc v) ty) := by
  have hp := (Array.getElem?_eq_some_iff.1 h.ot).1
  have ne' : v'.ownBlock ≠ some (w.heap.size + 1 + 1 + 1) := fun e => by
    rcases hl _ e with e | e
    · exact h.ne e
    · have := hB2.size; omega
  have o3 : w3.heap[w.heap.size + 1 + 1 + 1]? = some (.cells (oc v) ty) := by
    rw [hk _ (Nat.lt_of_lt_of_le hp hB2.size) h.ne, hB2.block _ hp]; exact h.ot
  have ge' : ∀ e ∈ es ++ [en], w.heap.size + 1 + 1 + 1 < e.s 0 := fun e he => by
    rcases List.mem_append.1 he with he | he
    · exact h.ge e he
    · obtain rfl := List.mem_singleton.1 he; omega
  refine ⟨⟨?_, ?_, by rw [heap_set j v' o3, hj], ?_, ge', ne', ?_⟩, o3⟩
  · rw [Below.heap_setCell _ ⟨w.heap.size + 1 + 1 + 1, j, none⟩ v' _ (by show w.heap.size ≠ w.heap.size + 1 + 1 + 1; omega), hbl.block _ (by omega)]; exact h.bx
  · rw [Below.heap_setCell _ ⟨w.heap.size + 1 + 1 + 1, j, none⟩ v' _ (by show w.heap.size + 1 ≠ w.heap.size + 1 + 1 + 1; omega), hbl.block _ (by omega)]; exact h.rv
  · exact hs.same (p := w.heap.size + 1 + 1 + 1) (by simp [World.setCell]) (fun b hb => Below.heap_setCell _ _ _ _ hb) ne' (fun e he hx => by have := ge' e he; omega)
  · exact (h.bel.trans (hbl.mono (by omega))).setCell (by show w.heap.size ≤ w.heap.size + 1 + 1 + 1; omega) _
def IRo (wr wq : World) (l : List RowV) (es : List OgE) (v : Value) : Prop := Below wr.heap.size wr wq ∧ OG wr.heap.size wq 77 2 (lsF dRow l) es v ∧ ∃ g, v.ownBlock = some g
theorem IRo.first (wr : World) (l : List RowV) : IRo wr (wr.alloc (.cells #[] 77)) l [] (.slice (some ⟨wr.heap.size, 0, none⟩) 0 0) := ⟨below_allocD _ _, OG.start _ (Nat.le_refl _) (heap_newD _ _), _, rfl⟩
def capO (L : List (List RowV)) (es : List OgE) : Prop := ∀ i (h : i < es.length), capQ L i 0 (es[i].vs 0)
theorem capO.push {L : List (List RowV)} {es : List OgE} {e : OgE} (h : capO L es) (he : capQ L es.length 0 (e.vs 0)) : capO L (es ++ [e]) := fun i hi => by
  by_cases h2 : i < es.length
  · rw [List.getElem_append_left h2]; exact h i h2
  · have : i = es.length := by rw [List.length_append, List.length_singleton] at hi; omega
    subst this
    rw [List.getElem_append_right (Nat.le_refl _)]
    simpa using he
abbrev OwU (w wr : World) (x : StV) (a : Option Addr) (c : Nat) (es : List OgE) (v : Value) : Prop := GOo w wr 32 #[.slice a x.tables.length c, .int .i64 x.next] #[.slice none 0 0, .int .i64 0] (fun v => #[v, .int .i64 x.next]) 74 1 (lsF cRowS x.tables) es v
set_option maxRecDepth 100000 in
set_option maxHeartbeats 12800000 in
theorem ownO (x : StV) (a : Option Addr) (c : Nat) (B : Nat → Prop) (w : World) (ho : (dRowSS x.tables).le 1048576) (hS : Rd w B (dRowSS x.tables) (.slice a x.tables.length c)) :
    Calls Tryz.prog 36 #[.agg #[.slice a x.tables.length c, .int .i64 x.next]] w fun e w' => ∃ es ra rc, e = .returned (.agg #[.slice ra x.tables.length rc, .int .i64 x.next]) ∧ es.length = x.tables.length ∧ OG w.heap.size w' 74 1 (lsF cRowS x.tables) es (.slice ra x.tables.length rc) ∧ capO x.tables es ∧ Below w.heap.size w w' := by
  obtain ⟨iR, hiR⟩ := infoRw1
  obtain ⟨iS, hiS⟩ := infoRw2
  have HIR := Lib.hid hiR
  have HIS := Lib.hid hiS
  have hl : x.tables.length ≤ 1048576 := (Ls_le.1 ho).2.1
  have HX : Hid (∀ i (h : i < x.tables.length) j, j < 1 → (cRowS x.tables[i] j).le 1048576) := (Ls_le.1 ho).2.2
  have HS : Hid (∀ W, Below w.heap.size w W → Rd W B (Ls 1 cRowS x.tables) (.slice a x.tables.length c)) := fun W h => Rd.later hS h
  have hf := GOo.first w 32 #[.slice a x.tables.length c, .int .i64 x.next] #[.slice none 0 0, .int .i64 0] (fun v => #[v, .int .i64 x.next]) 74 1 (lsF cRowS x.tables)
  have H0 := Lib.hid hf
  clear hiR hiS hS ho hf
  go_enter Tryz.func36, Tryz.ntmps36
  go_wp2_with fail
  go_loopw [4] (fun t wr => ∃ i : Nat, i ≤ x.tables.length ∧ t = .int .i64 i ∧ Hid (∃ es va vc, es.length = i ∧ OwU w wr x a c es (.slice va i vc) ∧ capO x.tables es)) (fun t _ => x.tables.length - (intOf t).toNat)
  case atStart => exact ⟨0, Nat.zero_le _, rfl, [], _, _, rfl, H0.out, fun i h => absurd h (by simp)⟩
  case round =>
    obtain ⟨i, hi, rfl, HW⟩ := hrel
    obtain ⟨es, va, vc, hel, hN, hcq⟩ := HW.out
    have HEL := Lib.hid hel
    have HCQ := Lib.hid hcq
    clear hel hcq
    have HN := Lib.hid hN
    clear HW
    have b0 := cell_at (o := 0) hN.bx rfl
    by_cases hlt : i < x.tables.length
    case neg =>
      have hkd : decide ((i : Int) < (x.tables.length : Int)) = false := by simp; omega
      have hkm : i = x.tables.length := by omega
      have HKM := Lib.hid hkm
      have t0 := cell_at (o := 0) hN.ot rfl
      have t1 := cell_at (o := 1) hN.ot rfl
      have r0 := cell_at (o := 0) hN.rv rfl
      have r1 := cell_at (o := 1) hN.rv rfl
      have g0 := frozen_at 0 hN.rv
      have g1 := frozen_at 1 hN.rv
      clear hN hkm
      go_wp2_with fail
      refine bodyPost_ret (v := .agg #[.slice va i vc, .int .i64 x.next]) (by simp [results, Tryz.results36, go_sem, *]) rfl ?_
      have hkm := HKM.out
      subst hkm
      have hfr : ∀ {W : World} (o : Nat) (u : Value), OG (w.heap.size + 1 + 1) W 74 1 (lsF cRowS x.tables) es (.slice va x.tables.length vc) → OG (w.heap.size + 1 + 1) (W.setCell ⟨w.heap.size + 1, o, none⟩ u) 74 1 (lsF cRowS x.tables) es (.slice va x.tables.length vc) := fun o u h => h.same (p := w.heap.size + 1) (by simp [World.setCell]) (fun b hb => Below.heap_setCell _ _ _ _ hb) (fun e => by have := (h.low e).1; omega) (fun e he hx => by have := HN.out.ge e he; omega)
      have h9 := hfr 1 (.int .i64 x.next) (hfr 0 (.slice va x.tables.length vc) HN.out.gr)
      exact ⟨es, va, vc, rfl, HEL.out, ⟨⟨by have := h9.ow.1; omega, h9.ow.2.imp id (fun ⟨g, cap, cur, e, hg, r⟩ => ⟨g, cap, cur, e, by omega, r⟩)⟩, fun k hk => by obtain ⟨k1, k2, k3, k4, k5⟩ := h9.el k hk; exact ⟨k1, k2, k3, by omega, k5⟩, h9.ds⟩, HCQ.out, (HN.out.bel.setCell (by simp <;> omega) _).setCell (by simp <;> omega) _⟩
    have hki : (i : Int) < (x.tables.length : Int) := by omega
    obtain ⟨b, off, rfl, -, hc⟩ := (HS.out _ hN.bel).things i hlt
    obtain ⟨u0, c0, r0⟩ := hc 0 (by omega)
    replace r0 : Rd wr B (dRowS x.tables[i]) u0 := r0
    obtain ⟨ra, rq, rfl⟩ := r0.lsSlice
    rw [Nat.mul_one] at c0
    replace c0 : wr.cell? ⟨b, off + i, none⟩ = _ := c0
    have HC : Hid (∀ W, Below wr.heap.size wr W → W.cell? ⟨b, off + i, none⟩ = some (.slice ra x.tables[i].length rq)) := fun W h => (h.cell (p := ⟨b, off + i, none⟩) (World.block_lt_of_cell? _ _ c0)).trans c0
    have RA : Hid (∀ W, Below wr.heap.size wr W → Rd W B (Ls 2 dRow x.tables[i]) (.slice ra x.tables[i].length rq)) := fun W h => Rd.later r0 h
    have HLL : Hid ((dRowS x.tables[i]).le 1048576) := HX.out i hlt 0 (by omega)
    have hll : x.tables[i].length ≤ 1048576 := (Ls_le.1 HLL.out).2.1
    have HFA : Hid (lsF cRowS x.tables i = cRowS x.tables[i]) := lsF_at hlt
    have HGD : Hid (x.tables.getD i [] = x.tables[i]) := getD_tab hlt
    have HI := Lib.hid (IRo.first wr x.tables[i])
    clear hc r0 hN
    generalize x.tables[i] = l at *
    go_wp2_with fail
    clear b0 c0
    generalize wr = wo at *
    go_loopw [5, 6] (fun v t wr => ∃ k : Nat, k ≤ l.length ∧ t = .int .i64 k ∧ ∃ qa qc, v = .slice qa k qc ∧ Hid (∃ qs : List OgE, qs.length = k ∧ IRo wo wr l qs (.slice qa k qc))) (fun _ t _ => l.length - (intOf t).toNat)
    case atStart => exact ⟨0, Nat.zero_le _, rfl, _, _, rfl, [], rfl, HI.out⟩
    case round =>
      obtain ⟨k, hk, rfl, qa, qc, rfl, HQ0⟩ := hrel
      obtain ⟨qs, hqs, hQ⟩ := HQ0.out
      have HQS := Lib.hid hqs
      have HQ := Lib.hid hQ
      clear HQ0 hqs hQ
      have b0 := cell_at (o := 0) (heap_keptD HN.out.bx HQ.out.1) rfl
      have c0 := HC.out _ HQ.out.1
      by_cases hkl : k < l.length
      case neg =>
        have hkd : decide ((k : Int) < (l.length : Int)) = false := by simp; omega
        have hkm : k = l.length := by omega
        subst hkm
        have t0 := cell_at (o := 0) (heap_keptD HN.out.ot HQ.out.1) rfl
        obtain ⟨W2, hW2⟩ : ∃ W2, W2 = wr.alloc (.cells #[.slice qa l.length qc] 74) := ⟨_, rfl⟩
        have bW2 : Below wo.heap.size wo W2 := by rw [hW2]; exact HQ.out.1.alloc HQ.out.1.size _
        have hn9 : W2.heap[wr.heap.size]? = some (.cells #[.slice qa l.length qc] 74) := by rw [hW2]; exact heap_newD _ _
        have hot := (Array.getElem?_eq_some_iff.1 HN.out.ot).1
        have hes : es.length = i := HEL.out
        have hqs : qs.length = l.length := HQS.out
        have hown : Own wr (dRowS l) (fun c => wo.heap.size ≤ c ∧ c < wr.heap.size) (.slice qa l.length qc) := by
          have h := HQ.out.2.1.own (by omega)
          rw [hqs] at h
          exact h
        have hk3 : Below wr.heap.size wr W2 := by rw [hW2]; exact below_allocD _ _
        have hcap : l.length ≤ qc := by rw [← hqs]; exact HQ.out.2.1.cap
        obtain ⟨a', c', W4, hr10, hsg, hkp, hbl, -, hgl⟩ := HN.out.gr.push (P := Tryz.prog) (by omega) bW2 30 30 iR (.slice none 0 0) 24 Tryz.underlying30 HIR.out.1 HIR.out.2.1 HIR.out.2.2.1 HIR.out.2.2.2 rfl ⟨fun _ => .slice qa l.length qc, fun j => if j = 0 then wo.heap.size else wr.heap.size⟩ ⟨wr.heap.size, 0, none⟩ 1 (fun j hj => by
            obtain rfl : j = 0 := by omega
            rw [Addr.add_mid]
            exact cell_at (o := 0) hn9 rfl) (fun _ _ => rfl) (Nat.le_refl _) (fun j k h1 h2 => by
            have h3 : wo.heap.size ≤ wr.heap.size := HQ.out.1.size
            show (if j = 0 then wo.heap.size else wr.heap.size) ≤ (if k = 0 then wo.heap.size else wr.heap.size)
            split <;> split <;> omega) (by show wr.heap.size ≤ W2.heap.size; rw [hW2]; simp) (fun j hj => by
            obtain rfl : j = 0 := by omega
            rw [hes, HFA.out]
            exact hown.later hk3) (by have := HN.out.bel.size; omega) (by unfold maxLen; omega) (by omega)
        obtain ⟨hst, o4⟩ := HN.out.step 0 rfl bW2 hsg (Nat.le_refl _) hkp hbl hgl
        rw [hes] at hr10 hst
        have hst2 : ∃ es' : List OgE, es'.length = i + 1 ∧ OwU w (W4.setCell ⟨w.heap.size + 1 + 1 + 1, 0, none⟩ (.slice a' (i + 1) c')) x (some ⟨b, off, none⟩) c es' (.slice a' (i + 1) c') ∧ capO x.tables es' := ⟨_, by rw [List.length_append, hes]; rfl, hst, HCQ.out.push (by rw [hes]; exact ⟨qa, qc, by rw [HGD.out], by rw [HGD.out]; exact hcap, HQ.out.2.1.blk HQ.out.2.2⟩)⟩
        have t4 := cell_at (o := 0) o4 rfl
        have z4 := frozen_at 0 o4
        have HST := Lib.hid hst2
        have RUN := Lib.hid hr10
        rw [hW2] at RUN
        clear hst hst2 hr10 hsg hkp hbl hgl o4 bW2 hn9 hot hW2 hes hqs hown hk3 hcap
        go_wp2_with (at_builtin; go_must (refine wpList_append_is rfl (.tmp 42) (.tmp 44) 30 rfl _ _ rfl rfl _ _ RUN.out ?_))
        go_roundw
        case rel => obtain ⟨es', h1, h2, h3⟩ := HST.out; exact ⟨i + 1, by omega, by go_num, es', a', c', h1, h2, h3⟩
        case measure => simp [intOf]; omega
      have hk1 : (k : Int) < (l.length : Int) := by omega
      obtain ⟨rb, roff, rfl, -, hcc⟩ := (RA.out _ HQ.out.1).things k hkl
      obtain ⟨u0, e0, q0⟩ := hcc 0 (by omega)
      obtain rfl : u0 = .int .i64 l[k].id := q0
      obtain ⟨u1, e1, q1⟩ := hcc 1 (by omega)
      replace q1 : Rd wr B (dAtomSS l[k].cells) u1 := q1
      obtain ⟨sa, sq, rfl⟩ := q1.lsSlice
      replace e0 : wr.cell? ⟨rb, roff + k * 2, none⟩ = _ := e0
      replace e1 : wr.cell? ⟨rb, roff + k * 2 + 1, none⟩ = _ := e1
      have CR := Lib.hid (ownRowO l[k] sa sq B wr ((Ls_le.1 HLL.out).2.2 k hkl 1 (by omega)) q1)
      have HFK : Hid (lsF dRow l k = dRow l[k]) := lsF_at hkl
      clear q1 hcc
      generalize l[k] = y at *
      go_wp2_with fail
      refine CR.out.mono ?_
      rintro e w1 ⟨pa, pc, rfl, hown, hB1⟩
      obtain ⟨W2, hW2⟩ : ∃ W2, W2 = w1.alloc (.cells #[.int .i64 y.id, .slice pa y.cells.length pc] 77) := ⟨_, rfl⟩
      have bW2 : Below wr.heap.size wr W2 := by rw [hW2]; exact hB1.alloc hB1.size _
      have hn9 : W2.heap[w1.heap.size]? = some (.cells #[.int .i64 y.id, .slice pa y.cells.length pc] 77) := by rw [hW2]; exact heap_newD _ _
      have hk3 : Below w1.heap.size w1 W2 := by rw [hW2]; exact below_allocD _ _
      have hqs : qs.length = k := HQS.out
      obtain ⟨a', c', W4, hr10, hsg, -, hbl, -, hgl⟩ := HQ.out.2.1.push (P := Tryz.prog) (by omega) bW2 74 74 iS (.agg #[.int .i64 0, .slice none 0 0]) 32 Tryz.underlying74 HIS.out.1 HIS.out.2.1 HIS.out.2.2.1 HIS.out.2.2.2 rfl ⟨fun j => if j = 0 then .int .i64 y.id else .slice pa y.cells.length pc, fun j => if j ≤ 1 then wr.heap.size else w1.heap.size⟩ ⟨w1.heap.size, 0, none⟩ 1 (fun j hj => by
          rw [Addr.add_mid, Nat.zero_add]
          refine cell_at (o := j) hn9 ?_
          rcases (by omega : j = 0 ∨ j = 1) with rfl | rfl
          · rfl
          · rfl) (fun j hj => by
          rcases (by omega : j = 0 ∨ j = 1) with rfl | rfl <;> rfl) (Nat.le_refl _) (fun j k h1 h2 => by
          have h3 : wr.heap.size ≤ w1.heap.size := hB1.size
          show (if j ≤ 1 then wr.heap.size else w1.heap.size) ≤ (if k ≤ 1 then wr.heap.size else w1.heap.size)
          split <;> split <;> omega) (by show w1.heap.size ≤ W2.heap.size; rw [hW2]; simp) (fun j hj => by
          rw [hqs, HFK.out]
          rcases (by omega : j = 0 ∨ j = 1) with rfl | rfl
          · rfl
          · exact hown.later hk3) HQ.out.1.size (by unfold maxLen; omega) (by omega)
      rw [hqs] at hr10 hsg hgl
      have hblk : ∃ g, Value.ownBlock (.slice a' (k + 1) c') = some g := by
        rcases hsg.ow.2 with ⟨-, h0⟩ | ⟨g, cap, cur, e, -⟩
        · rw [List.length_append, List.length_singleton] at h0; omega
        · rw [e]; exact ⟨g, rfl⟩
      have HST : Hid (∃ qs' : List OgE, qs'.length = k + 1 ∧ IRo wo W4 l qs' (.slice a' (k + 1) c')) := ⟨_, by rw [List.length_append, hqs]; rfl, HQ.out.1.trans hbl, hsg, hblk⟩
      have RUN := Lib.hid hr10
      rw [hW2] at RUN
      clear hr10 hsg hbl hgl bW2 hn9 hk3 hown hB1 hW2 e0 e1 b0 c0 hqs hblk
      go_wp2_with (at_builtin; go_must (refine wpList_append_is rfl (.tmp 29) (.tmp 39) 74 rfl _ _ rfl rfl _ _ RUN.out ?_))
      go_roundw
      case rel => exact ⟨k + 1, by omega, by go_num, a', c', rfl, HST.out⟩
      case measure => simp [intOf]; omega
end Go.Proofs.YtngbhifafdbpkaaGreat
