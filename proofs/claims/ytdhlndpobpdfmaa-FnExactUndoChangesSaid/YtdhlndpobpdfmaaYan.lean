import Derived.Test.YtdhlndpobpdfmaaYal
import Derived.Test.YtdhlndpobpdfmaaYam
import Derived.Deep.RegionHeld3
import Derived.Test.YtdhlndpobpdfmaaYTk
namespace Go.Proofs.Ytdhlndpobpdfmaa
open Go.RowKit
set_option linter.unusedSimpArgs false
theorem step_append_is {P : Program} {ops : Array Oper} {o : Oper} {a : Act} {w : World} {K : Act → World → Prop} {Q : Exit → Act → World → Prop} {E : Prop} (hgd : o.guard = none) (s x : Operand) (t : TypeId)
    (ho : o.op = .call { callee := .builtin .append, args := #[s, x], argTypes := #[t, t] }) (v y : Value) (hs : a.eval s = v) (hx : a.eval x = y) (v' : Value) (w' : World) (hr : (Builtin.append_ #[t, t] o.type #[v, y]).run P w = .ok v' w')
    (hk : K (a.put o.dst v') w') : if Region.wanted o (yielded ops a.tmps) = true then Oper.wp P o a w K Q else E := by
  rw [if_pos (by simp [Region.wanted, hgd])]
  unfold Oper.wp execOp
  simp only [ho, resolve, invoke, builtin, Sem.run_bind, Sem.run_pure, Result.andThen_ok, List.map_toArray, List.map_cons, List.map_nil, hs, hx, hr]
  exact hk
theorem app_emptyA (l : List At) (g : Nat) (a : Option Addr) (c : Nat) (B : Nat → Prop) (w : World) (ty : TypeId) (hl : l.length ≤ 1048576) (h : Rd w B (dAtomS l) (.slice a l.length c)) :
    ∃ a' c' w', (Builtin.append_ #[87, 87] ty #[.slice (some ⟨g, 0, none⟩) 0 0, .slice a l.length c]).run Try.prog w = .ok (.slice a' l.length c') w' ∧ Rd w' (fun b => w.heap.size ≤ b ∧ b < w'.heap.size) (dAtomS l) (.slice a' l.length c') ∧ Below w.heap.size w w' := by
  obtain ⟨i, hi, hz, hs, hby⟩ := infoAtD
  by_cases h0 : l.length = 0
  · refine ⟨some ⟨g, 0, none⟩, 0, w, ?_, ⟨_, 0, rfl, .inl h0⟩, Below.refl _ _⟩
    rw [h0]
    cases a with
    | none => simp [Builtin.append_, run_underlying Try.underlying87, sizeOf, typeInfo, hi, Builtin.lenOf, Builtin.firstCells, loadCells, loadCellsFrom, storeCells]
    | some ad =>
      have hf := run_firstCells_some (P := Try.prog) w 3 0 ad 0 c [] rfl (fun j u h => by simp at h)
      simp [Builtin.append_, run_underlying Try.underlying87, sizeOf, typeInfo, zeroValue, hi, hz, hs, Builtin.lenOf, storeCells, hf]
  · obtain ⟨b, off, ha, -, -⟩ := Rd.things (d := dAtom) (n := 3) h 0 (by omega)
    subst ha
    have hc : ∀ m, ∃ u, m < l.length * 3 → w.cell? ⟨b, off + m, none⟩ = some u ∧ Rd w B (lsF dAtom l (m / 3) (m % 3)) u := fun m => by
      by_cases hm : m < l.length * 3
      · obtain ⟨u, hu, hr⟩ := Rd.spotT (d := dAtom) (n := 3) h (i := m / 3) (j := m % 3) (by omega) (by omega)
        rw [Nat.add_assoc, Nat.div_add_mod'] at hu
        exact ⟨u, fun _ => ⟨hu, by rw [lsF_at (by omega)]; exact hr⟩⟩
      · exact ⟨undef, fun h => absurd h hm⟩
    obtain ⟨g2, hg⟩ := Classical.axiomOfChoice hc
    have hnl : ((List.range (l.length * 3)).map g2).length = l.length * i.size := by rw [hs]; simp
    have hr := run_append_grow (P := Try.prog) w 87 ty 102 i _ Try.underlying87 hi hz ⟨g, 0, none⟩ 0 0 [] (by simp) (fun j u hj => by simp at hj) ⟨b, off, none⟩ l.length c ((List.range (l.length * 3)).map g2) hnl (fun j u hj => by
      rw [List.getElem?_map, Option.map_eq_some_iff] at hj
      obtain ⟨m, hm, rfl⟩ := hj
      obtain ⟨hlt, rfl⟩ := List.getElem?_eq_some_iff.1 hm
      simp only [List.length_range] at hlt
      simp only [List.getElem_range]
      rw [Addr.add_mid]
      exact (hg j hlt).1) (by omega) (by omega) (by rw [Nat.zero_add, nextslicecap_zero (by omega), hby]; omega)
    simp only [Nat.zero_add] at hr
    refine ⟨_, _, _, hr, ?_, ((Below.refl _ _).drew).alloc (Nat.le_refl _) _⟩
    have hnew := heap_newD w.drew (.cells ((([] : List Value).toArray ++ ((List.range (l.length * 3)).map g2).toArray) ++ Builtin.zeroCells (Value.agg #[.int .i64 0, .int .i64 0, .string ⟨#[]⟩]).cells (grownCap w l.length 0 102 - l.length)) 102)
    refine ⟨_, _, rfl, .inr ⟨w.heap.size, 0, rfl, ⟨Nat.le_refl _, by simp⟩, by omega, fun q j hq hj => ?_⟩⟩
    have hlt : q * 3 + j < l.length * 3 := by omega
    have h1 := hg (q * 3 + j) hlt
    refine ⟨g2 (q * 3 + j), ?_, ?_⟩
    · rw [Nat.zero_add]
      refine cell_at (b := w.heap.size) hnew ?_
      rw [Array.getElem?_append_left (by simpa using hlt)]
      simp [hlt]
    · have h2 := h1.2
      rw [show (q * 3 + j) / 3 = q by omega, show (q * 3 + j) % 3 = j by omega] at h2
      have h3 : Own w (lsF dAtom l q j) (fun _ => True) (g2 (q * 3 + j)) := Own.of_flat (by rw [lsF_at hq]; exact atom_flat _ _) h2
      exact (Own.flat (w' := _) (B' := _) (by rw [lsF_at hq]; exact atom_flat _ _) h3).rd'
theorem infoAs : ∃ i, Try.prog.info? 87 = some i ∧ i.zero = some (.slice none 0 0) ∧ i.size = 1 ∧ i.bytes = 24 := by
  have h : (Try.prog.info? 87).map (fun i => (i.zero, i.size, i.bytes)) = some (some (.slice none 0 0), 1, 24) := by kernel_rfl
  obtain ⟨i, hi, hzz⟩ := Option.map_eq_some_iff.1 h
  simp only [Prod.mk.injEq] at hzz
  exact ⟨i, hi, hzz⟩
structure OSt (w wr : World) (x : RowV) (a : Option Addr) (c k : Nat) (v : Value) : Prop where
  bx : wr.heap[w.heap.size]? = some (.cells #[.int .i64 x.id, .slice a x.cells.length c] 53)
  rv : wr.heap[w.heap.size + 1]? = some (.cells #[.int .i64 0, .slice none 0 0] 53)
  ot : wr.heap[w.heap.size + 1 + 1 + 1]? = some (.cells #[.int .i64 x.id, v] 53)
  gr : SG wr (w.heap.size + 1 + 1) (fun c => w.heap.size + 1 + 1 ≤ c ∧ c ≠ w.heap.size + 1 + 1 + 1) 87 1 (lsF cAtomS x.cells) k v
  ne : v.ownBlock ≠ some (w.heap.size + 1 + 1 + 1)
  lo : ∀ g, v.ownBlock = some g → w.heap.size + 1 + 1 ≤ g ∧ g < wr.heap.size
  bel : Below w.heap.size w wr
theorem OSt.first (w : World) (x : RowV) (a : Option Addr) (c : Nat) : OSt w ((((w.alloc (.cells #[.int .i64 x.id, .slice a x.cells.length c] 53)).alloc (.cells #[.int .i64 0, .slice none 0 0] 53)).alloc (.cells #[] 87)).alloc (.cells #[.int .i64 x.id, .slice (some ⟨w.heap.size + 1 + 1, 0, none⟩) 0 0] 53)) x a c 0 (.slice (some ⟨w.heap.size + 1 + 1, 0, none⟩) 0 0) := by
  have h3 : ∀ (V : World) (o : Obj) (b : Nat) (x : Obj), V.heap[b]? = some x → (V.alloc o).heap[b]? = some x := fun V o b x h => heap_keptD h (below_allocD _ _)
  have s1 := size_allocD w (.cells #[.int .i64 x.id, .slice a x.cells.length c] 53)
  have e1 := heap_newD (w.alloc (.cells #[.int .i64 x.id, .slice a x.cells.length c] 53)) (.cells #[.int .i64 0, .slice none 0 0] 53)
  have s2 := size_allocD (w.alloc (.cells #[.int .i64 x.id, .slice a x.cells.length c] 53)) (.cells #[.int .i64 0, .slice none 0 0] 53)
  have e2 := heap_newD ((w.alloc (.cells #[.int .i64 x.id, .slice a x.cells.length c] 53)).alloc (.cells #[.int .i64 0, .slice none 0 0] 53)) (.cells #[] 87)
  have s3 := size_allocD ((w.alloc (.cells #[.int .i64 x.id, .slice a x.cells.length c] 53)).alloc (.cells #[.int .i64 0, .slice none 0 0] 53)) (.cells #[] 87)
  have e3 := heap_newD (((w.alloc (.cells #[.int .i64 x.id, .slice a x.cells.length c] 53)).alloc (.cells #[.int .i64 0, .slice none 0 0] 53)).alloc (.cells #[] 87)) (.cells #[.int .i64 x.id, .slice (some ⟨w.heap.size + 1 + 1, 0, none⟩) 0 0] 53)
  rw [s1] at e1 s2
  rw [s2] at e2 s3
  rw [s3] at e3
  refine ⟨h3 _ _ _ _ (h3 _ _ _ _ (h3 _ _ _ _ (heap_newD _ _))), h3 _ _ _ _ (h3 _ _ _ _ e1), e3, SG.start (Nat.le_refl _) (h3 _ _ _ _ e2), ?_, fun g hg => ?_, ?_⟩
  · simp [Value.ownBlock]
  · simp only [Value.ownBlock, Option.some.injEq] at hg
    subst hg
    refine ⟨Nat.le_refl _, ?_⟩
    have := size_allocD (((w.alloc (.cells #[.int .i64 x.id, .slice a x.cells.length c] 53)).alloc (.cells #[.int .i64 0, .slice none 0 0] 53)).alloc (.cells #[] 87)) (.cells #[.int .i64 x.id, .slice (some ⟨w.heap.size + 1 + 1, 0, none⟩) 0 0] 53)
    omega
  · exact ((((Below.refl _ _).alloc (Nat.le_refl _) _).alloc (by simp) _).alloc (by simp; omega) _).alloc (by simp; omega) _
theorem OSt.step {w wr V w3 : World} {x : RowV} {a : Option Addr} {c k : Nat} {v v' : Value} (h : OSt w wr x a c k v) (hB2 : Below wr.heap.size wr V) (hs : SG w3 (w.heap.size + 1 + 1) (fun c => w.heap.size + 1 + 1 ≤ c ∧ c ≠ w.heap.size + 1 + 1 + 1) 87 1 (lsF cAtomS x.cells) (k + 1) v') (hg : V.grownBy w3 v.ownBlock) (hl : ∃ g, v'.ownBlock = some g ∧ (v.ownBlock = some g ∨ V.heap.size ≤ g)) (hlt : ∀ g, v'.ownBlock = some g → g < w3.heap.size) :
    OSt w (w3.setCell ⟨w.heap.size + 1 + 1 + 1, 1, none⟩ v') x a c (k + 1) v' ∧ w3.heap[w.heap.size + 1 + 1 + 1]? = some (.cells #[.int .i64 x.id, v] 53) := by
  have keep : ∀ b y, wr.heap[b]? = some y → v.ownBlock ≠ some b → w3.heap[b]? = some y := fun b y hx hn => by
    have hlt := (Array.getElem?_eq_some_iff.1 hx).1
    rw [hg.block b (Nat.lt_of_lt_of_le hlt hB2.size) (fun e => hn e.symm), hB2.block b hlt]; exact hx
  have lo := h.lo
  have n0 : v.ownBlock ≠ some w.heap.size := fun e => by have := (lo _ e).1; omega
  have n1 : v.ownBlock ≠ some (w.heap.size + 1) := fun e => by have := (lo _ e).1; omega
  obtain ⟨g, hgv, hgg⟩ := hl
  have hp := (Array.getElem?_eq_some_iff.1 h.ot).1
  have hgp : g ≠ w.heap.size + 1 + 1 + 1 := by
    rcases hgg with e | e
    · intro e'; subst e'; exact h.ne e
    · have := hB2.size; omega
  have o3 := keep _ _ h.ot h.ne
  refine ⟨⟨?_, ?_, heap_set 1 v' o3, ?_, ?_, fun q hq => ?_, ?_⟩, o3⟩
  · rw [Below.heap_setCell _ ⟨w.heap.size + 1 + 1 + 1, 1, none⟩ v' _ (by show w.heap.size ≠ w.heap.size + 1 + 1 + 1; omega)]; exact keep _ _ h.bx n0
  · rw [Below.heap_setCell _ ⟨w.heap.size + 1 + 1 + 1, 1, none⟩ v' _ (by show w.heap.size + 1 ≠ w.heap.size + 1 + 1 + 1; omega)]; exact keep _ _ h.rv n1
  · exact hs.same (p := w.heap.size + 1 + 1 + 1) (by simp [World.setCell]) (fun b hb => Below.heap_setCell _ _ _ _ hb) (by rw [hgv]; intro e; simp at e; exact hgp e) (fun c hc => hc.2)
  · rw [hgv]; intro e; simp at e; exact hgp e
  · have h2 := hlt q hq
    rw [hgv] at hq
    simp only [Option.some.injEq] at hq
    subst hq
    refine ⟨?_, by simpa [World.setCell] using h2⟩
    rcases hgg with e | e
    · exact (lo _ e).1
    · have := hB2.size; omega
  · have hb3 : Below w.heap.size w w3 := h.bel.trans ⟨hg.os.trans hB2.os, hg.tape.trans hB2.tape, hg.output.trans hB2.output, Nat.le_trans hB2.size hg.size, fun b hb => by
      have hlt : b < wr.heap.size := Nat.lt_of_lt_of_le hb h.bel.size
      rw [hg.block b (Nat.lt_of_lt_of_le hlt hB2.size) (fun e => by have := (lo _ e.symm).1; omega), hB2.block b hlt]⟩
    exact hb3.setCell (by show w.heap.size ≤ w.heap.size + 1 + 1 + 1; omega) _
set_option maxRecDepth 100000 in
set_option maxHeartbeats 12800000 in
theorem ownRowS (x : RowV) (a : Option Addr) (c : Nat) (B : Nat → Prop) (w : World) (ho : (dAtomSS x.cells).le 1048576) (hS : Rd w B (dAtomSS x.cells) (.slice a x.cells.length c)) :
    Calls Try.prog 58 #[.agg #[.int .i64 x.id, .slice a x.cells.length c]] w fun e w' => ∃ ra rc, e = .returned (.agg #[.int .i64 x.id, .slice ra x.cells.length rc]) ∧ Rd w' (fun b => w.heap.size ≤ b ∧ b < w'.heap.size) (dAtomSS x.cells) (.slice ra x.cells.length rc) ∧ Below w.heap.size w w' := by
  obtain ⟨iA, hiA⟩ := infoAs
  have HIA := Lib.hid hiA
  have hl : x.cells.length ≤ 1048576 := (Ls_le.1 ho).2.1
  have HX : Hid (∀ i (h : i < x.cells.length) j, j < 1 → (cAtomS x.cells[i] j).le 1048576) := (Ls_le.1 ho).2.2
  have HS : Hid (∀ W, Below w.heap.size w W → Rd W B (Ls 1 cAtomS x.cells) (.slice a x.cells.length c)) := fun W h => Rd.later hS h
  have hb1 := boxD 53 w #[.int .i64 x.id, .slice a x.cells.length c]
  have H0 := Lib.hid (OSt.first w x a c)
  have HL := Lib.hid hl
  clear hiA hS ho hb1
  go_enter Try.func58, Try.ntmps58
  go_wp2_with fail
  go_loopw [4] (fun t wr => ∃ k : Nat, k ≤ x.cells.length ∧ t = .int .i64 k ∧ Hid (∃ va vc, OSt w wr x a c k (.slice va k vc))) (fun t _ => x.cells.length - (intOf t).toNat)
  case atStart => exact ⟨0, Nat.zero_le _, rfl, _, _, H0.out⟩
  case round =>
    obtain ⟨k, hk, rfl, HW⟩ := hrel
    obtain ⟨va, vc, hN⟩ := HW.out
    have HN := Lib.hid hN
    clear HW
    have b1 := cell_at (o := 1) hN.bx rfl
    have t0 := cell_at (o := 0) hN.ot rfl
    have t1 := cell_at (o := 1) hN.ot rfl
    by_cases hlt : k < x.cells.length
    case neg =>
      have hkd : decide ((k : Int) < (x.cells.length : Int)) = false := by simp; omega
      have hkm : k = x.cells.length := by omega
      have HKM := Lib.hid hkm
      have r0 := cell_at (o := 0) hN.rv rfl
      have r1 := cell_at (o := 1) hN.rv rfl
      have g0 := frozen_at 0 hN.rv
      have g1 := frozen_at 1 hN.rv
      clear hN hkm
      go_wp2_with fail
      refine bodyPost_ret (v := .agg #[.int .i64 x.id, .slice va k vc]) (by simp [results, Try.results58, go_sem, *]) rfl ?_
      have hkm := HKM.out
      subst hkm
      have hfr : Frm (· = w.heap.size + 1) wr ((wr.setCell ⟨w.heap.size + 1, 0, none⟩ (.int .i64 x.id)).setCell ⟨w.heap.size + 1, 1, none⟩ (.slice va x.cells.length vc)) := (frm_set _ _ _ _).trans (frm_set _ _ _ _)
      refine ⟨va, vc, rfl, ?_, (HN.out.bel.setCell (by simp <;> omega) _).setCell (by simp <;> omega) _⟩
      have hr := HN.out.gr.rd (by omega) (fun g hg => ⟨(HN.out.lo g hg).1, fun e => HN.out.ne (by rw [hg, e])⟩)
      exact (hr.frm hfr (fun b hb e => by have h1 := hb.1.1; have e' : b = w.heap.size + 1 := e; omega)).mono (fun b hb => ⟨by have := hb.1.1; omega, by simpa using hb.2⟩)
    have hki : (k : Int) < (x.cells.length : Int) := by omega
    obtain ⟨b, off, rfl, -, hc⟩ := (HS.out _ hN.bel).things k hlt
    obtain ⟨u0, c0, r0⟩ := hc 0 (by omega)
    replace r0 : Rd wr B (dAtomS x.cells[k]) u0 := r0
    obtain ⟨sa, sq, rfl⟩ := r0.lsSlice
    rw [Nat.mul_one] at c0
    replace c0 : wr.cell? ⟨b, off + k, none⟩ = _ := c0
    have HFA : lsF cAtomS x.cells k = cAtomS x.cells[k] := lsF_at hlt
    have hsl : x.cells[k].length ≤ 1048576 := (Ls_le.1 (HX.out k hlt 0 (by omega))).2.1
    -- the worlds of the region
    obtain ⟨W1, hW1⟩ : ∃ W1, W1 = (wr.alloc (.cells #[] 102)).drew := ⟨_, rfl⟩
    have bW0 : Below wr.heap.size wr wr.drew := (Below.refl _ _).drew
    have bW1 : Below wr.heap.size wr W1 := by rw [hW1]; exact ((Below.refl _ _).alloc (Nat.le_refl _) _).drew
    obtain ⟨a8, c8, W2, hr8, hrd8, hB8⟩ := app_emptyA x.cells[k] wr.heap.size sa sq B W1 87 hsl (r0.later bW1)
    have bW2 : Below wr.heap.size wr W2 := bW1.trans (hB8.mono bW1.size)
    obtain ⟨W3, hW3⟩ : ∃ W3, W3 = W2.alloc (.cells #[.slice a8 x.cells[k].length c8] 87) := ⟨_, rfl⟩
    have bW3 : Below wr.heap.size wr W3 := by rw [hW3]; exact bW2.alloc bW2.size _
    have hn9 : W3.heap[W2.heap.size]? = some (.cells #[.slice a8 x.cells[k].length c8] 87) := by rw [hW3]; exact heap_newD _ _
    have hpl := (Array.getElem?_eq_some_iff.1 hN.ot).1
    have hW1s : W1.heap.size = wr.heap.size + 1 := by rw [hW1]; simp
    obtain ⟨a', c', W4, hr10, hsg, hgr, hgl⟩ := (hN.gr.later bW3).push (P := Try.prog) 51 51 iA (.slice none 0 0) 24 Try.underlying51 HIA.out.1 HIA.out.2.1 HIA.out.2.2.1 HIA.out.2.2.2 rfl (by omega) ⟨W2.heap.size, 0, none⟩ 1 [.slice a8 x.cells[k].length c8] rfl (fun j u hj => by
        have : j = 0 := by
          have := (List.getElem?_eq_some_iff.1 hj).1
          simpa using this
        subst this
        simp only [List.getElem?_cons_zero, Option.some.injEq] at hj
        subst hj
        rw [Addr.add_mid]
        exact cell_at (o := 0) hn9 rfl) (fun u hu => by simp only [List.mem_singleton] at hu; subst hu; rfl) (by unfold maxLen; omega) (by omega) (by have := bW3.size; omega) (fun j hj => by
        obtain rfl : j = 0 := by omega
        refine ⟨_, rfl, ?_⟩
        rw [HFA]
        have hk3 : Below W2.heap.size W2 W3 := by rw [hW3]; exact below_allocD _ _
        refine (hrd8.later hk3).mono (fun q hq => ?_)
        have h1 := hq.1; have h2 := hq.2; have h3 := hk3.size; have h4 := hN.lo
        refine ⟨⟨fun e => ?_, by omega⟩, by omega, by omega⟩
        have := (h4 q e).2
        omega)
    have hlt4 : ∀ g, Value.ownBlock (.slice a' (k + 1) c') = some g → g < W4.heap.size := fun g hg => by
      obtain ⟨g', hg', hh⟩ := hgl
      rw [hg] at hg'
      simp only [Option.some.injEq] at hg'
      subst hg'
      obtain ⟨xs, hor, -⟩ := hsg
      rcases hor.2 with ⟨e, -⟩ | ⟨g2, cap, cur, e, -, hh2, -⟩
      · rw [e] at hg; cases hg
      · rw [e] at hg
        simp only [Value.ownBlock, Option.some.injEq] at hg
        subst hg
        exact (Array.getElem?_eq_some_iff.1 hh2).1
    obtain ⟨hst, o4⟩ := hN.step bW3 hsg hgr hgl hlt4
    have t4 := cell_at (o := 1) o4 rfl
    have z4 := frozen_at 1 o4
    have bel4 : Below w.heap.size w W4 := by
      have h := hN.bel.trans (bW3.mono hN.bel.size)
      exact h.trans ⟨hgr.os, hgr.tape, hgr.output, hgr.size, fun q hq => hgr.block q (Nat.lt_of_lt_of_le hq h.size) (fun e => by have := (hN.lo q e.symm).1; omega)⟩
    have bel5 : Below w.heap.size w (W4.setCell ⟨w.heap.size + 1 + 1 + 1, 1, none⟩ (.slice a' (k + 1) c')) := bel4.setCell (by show w.heap.size ≤ w.heap.size + 1 + 1 + 1; omega) _
    -- what stays
    have bx4 : W4.heap[w.heap.size]? = some (.cells #[.int .i64 x.id, .slice (some ⟨b, off, none⟩) x.cells.length c] 53) := by
      have h0 := heap_keptD hN.bx bW3
      rw [hgr.block _ (Array.getElem?_eq_some_iff.1 h0).1 (fun e => by have := (hN.lo _ e.symm).1; omega)]; exact h0
    have bx5 : (W4.setCell ⟨w.heap.size + 1 + 1 + 1, 1, none⟩ (.slice a' (k + 1) c')).heap[w.heap.size]? = some (.cells #[.int .i64 x.id, .slice (some ⟨b, off, none⟩) x.cells.length c] 53) := by
      rw [Below.heap_setCell _ ⟨w.heap.size + 1 + 1 + 1, 1, none⟩ _ _ (by show w.heap.size ≠ w.heap.size + 1 + 1 + 1; omega)]; exact bx4
    have CE : Hid (∀ W, (Below w.heap.size w W ∧ W.heap[w.heap.size]? = some (.cells #[.int .i64 x.id, .slice (some ⟨b, off, none⟩) x.cells.length c] 53)) → W.cell? ⟨w.heap.size, 1, none⟩ = some (.slice (some ⟨b, off, none⟩) x.cells.length c) ∧ W.cell? ⟨b, off + k, none⟩ = some (.slice sa x.cells[k].length sq)) := fun W h => ⟨cell_at (o := 1) h.2 rfl, by
      obtain ⟨u, e, r⟩ := (HS.out W h.1).spotT hlt (j := 0) (by omega)
      rw [Nat.mul_one, Nat.add_zero] at e
      obtain ⟨u2, e2, -⟩ := (HS.out w (Below.refl _ _)).spotT hlt (j := 0) (by omega)
      rw [Nat.mul_one, Nat.add_zero] at e2
      have hlb : b < w.heap.size := World.block_lt_of_cell? w ⟨b, off + k, none⟩ e2
      have h1 := h.1.cell (p := ⟨b, off + k, none⟩) hlb
      have h2 := hN.bel.cell (p := ⟨b, off + k, none⟩) hlb
      rw [h1, ← h2, c0]⟩
    have BW0 : Hid (Below w.heap.size w wr.drew ∧ wr.drew.heap[w.heap.size]? = _) := ⟨hN.bel.drew, hN.bx⟩
    have BW1 : Hid (Below w.heap.size w W1 ∧ W1.heap[w.heap.size]? = _) := ⟨hN.bel.trans (bW1.mono hN.bel.size), heap_keptD hN.bx bW1⟩
    have BW2 : Hid (Below w.heap.size w W2 ∧ W2.heap[w.heap.size]? = _) := ⟨hN.bel.trans (bW2.mono hN.bel.size), heap_keptD hN.bx bW2⟩
    have BW3 : Hid (Below w.heap.size w W3 ∧ W3.heap[w.heap.size]? = _) := ⟨hN.bel.trans (bW3.mono hN.bel.size), heap_keptD hN.bx bW3⟩
    have BW4 : Hid (Below w.heap.size w W4 ∧ W4.heap[w.heap.size]? = _) := ⟨bel4, bx4⟩
    have BW5 : Hid (Below w.heap.size w (W4.setCell ⟨w.heap.size + 1 + 1 + 1, 1, none⟩ (.slice a' (k + 1) c')) ∧ (W4.setCell ⟨w.heap.size + 1 + 1 + 1, 1, none⟩ (.slice a' (k + 1) c')).heap[w.heap.size]? = _) := ⟨bel5, bx5⟩
    have p0 : wr.drew.cell? ⟨w.heap.size + 1 + 1 + 1, 1, none⟩ = some (.slice va k vc) := t1
    have p1 := cell_at (o := 1) (heap_keptD hN.ot bW1) rfl
    have p2 := cell_at (o := 1) (heap_keptD hN.ot bW2) rfl
    have p3 := cell_at (o := 1) (heap_keptD hN.ot bW3) rfl
    have HST := Lib.hid hst
    have RUN8 := Lib.hid hr8
    have RUN10 := Lib.hid hr10
    have HW1 := Lib.hid hW1
    have HW3 := Lib.hid hW3
    rw [hW3] at p3 RUN10 BW3
    rw [hW1] at p1 RUN8 BW1
    clear hst hr8 hr10 hN hsg hgr hgl hlt4 o4 bel4 bel5 bx4 bx5 bW0 bW1 bW2 bW3 hB8 hrd8 hn9 hpl hW1s hc r0 HFA hsl
    clear hW1 hW3
    generalize x.cells[k] = s at *
    go_wp2_with fail
    refine wp_region_held_drew (S := (fun W => W.cell? ⟨w.heap.size, 1, none⟩ = some (.slice (some ⟨b, off, none⟩) x.cells.length c) ∧ W.cell? ⟨b, off + k, none⟩ = some (.slice sa s.length sq))) (by kernel_rfl) ?_ (fun hHeld => ?_)
    · (exact CE.out _ (by first | exact BW0.out | exact BW1.out | exact BW2.out | exact BW3.out | exact BW4.out | exact BW5.out))
    refine wpAnyH_take (i := 0) (v := ?_) rfl (by kernel_rfl) (by kernel_rfl) (by kernel_rfl) (fun _ _ _ h => h) (Or.inl ⟨by kernel_rfl, ?_⟩) (by assumption) ?_
    rotate_left
    · (intro wS hSw; (try dsimp only at hSw); go_simp <;> with_reducible rfl)
    try simp only [Act.put, tkS]
    refine wpAnyH_take (i := 3) (v := ?_) rfl (by kernel_rfl) (by kernel_rfl) (by kernel_rfl) (fun _ _ _ h => h) (Or.inl ⟨by kernel_rfl, ?_⟩) (by assumption) ?_
    rotate_left
    · (intro wS hSw; (try dsimp only at hSw); go_simp <;> with_reducible rfl)
    try simp only [Act.put, tkS]
    refine wpAnyH_take (i := 4) (v := ?_) rfl (by kernel_rfl) (by kernel_rfl) (by kernel_rfl) (fun _ _ _ h => h) (Or.inl ⟨by kernel_rfl, ?_⟩) (by assumption) ?_
    rotate_left
    · (intro wS hSw; (try dsimp only at hSw); go_simp <;> with_reducible rfl)
    try simp only [Act.put, tkS]
    refine wpAnyH_take (i := 5) (v := ?_) rfl (by kernel_rfl) (by kernel_rfl) (by kernel_rfl) (fun _ _ _ h => h) (Or.inl ⟨by kernel_rfl, ?_⟩) (by assumption) ?_
    rotate_left
    · (intro wS hSw; (try dsimp only at hSw); go_simp <;> with_reducible rfl)
    try simp only [Act.put, tkS]
    refine wpAnyH_take (i := 6) (v := ?_) rfl (by kernel_rfl) (by kernel_rfl) (by kernel_rfl) (fun _ _ _ h => h) (Or.inl ⟨by kernel_rfl, ?_⟩) (by assumption) ?_
    rotate_left
    · (intro wS hSw; (try dsimp only at hSw); go_simp <;> with_reducible rfl)
    try simp only [Act.put, tkS]
    refine wpAnyH_take (i := 7) (v := ?_) rfl (by kernel_rfl) (by kernel_rfl) (by kernel_rfl) (fun _ _ _ h => h) (Or.inl ⟨by kernel_rfl, ?_⟩) (by assumption) ?_
    rotate_left
    · (intro wS hSw; (try dsimp only at hSw); go_simp <;> with_reducible rfl)
    try simp only [Act.put, tkS]
    refine wpAnyH_ready (rs := [1, 2]) (by kernel_rfl) (by simp) (AllReadyH.cons rfl (fun K hK => ?_) (AllReadyH.cons rfl (fun K hK => ?_) AllReadyH.nil))
    ·
      go_simp
      refine hK.out _ _ ?_ (fun hHeld => ?_)
      · (exact CE.out _ (by first | exact BW0.out | exact BW1.out | exact BW2.out | exact BW3.out | exact BW4.out | exact BW5.out))
      clear hK K
      try simp only [Act.put, tkS]
      refine wpAnyH_ready (rs := [2]) (by kernel_rfl) (by simp) (AllReadyH.cons rfl (fun K hK => ?_) AllReadyH.nil)
      go_simp
      refine hK.out _ _ ?_ (fun hHeld => ?_)
      · (exact CE.out _ (by first | exact BW0.out | exact BW1.out | exact BW2.out | exact BW3.out | exact BW4.out | exact BW5.out))
      clear hK K
      try simp only [Act.put, tkS]
      refine wpAnyH_ready (rs := [8]) (by kernel_rfl) (by simp) (AllReadyH.cons rfl (fun K hK => ?_) AllReadyH.nil)
      refine step_append_is rfl (.tmp 18) (.tmp 23) 87 rfl _ _ (by rfl) (by rfl) _ _ RUN8.out ?_
      refine hK.out _ _ ?_ (fun hHeld => ?_)
      · (exact CE.out _ (by first | exact BW0.out | exact BW1.out | exact BW2.out | exact BW3.out | exact BW4.out | exact BW5.out))
      clear hK K
      try simp only [Act.put, tkS]
      refine wpAnyH_ready (rs := [9]) (by kernel_rfl) (by simp) (AllReadyH.cons rfl (fun K hK => ?_) AllReadyH.nil)
      go_simp
      refine hK.out _ _ ?_ (fun hHeld => ?_)
      · (exact CE.out _ (by first | exact BW0.out | exact BW1.out | exact BW2.out | exact BW3.out | exact BW4.out | exact BW5.out))
      clear hK K
      try simp only [Act.put, tkS]
      refine wpAnyH_ready (rs := [10]) (by kernel_rfl) (by simp) (AllReadyH.cons rfl (fun K hK => ?_) AllReadyH.nil)
      refine step_append_is rfl (.tmp 17) (.tmp 25) 51 rfl _ _ (by rfl) (by rfl) _ _ RUN10.out ?_
      refine hK.out _ _ ?_ (fun hHeld => ?_)
      · (exact CE.out _ (by first | exact BW0.out | exact BW1.out | exact BW2.out | exact BW3.out | exact BW4.out | exact BW5.out))
      clear hK K
      try simp only [Act.put, tkS]
      refine wpAnyH_take (i := 11) (v := ?_) rfl (by kernel_rfl) (by kernel_rfl) (by kernel_rfl) (fun _ _ _ h => h) (Or.inl ⟨by kernel_rfl, ?_⟩) (by assumption) ?_
      rotate_left
      · (intro wS hSw; (try dsimp only at hSw); go_simp <;> with_reducible rfl)
      try simp only [Act.put, tkS]
      refine wpAnyH_ready (rs := [12]) (by kernel_rfl) (by simp) (AllReadyH.cons rfl (fun K hK => ?_) AllReadyH.nil)
      go_simp
      refine hK.out _ _ ?_ (fun hHeld => ?_)
      · (exact CE.out _ (by first | exact BW0.out | exact BW1.out | exact BW2.out | exact BW3.out | exact BW4.out | exact BW5.out))
      clear hK K
      try simp only [Act.put, tkS]
      refine wpAnyH_done (by kernel_rfl) ?_ _
      go_wp2_with fail
      go_roundw
      case rel => exact ⟨k + 1, by omega, by go_num, a', c', HST.out⟩
      case measure => simp [intOf]; omega
    ·
      go_simp
      refine hK.out _ _ ?_ (fun hHeld => ?_)
      · (exact CE.out _ (by first | exact BW0.out | exact BW1.out | exact BW2.out | exact BW3.out | exact BW4.out | exact BW5.out))
      clear hK K
      try simp only [Act.put, tkS]
      refine wpAnyH_ready (rs := [1, 8]) (by kernel_rfl) (by simp) (AllReadyH.cons rfl (fun K hK => ?_) (AllReadyH.cons rfl (fun K hK => ?_) AllReadyH.nil))
      ·
        go_simp
        refine hK.out _ _ ?_ (fun hHeld => ?_)
        · (exact CE.out _ (by first | exact BW0.out | exact BW1.out | exact BW2.out | exact BW3.out | exact BW4.out | exact BW5.out))
        clear hK K
        try simp only [Act.put, tkS]
        refine wpAnyH_ready (rs := [8]) (by kernel_rfl) (by simp) (AllReadyH.cons rfl (fun K hK => ?_) AllReadyH.nil)
        refine step_append_is rfl (.tmp 18) (.tmp 23) 87 rfl _ _ (by rfl) (by rfl) _ _ RUN8.out ?_
        refine hK.out _ _ ?_ (fun hHeld => ?_)
        · (exact CE.out _ (by first | exact BW0.out | exact BW1.out | exact BW2.out | exact BW3.out | exact BW4.out | exact BW5.out))
        clear hK K
        try simp only [Act.put, tkS]
        refine wpAnyH_ready (rs := [9]) (by kernel_rfl) (by simp) (AllReadyH.cons rfl (fun K hK => ?_) AllReadyH.nil)
        go_simp
        refine hK.out _ _ ?_ (fun hHeld => ?_)
        · (exact CE.out _ (by first | exact BW0.out | exact BW1.out | exact BW2.out | exact BW3.out | exact BW4.out | exact BW5.out))
        clear hK K
        try simp only [Act.put, tkS]
        refine wpAnyH_ready (rs := [10]) (by kernel_rfl) (by simp) (AllReadyH.cons rfl (fun K hK => ?_) AllReadyH.nil)
        refine step_append_is rfl (.tmp 17) (.tmp 25) 51 rfl _ _ (by rfl) (by rfl) _ _ RUN10.out ?_
        refine hK.out _ _ ?_ (fun hHeld => ?_)
        · (exact CE.out _ (by first | exact BW0.out | exact BW1.out | exact BW2.out | exact BW3.out | exact BW4.out | exact BW5.out))
        clear hK K
        try simp only [Act.put, tkS]
        refine wpAnyH_take (i := 11) (v := ?_) rfl (by kernel_rfl) (by kernel_rfl) (by kernel_rfl) (fun _ _ _ h => h) (Or.inl ⟨by kernel_rfl, ?_⟩) (by assumption) ?_
        rotate_left
        · (intro wS hSw; (try dsimp only at hSw); go_simp <;> with_reducible rfl)
        try simp only [Act.put, tkS]
        refine wpAnyH_ready (rs := [12]) (by kernel_rfl) (by simp) (AllReadyH.cons rfl (fun K hK => ?_) AllReadyH.nil)
        go_simp
        refine hK.out _ _ ?_ (fun hHeld => ?_)
        · (exact CE.out _ (by first | exact BW0.out | exact BW1.out | exact BW2.out | exact BW3.out | exact BW4.out | exact BW5.out))
        clear hK K
        try simp only [Act.put, tkS]
        refine wpAnyH_done (by kernel_rfl) ?_ _
        go_wp2_with fail
        go_roundw
        case rel => exact ⟨k + 1, by omega, by go_num, a', c', HST.out⟩
        case measure => simp [intOf]; omega
      ·
        refine step_append_is rfl (.tmp 18) (.tmp 23) 87 rfl _ _ (by rfl) (by rfl) _ _ RUN8.out ?_
        refine hK.out _ _ ?_ (fun hHeld => ?_)
        · (exact CE.out _ (by first | exact BW0.out | exact BW1.out | exact BW2.out | exact BW3.out | exact BW4.out | exact BW5.out))
        clear hK K
        try simp only [Act.put, tkS]
        refine wpAnyH_ready (rs := [1, 9]) (by kernel_rfl) (by simp) (AllReadyH.cons rfl (fun K hK => ?_) (AllReadyH.cons rfl (fun K hK => ?_) AllReadyH.nil))
        ·
          go_simp
          refine hK.out _ _ ?_ (fun hHeld => ?_)
          · (exact CE.out _ (by first | exact BW0.out | exact BW1.out | exact BW2.out | exact BW3.out | exact BW4.out | exact BW5.out))
          clear hK K
          try simp only [Act.put, tkS]
          refine wpAnyH_ready (rs := [9]) (by kernel_rfl) (by simp) (AllReadyH.cons rfl (fun K hK => ?_) AllReadyH.nil)
          go_simp
          refine hK.out _ _ ?_ (fun hHeld => ?_)
          · (exact CE.out _ (by first | exact BW0.out | exact BW1.out | exact BW2.out | exact BW3.out | exact BW4.out | exact BW5.out))
          clear hK K
          try simp only [Act.put, tkS]
          refine wpAnyH_ready (rs := [10]) (by kernel_rfl) (by simp) (AllReadyH.cons rfl (fun K hK => ?_) AllReadyH.nil)
          refine step_append_is rfl (.tmp 17) (.tmp 25) 51 rfl _ _ (by rfl) (by rfl) _ _ RUN10.out ?_
          refine hK.out _ _ ?_ (fun hHeld => ?_)
          · (exact CE.out _ (by first | exact BW0.out | exact BW1.out | exact BW2.out | exact BW3.out | exact BW4.out | exact BW5.out))
          clear hK K
          try simp only [Act.put, tkS]
          refine wpAnyH_take (i := 11) (v := ?_) rfl (by kernel_rfl) (by kernel_rfl) (by kernel_rfl) (fun _ _ _ h => h) (Or.inl ⟨by kernel_rfl, ?_⟩) (by assumption) ?_
          rotate_left
          · (intro wS hSw; (try dsimp only at hSw); go_simp <;> with_reducible rfl)
          try simp only [Act.put, tkS]
          refine wpAnyH_ready (rs := [12]) (by kernel_rfl) (by simp) (AllReadyH.cons rfl (fun K hK => ?_) AllReadyH.nil)
          go_simp
          refine hK.out _ _ ?_ (fun hHeld => ?_)
          · (exact CE.out _ (by first | exact BW0.out | exact BW1.out | exact BW2.out | exact BW3.out | exact BW4.out | exact BW5.out))
          clear hK K
          try simp only [Act.put, tkS]
          refine wpAnyH_done (by kernel_rfl) ?_ _
          go_wp2_with fail
          go_roundw
          case rel => exact ⟨k + 1, by omega, by go_num, a', c', HST.out⟩
          case measure => simp [intOf]; omega
        ·
          go_simp
          refine hK.out _ _ ?_ (fun hHeld => ?_)
          · (exact CE.out _ (by first | exact BW0.out | exact BW1.out | exact BW2.out | exact BW3.out | exact BW4.out | exact BW5.out))
          clear hK K
          try simp only [Act.put, tkS]
          refine wpAnyH_ready (rs := [1]) (by kernel_rfl) (by simp) (AllReadyH.cons rfl (fun K hK => ?_) AllReadyH.nil)
          go_simp
          refine hK.out _ _ ?_ (fun hHeld => ?_)
          · (exact CE.out _ (by first | exact BW0.out | exact BW1.out | exact BW2.out | exact BW3.out | exact BW4.out | exact BW5.out))
          clear hK K
          try simp only [Act.put, tkS]
          refine wpAnyH_ready (rs := [10]) (by kernel_rfl) (by simp) (AllReadyH.cons rfl (fun K hK => ?_) AllReadyH.nil)
          refine step_append_is rfl (.tmp 17) (.tmp 25) 51 rfl _ _ (by rfl) (by rfl) _ _ RUN10.out ?_
          refine hK.out _ _ ?_ (fun hHeld => ?_)
          · (exact CE.out _ (by first | exact BW0.out | exact BW1.out | exact BW2.out | exact BW3.out | exact BW4.out | exact BW5.out))
          clear hK K
          try simp only [Act.put, tkS]
          refine wpAnyH_take (i := 11) (v := ?_) rfl (by kernel_rfl) (by kernel_rfl) (by kernel_rfl) (fun _ _ _ h => h) (Or.inl ⟨by kernel_rfl, ?_⟩) (by assumption) ?_
          rotate_left
          · (intro wS hSw; (try dsimp only at hSw); go_simp <;> with_reducible rfl)
          try simp only [Act.put, tkS]
          refine wpAnyH_ready (rs := [12]) (by kernel_rfl) (by simp) (AllReadyH.cons rfl (fun K hK => ?_) AllReadyH.nil)
          go_simp
          refine hK.out _ _ ?_ (fun hHeld => ?_)
          · (exact CE.out _ (by first | exact BW0.out | exact BW1.out | exact BW2.out | exact BW3.out | exact BW4.out | exact BW5.out))
          clear hK K
          try simp only [Act.put, tkS]
          refine wpAnyH_done (by kernel_rfl) ?_ _
          go_wp2_with fail
          go_roundw
          case rel => exact ⟨k + 1, by omega, by go_num, a', c', HST.out⟩
          case measure => simp [intOf]; omega
end Go.Proofs.Ytdhlndpobpdfmaa
