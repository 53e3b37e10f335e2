import Derived.Test.YtngbhifafdbpkaaGreatZbg
import Derived.Test.YtngbhifafdbpkaaGreatZbc
import Derived.Test.YtngbhifafdbpkaaGreatZTk
namespace Go.Proofs.YtngbhifafdbpkaaGreat
open Go.RowKit
set_option linter.unusedSimpArgs false
theorem OG.same {base : Nat} {W W' : World} {T : TypeId} {n : Nat} {d : Nat → Nat → D} {es : List OgE} {v : Value} (h : OG base W T n d es v) {p : Nat} (hs : W'.heap.size = W.heap.size) (hb : ∀ b, b ≠ p → W'.heap[b]? = W.heap[b]?) (hv : v.ownBlock ≠ some p) (hp : ∀ e ∈ es, ¬ (e.s 0 ≤ p ∧ p < e.s n)) : OG base W' T n d es v := by
  refine ⟨⟨h.ow.1, h.ow.2.imp id ?_⟩, fun i hi => ?_, h.ds⟩
  · rintro ⟨g, cap, cur, rfl, hg, hh, r⟩
    exact ⟨g, cap, cur, rfl, hg, by rw [hb g (fun e => hv (by rw [e]; rfl))]; exact hh, r⟩
  · obtain ⟨k1, k3, k5, k6, k7⟩ := h.el i hi
    have hpi := hp _ (List.getElem_mem hi)
    refine ⟨fun j hj => Own.same _ _ _ _ (fun c hc => hb c (fun e => ?_)) (fun _ h => h) (k1 j hj), k3, by omega, k6, k7⟩
    have m1 := k3 0 j (by omega) (by omega)
    have m2 := k3 (j + 1) n (by omega) (by omega)
    have hc1 := hc.1; have hc2 := hc.2
    exact hpi ⟨by omega, by omega⟩
theorem app_emptyO (l : List At) (g : Nat) (a : Option Addr) (c : Nat) (B : Nat → Prop) (w : World) (ty : TypeId) (hl : l.length ≤ 1048576) (h : Rd w B (dAtomS l) (.slice a l.length c)) :
    ∃ a' c' w', (Builtin.append_ #[81, 81] ty #[.slice (some ⟨g, 0, none⟩) 0 0, .slice a l.length c]).run Tryz.prog w = .ok (.slice a' l.length c') w' ∧ Own w' (dAtomS l) (fun b => w.heap.size ≤ b ∧ b < w'.heap.size) (.slice a' l.length c') ∧ Below w.heap.size w w' := by
  obtain ⟨i, hi, hz, hs, hby⟩ := infoAtD
  by_cases h0 : l.length = 0
  · refine ⟨some ⟨g, 0, none⟩, 0, w, ?_, ⟨_, 0, rfl, by omega, .inl h0⟩, Below.refl _ _⟩
    rw [h0]
    cases a with
    | none => simp [Builtin.append_, run_underlying Tryz.underlying81, sizeOf, typeInfo, hi, Builtin.lenOf, Builtin.firstCells, loadCells, loadCellsFrom, storeCells]
    | some ad =>
      have hf := run_firstCells_some (P := Tryz.prog) w 3 0 ad 0 c [] rfl (fun j u h => by simp at h)
      simp [Builtin.append_, run_underlying Tryz.underlying81, sizeOf, typeInfo, zeroValue, hi, hz, hs, Builtin.lenOf, storeCells, hf]
  · obtain ⟨b, off, ha, -, -⟩ := Rd.things (d := dAtom) (n := 3) h 0 (by omega)
    subst ha
    have hc : ∀ m, ∃ u, m < l.length * 3 → w.cell? ⟨b, off + m, none⟩ = some u ∧ Rd w B (lsF dAtom l (m / 3) (m % 3)) u := fun m => by
      by_cases hm : m < l.length * 3
      · obtain ⟨u, hu, hr⟩ := Rd.spotT (d := dAtom) (n := 3) h (i := m / 3) (j := m % 3) (by omega) (by omega)
        rw [Nat.add_assoc, Nat.div_add_mod'] at hu
        exact ⟨u, fun _ => ⟨hu, by rw [lsF_at (by omega)]; exact hr⟩⟩
      · exact ⟨undef, fun h => absurd h hm⟩
    obtain ⟨g2, hg⟩ := Classical.axiomOfChoice hc
    have hnl : ((List.range (l.length * 3)).map g2).length = l.length * i.size := by rw [hs]; simp
    have hr := run_append_grow (P := Tryz.prog) w 81 ty 84 i _ Tryz.underlying81 hi hz ⟨g, 0, none⟩ 0 0 [] (by simp) (fun j u hj => by simp at hj) ⟨b, off, none⟩ l.length c ((List.range (l.length * 3)).map g2) hnl (fun j u hj => by
      rw [List.getElem?_map, Option.map_eq_some_iff] at hj
      obtain ⟨m, hm, rfl⟩ := hj
      obtain ⟨hlt, rfl⟩ := List.getElem?_eq_some_iff.1 hm
      simp only [List.length_range] at hlt
      simp only [List.getElem_range]
      rw [Addr.add_mid]
      exact (hg j hlt).1) (by omega) (by omega) (by rw [Nat.zero_add, nextslicecap_zero (by omega), hby]; omega)
    simp only [Nat.zero_add] at hr
    refine ⟨_, _, _, hr, ?_, ((Below.refl _ _).drew).alloc (Nat.le_refl _) _⟩
    have hnew := heap_newD w.drew (.cells ((([] : List Value).toArray ++ ((List.range (l.length * 3)).map g2).toArray) ++ Builtin.zeroCells (Value.agg #[.int .i64 0, .int .i64 0, .string ⟨#[]⟩]).cells (grownCap w l.length 0 84 - l.length)) 84)
    refine ⟨_, _, rfl, by first | exact grownCap_ge _ _ _ _ | omega, .inr ⟨w.heap.size, 0, fun _ _ _ => False, rfl, ⟨Nat.le_refl _, by simp⟩, by omega, fun _ _ _ h => h.elim, fun _ _ _ _ _ h => h.elim, fun q j hq hj => ?_⟩⟩
    have hlt : q * 3 + j < l.length * 3 := by omega
    have h1 := hg (q * 3 + j) hlt
    refine ⟨g2 (q * 3 + j), ?_, frozen_at _ hnew, ?_⟩
    · rw [Nat.zero_add]
      refine cell_at (b := w.heap.size) hnew ?_
      rw [Array.getElem?_append_left (by simpa using hlt)]
      simp [hlt]
    · have h2 := h1.2
      rw [show (q * 3 + j) / 3 = q by omega, show (q * 3 + j) % 3 = j by omega] at h2
      have h3 : Own w (lsF dAtom l q j) (fun _ => True) (g2 (q * 3 + j)) := Own.of_flat (by rw [lsF_at hq]; exact atom_flat _ _) h2
      exact Own.flat (w' := _) (B' := _) (by rw [lsF_at hq]; exact atom_flat _ _) h3
structure OSo (w wr : World) (x : RowV) (a : Option Addr) (c : Nat) (es : List OgE) (v : Value) : Prop where
  bx : wr.heap[w.heap.size]? = some (.cells #[.int .i64 x.id, .slice a x.cells.length c] 77)
  rv : wr.heap[w.heap.size + 1]? = some (.cells #[.int .i64 0, .slice none 0 0] 77)
  ot : wr.heap[w.heap.size + 1 + 1 + 1]? = some (.cells #[.int .i64 x.id, v] 77)
  gr : OG (w.heap.size + 1 + 1) wr 81 1 (lsF cAtomS x.cells) es v
  ge : ∀ e ∈ es, w.heap.size + 1 + 1 + 1 < e.s 0
  ne : v.ownBlock ≠ some (w.heap.size + 1 + 1 + 1)
  lo : ∀ g, v.ownBlock = some g → w.heap.size + 1 + 1 ≤ g ∧ g < wr.heap.size
  bel : Below w.heap.size w wr
theorem OSo.first (w : World) (x : RowV) (a : Option Addr) (c : Nat) : OSo w ((((w.alloc (.cells #[.int .i64 x.id, .slice a x.cells.length c] 77)).alloc (.cells #[.int .i64 0, .slice none 0 0] 77)).alloc (.cells #[] 81)).alloc (.cells #[.int .i64 x.id, .slice (some ⟨w.heap.size + 1 + 1, 0, none⟩) 0 0] 77)) x a c [] (.slice (some ⟨w.heap.size + 1 + 1, 0, none⟩) 0 0) := by
  have h3 : ∀ (V : World) (o : Obj) (b : Nat) (x : Obj), V.heap[b]? = some x → (V.alloc o).heap[b]? = some x := fun V o b x h => heap_keptD h (below_allocD _ _)
  have s1 := size_allocD w (.cells #[.int .i64 x.id, .slice a x.cells.length c] 77)
  have e1 := heap_newD (w.alloc (.cells #[.int .i64 x.id, .slice a x.cells.length c] 77)) (.cells #[.int .i64 0, .slice none 0 0] 77)
  have s2 := size_allocD (w.alloc (.cells #[.int .i64 x.id, .slice a x.cells.length c] 77)) (.cells #[.int .i64 0, .slice none 0 0] 77)
  have e2 := heap_newD ((w.alloc (.cells #[.int .i64 x.id, .slice a x.cells.length c] 77)).alloc (.cells #[.int .i64 0, .slice none 0 0] 77)) (.cells #[] 81)
  have s3 := size_allocD ((w.alloc (.cells #[.int .i64 x.id, .slice a x.cells.length c] 77)).alloc (.cells #[.int .i64 0, .slice none 0 0] 77)) (.cells #[] 81)
  have e3 := heap_newD (((w.alloc (.cells #[.int .i64 x.id, .slice a x.cells.length c] 77)).alloc (.cells #[.int .i64 0, .slice none 0 0] 77)).alloc (.cells #[] 81)) (.cells #[.int .i64 x.id, .slice (some ⟨w.heap.size + 1 + 1, 0, none⟩) 0 0] 77)
  rw [s1] at e1 s2
  rw [s2] at e2 s3
  rw [s3] at e3
  refine ⟨h3 _ _ _ _ (h3 _ _ _ _ (h3 _ _ _ _ (heap_newD _ _))), h3 _ _ _ _ (h3 _ _ _ _ e1), e3, OG.start _ (Nat.le_refl _) (h3 _ _ _ _ e2), fun e he => absurd he (by simp), ?_, fun g hg => ?_, ?_⟩
  · simp [Value.ownBlock]
  · simp only [Value.ownBlock, Option.some.injEq] at hg
    subst hg
    refine ⟨Nat.le_refl _, ?_⟩
    have := size_allocD (((w.alloc (.cells #[.int .i64 x.id, .slice a x.cells.length c] 77)).alloc (.cells #[.int .i64 0, .slice none 0 0] 77)).alloc (.cells #[] 81)) (.cells #[.int .i64 x.id, .slice (some ⟨w.heap.size + 1 + 1, 0, none⟩) 0 0] 77)
    omega
  · exact ((((Below.refl _ _).alloc (Nat.le_refl _) _).alloc (by simp) _).alloc (by simp; omega) _).alloc (by simp; omega) _
theorem OSo.step {w wr V w3 : World} {x : RowV} {a : Option Addr} {c : Nat} {es : List OgE} {en : OgE} {v v' : Value} (h : OSo w wr x a c es v) (hB2 : Below wr.heap.size wr V) (hs : OG (w.heap.size + 1 + 1) w3 81 1 (lsF cAtomS x.cells) (es ++ [en]) v') (hen : wr.heap.size ≤ en.s 0) (hk : ∀ b, b < V.heap.size → v.ownBlock ≠ some b → w3.heap[b]? = V.heap[b]?) (hbl : Below (w.heap.size + 1 + 1) wr w3) (hl : ∀ g, v'.ownBlock = some g → v.ownBlock = some g ∨ V.heap.size ≤ g) :
    OSo w (w3.setCell ⟨w.heap.size + 1 + 1 + 1, 1, none⟩ v') x a c (es ++ [en]) v' ∧ w3.heap[w.heap.size + 1 + 1 + 1]? = some (.cells #[.int .i64 x.id, v] 77) := by
  have keep : ∀ b y, wr.heap[b]? = some y → v.ownBlock ≠ some b → w3.heap[b]? = some y := fun b y hx hn => by
    have hlt := (Array.getElem?_eq_some_iff.1 hx).1
    rw [hk b (Nat.lt_of_lt_of_le hlt hB2.size) hn, hB2.block b hlt]; exact hx
  have lo := h.lo
  have n0 : v.ownBlock ≠ some w.heap.size := fun e => by have := (lo _ e).1; omega
  have n1 : v.ownBlock ≠ some (w.heap.size + 1) := fun e => by have := (lo _ e).1; omega
  have hp := (Array.getElem?_eq_some_iff.1 h.ot).1
  have ne' : v'.ownBlock ≠ some (w.heap.size + 1 + 1 + 1) := fun e => by
    rcases hl _ e with e | e
    · exact h.ne e
    · have := hB2.size; omega
  have o3 := keep _ _ h.ot h.ne
  have ge' : ∀ e ∈ es ++ [en], w.heap.size + 1 + 1 + 1 < e.s 0 := fun e he => by
    rcases List.mem_append.1 he with he | he
    · exact h.ge e he
    · obtain rfl := List.mem_singleton.1 he; omega
  refine ⟨⟨?_, ?_, heap_set 1 v' o3, ?_, ge', ne', fun q hq => ?_, ?_⟩, o3⟩
  · rw [Below.heap_setCell _ ⟨w.heap.size + 1 + 1 + 1, 1, none⟩ v' _ (by show w.heap.size ≠ w.heap.size + 1 + 1 + 1; omega)]; exact keep _ _ h.bx n0
  · rw [Below.heap_setCell _ ⟨w.heap.size + 1 + 1 + 1, 1, none⟩ v' _ (by show w.heap.size + 1 ≠ w.heap.size + 1 + 1 + 1; omega)]; exact keep _ _ h.rv n1
  · exact hs.same (p := w.heap.size + 1 + 1 + 1) (by simp [World.setCell]) (fun b hb => Below.heap_setCell _ _ _ _ hb) ne' (fun e he hx => by have := ge' e he; omega)
  · have h2 := hs.low hq
    exact ⟨h2.1, by simpa [World.setCell] using h2.2⟩
  · exact (h.bel.trans (hbl.mono (by omega))).setCell (by show w.heap.size ≤ w.heap.size + 1 + 1 + 1; omega) _
set_option maxRecDepth 100000 in
set_option maxHeartbeats 12800000 in
theorem ownRowO (x : RowV) (a : Option Addr) (c : Nat) (B : Nat → Prop) (w : World) (ho : (dAtomSS x.cells).le 1048576) (hS : Rd w B (dAtomSS x.cells) (.slice a x.cells.length c)) :
    Calls Tryz.prog 64 #[.agg #[.int .i64 x.id, .slice a x.cells.length c]] w fun e w' => ∃ ra rc, e = .returned (.agg #[.int .i64 x.id, .slice ra x.cells.length rc]) ∧ Own w' (dAtomSS x.cells) (fun b => w.heap.size ≤ b ∧ b < w'.heap.size) (.slice ra x.cells.length rc) ∧ Below w.heap.size w w' := by
  obtain ⟨iA, hiA⟩ := infoAs
  have HIA := Lib.hid hiA
  have hl : x.cells.length ≤ 1048576 := (Ls_le.1 ho).2.1
  have HX : Hid (∀ i (h : i < x.cells.length) j, j < 1 → (cAtomS x.cells[i] j).le 1048576) := (Ls_le.1 ho).2.2
  have HS : Hid (∀ W, Below w.heap.size w W → Rd W B (Ls 1 cAtomS x.cells) (.slice a x.cells.length c)) := fun W h => Rd.later hS h
  have hb1 := boxD 77 w #[.int .i64 x.id, .slice a x.cells.length c]
  have H0 := Lib.hid (OSo.first w x a c)
  have HL := Lib.hid hl
  clear hiA hS ho hb1
  go_enter Tryz.func64, Tryz.ntmps64
  go_wp2_with fail
  go_loopw [4] (fun t wr => ∃ k : Nat, k ≤ x.cells.length ∧ t = .int .i64 k ∧ Hid (∃ es va vc, es.length = k ∧ OSo w wr x a c es (.slice va k vc))) (fun t _ => x.cells.length - (intOf t).toNat)
  case atStart => exact ⟨0, Nat.zero_le _, rfl, [], _, _, rfl, H0.out⟩
  case round =>
    obtain ⟨k, hk, rfl, HW⟩ := hrel
    obtain ⟨es, va, vc, hel, hN⟩ := HW.out
    have HEL := Lib.hid hel
    clear hel
    have HN := Lib.hid hN
    clear HW
    have b1 := cell_at (o := 1) hN.bx rfl
    have t0 := cell_at (o := 0) hN.ot rfl
    have t1 := cell_at (o := 1) hN.ot rfl
    by_cases hlt : k < x.cells.length
    case neg =>
      have hkd : decide ((k : Int) < (x.cells.length : Int)) = false := by simp; omega
      have hkm : k = x.cells.length := by omega
      have HKM := Lib.hid hkm
      have r0 := cell_at (o := 0) hN.rv rfl
      have r1 := cell_at (o := 1) hN.rv rfl
      have g0 := frozen_at 0 hN.rv
      have g1 := frozen_at 1 hN.rv
      clear hN hkm
      go_wp2_with fail
      refine bodyPost_ret (v := .agg #[.int .i64 x.id, .slice va k vc]) (by simp [results, Tryz.results64, go_sem, *]) rfl ?_
      have hkm := HKM.out
      subst hkm
      have hfr : Frm (· = w.heap.size + 1) wr ((wr.setCell ⟨w.heap.size + 1, 0, none⟩ (.int .i64 x.id)).setCell ⟨w.heap.size + 1, 1, none⟩ (.slice va x.cells.length vc)) := (frm_set _ _ _ _).trans (frm_set _ _ _ _)
      refine ⟨va, vc, rfl, ?_, (HN.out.bel.setCell (by simp <;> omega) _).setCell (by simp <;> omega) _⟩
      have hr := HN.out.gr.own (by omega)
      rw [HEL.out] at hr
      exact (hr.frm hfr (fun b hb e => by have h1 := hb.1; have e' : b = w.heap.size + 1 := e; omega)).mono (fun b hb => ⟨by have := hb.1; omega, by simpa using hb.2⟩)
    have hki : (k : Int) < (x.cells.length : Int) := by omega
    obtain ⟨b, off, rfl, -, hc⟩ := (HS.out _ hN.bel).things k hlt
    obtain ⟨u0, c0, r0⟩ := hc 0 (by omega)
    replace r0 : Rd wr B (dAtomS x.cells[k]) u0 := r0
    obtain ⟨sa, sq, rfl⟩ := r0.lsSlice
    rw [Nat.mul_one] at c0
    replace c0 : wr.cell? ⟨b, off + k, none⟩ = _ := c0
    have HFA : lsF cAtomS x.cells k = cAtomS x.cells[k] := lsF_at hlt
    have hsl : x.cells[k].length ≤ 1048576 := (Ls_le.1 (HX.out k hlt 0 (by omega))).2.1
    -- the worlds of the region
    obtain ⟨W1, hW1⟩ : ∃ W1, W1 = (wr.alloc (.cells #[] 84)).drew := ⟨_, rfl⟩
    have bW0 : Below wr.heap.size wr wr.drew := (Below.refl _ _).drew
    have bW1 : Below wr.heap.size wr W1 := by rw [hW1]; exact ((Below.refl _ _).alloc (Nat.le_refl _) _).drew
    obtain ⟨a8, c8, W2, hr8, hrd8, hB8⟩ := app_emptyO x.cells[k] wr.heap.size sa sq B W1 81 hsl (r0.later bW1)
    have bW2 : Below wr.heap.size wr W2 := bW1.trans (hB8.mono bW1.size)
    obtain ⟨W3, hW3⟩ : ∃ W3, W3 = W2.alloc (.cells #[.slice a8 x.cells[k].length c8] 81) := ⟨_, rfl⟩
    have bW3 : Below wr.heap.size wr W3 := by rw [hW3]; exact bW2.alloc bW2.size _
    have hn9 : W3.heap[W2.heap.size]? = some (.cells #[.slice a8 x.cells[k].length c8] 81) := by rw [hW3]; exact heap_newD _ _
    have hpl := (Array.getElem?_eq_some_iff.1 hN.ot).1
    have hW1s : W1.heap.size = wr.heap.size + 1 := by rw [hW1]; simp
    have hkx : es.length = k := HEL.out
    obtain ⟨a', c', W4, hr10, hsg, hkp, hbl, hsz, hgl⟩ := hN.gr.push (P := Tryz.prog) (by omega) bW3 75 75 iA (.slice none 0 0) 24 Tryz.underlying75 HIA.out.1 HIA.out.2.1 HIA.out.2.2.1 HIA.out.2.2.2 rfl ⟨fun _ => .slice a8 x.cells[k].length c8, fun j => if j = 0 then W1.heap.size else W2.heap.size⟩ ⟨W2.heap.size, 0, none⟩ 1 (fun j hj => by
        obtain rfl : j = 0 := by omega
        rw [Addr.add_mid]
        exact cell_at (o := 0) hn9 rfl) (fun _ _ => rfl) (by show wr.heap.size ≤ W1.heap.size; omega) (fun j k h1 h2 => by
        have h3 : W1.heap.size ≤ W2.heap.size := hB8.size
        show (if j = 0 then W1.heap.size else W2.heap.size) ≤ (if k = 0 then W1.heap.size else W2.heap.size)
        split <;> split <;> omega) (by show W2.heap.size ≤ W3.heap.size; rw [hW3]; simp) (fun j hj => by
        obtain rfl : j = 0 := by omega
        rw [hkx, HFA]
        have hk3 : Below W2.heap.size W2 W3 := by rw [hW3]; exact below_allocD _ _
        exact hrd8.later hk3) (by have := hN.bel.size; omega) (by unfold maxLen; omega) (by omega)
    obtain ⟨hst, o4⟩ := hN.step bW3 hsg (by show wr.heap.size ≤ W1.heap.size; omega) hkp hbl hgl
    rw [hkx] at hr10 hst
    have hst2 : ∃ es' : List OgE, es'.length = k + 1 ∧ OSo w (W4.setCell ⟨w.heap.size + 1 + 1 + 1, 1, none⟩ (.slice a' (k + 1) c')) x (some ⟨b, off, none⟩) c es' (.slice a' (k + 1) c') := ⟨_, by rw [List.length_append, hkx]; rfl, hst⟩
    have t4 := cell_at (o := 1) o4 rfl
    have z4 := frozen_at 1 o4
    have bel4 : Below w.heap.size w W4 := hN.bel.trans (hbl.mono (by omega))
    have bel5 : Below w.heap.size w (W4.setCell ⟨w.heap.size + 1 + 1 + 1, 1, none⟩ (.slice a' (k + 1) c')) := bel4.setCell (by show w.heap.size ≤ w.heap.size + 1 + 1 + 1; omega) _
    -- what stays
    have bx4 : W4.heap[w.heap.size]? = some (.cells #[.int .i64 x.id, .slice (some ⟨b, off, none⟩) x.cells.length c] 77) := by
      rw [hbl.block _ (by omega)]; exact hN.bx
    have bx5 : (W4.setCell ⟨w.heap.size + 1 + 1 + 1, 1, none⟩ (.slice a' (k + 1) c')).heap[w.heap.size]? = some (.cells #[.int .i64 x.id, .slice (some ⟨b, off, none⟩) x.cells.length c] 77) := by
      rw [Below.heap_setCell _ ⟨w.heap.size + 1 + 1 + 1, 1, none⟩ _ _ (by show w.heap.size ≠ w.heap.size + 1 + 1 + 1; omega)]; exact bx4
    have CE : Hid (∀ W, (Below w.heap.size w W ∧ W.heap[w.heap.size]? = some (.cells #[.int .i64 x.id, .slice (some ⟨b, off, none⟩) x.cells.length c] 77)) → W.cell? ⟨w.heap.size, 1, none⟩ = some (.slice (some ⟨b, off, none⟩) x.cells.length c) ∧ W.cell? ⟨b, off + k, none⟩ = some (.slice sa x.cells[k].length sq)) := fun W h => ⟨cell_at (o := 1) h.2 rfl, by
      obtain ⟨u, e, r⟩ := (HS.out W h.1).spotT hlt (j := 0) (by omega)
      rw [Nat.mul_one, Nat.add_zero] at e
      obtain ⟨u2, e2, -⟩ := (HS.out w (Below.refl _ _)).spotT hlt (j := 0) (by omega)
      rw [Nat.mul_one, Nat.add_zero] at e2
      have hlb : b < w.heap.size := World.block_lt_of_cell? w ⟨b, off + k, none⟩ e2
      have h1 := h.1.cell (p := ⟨b, off + k, none⟩) hlb
      have h2 := hN.bel.cell (p := ⟨b, off + k, none⟩) hlb
      rw [h1, ← h2, c0]⟩
    have BW0 : Hid (Below w.heap.size w wr.drew ∧ wr.drew.heap[w.heap.size]? = _) := ⟨hN.bel.drew, hN.bx⟩
    have BW1 : Hid (Below w.heap.size w W1 ∧ W1.heap[w.heap.size]? = _) := ⟨hN.bel.trans (bW1.mono hN.bel.size), heap_keptD hN.bx bW1⟩
    have BW2 : Hid (Below w.heap.size w W2 ∧ W2.heap[w.heap.size]? = _) := ⟨hN.bel.trans (bW2.mono hN.bel.size), heap_keptD hN.bx bW2⟩
    have BW3 : Hid (Below w.heap.size w W3 ∧ W3.heap[w.heap.size]? = _) := ⟨hN.bel.trans (bW3.mono hN.bel.size), heap_keptD hN.bx bW3⟩
    have BW4 : Hid (Below w.heap.size w W4 ∧ W4.heap[w.heap.size]? = _) := ⟨bel4, bx4⟩
    have BW5 : Hid (Below w.heap.size w (W4.setCell ⟨w.heap.size + 1 + 1 + 1, 1, none⟩ (.slice a' (k + 1) c')) ∧ (W4.setCell ⟨w.heap.size + 1 + 1 + 1, 1, none⟩ (.slice a' (k + 1) c')).heap[w.heap.size]? = _) := ⟨bel5, bx5⟩
    have p0 : wr.drew.cell? ⟨w.heap.size + 1 + 1 + 1, 1, none⟩ = some (.slice va k vc) := t1
    have p1 := cell_at (o := 1) (heap_keptD hN.ot bW1) rfl
    have p2 := cell_at (o := 1) (heap_keptD hN.ot bW2) rfl
    have p3 := cell_at (o := 1) (heap_keptD hN.ot bW3) rfl
    have HST := Lib.hid hst2
    have RUN8 := Lib.hid hr8
    have RUN10 := Lib.hid hr10
    have HW1 := Lib.hid hW1
    have HW3 := Lib.hid hW3
    rw [hW3] at p3 RUN10 BW3
    rw [hW1] at p1 RUN8 BW1
    clear hst hst2 hr8 hr10 hN hsg hkp hbl hsz hgl hkx HEL o4 bel4 bel5 bx4 bx5 bW0 bW1 bW2 bW3 hB8 hrd8 hn9 hpl hW1s hc r0 HFA hsl
    clear hW1 hW3
    generalize x.cells[k] = s at *
    go_wp2_with fail
    refine wp_region_held_drew (S := (fun W => W.cell? ⟨w.heap.size, 1, none⟩ = some (.slice (some ⟨b, off, none⟩) x.cells.length c) ∧ W.cell? ⟨b, off + k, none⟩ = some (.slice sa s.length sq))) (by kernel_rfl) ?_ (fun hHeld => ?_)
    · (exact CE.out _ (by first | exact BW0.out | exact BW1.out | exact BW2.out | exact BW3.out | exact BW4.out | exact BW5.out))
    refine tkB (i := 0) ?_
    refine tkB (i := 3) ?_
    refine tkB (i := 4) ?_
    refine tkB (i := 5) ?_
    refine tkB (i := 6) ?_
    refine tkB (i := 7) ?_
    refine wpAnyH_ready (rs := [1, 2]) (by kernel_rfl) (by simp) (AllReadyH.cons rfl (fun K hK => ?_) (AllReadyH.cons rfl (fun K hK => ?_) AllReadyH.nil))
    ·
      go_simp
      refine hK.out _ _ ?_ (fun hHeld => ?_)
      · (exact CE.out _ (by first | exact BW0.out | exact BW1.out | exact BW2.out | exact BW3.out | exact BW4.out | exact BW5.out))
      clear hK K
      try simp only [Act.put, tkS]
      refine tkR (i := 2) (fun K hK => ?_)
      go_simp
      refine hK.out _ _ ?_ (fun hHeld => ?_)
      · (exact CE.out _ (by first | exact BW0.out | exact BW1.out | exact BW2.out | exact BW3.out | exact BW4.out | exact BW5.out))
      clear hK K
      try simp only [Act.put, tkS]
      refine tkR (i := 8) (fun K hK => ?_)
      refine step_append_is rfl (.tmp 18) (.tmp 23) 81 rfl _ _ (by rfl) (by rfl) _ _ RUN8.out ?_
      refine hK.out _ _ ?_ (fun hHeld => ?_)
      · (exact CE.out _ (by first | exact BW0.out | exact BW1.out | exact BW2.out | exact BW3.out | exact BW4.out | exact BW5.out))
      clear hK K
      try simp only [Act.put, tkS]
      refine tkR (i := 9) (fun K hK => ?_)
      go_simp
      refine hK.out _ _ ?_ (fun hHeld => ?_)
      · (exact CE.out _ (by first | exact BW0.out | exact BW1.out | exact BW2.out | exact BW3.out | exact BW4.out | exact BW5.out))
      clear hK K
      try simp only [Act.put, tkS]
      refine tkR (i := 10) (fun K hK => ?_)
      refine step_append_is rfl (.tmp 17) (.tmp 25) 75 rfl _ _ (by rfl) (by rfl) _ _ RUN10.out ?_
      refine hK.out _ _ ?_ (fun hHeld => ?_)
      · (exact CE.out _ (by first | exact BW0.out | exact BW1.out | exact BW2.out | exact BW3.out | exact BW4.out | exact BW5.out))
      clear hK K
      try simp only [Act.put, tkS]
      refine tkB (i := 11) ?_
      refine tkR (i := 12) (fun K hK => ?_)
      go_simp
      refine hK.out _ _ ?_ (fun hHeld => ?_)
      · (exact CE.out _ (by first | exact BW0.out | exact BW1.out | exact BW2.out | exact BW3.out | exact BW4.out | exact BW5.out))
      clear hK K
      try simp only [Act.put, tkS]
      refine wpAnyH_done (by kernel_rfl) ?_ _
      go_wp2_with fail
      go_roundw
      case rel => obtain ⟨es', h1, h2⟩ := HST.out; exact ⟨k + 1, by omega, by go_num, es', a', c', h1, h2⟩
      case measure => simp [intOf]; omega
    ·
      go_simp
      refine hK.out _ _ ?_ (fun hHeld => ?_)
      · (exact CE.out _ (by first | exact BW0.out | exact BW1.out | exact BW2.out | exact BW3.out | exact BW4.out | exact BW5.out))
      clear hK K
      try simp only [Act.put, tkS]
      refine wpAnyH_ready (rs := [1, 8]) (by kernel_rfl) (by simp) (AllReadyH.cons rfl (fun K hK => ?_) (AllReadyH.cons rfl (fun K hK => ?_) AllReadyH.nil))
      ·
        go_simp
        refine hK.out _ _ ?_ (fun hHeld => ?_)
        · (exact CE.out _ (by first | exact BW0.out | exact BW1.out | exact BW2.out | exact BW3.out | exact BW4.out | exact BW5.out))
        clear hK K
        try simp only [Act.put, tkS]
        refine tkR (i := 8) (fun K hK => ?_)
        refine step_append_is rfl (.tmp 18) (.tmp 23) 81 rfl _ _ (by rfl) (by rfl) _ _ RUN8.out ?_
        refine hK.out _ _ ?_ (fun hHeld => ?_)
        · (exact CE.out _ (by first | exact BW0.out | exact BW1.out | exact BW2.out | exact BW3.out | exact BW4.out | exact BW5.out))
        clear hK K
        try simp only [Act.put, tkS]
        refine tkR (i := 9) (fun K hK => ?_)
        go_simp
        refine hK.out _ _ ?_ (fun hHeld => ?_)
        · (exact CE.out _ (by first | exact BW0.out | exact BW1.out | exact BW2.out | exact BW3.out | exact BW4.out | exact BW5.out))
        clear hK K
        try simp only [Act.put, tkS]
        refine tkR (i := 10) (fun K hK => ?_)
        refine step_append_is rfl (.tmp 17) (.tmp 25) 75 rfl _ _ (by rfl) (by rfl) _ _ RUN10.out ?_
        refine hK.out _ _ ?_ (fun hHeld => ?_)
        · (exact CE.out _ (by first | exact BW0.out | exact BW1.out | exact BW2.out | exact BW3.out | exact BW4.out | exact BW5.out))
        clear hK K
        try simp only [Act.put, tkS]
        refine tkB (i := 11) ?_
        refine tkR (i := 12) (fun K hK => ?_)
        go_simp
        refine hK.out _ _ ?_ (fun hHeld => ?_)
        · (exact CE.out _ (by first | exact BW0.out | exact BW1.out | exact BW2.out | exact BW3.out | exact BW4.out | exact BW5.out))
        clear hK K
        try simp only [Act.put, tkS]
        refine wpAnyH_done (by kernel_rfl) ?_ _
        go_wp2_with fail
        go_roundw
        case rel => obtain ⟨es', h1, h2⟩ := HST.out; exact ⟨k + 1, by omega, by go_num, es', a', c', h1, h2⟩
        case measure => simp [intOf]; omega
      ·
        refine step_append_is rfl (.tmp 18) (.tmp 23) 81 rfl _ _ (by rfl) (by rfl) _ _ RUN8.out ?_
        refine hK.out _ _ ?_ (fun hHeld => ?_)
        · (exact CE.out _ (by first | exact BW0.out | exact BW1.out | exact BW2.out | exact BW3.out | exact BW4.out | exact BW5.out))
        clear hK K
        try simp only [Act.put, tkS]
        refine wpAnyH_ready (rs := [1, 9]) (by kernel_rfl) (by simp) (AllReadyH.cons rfl (fun K hK => ?_) (AllReadyH.cons rfl (fun K hK => ?_) AllReadyH.nil))
        ·
          go_simp
          refine hK.out _ _ ?_ (fun hHeld => ?_)
          · (exact CE.out _ (by first | exact BW0.out | exact BW1.out | exact BW2.out | exact BW3.out | exact BW4.out | exact BW5.out))
          clear hK K
          try simp only [Act.put, tkS]
          refine tkR (i := 9) (fun K hK => ?_)
          go_simp
          refine hK.out _ _ ?_ (fun hHeld => ?_)
          · (exact CE.out _ (by first | exact BW0.out | exact BW1.out | exact BW2.out | exact BW3.out | exact BW4.out | exact BW5.out))
          clear hK K
          try simp only [Act.put, tkS]
          refine tkR (i := 10) (fun K hK => ?_)
          refine step_append_is rfl (.tmp 17) (.tmp 25) 75 rfl _ _ (by rfl) (by rfl) _ _ RUN10.out ?_
          refine hK.out _ _ ?_ (fun hHeld => ?_)
          · (exact CE.out _ (by first | exact BW0.out | exact BW1.out | exact BW2.out | exact BW3.out | exact BW4.out | exact BW5.out))
          clear hK K
          try simp only [Act.put, tkS]
          refine tkB (i := 11) ?_
          refine tkR (i := 12) (fun K hK => ?_)
          go_simp
          refine hK.out _ _ ?_ (fun hHeld => ?_)
          · (exact CE.out _ (by first | exact BW0.out | exact BW1.out | exact BW2.out | exact BW3.out | exact BW4.out | exact BW5.out))
          clear hK K
          try simp only [Act.put, tkS]
          refine wpAnyH_done (by kernel_rfl) ?_ _
          go_wp2_with fail
          go_roundw
          case rel => obtain ⟨es', h1, h2⟩ := HST.out; exact ⟨k + 1, by omega, by go_num, es', a', c', h1, h2⟩
          case measure => simp [intOf]; omega
        ·
          go_simp
          refine hK.out _ _ ?_ (fun hHeld => ?_)
          · (exact CE.out _ (by first | exact BW0.out | exact BW1.out | exact BW2.out | exact BW3.out | exact BW4.out | exact BW5.out))
          clear hK K
          try simp only [Act.put, tkS]
          refine tkR (i := 1) (fun K hK => ?_)
          go_simp
          refine hK.out _ _ ?_ (fun hHeld => ?_)
          · (exact CE.out _ (by first | exact BW0.out | exact BW1.out | exact BW2.out | exact BW3.out | exact BW4.out | exact BW5.out))
          clear hK K
          try simp only [Act.put, tkS]
          refine tkR (i := 10) (fun K hK => ?_)
          refine step_append_is rfl (.tmp 17) (.tmp 25) 75 rfl _ _ (by rfl) (by rfl) _ _ RUN10.out ?_
          refine hK.out _ _ ?_ (fun hHeld => ?_)
          · (exact CE.out _ (by first | exact BW0.out | exact BW1.out | exact BW2.out | exact BW3.out | exact BW4.out | exact BW5.out))
          clear hK K
          try simp only [Act.put, tkS]
          refine tkB (i := 11) ?_
          refine tkR (i := 12) (fun K hK => ?_)
          go_simp
          refine hK.out _ _ ?_ (fun hHeld => ?_)
          · (exact CE.out _ (by first | exact BW0.out | exact BW1.out | exact BW2.out | exact BW3.out | exact BW4.out | exact BW5.out))
          clear hK K
          try simp only [Act.put, tkS]
          refine wpAnyH_done (by kernel_rfl) ?_ _
          go_wp2_with fail
          go_roundw
          case rel => obtain ⟨es', h1, h2⟩ := HST.out; exact ⟨k + 1, by omega, by go_num, es', a', c', h1, h2⟩
          case measure => simp [intOf]; omega
end Go.Proofs.YtngbhifafdbpkaaGreat
