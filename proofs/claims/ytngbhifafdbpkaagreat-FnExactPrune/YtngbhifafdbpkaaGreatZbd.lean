import Derived.Test.YtngbhifafdbpkaaGreatZax
import Derived.Laws.Append
namespace Go.Proofs.YtngbhifafdbpkaaGreat
open Go.RowKit
set_option linter.unusedSimpArgs false
theorem Own.of_flat {w w' : World} {B B' : Nat → Prop} : ∀ {d : D} {u : Value}, d.flat → Rd w B d u → Own w' d B' u
  | .i _, _, _, h => h
  | .s _, _, _, h => h
  | .b _, _, _, h => h
theorem wpList_append_is {P : Program} {ops : Array Oper} {rest : List Oper} {o : Oper} {a : Act} {w : World} {Q : Exit → Act → World → Prop} (hgd : o.guard = none) (s x : Operand) (t : TypeId)
    (ho : o.op = .call { callee := .builtin .append, args := #[s, x], argTypes := #[t, t] }) (v y : Value) (hs : a.eval s = v) (hx : a.eval x = y) (v' : Value) (w' : World) (hr : (Builtin.append_ #[t, t] o.type #[v, y]).run P w = .ok v' w')
    (hk : wpList P ops Q rest (a.put o.dst v') w') : wpList P ops Q (o :: rest) a w := by
  refine wpList_plain hgd fun _ hK => ?_
  unfold Oper.wp execOp
  simp only [ho, resolve, invoke, builtin, Sem.run_bind, Sem.run_pure, Result.andThen_ok, List.map_toArray, List.map_cons, List.map_nil, hs, hx, hr]
  exact hK _ _ hk
theorem infoAtD : ∃ i, Tryz.prog.info? 84 = some i ∧ i.zero = some (.agg #[.int .i64 0, .int .i64 0, .string ⟨#[]⟩]) ∧ i.size = 3 ∧ i.bytes = 32 := by
  have h : (Tryz.prog.info? 84).map (fun i => (i.zero, i.size, i.bytes)) = some (some (.agg #[.int .i64 0, .int .i64 0, .string ⟨#[]⟩]), 3, 32) := by kernel_rfl
  obtain ⟨i, hi, hzz⟩ := Option.map_eq_some_iff.1 h
  simp only [Prod.mk.injEq] at hzz
  exact ⟨i, hi, hzz⟩
theorem atom_flat (x : At) (j : Nat) : (dAtom x j).flat := by
  match j with
  | 0 => trivial
  | 1 => trivial
  | _ + 2 => trivial
theorem app_nilA (l : List At) (a : Option Addr) (c : Nat) (B : Nat → Prop) (w : World) (ty : TypeId) (hl : l.length ≤ 1048576) (h : Rd w B (dAtomS l) (.slice a l.length c)) :
    ∃ a' c' w', (Builtin.append_ #[81, 81] ty #[.slice none 0 0, .slice a l.length c]).run Tryz.prog w = .ok (.slice a' l.length c') w' ∧ Own w' (dAtomS l) (fun b => w.heap.size ≤ b ∧ b < w'.heap.size) (.slice a' l.length c') ∧ Below w.heap.size w w' := by
  obtain ⟨i, hi, hz, hs, hby⟩ := infoAtD
  by_cases h0 : l.length = 0
  · refine ⟨none, 0, w, ?_, ⟨none, 0, rfl, by omega, .inl h0⟩, Below.refl _ _⟩
    rw [h0]
    cases a with
    | none => simp [Builtin.append_, run_underlying Tryz.underlying81, sizeOf, typeInfo, hi, Builtin.lenOf, Builtin.firstCells, loadCells, loadCellsFrom]
    | some ad => simp [Builtin.append_, run_underlying Tryz.underlying81, sizeOf, typeInfo, hi, Builtin.lenOf, Builtin.firstCells, loadCells, loadCellsFrom]
  · obtain ⟨b, off, ha, -, -⟩ := Rd.things (d := dAtom) (n := 3) h 0 (by omega)
    subst ha
    have hc : ∀ m, ∃ u, m < l.length * 3 → w.cell? ⟨b, off + m, none⟩ = some u ∧ Rd w B (lsF dAtom l (m / 3) (m % 3)) u := fun m => by
      by_cases hm : m < l.length * 3
      · obtain ⟨u, hu, hr⟩ := Rd.spotT (d := dAtom) (n := 3) h (i := m / 3) (j := m % 3) (by omega) (by omega)
        rw [Nat.add_assoc, Nat.div_add_mod'] at hu
        exact ⟨u, fun _ => ⟨hu, by rw [lsF_at (by omega)]; exact hr⟩⟩
      · exact ⟨undef, fun h => absurd h hm⟩
    obtain ⟨g, hg⟩ := Classical.axiomOfChoice hc
    have hnl : ((List.range (l.length * 3)).map g).length = l.length * i.size := by rw [hs]; simp
    have hr := run_append_nil (P := Tryz.prog) w 81 ty 84 i _ Tryz.underlying81 hi hz ⟨b, off, none⟩ l.length c ((List.range (l.length * 3)).map g) hnl (fun j u hj => by
      rw [List.getElem?_map, Option.map_eq_some_iff] at hj
      obtain ⟨m, hm, rfl⟩ := hj
      obtain ⟨hlt, rfl⟩ := List.getElem?_eq_some_iff.1 hm
      simp only [List.length_range] at hlt
      simp only [List.getElem_range]
      rw [Addr.add_mid]
      exact (hg j hlt).1) (by omega) (by omega) (by rw [hby]; omega)
    refine ⟨_, _, _, hr, ?_, ((Below.refl _ _).drew).alloc (Nat.le_refl _) _⟩
    have hnew := heap_newD w.drew (.cells (((List.range (l.length * 3)).map g).toArray ++ Builtin.zeroCells (Value.agg #[.int .i64 0, .int .i64 0, .string ⟨#[]⟩]).cells (grownCap w l.length 0 84 - l.length)) 84)
    refine OwnR.own (off := 0) (X := fun _ _ _ => False) ⟨⟨Nat.le_refl _, by simp⟩, by omega, fun _ _ _ h => h.elim, fun _ _ _ _ _ h => h.elim, fun q j hq hj => ?_⟩ _ (by first | exact grownCap_ge _ _ _ _ | omega)
    have hlt : q * 3 + j < l.length * 3 := by omega
    have h1 := hg (q * 3 + j) hlt
    refine ⟨g (q * 3 + j), ?_, ?_, ?_⟩
    · rw [Nat.zero_add]
      refine cell_at (b := w.heap.size) hnew ?_
      rw [Array.getElem?_append_left (by simpa using hlt)]
      simp [hlt]
    · exact frozen_at _ hnew
    · have h2 := h1.2
      rw [show (q * 3 + j) / 3 = q by omega, show (q * 3 + j) % 3 = j by omega] at h2
      exact Own.of_flat (by rw [lsF_at hq]; exact atom_flat _ _) h2
set_option maxRecDepth 100000 in
set_option maxHeartbeats 6400000 in
theorem copyRowI (x : RowV) (pb po : Nat) (a : Option Addr) (c : Nat) (B : Nat → Prop) (w : World) (ho : (dAtomSS x.cells).le 1048576) (hS : Rd w B (dAtomSS x.cells) (.slice a x.cells.length c))
    (hp0 : w.cell? ⟨pb, po, none⟩ = some (.int .i64 x.id)) (hp1 : w.cell? ⟨pb, po + 1, none⟩ = some (.slice a x.cells.length c)) :
    Calls Tryz.prog 77 #[.pointer (some ⟨pb, po, none⟩)] w fun e w' => ∃ q : Nat, e = .returned (.agg #[.int .i64 x.id, .slice (some ⟨q, 0, none⟩) x.cells.length x.cells.length]) ∧ Own w' (dAtomSS x.cells) (fun c => w.heap.size ≤ c ∧ c < w'.heap.size) (.slice (some ⟨q, 0, none⟩) x.cells.length x.cells.length) ∧ Below w.heap.size w w' := by
  have hl : x.cells.length ≤ 1048576 := (Ls_le.1 ho).2.1
  have HX : Hid (∀ i (h : i < x.cells.length) j, j < 1 → (cAtomS x.cells[i] j).le 1048576) := (Ls_le.1 ho).2.2
  have HS : Hid (∀ W, Below w.heap.size w W → Rd W B (Ls 1 cAtomS x.cells) (.slice a x.cells.length c)) := fun W h => Rd.later hS h
  have PC : Hid (∀ W, Below w.heap.size w W → W.cell? ⟨pb, po, none⟩ = some (.int .i64 x.id) ∧ W.cell? ⟨pb, po + 1, none⟩ = some (.slice a x.cells.length c)) := fun W h => ⟨(h.cell (p := ⟨pb, po, none⟩) (World.block_lt_of_cell? _ _ hp0)).trans hp0, (h.cell (p := ⟨pb, po + 1, none⟩) (World.block_lt_of_cell? _ _ hp1)).trans hp1⟩
  have hb1 := below_allocD w (.cells #[.int .i64 0, .slice none 0 0] 77)
  have hmk := run_mkAtomSS x.cells.length hl (w.alloc (.cells #[.int .i64 0, .slice none 0 0] 77))
  rw [Nat.mul_one, size_allocD] at hmk
  have e0 := (PC.out _ hb1).1
  have e1 := (PC.out _ hb1).2
  obtain ⟨V, hV⟩ : ∃ V, V = (w.alloc (.cells #[.int .i64 0, .slice none 0 0] 77)).alloc (.cells (madeCells #[.slice none 0 0] x.cells.length) 81) := ⟨_, rfl⟩
  have hbV : Below w.heap.size w V := by rw [hV]; exact hb1.trans ((below_allocD _ _).mono (by simp))
  have hTS : TS V 81 1 x.cells.length (lsF cAtomS x.cells) (w.heap.size + 1) 0 := by
    have := TS.start (w.alloc (.cells #[.int .i64 0, .slice none 0 0] 77)) #[.slice none 0 0] 81 1 x.cells.length (lsF cAtomS x.cells)
    rw [Nat.mul_one, size_allocD, ← hV] at this
    exact this
  have hbx : V.heap[w.heap.size]? = some (.cells #[.int .i64 0, .slice none 0 0] 77) := by rw [hV]; exact heap_keptD (heap_newD _ _) (below_allocD _ _)
  have H0 : Hid (Below w.heap.size w V ∧ TS V 81 1 x.cells.length (lsF cAtomS x.cells) (w.heap.size + 1) 0 ∧ V.heap[w.heap.size]? = some (.cells #[.int .i64 0, .slice none 0 0] 77)) := ⟨hbV, hTS, hbx⟩
  have HV := Lib.hid hV
  have f0 := (PC.out _ hbV).1
  have f1 := (PC.out _ hbV).2
  rw [hV] at f0 f1
  clear hV hbV hTS hbx hb1 hS ho hp0 hp1
  go_enter Tryz.func77, Tryz.ntmps77
  go_wp2_with fail
  clear hmk e0 e1 f0 f1
  rw [← HV.out]
  go_loopw [16] (fun i wr => ∃ k : Nat, k ≤ x.cells.length ∧ i = .int .i64 k ∧ Hid (Below w.heap.size w wr ∧ TS wr 81 1 x.cells.length (lsF cAtomS x.cells) (w.heap.size + 1) k ∧ wr.heap[w.heap.size]? = some (.cells #[.int .i64 0, .slice none 0 0] 77))) (fun i _ => x.cells.length - (intOf i).toNat)
  case atStart => exact ⟨0, Nat.zero_le _, rfl, H0.out⟩
  case round =>
    obtain ⟨k, hk, rfl, HD⟩ := hrel
    have f0 := (PC.out _ HD.out.1).1
    have f1 := (PC.out _ HD.out.1).2
    by_cases hlt : k < x.cells.length
    case neg =>
      have hk' : k = x.cells.length := by omega
      have hkd : decide ((k : Int) < (x.cells.length : Int)) = false := decide_eq_false (by omega)
      have r0 := cell_at (o := 0) HD.out.2.2 rfl
      have r1 := cell_at (o := 1) HD.out.2.2 rfl
      have g0 := frozen_at 0 HD.out.2.2
      have g1 := frozen_at 1 HD.out.2.2
      have HKK := Lib.hid hk'
      clear hk'
      go_wp2_with fail
      refine bodyPost_ret (v := .agg #[.int .i64 x.id, .slice (some ⟨w.heap.size + 1, 0, none⟩) x.cells.length x.cells.length]) (by simp [results, Tryz.results77, go_sem, *]) rfl ?_
      have hd := HD.out.2.1
      rw [HKK.out] at hd
      have hown := TS.done (by omega) hd
      have hfr : Frm (· = w.heap.size) wr ((wr.setCell ⟨w.heap.size, 0, none⟩ (.int .i64 x.id)).setCell ⟨w.heap.size, 1, none⟩ (.slice (some ⟨w.heap.size + 1, 0, none⟩) x.cells.length x.cells.length)) := (frm_set _ _ _ _).trans (frm_set _ _ _ _)
      refine ⟨w.heap.size + 1, rfl, ?_, ?_⟩
      · exact (hown.frm hfr (fun b hb e => by have h1 := hb.1; have e' : b = w.heap.size := e; omega)).mono (fun b hb => ⟨by have := hb.1; omega, by simpa using hb.2⟩)
      · exact (HD.out.1.setCell (Nat.le_refl _) _).setCell (Nat.le_refl _) _
    have hki : (k : Int) < (x.cells.length : Int) := by omega
    obtain ⟨b, off, rfl, -, hc⟩ := (HS.out _ HD.out.1).things k hlt
    obtain ⟨u0, c0, r0⟩ := hc 0 (by omega)
    replace r0 : Rd wr B (dAtomS x.cells[k]) u0 := r0
    obtain ⟨sa, sq, rfl⟩ := r0.lsSlice
    rw [Nat.mul_one] at c0
    replace c0 : wr.cell? ⟨b, off + k, none⟩ = _ := c0
    have HFA : Hid (lsF cAtomS x.cells k = cAtomS x.cells[k]) := lsF_at hlt
    obtain ⟨a1, c1, w1, hrun, ho1, hB1⟩ := app_nilA x.cells[k] sa sq B wr 81 (Ls_le.1 (HX.out k hlt 0 (by omega))).2.1 r0
    have HST : Hid (TS (w1.setCell ⟨w.heap.size + 1, k, none⟩ (.slice a1 x.cells[k].length c1)) 81 1 x.cells.length (lsF cAtomS x.cells) (w.heap.size + 1) (k + 1)) := by
      have := HD.out.2.1.step hB1 (fun _ => .slice a1 x.cells[k].length c1) ⟨fun j c => j = 0 ∧ wr.heap.size ≤ c ∧ c < w1.heap.size, fun _ _ h => h.2, fun _ _ _ h h' => by omega, fun j hj => by
        rw [HFA.out]
        obtain rfl : j = 0 := by omega
        exact ho1.mono (fun c h => ⟨rfl, h⟩)⟩
      simp only [putN, Nat.mul_one, Nat.add_zero] at this
      exact this
    obtain ⟨g, hg⟩ := HD.out.2.1.row
    have hg1 := hg.of_block (hB1.block _ hg.lt)
    rw [Nat.mul_one] at hg1
    have t0 := hg1.cell (i := k) hlt
    have z0 := hg1.frozen k
    have HW := Lib.hid (And.intro (HD.out.1.trans (hB1.mono HD.out.1.size)) (heap_keptD HD.out.2.2 hB1))
    have HRUN := Lib.hid hrun
    clear hg hg1 hB1 ho1 hc r0 HFA hrun
    generalize x.cells[k] = s at *
    go_wp2_with (at_builtin; go_must (refine wpList_append_is rfl (.const (.slice none 0 0)) (.tmp 27) 81 rfl _ _ rfl rfl _ _ HRUN.out ?_))
    go_roundw
    case rel => exact ⟨k + 1, by omega, by go_num, HW.out.1.setCell (by show w.heap.size ≤ w.heap.size + 1; omega) _, HST.out, by rw [Below.heap_setCell _ ⟨w.heap.size + 1, k, none⟩ _ _ (by show w.heap.size ≠ w.heap.size + 1; omega)]; exact HW.out.2⟩
    case measure => simp [intOf]; omega
end Go.Proofs.YtngbhifafdbpkaaGreat
