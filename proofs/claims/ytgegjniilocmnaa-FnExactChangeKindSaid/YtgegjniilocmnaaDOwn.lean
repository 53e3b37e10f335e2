import Derived.Test.YtgegjniilocmnaaDCpy
import Derived.Test.YtgegjniilocmnaaDGrow
import Derived.Deep.RegionHeld3
namespace Go.Proofs.Ytgegjniilocmnaa
open Go.RowKit
set_option linter.unusedSimpArgs false
/-- append, where its run is known, in a region that draws -/
theorem step_append_is {P : Program} {ops : Array Oper} {o : Oper} {a : Act} {w : World} {K : Act → World → Prop} {Q : Exit → Act → World → Prop} {E : Prop} (hgd : o.guard = none) (s x : Operand) (t : TypeId)
    (ho : o.op = .call { callee := .builtin .append, args := #[s, x], argTypes := #[t, t] }) (v y : Value) (hs : a.eval s = v) (hx : a.eval x = y) (v' : Value) (w' : World) (hr : (Builtin.append_ #[t, t] o.type #[v, y]).run P w = .ok v' w')
    (hk : K (a.put o.dst v') w') : if Region.wanted o (yielded ops a.tmps) = true then Oper.wp P o a w K Q else E := by
  rw [if_pos (by simp [Region.wanted, hgd])]
  unfold Oper.wp execOp
  simp only [ho, resolve, invoke, builtin, Sem.run_bind, Sem.run_pure, Result.andThen_ok, List.map_toArray, List.map_cons, List.map_nil, hs, hx, hr]
  exact hk
/-- append of atoms to an empty list -/
theorem app_emptyA (l : List At) (g : Nat) (a : Option Addr) (c : Nat) (B : Nat → Prop) (w : World) (ty : TypeId) (hl : l.length ≤ 1048576) (h : Rd w B (dAtomS l) (.slice a l.length c)) :
    ∃ a' c' w', (Builtin.append_ #[48, 48] ty #[.slice (some ⟨g, 0, none⟩) 0 0, .slice a l.length c]).run Try.prog w = .ok (.slice a' l.length c') w' ∧ Rd w' (fun b => w.heap.size ≤ b ∧ b < w'.heap.size) (dAtomS l) (.slice a' l.length c') ∧ Below w.heap.size w w' := by
  obtain ⟨i, hi, hz, hs, hby⟩ := infoAtD
  by_cases h0 : l.length = 0
  · refine ⟨some ⟨g, 0, none⟩, 0, w, ?_, ⟨_, 0, rfl, .inl h0⟩, Below.refl _ _⟩
    rw [h0]
    cases a with
    | none => simp [Builtin.append_, run_underlying Try.underlying48, sizeOf, typeInfo, hi, Builtin.lenOf, Builtin.firstCells, loadCells, loadCellsFrom, storeCells]
    | some ad =>
      have hf := run_firstCells_some (P := Try.prog) w 3 0 ad 0 c [] rfl (fun j u h => by simp at h)
      simp [Builtin.append_, run_underlying Try.underlying48, sizeOf, typeInfo, zeroValue, hi, hz, hs, Builtin.lenOf, storeCells, hf]
  · obtain ⟨b, off, ha, -, -⟩ := Rd.things (d := dAtom) (n := 3) h 0 (by omega)
    subst ha
    have hc : ∀ m, ∃ u, m < l.length * 3 → w.cell? ⟨b, off + m, none⟩ = some u ∧ Rd w B (lsF dAtom l (m / 3) (m % 3)) u := fun m => by
      by_cases hm : m < l.length * 3
      · obtain ⟨u, hu, hr⟩ := Rd.spotT (d := dAtom) (n := 3) h (i := m / 3) (j := m % 3) (by omega) (by omega)
        rw [Nat.add_assoc, Nat.div_add_mod'] at hu
        exact ⟨u, fun _ => ⟨hu, by rw [lsF_at (by omega)]; exact hr⟩⟩
      · exact ⟨undef, fun h => absurd h hm⟩
    obtain ⟨g2, hg⟩ := Classical.axiomOfChoice hc
    have hnl : ((List.range (l.length * 3)).map g2).length = l.length * i.size := by rw [hs]; simp
    have hr := run_append_grow (P := Try.prog) w 48 ty 54 i _ Try.underlying48 hi hz ⟨g, 0, none⟩ 0 0 [] (by simp) (fun j u hj => by simp at hj) ⟨b, off, none⟩ l.length c ((List.range (l.length * 3)).map g2) hnl (fun j u hj => by
      rw [List.getElem?_map, Option.map_eq_some_iff] at hj
      obtain ⟨m, hm, rfl⟩ := hj
      obtain ⟨hlt, rfl⟩ := List.getElem?_eq_some_iff.1 hm
      simp only [List.length_range] at hlt
      simp only [List.getElem_range]
      rw [Addr.add_mid]
      exact (hg j hlt).1) (by omega) (by omega) (by rw [Nat.zero_add, nextslicecap_zero (by omega), hby]; omega)
    simp only [Nat.zero_add] at hr
    refine ⟨_, _, _, hr, ?_, ((Below.refl _ _).drew).alloc (Nat.le_refl _) _⟩
    have hnew := heap_newD w.drew (.cells ((([] : List Value).toArray ++ ((List.range (l.length * 3)).map g2).toArray) ++ Builtin.zeroCells (Value.agg #[.int .i64 0, .int .i64 0, .string ⟨#[]⟩]).cells (grownCap w l.length 0 54 - l.length)) 54)
    refine ⟨_, _, rfl, .inr ⟨w.heap.size, 0, rfl, ⟨Nat.le_refl _, by simp⟩, by omega, fun q j hq hj => ?_⟩⟩
    have hlt : q * 3 + j < l.length * 3 := by omega
    have h1 := hg (q * 3 + j) hlt
    refine ⟨g2 (q * 3 + j), ?_, ?_⟩
    · rw [Nat.zero_add]
      refine cell_at (b := w.heap.size) hnew ?_
      rw [Array.getElem?_append_left (by simpa using hlt)]
      simp [hlt]
    · have h2 := h1.2
      rw [show (q * 3 + j) / 3 = q by omega, show (q * 3 + j) % 3 = j by omega] at h2
      have h3 : Own w (lsF dAtom l q j) (fun _ => True) (g2 (q * 3 + j)) := Own.of_flat (by rw [lsF_at hq]; exact atom_flat _ _) h2
      exact (Own.flat (w' := _) (B' := _) (by rw [lsF_at hq]; exact atom_flat _ _) h3).rd'
theorem infoAs : ∃ i, Try.prog.info? 48 = some i ∧ i.zero = some (.slice none 0 0) ∧ i.size = 1 ∧ i.bytes = 24 := by
  have h : (Try.prog.info? 48).map (fun i => (i.zero, i.size, i.bytes)) = some (some (.slice none 0 0), 1, 24) := by kernel_rfl
  obtain ⟨i, hi, hzz⟩ := Option.map_eq_some_iff.1 h
  simp only [Prod.mk.injEq] at hzz
  exact ⟨i, hi, hzz⟩
/-- while a row is copied by appending -/
structure OSt (w wr : World) (x : RowV) (a : Option Addr) (c k : Nat) (v : Value) : Prop where
  bx : wr.heap[w.heap.size]? = some (.cells #[.int .i64 x.id, .slice a x.cells.length c] 32)
  rv : wr.heap[w.heap.size + 1]? = some (.cells #[.int .i64 0, .slice none 0 0] 32)
  ot : wr.heap[w.heap.size + 1 + 1 + 1]? = some (.cells #[.int .i64 x.id, v] 32)
  gr : SG wr (w.heap.size + 1 + 1) (fun c => w.heap.size + 1 + 1 ≤ c ∧ c ≠ w.heap.size + 1 + 1 + 1) 48 1 (lsF cAtomS x.cells) k v
  ne : v.ownBlock ≠ some (w.heap.size + 1 + 1 + 1)
  lo : ∀ g, v.ownBlock = some g → w.heap.size + 1 + 1 ≤ g ∧ g < wr.heap.size
  bel : Below w.heap.size w wr
theorem OSt.first (w : World) (x : RowV) (a : Option Addr) (c : Nat) : OSt w ((((w.alloc (.cells #[.int .i64 x.id, .slice a x.cells.length c] 32)).alloc (.cells #[.int .i64 0, .slice none 0 0] 32)).alloc (.cells #[] 48)).alloc (.cells #[.int .i64 x.id, .slice (some ⟨w.heap.size + 1 + 1, 0, none⟩) 0 0] 32)) x a c 0 (.slice (some ⟨w.heap.size + 1 + 1, 0, none⟩) 0 0) := by
  have h3 : ∀ (V : World) (o : Obj) (b : Nat) (x : Obj), V.heap[b]? = some x → (V.alloc o).heap[b]? = some x := fun V o b x h => heap_keptD h (below_allocD _ _)
  have s1 := size_allocD w (.cells #[.int .i64 x.id, .slice a x.cells.length c] 32)
  have e1 := heap_newD (w.alloc (.cells #[.int .i64 x.id, .slice a x.cells.length c] 32)) (.cells #[.int .i64 0, .slice none 0 0] 32)
  have s2 := size_allocD (w.alloc (.cells #[.int .i64 x.id, .slice a x.cells.length c] 32)) (.cells #[.int .i64 0, .slice none 0 0] 32)
  have e2 := heap_newD ((w.alloc (.cells #[.int .i64 x.id, .slice a x.cells.length c] 32)).alloc (.cells #[.int .i64 0, .slice none 0 0] 32)) (.cells #[] 48)
  have s3 := size_allocD ((w.alloc (.cells #[.int .i64 x.id, .slice a x.cells.length c] 32)).alloc (.cells #[.int .i64 0, .slice none 0 0] 32)) (.cells #[] 48)
  have e3 := heap_newD (((w.alloc (.cells #[.int .i64 x.id, .slice a x.cells.length c] 32)).alloc (.cells #[.int .i64 0, .slice none 0 0] 32)).alloc (.cells #[] 48)) (.cells #[.int .i64 x.id, .slice (some ⟨w.heap.size + 1 + 1, 0, none⟩) 0 0] 32)
  rw [s1] at e1 s2
  rw [s2] at e2 s3
  rw [s3] at e3
  refine ⟨h3 _ _ _ _ (h3 _ _ _ _ (h3 _ _ _ _ (heap_newD _ _))), h3 _ _ _ _ (h3 _ _ _ _ e1), e3, SG.start (Nat.le_refl _) (h3 _ _ _ _ e2), ?_, fun g hg => ?_, ?_⟩
  · simp [Value.ownBlock]
  · simp only [Value.ownBlock, Option.some.injEq] at hg
    subst hg
    refine ⟨Nat.le_refl _, ?_⟩
    have := size_allocD (((w.alloc (.cells #[.int .i64 x.id, .slice a x.cells.length c] 32)).alloc (.cells #[.int .i64 0, .slice none 0 0] 32)).alloc (.cells #[] 48)) (.cells #[.int .i64 x.id, .slice (some ⟨w.heap.size + 1 + 1, 0, none⟩) 0 0] 32)
    omega
  · exact ((((Below.refl _ _).alloc (Nat.le_refl _) _).alloc (by simp) _).alloc (by simp; omega) _).alloc (by simp; omega) _
theorem OSt.step {w wr V w3 : World} {x : RowV} {a : Option Addr} {c k : Nat} {v v' : Value} (h : OSt w wr x a c k v) (hB2 : Below wr.heap.size wr V) (hs : SG w3 (w.heap.size + 1 + 1) (fun c => w.heap.size + 1 + 1 ≤ c ∧ c ≠ w.heap.size + 1 + 1 + 1) 48 1 (lsF cAtomS x.cells) (k + 1) v') (hg : V.grownBy w3 v.ownBlock) (hl : ∃ g, v'.ownBlock = some g ∧ (v.ownBlock = some g ∨ V.heap.size ≤ g)) (hlt : ∀ g, v'.ownBlock = some g → g < w3.heap.size) :
    OSt w (w3.setCell ⟨w.heap.size + 1 + 1 + 1, 1, none⟩ v') x a c (k + 1) v' ∧ w3.heap[w.heap.size + 1 + 1 + 1]? = some (.cells #[.int .i64 x.id, v] 32) := by
  have keep : ∀ b y, wr.heap[b]? = some y → v.ownBlock ≠ some b → w3.heap[b]? = some y := fun b y hx hn => by
    have hlt := (Array.getElem?_eq_some_iff.1 hx).1
    rw [hg.block b (Nat.lt_of_lt_of_le hlt hB2.size) (fun e => hn e.symm), hB2.block b hlt]; exact hx
  have lo := h.lo
  have n0 : v.ownBlock ≠ some w.heap.size := fun e => by have := (lo _ e).1; omega
  have n1 : v.ownBlock ≠ some (w.heap.size + 1) := fun e => by have := (lo _ e).1; omega
  obtain ⟨g, hgv, hgg⟩ := hl
  have hp := (Array.getElem?_eq_some_iff.1 h.ot).1
  have hgp : g ≠ w.heap.size + 1 + 1 + 1 := by
    rcases hgg with e | e
    · intro e'; subst e'; exact h.ne e
    · have := hB2.size; omega
  have o3 := keep _ _ h.ot h.ne
  refine ⟨⟨?_, ?_, heap_set 1 v' o3, ?_, ?_, fun q hq => ?_, ?_⟩, o3⟩
  · rw [Below.heap_setCell _ ⟨w.heap.size + 1 + 1 + 1, 1, none⟩ v' _ (by show w.heap.size ≠ w.heap.size + 1 + 1 + 1; omega)]; exact keep _ _ h.bx n0
  · rw [Below.heap_setCell _ ⟨w.heap.size + 1 + 1 + 1, 1, none⟩ v' _ (by show w.heap.size + 1 ≠ w.heap.size + 1 + 1 + 1; omega)]; exact keep _ _ h.rv n1
  · exact hs.same (p := w.heap.size + 1 + 1 + 1) (by simp [World.setCell]) (fun b hb => Below.heap_setCell _ _ _ _ hb) (by rw [hgv]; intro e; simp at e; exact hgp e) (fun c hc => hc.2)
  · rw [hgv]; intro e; simp at e; exact hgp e
  · have h2 := hlt q hq
    rw [hgv] at hq
    simp only [Option.some.injEq] at hq
    subst hq
    refine ⟨?_, by simpa [World.setCell] using h2⟩
    rcases hgg with e | e
    · exact (lo _ e).1
    · have := hB2.size; omega
  · have hb3 : Below w.heap.size w w3 := h.bel.trans ⟨hg.os.trans hB2.os, hg.tape.trans hB2.tape, hg.output.trans hB2.output, Nat.le_trans hB2.size hg.size, fun b hb => by
      have hlt : b < wr.heap.size := Nat.lt_of_lt_of_le hb h.bel.size
      rw [hg.block b (Nat.lt_of_lt_of_le hlt hB2.size) (fun e => by have := (lo _ e.symm).1; omega), hB2.block b hlt]⟩
    exact hb3.setCell (by show w.heap.size ≤ w.heap.size + 1 + 1 + 1; omega) _
end Go.Proofs.Ytgegjniilocmnaa
