import Derived.Test.YtkjfefjkelckiaaYaj
import Derived.Test.YtkjfefjkelckiaaYad
import Derived.Deep.RegionHeld3
namespace Go.Proofs.Ytkjfefjkelckiaa
open Go.RowKit
set_option linter.unusedSimpArgs false
theorem step_append_is {P : Program} {ops : Array Oper} {o : Oper} {a : Act} {w : World} {K : Act → World → Prop} {Q : Exit → Act → World → Prop} {E : Prop} (hgd : o.guard = none) (s x : Operand) (t : TypeId)
    (ho : o.op = .call { callee := .builtin .append, args := #[s, x], argTypes := #[t, t] }) (v y : Value) (hs : a.eval s = v) (hx : a.eval x = y) (v' : Value) (w' : World) (hr : (Builtin.append_ #[t, t] o.type #[v, y]).run P w = .ok v' w')
    (hk : K (a.put o.dst v') w') : if Region.wanted o (yielded ops a.tmps) = true then Oper.wp P o a w K Q else E := by
  rw [if_pos (by simp [Region.wanted, hgd])]
  unfold Oper.wp execOp
  simp only [ho, resolve, invoke, builtin, Sem.run_bind, Sem.run_pure, Result.andThen_ok, List.map_toArray, List.map_cons, List.map_nil, hs, hx, hr]
  exact hk
theorem app_emptyA (l : List At) (g : Nat) (a : Option Addr) (c : Nat) (B : Nat → Prop) (w : World) (ty : TypeId) (hl : l.length ≤ 1048576) (h : Rd w B (dAtomS l) (.slice a l.length c)) :
    ∃ a' c' w', (Builtin.append_ #[74, 74] ty #[.slice (some ⟨g, 0, none⟩) 0 0, .slice a l.length c]).run Try.prog w = .ok (.slice a' l.length c') w' ∧ Rd w' (fun b => w.heap.size ≤ b ∧ b < w'.heap.size) (dAtomS l) (.slice a' l.length c') ∧ Below w.heap.size w w' := by
  obtain ⟨i, hi, hz, hs, hby⟩ := infoAtD
  by_cases h0 : l.length = 0
  · refine ⟨some ⟨g, 0, none⟩, 0, w, ?_, ⟨_, 0, rfl, .inl h0⟩, Below.refl _ _⟩
    rw [h0]
    cases a with
    | none => simp [Builtin.append_, run_underlying Try.underlying74, sizeOf, typeInfo, hi, Builtin.lenOf, Builtin.firstCells, loadCells, loadCellsFrom, storeCells]
    | some ad =>
      have hf := run_firstCells_some (P := Try.prog) w 3 0 ad 0 c [] rfl (fun j u h => by simp at h)
      simp [Builtin.append_, run_underlying Try.underlying74, sizeOf, typeInfo, zeroValue, hi, hz, hs, Builtin.lenOf, storeCells, hf]
  · obtain ⟨b, off, ha, -, -⟩ := Rd.things (d := dAtom) (n := 3) h 0 (by omega)
    subst ha
    have hc : ∀ m, ∃ u, m < l.length * 3 → w.cell? ⟨b, off + m, none⟩ = some u ∧ Rd w B (lsF dAtom l (m / 3) (m % 3)) u := fun m => by
      by_cases hm : m < l.length * 3
      · obtain ⟨u, hu, hr⟩ := Rd.spotT (d := dAtom) (n := 3) h (i := m / 3) (j := m % 3) (by omega) (by omega)
        rw [Nat.add_assoc, Nat.div_add_mod'] at hu
        exact ⟨u, fun _ => ⟨hu, by rw [lsF_at (by omega)]; exact hr⟩⟩
      · exact ⟨undef, fun h => absurd h hm⟩
    obtain ⟨g2, hg⟩ := Classical.axiomOfChoice hc
    have hnl : ((List.range (l.length * 3)).map g2).length = l.length * i.size := by rw [hs]; simp
    have hr := run_append_grow (P := Try.prog) w 74 ty 172 i _ Try.underlying74 hi hz ⟨g, 0, none⟩ 0 0 [] (by simp) (fun j u hj => by simp at hj) ⟨b, off, none⟩ l.length c ((List.range (l.length * 3)).map g2) hnl (fun j u hj => by
      rw [List.getElem?_map, Option.map_eq_some_iff] at hj
      obtain ⟨m, hm, rfl⟩ := hj
      obtain ⟨hlt, rfl⟩ := List.getElem?_eq_some_iff.1 hm
      simp only [List.length_range] at hlt
      simp only [List.getElem_range]
      rw [Addr.add_mid]
      exact (hg j hlt).1) (by omega) (by omega) (by rw [Nat.zero_add, nextslicecap_zero (by omega), hby]; omega)
    simp only [Nat.zero_add] at hr
    refine ⟨_, _, _, hr, ?_, ((Below.refl _ _).drew).alloc (Nat.le_refl _) _⟩
    have hnew := heap_newD w.drew (.cells ((([] : List Value).toArray ++ ((List.range (l.length * 3)).map g2).toArray) ++ Builtin.zeroCells (Value.agg #[.int .i64 0, .int .i64 0, .string ⟨#[]⟩]).cells (grownCap w l.length 0 172 - l.length)) 172)
    refine ⟨_, _, rfl, .inr ⟨w.heap.size, 0, rfl, ⟨Nat.le_refl _, by simp⟩, by omega, fun q j hq hj => ?_⟩⟩
    have hlt : q * 3 + j < l.length * 3 := by omega
    have h1 := hg (q * 3 + j) hlt
    refine ⟨g2 (q * 3 + j), ?_, ?_⟩
    · rw [Nat.zero_add]
      refine cell_at (b := w.heap.size) hnew ?_
      rw [Array.getElem?_append_left (by simpa using hlt)]
      simp [hlt]
    · have h2 := h1.2
      rw [show (q * 3 + j) / 3 = q by omega, show (q * 3 + j) % 3 = j by omega] at h2
      have h3 : Own w (lsF dAtom l q j) (fun _ => True) (g2 (q * 3 + j)) := Own.of_flat (by rw [lsF_at hq]; exact atom_flat _ _) h2
      exact (Own.flat (w' := _) (B' := _) (by rw [lsF_at hq]; exact atom_flat _ _) h3).rd'
theorem infoAs : ∃ i, Try.prog.info? 74 = some i ∧ i.zero = some (.slice none 0 0) ∧ i.size = 1 ∧ i.bytes = 24 := by
  have h : (Try.prog.info? 74).map (fun i => (i.zero, i.size, i.bytes)) = some (some (.slice none 0 0), 1, 24) := by kernel_rfl
  obtain ⟨i, hi, hzz⟩ := Option.map_eq_some_iff.1 h
  simp only [Prod.mk.injEq] at hzz
  exact ⟨i, hi, hzz⟩
end Go.Proofs.Ytkjfefjkelckiaa
