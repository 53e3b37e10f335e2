import Derived.Test.YtgegjniilocmnaaDStP
import Derived.Laws.Append
namespace Go.Proofs.Ytgegjniilocmnaa
open Go.RowKit
set_option linter.unusedSimpArgs false
theorem Own.of_flat {w w' : World} {B B' : Nat → Prop} : ∀ {d : D} {u : Value}, d.flat → Rd w B d u → Own w' d B' u
  | .i _, _, _, h => h
  | .s _, _, _, h => h
  | .b _, _, _, h => h
/-- append, where its run is known -/
theorem wpList_append_is {P : Program} {ops : Array Oper} {rest : List Oper} {o : Oper} {a : Act} {w : World} {Q : Exit → Act → World → Prop} (hgd : o.guard = none) (s x : Operand) (t : TypeId)
    (ho : o.op = .call { callee := .builtin .append, args := #[s, x], argTypes := #[t, t] }) (v y : Value) (hs : a.eval s = v) (hx : a.eval x = y) (v' : Value) (w' : World) (hr : (Builtin.append_ #[t, t] o.type #[v, y]).run P w = .ok v' w')
    (hk : wpList P ops Q rest (a.put o.dst v') w') : wpList P ops Q (o :: rest) a w := by
  refine wpList_plain hgd fun _ hK => ?_
  unfold Oper.wp execOp
  simp only [ho, resolve, invoke, builtin, Sem.run_bind, Sem.run_pure, Result.andThen_ok, List.map_toArray, List.map_cons, List.map_nil, hs, hx, hr]
  exact hK _ _ hk
theorem infoAtD : ∃ i, Try.prog.info? 54 = some i ∧ i.zero = some (.agg #[.int .i64 0, .int .i64 0, .string ⟨#[]⟩]) ∧ i.size = 3 ∧ i.bytes = 32 := by
  have h : (Try.prog.info? 54).map (fun i => (i.zero, i.size, i.bytes)) = some (some (.agg #[.int .i64 0, .int .i64 0, .string ⟨#[]⟩]), 3, 32) := by kernel_rfl
  obtain ⟨i, hi, hzz⟩ := Option.map_eq_some_iff.1 h
  simp only [Prod.mk.injEq] at hzz
  exact ⟨i, hi, hzz⟩
theorem atom_flat (x : At) (j : Nat) : (dAtom x j).flat := by
  match j with
  | 0 => trivial
  | 1 => trivial
  | _ + 2 => trivial
/-- append of atoms to nothing: a copy in memory of its own -/
theorem app_nilA (l : List At) (a : Option Addr) (c : Nat) (B : Nat → Prop) (w : World) (ty : TypeId) (hl : l.length ≤ 1048576) (h : Rd w B (dAtomS l) (.slice a l.length c)) :
    ∃ a' c' w', (Builtin.append_ #[48, 48] ty #[.slice none 0 0, .slice a l.length c]).run Try.prog w = .ok (.slice a' l.length c') w' ∧ Own w' (dAtomS l) (fun b => w.heap.size ≤ b ∧ b < w'.heap.size) (.slice a' l.length c') ∧ Below w.heap.size w w' := by
  obtain ⟨i, hi, hz, hs, hby⟩ := infoAtD
  by_cases h0 : l.length = 0
  · refine ⟨none, 0, w, ?_, ⟨none, 0, rfl, .inl h0⟩, Below.refl _ _⟩
    rw [h0]
    cases a with
    | none => simp [Builtin.append_, run_underlying Try.underlying48, sizeOf, typeInfo, hi, Builtin.lenOf, Builtin.firstCells, loadCells, loadCellsFrom]
    | some ad => simp [Builtin.append_, run_underlying Try.underlying48, sizeOf, typeInfo, hi, Builtin.lenOf, Builtin.firstCells, loadCells, loadCellsFrom]
  · obtain ⟨b, off, ha, -, -⟩ := Rd.things (d := dAtom) (n := 3) h 0 (by omega)
    subst ha
    have hc : ∀ m, ∃ u, m < l.length * 3 → w.cell? ⟨b, off + m, none⟩ = some u ∧ Rd w B (lsF dAtom l (m / 3) (m % 3)) u := fun m => by
      by_cases hm : m < l.length * 3
      · obtain ⟨u, hu, hr⟩ := Rd.spotT (d := dAtom) (n := 3) h (i := m / 3) (j := m % 3) (by omega) (by omega)
        rw [Nat.add_assoc, Nat.div_add_mod'] at hu
        exact ⟨u, fun _ => ⟨hu, by rw [lsF_at (by omega)]; exact hr⟩⟩
      · exact ⟨undef, fun h => absurd h hm⟩
    obtain ⟨g, hg⟩ := Classical.axiomOfChoice hc
    have hnl : ((List.range (l.length * 3)).map g).length = l.length * i.size := by rw [hs]; simp
    have hr := run_append_nil (P := Try.prog) w 48 ty 54 i _ Try.underlying48 hi hz ⟨b, off, none⟩ l.length c ((List.range (l.length * 3)).map g) hnl (fun j u hj => by
      rw [List.getElem?_map, Option.map_eq_some_iff] at hj
      obtain ⟨m, hm, rfl⟩ := hj
      obtain ⟨hlt, rfl⟩ := List.getElem?_eq_some_iff.1 hm
      simp only [List.length_range] at hlt
      simp only [List.getElem_range]
      rw [Addr.add_mid]
      exact (hg j hlt).1) (by omega) (by omega) (by rw [hby]; omega)
    refine ⟨_, _, _, hr, ?_, ((Below.refl _ _).drew).alloc (Nat.le_refl _) _⟩
    have hnew := heap_newD w.drew (.cells (((List.range (l.length * 3)).map g).toArray ++ Builtin.zeroCells (Value.agg #[.int .i64 0, .int .i64 0, .string ⟨#[]⟩]).cells (grownCap w l.length 0 54 - l.length)) 54)
    refine OwnR.own (off := 0) (X := fun _ _ _ => False) ⟨⟨Nat.le_refl _, by simp⟩, by omega, fun _ _ _ h => h.elim, fun _ _ _ _ _ h => h.elim, fun q j hq hj => ?_⟩ _
    have hlt : q * 3 + j < l.length * 3 := by omega
    have h1 := hg (q * 3 + j) hlt
    refine ⟨g (q * 3 + j), ?_, ?_, ?_⟩
    · rw [Nat.zero_add]
      refine cell_at (b := w.heap.size) hnew ?_
      rw [Array.getElem?_append_left (by simpa using hlt)]
      simp [hlt]
    · exact frozen_at _ hnew
    · have h2 := h1.2
      rw [show (q * 3 + j) / 3 = q by omega, show (q * 3 + j) % 3 = j by omega] at h2
      exact Own.of_flat (by rw [lsF_at hq]; exact atom_flat _ _) h2
end Go.Proofs.Ytgegjniilocmnaa
