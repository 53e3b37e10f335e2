import Derived.Test.YthpenliecgpedaaZao
import Derived.Test.YthpenliecgpedaaZaq
namespace Go.Proofs.Ythpenliecgpedaa
open Go.RowKit
set_option linter.unusedSimpArgs false
theorem wpList_appIs {P : Program} {ops : Array Oper} {rest : List Oper} {o : Oper} {a : Act} {w : World} {Q : Exit → Act → World → Prop} (hgd : o.guard = none) (s x : Operand) (t : TypeId)
    (ho : o.op = .call { callee := .builtin .append, args := #[s, x], argTypes := #[t, t] }) (v y : Value) (hs : a.eval s = v) (hx : a.eval x = y) (v' : Value) (w' : World) (hr : (Builtin.append_ #[t, t] o.type #[v, y]).run P w = .ok v' w')
    (hk : wpList P ops Q rest (a.put o.dst v') w') : wpList P ops Q (o :: rest) a w := by
  refine wpList_plain hgd fun _ hK => ?_
  unfold Oper.wp execOp
  simp only [ho, resolve, invoke, builtin, Sem.run_bind, Sem.run_pure, Result.andThen_ok, List.map_toArray, List.map_cons, List.map_nil, hs, hx, hr]
  exact hK _ _ hk
theorem infoStr : ∃ i, Try.prog.info? 9 = some i ∧ i.zero = some (.string ⟨#[]⟩) ∧ i.size = 1 ∧ i.bytes = 16 := by
  have h : (Try.prog.info? 9).map (fun i => (i.zero, i.size, i.bytes)) = some (some (.string ⟨#[]⟩), 1, 16) := by kernel_rfl
  obtain ⟨i, hi, hzz⟩ := Option.map_eq_some_iff.1 h
  simp only [Prod.mk.injEq] at hzz
  exact ⟨i, hi, hzz⟩
def StG (base : Nat) (W : World) (F : List (List UInt8)) (v : Value) : Prop := ∃ es : List OgE, es.length = F.length ∧ OG base W 9 1 (lsF cString F) es v
theorem StG.nil (base : Nat) (W : World) : StG base W [] (.slice none 0 0) := ⟨[], rfl, OG.nil _ _ _ _ _⟩
theorem StG.start {base : Nat} {W : World} {g : Nat} (hg : base ≤ g) (hh : W.heap[g]? = some (.cells #[] 9)) : StG base W [] (.slice (some ⟨g, 0, none⟩) 0 0) := ⟨[], rfl, OG.start _ hg hh⟩
theorem StG.later {base : Nat} {W W' : World} {F : List (List UInt8)} {v : Value} (h : StG base W F v) (hB : Below W.heap.size W W') : StG base W' F v := by
  obtain ⟨es, h1, h2⟩ := h
  exact ⟨es, h1, h2.later hB⟩
theorem StG.shape {base : Nat} {W : World} {F : List (List UInt8)} {v : Value} (h : StG base W F v) : ∃ a c, v = .slice a F.length c := by
  obtain ⟨es, h1, h2⟩ := h
  rw [← h1]; exact h2.shape
theorem StG.own {base : Nat} {W : World} {F : List (List UInt8)} {v : Value} (h : StG base W F v) : Own W (dStringS F) (fun c => base ≤ c ∧ c < W.heap.size) v := by
  obtain ⟨es, h1, h2⟩ := h
  have h3 := h2.own (by omega)
  rw [h1] at h3
  exact h3
theorem StG.push {base : Nat} {W V : World} {F : List (List UInt8)} {v : Value} (h : StG base W F v) (hB : Below W.heap.size W V) (s : List UInt8) (p : Addr) (pc : Nat) (hp : V.cell? (p.add 0) = some (.string ⟨s.toArray⟩)) (hb : base ≤ W.heap.size) (hl : F.length + 1 ≤ 1000000) :
    ∃ a' c' W', (Builtin.append_ #[35, 35] 35 #[v, .slice (some p) 1 pc]).run Try.prog V = .ok (.slice a' (F.length + 1) c') W' ∧ StG base W' (F ++ [s]) (.slice a' (F.length + 1) c') ∧ (∀ b, b < V.heap.size → v.ownBlock ≠ some b → W'.heap[b]? = V.heap[b]?) ∧ Below base W W' ∧ V.heap.size ≤ W'.heap.size := by
  obtain ⟨es, h1, h2⟩ := h
  obtain ⟨i, hi, hz, hs, hby⟩ := infoStr
  have h3 : OG base W 9 1 (lsF cString (F ++ [s])) es v := ⟨h2.ow, fun k hk => by
    obtain ⟨k1, k2⟩ := h2.el k hk
    refine ⟨fun j hj => ?_, k2⟩
    have e : lsF cString (F ++ [s]) k = lsF cString F k := by
      rw [lsF_at (l := F ++ [s]) (i := k) (by simp; omega), lsF_at (l := F) (i := k) (by omega), List.getElem_append_left (by omega)]
    rw [e]; exact k1 j hj, h2.ds⟩
  have hml : F.length + 1 ≤ maxLen := by unfold maxLen; omega
  obtain ⟨a', c', W', r1, r2, r3, r4, r5, -⟩ := h3.push (P := Try.prog) (by omega) hB 35 35 i (.string ⟨#[]⟩) 16 Try.underlying35 hi hz hs hby rfl ⟨fun _ => .string ⟨s.toArray⟩, fun _ => V.heap.size⟩ p pc (fun j hj => by
    obtain rfl : j = 0 := by omega
    exact hp) (fun _ _ => rfl) hB.size (fun _ _ _ _ => Nat.le_refl _) (Nat.le_refl _) (fun j hj => by
    obtain rfl : j = 0 := by omega
    rw [lsF_at (l := F ++ [s]) (i := es.length) (by simp; omega), List.getElem_append_right (by omega)]
    simp only [h1, Nat.sub_self, List.getElem_cons_zero]
    exact rfl) hb (by omega) (by omega)
  rw [h1] at r1 r2
  exact ⟨a', c', W', r1, ⟨_, by simp [h1], r2⟩, r3, r4, r5⟩
def ownN : List LkV → Int → List (List UInt8)
  | [], _ => []
  | x :: l, n => if x.qu.headD (-1) = n then x.nm :: ownN l n else ownN l n
theorem ownN_len (l : List LkV) (n : Int) : (ownN l n).length ≤ l.length := by
  induction l with
  | nil => exact Nat.le_refl _
  | cons x l ih => unfold ownN; split <;> simp <;> omega
theorem ownN_snoc (l : List LkV) (x : LkV) (n : Int) : ownN (l ++ [x]) n = ownN l n ++ (if x.qu.headD (-1) = n then [x.nm] else []) := by
  induction l with
  | nil => simp only [List.nil_append, ownN]
  | cons y l ih => rw [List.cons_append, ownN, ownN, ih]; split <;> simp
theorem ownN_take {l : List LkV} {k : Nat} (hk : k < l.length) (n : Int) : ownN (l.take (k + 1)) n = ownN (l.take k) n ++ (if l[k].qu.headD (-1) = n then [l[k].nm] else []) := by
  rw [List.take_succ_eq_append_getElem hk, ownN_snoc]
theorem head_at {q : List Int} (h : 0 < q.length) : q.headD (-1) = q[0] := by
  cases q with
  | nil => simp at h
  | cons x l => rfl
end Go.Proofs.Ythpenliecgpedaa
