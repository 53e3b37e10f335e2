import Derived.Test.YtkncpfhblciplaaYaw
namespace Go.Proofs.Ytkncpfhblciplaa
open Go.RowKit
set_option linter.unusedSimpArgs false
theorem wpList_appZ {ops : Array Oper} {rest : List Oper} {o : Oper} {a : Act} {w : World} {Q : Exit → Act → World → Prop} (hgd : o.guard = none) (d x : Operand)
    (ho : o.op = .call { callee := .builtin .append, args := #[d, x], argTypes := #[48, 3] }) (v u : Value) (hd : a.eval d = v) (hx : a.eval x = u) {v' : Value} {w' : World}
    (hr : (Builtin.append_ #[48, 3] o.type #[v, u]).run Try.prog w = .ok v' w') (h : wpList Try.prog ops Q rest (a.put o.dst v') w') : wpList Try.prog ops Q (o :: rest) a w := by
  refine wpList_plain hgd fun K hK => ?_
  unfold Oper.wp execOp
  simp only [ho, resolve, invoke, builtin, Sem.run_bind, Sem.run_pure, Result.andThen_ok, List.map_toArray, List.map_cons, List.map_nil, hd, hx, hr]
  exact hK _ _ h
theorem own_at {a : Addr} {n c q : Nat} (h : Value.ownBlock (.slice (some a) n c) = some q) : a.block ≤ q := by
  have e : a.block = q := by simpa [Value.ownBlock] using h
  omega
theorem zeros_len (n : Nat) : (Builtin.zeroCells (Value.agg zeroAt).cells n).size = n * 3 := by
  simp [Builtin.zeroCells, Value.cells, zeroAt]
set_option maxRecDepth 100000 in
set_option maxHeartbeats 3200000 in
theorem insertGrow (l : List At) (x : At) (i g cap vb B : Nat) (w : World) (hl : l.length ≤ 1000) (hi : i < l.length) (hr : cap = l.length) (hB : B ≤ w.heap.size) (hb : ABuf w B (.slice (some ⟨g, 0, none⟩) l.length cap) l) (ho : OneA w (.slice (some ⟨g, 0, none⟩) l.length cap) vb x) :
    Calls Try.prog 130 #[.slice (some ⟨g, 0, none⟩) l.length cap, .int .i64 i, .slice (some ⟨vb, 0, none⟩) 1 1] w (InsAns w B (.slice (some ⟨g, 0, none⟩) l.length cap) (insA l i x)) := by
  subst hr
  obtain ⟨cur, hbq, hxs⟩ : ∃ cur, w.heap[g]? = some (.cells cur 31 (0, 0)) ∧ cur.toList.take (l.length * 3) = atCs l := by
    rcases hb.2 with ⟨e, -⟩ | ⟨g', l.length', cur, e, hg, hbq, hn, hcap, hcs, hxs⟩
    · cases e
    · injection e with e1 e2 e3
      injection e1 with e1
      injection e1 with e1
      subst e1
      exact ⟨cur, hbq, hxs⟩
  have hgw : g < w.heap.size := (Array.getElem?_eq_some_iff.1 hbq).1
  have hvw : vb < w.heap.size := (Array.getElem?_eq_some_iff.1 ho.1).1
  obtain ⟨ti, hti, hz, hs, hby⟩ := infoAt'
  have hik : i + (l.length + 1 - i) = l.length + 1 := by omega
  have hkk : (l.length : Int) + 1 - (i : Int) = ((l.length + 1 - i : Nat) : Int) := by omega
  have hT : (atCs (l.take i)).length = i * 3 := by rw [atCs_len]; simp; omega
  have hold : (Builtin.firstCells ti.size i (.slice (some ⟨g, 0, none⟩) i l.length)).run Try.prog w.drew = .ok (atCs (l.take i)).toArray w.drew := by
    rw [hs]
    exact run_firstCells_some w.drew 3 i ⟨g, 0, none⟩ i l.length (atCs (l.take i)) hT (news_head (w := w.drew) hbq hxs i (by omega))
  obtain ⟨G, hG⟩ : ∃ G, G = grownCap w (l.length + 1) l.length 31 := ⟨_, rfl⟩
  obtain ⟨R, hR⟩ : ∃ R : Array Value, R = (atCs (l.take i)).toArray ++ Builtin.zeroCells (Value.agg zeroAt).cells (l.length + 1 - i) ++ Builtin.zeroCells (Value.agg zeroAt).cells (G - (l.length + 1)) := ⟨_, rfl⟩
  have hrz : ∀ ty, (Builtin.append_ #[48, 3] ty #[.slice (some ⟨g, 0, none⟩) i l.length, .int .i64 ((l.length : Int) + 1 - (i : Int))]).run Try.prog w =
      .ok (.slice (some ⟨w.heap.size, 0, none⟩) (l.length + 1) G) (w.drew.alloc (.cells R 31)) := fun ty => by
    have h := Lib.run_append_grow_zeros (P := Try.prog) w 48 3 ty 31 ti (.agg zeroAt) .i64 .i64 Try.underlying48 Try.underlying3 hti hz (some ⟨g, 0, none⟩) i l.length (atCs (l.take i)) hold (l.length + 1 - i) (by omega) (by omega) (by omega) (by omega) (by rw [hby]; omega) (by rw [hby, hik]; exact growslice_fits (by omega) (by omega))
    rw [hik, ← hG, ← hR] at h
    rw [hkk]
    exact h
  have hGn : l.length + 1 ≤ G := by rw [hG]; exact grownCap_ge w _ _ _
  have hGm : G ≤ maxLen := by rw [hG]; exact grownCap_le_maxLen w _ _ _ (by unfold maxLen; omega)
  have hRl : R.size = G * 3 := by rw [hR]; simp only [Array.size_append, zeros_len, List.size_toArray, hT]; omega
  have hRt : R.toList.take (i * 3) = atCs (l.take i) := by
    rw [hR, Array.toList_append, Array.toList_append, List.append_assoc, List.toList_toArray, ← hT]
    exact List.take_left
  obtain ⟨W1, hW1⟩ : ∃ W1, W1 = w.drew.alloc (.cells R 31) := ⟨_, rfl⟩
  have hN1 : W1.heap[w.heap.size]? = some (.cells R 31 (0, 0)) := by rw [hW1]; exact heap_newA w.drew _
  have hO1 : ∀ k, k < w.heap.size → W1.heap[k]? = w.heap[k]? := fun k hk => by
    rw [hW1]
    show (w.heap.push _)[k]? = _
    simp [Array.getElem?_push, Nat.ne_of_lt hk]
  have hS1 : W1.heap.size = w.heap.size + 1 := by rw [hW1]; show (w.heap.push _).size = _; simp
  have hos : W1.os = w.os ∧ W1.tape = w.tape ∧ W1.output = w.output := by rw [hW1]; exact ⟨rfl, rfl, rfl⟩
  rw [← hW1] at hrz
  obtain ⟨c1, hc1⟩ : ∃ c1, c1 = R.toList.take (i * 3) ++ atCs [x] ++ R.toList.drop (i * 3 + [x].length * 3) := ⟨_, rfl⟩
  obtain ⟨c2, hc2⟩ : ∃ c2, c2 = c1.take ((i + 1) * 3) ++ atCs (l.drop i) ++ c1.drop ((i + 1) * 3 + (l.drop i).length * 3) := ⟨_, rfl⟩
  have hrow := row_new x hRt (by omega) (by simp [hRl]; omega) c1 c2 hc1 hc2
  have hc1l : c1.length = G * 3 := by rw [hc1]; simp only [List.length_append, List.length_take, List.length_drop, Array.length_toList, hRl, atCs_len, List.length_singleton]; omega
  have HCA : ∀ ty dc, (Builtin.copy_ #[48, 48] ty #[.slice (some ⟨w.heap.size, i * 3, none⟩) (l.length + 1 - i) dc, .slice (some ⟨vb, 0, none⟩) 1 1]).run Try.prog W1 = .ok (goInt [x].length) (W1.setRow w.heap.size c1.toArray) := fun ty dc => by
    have h := run_copyA W1 ty w.heap.size (i * 3) (l.length + 1 - i) dc ⟨vb, 0, none⟩ 1 1 R [x] hN1 (by simp only [Nat.min_def, List.length_singleton]; split <;> omega) (OneA.news (v := .slice none 0 0) ⟨by rw [hO1 vb hvw]; exact ho.1, by simp [Value.ownBlock]⟩) (by rw [hRl]; simp; omega)
    rw [h, ← hc1]
  obtain ⟨W2, hW2⟩ : ∃ W2, W2 = W1.setRow w.heap.size c1.toArray := ⟨_, rfl⟩
  rw [← hW2] at HCA
  have hN2 : W2.heap[w.heap.size]? = some (.cells c1.toArray 31 (0, 0)) := by rw [hW2]; exact setRow_heap W1 _ _ _ _ _ hN1
  have hO2 : ∀ k, k < w.heap.size → W2.heap[k]? = w.heap[k]? := fun k hk => by rw [hW2, setRow_other _ _ _ _ (by omega)]; exact hO1 k hk
  have HCB : ∀ ty dc sc, (Builtin.copy_ #[48, 48] ty #[.slice (some ⟨w.heap.size, (i + 1) * 3, none⟩) (l.length - i) dc, .slice (some ⟨g, i * 3, none⟩) (l.length - i) sc]).run Try.prog W2.drew = .ok (goInt (l.drop i).length) (W2.drew.setRow w.heap.size c2.toArray) := fun ty dc sc => by
    have h := run_copyA W2.drew ty w.heap.size ((i + 1) * 3) (l.length - i) dc ⟨g, i * 3, none⟩ (l.length - i) sc c1.toArray (l.drop i) hN2 (by rw [List.length_drop]; simp only [Nat.min_def]; split <;> omega) (news_row (w := W2.drew) (by show W2.heap[g]? = _; rw [hO2 g hgw]; exact hbq) hxs i (by omega)) (by simp [hc1l]; omega)
    rw [h]
    simp only [List.toList_toArray]
    rw [← hc2]
  have FIN : Hid (InsAns w B (.slice (some ⟨g, 0, none⟩) l.length l.length) (insA l i x) (.returned (.slice (some ⟨w.heap.size, 0, none⟩) (l.length + 1) G)) (W2.drew.setRow w.heap.size c2.toArray)) := by
    refine ⟨_, rfl, ?_, ⟨?_, ?_, ?_, ?_, fun k hk _ => ?_, fun q hq => .inr (own_at hq)⟩⟩
    · unfold ABuf
      rw [insA_len _ _ _ (by omega)]
      refine ⟨by rw [atCs_len, insA_len _ _ _ (by omega)], .inr ⟨w.heap.size, G, c2.toArray, rfl, hB, setRow_heap W2.drew _ _ _ _ _ hN2, by omega, hGm, ?_, ?_⟩⟩
      · simp [hrow.1, hRl]
      · simpa using hrow.2
    · show W2.os = w.os; rw [hW2]; exact hos.1
    · show W2.tape = w.tape; rw [hW2]; exact hos.2.1
    · show W2.output = w.output; rw [hW2]; exact hos.2.2
    · rw [setRow_size]; show w.heap.size ≤ W2.heap.size; rw [hW2, setRow_size]; omega
    · rw [setRow_other _ _ _ _ (by omega)]; exact hO2 k hk
  have rz := hrz 48
  have ca := HCA 3 (G - i)
  have cb := HCB 3 (G - (i + 1)) (l.length - i)
  unfold maxLen at hGm
  have hz2 : ¬ ((i : Int) = (l.length : Int)) := by omega
  have hin : i ≤ l.length := by omega
  have hw1 : IntKind.i64.wrap ((i : Int) + 1) = (i : Int) + 1 := by rw [IntKind.wrap_i64]; omega
  have hw2 : IntKind.i64.wrap ((l.length : Int) + 1) = (l.length : Int) + 1 := by rw [IntKind.wrap_i64]; omega
  have hw3 : IntKind.i64.wrap ((l.length : Int) + 1 - (i : Int)) = (l.length : Int) + 1 - (i : Int) := by rw [IntKind.wrap_i64]; omega
  have hb1 : (0 : Int) ≤ (i : Int) + 1 := by omega
  have htn : ((i : Int) + 1).toNat = i + 1 := by omega
  have hb2 : ¬ (G = i + 1) := by omega
  have hb3 : ¬ (G = i) := by omega
  have hb4 : ¬ (l.length = i) := by omega
  have hb5 : (l.length : Int) < (l.length : Int) + 1 := by omega
  have hb6 : (i : Int) ≤ (l.length : Int) := by omega
  have hb7 : (i : Int) ≤ (l.length : Int) + 1 := by omega
  have HW1 := Lib.hid hW1
  clear hb ho hbq hxs hrow hc1l hc1 hc2 hik hkk hold hrz hRl hRt hR hN1 hO1 hS1 hos HCA HCB hN2 hO2 hW2 hW1 hG hT hti hz hs hby
  go_enter Try.func130, Try.ntmps130
  go_wp2_with (at_builtin; refine wpList_appZ rfl (.tmp 34) (.tmp 39) rfl _ _ rfl rfl rz ?_)
  go_region
  go_wp2_with fail
  go_ret
  exact FIN.out
theorem insertI (l : List At) (x : At) (i vb B : Nat) (v : Value) (w : World) (hl : l.length ≤ 1000) (hi : i ≤ l.length) (hB : B ≤ w.heap.size) (hb : ABuf w B v l) (ho : OneA w v vb x) :
    Calls Try.prog 130 #[v, .int .i64 i, .slice (some ⟨vb, 0, none⟩) 1 1] w (InsAns w B v (insA l i x)) := by
  by_cases he : i = l.length
  · subst he
    rw [insA_end]
    exact insertEnd l x v vb B w hl hb hB ho
  · rcases hb.2 with ⟨rfl, h0⟩ | ⟨g, cap, cur, rfl, hg, hbq, hn, hcap, hcs, hxs⟩
    · omega
    · by_cases hc : cap = l.length
      · exact insertGrow l x i g cap vb B w hl (by omega) hc hB hb ho
      · exact insertIn l x i g cap vb B w hl (by omega) (by omega) hb ho
end Go.Proofs.Ytkncpfhblciplaa
