import Derived.Test.YtgpoigkfoliflaaGreatDoorZay
namespace Go.Proofs.YtgpoigkfoliflaaGreatDoor
open Go.RowKit
set_option linter.unusedSimpArgs false
theorem wpList_appZ {ops : Array Oper} {rest : List Oper} {o : Oper} {a : Act} {w : World} {Q : Exit → Act → World → Prop} (hgd : o.guard = none) (d x : Operand)
    (ho : o.op = .call { callee := .builtin .append, args := #[d, x], argTypes := #[35, 3] }) (v u : Value) (hd : a.eval d = v) (hx : a.eval x = u) {v' : Value} {w' : World}
    (hr : (Builtin.append_ #[35, 3] o.type #[v, u]).run Tryz.prog w = .ok v' w') (h : wpList Tryz.prog ops Q rest (a.put o.dst v') w') : wpList Tryz.prog ops Q (o :: rest) a w := by
  refine wpList_plain hgd fun K hK => ?_
  unfold Oper.wp execOp
  simp only [ho, resolve, invoke, builtin, Sem.run_bind, Sem.run_pure, Result.andThen_ok, List.map_toArray, List.map_cons, List.map_nil, hd, hx, hr]
  exact hK _ _ h
theorem own_at {a : Addr} {n c q : Nat} (h : Value.ownBlock (.slice (some a) n c) = some q) : a.block ≤ q := by
  have e : a.block = q := by simpa [Value.ownBlock] using h
  omega
theorem zeros_len (n : Nat) : (Builtin.zeroCells (Value.agg zeroAt).cells n).size = n * 3 := by
  simp [Builtin.zeroCells, Value.cells, zeroAt]
set_option maxRecDepth 100000 in
set_option maxHeartbeats 3200000 in
theorem insertGrow (l : List At) (x : At) (i g cap vb B : Nat) (w : World) (hl : l.length ≤ 1000) (hi : i < l.length) (hr : cap = l.length) (hB : B ≤ w.heap.size) (hb : ABuf w B (.slice (some ⟨g, 0, none⟩) l.length cap) l) (ho : OneA w (.slice (some ⟨g, 0, none⟩) l.length cap) vb x) :
    Calls Tryz.prog 100 #[.slice (some ⟨g, 0, none⟩) l.length cap, .int .i64 i, .slice (some ⟨vb, 0, none⟩) 1 1] w (InsAns w B (.slice (some ⟨g, 0, none⟩) l.length cap) (insA l i x)) := by
  subst hr
  obtain ⟨cur, hbq, hxs⟩ : ∃ cur, w.heap[g]? = some (.cells cur 55 (0, 0)) ∧ cur.toList.take (l.length * 3) = atCs l := by
    rcases hb.2 with ⟨e, -⟩ | ⟨g', l.length', cur, e, hg, hbq, hn, hcap, hcs, hxs⟩
    · cases e
    · injection e with e1 e2 e3
      injection e1 with e1
      injection e1 with e1
      subst e1
      exact ⟨cur, hbq, hxs⟩
  have hgw : g < w.heap.size := (Array.getElem?_eq_some_iff.1 hbq).1
  have hvw : vb < w.heap.size := (Array.getElem?_eq_some_iff.1 ho.1).1
  obtain ⟨ti, hti, hz, hs, hby⟩ := infoAt'
  have hik : i + (l.length + 1 - i) = l.length + 1 := by omega
  have hkk : (l.length : Int) + 1 - (i : Int) = ((l.length + 1 - i : Nat) : Int) := by omega
  have hT : (atCs (l.take i)).length = i * 3 := by rw [atCs_len]; simp; omega
  have hold : (Builtin.firstCells ti.size i (.slice (some ⟨g, 0, none⟩) i l.length)).run Tryz.prog w.drew = .ok (atCs (l.take i)).toArray w.drew := by
    rw [hs]
    exact run_firstCells_some w.drew 3 i ⟨g, 0, none⟩ i l.length (atCs (l.take i)) hT (news_head (w := w.drew) hbq hxs i (by omega))
  obtain ⟨G, hG⟩ : ∃ G, G = grownCap w (l.length + 1) l.length 55 := ⟨_, rfl⟩
  obtain ⟨R, hR⟩ : ∃ R : Array Value, R = (atCs (l.take i)).toArray ++ Builtin.zeroCells (Value.agg zeroAt).cells (l.length + 1 - i) ++ Builtin.zeroCells (Value.agg zeroAt).cells (G - (l.length + 1)) := ⟨_, rfl⟩
  have hrz : ∀ ty, (Builtin.append_ #[35, 3] ty #[.slice (some ⟨g, 0, none⟩) i l.length, .int .i64 ((l.length : Int) + 1 - (i : Int))]).run Tryz.prog w =
      .ok (.slice (some ⟨w.heap.size, 0, none⟩) (l.length + 1) G) (w.drew.alloc (.cells R 55)) := fun ty => by
    have h := Lib.run_append_grow_zeros (P := Tryz.prog) w 35 3 ty 55 ti (.agg zeroAt) .i64 .i64 Tryz.underlying35 Tryz.underlying3 hti hz (some ⟨g, 0, none⟩) i l.length (atCs (l.take i)) hold (l.length + 1 - i) (by omega) (by omega) (by omega) (by omega) (by rw [hby]; omega) (by rw [hby, hik]; exact growslice_fits (by omega) (by omega))
    rw [hik, ← hG, ← hR] at h
    rw [hkk]
    exact h
  have hGn : l.length + 1 ≤ G := by rw [hG]; exact grownCap_ge w _ _ _
  have hGm : G ≤ maxLen := by rw [hG]; exact grownCap_le_maxLen w _ _ _ (by unfold maxLen; omega)
  have hRl : R.size = G * 3 := by rw [hR]; simp only [Array.size_append, zeros_len, List.size_toArray, hT]; omega
  have hRt : R.toList.take (i * 3) = atCs (l.take i) := by
    rw [hR, Array.toList_append, Array.toList_append, List.append_assoc, List.toList_toArray, ← hT]
    exact List.take_left
  obtain ⟨W1, hW1⟩ : ∃ W1, W1 = w.drew.alloc (.cells R 55) := ⟨_, rfl⟩
  have hN1 : W1.heap[w.heap.size]? = some (.cells R 55 (0, 0)) := by rw [hW1]; exact heap_newA w.drew _
  have hO1 : ∀ k, k < w.heap.size → W1.heap[k]? = w.heap[k]? := fun k hk => by
    rw [hW1]
    show (w.heap.push _)[k]? = _
    simp [Array.getElem?_push, Nat.ne_of_lt hk]
  have hS1 : W1.heap.size = w.heap.size + 1 := by rw [hW1]; show (w.heap.push _).size = _; simp
  have hos : W1.os = w.os ∧ W1.tape = w.tape ∧ W1.output = w.output := by rw [hW1]; exact ⟨rfl, rfl, rfl⟩
  rw [← hW1] at hrz
  obtain ⟨c1, hc1⟩ : ∃ c1, c1 = R.toList.take (i * 3) ++ atCs [x] ++ R.toList.drop (i * 3 + [x].length * 3) := ⟨_, rfl⟩
  obtain ⟨c2, hc2⟩ : ∃ c2, c2 = c1.take ((i + 1) * 3) ++ atCs (l.drop i) ++ c1.drop ((i + 1) * 3 + (l.drop i).length * 3) := ⟨_, rfl⟩
  have hrow := row_new x hRt (by omega) (by simp [hRl]; omega) c1 c2 hc1 hc2
  have hc1l : c1.length = G * 3 := by rw [hc1]; simp only [List.length_append, List.length_take, List.length_drop, Array.length_toList, hRl, atCs_len, List.length_singleton]; omega
  have HCA : ∀ ty dc, (Builtin.copy_ #[35, 35] ty #[.slice (some ⟨w.heap.size, i * 3, none⟩) (l.length + 1 - i) dc, .slice (some ⟨vb, 0, none⟩) 1 1]).run Tryz.prog W1 = .ok (goInt [x].length) (W1.setRow w.heap.size c1.toArray) := fun ty dc => by
    have h := run_copyA W1 ty w.heap.size (i * 3) (l.length + 1 - i) dc ⟨vb, 0, none⟩ 1 1 R [x] hN1 (by simp only [Nat.min_def, List.length_singleton]; split <;> omega) (OneA.news (v := .slice none 0 0) ⟨by rw [hO1 vb hvw]; exact ho.1, by simp [Value.ownBlock]⟩) (by rw [hRl]; simp; omega)
    rw [h, ← hc1]
  obtain ⟨W2, hW2⟩ : ∃ W2, W2 = W1.setRow w.heap.size c1.toArray := ⟨_, rfl⟩
  rw [← hW2] at HCA
  have hN2 : W2.heap[w.heap.size]? = some (.cells c1.toArray 55 (0, 0)) := by rw [hW2]; exact setRow_heap W1 _ _ _ _ _ hN1
  have hO2 : ∀ k, k < w.heap.size → W2.heap[k]? = w.heap[k]? := fun k hk => by rw [hW2, setRow_other _ _ _ _ (by omega)]; exact hO1 k hk
  have HCB : ∀ ty dc sc, (Builtin.copy_ #[35, 35] ty #[.slice (some ⟨w.heap.size, (i + 1) * 3, none⟩) (l.length - i) dc, .slice (some ⟨g, i * 3, none⟩) (l.length - i) sc]).run Tryz.prog W2.drew = .ok (goInt (l.drop i).length) (W2.drew.setRow w.heap.size c2.toArray) := fun ty dc sc => by
    have h := run_copyA W2.drew ty w.heap.size ((i + 1) * 3) (l.length - i) dc ⟨g, i * 3, none⟩ (l.length - i) sc c1.toArray (l.drop i) hN2 (by rw [List.length_drop]; simp only [Nat.min_def]; split <;> omega) (news_row (w := W2.drew) (by show W2.heap[g]? = _; rw [hO2 g hgw]; exact hbq) hxs i (by omega)) (by simp [hc1l]; omega)
    rw [h]
    simp only [List.toList_toArray]
    rw [← hc2]
  have FIN : Hid (InsAns w B (.slice (some ⟨g, 0, none⟩) l.length l.length) (insA l i x) (.returned (.slice (some ⟨w.heap.size, 0, none⟩) (l.length + 1) G)) (W2.drew.setRow w.heap.size c2.toArray)) := by
    refine ⟨_, rfl, ?_, ⟨?_, ?_, ?_, ?_, fun k hk _ => ?_, fun q hq => .inr (own_at hq)⟩⟩
    · unfold ABuf
      rw [insA_len _ _ _ (by omega)]
      refine ⟨by rw [atCs_len, insA_len _ _ _ (by omega)], .inr ⟨w.heap.size, G, c2.toArray, rfl, hB, setRow_heap W2.drew _ _ _ _ _ hN2, by omega, hGm, ?_, ?_⟩⟩
      · simp [hrow.1, hRl]
      · simpa using hrow.2
    · show W2.os = w.os; rw [hW2]; exact hos.1
    · show W2.tape = w.tape; rw [hW2]; exact hos.2.1
    · show W2.output = w.output; rw [hW2]; exact hos.2.2
    · rw [setRow_size]; show w.heap.size ≤ W2.heap.size; rw [hW2, setRow_size]; omega
    · rw [setRow_other _ _ _ _ (by omega)]; exact hO2 k hk
  have rz := hrz 35
  have ca := HCA 3 (G - i)
  have cb := HCB 3 (G - (i + 1)) (l.length - i)
  unfold maxLen at hGm
  have hz2 : ¬ ((i : Int) = (l.length : Int)) := by omega
  have hin : i ≤ l.length := by omega
  have hw1 : IntKind.i64.wrap ((i : Int) + 1) = (i : Int) + 1 := by rw [IntKind.wrap_i64]; omega
  have hw2 : IntKind.i64.wrap ((l.length : Int) + 1) = (l.length : Int) + 1 := by rw [IntKind.wrap_i64]; omega
  have hw3 : IntKind.i64.wrap ((l.length : Int) + 1 - (i : Int)) = (l.length : Int) + 1 - (i : Int) := by rw [IntKind.wrap_i64]; omega
  have hb1 : (0 : Int) ≤ (i : Int) + 1 := by omega
  have htn : ((i : Int) + 1).toNat = i + 1 := by omega
  have hb2 : ¬ (G = i + 1) := by omega
  have hb3 : ¬ (G = i) := by omega
  have hb4 : ¬ (l.length = i) := by omega
  have hb5 : (l.length : Int) < (l.length : Int) + 1 := by omega
  have hb6 : (i : Int) ≤ (l.length : Int) := by omega
  have hb7 : (i : Int) ≤ (l.length : Int) + 1 := by omega
  have HW1 := Lib.hid hW1
  clear hb ho hbq hxs hrow hc1l hc1 hc2 hik hkk hold hrz hRl hRt hR hN1 hO1 hS1 hos HCA HCB hN2 hO2 hW2 hW1 hG hT hti hz hs hby
  go_enter Tryz.func100, Tryz.ntmps100
  go_wp2_with (at_builtin; refine wpList_appZ rfl (.tmp 34) (.tmp 39) rfl _ _ rfl rfl rz ?_)
  go_region
  go_wp2_with fail
  go_ret
  exact FIN.out
theorem insertI (l : List At) (x : At) (i vb B : Nat) (v : Value) (w : World) (hl : l.length ≤ 1000) (hi : i ≤ l.length) (hB : B ≤ w.heap.size) (hb : ABuf w B v l) (ho : OneA w v vb x) :
    Calls Tryz.prog 100 #[v, .int .i64 i, .slice (some ⟨vb, 0, none⟩) 1 1] w (InsAns w B v (insA l i x)) := by
  by_cases he : i = l.length
  · subst he
    rw [insA_end]
    exact insertEnd l x v vb B w hl hb hB ho
  · rcases hb.2 with ⟨rfl, h0⟩ | ⟨g, cap, cur, rfl, hg, hbq, hn, hcap, hcs, hxs⟩
    · omega
    · by_cases hc : cap = l.length
      · exact insertGrow l x i g cap vb B w hl (by omega) hc hB hb ho
      · exact insertIn l x i g cap vb B w hl (by omega) (by omega) hb ho
end Go.Proofs.YtgpoigkfoliflaaGreatDoor
namespace Go.Proofs.YtgpoigkfoliflaaGreatDoor
open Go.RowKit
set_option linter.unusedSimpArgs false
theorem bl_trans : ∀ x y z : List UInt8, Op.bytesLess x y = true → Op.bytesLess y z = true → Op.bytesLess x z = true
  | _, [], _, h, _ => by cases ‹List UInt8› <;> simp [Op.bytesLess] at h
  | _, _ :: _, [], _, h => by simp [Op.bytesLess] at h
  | [], _ :: _, _ :: _, _, _ => by simp [Op.bytesLess]
  | a :: r, b :: s, c :: t, h, k => by
    simp only [Op.bytesLess, Bool.or_eq_true, Bool.and_eq_true, decide_eq_true_eq, beq_iff_eq] at h k ⊢
    rcases h with h | ⟨h1, h2⟩
    · rcases k with k | ⟨k1, k2⟩
      · exact .inl (UInt8.lt_trans h k)
      · exact .inl (k1 ▸ h)
    · rcases k with k | ⟨k1, k2⟩
      · exact .inl (h1 ▸ k)
      · exact .inr ⟨h1.trans k1, bl_trans r s t h2 k2⟩
theorem bl_tri : ∀ x y : List UInt8, x ≠ y → Op.bytesLess x y = false → Op.bytesLess y x = true
  | [], [], h, _ => absurd rfl h
  | [], _ :: _, _, h => by simp [Op.bytesLess] at h
  | _ :: _, [], _, _ => by simp [Op.bytesLess]
  | a :: r, b :: s, hn, h => by
    simp only [Op.bytesLess, Bool.or_eq_false_iff, Bool.and_eq_false_iff, decide_eq_false_iff_not, Bool.or_eq_true, Bool.and_eq_true, decide_eq_true_eq, beq_iff_eq, beq_eq_false_iff_ne] at h ⊢
    by_cases e : a = b
    · subst e
      refine .inr ⟨rfl, bl_tri r s (fun e => hn (by rw [e])) ?_⟩
      rcases h.2 with h | h
      · exact absurd rfl h
      · exact h
    · left
      rcases Nat.lt_or_ge b.toNat a.toNat with h1 | h1
      · exact h1
      · have h2 : ¬ a.toNat < b.toNat := h.1
        exact absurd (UInt8.toNat_inj.1 (by omega)) e
theorem bl_asymm {x y : List UInt8} (h : Op.bytesLess x y = true) : Op.bytesLess y x = false := by
  cases e : Op.bytesLess y x
  · rfl
  · have := bl_trans x y x h e
    rw [bl_self] at this
    cases this
theorem cmp_lt {a b : At} : cmpA a b < 0 ↔ a.k < b.k ∨ (a.k = b.k ∧ (a.n < b.n ∨ (a.n = b.n ∧ Op.bytesLess a.t b.t = true))) := by
  unfold cmpA
  by_cases h : a.k = b.k
  · rw [if_neg (by simp [h])]
    by_cases h2 : a.n = b.n
    · rw [if_neg (by simp [h2])]
      by_cases h3 : a.t = b.t
      · rw [if_neg (by simp [h3]), h3, bl_self]
        simp; omega
      · rw [if_pos h3]
        by_cases h4 : Op.bytesLess a.t b.t = true
        · rw [if_pos h4]; simp [h, h2, h4]
        · rw [if_neg h4]; simp [h, h2, h4]
    · rw [if_pos h2]
      by_cases h3 : a.n < b.n
      · rw [if_pos h3]; simp [h, h3]
      · rw [if_neg h3]; simp [h, h2, h3]
  · rw [if_pos h]
    by_cases h3 : a.k < b.k
    · rw [if_pos h3]; simp [h3]
    · rw [if_neg h3]; simp [h, h3]
theorem cmp_trans {a b c : At} (h : cmpA a b < 0) (k : cmpA b c < 0) : cmpA a c < 0 := by
  rw [cmp_lt] at h k ⊢
  rcases h with h | ⟨h1, h2⟩
  · rcases k with k | ⟨k1, -⟩
    · exact .inl (by omega)
    · exact .inl (by omega)
  · rcases k with k | ⟨k1, k2⟩
    · exact .inl (by omega)
    · refine .inr ⟨by omega, ?_⟩
      rcases h2 with h2 | ⟨h2, h3⟩
      · rcases k2 with k2 | ⟨k2, -⟩
        · exact .inl (by omega)
        · exact .inl (by omega)
      · rcases k2 with k2 | ⟨k2, k3⟩
        · exact .inl (by omega)
        · exact .inr ⟨by omega, bl_trans _ _ _ h3 k3⟩
theorem cmp_self (a : At) : ¬ cmpA a a < 0 := by rw [cmp_0 rfl rfl rfl]; omega
theorem cmp_gt {a b : At} (h : cmpA a b < 0) : 0 < cmpA b a := by
  rw [cmp_lt] at h
  unfold cmpA
  rcases h with h | ⟨h1, h | ⟨h2, h3⟩⟩
  · rw [if_pos (by omega), if_neg (by omega)]; omega
  · rw [if_neg (by omega), if_pos (by omega), if_neg (by omega)]; omega
  · rw [if_neg (by omega), if_neg (by omega), if_pos (fun e => by rw [e, bl_self] at h3; cases h3), if_neg (by rw [bl_asymm h3]; simp)]; omega
theorem cmp_tri {a b : At} (hn : a ≠ b) (h : ¬ cmpA a b < 0) : cmpA b a < 0 := by
  rw [cmp_lt] at h ⊢
  by_cases h1 : a.k = b.k
  · by_cases h2 : a.n = b.n
    · by_cases h3 : a.t = b.t
      · exact absurd (At.ext' h1 h2 h3) hn
      · refine .inr ⟨h1.symm, .inr ⟨h2.symm, bl_tri _ _ h3 ?_⟩⟩
        cases e : Op.bytesLess a.t b.t
        · rfl
        · exact absurd (.inr ⟨h1, .inr ⟨h2, e⟩⟩) h
    · exact .inr ⟨h1.symm, .inl (by omega)⟩
  · exact .inl (by omega)
def Rise (l : List At) : Prop := l.Pairwise (fun a b => cmpA a b < 0)
theorem rise_of {l : List At} (h : riseB l = true) : Rise l := by
  unfold riseB at h
  rw [List.all_eq_true] at h
  have hs : ∀ i (hi : i + 1 < l.length), cmpA l[i] l[i + 1] < 0 := fun i hi => by
    have := h (i + 1) (List.mem_range.2 hi)
    rw [Nat.add_sub_cancel, at_getD hi, at_getD (show i < l.length by omega)] at this
    simpa using this
  unfold Rise
  rw [List.pairwise_iff_getElem]
  intro i j hi hj hij
  induction j with
  | zero => omega
  | succ j ih =>
    by_cases e : i = j
    · subst e; exact hs i hj
    · exact cmp_trans (ih (by omega) (by omega)) (hs j hj)
theorem Rise.get {l : List At} (h : Rise l) {i j : Nat} (hi : i < l.length) (hj : j < l.length) (hij : i < j) : cmpA l[i] l[j] < 0 := (List.pairwise_iff_getElem.1 h) i j hi hj hij
theorem posTo_at {l : List At} {x : At} {m : Nat} (h1 : ∀ q (h : q < l.length), q < m → cmpA l[q] x < 0) (h2 : ∀ q (h : q < l.length), m ≤ q → 0 < cmpA l[q] x) : ∀ k, m ≤ k → k ≤ l.length → posTo l x k = m
  | 0, h, _ => by rw [posTo]; omega
  | k + 1, h, hk => by
    rw [posTo, at_getD (show k < l.length by omega)]
    by_cases e : m ≤ k
    · rw [if_pos (h2 k (by omega) e)]
      exact posTo_at h1 h2 k e (by omega)
    · have := h1 k (by omega) (by omega)
      rw [if_neg (by omega)]; omega
theorem rise_ins {l : List At} {x : At} {m : Nat} (hR : Rise l) (h1 : ∀ q (h : q < l.length), q < m → cmpA l[q] x < 0) (h2 : ∀ q (h : q < l.length), m ≤ q → cmpA x l[q] < 0) : Rise (insA l m x) := by
  unfold Rise insA
  have hA : ∀ a ∈ l.take m, cmpA a x < 0 := fun a ha => by
    obtain ⟨q, hq, rfl⟩ := List.getElem_of_mem ha
    rw [List.length_take] at hq
    rw [List.getElem_take]
    exact h1 q (by omega) (by omega)
  have hB : ∀ b ∈ l.drop m, cmpA x b < 0 := fun b hb => by
    obtain ⟨q, hq, rfl⟩ := List.getElem_of_mem hb
    rw [List.getElem_drop]
    exact h2 (m + q) (by rw [List.length_drop] at hq; omega) (by omega)
  have hT : Rise (l.take m ++ l.drop m) := by rw [List.take_append_drop]; exact hR
  unfold Rise at hT
  rw [List.pairwise_append] at hT ⊢
  refine ⟨?_, hT.2.1, fun a ha b hb => ?_⟩
  · rw [List.pairwise_append]
    exact ⟨hT.1, List.pairwise_singleton _ _, fun a ha b hb => by rw [List.mem_singleton.1 hb]; exact hA a ha⟩
  · rcases List.mem_append.1 ha with ha | ha
    · exact hT.2.2 a ha b hb
    · rw [List.mem_singleton.1 ha]; exact hB b hb
theorem put_has {l : List At} {x : At} {m : Nat} (hm : m < l.length) (he : l[m] = x) : putL l x = l := by
  unfold putL
  rw [if_pos (hasB_true hm he)]
theorem put_ins {l : List At} {x : At} {m : Nat} (hR : Rise l) (hm : m ≤ l.length) (h1 : ∀ q (h : q < l.length), q < m → cmpA l[q] x < 0) (h2 : ∀ h : m < l.length, ¬ cmpA l[m] x < 0 ∧ l[m] ≠ x) : putL l x = insA l m x ∧ Rise (insA l m x) := by
  have h3 : ∀ q (h : q < l.length), m ≤ q → cmpA x l[q] < 0 := fun q h hq => by
    obtain ⟨a, b⟩ := h2 (by omega)
    have h0 := cmp_tri b a
    by_cases e : m = q
    · subst e; exact h0
    · exact cmp_trans h0 (hR.get (by omega) h (by omega))
  have hh : hasB l x = false := hasB_false (fun k hk e => by
    by_cases hlt : k < m
    · exact cmp_self x (e ▸ h1 k hk hlt)
    · exact cmp_self x (by have := h3 k hk (by omega); rw [e] at this; exact this))
  refine ⟨?_, rise_ins hR h1 h3⟩
  unfold putL posA
  rw [if_neg (by rw [hh]; simp), posTo_at h1 (fun q h hq => cmp_gt (h3 q h hq)) l.length hm (Nat.le_refl _)]
  rfl
end Go.Proofs.YtgpoigkfoliflaaGreatDoor
