import Derived.Test.YtdhlndpobpdfmaaYal
import Derived.Test.YtdhlndpobpdfmaaYaf
import Derived.Laws.CopyRow
import Derived.Lib.AppendZerosOnto
import Derived.Deep.RegionLaw
namespace Go.Proofs.Ytdhlndpobpdfmaa
open Go.RowKit
set_option linter.unusedSimpArgs false
theorem infoRow2 : ∃ i, Try.prog.info? 53 = some i ∧ i.zero = some (.agg #[.int .i64 0, .slice none 0 0]) ∧ i.size = 2 ∧ i.bytes = 32 := by
  have h : (Try.prog.info? 53).map (fun i => (i.zero, i.size, i.bytes)) = some (some (.agg #[.int .i64 0, .slice none 0 0]), 2, 32) := by kernel_rfl
  obtain ⟨i, hi, hzz⟩ := Option.map_eq_some_iff.1 h
  simp only [Prod.mk.injEq] at hzz
  exact ⟨i, hi, hzz⟩
theorem run_copyR (w : World) (ty : TypeId) (g o dLen dCap : Nat) (a : Addr) (sLen sCap m : Nat) (cur : Array Value) (cs : List Value) (hl : cs.length = m * 2) (h1 : ∀ u ∈ cs, u.oneCell' = true) (hg : w.heap[g]? = some (.cells cur 53 (0, 0))) (hn : m = Nat.min sLen dLen)
    (hsrc : ∀ j v, cs[j]? = some v → w.cell? (a.add j) = some v) (hfit : o + m * 2 ≤ cur.size) :
    (Builtin.copy_ #[73, 73] ty #[.slice (some ⟨g, o, none⟩) dLen dCap, .slice (some a) sLen sCap]).run Try.prog w =
      .ok (goInt m) (w.setRow g (cur.toList.take o ++ cs ++ cur.toList.drop (o + m * 2)).toArray) := by
  obtain ⟨i, hi, hz, hs, hby⟩ := infoRow2
  have hld := run_loadCells_list (P := Try.prog) w a cs hsrc
  have hst := run_storeCells_at Try.prog g o 53 cs 0 cur w hg (by rw [hl]; simpa using hfit) h1
  rw [hl] at hld hst
  simp [Builtin.copy_, run_underlying Try.underlying73, Builtin.lenOf, Builtin.firstCells, sizeOf, typeInfo, hi, hs, ← hn, hld, hst]
theorem wpList_appZR {ops : Array Oper} {rest : List Oper} {o : Oper} {a : Act} {w : World} {Q : Exit → Act → World → Prop} (hgd : o.guard = none) (d x : Operand)
    (ho : o.op = .call { callee := .builtin .append, args := #[d, x], argTypes := #[73, 3] }) (v u : Value) (hd : a.eval d = v) (hx : a.eval x = u) {v' : Value} {w' : World}
    (hr : (Builtin.append_ #[73, 3] o.type #[v, u]).run Try.prog w = .ok v' w') (h : wpList Try.prog ops Q rest (a.put o.dst v') w') : wpList Try.prog ops Q (o :: rest) a w := by
  refine wpList_plain hgd fun K hK => ?_
  unfold Oper.wp execOp
  simp only [ho, resolve, invoke, builtin, Sem.run_bind, Sem.run_pure, Result.andThen_ok, List.map_toArray, List.map_cons, List.map_nil, hd, hx, hr]
  exact hK _ _ h
def insC (cs : List Value) (i : Nat) (us : List Value) : List Value := cs.take (i * 2) ++ us ++ cs.drop (i * 2)
def InsR (w : World) (ds : List Value) (m : Nat) (e : Ending) (w' : World) : Prop := ∃ (g cap : Nat) (cur : Array Value), e = .returned (.slice (some ⟨g, 0, none⟩) m cap) ∧ w.heap.size ≤ g ∧ w'.heap[g]? = some (.cells cur 53 (0, 0)) ∧ cur.toList.take (m * 2) = ds ∧ m ≤ cap ∧ cap ≤ maxLen ∧ cur.size = cap * 2 ∧ Below w.heap.size w w'
theorem cells_rowR {w : World} {g : Nat} {cs : List Value} (h : w.heap[g]? = some (.cells cs.toArray 53 (0, 0))) (o : Nat) : ∀ j u, (cs.drop o)[j]? = some u → w.cell? ((⟨g, o, none⟩ : Addr).add j) = some u := fun j u hj => by
  rw [Addr.add_mid]
  rw [List.getElem?_drop] at hj
  simp [World.cell?, h, hj]
set_option maxRecDepth 100000 in
set_option maxHeartbeats 1600000 in
theorem insertEndR (n g vb : Nat) (cs : List Value) (u0 u1 : Value) (w : World) (hn : n ≤ 10000) (hl : cs.length = n * 2) (hg : w.heap[g]? = some (.cells cs.toArray 53 (0, 0))) (hv : w.heap[vb]? = some (.cells #[u0, u1] 53 (0, 0))) :
    Calls Try.prog 66 #[.slice (some ⟨g, 0, none⟩) n n, .int .i64 n, .slice (some ⟨vb, 0, none⟩) 1 1] w (InsR w (insC cs n [u0, u1]) (n + 1)) := by
  obtain ⟨i, hi, hz, hs, hby⟩ := infoRow2
  obtain ⟨v', w', hr, hown, hgr⟩ := run_append_arg_grows (P := Try.prog) w 73 73 53 i _ 2 32 Try.underlying73 hi hz hs hby rfl (by omega) ⟨g, 0, none⟩ n n cs hl (fun j u hj => cells_rowR hg 0 j u (by simpa using hj)) ⟨vb, 0, none⟩ 1 1 [u0, u1] rfl (fun j u hj => cells_rowR (cs := [u0, u1]) hv 0 j u (by simpa using hj)) (by omega) (by unfold maxLen; omega) (by omega)
  have FIN : Hid (InsR w (insC cs n [u0, u1]) (n + 1) (.returned v') w') := by
    rcases hown.2 with ⟨-, h0⟩ | ⟨g', cap, cur, rfl, hg', hb, hn', hcap, hcs, hx⟩
    · omega
    · refine ⟨g', cap, cur, rfl, hg', hb, ?_, hn', hcap, hcs, ⟨hgr.os, hgr.tape, hgr.output, hgr.size, fun b hb' => hgr.block b hb' (by simp)⟩⟩
      rw [hx]
      unfold insC
      rw [List.take_of_length_le (by omega), List.drop_eq_nil_of_le (by omega), List.append_nil]
  have HR := Lib.hid hr
  clear hr hown hgr hi hz hs hby hl hg hv
  go_enter Try.func66, Try.ntmps66
  go_wp2_with (at_builtin; go_must (refine wpList_append_is rfl (.tmp 23) (.tmp 24) 73 rfl _ _ rfl rfl _ _ HR.out ?_))
  go_ret
  exact FIN.out
theorem zeros_lenR (n : Nat) : (Builtin.zeroCells (Value.agg #[.int .i64 0, .slice none 0 0]).cells n).size = n * 2 := by
  simp [Builtin.zeroCells, Value.cells]
theorem row_newR {r0 cs us : List Value} {i n : Nat} (hl : cs.length = n * 2) (hu : us.length = 2) (h : r0.take (i * 2) = cs.take (i * 2)) (hi : i ≤ n) (hc : (n + 1) * 2 ≤ r0.length) (c1 c2 : List Value)
    (h1 : c1 = r0.take (i * 2) ++ us ++ r0.drop (i * 2 + 1 * 2)) (h2 : c2 = c1.take ((i + 1) * 2) ++ cs.drop (i * 2) ++ c1.drop ((i + 1) * 2 + (n - i) * 2)) :
    c2.length = r0.length ∧ c2.take ((n + 1) * 2) = insC cs i us := by
  have hT : (cs.take (i * 2)).length = i * 2 := by rw [List.length_take]; omega
  have hD : (cs.drop (i * 2)).length = (n - i) * 2 := by rw [List.length_drop]; omega
  have hl1 : c1.length = r0.length := by rw [h1, h]; simp only [List.length_append, List.length_drop, hT, hu]; omega
  have e1 : c1.take ((i + 1) * 2) = cs.take (i * 2) ++ us := by
    rw [h1, h]
    have hL : (cs.take (i * 2) ++ us).length = (i + 1) * 2 := by simp only [List.length_append, hT, hu]; omega
    rw [← hL]
    exact List.take_left
  rw [h2, e1]
  constructor
  · simp only [List.length_append, List.length_drop, hT, hu, hl1]; omega
  · unfold insC
    have hL : (cs.take (i * 2) ++ us ++ cs.drop (i * 2)).length = (n + 1) * 2 := by simp only [List.length_append, hT, hD, hu]; omega
    rw [← hL]
    exact List.take_left
set_option maxRecDepth 100000 in
set_option maxHeartbeats 3200000 in
theorem insertGrowR (n i g vb : Nat) (cs : List Value) (u0 u1 : Value) (w : World) (hn : n ≤ 10000) (hi : i < n) (hl : cs.length = n * 2) (hc1 : ∀ u ∈ cs, u.oneCell' = true) (hu1 : ∀ u ∈ [u0, u1], u.oneCell' = true) (hg : w.heap[g]? = some (.cells cs.toArray 53 (0, 0))) (hv : w.heap[vb]? = some (.cells #[u0, u1] 53 (0, 0))) :
    Calls Try.prog 66 #[.slice (some ⟨g, 0, none⟩) n n, .int .i64 i, .slice (some ⟨vb, 0, none⟩) 1 1] w (InsR w (insC cs i [u0, u1]) (n + 1)) := by
  have hgw : g < w.heap.size := (Array.getElem?_eq_some_iff.1 hg).1
  have hvw : vb < w.heap.size := (Array.getElem?_eq_some_iff.1 hv).1
  obtain ⟨ti, hti, hz, hs, hby⟩ := infoRow2
  have hik : i + (n + 1 - i) = n + 1 := by omega
  have hkk : (n : Int) + 1 - (i : Int) = ((n + 1 - i : Nat) : Int) := by omega
  have hT : (cs.take (i * 2)).length = i * 2 := by rw [List.length_take]; omega
  have hold : (Builtin.firstCells ti.size i (.slice (some ⟨g, 0, none⟩) i n)).run Try.prog w.drew = .ok (cs.take (i * 2)).toArray w.drew := by
    rw [hs]
    refine run_firstCells_some w.drew 2 i ⟨g, 0, none⟩ i n (cs.take (i * 2)) hT (fun j u hj => ?_)
    refine cells_rowR (w := w.drew) hg 0 j u ?_
    rw [List.getElem?_take] at hj
    split at hj
    · simpa using hj
    · cases hj
  obtain ⟨G, hG⟩ : ∃ G, G = grownCap w (n + 1) n 53 := ⟨_, rfl⟩
  obtain ⟨R, hR⟩ : ∃ R : Array Value, R = (cs.take (i * 2)).toArray ++ Builtin.zeroCells (Value.agg #[.int .i64 0, .slice none 0 0]).cells (n + 1 - i) ++ Builtin.zeroCells (Value.agg #[.int .i64 0, .slice none 0 0]).cells (G - (n + 1)) := ⟨_, rfl⟩
  have hrz : ∀ ty, (Builtin.append_ #[73, 3] ty #[.slice (some ⟨g, 0, none⟩) i n, .int .i64 ((n : Int) + 1 - (i : Int))]).run Try.prog w =
      .ok (.slice (some ⟨w.heap.size, 0, none⟩) (n + 1) G) (w.drew.alloc (.cells R 53)) := fun ty => by
    have h := Lib.run_append_grow_zeros (P := Try.prog) w 73 3 ty 53 ti _ .i64 .i64 Try.underlying73 Try.underlying3 hti hz (some ⟨g, 0, none⟩) i n (cs.take (i * 2)) hold (n + 1 - i) (by omega) (by omega) (by omega) (by omega) (by rw [hby]; omega) (by rw [hby, hik]; exact growslice_fits (by omega) (by omega))
    rw [hik, ← hG, ← hR] at h
    rw [hkk]
    exact h
  have hGn : n + 1 ≤ G := by rw [hG]; exact grownCap_ge w _ _ _
  have hGm : G ≤ maxLen := by rw [hG]; exact grownCap_le_maxLen w _ _ _ (by unfold maxLen; omega)
  have hRl : R.size = G * 2 := by rw [hR]; simp only [Array.size_append, zeros_lenR, List.size_toArray, hT]; omega
  have hRt : R.toList.take (i * 2) = cs.take (i * 2) := by
    rw [hR, Array.toList_append, Array.toList_append, List.append_assoc, List.toList_toArray, List.take_append_of_le_length (by omega), List.take_take, Nat.min_self]
  obtain ⟨W1, hW1⟩ : ∃ W1, W1 = w.drew.alloc (.cells R 53) := ⟨_, rfl⟩
  have hN1 : W1.heap[w.heap.size]? = some (.cells R 53 (0, 0)) := by rw [hW1]; exact heap_newD w.drew _
  have hO1 : ∀ k, k < w.heap.size → W1.heap[k]? = w.heap[k]? := fun k hk => by
    rw [hW1]
    show (w.heap.push _)[k]? = _
    simp [Array.getElem?_push, Nat.ne_of_lt hk]
  have hS1 : W1.heap.size = w.heap.size + 1 := by rw [hW1]; show (w.heap.push _).size = _; simp
  have hos : W1.os = w.os ∧ W1.tape = w.tape ∧ W1.output = w.output := by rw [hW1]; exact ⟨rfl, rfl, rfl⟩
  rw [← hW1] at hrz
  obtain ⟨c1, hc1'⟩ : ∃ c1, c1 = R.toList.take (i * 2) ++ [u0, u1] ++ R.toList.drop (i * 2 + 1 * 2) := ⟨_, rfl⟩
  obtain ⟨c2, hc2⟩ : ∃ c2, c2 = c1.take ((i + 1) * 2) ++ cs.drop (i * 2) ++ c1.drop ((i + 1) * 2 + (n - i) * 2) := ⟨_, rfl⟩
  have hrow := row_newR (us := [u0, u1]) hl rfl hRt (by omega) (by simp [hRl]; omega) c1 c2 hc1' hc2
  have hc1l : c1.length = G * 2 := by rw [hc1']; simp only [List.length_append, List.length_take, List.length_drop, Array.length_toList, hRl, List.length_cons, List.length_nil]; omega
  have HCA : ∀ ty dc, (Builtin.copy_ #[73, 73] ty #[.slice (some ⟨w.heap.size, i * 2, none⟩) (n + 1 - i) dc, .slice (some ⟨vb, 0, none⟩) 1 1]).run Try.prog W1 = .ok (goInt 1) (W1.setRow w.heap.size c1.toArray) := fun ty dc => by
    have h := run_copyR W1 ty w.heap.size (i * 2) (n + 1 - i) dc ⟨vb, 0, none⟩ 1 1 1 R [u0, u1] rfl hu1 hN1 (by simp only [Nat.min_def]; split <;> omega) (fun j u hj => cells_rowR (w := W1) (cs := [u0, u1]) (by rw [hO1 vb hvw]; exact hv) 0 j u (by simpa using hj)) (by rw [hRl]; omega)
    rw [h, ← hc1']; rfl
  obtain ⟨W2, hW2⟩ : ∃ W2, W2 = W1.setRow w.heap.size c1.toArray := ⟨_, rfl⟩
  rw [← hW2] at HCA
  have hN2 : W2.heap[w.heap.size]? = some (.cells c1.toArray 53 (0, 0)) := by rw [hW2]; exact setRow_heap W1 _ _ _ _ _ hN1
  have hO2 : ∀ k, k < w.heap.size → W2.heap[k]? = w.heap[k]? := fun k hk => by rw [hW2, setRow_other _ _ _ _ (by omega)]; exact hO1 k hk
  have HCB : ∀ ty dc sc, (Builtin.copy_ #[73, 73] ty #[.slice (some ⟨w.heap.size, (i + 1) * 2, none⟩) (n - i) dc, .slice (some ⟨g, i * 2, none⟩) (n - i) sc]).run Try.prog W2.drew = .ok (goInt ((n - i : Nat) : Int)) (W2.drew.setRow w.heap.size c2.toArray) := fun ty dc sc => by
    have h := run_copyR W2.drew ty w.heap.size ((i + 1) * 2) (n - i) dc ⟨g, i * 2, none⟩ (n - i) sc (n - i) c1.toArray (cs.drop (i * 2)) (by rw [List.length_drop]; omega) (fun u hu => hc1 u (List.mem_of_mem_drop hu)) hN2 (by simp only [Nat.min_def]; split <;> omega) (cells_rowR (w := W2.drew) (by show W2.heap[g]? = _; rw [hO2 g hgw]; exact hg) (i * 2)) (by simp [hc1l]; omega)
    rw [h]
    simp only [List.toList_toArray]
    rw [← hc2]
  have FIN : Hid (InsR w (insC cs i [u0, u1]) (n + 1) (.returned (.slice (some ⟨w.heap.size, 0, none⟩) (n + 1) G)) (W2.drew.setRow w.heap.size c2.toArray)) := by
    refine ⟨w.heap.size, G, c2.toArray, rfl, Nat.le_refl _, setRow_heap W2.drew _ _ _ _ _ hN2, by simpa using hrow.2, by omega, hGm, by simp [hrow.1, hRl], ⟨?_, ?_, ?_, ?_, fun k hk => ?_⟩⟩
    · show W2.os = w.os; rw [hW2]; exact hos.1
    · show W2.tape = w.tape; rw [hW2]; exact hos.2.1
    · show W2.output = w.output; rw [hW2]; exact hos.2.2
    · rw [setRow_size]; show w.heap.size ≤ W2.heap.size; rw [hW2, setRow_size]; omega
    · rw [setRow_other _ _ _ _ (by omega)]; exact hO2 k hk
  have rz := hrz 73
  have ca := HCA 3 (G - i)
  have cb := HCB 3 (G - (i + 1)) (n - i)
  unfold maxLen at hGm
  have hz2 : ¬ ((i : Int) = (n : Int)) := by omega
  have hin : i ≤ n := by omega
  have hw1 : IntKind.i64.wrap ((i : Int) + 1) = (i : Int) + 1 := by rw [IntKind.wrap_i64]; omega
  have hw2 : IntKind.i64.wrap ((n : Int) + 1) = (n : Int) + 1 := by rw [IntKind.wrap_i64]; omega
  have hw3 : IntKind.i64.wrap ((n : Int) + 1 - (i : Int)) = (n : Int) + 1 - (i : Int) := by rw [IntKind.wrap_i64]; omega
  have hb1 : (0 : Int) ≤ (i : Int) + 1 := by omega
  have htn : ((i : Int) + 1).toNat = i + 1 := by omega
  have hb2 : ¬ (G = i + 1) := by omega
  have hb3 : ¬ (G = i) := by omega
  have hb4 : ¬ (n = i) := by omega
  have hb5 : (n : Int) < (n : Int) + 1 := by omega
  have hb6 : (i : Int) ≤ (n : Int) := by omega
  have hb7 : (i : Int) ≤ (n : Int) + 1 := by omega
  clear hg hv hrow hc1l hc1 hc1' hc2 hik hkk hold hrz hRl hRt hR hN1 hO1 hS1 hos HCA HCB hN2 hO2 hW2 hW1 hG hT hti hz hs hby hl hu1
  go_enter Try.func66, Try.ntmps66
  go_wp2_with (at_builtin; refine wpList_appZR rfl (.tmp 34) (.tmp 39) rfl _ _ rfl rfl rz ?_)
  go_region
  go_wp2_with fail
  go_ret
  exact FIN.out
theorem insertR (n i g vb : Nat) (cs : List Value) (u0 u1 : Value) (w : World) (hn : n ≤ 10000) (hi : i ≤ n) (hl : cs.length = n * 2) (hc1 : ∀ u ∈ cs, u.oneCell' = true) (hu1 : ∀ u ∈ [u0, u1], u.oneCell' = true) (hg : w.heap[g]? = some (.cells cs.toArray 53 (0, 0))) (hv : w.heap[vb]? = some (.cells #[u0, u1] 53 (0, 0))) :
    Calls Try.prog 66 #[.slice (some ⟨g, 0, none⟩) n n, .int .i64 i, .slice (some ⟨vb, 0, none⟩) 1 1] w (InsR w (insC cs i [u0, u1]) (n + 1)) := by
  by_cases he : i = n
  · subst he
    exact insertEndR i g vb cs u0 u1 w hn hl hg hv
  · exact insertGrowR n i g vb cs u0 u1 w hn (by omega) hl hc1 hu1 hg hv
end Go.Proofs.Ytdhlndpobpdfmaa
