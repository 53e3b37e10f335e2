import Derived.Test.YthpenliecgpedaaZav
import Derived.Test.YthpenliecgpedaaZaf
import Derived.Laws.CopyRow
import Derived.Lib.AppendZerosOnto
import Derived.Deep.RegionLaw
import Derived.Lib.Overlaps
namespace Go.Proofs.Ythpenliecgpedaa
open Go.RowKit
set_option linter.unusedSimpArgs false
theorem frm_below {w w' : World} {F : Nat → Prop} (h : Below w.heap.size w w') : Frm F w w' := ⟨h.os, h.tape, h.output, h.size, fun b hb _ => h.block b hb⟩
theorem infoRow2K : ∃ i, Try.prog.info? 54 = some i ∧ i.zero = some (.agg #[.string ⟨#[]⟩, .slice none 0 0]) ∧ i.size = 2 ∧ i.bytes = 40 := by
  have h : (Try.prog.info? 54).map (fun i => (i.zero, i.size, i.bytes)) = some (some (.agg #[.string ⟨#[]⟩, .slice none 0 0]), 2, 40) := by kernel_rfl
  obtain ⟨i, hi, hzz⟩ := Option.map_eq_some_iff.1 h
  simp only [Prod.mk.injEq] at hzz
  exact ⟨i, hi, hzz⟩
theorem run_copyRK (w : World) (ty : TypeId) (g o dLen dCap : Nat) (a : Addr) (sLen sCap m : Nat) (cur : Array Value) (cs : List Value) (hl : cs.length = m * 2) (h1 : ∀ u ∈ cs, u.oneCell' = true) (hg : w.heap[g]? = some (.cells cur 54 (0, 0))) (hn : m = Nat.min sLen dLen)
    (hsrc : ∀ j v, cs[j]? = some v → w.cell? (a.add j) = some v) (hfit : o + m * 2 ≤ cur.size) :
    (Builtin.copy_ #[23, 23] ty #[.slice (some ⟨g, o, none⟩) dLen dCap, .slice (some a) sLen sCap]).run Try.prog w =
      .ok (goInt m) (w.setRow g (cur.toList.take o ++ cs ++ cur.toList.drop (o + m * 2)).toArray) := by
  obtain ⟨i, hi, hz, hs, hby⟩ := infoRow2K
  have hld := run_loadCells_list (P := Try.prog) w a cs hsrc
  have hst := run_storeCells_at Try.prog g o 54 cs 0 cur w hg (by rw [hl]; simpa using hfit) h1
  rw [hl] at hld hst
  simp [Builtin.copy_, run_underlying Try.underlying23, Builtin.lenOf, Builtin.firstCells, sizeOf, typeInfo, hi, hs, ← hn, hld, hst]
theorem wpList_appZRK {ops : Array Oper} {rest : List Oper} {o : Oper} {a : Act} {w : World} {Q : Exit → Act → World → Prop} (hgd : o.guard = none) (d x : Operand)
    (ho : o.op = .call { callee := .builtin .append, args := #[d, x], argTypes := #[23, 3] }) (v u : Value) (hd : a.eval d = v) (hx : a.eval x = u) {v' : Value} {w' : World}
    (hr : (Builtin.append_ #[23, 3] o.type #[v, u]).run Try.prog w = .ok v' w') (h : wpList Try.prog ops Q rest (a.put o.dst v') w') : wpList Try.prog ops Q (o :: rest) a w := by
  refine wpList_plain hgd fun K hK => ?_
  unfold Oper.wp execOp
  simp only [ho, resolve, invoke, builtin, Sem.run_bind, Sem.run_pure, Result.andThen_ok, List.map_toArray, List.map_cons, List.map_nil, hd, hx, hr]
  exact hK _ _ h
def insCK (cs : List Value) (i : Nat) (us : List Value) : List Value := cs.take (i * 2) ++ us ++ cs.drop (i * 2)
def InsRK (w : World) (ds : List Value) (m : Nat) (e : Ending) (w' : World) : Prop := ∃ (g cap : Nat) (cur : Array Value), e = .returned (.slice (some ⟨g, 0, none⟩) m cap) ∧ w.heap.size ≤ g ∧ w'.heap[g]? = some (.cells cur 54 (0, 0)) ∧ cur.toList.take (m * 2) = ds ∧ m ≤ cap ∧ cap ≤ maxLen ∧ cur.size = cap * 2 ∧ Below w.heap.size w w'
theorem cells_rowRK {w : World} {g : Nat} {cs : List Value} (h : w.heap[g]? = some (.cells cs.toArray 54 (0, 0))) (o : Nat) : ∀ j u, (cs.drop o)[j]? = some u → w.cell? ((⟨g, o, none⟩ : Addr).add j) = some u := fun j u hj => by
  rw [Addr.add_mid]
  rw [List.getElem?_drop] at hj
  simp [World.cell?, h, hj]
set_option maxRecDepth 100000 in
set_option maxHeartbeats 1600000 in
theorem insertEndRK (n g vb : Nat) (cs : List Value) (u0 u1 : Value) (w : World) (hn : n ≤ 10000) (hl : cs.length = n * 2) (hg : w.heap[g]? = some (.cells cs.toArray 54 (0, 0))) (hv : w.heap[vb]? = some (.cells #[u0, u1] 54 (0, 0))) :
    Calls Try.prog 73 #[.slice (some ⟨g, 0, none⟩) n n, .int .i64 n, .slice (some ⟨vb, 0, none⟩) 1 1] w (InsRK w (insCK cs n [u0, u1]) (n + 1)) := by
  obtain ⟨i, hi, hz, hs, hby⟩ := infoRow2K
  obtain ⟨v', w', hr, hown, hgr⟩ := run_append_arg_grows (P := Try.prog) w 23 23 54 i _ 2 40 Try.underlying23 hi hz hs hby rfl (by omega) ⟨g, 0, none⟩ n n cs hl (fun j u hj => cells_rowRK hg 0 j u (by simpa using hj)) ⟨vb, 0, none⟩ 1 1 [u0, u1] rfl (fun j u hj => cells_rowRK (cs := [u0, u1]) hv 0 j u (by simpa using hj)) (by omega) (by unfold maxLen; omega) (by omega)
  have FIN : Hid (InsRK w (insCK cs n [u0, u1]) (n + 1) (.returned v') w') := by
    rcases hown.2 with ⟨-, h0⟩ | ⟨g', cap, cur, rfl, hg', hb, hn', hcap, hcs, hx⟩
    · omega
    · refine ⟨g', cap, cur, rfl, hg', hb, ?_, hn', hcap, hcs, ⟨hgr.os, hgr.tape, hgr.output, hgr.size, fun b hb' => hgr.block b hb' (by simp)⟩⟩
      rw [hx]
      unfold insCK
      rw [List.take_of_length_le (by omega), List.drop_eq_nil_of_le (by omega), List.append_nil]
  have HR := Lib.hid hr
  clear hr hown hgr hi hz hs hby hl hg hv
  go_enter Try.func73, Try.ntmps73
  go_wp2_with (at_builtin; go_must (refine wpList_appIs rfl (.tmp 23) (.tmp 24) 23 rfl _ _ rfl rfl _ _ HR.out ?_))
  go_ret
  exact FIN.out
theorem zeros_lenRK (n : Nat) : (Builtin.zeroCells (Value.agg #[.string ⟨#[]⟩, .slice none 0 0]).cells n).size = n * 2 := by
  simp [Builtin.zeroCells, Value.cells]
theorem row_newRK {r0 cs us : List Value} {i n : Nat} (hl : cs.length = n * 2) (hu : us.length = 2) (h : r0.take (i * 2) = cs.take (i * 2)) (hi : i ≤ n) (hc : (n + 1) * 2 ≤ r0.length) (c1 c2 : List Value)
    (h1 : c1 = r0.take (i * 2) ++ us ++ r0.drop (i * 2 + 1 * 2)) (h2 : c2 = c1.take ((i + 1) * 2) ++ cs.drop (i * 2) ++ c1.drop ((i + 1) * 2 + (n - i) * 2)) :
    c2.length = r0.length ∧ c2.take ((n + 1) * 2) = insCK cs i us := by
  have hT : (cs.take (i * 2)).length = i * 2 := by rw [List.length_take]; omega
  have hD : (cs.drop (i * 2)).length = (n - i) * 2 := by rw [List.length_drop]; omega
  have hl1 : c1.length = r0.length := by rw [h1, h]; simp only [List.length_append, List.length_drop, hT, hu]; omega
  have e1 : c1.take ((i + 1) * 2) = cs.take (i * 2) ++ us := by
    rw [h1, h]
    have hL : (cs.take (i * 2) ++ us).length = (i + 1) * 2 := by simp only [List.length_append, hT, hu]; omega
    rw [← hL]
    exact List.take_left
  rw [h2, e1]
  constructor
  · simp only [List.length_append, List.length_drop, hT, hu, hl1]; omega
  · unfold insCK
    have hL : (cs.take (i * 2) ++ us ++ cs.drop (i * 2)).length = (n + 1) * 2 := by simp only [List.length_append, hT, hD, hu]; omega
    rw [← hL]
    exact List.take_left
set_option maxRecDepth 100000 in
set_option maxHeartbeats 3200000 in
theorem insertGrowRK (n i g vb : Nat) (cs : List Value) (u0 u1 : Value) (w : World) (hn : n ≤ 10000) (hi : i < n) (hl : cs.length = n * 2) (hc1 : ∀ u ∈ cs, u.oneCell' = true) (hu1 : ∀ u ∈ [u0, u1], u.oneCell' = true) (hg : w.heap[g]? = some (.cells cs.toArray 54 (0, 0))) (hv : w.heap[vb]? = some (.cells #[u0, u1] 54 (0, 0))) :
    Calls Try.prog 73 #[.slice (some ⟨g, 0, none⟩) n n, .int .i64 i, .slice (some ⟨vb, 0, none⟩) 1 1] w (InsRK w (insCK cs i [u0, u1]) (n + 1)) := by
  have hgw : g < w.heap.size := (Array.getElem?_eq_some_iff.1 hg).1
  have hvw : vb < w.heap.size := (Array.getElem?_eq_some_iff.1 hv).1
  obtain ⟨ti, hti, hz, hs, hby⟩ := infoRow2K
  have hik : i + (n + 1 - i) = n + 1 := by omega
  have hkk : (n : Int) + 1 - (i : Int) = ((n + 1 - i : Nat) : Int) := by omega
  have hT : (cs.take (i * 2)).length = i * 2 := by rw [List.length_take]; omega
  have hold : (Builtin.firstCells ti.size i (.slice (some ⟨g, 0, none⟩) i n)).run Try.prog w.drew = .ok (cs.take (i * 2)).toArray w.drew := by
    rw [hs]
    refine run_firstCells_some w.drew 2 i ⟨g, 0, none⟩ i n (cs.take (i * 2)) hT (fun j u hj => ?_)
    refine cells_rowRK (w := w.drew) hg 0 j u ?_
    rw [List.getElem?_take] at hj
    split at hj
    · simpa using hj
    · cases hj
  obtain ⟨G, hG⟩ : ∃ G, G = grownCap w (n + 1) n 54 := ⟨_, rfl⟩
  obtain ⟨R, hR⟩ : ∃ R : Array Value, R = (cs.take (i * 2)).toArray ++ Builtin.zeroCells (Value.agg #[.string ⟨#[]⟩, .slice none 0 0]).cells (n + 1 - i) ++ Builtin.zeroCells (Value.agg #[.string ⟨#[]⟩, .slice none 0 0]).cells (G - (n + 1)) := ⟨_, rfl⟩
  have hrz : ∀ ty, (Builtin.append_ #[23, 3] ty #[.slice (some ⟨g, 0, none⟩) i n, .int .i64 ((n : Int) + 1 - (i : Int))]).run Try.prog w =
      .ok (.slice (some ⟨w.heap.size, 0, none⟩) (n + 1) G) (w.drew.alloc (.cells R 54)) := fun ty => by
    have h := Lib.run_append_grow_zeros (P := Try.prog) w 23 3 ty 54 ti _ .i64 .i64 Try.underlying23 Try.underlying3 hti hz (some ⟨g, 0, none⟩) i n (cs.take (i * 2)) hold (n + 1 - i) (by omega) (by omega) (by omega) (by omega) (by rw [hby]; omega) (by rw [hby, hik]; exact growslice_fits (by omega) (by omega))
    rw [hik, ← hG, ← hR] at h
    rw [hkk]
    exact h
  have hGn : n + 1 ≤ G := by rw [hG]; exact grownCap_ge w _ _ _
  have hGm : G ≤ maxLen := by rw [hG]; exact grownCap_le_maxLen w _ _ _ (by unfold maxLen; omega)
  have hRl : R.size = G * 2 := by rw [hR]; simp only [Array.size_append, zeros_lenRK, List.size_toArray, hT]; omega
  have hRt : R.toList.take (i * 2) = cs.take (i * 2) := by
    rw [hR, Array.toList_append, Array.toList_append, List.append_assoc, List.toList_toArray, List.take_append_of_le_length (by omega), List.take_take, Nat.min_self]
  obtain ⟨W1, hW1⟩ : ∃ W1, W1 = w.drew.alloc (.cells R 54) := ⟨_, rfl⟩
  have hN1 : W1.heap[w.heap.size]? = some (.cells R 54 (0, 0)) := by rw [hW1]; exact heap_newD w.drew _
  have hO1 : ∀ k, k < w.heap.size → W1.heap[k]? = w.heap[k]? := fun k hk => by
    rw [hW1]
    show (w.heap.push _)[k]? = _
    simp [Array.getElem?_push, Nat.ne_of_lt hk]
  have hS1 : W1.heap.size = w.heap.size + 1 := by rw [hW1]; show (w.heap.push _).size = _; simp
  have hos : W1.os = w.os ∧ W1.tape = w.tape ∧ W1.output = w.output := by rw [hW1]; exact ⟨rfl, rfl, rfl⟩
  rw [← hW1] at hrz
  obtain ⟨c1, hc1'⟩ : ∃ c1, c1 = R.toList.take (i * 2) ++ [u0, u1] ++ R.toList.drop (i * 2 + 1 * 2) := ⟨_, rfl⟩
  obtain ⟨c2, hc2⟩ : ∃ c2, c2 = c1.take ((i + 1) * 2) ++ cs.drop (i * 2) ++ c1.drop ((i + 1) * 2 + (n - i) * 2) := ⟨_, rfl⟩
  have hrow := row_newRK (us := [u0, u1]) hl rfl hRt (by omega) (by simp [hRl]; omega) c1 c2 hc1' hc2
  have hc1l : c1.length = G * 2 := by rw [hc1']; simp only [List.length_append, List.length_take, List.length_drop, Array.length_toList, hRl, List.length_cons, List.length_nil]; omega
  have HCA : ∀ ty dc, (Builtin.copy_ #[23, 23] ty #[.slice (some ⟨w.heap.size, i * 2, none⟩) (n + 1 - i) dc, .slice (some ⟨vb, 0, none⟩) 1 1]).run Try.prog W1 = .ok (goInt 1) (W1.setRow w.heap.size c1.toArray) := fun ty dc => by
    have h := run_copyRK W1 ty w.heap.size (i * 2) (n + 1 - i) dc ⟨vb, 0, none⟩ 1 1 1 R [u0, u1] rfl hu1 hN1 (by simp only [Nat.min_def]; split <;> omega) (fun j u hj => cells_rowRK (w := W1) (cs := [u0, u1]) (by rw [hO1 vb hvw]; exact hv) 0 j u (by simpa using hj)) (by rw [hRl]; omega)
    rw [h, ← hc1']; rfl
  obtain ⟨W2, hW2⟩ : ∃ W2, W2 = W1.setRow w.heap.size c1.toArray := ⟨_, rfl⟩
  rw [← hW2] at HCA
  have hN2 : W2.heap[w.heap.size]? = some (.cells c1.toArray 54 (0, 0)) := by rw [hW2]; exact setRow_heap W1 _ _ _ _ _ hN1
  have hO2 : ∀ k, k < w.heap.size → W2.heap[k]? = w.heap[k]? := fun k hk => by rw [hW2, setRow_other _ _ _ _ (by omega)]; exact hO1 k hk
  have HCB : ∀ ty dc sc, (Builtin.copy_ #[23, 23] ty #[.slice (some ⟨w.heap.size, (i + 1) * 2, none⟩) (n - i) dc, .slice (some ⟨g, i * 2, none⟩) (n - i) sc]).run Try.prog W2.drew = .ok (goInt ((n - i : Nat) : Int)) (W2.drew.setRow w.heap.size c2.toArray) := fun ty dc sc => by
    have h := run_copyRK W2.drew ty w.heap.size ((i + 1) * 2) (n - i) dc ⟨g, i * 2, none⟩ (n - i) sc (n - i) c1.toArray (cs.drop (i * 2)) (by rw [List.length_drop]; omega) (fun u hu => hc1 u (List.mem_of_mem_drop hu)) hN2 (by simp only [Nat.min_def]; split <;> omega) (cells_rowRK (w := W2.drew) (by show W2.heap[g]? = _; rw [hO2 g hgw]; exact hg) (i * 2)) (by simp [hc1l]; omega)
    rw [h]
    simp only [List.toList_toArray]
    rw [← hc2]
  have FIN : Hid (InsRK w (insCK cs i [u0, u1]) (n + 1) (.returned (.slice (some ⟨w.heap.size, 0, none⟩) (n + 1) G)) (W2.drew.setRow w.heap.size c2.toArray)) := by
    refine ⟨w.heap.size, G, c2.toArray, rfl, Nat.le_refl _, setRow_heap W2.drew _ _ _ _ _ hN2, by simpa using hrow.2, by omega, hGm, by simp [hrow.1, hRl], ⟨?_, ?_, ?_, ?_, fun k hk => ?_⟩⟩
    · show W2.os = w.os; rw [hW2]; exact hos.1
    · show W2.tape = w.tape; rw [hW2]; exact hos.2.1
    · show W2.output = w.output; rw [hW2]; exact hos.2.2
    · rw [setRow_size]; show w.heap.size ≤ W2.heap.size; rw [hW2, setRow_size]; omega
    · rw [setRow_other _ _ _ _ (by omega)]; exact hO2 k hk
  have rz := hrz 23
  have ca := HCA 3 (G - i)
  have cb := HCB 3 (G - (i + 1)) (n - i)
  unfold maxLen at hGm
  have hz2 : ¬ ((i : Int) = (n : Int)) := by omega
  have hin : i ≤ n := by omega
  have hw1 : IntKind.i64.wrap ((i : Int) + 1) = (i : Int) + 1 := by rw [IntKind.wrap_i64]; omega
  have hw2 : IntKind.i64.wrap ((n : Int) + 1) = (n : Int) + 1 := by rw [IntKind.wrap_i64]; omega
  have hw3 : IntKind.i64.wrap ((n : Int) + 1 - (i : Int)) = (n : Int) + 1 - (i : Int) := by rw [IntKind.wrap_i64]; omega
  have hb1 : (0 : Int) ≤ (i : Int) + 1 := by omega
  have htn : ((i : Int) + 1).toNat = i + 1 := by omega
  have hb2 : ¬ (G = i + 1) := by omega
  have hb3 : ¬ (G = i) := by omega
  have hb4 : ¬ (n = i) := by omega
  have hb5 : (n : Int) < (n : Int) + 1 := by omega
  have hb6 : (i : Int) ≤ (n : Int) := by omega
  have hb7 : (i : Int) ≤ (n : Int) + 1 := by omega
  clear hg hv hrow hc1l hc1 hc1' hc2 hik hkk hold hrz hRl hRt hR hN1 hO1 hS1 hos HCA HCB hN2 hO2 hW2 hW1 hG hT hti hz hs hby hl hu1
  go_enter Try.func73, Try.ntmps73
  go_wp2_with (at_builtin; refine wpList_appZRK rfl (.tmp 34) (.tmp 39) rfl _ _ rfl rfl rz ?_)
  go_region
  go_wp2_with fail
  go_ret
  exact FIN.out
theorem insertRK (n i g vb : Nat) (cs : List Value) (u0 u1 : Value) (w : World) (hn : n ≤ 10000) (hi : i ≤ n) (hl : cs.length = n * 2) (hc1 : ∀ u ∈ cs, u.oneCell' = true) (hu1 : ∀ u ∈ [u0, u1], u.oneCell' = true) (hg : w.heap[g]? = some (.cells cs.toArray 54 (0, 0))) (hv : w.heap[vb]? = some (.cells #[u0, u1] 54 (0, 0))) :
    Calls Try.prog 73 #[.slice (some ⟨g, 0, none⟩) n n, .int .i64 i, .slice (some ⟨vb, 0, none⟩) 1 1] w (InsRK w (insCK cs i [u0, u1]) (n + 1)) := by
  by_cases he : i = n
  · subst he
    exact insertEndRK i g vb cs u0 u1 w hn hl hg hv
  · exact insertGrowRK n i g vb cs u0 u1 w hn (by omega) hl hc1 hu1 hg hv
def Ins2K (w : World) (g cp : Nat) (ds : List Value) (m : Nat) (e : Ending) (w' : World) : Prop := ∃ (g' cap : Nat) (cur : Array Value), e = .returned (.slice (some ⟨g', 0, none⟩) m cap) ∧ ((g' = g ∧ 0 < cp) ∨ w.heap.size ≤ g') ∧ w'.heap[g']? = some (.cells cur 54 (0, 0)) ∧ cur.toList.take (m * 2) = ds ∧ m ≤ cap ∧ cap ≤ maxLen ∧ cur.size = cap * 2 ∧ Frm (fun c => c = g ∧ 0 < cp) w w'
theorem Ins2K.of {w w' : World} {g cp m : Nat} {ds : List Value} {e : Ending} (h : InsRK w ds m e w') : Ins2K w g cp ds m e w' := by
  obtain ⟨g', cap, cur, h1, h2, h3, h4, h5, h6, h7, h8⟩ := h
  exact ⟨g', cap, cur, h1, .inr h2, h3, h4, h5, h6, h7, frm_below h8⟩
theorem frm_rowK (w : World) (g : Nat) (c : Array Value) : Frm (· = g) w (w.setRow g c) := ⟨rfl, rfl, rfl, by rw [setRow_size]; exact Nat.le_refl _, fun b _ hb => setRow_other _ _ _ _ hb⟩
set_option maxRecDepth 100000 in
set_option maxHeartbeats 1600000 in
theorem insertEndYK (n cap g vb : Nat) (cur : Array Value) (cs : List Value) (u0 u1 : Value) (w : World) (hn : n ≤ 10000) (hr : n < cap) (hcm : cap ≤ maxLen) (hg : w.heap[g]? = some (.cells cur 54 (0, 0))) (hsz : cur.size = cap * 2) (hx : cur.toList.take (n * 2) = cs) (hu1 : ∀ u ∈ [u0, u1], u.oneCell' = true) (hv : w.heap[vb]? = some (.cells #[u0, u1] 54 (0, 0))) :
    Calls Try.prog 73 #[.slice (some ⟨g, 0, none⟩) n cap, .int .i64 n, .slice (some ⟨vb, 0, none⟩) 1 1] w (Ins2K w g cap (insCK cs n [u0, u1]) (n + 1)) := by
  obtain ⟨i, hi, hz, hs, hby⟩ := infoRow2K
  have hrun := run_append_room (P := Try.prog) w 23 23 54 i Try.underlying23 hi g n cap cur hg ⟨vb, 0, none⟩ 1 1 [u0, u1] (by rw [hs]; rfl) (fun j u hj => cells_rowRK (cs := [u0, u1]) hv 0 j u (by simpa using hj)) hu1 (by omega) (by rw [hs, hsz]; simp; omega)
  rw [hs] at hrun
  obtain ⟨ds, hds⟩ : ∃ ds, ds = cur.toList.take (n * 2) ++ [u0, u1] ++ cur.toList.drop (n * 2 + [u0, u1].length) := ⟨_, rfl⟩
  rw [← hds] at hrun
  have hT : (cur.toList.take (n * 2)).length = n * 2 := by rw [List.length_take, Array.length_toList]; omega
  have hdl : ds.length = cap * 2 := by rw [hds]; simp only [List.length_append, List.length_drop, hT, Array.length_toList, List.length_cons, List.length_nil]; omega
  have hdt : ds.take ((n + 1) * 2) = insCK cs n [u0, u1] := by
    have hL : (cur.toList.take (n * 2) ++ [u0, u1]).length = (n + 1) * 2 := by simp only [List.length_append, hT, List.length_cons, List.length_nil]; omega
    rw [hds, ← hL, List.take_left]
    unfold insCK
    rw [← hx, List.take_take, Nat.min_self, List.drop_eq_nil_of_le (by rw [hT]; exact Nat.le_refl _), List.append_nil]
  have FIN : Hid (Ins2K w g cap (insCK cs n [u0, u1]) (n + 1) (.returned (.slice (some ⟨g, 0, none⟩) (n + 1) cap)) (w.setRow g ds.toArray)) :=
    ⟨g, cap, ds.toArray, rfl, .inl ⟨rfl, by omega⟩, setRow_heap w g cur _ _ _ hg, by simpa using hdt, by omega, hcm, by simp [hdl], (frm_rowK _ _ _).mono (fun c h => ⟨h, by omega⟩)⟩
  have HR := Lib.hid hrun
  clear hrun hi hz hs hby hx hv hg hsz hds hT hdl hdt hu1 hcm
  go_enter Try.func73, Try.ntmps73
  go_wp2_with (at_builtin; go_must (refine wpList_appIs rfl (.tmp 23) (.tmp 24) 23 rfl _ _ rfl rfl _ _ HR.out ?_))
  go_ret
  exact FIN.out
theorem sizeRwK (w : World) : (Go.sizeOf 54).run Try.prog w = .ok 2 w := by
  obtain ⟨i, hi, hz, hs, hby⟩ := infoRow2K
  simp [Go.sizeOf, typeInfo, hi, hs]
theorem ov_apartRK {w : World} {g vb : Nat} {cur cv : Array Value} (hg : w.heap[g]? = some (.cells cur 54 (0, 0))) (hv : w.heap[vb]? = some (.cells cv 54 (0, 0))) (hne : vb ≠ g) (hc : cur.size ≠ 0) (o la ca lb cb : Nat) :
    (callFunc 89 #[.slice (some ⟨vb, 0, none⟩) la ca, .slice (some ⟨g, o, none⟩) lb cb]).run Try.prog w = .ok (.value (.bool false)) w := by
  rw [run_callFunc_extern Try.func89 (by kernel_rfl) (by kernel_rfl) (by kernel_rfl) (e := Extern.SlicesOverlaps.overlaps #[23, 23] #[4]) (by kernel_rfl),
    Lib.run_overlaps_apart w 23 4 54 Try.underlying23 2 sizeRwK ⟨vb, 0, none⟩ ⟨g, o, none⟩ la ca lb cb hne 54 54 cv.size cur.size (by simp [World.shape?, hv]) (by simp [World.shape?, hg]) hc (by simp [World.frozen?, hv]) (by simp [World.frozen?, hv])]
  rfl
theorem row_inRK {cur cs us : List Value} {i n : Nat} (hl : cs.length = n * 2) (hu : us.length = 2) (h : cur.take (n * 2) = cs) (hi : i ≤ n) (hc : (n + 1) * 2 ≤ cur.length) (c1 c2 : List Value)
    (h1 : c1 = cur.take ((i + 1) * 2) ++ cs.drop (i * 2) ++ cur.drop ((i + 1) * 2 + (n - i) * 2)) (h2 : c2 = c1.take (i * 2) ++ us ++ c1.drop (i * 2 + 1 * 2)) :
    c1.length = cur.length ∧ c2.length = cur.length ∧ c2.take ((n + 1) * 2) = insCK cs i us := by
  have hA : (cur.take ((i + 1) * 2)).length = (i + 1) * 2 := by rw [List.length_take]; omega
  have hD : (cs.drop (i * 2)).length = (n - i) * 2 := by rw [List.length_drop]; omega
  have hl1 : c1.length = cur.length := by rw [h1]; simp only [List.length_append, List.length_drop, hA]; omega
  have e1 : c1.take (i * 2) = cs.take (i * 2) := by
    rw [h1, List.append_assoc, List.take_append_of_le_length (by omega), List.take_take, ← h, List.take_take]
    congr 1
    omega
  have e2 : c1.drop (i * 2 + 1 * 2) = cs.drop (i * 2) ++ cur.drop ((i + 1) * 2 + (n - i) * 2) := by
    rw [h1, List.append_assoc, show i * 2 + 1 * 2 = (cur.take ((i + 1) * 2)).length by omega, List.drop_left]
  have hC : (c1.take (i * 2)).length = i * 2 := by rw [List.length_take]; omega
  refine ⟨hl1, ?_, ?_⟩
  · rw [h2]; simp only [List.length_append, List.length_drop, hC, hu, hl1]; omega
  · rw [h2, e1, e2, ← List.append_assoc]
    unfold insCK
    have hL : (cs.take (i * 2) ++ us ++ cs.drop (i * 2)).length = (n + 1) * 2 := by
      rw [← e1]; simp only [List.length_append, hC, hu, hD]; omega
    rw [← hL]
    exact List.take_left
set_option maxRecDepth 100000 in
set_option maxHeartbeats 3200000 in
theorem insertInRK (n i cap g vb : Nat) (cur : Array Value) (cs : List Value) (u0 u1 : Value) (w : World) (hn : n ≤ 10000) (hi : i < n) (hr : n < cap) (hcm : cap ≤ maxLen) (hg : w.heap[g]? = some (.cells cur 54 (0, 0))) (hsz : cur.size = cap * 2) (hx : cur.toList.take (n * 2) = cs) (hc1 : ∀ u ∈ cs, u.oneCell' = true) (hu1 : ∀ u ∈ [u0, u1], u.oneCell' = true) (hv : w.heap[vb]? = some (.cells #[u0, u1] 54 (0, 0))) (hne : vb ≠ g) :
    Calls Try.prog 73 #[.slice (some ⟨g, 0, none⟩) n cap, .int .i64 i, .slice (some ⟨vb, 0, none⟩) 1 1] w (Ins2K w g cap (insCK cs i [u0, u1]) (n + 1)) := by
  have hl : cs.length = n * 2 := by rw [← hx, List.length_take, Array.length_toList]; omega
  have HOV : Hid (∀ W : World, (∀ k, W.heap[k]? = w.heap[k]?) → ∀ o la ca lb cb, (callFunc 89 #[.slice (some ⟨vb, 0, none⟩) la ca, .slice (some ⟨g, o, none⟩) lb cb]).run Try.prog W = .ok (.value (.bool false)) W) := fun W hW o la ca lb cb =>
    ov_apartRK (by rw [hW]; exact hg) (by rw [hW]; exact hv) hne (by omega) o la ca lb cb
  obtain ⟨c1, hc1'⟩ : ∃ c1, c1 = cur.toList.take ((i + 1) * 2) ++ cs.drop (i * 2) ++ cur.toList.drop ((i + 1) * 2 + (n - i) * 2) := ⟨_, rfl⟩
  obtain ⟨c2, hc2⟩ : ∃ c2, c2 = c1.take (i * 2) ++ [u0, u1] ++ c1.drop (i * 2 + 1 * 2) := ⟨_, rfl⟩
  have hrow := row_inRK (us := [u0, u1]) hl rfl hx (by omega) (by simp [hsz]; omega) c1 c2 hc1' hc2
  have HC1 : Hid (∀ W : World, (∀ k, W.heap[k]? = w.heap[k]?) → ∀ ty dc sc, (Builtin.copy_ #[23, 23] ty #[.slice (some ⟨g, (i + 1) * 2, none⟩) (n - i) dc, .slice (some ⟨g, i * 2, none⟩) (n + 1 - i) sc]).run Try.prog W =
      .ok (goInt ((n - i : Nat) : Int)) (W.setRow g c1.toArray)) := fun W hW ty dc sc => by
    have h := run_copyRK W ty g ((i + 1) * 2) (n - i) dc ⟨g, i * 2, none⟩ (n + 1 - i) sc (n - i) cur (cs.drop (i * 2)) (by rw [List.length_drop]; omega) (fun u hu => hc1 u (List.mem_of_mem_drop hu)) (by rw [hW]; exact hg) (by simp only [Nat.min_def]; split <;> omega) (fun j u hj => by
      rw [Addr.add_mid]
      rw [List.getElem?_drop, ← hx, List.getElem?_take] at hj
      split at hj
      · rw [Array.getElem?_toList] at hj
        simp [World.cell?, hW, hg, hj]
      · cases hj) (by rw [hsz]; omega)
    rw [h, ← hc1']
  have HC2 : Hid (∀ W : World, (∀ k, W.heap[k]? = (w.setRow g c1.toArray).heap[k]?) → ∀ ty dc, (Builtin.copy_ #[23, 23] ty #[.slice (some ⟨g, i * 2, none⟩) (n + 1 - i) dc, .slice (some ⟨vb, 0, none⟩) 1 1]).run Try.prog W =
      .ok (goInt 1) (W.setRow g c2.toArray)) := fun W hW ty dc => by
    have h := run_copyRK W ty g (i * 2) (n + 1 - i) dc ⟨vb, 0, none⟩ 1 1 1 c1.toArray [u0, u1] rfl hu1 (by rw [hW]; exact setRow_heap w g cur _ _ _ hg) (by simp only [Nat.min_def]; split <;> omega) (fun j u hj => cells_rowRK (w := W) (cs := [u0, u1]) (by rw [hW, setRow_other w g vb _ hne]; exact hv) 0 j u (by simpa using hj)) (by simp [hrow.1, hsz]; omega)
    rw [h]
    simp only [List.toList_toArray]
    rw [← hc2]
    rfl
  have FIN : Hid (∀ W : World, W.os = w.os → W.tape = w.tape → W.output = w.output → (∀ k, k ≠ g → W.heap[k]? = w.heap[k]?) → W.heap[g]? = some (.cells c2.toArray 54 (0, 0)) → W.heap.size = w.heap.size → Ins2K w g cap (insCK cs i [u0, u1]) (n + 1) (.returned (.slice (some ⟨g, 0, none⟩) (n + 1) cap)) W) := fun W h1 h2 h3 h4 h5 h6 =>
    ⟨g, cap, c2.toArray, rfl, .inl ⟨rfl, by omega⟩, h5, by simpa using hrow.2.2, by omega, hcm, by simp [hrow.2.1, hsz], ⟨h1, h2, h3, by omega, fun k _ hk => h4 k (fun e => hk ⟨e, by omega⟩)⟩⟩
  have HW1 : Hid (w.heap[g]? = some (.cells cur 54 (0, 0))) := hg
  unfold maxLen at hcm
  have hz2 : ¬ ((i : Int) = (n : Int)) := by omega
  have hin : i ≤ n := by omega
  have hw1 : IntKind.i64.wrap ((i : Int) + 1) = (i : Int) + 1 := by rw [IntKind.wrap_i64]; omega
  have hw2 : IntKind.i64.wrap ((n : Int) + 1) = (n : Int) + 1 := by rw [IntKind.wrap_i64]; omega
  have hb1 : (0 : Int) ≤ (i : Int) + 1 := by omega
  have htn : ((i : Int) + 1).toNat = i + 1 := by omega
  have htn2 : ((n : Int) + 1).toNat = n + 1 := by omega
  have hb2 : ¬ (cap = i + 1) := by omega
  have hb3 : (i : Int) ≤ (n : Int) + 1 := by omega
  have hb4 : ¬ (cap = i) := by omega
  have hb5 : (n : Int) + 1 ≤ (cap : Int) := by omega
  clear hg hv hsz hx hrow hc1' hc2 hc1 hu1 hne hl
  go_enter Try.func73, Try.ntmps73
  go_wp2_with (simp only [HOV.out _ (fun _ => rfl)])
  have hcp := HC1.out w.drew (fun _ => rfl) 3 (cap - (i + 1)) (cap - i)
  go_region
  clear hcp
  have hcp2 := HC2.out (w.drew.setRow g c1.toArray) (fun _ => rfl) 3 (cap - i)
  go_wp2_with fail
  go_ret
  refine FIN.out _ rfl rfl rfl (fun k hk => ?_) ?_ ?_
  · rw [setRow_other _ _ _ _ hk, setRow_other _ _ _ _ hk]; rfl
  · exact setRow_heap _ g c1.toArray _ _ _ (setRow_heap _ g cur _ _ _ HW1.out)
  · rw [setRow_size, setRow_size]; rfl
def InsA (base : Nat) (w : World) (v : Value) (ds : List Value) (m : Nat) (e : Ending) (w' : World) : Prop := ∃ a c, e = .returned (.slice a m c) ∧ w'.ownsRow base 54 2 (.slice a m c) m ds ∧ Frm (fun b => v.ownBlock = some b) w w' ∧ ∀ b, Value.ownBlock (.slice a m c) = some b → v.ownBlock = some b ∨ w.heap.size ≤ b
theorem InsA.of {base : Nat} {w : World} {g n cp m : Nat} {ds : List Value} {e : Ending} {w' : World} (hb : base ≤ g) (hbw : base ≤ w.heap.size) (hd : ds.length = m * 2) (h : Ins2K w g cp ds m e w') : InsA base w (.slice (some ⟨g, 0, none⟩) n cp) ds m e w' := by
  obtain ⟨g', cap, cur, h1, h2, h3, h4, h5, h6, h7, h8⟩ := h
  refine ⟨_, _, h1, ⟨hd, .inr ⟨g', cap, cur, rfl, by rcases h2 with h2 | h2 <;> omega, h3, h5, h6, h7, h4⟩⟩, h8.mono (fun b hb => by rw [hb.1]; rfl), fun b hb => ?_⟩
  simp only [Value.ownBlock, Option.some.injEq] at hb ⊢
  rcases h2 with h2 | h2
  · exact .inl (by omega)
  · exact .inr (by omega)
theorem insC_len {cs us : List Value} {n i : Nat} (hl : cs.length = n * 2) (hu : us.length = 2) (hi : i ≤ n) : (insCK cs i us).length = (n + 1) * 2 := by
  unfold insCK
  simp only [List.length_append, List.length_take, List.length_drop, hl, hu]
  omega
theorem insertL (base n i g cap vb : Nat) (cs : List Value) (u0 u1 : Value) (w : World) (hn : n ≤ 10000) (hi : i ≤ n) (hO : w.ownsRow base 54 2 (.slice (some ⟨g, 0, none⟩) n cap) n cs) (hbw : base ≤ w.heap.size) (hu1 : ∀ u ∈ [u0, u1], u.oneCell' = true) (hv : w.heap[vb]? = some (.cells #[u0, u1] 54 (0, 0))) (hne : vb ≠ g) (hc1 : ∀ u ∈ cs, u.oneCell' = true) :
    Calls Try.prog 73 #[.slice (some ⟨g, 0, none⟩) n cap, .int .i64 i, .slice (some ⟨vb, 0, none⟩) 1 1] w (InsA base w (.slice (some ⟨g, 0, none⟩) n cap) (insCK cs i [u0, u1]) (n + 1)) := by
  obtain ⟨hl, ⟨e, -⟩ | ⟨g2, cap2, cur, e, hg2, hh, hle, hcm, hsz, hx⟩⟩ := hO
  · cases e
  simp only [Value.slice.injEq, Option.some.injEq, Addr.mk.injEq, and_true, true_and] at e
  obtain ⟨rfl, rfl⟩ := e
  by_cases hr : n < cap
  · by_cases he : i = n
    · subst he
      exact (insertEndYK i cap g vb cur cs u0 u1 w hn hr hcm hh hsz hx hu1 hv).mono (fun e w' h => InsA.of hg2 hbw (insC_len hl rfl hi) h)
    · exact (insertInRK n i cap g vb cur cs u0 u1 w hn (by omega) hr hcm hh hsz hx hc1 hu1 hv hne).mono (fun e w' h => InsA.of hg2 hbw (insC_len hl rfl hi) h)
  · have ec : cap = n := by omega
    subst ec
    have hcur : cur = cs.toArray := by
      rw [← hx, List.take_of_length_le (by rw [Array.length_toList]; omega)]
    subst hcur
    exact (insertRK cap i g vb cs u0 u1 w hn hi hl hc1 hu1 hh hv).mono (fun e w' h => InsA.of hg2 hbw (insC_len hl rfl hi) (Ins2K.of h))
end Go.Proofs.Ythpenliecgpedaa
