import Derived.Test.YtnkgojjgiemgmaaZaq
import Derived.Test.YtnkgojjgiemgmaaZau
import Derived.Maps.RangeWalk
namespace Go.Proofs.Ytnkgojjgiemgmaa
open Go.RowKit Go.Maps
set_option linter.unusedSimpArgs false
def MapI (w : World) (m n : Nat) (s : Int → Prop) : Prop := ∃ D : DataW Value, IsMap D ∧ w.ownsMap Try.prog 3 ptrR m n D ∧ ∀ id : Int, has D (.int .i64 id) = true ↔ s id
theorem MapI.congr {w : World} {m n : Nat} {s s' : Int → Prop} (h : MapI w m n s) (e : ∀ id, s id ↔ s' id) : MapI w m n s' := by
  obtain ⟨D, h1, h2, h3⟩ := h
  exact ⟨D, h1, h2, fun id => (h3 id).trans (e id)⟩
theorem MapI.mono {w : World} {m n n' : Nat} {s : Int → Prop} (h : MapI w m n s) (hn : n ≤ n') : MapI w m n' s := by
  obtain ⟨D, h1, ⟨es, clock, hb, F, hs, hD⟩, h3⟩ := h
  exact ⟨D, h1, ⟨es, clock, hb, F, Nat.le_trans hs hn, hD⟩, h3⟩
theorem MapI.lt {w : World} {m n : Nat} {s : Int → Prop} (h : MapI w m n s) : m < w.heap.size := by
  obtain ⟨D, h1, ⟨es, clock, hb, -⟩, h3⟩ := h
  exact (Array.getElem?_eq_some_iff.1 hb).1
theorem MapI.later {w w' : World} {m n : Nat} {s : Int → Prop} (h : MapI w m n s) (hB : Below w.heap.size w w') : MapI w' m n s := by
  have hlt := h.lt
  obtain ⟨D, h1, ⟨es, clock, hb, F, hs, hD⟩, h3⟩ := h
  exact ⟨D, h1, ⟨es, clock, by rw [hB.block m hlt]; exact hb, F, hs, hD⟩, h3⟩
set_option maxRecDepth 100000 in
set_option maxHeartbeats 1600000 in
theorem addI (m n : Nat) (s : Int → Prop) (id : Int) (w : World) (hm : MapI w m n s) (hn : n < 1099511627776) (hid : iOK id) :
    Calls Try.prog 35 #[.map (some m), .int .i64 id] w fun e w' => e = .returned (.tuple #[]) ∧ MapI w' m (n + 1) (fun z => z = id ∨ s z) ∧ w.grownBy w' (some m) := by
  obtain ⟨D, hD, hown, hs⟩ := hm
  have hkey : keyOf Try.prog 3 (.int .i64 id) = some (.int .i64 id) := keyOf_int_mk Try.underlying3 hid
  obtain ⟨w1, hrun, hown1, hgr1⟩ := World.ownsMap.update (t := 48) (val := .agg #[]) hown intK Try.underlying48 (by unfold maxLen; omega) hkey rfl
  have FIN : Hid (MapI w1 m (n + 1) (fun z => z = id ∨ s z) ∧ w.grownBy w1 (some m)) := by
    refine ⟨⟨_, hD.put _ _, hown1, fun z => ?_⟩, hgr1⟩
    by_cases e : z = id
    · subst e
      rw [has_put_same hD (by simp [WideAt.IsKeyLit])]
      simp
    · rw [has_put_other (by simpa using e)]
      exact (hs z).trans ⟨.inr, fun h => h.resolve_left e⟩
  clear hown hown1 hgr1 hkey hs hD hid hn
  go_enter Try.func35, Try.ntmps35
  go_wp2_with fail
  exact bodyPost_end (results_none rfl _ _ _) rfl ⟨rfl, FIN.out⟩
theorem run_makeMapS (w : World) : (Instr.makeMap 48 none).run Try.prog w = .ok (.map (some w.heap.size)) (w.alloc (.map #[] 0)) := by
  simp [Instr.makeMap, run_underlying Try.underlying48, Result.andThen]
theorem MapI.made (w : World) : MapI (w.alloc (.map #[] 0)) w.heap.size 0 (fun _ => False) :=
  ⟨_, isMap_empty, World.ownsMap_made (H := Value) w Try.prog 3 ptrR, fun id => by simp [has]⟩
def idIn (L : List (List RowV)) (i j : Nat) (id : Int) : Prop := (∃ t, t < i ∧ ∃ r ∈ L.getD t [], r.id = id) ∨ ∃ m, m < j ∧ ∃ h : m < (L.getD i []).length, (L.getD i [])[m].id = id
theorem idIn_row {L : List (List RowV)} {i j : Nat} (hj : j < (L.getD i []).length) (id : Int) : (id = (L.getD i [])[j].id ∨ idIn L i j id) ↔ idIn L i (j + 1) id := by
  constructor
  · rintro (rfl | h | ⟨m, hm, h⟩)
    · exact .inr ⟨j, by omega, hj, rfl⟩
    · exact .inl h
    · exact .inr ⟨m, by omega, h⟩
  · rintro (h | ⟨m, hm, h⟩)
    · exact .inr (.inl h)
    · by_cases e : m = j
      · subst e; obtain ⟨_, h⟩ := h; exact .inl h.symm
      · exact .inr (.inr ⟨m, by omega, h⟩)
theorem idIn_tab {L : List (List RowV)} {i : Nat} (id : Int) : idIn L i (L.getD i []).length id ↔ idIn L (i + 1) 0 id := by
  constructor
  · rintro (⟨t, ht, h⟩ | ⟨m, hm, h, e⟩)
    · exact .inl ⟨t, by omega, h⟩
    · exact .inl ⟨i, by omega, _, List.getElem_mem h, e⟩
  · rintro (⟨t, ht, r, hr, e⟩ | ⟨m, hm, -⟩)
    · by_cases e2 : t = i
      · subst e2
        obtain ⟨m, hm, rfl⟩ := List.mem_iff_getElem.1 hr
        exact .inr ⟨m, hm, hm, e⟩
      · exact .inl ⟨t, by omega, r, hr, e⟩
    · omega
def IdsAns (L : List (List RowV)) (w : World) (e : Ending) (w' : World) : Prop := ∃ m n, e = .returned (.map (some m)) ∧ MapI w' m n (idIn L L.length 0) ∧ n ≤ 1000 * 1048576 ∧ w.heap.size ≤ m ∧ Below w.heap.size w w'
set_option maxRecDepth 100000 in
set_option maxHeartbeats 6400000 in
theorem idsOfI (L : List (List RowV)) (a : Option Addr) (c : Nat) (B : Nat → Prop) (w : World) (hL : L.length ≤ 1000) (ho : (dRowSS L).le 1048576) (hS : Rd w B (dRowSS L) (.slice a L.length c)) :
    Calls Try.prog 19 #[.slice a L.length c] w (IdsAns L w) := by
  have HS : Hid (∀ W, Below w.heap.size w W → Rd W B (Ls 1 cRowS L) (.slice a L.length c)) := fun W h => Rd.later hS h
  have HO := Lib.hid ho
  have hmm := run_makeMapS w
  have H0 : Hid (Below w.heap.size w (w.alloc (.map #[] 0)) ∧ MapI (w.alloc (.map #[] 0)) w.heap.size 0 (idIn L 0 0)) := ⟨below_allocD _ _, (MapI.made w).congr (fun id => ⟨False.elim, by rintro (⟨t, ht, -⟩ | ⟨m, hm, -⟩) <;> omega⟩)⟩
  clear ho hS
  go_enter Try.func19, Try.ntmps19
  go_wp2_with fail
  clear hmm
  go_loopw [10] (fun t wr => ∃ i : Nat, i ≤ L.length ∧ t = .int .i64 i ∧ Hid (Below w.heap.size w wr ∧ MapI wr w.heap.size (i * 1048576) (idIn L i 0))) (fun t _ => L.length - (intOf t).toNat)
  case atStart => exact ⟨0, Nat.zero_le _, rfl, H0.out.1, by rw [Nat.zero_mul]; exact H0.out.2⟩
  case round =>
    obtain ⟨i, hi, rfl, HW⟩ := hrel
    by_cases hlt : i < L.length
    case neg =>
      obtain rfl : i = L.length := by omega
      have hkd : decide ((L.length : Int) < (L.length : Int)) = false := by simp
      go_wp2_with fail
      go_ret
      exact ⟨_, _, rfl, HW.out.2, by omega, Nat.le_refl _, HW.out.1⟩
    have hki : (i : Int) < (L.length : Int) := by omega
    obtain ⟨b, off, rfl, -, hc⟩ := (HS.out w (Below.refl _ _)).things i hlt
    obtain ⟨u0, c0, r0⟩ := hc 0 (by omega)
    replace r0 : Rd w B (dRowS L[i]) u0 := r0
    obtain ⟨ra, rq, rfl⟩ := r0.lsSlice
    rw [Nat.mul_one, Nat.add_zero] at c0
    obtain ⟨l, hl⟩ : ∃ l, l = L.getD i [] := ⟨_, rfl⟩
    have hli : L[i] = l := by rw [hl, getD_tab hlt]
    rw [hli] at c0 r0
    have hle : (dRowS l).le 1048576 := by rw [← hli]; exact (Ls_le.1 HO.out).2.2 i hlt 0 (by omega)
    have hll : l.length ≤ 1048576 := (Ls_le.1 hle).2.1
    have HLE := Lib.hid hle
    have HLI := Lib.hid hl
    have HR0 : Hid (∀ W, Below w.heap.size w W → Rd W B (Ls 2 dRow l) (.slice ra l.length rq)) := fun W h => Rd.later r0 h
    have c1 : wr.cell? ⟨b, off + i, none⟩ = some (.slice ra l.length rq) := (HW.out.1.cell (p := ⟨b, off + i, none⟩) (World.block_lt_of_cell? _ _ c0)).trans c0
    have HW0 : Hid (Below w.heap.size w wr ∧ MapI wr w.heap.size (i * 1048576 + 0) (idIn L i 0)) := Lib.hid (by rw [Nat.add_zero]; exact HW.out)
    clear hc r0 hli hl hle c0 HW
    go_wp2_with fail
    clear c1
    generalize wr = wo at *
    go_loopw [16] (fun t wr => ∃ j : Nat, j ≤ l.length ∧ t = .int .i64 j ∧ Hid (Below w.heap.size w wr ∧ MapI wr w.heap.size (i * 1048576 + j) (idIn L i j))) (fun t _ => l.length - (intOf t).toNat)
    case atStart => exact ⟨0, Nat.zero_le _, rfl, HW0.out⟩
    case round =>
      obtain ⟨j, hj, rfl, HV⟩ := hrel
      by_cases hjl : j < l.length
      case neg =>
        obtain rfl : j = l.length := by omega
        have hkd : decide ((l.length : Int) < (l.length : Int)) = false := by simp
        have HN : Hid (Below w.heap.size w wr ∧ MapI wr w.heap.size ((i + 1) * 1048576) (idIn L (i + 1) 0)) := ⟨HV.out.1, (HV.out.2.congr (fun id => by rw [HLI.out]; exact idIn_tab id)).mono (by omega)⟩
        clear HV HW0
        go_wp2_with fail
        go_roundw
        case rel => exact ⟨i + 1, by omega, by go_num, HN.out⟩
        case measure => simp [intOf]; omega
      have hjk : (j : Int) < (l.length : Int) := by omega
      obtain ⟨b2, off2, rfl, -, hc2⟩ := (HR0.out _ HV.out.1).things j hjl
      obtain ⟨u1, c2, r2⟩ := hc2 0 (by omega)
      obtain rfl : u1 = .int .i64 l[j].id := r2
      rw [Nat.add_zero] at c2
      have hid : iOK l[j].id := (Ls_le.1 HLE.out).2.2 j hjl 0 (by omega)
      have AD := Lib.hid (addI w.heap.size (i * 1048576 + j) (idIn L i j) l[j].id wr HV.out.2 (by have := hL; omega) hid)
      have HIR : Hid (∀ id, (id = l[j].id ∨ idIn L i j id) ↔ idIn L i (j + 1) id) := fun id => by
        have h := idIn_row (L := L) (i := i) (j := j) (by rw [← HLI.out]; exact hjl) id
        simp only [← HLI.out] at h
        exact h
      have HVB := Lib.hid HV.out.1
      clear hc2 hid HV HW0
      generalize l[j].id = y at *
      go_wp2_with (go_at_call 35; refine AD.out.mono ?_; rintro e w3 ⟨rfl, hm3, hg3⟩; have HN : Hid (Below w.heap.size w w3 ∧ MapI w3 w.heap.size (i * 1048576 + (j + 1)) (idIn L i (j + 1))) := ⟨HVB.out.grown hg3 HVB.out.size (fun q hq => by cases hq; exact Nat.le_refl _), (by rw [← Nat.add_assoc]; exact hm3.congr HIR.out)⟩; clear hm3 hg3)
      go_roundw
      case rel => exact ⟨j + 1, by omega, by go_num, HN.out⟩
      case measure => simp [intOf]; omega
end Go.Proofs.Ytnkgojjgiemgmaa
