import Derived.Test.YtgpoigkfoliflaaGreatDoorZbf
import Derived.Laws.EntriesVeiled
import Derived.Test.YtgpoigkfoliflaaGreatDoorZax
import Derived.Test.YtgpoigkfoliflaaGreatDoorZac
namespace Go.Proofs.YtgpoigkfoliflaaGreatDoor
open Go.RowKit
set_option linter.unusedSimpArgs false
def Num (a : Int) : Prop := -1000000000 ≤ a ∧ a ≤ 1000000000
theorem ret_ib2 {n m : Int} {a b : Bool} (h : n = m) (h' : a = b) : Ending.returned (.tuple #[.int .i64 n, .bool a]) = .returned (.tuple #[.int .i64 m, .bool b]) := by rw [h, h']
theorem num_add {a b : Int} (ha : Num a) (hb : Num b) : IntKind.i64.wrap (a + b) = a + b := by unfold Num at ha hb; rw [IntKind.wrap_i64]; omega
theorem num_sub {a b : Int} (ha : Num a) (hb : Num b) : IntKind.i64.wrap (a - b) = a - b := by unfold Num at ha hb; rw [IntKind.wrap_i64]; omega
theorem num_mul {a b : Int} (ha : Num a) (hb : Num b) : IntKind.i64.wrap (a * b) = a * b := by
  unfold Num at ha hb
  have h := Int.natAbs_mul a b
  have h2 : a.natAbs * b.natAbs ≤ 1000000000 * 1000000000 := Nat.mul_le_mul (by omega) (by omega)
  generalize a * b = p at *
  generalize a.natAbs * b.natAbs = r at *
  rw [IntKind.wrap_i64]; omega
theorem num_div {a b : Int} (ha : Num a) : IntKind.i64.wrap (a.tdiv b) = a.tdiv b := by
  unfold Num at ha
  have h := Int.natAbs_tdiv a b
  have h2 : a.natAbs.div b.natAbs ≤ a.natAbs := Nat.div_le_self _ _
  generalize a.tdiv b = p at *
  generalize a.natAbs.div b.natAbs = r at *
  rw [IntKind.wrap_i64]; omega
theorem num_mod {a b : Int} (ha : Num a) : IntKind.i64.wrap (a.tmod b) = a.tmod b := by
  unfold Num at ha
  have h : (a.tmod b).natAbs = a.natAbs % b.natAbs := Int.natAbs_tmod a b
  have h2 : a.natAbs % b.natAbs ≤ a.natAbs := Nat.mod_le _ _
  generalize a.tmod b = p at *
  generalize a.natAbs % b.natAbs = r at *
  rw [IntKind.wrap_i64]; omega
set_option maxHeartbeats 1600000 in
theorem numS (f a b : Int) (w : World) (hf : 1 ≤ f ∧ f ≤ 5) (ha : Num a) (hb : Num b) :
    Calls Tryz.prog 73 #[.int .i64 f, .int .i64 a, .int .i64 b] w fun e w' => e = .returned (.tuple #[.int .i64 (numV f a b), .bool (numK f a b)]) ∧ w' = w := by
  rcases (by omega : f = 1 ∨ f = 2 ∨ f = 3 ∨ f = 4 ∨ f = 5) with rfl | rfl | rfl | rfl | rfl
  · have HV : Hid (numV 1 a b = a + b) := rfl
    have HK : Hid (numK 1 a b = inB (-1000000000) (a + b) 1000000000) := rfl
    have hw := num_add ha hb
    clear ha hb hf
    have IN := Lib.hid (fun W => inS (a + b) (-1000000000) 1000000000 W)
    go_enter Tryz.func73, Tryz.ntmps73
    go_wp2_with fail
    refine (IN.out _).mono ?_
    rintro e w1 ⟨rfl, rfl⟩
    go_wp2_with fail
    go_ret2
    exact ⟨ret_ib2 HV.out.symm HK.out.symm, rfl⟩
  · have HV : Hid (numV 2 a b = a - b) := rfl
    have HK : Hid (numK 2 a b = inB (-1000000000) (a - b) 1000000000) := rfl
    have hw := num_sub ha hb
    clear ha hb hf
    have IN := Lib.hid (fun W => inS (a - b) (-1000000000) 1000000000 W)
    go_enter Tryz.func73, Tryz.ntmps73
    go_wp2_with fail
    refine (IN.out _).mono ?_
    rintro e w1 ⟨rfl, rfl⟩
    go_wp2_with fail
    go_ret2
    exact ⟨ret_ib2 HV.out.symm HK.out.symm, rfl⟩
  · have HV : Hid (numV 3 a b = a * b) := rfl
    have HK : Hid (numK 3 a b = inB (-1000000000) (a * b) 1000000000) := rfl
    have hw := num_mul ha hb
    clear ha hb hf
    have IN := Lib.hid (fun W => inS (a * b) (-1000000000) 1000000000 W)
    go_enter Tryz.func73, Tryz.ntmps73
    go_wp2_with fail
    refine (IN.out _).mono ?_
    rintro e w1 ⟨rfl, rfl⟩
    go_wp2_with fail
    go_ret2
    exact ⟨ret_ib2 HV.out.symm HK.out.symm, rfl⟩
  · by_cases h0 : b = 0
    · subst h0
      go_enter Tryz.func73, Tryz.ntmps73
      go_wp2_with fail
      go_ret2
      exact ⟨rfl, rfl⟩
    · have h1 : (b == 0) = false := by simpa using h0
      have HV : Hid (numV 4 a b = a.tdiv b) := by show numV 4 a b = _; unfold numV cantB; rw [h1]; rfl
      have HK : Hid (numK 4 a b = inB (-1000000000) (a.tdiv b) 1000000000) := by show numK 4 a b = _; unfold numK cantB; rw [h1]; rfl
      have hw : IntKind.i64.wrap (a.tdiv b) = a.tdiv b := num_div ha
      clear ha hb hf
      have IN := Lib.hid (fun W => inS (a.tdiv b) (-1000000000) 1000000000 W)
      go_enter Tryz.func73, Tryz.ntmps73
      go_wp2_with fail
      refine (IN.out _).mono ?_
      rintro e w1 ⟨rfl, rfl⟩
      go_wp2_with fail
      go_ret2
      exact ⟨ret_ib2 HV.out.symm HK.out.symm, rfl⟩
  · by_cases h0 : b = 0
    · subst h0
      go_enter Tryz.func73, Tryz.ntmps73
      go_wp2_with fail
      go_ret2
      exact ⟨rfl, rfl⟩
    · have h1 : (b == 0) = false := by simpa using h0
      have HV : Hid (numV 5 a b = a.tmod b) := by show numV 5 a b = _; unfold numV cantB; rw [h1]; rfl
      have HK : Hid (numK 5 a b = inB (-1000000000) (a.tmod b) 1000000000) := by show numK 5 a b = _; unfold numK cantB; rw [h1]; rfl
      have hw : IntKind.i64.wrap (a.tdiv b) = a.tdiv b := num_div ha
      have hw2 : IntKind.i64.wrap (a.tmod b) = a.tmod b := num_mod ha
      clear ha hb hf
      have IN := Lib.hid (fun W => inS (a.tmod b) (-1000000000) 1000000000 W)
      go_enter Tryz.func73, Tryz.ntmps73
      go_wp2_with fail
      refine (IN.out _).mono ?_
      rintro e w1 ⟨rfl, rfl⟩
      go_wp2_with fail
      go_ret2
      exact ⟨ret_ib2 HV.out.symm HK.out.symm, rfl⟩
set_option maxHeartbeats 1600000 in
theorem numberI (n : Int) (w : World) : Calls Tryz.prog 38 #[.int .i64 n] w fun e w' => e = .returned (.bool (inB (-1000000000) n 1000000000)) ∧ w' = w := by
  go_enter Tryz.func38, Tryz.ntmps38
  go_wp2
  all_goals
    go_ret
    refine ⟨ret_b ?_, rfl⟩
    rw [Bool.eq_iff_iff]; simp [inB]; try omega
set_option maxHeartbeats 800000 in
theorem wk1I (n b : Int) (pb : Nat) (w : World) (hp : w.cell? ⟨pb, 0, none⟩ = some (.int .i64 b)) (hn : Num n) (hb : Num b) :
    Calls Tryz.prog 87 #[.int .i64 n, .pointer (some ⟨pb, 0, none⟩)] w fun e w' => e = .returned (.int .i64 (numR 1 n b)) ∧ w' = w := by
  have HR : Hid (numR 1 n b = n + b) := rfl
  have hw := num_add hn hb
  clear hn hb
  go_enter Tryz.func87, Tryz.ntmps87
  go_wp2_with fail
  go_ret
  exact ⟨ret_i HR.out.symm, rfl⟩
set_option maxHeartbeats 800000 in
theorem wk2I (n b : Int) (pb : Nat) (w : World) (hp : w.cell? ⟨pb, 0, none⟩ = some (.int .i64 b)) (hn : Num n) (hb : Num b) :
    Calls Tryz.prog 88 #[.int .i64 n, .pointer (some ⟨pb, 0, none⟩)] w fun e w' => e = .returned (.int .i64 (numR 2 n b)) ∧ w' = w := by
  have HR : Hid (numR 2 n b = n - b) := rfl
  have hw := num_sub hn hb
  clear hn hb
  go_enter Tryz.func88, Tryz.ntmps88
  go_wp2_with fail
  go_ret
  exact ⟨ret_i HR.out.symm, rfl⟩
set_option maxHeartbeats 800000 in
theorem wk3I (n b : Int) (pb : Nat) (w : World) (hp : w.cell? ⟨pb, 0, none⟩ = some (.int .i64 b)) (hn : Num n) (hb : Num b) :
    Calls Tryz.prog 89 #[.int .i64 n, .pointer (some ⟨pb, 0, none⟩)] w fun e w' => e = .returned (.int .i64 (numR 3 n b)) ∧ w' = w := by
  have HR : Hid (numR 3 n b = n * b) := rfl
  have hw := num_mul hn hb
  clear hn hb
  go_enter Tryz.func89, Tryz.ntmps89
  go_wp2_with fail
  go_ret
  exact ⟨ret_i HR.out.symm, rfl⟩
set_option maxHeartbeats 800000 in
theorem wk4I (n b : Int) (pb : Nat) (w : World) (hp : w.cell? ⟨pb, 0, none⟩ = some (.int .i64 b)) (hn : Num n) (_hb : Num b) (h0 : b ≠ 0) :
    Calls Tryz.prog 90 #[.int .i64 n, .pointer (some ⟨pb, 0, none⟩)] w fun e w' => e = .returned (.int .i64 (numR 4 n b)) ∧ w' = w := by
  have HR : Hid (numR 4 n b = n.tdiv b) := rfl
  have hw := num_div (b := b) hn
  have h1 : (b == 0) = false := by simpa using h0
  clear hn
  go_enter Tryz.func90, Tryz.ntmps90
  go_wp2_with fail
  go_ret
  exact ⟨ret_i HR.out.symm, rfl⟩
set_option maxHeartbeats 800000 in
theorem wk5I (n b : Int) (pb : Nat) (w : World) (hp : w.cell? ⟨pb, 0, none⟩ = some (.int .i64 b)) (hn : Num n) (_hb : Num b) (h0 : b ≠ 0) :
    Calls Tryz.prog 91 #[.int .i64 n, .pointer (some ⟨pb, 0, none⟩)] w fun e w' => e = .returned (.int .i64 (numR 5 n b)) ∧ w' = w := by
  have HR : Hid (numR 5 n b = n.tmod b) := rfl
  have hw := num_mod (b := b) hn
  have h1 : (b == 0) = false := by simpa using h0
  clear hn
  go_enter Tryz.func91, Tryz.ntmps91
  go_wp2_with fail
  go_ret
  exact ⟨ret_i HR.out.symm, rfl⟩
theorem cell_kept {w w' : World} {b o : Nat} {v : Value} (h : w.cell? ⟨b, o, none⟩ = some v) (hB : Below w.heap.size w w') : w'.cell? ⟨b, o, none⟩ = some v := (hB.cell (p := ⟨b, o, none⟩) (World.block_lt_of_cell? _ _ h)).trans h
set_option maxHeartbeats 3200000 in
theorem work1I (b : Int) (w : World) : Calls Tryz.prog 69 #[.int .i64 1, .int .i64 b] w fun e w' => e = .returned (.agg #[.bool (!cantB 1 b), .func (.func 87) #[] #[.pointer (some ⟨w.heap.size, 0, none⟩)]]) ∧ w'.cell? ⟨w.heap.size, 0, none⟩ = some (.int .i64 b) ∧ Below w.heap.size w w' := by
  have hbx := boxD 3 w #[.int .i64 b]
  have x0 := cell_at (o := 0) hbx.1 rfl
  clear hbx
  go_enter Tryz.func69, Tryz.ntmps69
  go_wp2_with fail
  refine bodyPost_ret (v := .agg #[.bool (true), .func (.func 87) #[] #[.pointer (some ⟨w.heap.size, 0, none⟩)]]) (by simp [results, Tryz.results69, go_sem, *]) rfl ?_
  exact ⟨rfl, cell_at (o := 0) (heap_keptD (heap_newD _ _) (below_allocD _ _)) rfl, (below_allocD _ _).trans ((below_allocD _ _).mono (by simp))⟩
set_option maxHeartbeats 3200000 in
theorem work2I (b : Int) (w : World) : Calls Tryz.prog 69 #[.int .i64 2, .int .i64 b] w fun e w' => e = .returned (.agg #[.bool (!cantB 2 b), .func (.func 88) #[] #[.pointer (some ⟨w.heap.size, 0, none⟩)]]) ∧ w'.cell? ⟨w.heap.size, 0, none⟩ = some (.int .i64 b) ∧ Below w.heap.size w w' := by
  have hbx := boxD 3 w #[.int .i64 b]
  have x0 := cell_at (o := 0) hbx.1 rfl
  clear hbx
  go_enter Tryz.func69, Tryz.ntmps69
  go_wp2_with fail
  refine bodyPost_ret (v := .agg #[.bool (true), .func (.func 88) #[] #[.pointer (some ⟨w.heap.size, 0, none⟩)]]) (by simp [results, Tryz.results69, go_sem, *]) rfl ?_
  exact ⟨rfl, cell_at (o := 0) (heap_keptD (heap_newD _ _) (below_allocD _ _)) rfl, (below_allocD _ _).trans ((below_allocD _ _).mono (by simp))⟩
set_option maxHeartbeats 3200000 in
theorem work3I (b : Int) (w : World) : Calls Tryz.prog 69 #[.int .i64 3, .int .i64 b] w fun e w' => e = .returned (.agg #[.bool (!cantB 3 b), .func (.func 89) #[] #[.pointer (some ⟨w.heap.size, 0, none⟩)]]) ∧ w'.cell? ⟨w.heap.size, 0, none⟩ = some (.int .i64 b) ∧ Below w.heap.size w w' := by
  have hbx := boxD 3 w #[.int .i64 b]
  have x0 := cell_at (o := 0) hbx.1 rfl
  clear hbx
  go_enter Tryz.func69, Tryz.ntmps69
  go_wp2_with fail
  refine bodyPost_ret (v := .agg #[.bool (true), .func (.func 89) #[] #[.pointer (some ⟨w.heap.size, 0, none⟩)]]) (by simp [results, Tryz.results69, go_sem, *]) rfl ?_
  exact ⟨rfl, cell_at (o := 0) (heap_keptD (heap_newD _ _) (below_allocD _ _)) rfl, (below_allocD _ _).trans ((below_allocD _ _).mono (by simp))⟩
set_option maxHeartbeats 3200000 in
theorem work4I (b : Int) (w : World) : Calls Tryz.prog 69 #[.int .i64 4, .int .i64 b] w fun e w' => e = .returned (.agg #[.bool (!cantB 4 b), .func (.func 90) #[] #[.pointer (some ⟨w.heap.size, 0, none⟩)]]) ∧ w'.cell? ⟨w.heap.size, 0, none⟩ = some (.int .i64 b) ∧ Below w.heap.size w w' := by
  have hbx := boxD 3 w #[.int .i64 b]
  have x0 := cell_at (o := 0) hbx.1 rfl
  clear hbx
  go_enter Tryz.func69, Tryz.ntmps69
  go_wp2_with fail
  refine bodyPost_ret (v := .agg #[.bool (b != 0), .func (.func 90) #[] #[.pointer (some ⟨w.heap.size, 0, none⟩)]]) (by simp [results, Tryz.results69, go_sem, *]) rfl ?_
  exact ⟨by unfold cantB; rw [decide_eq_true (by omega), Bool.true_and]; rfl, cell_at (o := 0) (heap_keptD (heap_newD _ _) (below_allocD _ _)) rfl, (below_allocD _ _).trans ((below_allocD _ _).mono (by simp))⟩
set_option maxHeartbeats 3200000 in
theorem work5I (b : Int) (w : World) : Calls Tryz.prog 69 #[.int .i64 5, .int .i64 b] w fun e w' => e = .returned (.agg #[.bool (!cantB 5 b), .func (.func 91) #[] #[.pointer (some ⟨w.heap.size, 0, none⟩)]]) ∧ w'.cell? ⟨w.heap.size, 0, none⟩ = some (.int .i64 b) ∧ Below w.heap.size w w' := by
  have hbx := boxD 3 w #[.int .i64 b]
  have x0 := cell_at (o := 0) hbx.1 rfl
  clear hbx
  go_enter Tryz.func69, Tryz.ntmps69
  go_wp2_with fail
  refine bodyPost_ret (v := .agg #[.bool (b != 0), .func (.func 91) #[] #[.pointer (some ⟨w.heap.size, 0, none⟩)]]) (by simp [results, Tryz.results69, go_sem, *]) rfl ?_
  exact ⟨by unfold cantB; rw [decide_eq_true (by omega), Bool.true_and]; rfl, cell_at (o := 0) (heap_keptD (heap_newD _ _) (below_allocD _ _)) rfl, (below_allocD _ _).trans ((below_allocD _ _).mono (by simp))⟩
end Go.Proofs.YtgpoigkfoliflaaGreatDoor
namespace Go.Proofs.YtgpoigkfoliflaaGreatDoor
open Go.RowKit
set_option linter.unusedSimpArgs false
set_option maxRecDepth 100000 in
set_option maxHeartbeats 3200000 in
theorem joinE (b : List At) (pa : Option Addr) (ca cb : Nat) (pb : Option Addr) (S : Nat) (w : World) (hlb : b.length ≤ 500000) (hw : S ≤ w.heap.size) (hB : Ats w (· < S) pb b) :
    Calls Tryz.prog 71 #[.slice pa 0 ca, .slice pb b.length cb] w fun e w' => ∃ v B, e = .returned v ∧ AI w B w' v (joinL [] b) := by
  have HB : Hid (Ats w (· < S) pb b) := hB
  have H0 : Hid (AI w w.heap.size (w.alloc (.cells #[] 55)) (.slice (some ⟨w.heap.size, 0, none⟩) 0 0) []) := AI.first w
  have HR0 : Hid ((Builtin.append_ #[35, 35] 35 #[.slice (some ⟨w.heap.size, 0, none⟩) 0 0, .slice pa 0 ca]).run Tryz.prog (w.alloc (.cells #[] 55)) = .ok (.slice (some ⟨w.heap.size, 0, none⟩) 0 0) (w.alloc (.cells #[] 55))) := by
    show _ = _
    obtain ⟨i, hi, hz, hs, hby⟩ := infoAtD
    cases pa with
    | none => simp [Builtin.append_, run_underlying Tryz.underlying35, sizeOf, typeInfo, hi, Builtin.lenOf, Builtin.firstCells, loadCells, loadCellsFrom, storeCells]
    | some ad =>
      have hf := run_firstCells_some (P := Tryz.prog) (w.alloc (.cells #[] 55)) 3 0 ad 0 ca [] rfl (fun j u h => by simp at h)
      simp [Builtin.append_, run_underlying Tryz.underlying35, sizeOf, typeInfo, zeroValue, hi, hz, hs, Builtin.lenOf, storeCells, hf]
  clear hB
  go_enter Tryz.func71, Tryz.ntmps71
  go_wp2_with (at_builtin; go_must (refine wpList_append_is rfl (.tmp 7) (.tmp 8) 35 rfl _ _ rfl rfl _ _ HR0.out ?_))
  go_loopw [5, 6] (fun o i wr => ∃ m : Nat, ∃ vo B, m ≤ b.length ∧ i = .int .i64 m ∧ vo = o ∧ Hid (AI w B wr vo (joinL [] (b.take m)))) (fun _ i _ => b.length - (intOf i).toNat)
  case atStart => exact ⟨0, _, _, Nat.zero_le _, rfl, rfl, H0.out⟩
  case round =>
    obtain ⟨m, vo, B, hm, rfl, rfl, HI⟩ := hrel
    by_cases hlt : m < b.length
    · obtain ⟨b2, o2, rfl, -, c0, c1, c2⟩ := (HB.out.below (HI.out.bel.mono hw)).item m hlt
      obtain ⟨g, c, rfl, hgc, hat⟩ := HI.out.open
      have HN : Hid (joinL [] (b.take (m + 1)) = putL (joinL [] (b.take m)) b[m]) := join_snoc [] b m hlt
      have hjl : (joinL [] (b.take m)).length ≤ 1048576 := by
        have h1 := join_len [] (b.take m)
        have h2 : (b.take m).length ≤ m := List.length_take_le _ _
        simp only [List.length_nil] at h1
        omega
      have hmi : (m : Int) < (b.length : Int) := by omega
      cases hh : hasB (joinL [] (b.take m)) b[m]
      · have HP : Hid (Calls Tryz.prog 60 #[.slice (some ⟨g, 0, none⟩) (joinL [] (b.take m)).length c, .agg #[.int .i64 b[m].k, .int .i64 b[m].n, .string ⟨b[m].t.toArray⟩]] wr fun e w' => ∃ v B, e = .returned v ∧ AI w B w' v (joinL [] (b.take (m + 1)))) :=
          (putS _ b[m] g 0 c wr.heap.size wr hjl (Nat.le_refl _) hat hgc hh).mono (fun e w' ⟨v, B', he, hai⟩ => ⟨v, B', he, (hai.base HI.out.bel).cast (by rw [HN.out]; unfold putL; rw [hh]; rfl)⟩)
        clear hh hat hjl hgc
        generalize (joinL [] (b.take m)).length = n at *
        generalize b[m] = x at *
        go_wp2_with (go_at_call 60; refine HP.out.mono ?_; rintro e w1 ⟨v1, B1, rfl, H2⟩)
        go_roundw
        case rel => exact ⟨m + 1, v1, B1, by omega, by go_num, rfl, H2⟩
        case measure => simp [intOf]; omega
      · have HP : Hid (Calls Tryz.prog 60 #[.slice (some ⟨g, 0, none⟩) (joinL [] (b.take m)).length c, .agg #[.int .i64 b[m].k, .int .i64 b[m].n, .string ⟨b[m].t.toArray⟩]] wr fun e w' => e = .returned (.slice (some ⟨g, 0, none⟩) (joinL [] (b.take m)).length c) ∧ AI w B w' (.slice (some ⟨g, 0, none⟩) (joinL [] (b.take m)).length c) (joinL [] (b.take (m + 1)))) :=
          (putS1 _ b[m] _ c wr.heap.size wr hjl (Nat.le_refl _) hat hh).mono (fun e w' ⟨he, hb⟩ => ⟨he, (HI.out.on hb).cast (by rw [HN.out]; unfold putL; rw [hh]; rfl)⟩)
        clear hh hat hjl hgc HI HN
        generalize (joinL [] (b.take m)).length = n at *
        generalize b[m] = x at *
        go_wp2_with (go_at_call 60; refine HP.out.mono ?_; rintro e w1 ⟨rfl, H2⟩)
        go_roundw
        case rel => exact ⟨m + 1, _, B, by omega, by go_num, rfl, H2⟩
        case measure => simp [intOf]; omega
    · have HE : Hid (joinL [] (b.take m) = joinL [] b) := by show _ = _; rw [List.take_of_length_le (by omega)]
      have hmi : decide ((m : Int) < (b.length : Int)) = false := by simp; omega
      go_wp2_with fail
      go_ret
      exact ⟨vo, B, rfl, HI.out.cast HE.out⟩
theorem joinA (a b : List At) (pa pb : Option Addr) (ca cb : Nat) (S : Nat) (w : World) (hla : a.length ≤ 500000) (hlb : b.length ≤ 500000) (hw : S ≤ w.heap.size) (hA : Ats w (· < S) pa a) (hB : Ats w (· < S) pb b) :
    Calls Tryz.prog 71 #[.slice pa a.length ca, .slice pb b.length cb] w fun e w' => ∃ v B, e = .returned v ∧ AI w B w' v (joinL a b) := by
  by_cases h0 : a.length = 0
  · obtain rfl := List.length_eq_zero_iff.1 h0
    exact joinE b pa ca cb pb S w hlb hw hB
  · obtain ⟨b1, o1, rfl, -⟩ := hA.item 0 (by omega)
    exact joinS a b b1 o1 ca cb pb S w hla hlb hw hA hB
end Go.Proofs.YtgpoigkfoliflaaGreatDoor
