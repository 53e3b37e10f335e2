import Derived.Test.YtpigpidfpafcgaaZbe
import Derived.Laws.Append
import Derived.Test.YtpigpidfpafcgaaZbl
import Derived.Test.YtpigpidfpafcgaaZan
namespace Go.Proofs.Ytpigpidfpafcgaa
open Go.RowKit
set_option linter.unusedSimpArgs false
theorem wpList_append_is {P : Program} {ops : Array Oper} {rest : List Oper} {o : Oper} {a : Act} {w : World} {Q : Exit → Act → World → Prop} (hgd : o.guard = none) (s x : Operand) (t : TypeId)
    (ho : o.op = .call { callee := .builtin .append, args := #[s, x], argTypes := #[t, t] }) (v y : Value) (hs : a.eval s = v) (hx : a.eval x = y) (v' : Value) (w' : World) (hr : (Builtin.append_ #[t, t] o.type #[v, y]).run P w = .ok v' w')
    (hk : wpList P ops Q rest (a.put o.dst v') w') : wpList P ops Q (o :: rest) a w := by
  refine wpList_plain hgd fun _ hK => ?_
  unfold Oper.wp execOp
  simp only [ho, resolve, invoke, builtin, Sem.run_bind, Sem.run_pure, Result.andThen_ok, List.map_toArray, List.map_cons, List.map_nil, hs, hx, hr]
  exact hK _ _ hk
theorem infoAtD : ∃ i, Try.prog.info? 56 = some i ∧ i.zero = some (.agg #[.int .i64 0, .int .i64 0, .string ⟨#[]⟩]) ∧ i.size = 3 ∧ i.bytes = 32 := by
  have h : (Try.prog.info? 56).map (fun i => (i.zero, i.size, i.bytes)) = some (some (.agg #[.int .i64 0, .int .i64 0, .string ⟨#[]⟩]), 3, 32) := by kernel_rfl
  obtain ⟨i, hi, hzz⟩ := Option.map_eq_some_iff.1 h
  simp only [Prod.mk.injEq] at hzz
  exact ⟨i, hi, hzz⟩
end Go.Proofs.Ytpigpidfpafcgaa
namespace Go.Proofs.Ytpigpidfpafcgaa
open Go.RowKit
set_option linter.unusedSimpArgs false
set_option maxRecDepth 100000 in
set_option maxHeartbeats 3200000 in
theorem joinE (b : List At) (pa : Option Addr) (ca cb : Nat) (pb : Option Addr) (S : Nat) (w : World) (hlb : b.length ≤ 500000) (hw : S ≤ w.heap.size) (hB : Ats w (· < S) pb b) :
    Calls Try.prog 38 #[.slice pa 0 ca, .slice pb b.length cb] w fun e w' => ∃ v B, e = .returned v ∧ AI w B w' v (joinL [] b) := by
  have HB : Hid (Ats w (· < S) pb b) := hB
  have H0 : Hid (AI w w.heap.size (w.alloc (.cells #[] 56)) (.slice (some ⟨w.heap.size, 0, none⟩) 0 0) []) := AI.first w
  have HR0 : Hid ((Builtin.append_ #[30, 30] 30 #[.slice (some ⟨w.heap.size, 0, none⟩) 0 0, .slice pa 0 ca]).run Try.prog (w.alloc (.cells #[] 56)) = .ok (.slice (some ⟨w.heap.size, 0, none⟩) 0 0) (w.alloc (.cells #[] 56))) := by
    show _ = _
    obtain ⟨i, hi, hz, hs, hby⟩ := infoAtD
    cases pa with
    | none => simp [Builtin.append_, run_underlying Try.underlying30, sizeOf, typeInfo, hi, Builtin.lenOf, Builtin.firstCells, loadCells, loadCellsFrom, storeCells]
    | some ad =>
      have hf := run_firstCells_some (P := Try.prog) (w.alloc (.cells #[] 56)) 3 0 ad 0 ca [] rfl (fun j u h => by simp at h)
      simp [Builtin.append_, run_underlying Try.underlying30, sizeOf, typeInfo, zeroValue, hi, hz, hs, Builtin.lenOf, storeCells, hf]
  clear hB
  go_enter Try.func38, Try.ntmps38
  go_wp2_with (at_builtin; go_must (refine wpList_append_is rfl (.tmp 7) (.tmp 8) 30 rfl _ _ rfl rfl _ _ HR0.out ?_))
  go_loopw [5, 6] (fun o i wr => ∃ m : Nat, ∃ vo B, m ≤ b.length ∧ i = .int .i64 m ∧ vo = o ∧ Hid (AI w B wr vo (joinL [] (b.take m)))) (fun _ i _ => b.length - (intOf i).toNat)
  case atStart => exact ⟨0, _, _, Nat.zero_le _, rfl, rfl, H0.out⟩
  case round =>
    obtain ⟨m, vo, B, hm, rfl, rfl, HI⟩ := hrel
    by_cases hlt : m < b.length
    · obtain ⟨b2, o2, rfl, -, c0, c1, c2⟩ := (HB.out.below (HI.out.bel.mono hw)).item m hlt
      obtain ⟨g, c, rfl, hgc, hat⟩ := HI.out.open
      have HN : Hid (joinL [] (b.take (m + 1)) = putL (joinL [] (b.take m)) b[m]) := join_snoc [] b m hlt
      have hjl : (joinL [] (b.take m)).length ≤ 1048576 := by
        have h1 := join_len [] (b.take m)
        have h2 : (b.take m).length ≤ m := List.length_take_le _ _
        simp only [List.length_nil] at h1
        omega
      have hmi : (m : Int) < (b.length : Int) := by omega
      cases hh : hasB (joinL [] (b.take m)) b[m]
      · have HP : Hid (Calls Try.prog 41 #[.slice (some ⟨g, 0, none⟩) (joinL [] (b.take m)).length c, .agg #[.int .i64 b[m].k, .int .i64 b[m].n, .string ⟨b[m].t.toArray⟩]] wr fun e w' => ∃ v B, e = .returned v ∧ AI w B w' v (joinL [] (b.take (m + 1)))) :=
          (putS _ b[m] g 0 c wr.heap.size wr hjl (Nat.le_refl _) hat hgc hh).mono (fun e w' ⟨v, B', he, hai⟩ => ⟨v, B', he, (hai.base HI.out.bel).cast (by rw [HN.out]; unfold putL; rw [hh]; rfl)⟩)
        clear hh hat hjl hgc
        generalize (joinL [] (b.take m)).length = n at *
        generalize b[m] = x at *
        go_wp2_with (go_at_call 41; refine HP.out.mono ?_; rintro e w1 ⟨v1, B1, rfl, H2⟩)
        go_roundw
        case rel => exact ⟨m + 1, v1, B1, by omega, by go_num, rfl, H2⟩
        case measure => simp [intOf]; omega
      · have HP : Hid (Calls Try.prog 41 #[.slice (some ⟨g, 0, none⟩) (joinL [] (b.take m)).length c, .agg #[.int .i64 b[m].k, .int .i64 b[m].n, .string ⟨b[m].t.toArray⟩]] wr fun e w' => e = .returned (.slice (some ⟨g, 0, none⟩) (joinL [] (b.take m)).length c) ∧ AI w B w' (.slice (some ⟨g, 0, none⟩) (joinL [] (b.take m)).length c) (joinL [] (b.take (m + 1)))) :=
          (putS1 _ b[m] _ c wr.heap.size wr hjl (Nat.le_refl _) hat hh).mono (fun e w' ⟨he, hb⟩ => ⟨he, (HI.out.on hb).cast (by rw [HN.out]; unfold putL; rw [hh]; rfl)⟩)
        clear hh hat hjl hgc HI HN
        generalize (joinL [] (b.take m)).length = n at *
        generalize b[m] = x at *
        go_wp2_with (go_at_call 41; refine HP.out.mono ?_; rintro e w1 ⟨rfl, H2⟩)
        go_roundw
        case rel => exact ⟨m + 1, _, B, by omega, by go_num, rfl, H2⟩
        case measure => simp [intOf]; omega
    · have HE : Hid (joinL [] (b.take m) = joinL [] b) := by show _ = _; rw [List.take_of_length_le (by omega)]
      have hmi : decide ((m : Int) < (b.length : Int)) = false := by simp; omega
      go_wp2_with fail
      go_ret
      exact ⟨vo, B, rfl, HI.out.cast HE.out⟩
theorem joinA (a b : List At) (pa pb : Option Addr) (ca cb : Nat) (S : Nat) (w : World) (hla : a.length ≤ 500000) (hlb : b.length ≤ 500000) (hw : S ≤ w.heap.size) (hA : Ats w (· < S) pa a) (hB : Ats w (· < S) pb b) :
    Calls Try.prog 38 #[.slice pa a.length ca, .slice pb b.length cb] w fun e w' => ∃ v B, e = .returned v ∧ AI w B w' v (joinL a b) := by
  by_cases h0 : a.length = 0
  · obtain rfl := List.length_eq_zero_iff.1 h0
    exact joinE b pa ca cb pb S w hlb hw hB
  · obtain ⟨b1, o1, rfl, -⟩ := hA.item 0 (by omega)
    exact joinS a b b1 o1 ca cb pb S w hla hlb hw hA hB
end Go.Proofs.Ytpigpidfpafcgaa
