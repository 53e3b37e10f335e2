import Derived.Test.YthdppchlnjnloaaQaf
import Derived.Test.YthdppchlnjnloaaQae
import Derived.Laws.CopyRow
import Derived.Lib.Overlaps
import Derived.Lib.AppendZerosOnto
import Derived.Deep.RegionLaw
import Derived.Lib.Hide
namespace Go.Proofs.Ythdppchlnjnloaa
open Go.RowKit
set_option linter.unusedSimpArgs false
set_option maxHeartbeats 1600000 in
theorem putS1 (l : List At) (x : At) (a : Option Addr) (c : Nat) (S : Nat) (w : World) (hl : l.length ≤ 1048576) (hw : S ≤ w.heap.size) (hA : Ats w (· < S) a l) (hh : hasB l x = true) :
    Calls Try.prog 18 #[.slice a l.length c, .agg #[.int .i64 x.k, .int .i64 x.n, .string ⟨x.t.toArray⟩]] w fun e w' => e = .returned (.slice a l.length c) ∧ Below w.heap.size w w' := by
  have HS : Hid (∀ W, Below w.heap.size w W → Calls Try.prog 26 #[.slice a l.length c, .agg #[.int .i64 x.k, .int .i64 x.n, .string ⟨x.t.toArray⟩]] W fun e w' => e = .returned (.bool true) ∧ Below w.heap.size w w') := fun W h => by
    have h1 := hasS l x a c _ W (by unfold maxLen; omega) (hA.below (h.mono hw))
    rw [hh] at h1
    exact h1.mono (fun e w' ⟨he, hb⟩ => ⟨he, h.trans (hb.mono h.size)⟩)
  have hB0 : Hid (Below w.heap.size w (w.alloc (.cells #[.int .i64 x.k, .int .i64 x.n, .string ⟨x.t.toArray⟩] 37))) := (Below.refl _ _).alloc (Nat.le_refl _) _
  clear hA hh
  go_enter Try.func18, Try.ntmps18
  go_wp2_with (go_at_call 26; refine (HS.out _ hB0.out).mono ?_; rintro e w1 ⟨rfl, hB1⟩)
  go_ret
  exact ⟨rfl, hB1⟩
theorem putL_len (l : List At) (x : At) : (putL l x).length ≤ l.length + 1 := by
  unfold putL
  split
  · omega
  · have := posTo_le l x l.length
    unfold posA
    simp; omega
noncomputable def joinL (a b : List At) : List At := b.foldl putL a
theorem join_snoc (a b : List At) (m : Nat) (h : m < b.length) : joinL a (b.take (m + 1)) = putL (joinL a (b.take m)) b[m] := by
  unfold joinL
  rw [List.take_succ_eq_append_getElem h, List.foldl_append]
  rfl
theorem join_len (a : List At) : ∀ b : List At, (joinL a b).length ≤ a.length + b.length := by
  intro b
  induction b generalizing a with
  | nil => simp [joinL]
  | cons x b ih =>
    have h1 := ih (putL a x)
    have h2 := putL_len a x
    unfold joinL at h1 ⊢
    simp only [List.foldl_cons, List.length_cons]
    omega
/-- a list of atoms in a row of the call's own, as a slice -/
theorem AI.open {w W : World} {B : Nat} {v : Value} {l : List At} (h : AI w B W v l) : ∃ g c, v = .slice (some ⟨g, 0, none⟩) l.length c ∧ l.length ≤ c ∧ Ats W (· < W.heap.size) (some ⟨g, 0, none⟩) l := by
  obtain ⟨a, c, e, ho⟩ := h.buf.own
  rcases h.buf.2 with ⟨e', -⟩ | ⟨g, cap, cur, rfl, hg, hb, hn, -⟩
  · exact absurd e' h.no
  · injection e with e1 e2 e3
    subst e1
    exact ⟨g, cap, rfl, hn, ho.ats.same (fun _ _ => rfl) (fun b hb => hb.2)⟩
theorem AI.base {w w0 W : World} {B : Nat} {v : Value} {l : List At} (h : AI w0 B W v l) (hb : Below w.heap.size w w0) : AI w B W v l := ⟨h.buf, hb.trans (h.bel.mono hb.size), h.le, Nat.le_trans hb.size h.old, h.no⟩
set_option maxRecDepth 100000 in
set_option maxHeartbeats 3200000 in
theorem joinS (a b : List At) (b1 o1 ca cb : Nat) (pb : Option Addr) (S : Nat) (w : World) (hla : a.length ≤ 500000) (hlb : b.length ≤ 500000) (hw : S ≤ w.heap.size) (hA : Ats w (· < S) (some ⟨b1, o1, none⟩) a) (hB : Ats w (· < S) pb b) :
    Calls Try.prog 15 #[.slice (some ⟨b1, o1, none⟩) a.length ca, .slice pb b.length cb] w fun e w' => ∃ v B, e = .returned v ∧ AI w B w' v (joinL a b) := by
  have HB : Hid (Ats w (· < S) pb b) := hB
  have NA : Hid (∀ W, Below w.heap.size w W → ∀ j u, (atCs a)[j]? = some u → W.cell? ((⟨b1, o1, none⟩ : Addr).add j) = some u) := fun W h => by
    have := news_part (hA.below (h.mono hw)) 0 a.length (by omega)
    simpa using this
  have H0 : Hid (AI w w.heap.size (w.alloc (.cells #[] 37)) (.slice (some ⟨w.heap.size, 0, none⟩) 0 0) []) := AI.first w
  clear hA hB
  go_enter Try.func15, Try.ntmps15
  go_wp2_with (at_builtin; go_must (refine wpList_apush rfl (.tmp 7) (.tmp 8) rfl w.heap.size _ [] a ⟨b1, o1, none⟩ a.length ca rfl rfl rfl H0.out.buf H0.out.le (by simp; omega) H0.out.no (NA.out _ H0.out.bel) ?_; intro v0 w0 hb0 ha0 hn0; have H1 : Hid (AI w w.heap.size w0 v0 a) := (H0.out.push hb0 ha0 hn0).cast (by simp); clear hb0 ha0 hn0))
  go_loopw [5, 6] (fun o i wr => ∃ m : Nat, ∃ vo B, m ≤ b.length ∧ i = .int .i64 m ∧ vo = o ∧ Hid (AI w B wr vo (joinL a (b.take m)))) (fun _ i _ => b.length - (intOf i).toNat)
  case atStart => exact ⟨0, v0, _, Nat.zero_le _, rfl, rfl, H1.out⟩
  case round =>
    obtain ⟨m, vo, B, hm, rfl, rfl, HI⟩ := hrel
    by_cases hlt : m < b.length
    · obtain ⟨b2, o2, rfl, -, c0, c1, c2⟩ := (HB.out.below (HI.out.bel.mono hw)).item m hlt
      obtain ⟨g, c, rfl, hgc, hat⟩ := HI.out.open
      have HN : Hid (joinL a (b.take (m + 1)) = putL (joinL a (b.take m)) b[m]) := join_snoc a b m hlt
      have hjl : (joinL a (b.take m)).length ≤ 1048576 := by
        have h1 := join_len a (b.take m)
        have h2 : (b.take m).length ≤ m := List.length_take_le _ _
        omega
      have hmi : (m : Int) < (b.length : Int) := by omega
      cases hh : hasB (joinL a (b.take m)) b[m]
      · have HP : Hid (Calls Try.prog 18 #[.slice (some ⟨g, 0, none⟩) (joinL a (b.take m)).length c, .agg #[.int .i64 b[m].k, .int .i64 b[m].n, .string ⟨b[m].t.toArray⟩]] wr fun e w' => ∃ v B, e = .returned v ∧ AI w B w' v (joinL a (b.take (m + 1)))) :=
          (putS _ b[m] g 0 c wr.heap.size wr hjl (Nat.le_refl _) hat hgc hh).mono (fun e w' ⟨v, B', he, hai⟩ => ⟨v, B', he, (hai.base HI.out.bel).cast (by rw [HN.out]; unfold putL; rw [hh]; rfl)⟩)
        clear hh hat hjl hgc
        generalize (joinL a (b.take m)).length = n at *
        generalize b[m] = x at *
        go_wp2_with (go_at_call 18; refine HP.out.mono ?_; rintro e w1 ⟨v1, B1, rfl, H2⟩)
        go_roundw
        case rel => exact ⟨m + 1, v1, B1, by omega, by go_num, rfl, H2⟩
        case measure => simp [intOf]; omega
      · have HP : Hid (Calls Try.prog 18 #[.slice (some ⟨g, 0, none⟩) (joinL a (b.take m)).length c, .agg #[.int .i64 b[m].k, .int .i64 b[m].n, .string ⟨b[m].t.toArray⟩]] wr fun e w' => e = .returned (.slice (some ⟨g, 0, none⟩) (joinL a (b.take m)).length c) ∧ AI w B w' (.slice (some ⟨g, 0, none⟩) (joinL a (b.take m)).length c) (joinL a (b.take (m + 1)))) :=
          (putS1 _ b[m] _ c wr.heap.size wr hjl (Nat.le_refl _) hat hh).mono (fun e w' ⟨he, hb⟩ => ⟨he, (HI.out.on hb).cast (by rw [HN.out]; unfold putL; rw [hh]; rfl)⟩)
        clear hh hat hjl hgc HI HN
        generalize (joinL a (b.take m)).length = n at *
        generalize b[m] = x at *
        go_wp2_with (go_at_call 18; refine HP.out.mono ?_; rintro e w1 ⟨rfl, H2⟩)
        go_roundw
        case rel => exact ⟨m + 1, _, B, by omega, by go_num, rfl, H2⟩
        case measure => simp [intOf]; omega
    · have HE : Hid (joinL a (b.take m) = joinL a b) := by show _ = _; rw [List.take_of_length_le (by omega)]
      have hmi : decide ((m : Int) < (b.length : Int)) = false := by simp; omega
      go_wp2_with fail
      go_ret
      exact ⟨vo, B, rfl, HI.out.cast HE.out⟩
end Go.Proofs.Ythdppchlnjnloaa
namespace Go.Proofs.Ythdppchlnjnloaa
open Go.RowKit
set_option linter.unusedSimpArgs false
noncomputable def joinC (a b : List At) : Int := if twoC a b = 0 then (if 8 < (joinL a b).length then 6 else 0) else twoC a b
noncomputable def joinR (a b : List At) : List At := if twoC a b = 0 ∧ ¬ 8 < (joinL a b).length then joinL a b else []
theorem two_len {a b : List At} (h : twoC a b = 0) : a.length ≤ 4096 ∧ b.length ≤ 4096 := by
  unfold twoC at h
  split at h
  · omega
  · omega
/-- the last limb of both: a list that was built, or none where it is too long -/
theorem AI.ans2 {w W : World} {B : Nat} {v : Value} {l : List At} {c : Int} (h : AI w B W v l) : AAns2 w l c (.returned (.tuple #[v, .int .i64 c])) W := by
  obtain ⟨a, cp, rfl, ho⟩ := h.buf.own
  exact ⟨a, cp, rfl, ho.same (fun _ _ => rfl) (fun b hb => ⟨Nat.le_trans h.old hb.1, hb.2⟩), h.bel⟩
set_option maxRecDepth 100000 in
set_option maxHeartbeats 3200000 in
theorem datumJoinS (a b : List At) (b1 o1 ca cb : Nat) (pb : Option Addr) (S : Nat) (w : World) (hla : a.length ≤ 1048576) (hlb : b.length ≤ 1048576) (hxa : ∀ x ∈ a, x.t.length ≤ maxLen) (hxb : ∀ x ∈ b, x.t.length ≤ maxLen) (hw : S ≤ w.heap.size) (hA : Ats w (· < S) (some ⟨b1, o1, none⟩) a) (hB : Ats w (· < S) pb b) :
    Calls Try.prog 7 #[.slice (some ⟨b1, o1, none⟩) a.length ca, .slice pb b.length cb] w (AAns2 w (joinR a b) (joinC a b)) := by
  have TW : Hid (∀ W, Below w.heap.size w W → Calls Try.prog 14 #[.slice (some ⟨b1, o1, none⟩) a.length ca, .slice pb b.length cb] W fun e w' => e = .returned (.int .i64 (twoC a b)) ∧ Below w.heap.size w w') := fun W h =>
    (twoS a b _ pb ca cb S W (by unfold maxLen; omega) (by unfold maxLen; omega) hxa hxb (Nat.le_trans hw h.size) (hA.below (h.mono hw)) (hB.below (h.mono hw))).mono (fun e w' ⟨he, hb⟩ => ⟨he, h.trans (hb.mono h.size)⟩)
  have JN : Hid (twoC a b = 0 → ∀ W, Below w.heap.size w W → Calls Try.prog 15 #[.slice (some ⟨b1, o1, none⟩) a.length ca, .slice pb b.length cb] W (fun e w' => ∃ g c B, e = .returned (.slice (some ⟨g, 0, none⟩) (joinL a b).length c) ∧ AI w B w' (.slice (some ⟨g, 0, none⟩) (joinL a b).length c) (joinL a b))) := fun h0 W h => by
    have hl := two_len h0
    refine (joinS a b b1 o1 ca cb pb S W (by omega) (by omega) (Nat.le_trans hw h.size) (hA.below (h.mono hw)) (hB.below (h.mono hw))).mono (fun e w' ⟨v, B, he, hai⟩ => ?_)
    obtain ⟨g, c, rfl, -, -⟩ := hai.open
    exact ⟨g, c, B, he, hai.base h⟩
  clear hA hB hxa hxb
  by_cases h1 : 4096 < a.length ∨ 4096 < b.length
  · have HC : Hid (joinC a b = 2 ∧ joinR a b = []) := by
      have e : twoC a b = 2 := by unfold twoC; rw [if_pos h1]
      exact ⟨by unfold joinC; rw [e, if_neg (by omega)], by unfold joinR; rw [e, if_neg (by omega)]⟩
    rw [HC.out.1]
    by_cases h2 : 4096 < a.length
    · have d1 : decide (4096 < (a.length : Int)) = true := decide_eq_true (by omega)
      go_enter Try.func7, Try.ntmps7
      go_wp2_with fail
      go_ret2
      exact AAns2.none HC.out.2 ((Below.refl _ _).alloc (Nat.le_refl _) _)
    · have d1 : decide (4096 < (a.length : Int)) = false := decide_eq_false (by omega)
      have d2 : decide (4096 < (b.length : Int)) = true := decide_eq_true (by omega)
      go_enter Try.func7, Try.ntmps7
      go_wp2_with fail
      go_ret2
      exact AAns2.none HC.out.2 ((Below.refl _ _).alloc (Nat.le_refl _) _)
  have d1 : decide (4096 < (a.length : Int)) = false := decide_eq_false (by omega)
  have d2 : decide (4096 < (b.length : Int)) = false := decide_eq_false (by omega)
  have hx := Below.refl w.heap.size w
  clear h1
  by_cases h0 : twoC a b = 0
  · have JN' : Hid (∀ W, Below w.heap.size w W → Calls Try.prog 15 #[.slice (some ⟨b1, o1, none⟩) a.length ca, .slice pb b.length cb] W (fun e w' => ∃ g c B, e = .returned (.slice (some ⟨g, 0, none⟩) (joinL a b).length c) ∧ AI w B w' (.slice (some ⟨g, 0, none⟩) (joinL a b).length c) (joinL a b))) := JN.out h0
    by_cases h8 : 8 < (joinL a b).length
    · have HC : Hid (joinC a b = 6 ∧ joinR a b = []) := ⟨by unfold joinC; rw [if_pos h0, if_pos h8], by unfold joinR; rw [if_neg (by intro h; exact h.2 h8)]⟩
      rw [HC.out.1]
      rw [h0] at TW
      have d8 : decide (8 < ((joinL a b).length : Int)) = true := decide_eq_true (by omega)
      clear h0 h8 JN
      generalize (joinL a b).length = n at *
      go_enter Try.func7, Try.ntmps7
      go_wp2_with (first
        | (go_at_call 14; refine (TW.out _ hx).mono ?_; rintro e w1 ⟨rfl, hx⟩)
        | (go_at_call 15; refine (JN'.out _ hx).mono ?_; rintro e w2 ⟨g2, c2, B2, rfl, H2⟩))
      go_ret2
      exact AAns2.none HC.out.2 (H2.bel.alloc H2.bel.size _)
    · have HC : Hid (joinC a b = 0 ∧ joinR a b = joinL a b) := ⟨by unfold joinC; rw [if_pos h0, if_neg h8], by unfold joinR; rw [if_pos ⟨h0, h8⟩]⟩
      rw [HC.out.1, HC.out.2]
      rw [h0] at TW
      have d8 : decide (8 < ((joinL a b).length : Int)) = false := decide_eq_false (by omega)
      clear h0 h8 JN
      have EN : Hid (∀ {W : World} {g c B : Nat}, AI w B W (.slice (some ⟨g, 0, none⟩) (joinL a b).length c) (joinL a b) → AAns2 w (joinL a b) 0 (.returned (.tuple #[.slice (some ⟨g, 0, none⟩) (joinL a b).length c, .int .i64 0])) W) := fun h => h.ans2
      generalize hn : (joinL a b).length = n at *
      clear hn
      go_enter Try.func7, Try.ntmps7
      go_wp2_with (first
        | (go_at_call 14; refine (TW.out _ hx).mono ?_; rintro e w1 ⟨rfl, hx⟩)
        | (go_at_call 15; refine (JN'.out _ hx).mono ?_; rintro e w2 ⟨g2, c2, B2, rfl, H2⟩))
      go_ret2
      exact EN.out H2
  · have HC : Hid (joinC a b = twoC a b ∧ joinR a b = []) := ⟨by unfold joinC; rw [if_neg h0], by unfold joinR; rw [if_neg (by intro h; exact h0 h.1)]⟩
    rw [HC.out.1]
    obtain ⟨q, hq⟩ : ∃ q, q = twoC a b := ⟨_, rfl⟩
    rw [← hq] at TW h0 ⊢
    have hq0 : (q != 0) = true := by simpa using h0
    clear hq h0 JN
    go_enter Try.func7, Try.ntmps7
    go_wp2_with (go_at_call 14; refine (TW.out _ hx).mono ?_; rintro e w1 ⟨rfl, hx⟩)
    go_ret2
    exact AAns2.none HC.out.2 (hx.alloc hx.size _)
end Go.Proofs.Ythdppchlnjnloaa
namespace Go.Proofs.Ythdppchlnjnloaa
open Go.RowKit
set_option linter.unusedSimpArgs false
theorem ABuf.nil (w : World) (B : Nat) : ABuf w B (.slice none 0 0) [] := ⟨rfl, .inl ⟨rfl, rfl⟩⟩
/-- append of atoms that lie in another row, where v may be nil -/
theorem run_apushN {w : World} {B : Nat} {v : Value} {l : List At} (hb : ABuf w B v l) (hB : B ≤ w.heap.size) (l' : List At) (hl : l.length + l'.length ≤ 1000000000) (hl0 : 0 < l'.length) (ad : Addr) (cp : Nat) (ty : TypeId)
    (hnews : ∀ j u, (atCs l')[j]? = some u → w.cell? (ad.add j) = some u) :
    ∃ v' w', (Builtin.append_ #[24, 24] ty #[v, .slice (some ad) l'.length cp]).run Try.prog w = .ok v' w' ∧ ABuf w' B v' (l ++ l') ∧ AppA w v w' v' := by
  by_cases hv : v = .slice none 0 0
  · subst hv
    have hl1 : l = [] := by
      rcases hb.2 with ⟨-, h0⟩ | ⟨g, cap, cur, e1, -⟩
      · exact List.length_eq_zero_iff.1 h0
      · cases e1
    subst hl1
    obtain ⟨i, hi, hz, hs, hby⟩ := infoAt'
    have h1 : ∀ u ∈ atCs l', u.oneCell' = true := fun u hu => by
      obtain ⟨m, -, rfl⟩ := List.mem_map.1 hu
      unfold atF
      split
      · rfl
      · split <;> rfl
    have hll : (atCs l').length = l'.length * 3 := atCs_len l'
    have hb' : ABuf w w.heap.size (.slice none 0 0) [] := ABuf.nil _ _
    obtain ⟨v', w', hr, h2, h3, h4⟩ := run_append_own (P := Try.prog) w w.heap.size 24 ty 37 i (.agg zeroAt) 3 32 Try.underlying24 hi hz hs hby rfl (by omega) (.slice none 0 0) 0 (atCs []) hb' ad l'.length cp (atCs l') hll hnews h1 (by unfold maxLen; simp at hl; omega) (by simp at hl; omega) (Nat.le_refl _)
    have hb2 : ABuf w' w.heap.size v' ([] ++ l') := by
      unfold ABuf
      rw [atCs_app, List.length_append]
      exact h2
    refine ⟨v', w', hr, hb2.mono hB, ⟨h3.os, h3.tape, h3.output, h3.size, fun k hk hn => h3.block k hk (fun e => hn e.symm), fun g hg => .inr (hb2.lt hg).1⟩⟩
  · obtain ⟨v', w', hr, h2, h3, -⟩ := run_apush hb hB l' hl ad cp ty hv hnews
    exact ⟨v', w', hr, h2, h3⟩
theorem wpList_apushN {ops : Array Oper} {rest : List Oper} {o : Oper} {a : Act} {w : World} {Q : Exit → Act → World → Prop} (hgd : o.guard = none) (s x : Operand)
    (ho : o.op = .call { callee := .builtin .append, args := #[s, x], argTypes := #[24, 24] })
    (B : Nat) (v : Value) (l l' : List At) (ad : Addr) (m cp : Nat) (hs : a.eval s = v) (hx : a.eval x = .slice (some ad) m cp) (hm : l'.length = m)
    (hb : ABuf w B v l) (hB : B ≤ w.heap.size) (hl : l.length + l'.length ≤ 1000000000) (hl0 : 0 < l'.length) (hc : ∀ j u, (atCs l')[j]? = some u → w.cell? (ad.add j) = some u)
    (h : ∀ v' w', ABuf w' B v' (l ++ l') → AppA w v w' v' → wpList Try.prog ops Q rest (a.put o.dst v') w') : wpList Try.prog ops Q (o :: rest) a w := by
  subst hm
  refine wpList_plain hgd fun K hK => ?_
  obtain ⟨v', w', hr, h2, h3⟩ := run_apushN hb hB l' hl hl0 ad cp o.type hc
  unfold Oper.wp execOp
  simp only [ho, resolve, invoke, builtin, Sem.run_bind, Sem.run_pure, Result.andThen_ok, List.map_toArray, List.map_cons, List.map_nil, hs, hx, hr]
  exact hK _ _ (h v' w' h2 h3)
/-- a list of atoms in a row of the call's own, or none -/
structure AN (w : World) (B : Nat) (W : World) (v : Value) (l : List At) : Prop where
  buf : ABuf W B v l
  bel : Below w.heap.size w W
  le : B ≤ W.heap.size
  old : w.heap.size ≤ B
theorem AN.on {w W W' : World} {B : Nat} {v : Value} {l : List At} (h : AN w B W v l) (hb : Below W.heap.size W W') : AN w B W' v l := ⟨h.buf.on hb, h.bel.trans (hb.mono h.bel.size), Nat.le_trans h.le hb.size, h.old⟩
theorem AN.push {w W W' : World} {B : Nat} {v v' : Value} {l l' : List At} (h : AN w B W v l) (hb : ABuf W' B v' l') (ha : AppA W v W' v') : AN w B W' v' l' :=
  ⟨hb, h.bel.trans ((ha.below h.buf h.le).mono h.old), Nat.le_trans h.le ha.size, h.old⟩
theorem AN.cast {w W : World} {B : Nat} {v : Value} {l l' : List At} (h : AN w B W v l) (e : l = l') : AN w B W v l' := by rw [← e]; exact h
theorem AN.first {w W : World} (h : Below w.heap.size w W) : AN w w.heap.size W (.slice none 0 0) [] := ⟨ABuf.nil _ _, h, h.size, Nat.le_refl _⟩
theorem AN.ans2 {w W : World} {B : Nat} {v : Value} {l : List At} {c : Int} (h : AN w B W v l) : AAns2 w l c (.returned (.tuple #[v, .int .i64 c])) W := by
  obtain ⟨a, cp, rfl, ho⟩ := h.buf.own
  exact ⟨a, cp, rfl, ho.same (fun _ _ => rfl) (fun b hb => ⟨Nat.le_trans h.old hb.1, hb.2⟩), h.bel⟩
end Go.Proofs.Ythdppchlnjnloaa
namespace Go.Proofs.Ythdppchlnjnloaa
open Go.RowKit
set_option linter.unusedSimpArgs false
theorem atCs_take (l : List At) (i : Nat) (h : i ≤ l.length) : (atCs l).take (i * 3) = atCs (l.take i) := by
  have hl : (atCs (l.take i)).length = i * 3 := by rw [atCs_len]; simp; omega
  conv => lhs; rw [← List.take_append_drop i l, atCs_app, ← hl]
  exact List.take_left
theorem atCs_drop (l : List At) (i : Nat) (h : i ≤ l.length) : (atCs l).drop (i * 3) = atCs (l.drop i) := by
  have hl : (atCs (l.take i)).length = i * 3 := by rw [atCs_len]; simp; omega
  conv => lhs; rw [← List.take_append_drop i l, atCs_app, ← hl]
  exact List.drop_left
theorem atCs_one' {l : List At} : ∀ u ∈ atCs l, u.oneCell' = true := fun u hu => by
  obtain ⟨m, -, rfl⟩ := List.mem_map.1 hu
  unfold atF
  split
  · rfl
  · split <;> rfl
/-- copy of atoms into a row of the call's own -/
theorem run_copyA (w : World) (ty : TypeId) (g o dLen dCap : Nat) (a : Addr) (sLen sCap : Nat) (cur : Array Value) (l : List At) (hg : w.heap[g]? = some (.cells cur 37 (0, 0))) (hn : l.length = Nat.min sLen dLen)
    (hsrc : ∀ j v, (atCs l)[j]? = some v → w.cell? (a.add j) = some v) (hfit : o + l.length * 3 ≤ cur.size) :
    (Builtin.copy_ #[24, 24] ty #[.slice (some ⟨g, o, none⟩) dLen dCap, .slice (some a) sLen sCap]).run Try.prog w =
      .ok (goInt l.length) (w.setRow g (cur.toList.take o ++ atCs l ++ cur.toList.drop (o + l.length * 3)).toArray) := by
  obtain ⟨i, hi, hz, hs, hby⟩ := infoAt'
  have hl := run_loadCells_list (P := Try.prog) w a (atCs l) hsrc
  have hst := run_storeCells_at Try.prog g o 37 (atCs l) 0 cur w hg (by rw [atCs_len]; simpa using hfit) atCs_one'
  rw [atCs_len] at hl hst
  simp [Builtin.copy_, run_underlying Try.underlying24, Builtin.lenOf, Builtin.firstCells, sizeOf, typeInfo, hi, hs, ← hn, hl, hst]
theorem wpList_copyA {ops : Array Oper} {rest : List Oper} {o : Oper} {a : Act} {w : World} {Q : Exit → Act → World → Prop} (hgd : o.guard = none) (d x : Operand)
    (ho : o.op = .call { callee := .builtin .copy, args := #[d, x], argTypes := #[24, 24] }) (v u : Value) (hd : a.eval d = v) (hx : a.eval x = u) {v' : Value} {w' : World}
    (hr : (Builtin.copy_ #[24, 24] o.type #[v, u]).run Try.prog w = .ok v' w') (h : wpList Try.prog ops Q rest (a.put o.dst v') w') : wpList Try.prog ops Q (o :: rest) a w := by
  refine wpList_plain hgd fun K hK => ?_
  unfold Oper.wp execOp
  simp only [ho, resolve, invoke, builtin, Sem.run_bind, Sem.run_pure, Result.andThen_ok, List.map_toArray, List.map_cons, List.map_nil, hd, hx, hr]
  exact hK _ _ h
theorem step_copyA {ops : Array Oper} {o : Oper} {a : Act} {w : World} {K : Act → World → Prop} {Q : Exit → Act → World → Prop} {E : Prop} (hgd : o.guard = none) (d x : Operand)
    (ho : o.op = .call { callee := .builtin .copy, args := #[d, x], argTypes := #[24, 24] }) (v u : Value) (hd : a.eval d = v) (hx : a.eval x = u) {v' : Value} {w' : World}
    (hr : (Builtin.copy_ #[24, 24] o.type #[v, u]).run Try.prog w = .ok v' w') (h : K (a.put o.dst v') w') :
    if Region.wanted o (yielded ops a.tmps) = true then Oper.wp Try.prog o a w K Q else E := by
  rw [if_pos (by simp [Region.wanted, hgd])]
  unfold Oper.wp execOp
  simp only [ho, resolve, invoke, builtin, Sem.run_bind, Sem.run_pure, Result.andThen_ok, List.map_toArray, List.map_cons, List.map_nil, hd, hx, hr]
  exact h
/-- l with x at i -/
def insA (l : List At) (i : Nat) (x : At) : List At := l.take i ++ [x] ++ l.drop i
theorem insA_len (l : List At) (i : Nat) (x : At) (h : i ≤ l.length) : (insA l i x).length = l.length + 1 := by unfold insA; simp; omega
/-- the row behind the two copies in place -/
theorem row_in {cur : List Value} {l : List At} {i : Nat} (x : At) (h : cur.take (l.length * 3) = atCs l) (hi : i ≤ l.length) (hc : (l.length + 1) * 3 ≤ cur.length) (c1 c2 : List Value)
    (h1 : c1 = cur.take ((i + 1) * 3) ++ atCs (l.drop i) ++ cur.drop ((i + 1) * 3 + (l.drop i).length * 3)) (h2 : c2 = c1.take (i * 3) ++ atCs [x] ++ c1.drop (i * 3 + [x].length * 3)) :
    c2.length = cur.length ∧ c2.take ((l.length + 1) * 3) = atCs (insA l i x) := by
  have hA : (cur.take ((i + 1) * 3)).length = (i + 1) * 3 := by rw [List.length_take]; omega
  have hD : (atCs (l.drop i)).length = (l.length - i) * 3 := by rw [atCs_len, List.length_drop]
  have hX : (atCs [x]).length = 3 := by rw [atCs_len]; rfl
  have e1 : c1.take (i * 3) = atCs (l.take i) := by
    rw [h1, List.append_assoc, List.take_append_of_le_length (by omega), List.take_take, show min (i * 3) ((i + 1) * 3) = i * 3 by omega, ← atCs_take l i hi, ← h, List.take_take, show min (i * 3) (l.length * 3) = i * 3 by omega]
  have e2 : c1.drop (i * 3 + [x].length * 3) = atCs (l.drop i) ++ cur.drop ((l.length + 1) * 3) := by
    rw [h1, List.append_assoc, show i * 3 + [x].length * 3 = (cur.take ((i + 1) * 3)).length by rw [hA]; simp; omega, List.drop_left, List.length_drop, show (i + 1) * 3 + (l.length - i) * 3 = (l.length + 1) * 3 by omega]
  have hT : (atCs (l.take i)).length = i * 3 := by rw [atCs_len]; simp; omega
  rw [h2, e1, e2]
  constructor
  · simp only [List.length_append, List.length_drop, hT, hD, hX]; omega
  · rw [← List.append_assoc]
    unfold insA
    rw [atCs_app, atCs_app]
    have hL : (atCs (l.take i) ++ atCs [x] ++ atCs (l.drop i)).length = (l.length + 1) * 3 := by
      simp only [List.length_append, hT, hD, hX]; omega
    rw [← hL]
    exact List.take_left
/-- the row behind the two copies into a new row -/
theorem row_new {r0 : List Value} {l : List At} {i : Nat} (x : At) (h : r0.take (i * 3) = atCs (l.take i)) (hi : i ≤ l.length) (hc : (l.length + 1) * 3 ≤ r0.length) (c1 c2 : List Value)
    (h1 : c1 = r0.take (i * 3) ++ atCs [x] ++ r0.drop (i * 3 + [x].length * 3)) (h2 : c2 = c1.take ((i + 1) * 3) ++ atCs (l.drop i) ++ c1.drop ((i + 1) * 3 + (l.drop i).length * 3)) :
    c2.length = r0.length ∧ c2.take ((l.length + 1) * 3) = atCs (insA l i x) := by
  have hT : (atCs (l.take i)).length = i * 3 := by rw [atCs_len]; simp; omega
  have hD : (atCs (l.drop i)).length = (l.length - i) * 3 := by rw [atCs_len, List.length_drop]
  have hX : (atCs [x]).length = 3 := by rw [atCs_len]; rfl
  have hl1 : c1.length = r0.length := by rw [h1, h]; simp only [List.length_append, List.length_drop, hT, hX, List.length_singleton]; omega
  have e1 : c1.take ((i + 1) * 3) = atCs (l.take i) ++ atCs [x] := by
    rw [h1, h]
    have hL : (atCs (l.take i) ++ atCs [x]).length = (i + 1) * 3 := by simp only [List.length_append, hT, hX]; omega
    rw [← hL]
    exact List.take_left
  rw [h2, e1]
  constructor
  · simp only [List.length_append, List.length_drop, hT, hD, hX, hl1]; omega
  · unfold insA
    rw [atCs_app, atCs_app]
    have hL : (atCs (l.take i) ++ atCs [x] ++ atCs (l.drop i)).length = (l.length + 1) * 3 := by
      simp only [List.length_append, hT, hD, hX]; omega
    rw [← hL]
    exact List.take_left
end Go.Proofs.Ythdppchlnjnloaa
namespace Go.Proofs.Ythdppchlnjnloaa
open Go.RowKit
set_option linter.unusedSimpArgs false
def InsAns (w : World) (B : Nat) (v : Value) (l : List At) (e : Ending) (w' : World) : Prop := ∃ v', e = .returned v' ∧ ABuf w' B v' l ∧ AppA w v w' v'
theorem insA_end (l : List At) (x : At) : insA l l.length x = l ++ [x] := by unfold insA; simp
set_option maxRecDepth 100000 in
set_option maxHeartbeats 1600000 in
/-- at the end -/
theorem insertEnd (l : List At) (x : At) (v : Value) (vb B : Nat) (w : World) (hl : l.length ≤ 1000) (hb : ABuf w B v l) (hB : B ≤ w.heap.size) (ho : OneA w v vb x) :
    Calls Try.prog 31 #[v, .int .i64 l.length, .slice (some ⟨vb, 0, none⟩) 1 1] w (InsAns w B v (l ++ [x])) := by
  have HB : Hid (ABuf w B v l) := hb
  have HO : Hid (OneA w v vb x) := ho
  rcases hb.2 with ⟨rfl, h0⟩ | ⟨g, cap, cur, rfl, hg, hbq, hn, hcap, hcs, hxs⟩
  · clear ho hb
    rw [h0] at *
    go_enter Try.func31, Try.ntmps31
    go_wp2_with (at_builtin; refine wpList_apushN rfl (.tmp 23) (.tmp 24) rfl B (.slice none 0 0) l [x] ⟨vb, 0, none⟩ 1 1 rfl rfl rfl HB.out hB (by simp; omega) (by simp) HO.out.news ?_; intro v2 w3 hb2 ha2)
    go_ret
    exact ⟨v2, rfl, hb2, ha2⟩
  · clear ho hb hbq hcs hxs
    unfold maxLen at hcap
    by_cases hc : cap = l.length
    · subst hc
      go_enter Try.func31, Try.ntmps31
      go_wp2_with (at_builtin; refine wpList_apushN rfl (.tmp 23) (.tmp 24) rfl B _ l [x] ⟨vb, 0, none⟩ 1 1 rfl rfl rfl HB.out hB (by simp; omega) (by simp) HO.out.news ?_; intro v2 w3 hb2 ha2)
      go_ret
      exact ⟨v2, rfl, hb2, ha2⟩
    · go_enter Try.func31, Try.ntmps31
      go_wp2_with (at_builtin; refine wpList_apushN rfl (.tmp 23) (.tmp 24) rfl B _ l [x] ⟨vb, 0, none⟩ 1 1 rfl rfl rfl HB.out hB (by simp; omega) (by simp) HO.out.news ?_; intro v2 w3 hb2 ha2)
      go_ret
      exact ⟨v2, rfl, hb2, ha2⟩
theorem sizeAt (w : World) : (Go.sizeOf 37).run Try.prog w = .ok 3 w := by
  obtain ⟨i, hi, hz, hs, hby⟩ := infoAt'
  simp [sizeOf, typeInfo, hi, hs]
theorem cell_row {w : World} {g : Nat} {cur : Array Value} {t : TypeId} (h : w.heap[g]? = some (.cells cur t (0, 0))) (j : Nat) : w.cell? ⟨g, j, none⟩ = cur[j]? := by simp [World.cell?, h]
/-- atoms of a row, from i on -/
theorem news_row {w : World} {g : Nat} {cur : Array Value} {l : List At} (h : w.heap[g]? = some (.cells cur 37 (0, 0))) (hx : cur.toList.take (l.length * 3) = atCs l) (i : Nat) (hi : i ≤ l.length) :
    ∀ j u, (atCs (l.drop i))[j]? = some u → w.cell? ((⟨g, i * 3, none⟩ : Addr).add j) = some u := fun j u hj => by
  rw [Addr.add_mid, cell_row h]
  rw [← atCs_drop l i hi, ← hx, List.getElem?_drop] at hj
  have hlt := (List.getElem?_eq_some_iff.1 hj).1
  rw [List.length_take] at hlt
  rw [List.getElem?_take_of_lt (by omega), Array.getElem?_toList] at hj
  exact hj
theorem news_head {w : World} {g : Nat} {cur : Array Value} {l : List At} (h : w.heap[g]? = some (.cells cur 37 (0, 0))) (hx : cur.toList.take (l.length * 3) = atCs l) (i : Nat) (hi : i ≤ l.length) :
    ∀ j u, (atCs (l.take i))[j]? = some u → w.cell? ((⟨g, 0, none⟩ : Addr).add j) = some u := fun j u hj => by
  rw [Addr.add_mid, cell_row h, Nat.zero_add]
  rw [← atCs_take l i hi, ← hx, List.take_take] at hj
  have hlt := (List.getElem?_eq_some_iff.1 hj).1
  rw [List.length_take] at hlt
  rw [List.getElem?_take_of_lt (by omega), Array.getElem?_toList] at hj
  exact hj
theorem ov_apart {w : World} {g vb : Nat} {cur cv : Array Value} (hg : w.heap[g]? = some (.cells cur 37 (0, 0))) (hv : w.heap[vb]? = some (.cells cv 37 (0, 0))) (hne : vb ≠ g) (hc : cur.size ≠ 0) (o la ca lb cb : Nat) :
    (callFunc 37 #[.slice (some ⟨vb, 0, none⟩) la ca, .slice (some ⟨g, o, none⟩) lb cb]).run Try.prog w = .ok (.value (.bool false)) w := by
  rw [run_callFunc_extern Try.func37 (by kernel_rfl) (by kernel_rfl) (by kernel_rfl) (e := Extern.SlicesOverlaps.overlaps #[24, 24] #[4]) (by kernel_rfl),
    Lib.run_overlaps_apart w 24 4 37 Try.underlying24 3 sizeAt ⟨vb, 0, none⟩ ⟨g, o, none⟩ la ca lb cb hne 37 37 cv.size cur.size (by simp [World.shape?, hv]) (by simp [World.shape?, hg]) hc (by simp [World.frozen?, hv]) (by simp [World.frozen?, hv])]
  rfl
end Go.Proofs.Ythdppchlnjnloaa
namespace Go.Proofs.Ythdppchlnjnloaa
open Go.RowKit
set_option linter.unusedSimpArgs false
set_option maxRecDepth 100000 in
set_option maxHeartbeats 3200000 in
/-- within, where it fits -/
theorem insertIn (l : List At) (x : At) (i g cap vb B : Nat) (w : World) (hl : l.length ≤ 1000) (hi : i < l.length) (hr : l.length < cap) (hb : ABuf w B (.slice (some ⟨g, 0, none⟩) l.length cap) l) (ho : OneA w (.slice (some ⟨g, 0, none⟩) l.length cap) vb x) :
    Calls Try.prog 31 #[.slice (some ⟨g, 0, none⟩) l.length cap, .int .i64 i, .slice (some ⟨vb, 0, none⟩) 1 1] w (InsAns w B (.slice (some ⟨g, 0, none⟩) l.length cap) (insA l i x)) := by
  obtain ⟨cur, hg, hbq, hn, hcap, hcs, hxs⟩ : ∃ cur, B ≤ g ∧ w.heap[g]? = some (.cells cur 37 (0, 0)) ∧ l.length ≤ cap ∧ cap ≤ maxLen ∧ cur.size = cap * 3 ∧ cur.toList.take (l.length * 3) = atCs l := by
    rcases hb.2 with ⟨e, -⟩ | ⟨g', cap', cur, e, hg, hbq, hn, hcap, hcs, hxs⟩
    · cases e
    · injection e with e1 e2 e3
      injection e1 with e1
      injection e1 with e1
      subst e1 e3
      exact ⟨cur, hg, hbq, hn, hcap, hcs, hxs⟩
  have hne : vb ≠ g := fun e => ho.2 (by rw [e]; rfl)
  have HOV : Hid (∀ W : World, (∀ k, W.heap[k]? = w.heap[k]?) → ∀ o la ca lb cb, (callFunc 37 #[.slice (some ⟨vb, 0, none⟩) la ca, .slice (some ⟨g, o, none⟩) lb cb]).run Try.prog W = .ok (.value (.bool false)) W) := fun W hW o la ca lb cb =>
    ov_apart (by rw [hW]; exact hbq) (by rw [hW]; exact ho.1) hne (by omega) o la ca lb cb
  have HC1 : Hid (∀ W : World, (∀ k, W.heap[k]? = w.heap[k]?) → ∀ ty dc sc, (Builtin.copy_ #[24, 24] ty #[.slice (some ⟨g, (i + 1) * 3, none⟩) (l.length - i) dc, .slice (some ⟨g, i * 3, none⟩) (l.length + 1 - i) sc]).run Try.prog W =
      .ok (goInt (l.drop i).length) (W.setRow g (cur.toList.take ((i + 1) * 3) ++ atCs (l.drop i) ++ cur.toList.drop ((i + 1) * 3 + (l.drop i).length * 3)).toArray)) := fun W hW ty dc sc =>
    run_copyA W ty g ((i + 1) * 3) (l.length - i) dc ⟨g, i * 3, none⟩ (l.length + 1 - i) sc cur (l.drop i) (by rw [hW]; exact hbq) (by rw [List.length_drop]; simp only [Nat.min_def]; split <;> omega) (news_row (by rw [hW]; exact hbq) hxs i (by omega)) (by rw [List.length_drop, hcs]; omega)
  obtain ⟨c1, hc1⟩ : ∃ c1, c1 = cur.toList.take ((i + 1) * 3) ++ atCs (l.drop i) ++ cur.toList.drop ((i + 1) * 3 + (l.drop i).length * 3) := ⟨_, rfl⟩
  obtain ⟨c2, hc2⟩ : ∃ c2, c2 = c1.take (i * 3) ++ atCs [x] ++ c1.drop (i * 3 + [x].length * 3) := ⟨_, rfl⟩
  have hrow := row_in x hxs (by omega) (by simp [hcs]; omega) c1 c2 hc1 hc2
  have hc1l : c1.length = cap * 3 := by rw [hc1]; simp only [List.length_append, List.length_take, List.length_drop, Array.length_toList, hcs, atCs_len]; omega
  have HC2 : Hid (∀ W : World, (∀ k, W.heap[k]? = (w.setRow g c1.toArray).heap[k]?) → ∀ ty dc, (Builtin.copy_ #[24, 24] ty #[.slice (some ⟨g, i * 3, none⟩) (l.length + 1 - i) dc, .slice (some ⟨vb, 0, none⟩) 1 1]).run Try.prog W =
      .ok (goInt [x].length) (W.setRow g c2.toArray)) := fun W hW ty dc => by
    have h := run_copyA W ty g (i * 3) (l.length + 1 - i) dc ⟨vb, 0, none⟩ 1 1 c1.toArray [x] (by rw [hW]; exact setRow_heap w g cur _ _ _ hbq) (by simp only [Nat.min_def, List.length_singleton]; split <;> omega) (OneA.news (v := .slice none 0 0) ⟨by rw [hW, setRow_other w g vb _ hne]; exact ho.1, by simp [Value.ownBlock]⟩) (by simp; omega)
    rw [h]
    simp only [List.toList_toArray]
    rw [← hc2]
  rw [← hc1] at HC1
  have FIN : Hid (∀ W : World, W.os = w.os → W.tape = w.tape → W.output = w.output → (∀ k, k ≠ g → W.heap[k]? = w.heap[k]?) → W.heap[g]? = some (.cells c2.toArray 37 (0, 0)) → W.heap.size = w.heap.size → InsAns w B (.slice (some ⟨g, 0, none⟩) l.length cap) (insA l i x) (.returned (.slice (some ⟨g, 0, none⟩) (l.length + 1) cap)) W) := fun W h1 h2 h3 h4 h5 h6 => by
    refine ⟨_, rfl, ?_, ⟨h1, h2, h3, by omega, fun k hk hk' => h4 k (fun e => hk' (by rw [e]; rfl)), fun q hq => .inl hq⟩⟩
    unfold ABuf
    rw [insA_len _ _ _ (by omega)]
    refine ⟨by rw [atCs_len, insA_len _ _ _ (by omega)], .inr ⟨g, cap, c2.toArray, rfl, hg, h5, by omega, hcap, ?_, ?_⟩⟩
    · simp [hrow.1, hcs]
    · simpa using hrow.2
  have HW1 : Hid (w.heap[g]? = some (.cells cur 37 (0, 0))) := hbq
  unfold maxLen at hcap
  have hz2 : ¬ ((i : Int) = (l.length : Int)) := by omega
  have hin : i ≤ l.length := by omega
  have hw1 : IntKind.i64.wrap ((i : Int) + 1) = (i : Int) + 1 := by rw [IntKind.wrap_i64]; omega
  have hw2 : IntKind.i64.wrap ((l.length : Int) + 1) = (l.length : Int) + 1 := by rw [IntKind.wrap_i64]; omega
  have hb1 : (0 : Int) ≤ (i : Int) + 1 := by omega
  have htn : ((i : Int) + 1).toNat = i + 1 := by omega
  have htn2 : ((l.length : Int) + 1).toNat = l.length + 1 := by omega
  have hb2 : ¬ (cap = i + 1) := by omega
  have hb3 : (i : Int) ≤ (l.length : Int) + 1 := by omega
  have hb4 : ¬ (cap = i) := by omega
  have hb5 : (l.length : Int) + 1 ≤ (cap : Int) := by omega
  clear hb ho hbq hcs hxs hrow hc1l hc1 hc2 hg hn hne
  go_enter Try.func31, Try.ntmps31
  go_wp2_with (simp only [HOV.out _ (fun _ => rfl)])
  have hcp := HC1.out w.drew (fun _ => rfl) 3 (cap - (i + 1)) (cap - i)
  go_region
  clear hcp
  have hcp2 := HC2.out (w.drew.setRow g c1.toArray) (fun _ => rfl) 3 (cap - i)
  go_wp2_with fail
  go_ret
  refine FIN.out _ rfl rfl rfl (fun k hk => ?_) ?_ ?_
  · rw [setRow_other _ _ _ _ hk, setRow_other _ _ _ _ hk]; rfl
  · exact setRow_heap _ g c1.toArray _ _ _ (setRow_heap _ g cur _ _ _ HW1.out)
  · rw [setRow_size, setRow_size]; rfl
end Go.Proofs.Ythdppchlnjnloaa
