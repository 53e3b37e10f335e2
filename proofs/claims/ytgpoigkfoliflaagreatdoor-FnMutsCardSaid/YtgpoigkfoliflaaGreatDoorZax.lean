import Derived.Test.YtgpoigkfoliflaaGreatDoorZaw
import Derived.Test.YtgpoigkfoliflaaGreatDoorZav
namespace Go.Proofs.YtgpoigkfoliflaaGreatDoor
open Go.RowKit
set_option linter.unusedSimpArgs false
set_option maxHeartbeats 1600000 in
theorem putS1 (l : List At) (x : At) (a : Option Addr) (c : Nat) (S : Nat) (w : World) (hl : l.length ≤ 1048576) (hw : S ≤ w.heap.size) (hA : Ats w (· < S) a l) (hh : hasB l x = true) :
    Calls Tryz.prog 60 #[.slice a l.length c, .agg #[.int .i64 x.k, .int .i64 x.n, .string ⟨x.t.toArray⟩]] w fun e w' => e = .returned (.slice a l.length c) ∧ Below w.heap.size w w' := by
  have HS : Hid (∀ W, Below w.heap.size w W → Calls Tryz.prog 79 #[.slice a l.length c, .agg #[.int .i64 x.k, .int .i64 x.n, .string ⟨x.t.toArray⟩]] W fun e w' => e = .returned (.bool true) ∧ Below w.heap.size w w') := fun W h => by
    have h1 := hasS l x a c _ W (by unfold maxLen; omega) (hA.below (h.mono hw))
    rw [hh] at h1
    exact h1.mono (fun e w' ⟨he, hb⟩ => ⟨he, h.trans (hb.mono h.size)⟩)
  have hB0 : Hid (Below w.heap.size w (w.alloc (.cells #[.int .i64 x.k, .int .i64 x.n, .string ⟨x.t.toArray⟩] 55))) := (Below.refl _ _).alloc (Nat.le_refl _) _
  clear hA hh
  go_enter Tryz.func60, Tryz.ntmps60
  go_wp2_with (go_at_call 79; refine (HS.out _ hB0.out).mono ?_; rintro e w1 ⟨rfl, hB1⟩)
  go_ret
  exact ⟨rfl, hB1⟩
theorem putL_len (l : List At) (x : At) : (putL l x).length ≤ l.length + 1 := by
  unfold putL
  split
  · omega
  · have := posTo_le l x l.length
    unfold posA
    simp; omega
noncomputable def joinL (a b : List At) : List At := b.foldl putL a
theorem join_snoc (a b : List At) (m : Nat) (h : m < b.length) : joinL a (b.take (m + 1)) = putL (joinL a (b.take m)) b[m] := by
  unfold joinL
  rw [List.take_succ_eq_append_getElem h, List.foldl_append]
  rfl
theorem join_len (a : List At) : ∀ b : List At, (joinL a b).length ≤ a.length + b.length := by
  intro b
  induction b generalizing a with
  | nil => simp [joinL]
  | cons x b ih =>
    have h1 := ih (putL a x)
    have h2 := putL_len a x
    unfold joinL at h1 ⊢
    simp only [List.foldl_cons, List.length_cons]
    omega
theorem AI.open {w W : World} {B : Nat} {v : Value} {l : List At} (h : AI w B W v l) : ∃ g c, v = .slice (some ⟨g, 0, none⟩) l.length c ∧ l.length ≤ c ∧ Ats W (· < W.heap.size) (some ⟨g, 0, none⟩) l := by
  obtain ⟨a, c, e, ho⟩ := h.buf.own
  rcases h.buf.2 with ⟨e', -⟩ | ⟨g, cap, cur, rfl, hg, hb, hn, -⟩
  · exact absurd e' h.no
  · injection e with e1 e2 e3
    subst e1
    exact ⟨g, cap, rfl, hn, ho.ats.same (fun _ _ => rfl) (fun b hb => hb.2)⟩
theorem AI.base {w w0 W : World} {B : Nat} {v : Value} {l : List At} (h : AI w0 B W v l) (hb : Below w.heap.size w w0) : AI w B W v l := ⟨h.buf, hb.trans (h.bel.mono hb.size), h.le, Nat.le_trans hb.size h.old, h.no⟩
set_option maxRecDepth 100000 in
set_option maxHeartbeats 3200000 in
theorem joinS (a b : List At) (b1 o1 ca cb : Nat) (pb : Option Addr) (S : Nat) (w : World) (hla : a.length ≤ 500000) (hlb : b.length ≤ 500000) (hw : S ≤ w.heap.size) (hA : Ats w (· < S) (some ⟨b1, o1, none⟩) a) (hB : Ats w (· < S) pb b) :
    Calls Tryz.prog 71 #[.slice (some ⟨b1, o1, none⟩) a.length ca, .slice pb b.length cb] w fun e w' => ∃ v B, e = .returned v ∧ AI w B w' v (joinL a b) := by
  have HB : Hid (Ats w (· < S) pb b) := hB
  have NA : Hid (∀ W, Below w.heap.size w W → ∀ j u, (atCs a)[j]? = some u → W.cell? ((⟨b1, o1, none⟩ : Addr).add j) = some u) := fun W h => by
    have := news_part (hA.below (h.mono hw)) 0 a.length (by omega)
    simpa using this
  have H0 : Hid (AI w w.heap.size (w.alloc (.cells #[] 55)) (.slice (some ⟨w.heap.size, 0, none⟩) 0 0) []) := AI.first w
  clear hA hB
  go_enter Tryz.func71, Tryz.ntmps71
  go_wp2_with (at_builtin; go_must (refine wpList_apush rfl (.tmp 7) (.tmp 8) rfl w.heap.size _ [] a ⟨b1, o1, none⟩ a.length ca rfl rfl rfl H0.out.buf H0.out.le (by simp; omega) H0.out.no (NA.out _ H0.out.bel) ?_; intro v0 w0 hb0 ha0 hn0; have H1 : Hid (AI w w.heap.size w0 v0 a) := (H0.out.push hb0 ha0 hn0).cast (by simp); clear hb0 ha0 hn0))
  go_loopw [5, 6] (fun o i wr => ∃ m : Nat, ∃ vo B, m ≤ b.length ∧ i = .int .i64 m ∧ vo = o ∧ Hid (AI w B wr vo (joinL a (b.take m)))) (fun _ i _ => b.length - (intOf i).toNat)
  case atStart => exact ⟨0, v0, _, Nat.zero_le _, rfl, rfl, H1.out⟩
  case round =>
    obtain ⟨m, vo, B, hm, rfl, rfl, HI⟩ := hrel
    by_cases hlt : m < b.length
    · obtain ⟨b2, o2, rfl, -, c0, c1, c2⟩ := (HB.out.below (HI.out.bel.mono hw)).item m hlt
      obtain ⟨g, c, rfl, hgc, hat⟩ := HI.out.open
      have HN : Hid (joinL a (b.take (m + 1)) = putL (joinL a (b.take m)) b[m]) := join_snoc a b m hlt
      have hjl : (joinL a (b.take m)).length ≤ 1048576 := by
        have h1 := join_len a (b.take m)
        have h2 : (b.take m).length ≤ m := List.length_take_le _ _
        omega
      have hmi : (m : Int) < (b.length : Int) := by omega
      cases hh : hasB (joinL a (b.take m)) b[m]
      · have HP : Hid (Calls Tryz.prog 60 #[.slice (some ⟨g, 0, none⟩) (joinL a (b.take m)).length c, .agg #[.int .i64 b[m].k, .int .i64 b[m].n, .string ⟨b[m].t.toArray⟩]] wr fun e w' => ∃ v B, e = .returned v ∧ AI w B w' v (joinL a (b.take (m + 1)))) :=
          (putS _ b[m] g 0 c wr.heap.size wr hjl (Nat.le_refl _) hat hgc hh).mono (fun e w' ⟨v, B', he, hai⟩ => ⟨v, B', he, (hai.base HI.out.bel).cast (by rw [HN.out]; unfold putL; rw [hh]; rfl)⟩)
        clear hh hat hjl hgc
        generalize (joinL a (b.take m)).length = n at *
        generalize b[m] = x at *
        go_wp2_with (go_at_call 60; refine HP.out.mono ?_; rintro e w1 ⟨v1, B1, rfl, H2⟩)
        go_roundw
        case rel => exact ⟨m + 1, v1, B1, by omega, by go_num, rfl, H2⟩
        case measure => simp [intOf]; omega
      · have HP : Hid (Calls Tryz.prog 60 #[.slice (some ⟨g, 0, none⟩) (joinL a (b.take m)).length c, .agg #[.int .i64 b[m].k, .int .i64 b[m].n, .string ⟨b[m].t.toArray⟩]] wr fun e w' => e = .returned (.slice (some ⟨g, 0, none⟩) (joinL a (b.take m)).length c) ∧ AI w B w' (.slice (some ⟨g, 0, none⟩) (joinL a (b.take m)).length c) (joinL a (b.take (m + 1)))) :=
          (putS1 _ b[m] _ c wr.heap.size wr hjl (Nat.le_refl _) hat hh).mono (fun e w' ⟨he, hb⟩ => ⟨he, (HI.out.on hb).cast (by rw [HN.out]; unfold putL; rw [hh]; rfl)⟩)
        clear hh hat hjl hgc HI HN
        generalize (joinL a (b.take m)).length = n at *
        generalize b[m] = x at *
        go_wp2_with (go_at_call 60; refine HP.out.mono ?_; rintro e w1 ⟨rfl, H2⟩)
        go_roundw
        case rel => exact ⟨m + 1, _, B, by omega, by go_num, rfl, H2⟩
        case measure => simp [intOf]; omega
    · have HE : Hid (joinL a (b.take m) = joinL a b) := by show _ = _; rw [List.take_of_length_le (by omega)]
      have hmi : decide ((m : Int) < (b.length : Int)) = false := by simp; omega
      go_wp2_with fail
      go_ret
      exact ⟨vo, B, rfl, HI.out.cast HE.out⟩
end Go.Proofs.YtgpoigkfoliflaaGreatDoor
namespace Go.Proofs.YtgpoigkfoliflaaGreatDoor
open Go.RowKit
set_option linter.unusedSimpArgs false
noncomputable def joinC (a b : List At) : Int := if twoC a b = 0 then (if 8 < (joinL a b).length then 6 else 0) else twoC a b
noncomputable def joinR (a b : List At) : List At := if twoC a b = 0 ∧ ¬ 8 < (joinL a b).length then joinL a b else []
theorem AI.ans2 {w W : World} {B : Nat} {v : Value} {l : List At} {c : Int} (h : AI w B W v l) : AAns2 w l c (.returned (.tuple #[v, .int .i64 c])) W := by
  obtain ⟨a, cp, rfl, ho⟩ := h.buf.own
  exact ⟨a, cp, rfl, ho.same (fun _ _ => rfl) (fun b hb => ⟨Nat.le_trans h.old hb.1, hb.2⟩), h.bel⟩
end Go.Proofs.YtgpoigkfoliflaaGreatDoor
namespace Go.Proofs.YtgpoigkfoliflaaGreatDoor
open Go.RowKit
set_option linter.unusedSimpArgs false
theorem ABuf.nil (w : World) (B : Nat) : ABuf w B (.slice none 0 0) [] := ⟨rfl, .inl ⟨rfl, rfl⟩⟩
theorem run_apushN {w : World} {B : Nat} {v : Value} {l : List At} (hb : ABuf w B v l) (hB : B ≤ w.heap.size) (l' : List At) (hl : l.length + l'.length ≤ 1000000000) (hl0 : 0 < l'.length) (ad : Addr) (cp : Nat) (ty : TypeId)
    (hnews : ∀ j u, (atCs l')[j]? = some u → w.cell? (ad.add j) = some u) :
    ∃ v' w', (Builtin.append_ #[35, 35] ty #[v, .slice (some ad) l'.length cp]).run Tryz.prog w = .ok v' w' ∧ ABuf w' B v' (l ++ l') ∧ AppA w v w' v' := by
  by_cases hv : v = .slice none 0 0
  · subst hv
    have hl1 : l = [] := by
      rcases hb.2 with ⟨-, h0⟩ | ⟨g, cap, cur, e1, -⟩
      · exact List.length_eq_zero_iff.1 h0
      · cases e1
    subst hl1
    obtain ⟨i, hi, hz, hs, hby⟩ := infoAt'
    have h1 : ∀ u ∈ atCs l', u.oneCell' = true := fun u hu => by
      obtain ⟨m, -, rfl⟩ := List.mem_map.1 hu
      unfold atF
      split
      · rfl
      · split <;> rfl
    have hll : (atCs l').length = l'.length * 3 := atCs_len l'
    have hb' : ABuf w w.heap.size (.slice none 0 0) [] := ABuf.nil _ _
    obtain ⟨v', w', hr, h2, h3, h4⟩ := run_append_own (P := Tryz.prog) w w.heap.size 35 ty 55 i (.agg zeroAt) 3 32 Tryz.underlying35 hi hz hs hby rfl (by omega) (.slice none 0 0) 0 (atCs []) hb' ad l'.length cp (atCs l') hll hnews h1 (by unfold maxLen; simp at hl; omega) (by simp at hl; omega) (Nat.le_refl _)
    have hb2 : ABuf w' w.heap.size v' ([] ++ l') := by
      unfold ABuf
      rw [atCs_app, List.length_append]
      exact h2
    refine ⟨v', w', hr, hb2.mono hB, ⟨h3.os, h3.tape, h3.output, h3.size, fun k hk hn => h3.block k hk (fun e => hn e.symm), fun g hg => .inr (hb2.lt hg).1⟩⟩
  · obtain ⟨v', w', hr, h2, h3, -⟩ := run_apush hb hB l' hl ad cp ty hv hnews
    exact ⟨v', w', hr, h2, h3⟩
theorem wpList_apushN {ops : Array Oper} {rest : List Oper} {o : Oper} {a : Act} {w : World} {Q : Exit → Act → World → Prop} (hgd : o.guard = none) (s x : Operand)
    (ho : o.op = .call { callee := .builtin .append, args := #[s, x], argTypes := #[35, 35] })
    (B : Nat) (v : Value) (l l' : List At) (ad : Addr) (m cp : Nat) (hs : a.eval s = v) (hx : a.eval x = .slice (some ad) m cp) (hm : l'.length = m)
    (hb : ABuf w B v l) (hB : B ≤ w.heap.size) (hl : l.length + l'.length ≤ 1000000000) (hl0 : 0 < l'.length) (hc : ∀ j u, (atCs l')[j]? = some u → w.cell? (ad.add j) = some u)
    (h : ∀ v' w', ABuf w' B v' (l ++ l') → AppA w v w' v' → wpList Tryz.prog ops Q rest (a.put o.dst v') w') : wpList Tryz.prog ops Q (o :: rest) a w := by
  subst hm
  refine wpList_plain hgd fun K hK => ?_
  obtain ⟨v', w', hr, h2, h3⟩ := run_apushN hb hB l' hl hl0 ad cp o.type hc
  unfold Oper.wp execOp
  simp only [ho, resolve, invoke, builtin, Sem.run_bind, Sem.run_pure, Result.andThen_ok, List.map_toArray, List.map_cons, List.map_nil, hs, hx, hr]
  exact hK _ _ (h v' w' h2 h3)
structure AN (w : World) (B : Nat) (W : World) (v : Value) (l : List At) : Prop where
  buf : ABuf W B v l
  bel : Below w.heap.size w W
  le : B ≤ W.heap.size
  old : w.heap.size ≤ B
theorem AN.on {w W W' : World} {B : Nat} {v : Value} {l : List At} (h : AN w B W v l) (hb : Below W.heap.size W W') : AN w B W' v l := ⟨h.buf.on hb, h.bel.trans (hb.mono h.bel.size), Nat.le_trans h.le hb.size, h.old⟩
theorem AN.push {w W W' : World} {B : Nat} {v v' : Value} {l l' : List At} (h : AN w B W v l) (hb : ABuf W' B v' l') (ha : AppA W v W' v') : AN w B W' v' l' :=
  ⟨hb, h.bel.trans ((ha.below h.buf h.le).mono h.old), Nat.le_trans h.le ha.size, h.old⟩
theorem AN.cast {w W : World} {B : Nat} {v : Value} {l l' : List At} (h : AN w B W v l) (e : l = l') : AN w B W v l' := by rw [← e]; exact h
theorem AN.first {w W : World} (h : Below w.heap.size w W) : AN w w.heap.size W (.slice none 0 0) [] := ⟨ABuf.nil _ _, h, h.size, Nat.le_refl _⟩
theorem AN.ans2 {w W : World} {B : Nat} {v : Value} {l : List At} {c : Int} (h : AN w B W v l) : AAns2 w l c (.returned (.tuple #[v, .int .i64 c])) W := by
  obtain ⟨a, cp, rfl, ho⟩ := h.buf.own
  exact ⟨a, cp, rfl, ho.same (fun _ _ => rfl) (fun b hb => ⟨Nat.le_trans h.old hb.1, hb.2⟩), h.bel⟩
end Go.Proofs.YtgpoigkfoliflaaGreatDoor
