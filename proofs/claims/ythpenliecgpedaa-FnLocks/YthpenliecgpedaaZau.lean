import Derived.Test.YthpenliecgpedaaZat
import Derived.Deep.RegionHeld3
import Derived.Test.YthpenliecgpedaaZTk
namespace Go.Proofs.Ythpenliecgpedaa
open Go.RowKit
set_option linter.unusedSimpArgs false
theorem step_appIs {P : Program} {ops : Array Oper} {o : Oper} {a : Act} {w : World} {K : Act → World → Prop} {Q : Exit → Act → World → Prop} {E : Prop} (hgd : o.guard = none) (s x : Operand) (t : TypeId)
    (ho : o.op = .call { callee := .builtin .append, args := #[s, x], argTypes := #[t, t] }) (v y : Value) (hs : a.eval s = v) (hx : a.eval x = y) (v' : Value) (w' : World) (hr : (Builtin.append_ #[t, t] o.type #[v, y]).run P w = .ok v' w')
    (hk : K (a.put o.dst v') w') : if Region.wanted o (yielded ops a.tmps) = true then Oper.wp P o a w K Q else E := by
  rw [if_pos (by simp [Region.wanted, hgd])]
  unfold Oper.wp execOp
  simp only [ho, resolve, invoke, builtin, Sem.run_bind, Sem.run_pure, Result.andThen_ok, List.map_toArray, List.map_cons, List.map_nil, hs, hx, hr]
  exact hk
theorem ints_app (a b : List Int) : ints (a ++ b) = ints a ++ ints b := by unfold ints; rw [List.map_append]
theorem ints_len (a : List Int) : (ints a).length = a.length := by unfold ints; rw [List.length_map]
theorem QOw.app {base : Nat} {V : World} {q0 : List Int} {v : Value} (h : QOw base V q0 v) (q : List Int) (p : Addr) (pc : Nat) (hp : ∀ j (hj : j < q.length), V.cell? (p.add j) = some (.int .i64 q[j])) (hb : base ≤ V.heap.size) (hl : q0.length + q.length ≤ 100000) :
    ∃ a' c' W', (Builtin.append_ #[52, 52] 52 #[v, .slice (some p) q.length pc]).run Try.prog V = .ok (.slice a' (q0.length + q.length) c') W' ∧ QOw base W' (q0 ++ q) (.slice a' (q0.length + q.length) c') ∧ Frm (fun b => v.ownBlock = some b) V W' ∧ ∀ g, Value.ownBlock (.slice a' (q0.length + q.length) c') = some g → v.ownBlock = some g ∨ V.heap.size ≤ g := by
  obtain ⟨i, hi, hz, hs, hby⟩ := infoIn
  obtain ⟨v', W', hr, hrow, hg, hgg⟩ := run_append_own4 (P := Try.prog) V base 52 52 3 i _ 1 8 Try.underlying52 hi hz hs hby rfl (by omega) v q0.length _ h p q.length pc (ints q) (by rw [ints_len, Nat.mul_one]) (fun j u hj => by
      unfold ints at hj
      rw [List.getElem?_map] at hj
      by_cases hjn : j < q.length
      · rw [List.getElem?_eq_getElem hjn] at hj
        simp only [Option.map_some, Option.some.injEq] at hj
        rw [← hj]; exact hp j hjn
      · rw [List.getElem?_eq_none (by omega)] at hj; cases hj) (fun u hu => by
      unfold ints at hu
      obtain ⟨n, -, rfl⟩ := List.mem_map.1 hu; rfl) (by unfold maxLen; omega) (by omega) hb
  obtain ⟨a', c', rfl⟩ : ∃ a' c', v' = .slice a' (q0.length + q.length) c' := by
    rcases hrow.2 with ⟨rfl, h0⟩ | ⟨g, cap, cur, rfl, -⟩
    · exact ⟨none, 0, by rw [h0]⟩
    · exact ⟨_, _, rfl⟩
  refine ⟨a', c', W', hr, ?_, ⟨hg.os, hg.tape, hg.output, hg.size, fun b hb' hn => hg.block b hb' (fun e => hn e.symm)⟩, hgg⟩
  show W'.ownsRow base 3 1 _ (q0 ++ q).length (ints (q0 ++ q))
  rw [List.length_append, ints_app]; exact hrow
theorem QOw.start {base : Nat} {W : World} {g : Nat} (hg : base ≤ g) (hh : W.heap[g]? = some (.cells #[] 3)) : QOw base W [] (.slice (some ⟨g, 0, none⟩) 0 0) :=
  ⟨by simp [ints], .inr ⟨g, 0, #[], rfl, hg, hh, by simp, by omega, by simp, by simp [ints]⟩⟩
theorem QOw.nil (base : Nat) (W : World) : QOw base W [] (.slice none 0 0) := ⟨by simp [ints], .inl ⟨rfl, rfl⟩⟩
theorem lks_app (a b : List LE) : lks (a ++ b) = lks a ++ lks b := by unfold lks; rw [List.map_append]
def fk (l : List LkV) (s : List UInt8) : Nat := l.findIdx (fun x => x.nm == s)
def fkI (l : List LkV) (s : List UInt8) : Int := if fk l s < l.length then (fk l s : Int) else -1
theorem fk_le (l : List LkV) (s : List UInt8) : fk l s ≤ l.length := List.findIdx_le_length
theorem fk_at {l : List LkV} {s : List UInt8} (h : fk l s < l.length) : l[fk l s].nm = s := by
  have h' : List.findIdx (fun x : LkV => x.nm == s) l < l.length := h
  exact eq_of_beq (List.findIdx_getElem (p := fun x : LkV => x.nm == s) (w := h'))
theorem fk_lt {l : List LkV} {s : List UInt8} {m : Nat} (h : m < fk l s) : (l[m]'(Nat.lt_of_lt_of_le h (fk_le l s))).nm ≠ s := by
  have := List.not_of_lt_findIdx h
  simpa using this
theorem fk_eq {l : List LkV} {s : List UInt8} {k : Nat} (hk : k < l.length) (h : l[k].nm = s) (hn : ∀ m (hm : m < l.length), m < k → l[m].nm ≠ s) : fk l s = k := by
  rcases Nat.lt_trichotomy (fk l s) k with h1 | h1 | h1
  · exact absurd (fk_at (by omega)) (hn _ (by omega) h1)
  · exact h1
  · exact absurd h (fk_lt h1)
theorem fk_none {l : List LkV} {s : List UInt8} (hn : ∀ m (hm : m < l.length), l[m].nm ≠ s) : fk l s = l.length := by
  have h1 := fk_le l s
  by_cases h : fk l s < l.length
  · exact absurd (fk_at h) (hn _ h)
  · omega
set_option maxRecDepth 100000 in
set_option maxHeartbeats 3200000 in
theorem findKS (l : List LkV) (s : List UInt8) (a : Option Addr) (c : Nat) (B : Nat → Prop) (w : World) (hl : l.length ≤ maxLen) (hS : Rd w B (dLockS l) (.slice a l.length c)) :
    Calls Try.prog 63 #[.slice a l.length c, .string ⟨s.toArray⟩] w fun e w' => e = .returned (.int .i64 (fkI l s)) ∧ w' = w := by
  unfold maxLen at hl
  have HS : Hid (Rd w B (dLockS l) (.slice a l.length c)) := hS
  clear hS
  go_enter Try.func63, Try.ntmps63
  go_wp2_with fail
  go_loopw [5] (fun i wr => ∃ k : Nat, k ≤ l.length ∧ i = .int .i64 k ∧ Hid ((∀ m (h : m < l.length), m < k → l[m].nm ≠ s) ∧ wr = w)) (fun i _ => l.length - (intOf i).toNat)
  case atStart => exact ⟨0, Nat.zero_le _, rfl, fun m _ h => absurd h (by omega), rfl⟩
  case round =>
    obtain ⟨k, hk, rfl, HW⟩ := hrel
    obtain rfl := HW.out.2
    by_cases hlt : k < l.length
    case neg =>
      have hki : decide ((k : Int) < (l.length : Int)) = false := by simp; omega
      have HR : Hid (fkI l s = -1) := by
        show _ = _
        unfold fkI
        rw [fk_none (fun m h => HW.out.1 m h (by omega)), if_neg (by omega)]
      go_wp2_with fail
      go_ret
      exact ⟨ret_i HR.out.symm, rfl⟩
    have hki : (k : Int) < (l.length : Int) := by omega
    obtain ⟨b, off, qa, qc, rfl, -, -, hc⟩ := lockAt HS.out hlt
    have c0 := (hc _ (Below.refl _ _)).1
    clear hc
    cases he : (l[k].nm == s)
    case true =>
      have HR : Hid (fkI l s = (k : Int)) := by
        have h1 := fk_eq hlt (by simpa using he) (fun m h hm => HW.out.1 m h hm)
        show _ = _
        unfold fkI
        rw [h1, if_pos hlt]
      clear HW
      generalize l[k].nm = x at *
      go_wp2_with fail
      go_ret
      exact ⟨ret_i HR.out.symm, rfl⟩
    case false =>
      have HN : Hid (∀ m (h : m < l.length), m < k + 1 → l[m].nm ≠ s) := fun m h hm => by
        by_cases e : m = k
        · subst e; simpa using he
        · exact HW.out.1 m h (by omega)
      clear HW
      generalize l[k].nm = x at *
      go_wp2_with fail
      go_roundw
      case rel => exact ⟨k + 1, by omega, by go_num, HN.out, by first | rfl | exact trivial⟩
      case measure => simp [intOf]; omega
set_option maxRecDepth 100000 in
set_option maxHeartbeats 6400000 in
theorem lkOwnS (l : List LkV) (a : Option Addr) (c : Nat) (B : Nat → Prop) (w : World) (hl : l.length ≤ 1000) (hq : ∀ k (h : k < l.length), 0 < l[k].qu.length ∧ l[k].qu.length ≤ 1000) (hS : Rd w B (dLockS l) (.slice a l.length c)) :
    Calls Try.prog 62 #[.slice a l.length c] w fun e w' => ∃ es ra rc, e = .returned (.slice ra l.length rc) ∧ lks es = l ∧ LTab w.heap.size w' es (.slice ra l.length rc) ∧ Below w.heap.size w w' ∧ ∃ g, ra = some ⟨g, 0, none⟩ := by
  have HS : Hid (∀ W, Below w.heap.size w W → Rd W B (dLockS l) (.slice a l.length c)) := fun W h => Rd.later hS h
  have HQ := Lib.hid hq
  have HL := Lib.hid hl
  have H0 : Hid (Below w.heap.size w (w.alloc (.cells #[] 54)) ∧ lks [] = l.take 0 ∧ LTab w.heap.size (w.alloc (.cells #[] 54)) [] (.slice (some ⟨w.heap.size, 0, none⟩) 0 0) ∧ ∃ g, Value.ownBlock (.slice (some ⟨w.heap.size, 0, none⟩) 0 0) = some g) := ⟨below_allocD _ _, rfl, LTab.start (Nat.le_refl _) (heap_newD _ _), _, rfl⟩
  clear hS hq
  go_enter Try.func62, Try.ntmps62
  go_wp2_with fail
  go_loopw [3, 4] (fun v iv wr => ∃ (k : Nat) (es : List LE), k ≤ l.length ∧ iv = .int .i64 k ∧ Hid (Below w.heap.size w wr ∧ lks es = l.take k ∧ LTab w.heap.size wr es v ∧ ∃ g, v.ownBlock = some g)) (fun _ iv _ => l.length - (intOf iv).toNat)
  case atStart => exact ⟨0, [], Nat.zero_le _, rfl, H0.out⟩
  case round =>
    clear H0
    obtain ⟨k, es, hk, rfl, HW⟩ := hrel
    have hel : es.length = k := by have h1 := congrArg List.length HW.out.2.1; rw [lks_len, List.length_take] at h1; omega
    obtain ⟨va, vc, rfl⟩ := (by have h1 := HW.out.2.2.1.shape; rw [hel] at h1; exact h1 : ∃ a c, _ = Value.slice a k c)
    by_cases hlt : k < l.length
    case neg =>
      have hki : decide ((k : Int) < (l.length : Int)) = false := by simp; omega
      have hkl : es.length = l.length := by omega
      have HF : Hid (lks es = l ∧ LTab w.heap.size wr es (.slice va l.length vc) ∧ Below w.heap.size w wr ∧ ∃ g, va = some ⟨g, 0, none⟩) := by
        have h1 := HW.out.2.1
        rw [List.take_of_length_le (by omega)] at h1
        have h2 := HW.out.2.2.1
        obtain ⟨y, hy⟩ := HW.out.2.2.2
        rw [← hel, hkl] at h2
        refine ⟨h1, h2, HW.out.1, y, ?_⟩
        rcases h2.ow.2 with ⟨e, -⟩ | ⟨g2, cap, cur, e, -⟩
        · simp only [Value.slice.injEq] at e; rw [e.1] at hy; cases hy
        · simp only [Value.slice.injEq] at e; rw [e.1] at hy ⊢; simp only [Value.ownBlock, Option.some.injEq] at hy; rw [hy]
      have hkk : k = l.length := by omega
      rw [hkk]
      clear HW hkl hel hkk
      go_wp2_with fail
      go_ret
      exact ⟨es, va, vc, rfl, HF.out⟩
    have hki : (k : Int) < (l.length : Int) := by omega
    obtain ⟨b, off, qa, qc, rfl, -, hqr, hc⟩ := lockAt (HS.out _ (Below.refl _ _)) hlt
    have hq0 := HQ.out k hlt
    obtain ⟨g, o, rfl, -, hcq⟩ := intAt hqr hq0.1
    have B0 : Hid (Below w.heap.size w wr.drew) := HW.out.1.drew
    have D1 : Below wr.heap.size wr (wr.alloc (.cells #[] 3)).drew := (below_allocD _ _).drew
    have B1 : Hid (Below w.heap.size w (wr.alloc (.cells #[] 3)).drew) := HW.out.1.trans (D1.mono HW.out.1.size)
    obtain ⟨qa', qc', W1, hr1, hu1, hF1, hn1⟩ := QOw.app (V := (wr.alloc (.cells #[] 3)).drew) (QOw.start (base := w.heap.size) (g := wr.heap.size) HW.out.1.size (heap_newD wr (.cells #[] 3))) l[k].qu ⟨g, o, none⟩ qc (fun j hj => by
      rw [Addr.add_mid]; exact hcq j hj _ B1.out) B1.out.size (by simp; omega)
    simp only [List.length_nil, Nat.zero_add, List.nil_append] at hr1 hu1 hn1
    have s1 : (wr.alloc (.cells #[] 3)).drew.heap.size = wr.heap.size + 1 := size_allocD _ _
    have D2 : Below wr.heap.size wr W1 := ⟨hF1.os.trans D1.os, hF1.tape.trans D1.tape, hF1.output.trans D1.output, Nat.le_trans D1.size hF1.size, fun x hx => by rw [hF1.block x (by omega) (fun e => by have e2 : x = wr.heap.size := (by cases e; rfl); omega)]; exact D1.block x hx⟩
    have B2 : Hid (Below w.heap.size w W1) := HW.out.1.trans (D2.mono HW.out.1.size)
    have hu2 : ∀ y, Value.ownBlock (.slice qa' l[k].qu.length qc') = some y → wr.heap.size ≤ y := fun y hy => by
      rcases hn1 y hy with h1 | h1
      · have e2 : y = wr.heap.size := (by cases h1; rfl)
        omega
      · omega
    have D3 : Below wr.heap.size wr (W1.alloc (.cells #[.string ⟨l[k].nm.toArray⟩, .slice qa' l[k].qu.length qc'] 54)) := D2.alloc D2.size _
    have B3 : Hid (Below w.heap.size w (W1.alloc (.cells #[.string ⟨l[k].nm.toArray⟩, .slice qa' l[k].qu.length qc'] 54))) := B2.out.alloc B2.out.size _
    have hT3 := HW.out.2.2.1.later D3
    have hu3 : QOw w.heap.size (W1.alloc (.cells #[.string ⟨l[k].nm.toArray⟩, .slice qa' l[k].qu.length qc'] 54)) l[k].qu (.slice qa' l[k].qu.length qc') := hu1.same (fun y hy => (below_allocD _ _).block y (hu1.low hy).2)
    obtain ⟨a', c', W4, hr4, hT4, hF4, hn4⟩ := hT3.app (es2 := [⟨l[k], .slice qa' l[k].qu.length qc'⟩]) ⟨fun i hi => by (obtain rfl : i = 0 := (by simpa using hi)); exact hu3, fun i hi j hj y _ _ => by simp at hi hj; omega⟩
      (fun i hi j hj y h1 h2 => by
        obtain rfl : j = 0 := by simpa using hj
        have h3 := hu2 y h2
        have h4 := (HW.out.2.2.1.low (.inr ⟨i, hi, h1⟩)).2
        omega)
      (fun j hj y h1 h2 => by
        obtain rfl : j = 0 := by simpa using hj
        have h3 := hu2 y h1
        have h4 := (HW.out.2.2.1.low (.inl h2)).2
        omega) ⟨W1.heap.size, 0, none⟩ 1 (fun j u hj => by
        rw [Addr.add_mid, Nat.zero_add]
        have h5 := heap_newD W1 (.cells #[.string ⟨l[k].nm.toArray⟩, .slice qa' l[k].qu.length qc'] 54)
        match j, hj with
        | 0, hj => cases hj; exact cell_at (o := 0) h5 rfl
        | 1, hj => cases hj; exact cell_at (o := 1) h5 rfl
        | j + 2, hj => simp [lcs] at hj) B3.out.size (by have := HL.out; simp; omega)
    simp only [List.length_cons, List.length_nil, Nat.zero_add, hel] at hr4 hT4 hn4
    have hvl : ∀ y, Value.ownBlock (.slice va k vc) = some y → w.heap.size ≤ y ∧ y < wr.heap.size := fun y hy => HW.out.2.2.1.low (.inl hy)
    have B4 : Hid (Below w.heap.size w W4) := by
      have h6 := B3.out
      exact ⟨hF4.os.trans h6.os, hF4.tape.trans h6.tape, hF4.output.trans h6.output, Nat.le_trans h6.size hF4.size, fun x hx => by rw [hF4.block x (by have := h6.size; omega) (fun e => by have := (hvl x e).1; omega)]; exact h6.block x hx⟩
    have HN : Hid (lks (es ++ [⟨l[k], .slice qa' l[k].qu.length qc'⟩]) = l.take (k + 1)) := by
      show _ = _
      rw [lks_app, HW.out.2.1, List.take_succ_eq_append_getElem hlt]
      rfl
    have RUN1 := Lib.hid hr1
    have RUN4 := Lib.hid hr4
    have HT4 : Hid (LTab w.heap.size W4 (es ++ [⟨l[k], .slice qa' l[k].qu.length qc'⟩]) (.slice a' (k + 1) c') ∧ ∃ g, Value.ownBlock (.slice a' (k + 1) c') = some g) := ⟨hT4, by obtain ⟨y, cy, ey, -⟩ := hT4.at (i := 0) (by simp); exact ⟨y, by rw [ey]; rfl⟩⟩
    have CE : Hid (∀ W, Below w.heap.size w W → W.cell? ⟨b, off + k * 2, none⟩ = some (.string ⟨l[k].nm.toArray⟩) ∧ W.cell? ⟨b, off + k * 2 + 1, none⟩ = some (.slice (some ⟨g, o, none⟩) l[k].qu.length qc)) := fun W h => hc W h
    have HB := Lib.hid HW.out.1
    clear hr1 hu1 hF1 hn1 s1 hu2 hT3 hu3 hr4 hT4 hF4 hn4 hvl hcq hqr hc HW D1 D2 D3 hel
    generalize l[k] = x at *
    go_wp2_with fail
    refine wp_region_held_drew (S := (fun W => W.cell? ⟨b, off + k * 2, none⟩ = some (.string ⟨x.nm.toArray⟩) ∧ W.cell? ⟨b, off + k * 2 + 1, none⟩ = some (.slice (some ⟨g, o, none⟩) x.qu.length qc))) (by kernel_rfl) ?_ (fun hHeld => ?_)
    · (exact CE.out _ (by first | exact B4.out | exact B3.out | exact B2.out | exact B1.out | exact B0.out | exact HB.out))
    refine tkB (i := 0) ?_
    refine tkB (i := 1) ?_
    refine tkB (i := 2) ?_
    refine tkB (i := 3) ?_
    refine tkB (i := 4) ?_
    refine tkB (i := 5) ?_
    refine tkB (i := 7) ?_
    refine tkB (i := 8) ?_
    refine tkB (i := 9) ?_
    refine tkB (i := 10) ?_
    refine tkB (i := 11) ?_
    refine tkR (i := 6) (fun K hK => ?_)
    go_simp
    refine hK.out _ _ ?_ (fun hHeld => ?_)
    · (exact CE.out _ (by first | exact B4.out | exact B3.out | exact B2.out | exact B1.out | exact B0.out | exact HB.out))
    clear hK K
    try simp only [Act.put, tkS]
    refine tkR (i := 12) (fun K hK => ?_)
    refine step_appIs rfl (.tmp 18) (.tmp 23) 52 rfl _ _ (by rfl) (by rfl) _ _ RUN1.out ?_
    refine hK.out _ _ ?_ (fun hHeld => ?_)
    · (exact CE.out _ (by first | exact B4.out | exact B3.out | exact B2.out | exact B1.out | exact B0.out | exact HB.out))
    clear hK K
    try simp only [Act.put, tkS]
    refine tkB (i := 13) ?_
    refine tkR (i := 14) (fun K hK => ?_)
    go_simp
    refine hK.out _ _ ?_ (fun hHeld => ?_)
    · (exact CE.out _ (by first | exact B4.out | exact B3.out | exact B2.out | exact B1.out | exact B0.out | exact HB.out))
    clear hK K
    try simp only [Act.put, tkS]
    refine tkR (i := 15) (fun K hK => ?_)
    refine step_appIs rfl (.tmp 12) (.tmp 26) 23 rfl _ _ (by rfl) (by rfl) _ _ RUN4.out ?_
    refine hK.out _ _ ?_ (fun hHeld => ?_)
    · (exact CE.out _ (by first | exact B4.out | exact B3.out | exact B2.out | exact B1.out | exact B0.out | exact HB.out))
    clear hK K
    try simp only [Act.put, tkS]
    refine tkB (i := 16) ?_
    refine wpAnyH_done (by kernel_rfl) ?_ _
    go_wp2_with fail
    go_roundw
    case rel => exact ⟨k + 1, _, by omega, by go_num, B4.out, HN.out, HT4.out.1, HT4.out.2⟩
    case measure => simp [intOf]; omega
end Go.Proofs.Ythpenliecgpedaa
