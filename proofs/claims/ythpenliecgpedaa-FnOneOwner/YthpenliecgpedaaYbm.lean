import Derived.Test.YthpenliecgpedaaYbl
namespace Go.Proofs.Ythpenliecgpedaa
open Go.RowKit Go.MuLone
set_option linter.unusedSimpArgs false
theorem rem_at {α : Type} {q : List α} {p : Nat} (hp : p < q.length) {i : Nat} (hi : i < (q.take p ++ q.drop (p + 1)).length) : ∃ j, ∃ hj : j < q.length, (q.take p ++ q.drop (p + 1))[i] = q[j] ∧ ((i < p ∧ j = i) ∨ (p ≤ i ∧ j = i + 1)) := by
  have hl : (q.take p ++ q.drop (p + 1)).length = q.length - 1 := by rw [List.length_append, List.length_take, List.length_drop]; omega
  by_cases h : i < p
  · refine ⟨i, by omega, ?_, .inl ⟨h, rfl⟩⟩
    rw [List.getElem_append_left (by simp; omega), List.getElem_take]
  · refine ⟨i + 1, by omega, ?_, .inr ⟨by omega, rfl⟩⟩
    rw [List.getElem_append_right (by simp; omega), List.getElem_drop]
    congr 1
    simp
    omega
theorem QuP.del {q : List Int} {n : Int} (h : QuP q) (hn : fq q n < q.length) (h0 : (delQ q n).length ≠ 0) : QuP (delQ q n) := by
  have hl : (delQ q n).length ≤ q.length := delQ_len q n
  have h3 := h.len
  refine ⟨⟨by omega, by omega⟩, fun m hm => ?_, fun m hm j hj => ?_⟩
  · obtain ⟨i, hi, e, -⟩ := rem_at hn hm
    show sesB ((q.take (fq q n) ++ q.drop (fq q n + 1))[m]) = true
    rw [e]; exact h.ses i hi
  · obtain ⟨i, hi, e, k1⟩ := rem_at hn hm
    obtain ⟨i2, hi2, e2, k2⟩ := rem_at hn (i := j) (by show j < (delQ q n).length; omega)
    exact fun heq => h.once i hi i2 (by omega) (e2.symm.trans (heq.trans e))
theorem LksP.leave {l : List LkV} (h : LksP l) (n : Int) (s : List UInt8) : LksP (leaveL l n s) := by
  by_cases hin : lvIn l n s = true
  case neg => rw [(leave_no (by simpa using hin)).1]; exact h
  rw [(leave_in hin).1]
  have hk : fk l s < l.length := by
    unfold lvIn at hin
    rw [Bool.and_eq_true] at hin
    exact of_decide_eq_true hin.1
  have hX : lvX l s = l[fk l s] := atL_at hk
  have hfq : fq l[fk l s].qu n < l[fk l s].qu.length := by
    unfold lvIn at hin
    rw [Bool.and_eq_true, hX, fq_in] at hin
    exact of_decide_eq_true hin.2
  split
  · have hl : (l.take (fk l s) ++ l.drop (fk l s + 1)).length = l.length - 1 := by rw [List.length_append, List.length_take, List.length_drop]; omega
    refine ⟨by have := h.len; omega, fun k hk2 => ?_, fun k hk2 => ?_, fun i hi => ?_⟩
    · obtain ⟨j, hj, e, -⟩ := rem_at hk hk2
      rw [e]; exact h.nam j hj
    · obtain ⟨j, hj, e, -⟩ := rem_at hk hk2
      rw [e]; exact h.que j hj
    · obtain ⟨j, hj, e, k1⟩ := rem_at hk (i := i) (by omega)
      obtain ⟨j2, hj2, e2, k2⟩ := rem_at hk hi
      rw [e, e2]
      exact upL_lt h.up j j2 hj hj2 (by omega)
  · rename_i h0
    have hQ : QuP (lvQ l n s) := by
      unfold lvQ at h0 ⊢
      rw [hX] at h0 ⊢
      exact (h.que _ hk).del hfq h0
    have hat : ∀ k (hk2 : k < (l.set (fk l s) ⟨(lvX l s).nm, lvQ l n s⟩).length), (l.set (fk l s) ⟨(lvX l s).nm, lvQ l n s⟩)[k].nm = (l[k]'(by rw [List.length_set] at hk2; exact hk2)).nm ∧ ((l.set (fk l s) ⟨(lvX l s).nm, lvQ l n s⟩)[k].qu = lvQ l n s ∨ (l.set (fk l s) ⟨(lvX l s).nm, lvQ l n s⟩)[k].qu = (l[k]'(by rw [List.length_set] at hk2; exact hk2)).qu) := fun k hk2 => by
      by_cases e : fk l s = k
      · subst e
        rw [List.getElem_set_self]
        exact ⟨by show (lvX l s).nm = _; exact congrArg LkV.nm hX, .inl rfl⟩
      · rw [List.getElem_set_ne e]
        exact ⟨rfl, .inr rfl⟩
    refine ⟨by rw [List.length_set]; exact h.len, fun k hk2 => ?_, fun k hk2 => ?_, fun i hi => ?_⟩
    · rw [(hat k hk2).1]; exact h.nam k (by rw [List.length_set] at hk2; exact hk2)
    · rcases (hat k hk2).2 with e | e
      · rw [e]; exact hQ
      · rw [e]; exact h.que k (by rw [List.length_set] at hk2; exact hk2)
    · rw [(hat i (by omega)).1, (hat (i + 1) hi).1]
      exact h.up i (by rw [List.length_set] at hi; exact hi)
def laP (n : Int) (P : List LkV × List ToV) (s : List UInt8) : List LkV × List ToV := (leaveL P.1 n s, P.2 ++ leaveT P.1 n s)
def laK (l : List LkV) (n : Int) (k : Nat) : List LkV × List ToV := ((l.take k).map (·.nm)).foldl (laP n) (l, [])
theorem laK_succ {l : List LkV} {n : Int} {k : Nat} (hk : k < l.length) : laK l n (k + 1) = (leaveL (laK l n k).1 n l[k].nm, (laK l n k).2 ++ leaveT (laK l n k).1 n l[k].nm) := by
  unfold laK
  rw [List.take_succ_eq_append_getElem hk, List.map_append, List.foldl_append]
  rfl
theorem laK_ok {l : List LkV} (h : LksP l) (n : Int) : ∀ k, k ≤ l.length → LksP (laK l n k).1 ∧ (laK l n k).2.length ≤ k
  | 0, _ => ⟨h, by simp [laK]⟩
  | k + 1, hk => by
    obtain ⟨h1, h2⟩ := laK_ok h n k (by omega)
    rw [laK_succ (by omega)]
    refine ⟨h1.leave n _, ?_⟩
    have h3 : (leaveT (laK l n k).1 n l[k].nm).length ≤ 1 := by
      unfold leaveT
      split
      · split
        · exact Nat.le_refl _
        · simp
      · simp
    show ((laK l n k).2 ++ leaveT (laK l n k).1 n l[k].nm).length ≤ k + 1
    rw [List.length_append]; omega
def tcsL (T : List ToV) : List Value := T.flatMap tcs
theorem tcsL_len : ∀ T : List ToV, (tcsL T).length = T.length * 3
  | [] => rfl
  | x :: T => by
    show (tcs x ++ tcsL T).length = _
    rw [List.length_append, tcsL_len T, List.length_cons]
    show 3 + _ = _
    omega
theorem tcsL_app (a b : List ToV) : tcsL (a ++ b) = tcsL a ++ tcsL b := by unfold tcsL; rw [List.flatMap_append]
theorem tcsL_at : ∀ (T : List ToV) (k : Nat) (h : k < T.length), (tcsL T)[k * 3]? = some (.int .i64 T[k].se) ∧ (tcsL T)[k * 3 + 1]? = some (.string ⟨T[k].wd.toArray⟩) ∧ (tcsL T)[k * 3 + 2]? = some (.string ⟨T[k].tn.toArray⟩)
  | [], k, h => absurd h (by simp)
  | x :: T, 0, _ => ⟨rfl, rfl, rfl⟩
  | x :: T, k + 1, h => by
    have h1 := tcsL_at T k (by simpa using h)
    have e : ∀ j, (tcsL (x :: T))[(k + 1) * 3 + j]? = (tcsL T)[k * 3 + j]? := fun j => by
      show (tcs x ++ tcsL T)[(k + 1) * 3 + j]? = _
      have hx : (tcs x).length = 3 := rfl
      rw [List.getElem?_append_right (by rw [hx]; omega), hx]
      congr 1
      omega
    exact ⟨(e 0).trans h1.1, (e 1).trans h1.2.1, (e 2).trans h1.2.2⟩
def TdG (base : Nat) (W : World) (T : List ToV) (v : Value) : Prop := W.ownsRow base 57 3 v T.length (tcsL T)
theorem TdG.nil (base : Nat) (W : World) : TdG base W [] (.slice none 0 0) := ⟨rfl, .inl ⟨rfl, rfl⟩⟩
theorem TdG.start {base : Nat} {W : World} {g : Nat} (hg : base ≤ g) (hh : W.heap[g]? = some (.cells #[] 57)) : TdG base W [] (.slice (some ⟨g, 0, none⟩) 0 0) :=
  ⟨rfl, .inr ⟨g, 0, #[], rfl, hg, hh, Nat.le_refl _, by unfold maxLen; omega, rfl, rfl⟩⟩
theorem TdG.shape {base : Nat} {W : World} {T : List ToV} {v : Value} (h : TdG base W T v) : ∃ a c, v = .slice a T.length c := by
  rcases h.2 with ⟨rfl, h0⟩ | ⟨g, cap, cur, rfl, -⟩
  · exact ⟨none, 0, by rw [h0]⟩
  · exact ⟨_, _, rfl⟩
theorem TdG.low {base : Nat} {W : World} {T : List ToV} {v : Value} (h : TdG base W T v) {g : Nat} (hg : v.ownBlock = some g) : base ≤ g ∧ g < W.heap.size := by
  rcases h.2 with ⟨rfl, -⟩ | ⟨g2, cap, cur, rfl, hb, hh, -⟩
  · cases hg
  · simp only [Value.ownBlock, Option.some.injEq] at hg
    subst hg
    exact ⟨hb, (Array.getElem?_eq_some_iff.1 hh).1⟩
theorem TdG.same {base : Nat} {W W' : World} {T : List ToV} {v : Value} (h : TdG base W T v) (hB : ∀ g, v.ownBlock = some g → W'.heap[g]? = W.heap[g]?) : TdG base W' T v := ownsRow_same h hB
theorem TdG.own {base : Nat} {W : World} {T : List ToV} {v : Value} (h : TdG base W T v) : Own W (dToldS T) (fun b => v.ownBlock = some b) v := by
  rcases h.2 with ⟨rfl, h0⟩ | ⟨g, cap, cur, rfl, hg, hh, r1, r2, r3, r4⟩
  · exact ⟨none, 0, by rw [h0], by omega, .inl h0⟩
  refine ⟨_, _, rfl, r1, ?_⟩
  by_cases h0 : T.length = 0
  · exact .inl h0
  refine .inr ⟨g, 0, fun _ _ _ => False, rfl, rfl, by omega, fun _ _ _ h => h.elim, fun _ _ _ _ _ h => h.elim, fun i j hi hj => ?_⟩
  have key : ∀ m u, m < T.length * 3 → (tcsL T)[m]? = some u → W.cell? ⟨g, 0 + m, none⟩ = some u ∧ W.frozen? ⟨g, 0 + m, none⟩ = false := fun m u hm hu => by
    rw [← r4, List.getElem?_take_of_lt hm, Array.getElem?_toList] at hu
    rw [Nat.zero_add]
    exact ⟨by simp [World.cell?, hh, hu], by simp [World.frozen?, hh]⟩
  obtain ⟨t0, t1, t2⟩ := tcsL_at T i hi
  rw [lsF_at hi]
  rcases (by omega : j = 0 ∨ j = 1 ∨ j = 2) with rfl | rfl | rfl
  · obtain ⟨k1, k2⟩ := key _ _ (by omega) t0; exact ⟨_, k1, k2, rfl⟩
  · obtain ⟨k1, k2⟩ := key _ _ (by omega) t1; exact ⟨_, by rw [Nat.add_assoc]; exact k1, by rw [Nat.add_assoc]; exact k2, rfl⟩
  · obtain ⟨k1, k2⟩ := key _ _ (by omega) t2; exact ⟨_, by rw [Nat.add_assoc]; exact k1, by rw [Nat.add_assoc]; exact k2, rfl⟩
set_option maxRecDepth 100000 in
theorem TdG.app {base : Nat} {V : World} {T : List ToV} {v : Value} (h : TdG base V T v) (M : List ToV) {B : Nat → Prop} {a : Option Addr} {c : Nat} (hM : Rd V B (dToldS M) (.slice a M.length c)) (hb : base ≤ V.heap.size) (hl : T.length + M.length ≤ 1000) :
    ∃ a' c' W', (Builtin.append_ #[29, 29] 29 #[v, .slice a M.length c]).run Try.prog V = .ok (.slice a' (T.length + M.length) c') W' ∧ TdG base W' (T ++ M) (.slice a' (T.length + M.length) c') ∧ Frm (fun b => v.ownBlock = some b) V W' ∧ ∀ b, Value.ownBlock (.slice a' (T.length + M.length) c') = some b → v.ownBlock = some b ∨ V.heap.size ≤ b := by
  obtain ⟨i, hi, hz, hs, hby⟩ := infoTo
  rcases a with _ | p
  · have h0 : M = [] := by
      rcases M with _ | ⟨x, M⟩
      · rfl
      · obtain ⟨b, off, e, -⟩ := Rd.things hM 0 (by simp)
        cases e
    subst h0
    obtain ⟨av, cv, rfl⟩ := h.shape
    refine ⟨av, cv, V, ?_, ?_, Frm.refl _ _, fun b hb' => .inl hb'⟩
    · rw [List.length_nil, Nat.add_zero]
      have hc : c = 0 ∨ c ≠ 0 := by omega
      exact run_append_owned_none (P := Try.prog) V base 29 29 57 i 3 Try.underlying29 hi _ T.length _ h
    · rw [List.append_nil, List.length_nil, Nat.add_zero]; exact h
  obtain ⟨v', W', hr, hrow, hg, hgg⟩ := run_append_own4 (P := Try.prog) V base 29 29 57 i _ 3 40 Try.underlying29 hi hz hs hby rfl (by omega) v T.length _ h p M.length c (tcsL M) (tcsL_len M) (fun j u hj => by
      have hlt : j < M.length * 3 := by rw [← tcsL_len]; exact (List.getElem?_eq_some_iff.1 hj).1
      obtain ⟨k, r, rfl, hr3⟩ : ∃ k r, j = k * 3 + r ∧ r < 3 := ⟨j / 3, j % 3, by omega, by omega⟩
      have hk : k < M.length := by omega
      obtain ⟨t0, t1, t2⟩ := tcsL_at M k hk
      obtain ⟨b, off, e, -, hc⟩ := Rd.things hM k hk
      obtain rfl : p = ⟨b, off, none⟩ := by cases e; rfl
      rw [Addr.add_mid, ← Nat.add_assoc]
      rcases (by omega : r = 0 ∨ r = 1 ∨ r = 2) with rfl | rfl | rfl
      · obtain ⟨x, cx, rx⟩ := hc 0 (by omega)
        obtain rfl : x = .int .i64 M[k].se := rx
        rw [Nat.add_zero] at hj
        rw [t0] at hj
        cases hj
        exact cx
      · obtain ⟨x, cx, rx⟩ := hc 1 (by omega)
        obtain rfl : x = .string ⟨M[k].wd.toArray⟩ := rx
        rw [t1] at hj
        cases hj
        exact cx
      · obtain ⟨x, cx, rx⟩ := hc 2 (by omega)
        obtain rfl : x = .string ⟨M[k].tn.toArray⟩ := rx
        rw [t2] at hj
        cases hj
        exact cx) (fun u hu => by
      unfold tcsL at hu
      obtain ⟨x, -, hu⟩ := List.mem_flatMap.1 hu
      simp only [tcs, List.mem_cons, List.not_mem_nil, or_false] at hu
      rcases hu with rfl | rfl | rfl <;> rfl) (by unfold maxLen; omega) (by omega) hb
  obtain ⟨a', c', rfl⟩ : ∃ a' c', v' = .slice a' (T.length + M.length) c' := by
    rcases hrow.2 with ⟨rfl, h0⟩ | ⟨g, cap, cur, rfl, -⟩
    · exact ⟨none, 0, by rw [h0]⟩
    · exact ⟨_, _, rfl⟩
  refine ⟨a', c', W', hr, ?_, ⟨hg.os, hg.tape, hg.output, hg.size, fun b hb' hn => hg.block b hb' (fun e => hn e.symm)⟩, hgg⟩
  unfold TdG
  rw [tcsL_app, List.length_append]
  exact hrow
end Go.Proofs.Ythpenliecgpedaa
