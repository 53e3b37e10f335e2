import Derived.Test.YthpenliecgpedaaZbl
import Derived.Test.YthpenliecgpedaaZbm
namespace Go.Proofs.Ythpenliecgpedaa
open Go.RowKit Go.MuLone
set_option linter.unusedSimpArgs false
def lockP : List UInt8 := [108, 111, 99, 107]
def otherP : List UInt8 := [111, 116, 104, 101, 114]
def thirdP : List UInt8 := [116, 104, 105, 114, 100]
def Thr (s : List UInt8) : Prop := s ∈ [lockP, otherP, thirdP]
theorem Thr.name {s : List UInt8} (h : Thr s) : nameB s = true := by
  unfold Thr at h
  simp only [List.mem_cons, List.not_mem_nil, or_false] at h
  rcases h with rfl | rfl | rfl <;> decide +kernel
theorem Thr.len {s : List UInt8} (h : Thr s) : s.length ≤ 5 := by
  unfold Thr at h
  simp only [List.mem_cons, List.not_mem_nil, or_false] at h
  rcases h with rfl | rfl | rfl <;> decide
def rkT (s : List UInt8) : Nat := if s = lockP then 0 else if s = otherP then 1 else 2
theorem rk_lt {s t : List UInt8} (h : Thr s) (h' : Thr t) (hb : Op.bytesLess s t = true) : rkT s < rkT t := by
  unfold Thr at h h'
  simp only [List.mem_cons, List.not_mem_nil, or_false] at h h'
  rcases h with rfl | rfl | rfl <;> rcases h' with rfl | rfl | rfl <;> revert hb <;> decide
theorem rk_le (s : List UInt8) : rkT s ≤ 2 := by unfold rkT; split <;> (try split) <;> omega
structure ThL (l : List LkV) : Prop where
  ok : LksP l
  th : ∀ x ∈ l, Thr x.nm
theorem ThL.len {l : List LkV} (h : ThL l) : l.length ≤ 3 := by
  have h1 : ∀ k (hk : k < l.length), k ≤ rkT l[k].nm := fun k => by
    induction k with
    | zero => intro _; omega
    | succ k ih =>
      intro hk
      have h2 := rk_lt (h.th _ (List.getElem_mem (by omega : k < l.length))) (h.th _ (List.getElem_mem hk)) (h.ok.up k hk)
      have := ih (by omega)
      omega
  by_cases h3 : 3 < l.length
  · have h4 := h1 3 h3
    have := rk_le l[3].nm
    omega
  · omega
theorem ThL.nil : ThL [] := ⟨⟨by simp, fun k h => absurd h (by simp), fun k h => absurd h (by simp), fun k h => absurd h (by simp)⟩, fun x hx => absurd hx (by simp)⟩
theorem que_two {q : List Int} (h1 : ∀ m (h : m < q.length), sesB q[m] = true) (h2 : ∀ m (h : m < q.length) j (hj : j < m), q[j] ≠ q[m]) {n : Int} (hn : sesB n = true) (hni : n ∉ q) : q.length ≤ 2 := by
  by_cases h3 : 2 < q.length
  · have a0 := ses_in (h1 0 (by omega)); have a1 := ses_in (h1 1 (by omega)); have a2 := ses_in (h1 2 h3)
    have b1 := h2 1 (by omega) 0 (by omega); have b2 := h2 2 h3 0 (by omega); have b3 := h2 2 h3 1 (by omega)
    have e0 : n ≠ q[0] := fun e => hni (e ▸ List.getElem_mem _)
    have e1 : n ≠ q[1] := fun e => hni (e ▸ List.getElem_mem _)
    have e2 : n ≠ q[2] := fun e => hni (e ▸ List.getElem_mem _)
    have hn := ses_in hn
    omega
  · omega
theorem QuP.snoc {q : List Int} (h1 : ∀ m (h : m < q.length), sesB q[m] = true) (h2 : ∀ m (h : m < q.length) j (hj : j < m), q[j] ≠ q[m]) {n : Int} (hn : sesB n = true) (hni : n ∉ q) : QuP (q ++ [n]) := by
  have hl := que_two h1 h2 hn hni
  refine ⟨by simp only [List.length_append, List.length_cons, List.length_nil]; omega, fun m hm => ?_, fun m hm j hj => ?_⟩
  · by_cases h : m < q.length
    · rw [List.getElem_append_left h]; exact h1 m h
    · rw [List.getElem_append_right (by omega)]
      simpa using hn
  · simp only [List.length_append, List.length_cons, List.length_nil] at hm
    have hjl : j < q.length := by omega
    rw [List.getElem_append_left hjl]
    by_cases h : m < q.length
    · rw [List.getElem_append_left h]; exact h2 m h j hj
    · rw [List.getElem_append_right (by omega)]
      intro e
      have e2 : q[j] = n := by simpa using e
      exact hni (e2 ▸ List.getElem_mem _)
theorem once_nodup {q : List Int} (h2 : ∀ m (h : m < q.length) j (hj : j < m), q[j] ≠ q[m]) : q.Nodup := by
  rw [List.nodup_iff_pairwise_ne] <;> skip
  rw [List.pairwise_iff_getElem]
  exact fun i j hi hj hij => h2 j hj i hij
theorem nodup_once {q : List Int} (h : q.Nodup) : ∀ m (h : m < q.length) j (hj : j < m), q[j] ≠ q[m] := fun m hm j hj =>
  List.pairwise_iff_getElem.1 h j m (by omega) hm hj
theorem QuP.top {q : List Int} (h1 : ∀ m (h : m < q.length), sesB q[m] = true) (h2 : ∀ m (h : m < q.length) j (hj : j < m), q[j] ≠ q[m]) {n : Int} (hn : sesB n = true) : QuP (n :: q.filter (fun x => x != n)) := by
  have hm : ∀ x ∈ q.filter (fun x => x != n), x ∈ q ∧ x ≠ n := fun x hx => by
    rw [List.mem_filter] at hx
    exact ⟨hx.1, by simpa using hx.2⟩
  have hni : n ∉ q.filter (fun x => x != n) := fun h => (hm n h).2 rfl
  have hs : ∀ m (h : m < (q.filter (fun x => x != n)).length), sesB (q.filter (fun x => x != n))[m] = true := fun m h => by
    obtain ⟨i, hi, e⟩ := List.getElem_of_mem (hm _ (List.getElem_mem h)).1
    rw [← e]; exact h1 i hi
  have hd : (q.filter (fun x => x != n)).Nodup := (once_nodup h2).filter _
  have hl := que_two hs (nodup_once hd) hn hni
  refine ⟨by simp only [List.length_cons]; omega, fun m hm2 => ?_, nodup_once (List.nodup_cons.2 ⟨hni, hd⟩)⟩
  rcases m with _ | m
  · exact hn
  · exact hs m (by simpa using hm2)
theorem bl_triP : ∀ x y : List UInt8, x ≠ y → Op.bytesLess x y = false → Op.bytesLess y x = true
  | [], [], h, _ => absurd rfl h
  | [], _ :: _, _, h => by simp [Op.bytesLess] at h
  | _ :: _, [], _, _ => by simp [Op.bytesLess]
  | a :: r, b :: s, hn, h => by
    simp only [Op.bytesLess, Bool.or_eq_false_iff, Bool.and_eq_false_iff, decide_eq_false_iff_not, Bool.or_eq_true, Bool.and_eq_true, decide_eq_true_eq, beq_iff_eq, beq_eq_false_iff_ne] at h ⊢
    by_cases e : a = b
    · subst e
      refine .inr ⟨rfl, bl_triP r s (fun e => hn (by rw [e])) ?_⟩
      rcases h.2 with h | h
      · exact absurd rfl h
      · exact h
    · left
      rcases Nat.lt_or_ge b.toNat a.toNat with h1 | h1
      · exact h1
      · have h2 : ¬ a.toNat < b.toNat := h.1
        exact absurd (UInt8.toNat_inj.1 (by omega)) e
theorem LksP.setQ {l : List LkV} (h : LksP l) {p : Nat} (hp : p < l.length) {s : List UInt8} (hs : l[p].nm = s) {q : List Int} (hq : QuP q) : LksP (l.set p ⟨s, q⟩) := by
  have hat : ∀ k (hk2 : k < (l.set p ⟨s, q⟩).length), (l.set p ⟨s, q⟩)[k].nm = (l[k]'(by rw [List.length_set] at hk2; exact hk2)).nm ∧ ((l.set p ⟨s, q⟩)[k].qu = q ∨ (l.set p ⟨s, q⟩)[k].qu = (l[k]'(by rw [List.length_set] at hk2; exact hk2)).qu) := fun k hk2 => by
    by_cases e : p = k
    · subst e
      rw [List.getElem_set_self]
      exact ⟨hs.symm, .inl rfl⟩
    · rw [List.getElem_set_ne e]
      exact ⟨rfl, .inr rfl⟩
  refine ⟨by rw [List.length_set]; exact h.len, fun k hk2 => ?_, fun k hk2 => ?_, fun i hi => ?_⟩
  · rw [(hat k hk2).1]; exact h.nam k (by rw [List.length_set] at hk2; exact hk2)
  · rcases (hat k hk2).2 with e | e
    · rw [e]; exact hq
    · rw [e]; exact h.que k (by rw [List.length_set] at hk2; exact hk2)
  · rw [(hat i (by omega)).1, (hat (i + 1) hi).1]
    exact h.up i (by rw [List.length_set] at hi; exact hi)
theorem insL_get {l : List LkV} {s : List UInt8} {q : List Int} {k : Nat} (hk : k < (insL l s q).length) : (k < pk l s ∧ ∃ h : k < l.length, (insL l s q)[k] = l[k]) ∨ (k = pk l s ∧ (insL l s q)[k] = ⟨s, q⟩) ∨ (pk l s < k ∧ ∃ h : k - 1 < l.length, (insL l s q)[k] = l[k - 1]) := by
  have hp := pk_le l s
  have hl : (l.take (pk l s)).length = pk l s := by rw [List.length_take]; omega
  rw [insL_len] at hk
  rcases Nat.lt_trichotomy k (pk l s) with h | h | h
  · refine .inl ⟨h, by omega, ?_⟩
    simp only [insL]
    rw [List.getElem_append_left (by simp; omega), List.getElem_append_left (by omega), List.getElem_take]
  · refine .inr (.inl ⟨h, ?_⟩)
    have h2 := insL_at l s q
    rw [atL_at (by rw [insL_len]; omega)] at h2
    subst h; exact h2
  · refine .inr (.inr ⟨h, by omega, ?_⟩)
    simp only [insL]
    rw [List.getElem_append_right (by simp; omega), List.getElem_drop]
    congr 1
    simp only [List.length_append, List.length_cons, List.length_nil, hl]
    omega
theorem LksP.ins {l : List LkV} (h : LksP l) {s : List UInt8} (hf : fk l s = l.length) (h6 : l.length < 6) (hs : nameB s = true) {q : List Int} (hq : QuP q) : LksP (insL l s q) := by
  have hne : ∀ m (hm : m < l.length), l[m].nm ≠ s := fun m hm => fk_lt (by omega)
  refine ⟨by rw [insL_len]; omega, fun k hk => ?_, fun k hk => ?_, fun i hi => ?_⟩
  · rcases insL_get hk with ⟨-, h2, e⟩ | ⟨-, e⟩ | ⟨-, h2, e⟩ <;> rw [e]
    · exact h.nam k h2
    · exact hs
    · exact h.nam (k - 1) h2
  · rcases insL_get hk with ⟨-, h2, e⟩ | ⟨-, e⟩ | ⟨-, h2, e⟩ <;> rw [e]
    · exact h.que k h2
    · exact hq
    · exact h.que (k - 1) h2
  · rw [insL_len] at hi
    rcases insL_get (l := l) (s := s) (q := q) (k := i) (by rw [insL_len]; omega) with ⟨a1, h1, e1⟩ | ⟨a1, e1⟩ | ⟨a1, h1, e1⟩ <;> rcases insL_get (l := l) (s := s) (q := q) (k := i + 1) (by rw [insL_len]; omega) with ⟨a2, h2, e2⟩ | ⟨a2, e2⟩ | ⟨a2, h2, e2⟩ <;> rw [e1, e2] <;> (try omega)
    · exact h.up i h2
    · exact pk_lt a1
    · refine bl_triP _ _ (hne _ h2) ?_
      have e3 : i + 1 - 1 = pk l s := by omega
      have h4 := pk_at (l := l) (s := s) (by omega)
      simp only [e3]; exact h4
    · have h3 := h.up (i - 1) (by omega)
      simp only [show i - 1 + 1 = i by omega] at h3
      simp only [show i + 1 - 1 = i by omega]
      exact h3
theorem LksP.take {l : List LkV} (h : LksP l) {n : Int} {s : List UInt8} (hn : sesB n = true) (hs : nameB s = true) : LksP (takeL l n s) := by
  by_cases hf : fk l s < l.length
  · obtain ⟨b1, b2, b3⟩ := room_there rfl hf
    have hX : tkX l s = l[fk l s] := by unfold tkX; rw [b2, b3]; exact atL_at hf
    by_cases hi : tkIn l n s = true
    · rw [(take_in b1 hi).1, b2]; exact h
    · have hi : tkIn l n s = false := by simpa using hi
      rw [(take_ok b1 hi).1, b2, b3, hX]
      have hq := h.que _ hf
      refine h.setQ hf rfl (QuP.snoc hq.ses hq.once hn (fun hm => ?_))
      obtain ⟨m, hm2, e⟩ := List.getElem_of_mem hm
      unfold tkIn at hi
      rw [hX] at hi
      exact inK_not hi hm2 hm2 e
  · have hf : fk l s = l.length := by have := fk_le l s; omega
    by_cases h6 : l.length = 6
    · rw [(take_noroom hf h6).1]; exact h
    · have := h.len
      rw [(take_new hf (by omega)).1]
      exact h.ins hf (by omega) hs ⟨by simp, fun m hm => by have : m = 0 := (by simpa using hm); subst this; exact hn, fun m hm j hj => by have : m = 0 := (by simpa using hm); omega⟩
theorem steal_new {l : List LkV} {n : Int} {s : List UInt8} (hf : fk l s = l.length) (h6 : l.length < 6) : stealL l n s = insL l s [n] ∧ stealT l n s = [] ∧ stealC l n s = 0 := by
  have hb : roomB l s = true := by unfold roomB; rw [if_neg (by omega), if_neg (by omega)]
  have hL : roomL l s = insL l s [] := by unfold roomL; rw [if_neg (by omega), if_neg (by omega)]
  have hK : roomK l s = pk l s := by unfold roomK; rw [if_neg (by omega), if_neg (by omega)]
  have hX : tkX l s = ⟨s, []⟩ := by unfold tkX; rw [hL, hK]; exact insL_at l s []
  obtain ⟨t1, t2, t3⟩ := steal_ok (n := n) hb
  rw [t1, t2, t3, hL, hK, hX]
  refine ⟨?_, by simp, rfl⟩
  have e : stQ l n s = [n] := by unfold stQ; rw [hX]; rfl
  rw [e]
  exact insL_set l s [] _
theorem steal_there {l : List LkV} {n : Int} {s : List UInt8} (hf : fk l s < l.length) : stealL l n s = l.set (fk l s) ⟨s, n :: l[fk l s].qu.filter (fun x => x != n)⟩ ∧ stealC l n s = 0 := by
  obtain ⟨b1, b2, b3⟩ := room_there rfl hf
  have hX : tkX l s = l[fk l s] := by unfold tkX; rw [b2, b3]; exact atL_at hf
  have hst : stQ l n s = n :: l[fk l s].qu.filter (fun x => x != n) := by unfold stQ; rw [hX]
  obtain ⟨t1, t2, t3⟩ := steal_ok (n := n) b1
  rw [t1, t3, b2, b3, hX, hst, fk_at hf]
  exact ⟨rfl, rfl⟩
theorem LksP.steal {l : List LkV} (h : LksP l) {n : Int} {s : List UInt8} (hn : sesB n = true) (hs : nameB s = true) : LksP (stealL l n s) := by
  by_cases hf : fk l s < l.length
  · rw [(steal_there hf).1]
    have hq := h.que _ hf
    exact h.setQ hf (fk_at hf) (QuP.top hq.ses hq.once hn)
  · have hf : fk l s = l.length := by have := fk_le l s; omega
    by_cases h6 : l.length = 6
    · have hb : roomB l s = false := by unfold roomB; rw [if_neg (by omega), if_pos h6]
      have hL : roomL l s = l := by unfold roomL; rw [if_neg (by omega), if_pos h6]
      rw [(steal_no (n := n) hb).1, hL]; exact h
    · have := h.len
      rw [(steal_new hf (by omega)).1]
      exact h.ins hf (by omega) hs ⟨by simp, fun m hm => by have : m = 0 := (by simpa using hm); subst this; exact hn, fun m hm j hj => by have : m = 0 := (by simpa using hm); omega⟩
theorem set_mem {l : List LkV} {p : Nat} {x y : LkV} (h : y ∈ l.set p x) : y ∈ l ∨ y = x := List.mem_or_eq_of_mem_set h
theorem roomL_mem {l : List LkV} {s : List UInt8} {x : LkV} (h : x ∈ roomL l s) : x ∈ l ∨ x.nm = s := by
  unfold roomL at h
  split at h
  · exact .inl h
  · split at h
    · exact .inl h
    · rcases insL_mem h with h | rfl
      · exact .inl h
      · exact .inr rfl
theorem tkX_nm {l : List LkV} {s : List UInt8} (hb : roomB l s = true) : (tkX l s).nm = s := by
  by_cases hf : fk l s < l.length
  · obtain ⟨b1, b2, b3⟩ := room_there rfl hf
    have hX : tkX l s = l[fk l s] := by unfold tkX; rw [b2, b3]; exact atL_at hf
    rw [hX]; exact fk_at hf
  · have h6 : l.length ≠ 6 := fun e => by unfold roomB at hb; rw [if_neg hf, if_pos e] at hb; cases hb
    have hL : roomL l s = insL l s [] := by unfold roomL; rw [if_neg hf, if_neg h6]
    have hK : roomK l s = pk l s := by unfold roomK; rw [if_neg hf, if_neg h6]
    unfold tkX
    rw [hL, hK, insL_at]
theorem take_nm {l : List LkV} {n : Int} {s : List UInt8} {x : LkV} (h : x ∈ takeL l n s) : x.nm = s ∨ x ∈ l := by
  unfold takeL at h
  split at h
  · rename_i hb
    split at h
    · exact (roomL_mem h).symm
    · rcases set_mem h with h | rfl
      · exact (roomL_mem h).symm
      · exact .inl (tkX_nm hb)
  · exact (roomL_mem h).symm
theorem steal_nm {l : List LkV} {n : Int} {s : List UInt8} {x : LkV} (h : x ∈ stealL l n s) : x.nm = s ∨ x ∈ l := by
  unfold stealL at h
  split at h
  · rename_i hb
    rcases set_mem h with h | rfl
    · exact (roomL_mem h).symm
    · exact .inl (tkX_nm hb)
  · exact (roomL_mem h).symm
theorem once_del {q : List Int} {n : Int} (h : QuP q) (hn : fq q n < q.length) : n ∉ delQ q n := by
  rw [← delQ_filter h hn, List.mem_filter]
  simp
theorem leave_mem {l : List LkV} (hp : LksP l) {n : Int} {s : List UInt8} {x : LkV} (h : x ∈ leaveL l n s) : (x ∈ l ∧ x.nm ≠ s) ∨ (x.nm = s ∧ n ∉ x.qu ∧ fk l s < l.length) := by
  have huniq : ∀ i j (hi : i < l.length) (hj : j < l.length), l[i].nm = l[j].nm → i = j := fun i j hi hj e => by
    rcases Nat.lt_trichotomy i j with h1 | h1 | h1
    · have h2 := upL_lt hp.up i j hi hj h1; rw [e, bl_self] at h2; cases h2
    · exact h1
    · have h2 := upL_lt hp.up j i hj hi h1; rw [e, bl_self] at h2; cases h2
  by_cases hin : lvIn l n s = true
  case neg =>
    have hin : lvIn l n s = false := by simpa using hin
    rw [(leave_no hin).1] at h
    by_cases e : x.nm = s
    · obtain ⟨k, hk, rfl⟩ := List.getElem_of_mem h
      have hf : fk l s < l.length := by
        by_cases hf : fk l s < l.length
        · exact hf
        · exact absurd e (fk_lt (by omega))
      have ek : fk l s = k := huniq _ _ hf hk (by rw [fk_at hf, e])
      subst ek
      refine .inr ⟨e, fun hm => ?_, hf⟩
      unfold lvIn at hin
      rw [decide_eq_true hf, Bool.true_and, show lvX l s = l[fk l s] from atL_at hf] at hin
      obtain ⟨m, hm2, e2⟩ := List.getElem_of_mem hm
      exact inK_not hin hm2 hm2 e2
    · exact .inl ⟨h, e⟩
  have hk : fk l s < l.length := by
    unfold lvIn at hin
    rw [Bool.and_eq_true] at hin
    exact of_decide_eq_true hin.1
  have hX : lvX l s = l[fk l s] := atL_at hk
  have hfq : fq l[fk l s].qu n < l[fk l s].qu.length := by
    unfold lvIn at hin
    rw [Bool.and_eq_true, hX, fq_in] at hin
    exact of_decide_eq_true hin.2
  rw [(leave_in hin).1] at h
  split at h
  · obtain ⟨i, hi, rfl⟩ := List.getElem_of_mem h
    obtain ⟨j, hj, e, k1⟩ := rem_at hk hi
    rw [e]
    refine .inl ⟨List.getElem_mem hj, fun e2 => ?_⟩
    have := huniq _ _ hj hk (by rw [e2, fk_at hk])
    omega
  · obtain ⟨i, hi, rfl⟩ := List.getElem_of_mem h
    rw [List.length_set] at hi
    by_cases e : fk l s = i
    · subst e
      rw [List.getElem_set_self]
      refine .inr ⟨by rw [hX]; exact fk_at hk, ?_, hk⟩
      show n ∉ lvQ l n s
      unfold lvQ
      rw [hX]
      exact once_del (hp.que _ hk) hfq
    · rw [List.getElem_set_ne e]
      refine .inl ⟨List.getElem_mem hi, fun e2 => e (huniq _ _ hk hi (by rw [e2, fk_at hk]))⟩
theorem leave_nm {l : List LkV} (hp : LksP l) {n : Int} {s : List UInt8} {x : LkV} (h : x ∈ leaveL l n s) : ∃ y ∈ l, y.nm = x.nm := by
  rcases leave_mem hp h with ⟨h1, -⟩ | ⟨h1, -, h2⟩
  · exact ⟨x, h1, rfl⟩
  · exact ⟨_, List.getElem_mem h2, by rw [fk_at h2, h1]⟩
theorem ThL.take {l : List LkV} (h : ThL l) {n : Int} {s : List UInt8} (hn : sesB n = true) (hs : Thr s) : ThL (takeL l n s) :=
  ⟨h.ok.take hn hs.name, fun x hx => (take_nm hx).elim (fun e => e ▸ hs) (h.th x)⟩
theorem ThL.steal {l : List LkV} (h : ThL l) {n : Int} {s : List UInt8} (hn : sesB n = true) (hs : Thr s) : ThL (stealL l n s) :=
  ⟨h.ok.steal hn hs.name, fun x hx => (steal_nm hx).elim (fun e => e ▸ hs) (h.th x)⟩
theorem ThL.leave {l : List LkV} (h : ThL l) (n : Int) (s : List UInt8) : ThL (leaveL l n s) :=
  ⟨h.ok.leave n s, fun x hx => by obtain ⟨y, hy, e⟩ := leave_nm h.ok hx; rw [← e]; exact h.th y hy⟩
theorem own_memP {l : List LkV} {n : Int} {x : LkV} (hx : x ∈ l) (h : x.qu.headD (-1) = n) : x.nm ∈ ownN l n := by
  induction l with
  | nil => simp at hx
  | cons y l ih =>
    unfold ownN
    rcases List.mem_cons.1 hx with rfl | hx
    · rw [if_pos h]; exact List.mem_cons_self ..
    · split
      · exact List.mem_cons_of_mem _ (ih hx)
      · exact ih hx
theorem own_of {l : List LkV} {n : Int} {s : List UInt8} (h : s ∈ ownN l n) : ∃ x ∈ l, x.nm = s ∧ x.qu.headD (-1) = n := by
  induction l with
  | nil => simp [ownN] at h
  | cons y l ih =>
    unfold ownN at h
    split at h
    · rename_i e
      rcases List.mem_cons.1 h with rfl | h
      · exact ⟨y, List.mem_cons_self .., rfl, e⟩
      · obtain ⟨x, hx, h2⟩ := ih h; exact ⟨x, List.mem_cons_of_mem _ hx, h2⟩
    · obtain ⟨x, hx, h2⟩ := ih h; exact ⟨x, List.mem_cons_of_mem _ hx, h2⟩
theorem steal_ownP {l : List LkV} {n : Int} {s : List UInt8} (hr : roomB l s = true) : s ∈ ownN (stealL l n s) n := by
  have h1 := (steal_ok (n := n) hr).1
  have hk := room_in hr
  have hm : (⟨(tkX l s).nm, stQ l n s⟩ : LkV) ∈ stealL l n s := by
    rw [h1]
    exact List.mem_iff_getElem.2 ⟨roomK l s, by rw [List.length_set]; exact hk, List.getElem_set_self ..⟩
  have h2 := own_memP (n := n) hm rfl
  have h3 := tkX_nm hr
  rw [show (⟨(tkX l s).nm, stQ l n s⟩ : LkV).nm = s from h3] at h2
  exact h2
theorem leave_ownP {l : List LkV} (hp : LksP l) {n : Int} {s : List UInt8} (hn : sesB n = true) : s ∉ ownN (leaveL l n s) n := fun h => by
  obtain ⟨x, hx, e, h2⟩ := own_of h
  rcases leave_mem hp hx with ⟨-, h3⟩ | ⟨-, h3, -⟩
  · exact h3 e
  · cases hq : x.qu with
    | nil => rw [hq] at h2; have := ses_in hn; simp at h2; omega
    | cons a q => rw [hq] at h2 h3; exact h3 (by rw [← h2]; simp)
theorem leave_ok {l : List LkV} {n : Int} {s : List UInt8} (hp : LksP l) (h : s ∈ ownN l n) : leaveC l n s = 0 := by
  obtain ⟨x, hx, e, h2⟩ := own_of h
  obtain ⟨k, hk, rfl⟩ := List.getElem_of_mem hx
  have hf : fk l s < l.length := by
    by_cases hf : fk l s < l.length
    · exact hf
    · exact absurd e (fk_lt (by omega))
  have ek : fk l s = k := by
    rcases Nat.lt_trichotomy (fk l s) k with h1 | h1 | h1
    · have h2 := upL_lt hp.up _ k hf hk h1; rw [e, fk_at hf, bl_self] at h2; cases h2
    · exact h1
    · exact absurd e (fk_lt h1)
  subst ek
  have h0 : 0 < l[fk l s].qu.length := by have := (hp.que _ hf).len; omega
  have hin : lvIn l n s = true := by
    unfold lvIn
    rw [decide_eq_true hf, Bool.true_and, show lvX l s = l[fk l s] from atL_at hf]
    exact inK_yes h0 h0 (by rw [← head_at h0]; exact h2)
  exact (leave_in hin).2.2
end Go.Proofs.Ythpenliecgpedaa
