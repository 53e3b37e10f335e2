import Derived.Test.YthpenliecgpedaaZba
namespace Go.Proofs.Ythpenliecgpedaa
open Go.RowKit Go.MuLone
set_option linter.unusedSimpArgs false
def fq (q : List Int) (n : Int) : Nat := q.findIdx (fun x => x == n)
def fqI (q : List Int) (n : Int) : Int := if fq q n < q.length then (fq q n : Int) else -1
theorem fq_le (q : List Int) (n : Int) : fq q n ≤ q.length := List.findIdx_le_length
theorem fq_at {q : List Int} {n : Int} (h : fq q n < q.length) : q[fq q n] = n := by
  have h' : List.findIdx (fun x : Int => x == n) q < q.length := h
  exact eq_of_beq (List.findIdx_getElem (p := fun x : Int => x == n) (w := h'))
theorem fq_lt {q : List Int} {n : Int} {m : Nat} (h : m < fq q n) : (q[m]'(Nat.lt_of_lt_of_le h (fq_le q n))) ≠ n := by
  have := List.not_of_lt_findIdx h
  simpa using this
theorem fq_eq {q : List Int} {n : Int} {k : Nat} (hk : k < q.length) (h : q[k] = n) (hn : ∀ m (hm : m < q.length), m < k → q[m] ≠ n) : fq q n = k := by
  rcases Nat.lt_trichotomy (fq q n) k with h1 | h1 | h1
  · exact absurd (fq_at (by omega)) (hn _ (by omega) h1)
  · exact h1
  · exact absurd h (fq_lt h1)
theorem fq_none {q : List Int} {n : Int} (hn : ∀ m (hm : m < q.length), q[m] ≠ n) : fq q n = q.length := by
  have h1 := fq_le q n
  by_cases h : fq q n < q.length
  · exact absurd (fq_at h) (hn _ h)
  · omega
theorem fq_in (q : List Int) (n : Int) : inK q q.length n = decide (fq q n < q.length) := by
  by_cases h : fq q n < q.length
  · rw [decide_eq_true h]; exact inK_yes h h (fq_at h)
  · rw [decide_eq_false h]
    refine inK_no (Nat.le_refl _) (fun m hm _ => ?_)
    exact fq_lt (by have := fq_le q n; omega)
set_option maxRecDepth 100000 in
set_option maxHeartbeats 3200000 in
theorem indexQ (q : List Int) (n : Int) (a : Option Addr) (c : Nat) (B : Nat → Prop) (w : World) (hl : q.length ≤ maxLen) (hS : Rd w B (dIntS q) (.slice a q.length c)) :
    Calls Try.prog 59 #[.slice a q.length c, .int .i64 n] w fun e w' => e = .returned (.int .i64 (fqI q n)) ∧ w' = w := by
  unfold maxLen at hl
  have HS : Hid (Rd w B (dIntS q) (.slice a q.length c)) := hS
  clear hS
  go_enter Try.func59, Try.ntmps59
  go_wp2_with fail
  go_loopw [8] (fun i wr => ∃ k : Nat, k ≤ q.length ∧ i = .int .i64 k ∧ Hid ((∀ m (h : m < q.length), m < k → q[m] ≠ n) ∧ wr = w)) (fun i _ => q.length - (intOf i).toNat)
  case atStart => exact ⟨0, Nat.zero_le _, rfl, fun m _ h => absurd h (by omega), rfl⟩
  case round =>
    obtain ⟨k, hk, rfl, HW⟩ := hrel
    obtain rfl := HW.out.2
    by_cases hlt : k < q.length
    case neg =>
      have hki : decide ((k : Int) < (q.length : Int)) = false := by simp; omega
      have HR : Hid (fqI q n = -1) := by
        show _ = _
        unfold fqI
        rw [fq_none (fun m h => HW.out.1 m h (by omega)), if_neg (by omega)]
      go_wp2_with fail
      go_ret
      exact ⟨ret_i HR.out.symm, rfl⟩
    have hki : (k : Int) < (q.length : Int) := by omega
    obtain ⟨b, off, rfl, -, hc⟩ := intAt HS.out hlt
    have c0 := hc k hlt _ (Below.refl _ _)
    clear hc
    cases he : (n == q[k])
    case true =>
      have HR : Hid (fqI q n = (k : Int)) := by
        have h1 := fq_eq hlt (by simpa using (eq_of_beq he).symm) (fun m h hm => HW.out.1 m h hm)
        show _ = _
        unfold fqI
        rw [h1, if_pos hlt]
      clear HW
      generalize q[k] = x at *
      go_wp2_with fail
      go_ret
      exact ⟨ret_i HR.out.symm, rfl⟩
    case false =>
      have HN : Hid (∀ m (h : m < q.length), m < k + 1 → q[m] ≠ n) := fun m h hm => by
        by_cases e : m = k
        · subst e; intro e2; rw [e2] at he; simp at he
        · exact HW.out.1 m h (by omega)
      clear HW
      generalize q[k] = x at *
      go_wp2_with fail
      go_roundw
      case rel => exact ⟨k + 1, by omega, by go_num, HN.out, by first | rfl | exact trivial⟩
      case measure => simp [intOf]; omega
theorem containsQ (q : List Int) (n : Int) (a : Option Addr) (c : Nat) (B : Nat → Prop) (w : World) (hl : q.length ≤ maxLen) (hS : Rd w B (dIntS q) (.slice a q.length c)) :
    Calls Try.prog 50 #[.slice a q.length c, .int .i64 n] w fun e w' => e = .returned (.bool (inK q q.length n)) ∧ w' = w := by
  have CI := Lib.hid (indexQ q n a c B w hl hS)
  have HF : Hid (inK q q.length n = decide (0 ≤ fqI q n)) := by
    show _ = _
    rw [fq_in]
    unfold fqI
    by_cases h : fq q n < q.length
    · rw [if_pos h, decide_eq_true h, decide_eq_true (by omega)]
    · rw [if_neg h, decide_eq_false h]; rfl
  rw [HF.out]
  clear hS HF
  generalize fqI q n = r at *
  go_enter Try.func50, Try.ntmps50
  go_wp2_with (go_at_call 59; refine CI.out.mono ?_; rintro e w1 ⟨rfl, rfl⟩)
  go_ret
  exact ⟨rfl, rfl⟩
def insE (es : List LE) (p : Nat) (e : LE) : List LE := es.take p ++ [e] ++ es.drop p
theorem insE_len {es : List LE} {p : Nat} (hp : p ≤ es.length) (e : LE) : (insE es p e).length = es.length + 1 := by
  unfold insE
  simp only [List.length_append, List.length_take, List.length_drop, List.length_cons, List.length_nil]
  omega
theorem insE_at {es : List LE} {p : Nat} (hp : p ≤ es.length) (e : LE) {i : Nat} (hi : i < (insE es p e).length) : (i = p ∧ (insE es p e)[i] = e) ∨ ∃ j, ∃ hj : j < es.length, (insE es p e)[i] = es[j] ∧ ((i < p ∧ j = i) ∨ (p < i ∧ j + 1 = i)) := by
  have hl := insE_len hp e
  unfold insE at *
  by_cases h : i < p
  · refine .inr ⟨i, by omega, ?_, .inl ⟨h, rfl⟩⟩
    rw [List.getElem_append_left (by simp; omega), List.getElem_append_left (by simp; omega), List.getElem_take]
  · by_cases h2 : i = p
    · refine .inl ⟨h2, ?_⟩
      rw [List.getElem_append_left (by simp; omega), List.getElem_append_right (by simp; omega)]
      simp
    · refine .inr ⟨i - 1, by omega, ?_, .inr ⟨by omega, by omega⟩⟩
      rw [List.getElem_append_right (by simp; omega), List.getElem_drop]
      congr 1
      simp
      omega
theorem lcs_ins (es : List LE) (p : Nat) (e : LE) : insCK (lcs es) p [.string ⟨e.x.nm.toArray⟩, e.u] = lcs (insE es p e) := by
  unfold insCK insE
  rw [lcs_app, lcs_app, lcs_take, lcs_drop]
  rfl
theorem LTab.ins {base : Nat} {V W' : World} {es : List LE} {g c p : Nat} {a' : Option Addr} {c' : Nat} (h : LTab base V es (.slice (some ⟨g, 0, none⟩) es.length c)) (hp : p ≤ es.length) (e : LE) (he : QOw base V e.x.qu e.u) (hne : ∀ y, e.u.ownBlock = some y → y ≠ g ∧ ∀ i (hi : i < es.length), es[i].u.ownBlock ≠ some y)
    (hO : W'.ownsRow base 54 2 (.slice a' (es.length + 1) c') (es.length + 1) (insCK (lcs es) p [.string ⟨e.x.nm.toArray⟩, e.u])) (hF : Frm (fun b => Value.ownBlock (.slice (some ⟨g, 0, none⟩) es.length c) = some b) V W') (hn : ∀ b, Value.ownBlock (.slice a' (es.length + 1) c') = some b → Value.ownBlock (.slice (some ⟨g, 0, none⟩) es.length c) = some b ∨ V.heap.size ≤ b) :
    LTab base W' (insE es p e) (.slice a' (es.length + 1) c') := by
  have hbl : ∀ b, Value.ownBlock (.slice (some ⟨g, 0, none⟩) es.length c) = some b → b = g := fun b hb => by cases hb; rfl
  have hes : ∀ j (hj : j < es.length) y, es[j].u.ownBlock = some y → y < V.heap.size ∧ y ≠ g := fun j hj y hy => ⟨(h.low (.inr ⟨j, hj, hy⟩)).2, fun e2 => h.dv j hj y hy (by rw [e2]; rfl)⟩
  have heu : ∀ y, e.u.ownBlock = some y → y < V.heap.size ∧ y ≠ g := fun y hy => ⟨(he.low hy).2, (hne y hy).1⟩
  refine ⟨by rw [insE_len hp, ← lcs_ins]; exact hO, ⟨fun i hi => ?_, fun i hi j hj y h1 h2 => ?_⟩, fun i hi y h1 h2 => ?_⟩
  · rcases insE_at hp e hi with ⟨-, e1⟩ | ⟨j, hj, e1, -⟩
    · rw [e1]; exact he.same (fun y hy => hF.block y (heu y hy).1 (fun e2 => (heu y hy).2 (hbl y e2)))
    · rw [e1]; exact (h.el.qs j hj).same (fun y hy => hF.block y (hes j hj y hy).1 (fun e2 => (hes j hj y hy).2 (hbl y e2)))
  · rcases insE_at hp e hi with ⟨k1, e1⟩ | ⟨i', hi', e1, k1⟩
    · rcases insE_at hp e hj with ⟨k2, e2⟩ | ⟨j', hj', e2, k2⟩
      · omega
      · rw [e1] at h1; rw [e2] at h2; exact absurd h2 ((hne y h1).2 j' hj')
    · rcases insE_at hp e hj with ⟨k2, e2⟩ | ⟨j', hj', e2, k2⟩
      · rw [e1] at h1; rw [e2] at h2; exact absurd h1 ((hne y h2).2 i' hi')
      · rw [e1] at h1; rw [e2] at h2
        have := h.el.dd i' hi' j' hj' y h1 h2
        omega
  · have hy : y < V.heap.size ∧ y ≠ g := by
      rcases insE_at hp e hi with ⟨-, e1⟩ | ⟨j, hj, e1, -⟩
      · rw [e1] at h1; exact heu y h1
      · rw [e1] at h1; exact hes j hj y h1
    rcases hn y h2 with h3 | h3
    · exact hy.2 (hbl y h3)
    · omega
set_option maxRecDepth 100000 in
set_option maxHeartbeats 6400000 in
theorem beginI (base pb : Nat) (w W : World) (es : List LE) (g c p : Nat) (n : Int) (s : List UInt8) (hl : es.length ≤ 1000) (hp : p ≤ es.length) (h : TW base pb w W 1 es (.slice (some ⟨g, 0, none⟩) es.length c)) (hbw : base ≤ W.heap.size) (hbb : base ≤ w.heap.size) :
    Calls Try.prog 49 #[.pointer (some ⟨pb, 0, none⟩), .int .i64 p, .int .i64 n, .string ⟨s.toArray⟩] W fun e w' => (6 ≤ es.length ∧ e = .returned (.int .i64 7) ∧ w' = W) ∨ (es.length < 6 ∧ e = .returned (.int .i64 0) ∧ ∃ u a' c', TW base pb w w' 1 (insE es p ⟨⟨s, [n]⟩, u⟩) (.slice a' (es.length + 1) c')) := by
  have x2 := h.c2
  by_cases h6 : 6 ≤ es.length
  case pos =>
    have HR := Lib.hid h6
    have d6 : decide ((es.length : Int) ≥ 6) = true := decide_eq_true (by omega)
    have d7 : decide ((6 : Int) ≤ (es.length : Int)) = true := decide_eq_true (by omega)
    clear h h6
    go_enter Try.func49, Try.ntmps49
    go_wp2_with fail
    go_ret
    exact .inl ⟨HR.out, rfl, rfl⟩
  have HR : Hid (es.length < 6) := by show _ < _; omega
  have d6 : decide ((es.length : Int) ≥ 6) = false := decide_eq_false (by omega)
  have d7 : decide ((6 : Int) ≤ (es.length : Int)) = false := decide_eq_false (by omega)
  have D1 : Below W.heap.size W (W.alloc (.cells #[.int .i64 n] 3)) := below_allocD _ _
  have s1 : (W.alloc (.cells #[.int .i64 n] 3)).heap.size = W.heap.size + 1 := size_allocD _ _
  have hN1 := heap_newD (W.alloc (.cells #[.int .i64 n] 3)) (.cells #[.string ⟨s.toArray⟩, .slice (some ⟨W.heap.size, 0, none⟩) 1 1] 54)
  rw [s1] at hN1
  have D2 : Below W.heap.size W ((W.alloc (.cells #[.int .i64 n] 3)).alloc (.cells #[.string ⟨s.toArray⟩, .slice (some ⟨W.heap.size, 0, none⟩) 1 1] 54)) := D1.alloc D1.size _
  have hT := h.later D2 hbw
  have hgl := h.tb.low (g := g) (.inl rfl)
  have hpb := (Array.getElem?_eq_some_iff.1 h.bx).1
  have hO1 : QOw base ((W.alloc (.cells #[.int .i64 n] 3)).alloc (.cells #[.string ⟨s.toArray⟩, .slice (some ⟨W.heap.size, 0, none⟩) 1 1] 54)) [n] (.slice (some ⟨W.heap.size, 0, none⟩) 1 1) := by
    have h1 := World.ownsRow_lit (base := base) (e := 3) (size := 1) W #[.int .i64 n] 1 hbw (by unfold maxLen; omega) rfl
    exact ownsRow_same h1 (fun y hy => by
      have e2 : y = W.heap.size := by cases hy; rfl
      rw [e2]
      exact (below_allocD _ _).block W.heap.size (by rw [s1]; omega))
  have CI := Lib.hid (insertL base es.length p g c (W.heap.size + 1) (lcs es) (.string ⟨s.toArray⟩) (.slice (some ⟨W.heap.size, 0, none⟩) 1 1) _ (by omega) hp hT.tb.ow (Nat.le_trans hbw D2.size) (fun u hu => by simp only [List.mem_cons, List.not_mem_nil, or_false] at hu; rcases hu with rfl | rfl <;> rfl) hN1 (by omega) (lcs_one hT.tb.el.one))
  have HT := Lib.hid hT
  have HO1 := Lib.hid hO1
  have HW := Lib.hid h
  clear hT hO1 hN1 D1 D2 h6 h
  go_enter Try.func49, Try.ntmps49
  go_wp2_with fail
  refine CI.out.mono ?_
  rintro e w1 ⟨a', c', rfl, hO, hF, hn⟩
  have HO := Lib.hid hO
  have HF := Lib.hid hF
  have HNN := Lib.hid hn
  have hs2 := size_allocD (W.alloc (.cells #[.int .i64 n] 3)) (.cells #[.string ⟨s.toArray⟩, .slice (some ⟨W.heap.size, 0, none⟩) 1 1] 54)
  have hb9 := (HF.out.block pb (by omega) (fun e9 => HT.out.nb pb (.inl e9) rfl)).trans HT.out.bx
  have q2 := cell_at (o := 2) hb9 rfl
  have z2 := frozen_at 2 hb9
  have HB9 := Lib.hid hb9
  clear hO hF hn hb9 x2 CI
  go_wp2_with fail
  go_ret
  refine .inr ⟨HR.out, rfl, .slice (some ⟨W.heap.size, 0, none⟩) 1 1, a', c', ?_⟩
  have hTB := HT.out.tb.ins hp ⟨⟨s, [n]⟩, .slice (some ⟨W.heap.size, 0, none⟩) 1 1⟩ HO1.out (fun y hy => by
    have e2 : y = W.heap.size := by cases hy; rfl
    refine ⟨by omega, fun i hi h2 => ?_⟩
    have := (HW.out.tb.low (.inr ⟨i, hi, h2⟩)).2
    omega) HO.out HF.out HNN.out
  have hnb : ∀ y, (Value.ownBlock (.slice a' (es.length + 1) c') = some y ∨ ∃ i, ∃ hi : i < (insE es p ⟨⟨s, [n]⟩, .slice (some ⟨W.heap.size, 0, none⟩) 1 1⟩).length, (insE es p ⟨⟨s, [n]⟩, .slice (some ⟨W.heap.size, 0, none⟩) 1 1⟩)[i].u.ownBlock = some y) → y ≠ pb := fun y hy => by
    rcases hy with hy | ⟨i, hi, hy⟩
    · rcases HNN.out y hy with h2 | h2
      · exact HT.out.nb y (.inl h2)
      · have h3 := size_allocD (W.alloc (.cells #[.int .i64 n] 3)) (.cells #[.string ⟨s.toArray⟩, .slice (some ⟨W.heap.size, 0, none⟩) 1 1] 54)
        omega
    · rcases insE_at hp _ hi with ⟨-, e1⟩ | ⟨j, hj, e1, -⟩
      · rw [e1] at hy
        have e2 : y = W.heap.size := by cases hy; rfl
        omega
      · rw [e1] at hy; exact HT.out.nb y (.inr ⟨j, hj, hy⟩)
  have hoth : ∀ y, y ≠ pb → (w1.setCell ⟨pb, 2, none⟩ (.slice a' (es.length + 1) c')).heap[y]? = w1.heap[y]? := fun y hy => Below.heap_setCell _ ⟨pb, 2, none⟩ _ _ (by show y ≠ pb; exact hy)
  refine ⟨by rw [heap_set 2 _ HB9.out]; rfl, hTB.same (fun y hy => hoth y (hnb y hy)), hnb, HW.out.lo, ?_⟩
  exact (below_frm HT.out.bel HF.out (fun b hb => (HT.out.tb.low (.inl hb)).1) hbb).setCell (by exact HW.out.lo) _
end Go.Proofs.Ythpenliecgpedaa
