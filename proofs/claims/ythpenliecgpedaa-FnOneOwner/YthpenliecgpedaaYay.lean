import Derived.Test.YthpenliecgpedaaYax
import Derived.Laws.OwnMore
namespace Go.Proofs.Ythpenliecgpedaa
open Go.RowKit
set_option linter.unusedSimpArgs false
theorem below_frm {F : Nat → Prop} {base : Nat} {w V W : World} (h : Below base w V) (hF : Frm F V W) (hb : ∀ b, F b → base ≤ b) (hw : base ≤ w.heap.size) : Below base w W :=
  ⟨hF.os.trans h.os, hF.tape.trans h.tape, hF.output.trans h.output, Nat.le_trans h.size hF.size, fun x hx => by
    have := h.size
    rw [hF.block x (by omega) (fun e => by have := hb x e; omega)]; exact h.block x hx⟩
theorem LEs.take {base : Nat} {W : World} {es : List LE} (h : LEs base W es) (k : Nat) : LEs base W (es.take k) :=
  ⟨fun i hi => by rw [List.length_take] at hi; rw [List.getElem_take]; exact h.qs i (by omega), fun i hi j hj g h1 h2 => by
    rw [List.length_take] at hi hj
    rw [List.getElem_take] at h1 h2
    exact h.dd i (by omega) j (by omega) g h1 h2⟩
theorem LTab.pre {base : Nat} {W : World} {es : List LE} {g c : Nat} (h : LTab base W es (.slice (some ⟨g, 0, none⟩) es.length c)) {k : Nat} (hk : k ≤ es.length) : LTab base W (es.take k) (.slice (some ⟨g, 0, none⟩) k c) := by
  refine ⟨?_, h.el.take k, fun i hi b h1 h2 => ?_⟩
  · rcases h.ow.2 with ⟨e, -⟩ | ⟨g2, cap, cur, e, hg2, hh, r1, r2, r3, r4⟩
    · cases e
    simp only [Value.slice.injEq, Option.some.injEq, Addr.mk.injEq, and_true, true_and] at e
    obtain ⟨rfl, rfl⟩ := e
    rw [List.length_take, Nat.min_eq_left hk, ← lcs_take]
    refine ⟨by rw [List.length_take, lcs_len]; omega, .inr ⟨g, c, cur, rfl, hg2, hh, by omega, r2, r3, ?_⟩⟩
    rw [← r4, List.take_take]
    congr 1
    omega
  · rw [List.length_take] at hi
    rw [List.getElem_take] at h1
    exact h.dv i (by omega) b h1 h2
theorem LTab.cells {base : Nat} {W : World} {es : List LE} {g n c : Nat} (h : LTab base W es (.slice (some ⟨g, 0, none⟩) n c)) (j : Nat) (u : Value) (hj : (lcs es)[j]? = some u) : W.cell? ((⟨g, 0, none⟩ : Addr).add j) = some u := by
  rcases h.ow.2 with ⟨e, -⟩ | ⟨g2, cap, cur, e, hg2, hh, r1, r2, r3, r4⟩
  · cases e
  simp only [Value.slice.injEq, Option.some.injEq, Addr.mk.injEq, and_true, true_and] at e
  obtain ⟨rfl, -, rfl⟩ := e
  rw [Addr.add_mid, Nat.zero_add]
  have hlt : j < es.length * 2 := by rw [← lcs_len]; exact (List.getElem?_eq_some_iff.1 hj).1
  rw [← r4, List.getElem?_take_of_lt hlt, Array.getElem?_toList] at hj
  simp [World.cell?, hh, hj]
theorem LTab.join {base base2 : Nat} {V : World} {es es2 : List LE} {v v2 : Value} (h : LTab base V es v) (h2 : LTab base2 V es2 v2) (hbb : base ≤ base2) (hd : ∀ g, (v.ownBlock = some g ∨ ∃ i, ∃ hi : i < es.length, es[i].u.ownBlock = some g) → ∀ j (hj : j < es2.length), es2[j].u.ownBlock ≠ some g) (hb : base ≤ V.heap.size) (hl : es.length + es2.length ≤ 100000) :
    ∃ a' c' W', (Builtin.append_ #[23, 23] 23 #[v, v2]).run Try.prog V = .ok (.slice a' (es.length + es2.length) c') W' ∧ LTab base W' (es ++ es2) (.slice a' (es.length + es2.length) c') ∧ Frm (fun b => v.ownBlock = some b) V W' := by
  have hup : LEs base V es2 := ⟨fun i hi => by
    obtain ⟨r1, r2⟩ := h2.el.qs i hi
    refine ⟨r1, r2.imp id ?_⟩
    rintro ⟨g, cap, cur, e, hg, r⟩
    exact ⟨g, cap, cur, e, by omega, r⟩, h2.el.dd⟩
  rcases h2.ow.2 with ⟨rfl, h0⟩ | ⟨g, cap, cur, rfl, hg, hh, r1, r2, r3, r4⟩
  · obtain rfl : es2 = [] := List.eq_nil_of_length_eq_zero h0
    obtain ⟨a, c, rfl⟩ := h.shape
    obtain ⟨i, hi, -⟩ := infoLk
    refine ⟨a, c, V, ?_, ?_, Frm.refl _ _⟩
    · rw [List.length_nil, Nat.add_zero]
      exact run_append_owned_none (P := Try.prog) V base 23 23 54 i 2 Try.underlying23 hi _ es.length _ h.ow
    · rw [List.append_nil, List.length_nil, Nat.add_zero]; exact h
  · obtain ⟨a', c', W', m1, m2, m3, -⟩ := h.app hup (fun i hi j hj g h3 h4 => hd g (.inr ⟨i, hi, h3⟩) j hj h4) (fun j hj g h3 h4 => hd g (.inl h4) j hj h3) ⟨g, 0, none⟩ cap (fun j u hj => h2.cells j u hj) hb hl
    exact ⟨a', c', W', m1, m2, m3⟩
theorem Rd.dropL {w : World} {B : Nat → Prop} {l : List LkV} {g c : Nat} (h : Rd w B (dLockS l) (.slice (some ⟨g, 0, none⟩) l.length c)) {k : Nat} (hk : k ≤ l.length) (a : Option Addr) (ha : k < l.length → a = some ⟨g, k * 2, none⟩) : Rd w B (dLockS (l.drop k)) (.slice a (l.drop k).length (c - k)) := by
  have hr := h.room
  refine ⟨a, c - k, rfl, by rw [List.length_drop]; omega, ?_⟩
  by_cases h0 : k < l.length
  · obtain ⟨b, off, e, hb, -⟩ := h.cells h0
    simp only [Option.some.injEq, Addr.mk.injEq, and_true] at e
    obtain ⟨rfl, rfl⟩ := e
    refine .inr ⟨g, k * 2, ha h0, hb, by omega, fun i j hi hj => ?_⟩
    rw [List.length_drop] at hi
    obtain ⟨u, hu, hr⟩ := Rd.spotT h (i := k + i) (by omega) hj
    refine ⟨u, ?_, ?_⟩
    · rw [← hu]; congr 2; omega
    · rw [lsF_at (by rw [List.length_drop]; omega), List.getElem_drop]; exact hr
  · exact .inl (by rw [List.length_drop]; omega)
def pk (l : List LkV) (s : List UInt8) : Nat := l.findIdx (fun x => !(Op.bytesLess x.nm s))
theorem pk_le (l : List LkV) (s : List UInt8) : pk l s ≤ l.length := List.findIdx_le_length
theorem pk_at {l : List LkV} {s : List UInt8} (h : pk l s < l.length) : Op.bytesLess l[pk l s].nm s = false := by
  have h' : List.findIdx (fun x : LkV => !(Op.bytesLess x.nm s)) l < l.length := h
  have h2 : (!(Op.bytesLess l[pk l s].nm s)) = true := List.findIdx_getElem (p := fun x : LkV => !(Op.bytesLess x.nm s)) (w := h')
  rcases Bool.eq_false_or_eq_true (Op.bytesLess l[pk l s].nm s) with hb | hb
  · rw [hb] at h2; cases h2
  · exact hb
theorem pk_lt {l : List LkV} {s : List UInt8} {m : Nat} (h : m < pk l s) : Op.bytesLess (l[m]'(Nat.lt_of_lt_of_le h (pk_le l s))).nm s = true := by
  have h2 : ¬ ((!(Op.bytesLess (l[m]'(Nat.lt_of_lt_of_le h (pk_le l s))).nm s)) = true) := by
    have h3 := List.not_of_lt_findIdx (p := fun x : LkV => !(Op.bytesLess x.nm s)) h
    simpa using h3
  simpa using h2
theorem pk_eq {l : List LkV} {s : List UInt8} {k : Nat} (hk : k ≤ l.length) (h : ∀ h : k < l.length, Op.bytesLess l[k].nm s = false) (hn : ∀ m (hm : m < l.length), m < k → Op.bytesLess l[m].nm s = true) : pk l s = k := by
  rcases Nat.lt_trichotomy (pk l s) k with h1 | h1 | h1
  · have h2 := pk_at (l := l) (s := s) (by omega)
    rw [hn _ (by omega) h1] at h2; cases h2
  · exact h1
  · have h2 := pk_lt h1
    have := pk_le l s
    rw [h (by omega)] at h2; cases h2
def insL (l : List LkV) (s : List UInt8) (q : List Int) : List LkV := l.take (pk l s) ++ [⟨s, q⟩] ++ l.drop (pk l s)
def roomL (l : List LkV) (s : List UInt8) : List LkV := if fk l s < l.length then l else if l.length = 6 then l else insL l s []
def roomK (l : List LkV) (s : List UInt8) : Nat := if fk l s < l.length then fk l s else if l.length = 6 then 0 else pk l s
def roomB (l : List LkV) (s : List UInt8) : Bool := if fk l s < l.length then true else if l.length = 6 then false else true
theorem insL_len (l : List LkV) (s : List UInt8) (q : List Int) : (insL l s q).length = l.length + 1 := by
  unfold insL
  have := pk_le l s
  simp only [List.length_append, List.length_take, List.length_drop, List.length_cons, List.length_nil]
  omega
theorem room_in {l : List LkV} {s : List UInt8} (h : roomB l s = true) : roomK l s < (roomL l s).length := by
  unfold roomB at h
  unfold roomK roomL
  by_cases h1 : fk l s < l.length
  · rw [if_pos h1, if_pos h1]; exact h1
  · rw [if_neg h1] at h ⊢
    rw [if_neg h1]
    by_cases h2 : l.length = 6
    · rw [if_pos h2] at h; cases h
    · rw [if_neg h2, if_neg h2, insL_len]; have := pk_le l s; omega
set_option maxRecDepth 100000 in
set_option maxHeartbeats 6400000 in
theorem roomS (l : List LkV) (s : List UInt8) (a : Option Addr) (c : Nat) (B : Nat → Prop) (w : World) (hl : l.length ≤ 6) (hq : ∀ k (h : k < l.length), 0 < l[k].qu.length ∧ l[k].qu.length ≤ 1000) (hS : Rd w B (dLockS l) (.slice a l.length c)) :
    Calls Try.prog 54 #[.slice a l.length c, .string ⟨s.toArray⟩] w fun e w' => ∃ es ra rc, e = .returned (.tuple #[.slice ra (roomL l s).length rc, .int .i64 (roomK l s), .bool (roomB l s)]) ∧ lks es = roomL l s ∧ LTab w.heap.size w' es (.slice ra (roomL l s).length rc) ∧ Below w.heap.size w w' := by
  have CO := Lib.hid (lkOwnS l a c B w (by omega) hq hS)
  have HLM : Hid (l.length ≤ maxLen) := by show _ ≤ _; unfold maxLen; omega
  have HQ := Lib.hid hq
  clear hS hq
  by_cases hf : fk l s < l.length
  case pos =>
    have HFI : Hid (fkI l s = (fk l s : Int)) := by show _ = _; unfold fkI; rw [if_pos hf]
    have HA : Hid (roomL l s = l ∧ roomK l s = fk l s ∧ roomB l s = true) := by refine ⟨?_, ?_, ?_⟩ <;> (first | unfold roomL | unfold roomK | unfold roomB) <;> rw [if_pos hf]
    rw [HA.out.1, HA.out.2.1, HA.out.2.2]
    have hd : decide ((fk l s : Int) ≥ 0) = true := decide_eq_true (by omega)
    have hd2 : decide ((0 : Int) ≤ (fk l s : Int)) = true := decide_eq_true (by omega)
    clear hf HA
    go_enter Try.func54, Try.ntmps54
    go_wp2_with (first | (go_at_call 62; refine CO.out.mono ?_; rintro e w1 ⟨es, ra, rc, rfl, hes, hT, hB, hra⟩; have HRA := Lib.hid hra; clear hra; have HES := Lib.hid hes; have HT := Lib.hid hT; have HB := Lib.hid hB; have hel := lks_len es; rw [hes] at hel; have HEL : Hid (l.length = es.length) := hel; have HR : Hid (Rd w1 (fun b => w.heap.size ≤ b ∧ b < w1.heap.size) (dLockS l) (.slice ra l.length rc)) := (by have h1 := hT.own.rd'; rw [hes] at h1; exact h1); clear hes hT hB hel) | (go_at_call 63; refine (findKS l s ra rc _ w1 HLM.out HR.out).mono ?_; rintro e w2 ⟨rfl, hw2⟩; rw [hw2, HFI.out]; clear hw2 w2))
    go_ret3
    exact ⟨es, ra, rc, rfl, HES.out, HT.out, HB.out⟩
  have HFI : Hid (fkI l s = -1) := by show _ = _; unfold fkI; rw [if_neg hf]
  by_cases h6 : l.length = 6
  case pos =>
    have HA : Hid (roomL l s = l ∧ roomK l s = 0 ∧ roomB l s = false) := by refine ⟨?_, ?_, ?_⟩ <;> (first | unfold roomL | unfold roomK | unfold roomB) <;> rw [if_neg hf, if_pos h6]
    rw [HA.out.1, HA.out.2.1, HA.out.2.2]
    have hd : ((l.length : Int) == 6) = true := by simp; omega
    clear hf HA h6
    go_enter Try.func54, Try.ntmps54
    go_wp2_with (first | (go_at_call 62; refine CO.out.mono ?_; rintro e w1 ⟨es, ra, rc, rfl, hes, hT, hB, hra⟩; have HRA := Lib.hid hra; clear hra; have HES := Lib.hid hes; have HT := Lib.hid hT; have HB := Lib.hid hB; have hel := lks_len es; rw [hes] at hel; have HEL : Hid (l.length = es.length) := hel; have HR : Hid (Rd w1 (fun b => w.heap.size ≤ b ∧ b < w1.heap.size) (dLockS l) (.slice ra l.length rc)) := (by have h1 := hT.own.rd'; rw [hes] at h1; exact h1); clear hes hT hB hel) | (go_at_call 63; refine (findKS l s ra rc _ w1 HLM.out HR.out).mono ?_; rintro e w2 ⟨rfl, hw2⟩; rw [hw2, HFI.out]; clear hw2 w2))
    go_ret3
    exact ⟨es, ra, rc, rfl, HES.out, HT.out, HB.out⟩
  have HA : Hid (roomL l s = insL l s [] ∧ roomK l s = pk l s ∧ roomB l s = true) := by refine ⟨?_, ?_, ?_⟩ <;> (first | unfold roomL | unfold roomK | unfold roomB) <;> rw [if_neg hf, if_neg h6]
  rw [HA.out.1, HA.out.2.1, HA.out.2.2, insL_len]
  have hd : ((l.length : Int) == 6) = false := by simp; omega
  have HPL := Lib.hid (pk_le l s)
  obtain ⟨pp, hpp⟩ : ∃ pp, pp = pk l s := ⟨_, rfl⟩
  have HPP := Lib.hid hpp
  rw [← hpp]
  clear hf HA h6 hpp
  go_enter Try.func54, Try.ntmps54
  go_wp2_with (first | (go_at_call 62; refine CO.out.mono ?_; rintro e w1 ⟨es, ra, rc, rfl, hes, hT, hB, hra⟩; have HRA := Lib.hid hra; clear hra; have HES := Lib.hid hes; have HT := Lib.hid hT; have HB := Lib.hid hB; have hel := lks_len es; rw [hes] at hel; have HEL : Hid (l.length = es.length) := hel; have HR : Hid (Rd w1 (fun b => w.heap.size ≤ b ∧ b < w1.heap.size) (dLockS l) (.slice ra l.length rc)) := (by have h1 := hT.own.rd'; rw [hes] at h1; exact h1); clear hes hT hB hel) | (go_at_call 63; refine (findKS l s ra rc _ w1 HLM.out HR.out).mono ?_; rintro e w2 ⟨rfl, hw2⟩; rw [hw2, HFI.out]; clear hw2 w2))
  have HBD : Hid (w1 = w1) := rfl
  go_loopw [9] (fun i wr => ∃ k : Nat, k ≤ l.length ∧ i = .int .i64 k ∧ Hid ((∀ m (h : m < l.length), m < k → Op.bytesLess l[m].nm s = true) ∧ wr = w1)) (fun i _ => l.length - (intOf i).toNat)
  case atStart => exact ⟨0, Nat.zero_le _, rfl, fun m _ h => absurd h (by omega), rfl⟩
  case round =>
    obtain ⟨k, hk, rfl, HW⟩ := hrel
    obtain rfl := HW.out.2
    clear hd HBD
    have DONE : True := trivial
    by_cases hlt : k < l.length ∧ ∀ h : k < l.length, Op.bytesLess l[k].nm s = true
    case pos =>
      have hki : (k : Int) < (l.length : Int) := by have := hlt.1; omega
      have hkd : decide ((k : Int) < (l.length : Int)) = true := decide_eq_true hki
      have HK : Hid (k + 1 ≤ l.length) := hlt.1
      have hbl : Op.bytesLess (l[k]'(HK.out)).nm s = true := hlt.2 hlt.1
      obtain ⟨b, off, qa, qc, rfl, -, -, hc⟩ := lockAt HR.out HK.out
      have c0 := (hc _ (Below.refl _ _)).1
      have HN : Hid (∀ m (h : m < l.length), m < k + 1 → Op.bytesLess l[m].nm s = true) := fun m h hm => by
        by_cases e : m = k
        · subst e; exact hbl
        · exact HW.out.1 m h (by omega)
      clear hc HW hlt DONE
      generalize l[k]'(HK.out) = x at *
      go_wp2_with fail
      go_roundw
      case rel => exact ⟨k + 1, HK.out, by go_num, HN.out, by first | rfl | exact trivial⟩
      case measure => have := HK.out; simp [intOf]; omega
    have HPK : Hid (pp = k) := by rw [HPP.out]; exact pk_eq hk (fun h => by
      cases hb : Op.bytesLess l[k].nm s
      · rfl
      · exact absurd ⟨h, fun _ => hb⟩ hlt) (fun m hm hmk => HW.out.1 m hm hmk)
    -- the lists
    have hpk := HPK.out
    rw [hpk] at HPP
    have HPK2 : Hid (k = pk l s) := HPP.out
    obtain ⟨g, rfl⟩ := HRA.out
    have hrl : l.length ≤ rc := Rd.room HR.out
    have hTE : LTab w.heap.size wr es (.slice (some ⟨g, 0, none⟩) es.length rc) := by have h1 := HT.out; rw [HEL.out] at h1; exact h1
    have hgl := hTE.low (g := g) (.inl rfl)
    have hws := HB.out.size
    have CT : Hid (∀ a2 cc, cc = rc - k → (k < l.length → a2 = some ⟨g, k * 2, none⟩) → Calls Try.prog 62 #[.slice a2 (l.length - k) cc] wr fun e w' => ∃ rt ct, e = .returned (.slice rt (l.length - k) ct) ∧ ∃ a4 c4 W4, ∃ a3 c3 W3, (Builtin.append_ #[23, 23] 23 #[.slice (some ⟨g, 0, none⟩) k rc, .slice (some ⟨w'.heap.size, 0, none⟩) 1 1]).run Try.prog (w'.alloc (.cells #[.string ⟨s.toArray⟩, .slice none 0 0] 54)) = .ok (.slice a3 (k + 1) c3) W3 ∧ (Builtin.append_ #[23, 23] 23 #[.slice a3 (k + 1) c3, .slice rt (l.length - k) ct]).run Try.prog W3 = .ok (.slice a4 (l.length + 1) c4) W4 ∧ ∃ es4, lks es4 = insL l s [] ∧ LTab w.heap.size W4 es4 (.slice a4 (l.length + 1) c4) ∧ Below w.heap.size w W4) := fun a2 cc hcc ha2 => by
      subst hcc
      have h1 := lkOwnS (l.drop k) a2 (rc - k) _ wr (by rw [List.length_drop]; omega) (fun i hi => by rw [List.length_drop] at hi; rw [List.getElem_drop]; exact HQ.out _ (by omega)) (Rd.dropL HR.out hk a2 ha2)
      rw [List.length_drop] at h1
      refine h1.mono ?_
      rintro e W2 ⟨es3, rt, ct, rfl, h3, hT3, hB3, -⟩
      have hl3 : es3.length = l.length - k := by rw [← lks_len, h3, List.length_drop]
      have hkE : k ≤ es.length := by rw [← HEL.out]; exact hk
      have hP := (hTE.pre hkE).later hB3
      have hV : Below W2.heap.size W2 (W2.alloc (.cells #[.string ⟨s.toArray⟩, .slice none 0 0] 54)) := below_allocD _ _
      have hP2 := hP.later hV
      have hkl : (es.take k).length = k := by rw [List.length_take]; omega
      have hB0w : w.heap.size ≤ (W2.alloc (.cells #[.string ⟨s.toArray⟩, .slice none 0 0] 54)).heap.size := Nat.le_trans hws (Nat.le_trans hB3.size hV.size)
      obtain ⟨a3, c3, W3, r3, hT4, hF3, hn3⟩ := hP2.app (es2 := [⟨⟨s, []⟩, .slice none 0 0⟩]) ⟨fun i hi => by (obtain rfl : i = 0 := (by simpa using hi)); exact QOw.nil _ _, fun i hi j hj y _ _ => by simp at hi hj; omega⟩
        (fun i hi j hj y h1 h2 => by
          obtain rfl : j = 0 := by simpa using hj
          cases h2)
        (fun j hj y h1 h2 => by
          obtain rfl : j = 0 := by simpa using hj
          cases h1) ⟨W2.heap.size, 0, none⟩ 1 (fun j u hj => by
          rw [Addr.add_mid, Nat.zero_add]
          have h5 := heap_newD W2 (.cells #[.string ⟨s.toArray⟩, .slice none 0 0] 54)
          match j, hj with
          | 0, hj => cases hj; exact cell_at (o := 0) h5 rfl
          | 1, hj => cases hj; exact cell_at (o := 1) h5 rfl
          | j + 2, hj => simp [lcs] at hj) (Nat.le_trans hws (Nat.le_trans hB3.size hV.size)) (by rw [hkl]; simp; omega)
      simp only [hkl, List.length_cons, List.length_nil, Nat.zero_add] at r3 hT4 hn3
      have hsV : (W2.alloc (.cells #[.string ⟨s.toArray⟩, .slice none 0 0] 54)).heap.size = W2.heap.size + 1 := size_allocD _ _
      have h3s := hB3.size
      have hF3s := hF3.size
      have hT5 : LTab wr.heap.size W3 es3 (.slice rt (l.length - k) ct) := (hT3.later hV).same (fun y hy => by
        have h6 := hT3.low hy
        exact hF3.block y (by omega) (fun e => by have e2 : y = g := (by cases e; rfl); have := hgl.2; omega))
      have hL4 : (es.take k ++ ([⟨⟨s, []⟩, .slice none 0 0⟩] : List LE)).length = k + 1 := by rw [List.length_append, hkl]; rfl
      have hn4 : ∀ y, Value.ownBlock (.slice a3 (k + 1) c3) = some y → y < wr.heap.size ∨ W2.heap.size ≤ y := fun y hy => by
        rcases hn3 y hy with h6 | h6
        · have e2 : y = g := (by cases h6; rfl)
          have := hgl.2; exact .inl (by omega)
        · exact .inr (by omega)
      have hT4' : LTab w.heap.size W3 (es.take k ++ [⟨⟨s, []⟩, .slice none 0 0⟩]) (.slice a3 (k + 1) c3) := hT4
      obtain ⟨a4, c4, W4, r4, hT6, hF4⟩ := hT4'.join hT5 hws (fun y hy j hj h6 => by
        have h7 := hT3.low (.inr ⟨j, hj, h6⟩)
        rcases hy with hy | ⟨i, hi, hy⟩
        · rcases hn4 y hy with h8 | h8 <;> omega
        · by_cases hik : i < k
          · rw [List.getElem_append_left (by omega), List.getElem_take] at hy
            have h8 := (hTE.low (.inr ⟨i, by omega, hy⟩)).2
            omega
          · rw [List.getElem_append_right (by omega)] at hy
            rw [hL4] at hi
            have e0 : i - (es.take k).length = 0 := by omega
            simp only [e0, List.getElem_cons_zero] at hy
            cases hy) (by omega) (by rw [hL4, hl3]; omega)
      rw [hL4, hl3] at r4 hT6
      have hsum : k + 1 + (l.length - k) = l.length + 1 := by omega
      rw [hsum] at r4 hT6
      have hBV : Below w.heap.size w (W2.alloc (.cells #[.string ⟨s.toArray⟩, .slice none 0 0] 54)) := HB.out.trans ((hB3.trans (hV.mono h3s)).mono hws)
      refine ⟨rt, ct, rfl, a4, c4, W4, a3, c3, W3, r3, r4, es.take k ++ [⟨⟨s, []⟩, .slice none 0 0⟩] ++ es3, ?_, hT6, ?_⟩
      · rw [lks_app, lks_app, h3]
        have e1 : lks (es.take k) = l.take k := by unfold lks; rw [List.map_take]; show (lks es).take k = _; rw [HES.out]
        unfold insL
        rw [e1, ← HPK2.out]
        rfl
      · refine below_frm (below_frm hBV hF3 (fun b hb => ?_) (Nat.le_refl _)) hF4 (fun b hb => (hT4'.low (.inl hb)).1) (Nat.le_refl _)
        have e2 : b = g := (by cases hb; rfl)
        rw [e2]; exact hgl.1
    have HRL := Lib.hid hrl
    have HPK3 : Hid (pp = k) := hpk
    have hkl : (k : Int) ≤ (l.length : Int) := by omega
    have hkr : (k : Int) ≤ (rc : Int) := by omega
    have hkl2 : k ≤ rc := by omega
    have hlr : (l.length : Int) ≤ (rc : Int) := by omega
    have hk0 : (0 : Int) ≤ (k : Int) := by omega
    have CEL : Hid (∀ h : k < l.length, wr.cell? ⟨g, k * 2, none⟩ = some (.string ⟨l[k].nm.toArray⟩)) := fun h => by
      obtain ⟨b, off, qa, qc, e, -, -, hc⟩ := lockAt HR.out h
      simp only [Option.some.injEq, Addr.mk.injEq, and_true] at e
      obtain ⟨rfl, rfl⟩ := e
      have := (hc _ (Below.refl _ _)).1
      rw [Nat.zero_add] at this; exact this
    have hcase : (k = l.length) ∨ (∃ h : k < l.length, Op.bytesLess l[k].nm s = false) := by
      by_cases h : k < l.length
      · refine .inr ⟨h, ?_⟩
        cases hb : Op.bytesLess l[k].nm s
        · rfl
        · exact absurd ⟨h, fun _ => hb⟩ hlt
      · exact .inl (by omega)
    clear hlt hTE hgl hws HPP HT HES HR HW HPK hpk hrl
    rcases hcase with hA | ⟨hA, hbl⟩
    · have hkd : decide ((k : Int) < (l.length : Int)) = false := decide_eq_false (by omega)
      have hkdn : decide (k < l.length) = false := decide_eq_false (by omega)
      have hkn : ¬ (k : Int) < (l.length : Int) := by omega
      have HK := Lib.hid hA
      clear CEL hA
      by_cases hrk : rc = k
      · subst hrk
        have hre : Hid (rc < l.length → (some ⟨g, 0, none⟩ : Option Addr) = some ⟨g, rc * 2, none⟩) := fun h => by have := HK.out; omega
        go_wp2_with fail
        refine (CT.out _ _ (by omega) ?_).mono ?_
        · first | exact hre.out | (have h9 := hre.out; rw [Nat.zero_add] at h9; exact h9)
        rintro e w2 ⟨rt, ct, rfl, a4, c4, W4, a3, c3, W3, r3, r4, es4, h4, hT4, hB4⟩
        have R3 := Lib.hid r3
        have R4 := Lib.hid r4
        have FIN := Lib.hid (And.intro h4 (And.intro hT4 hB4))
        clear r3 r4 h4 hT4 hB4 CT hre
        go_wp2_with (at_builtin; first | (refine wpList_appIs rfl (.tmp 45) (.tmp 48) 23 rfl _ _ rfl rfl _ _ R3.out ?_) | (refine wpList_appIs rfl (.tmp 49) (.tmp 50) 23 rfl _ _ rfl rfl _ _ R4.out ?_))
        go_ret3
        exact ⟨es4, a4, c4, by rw [HPK3.out]; rfl, FIN.out⟩
      · have hre : Hid (k < l.length → (some ⟨g, 0 + k * 2, none⟩ : Option Addr) = some ⟨g, k * 2, none⟩) := fun _ => by rw [Nat.zero_add]
        go_wp2_with fail
        refine (CT.out _ _ (by omega) ?_).mono ?_
        · first | exact hre.out | (have h9 := hre.out; rw [Nat.zero_add] at h9; exact h9)
        rintro e w2 ⟨rt, ct, rfl, a4, c4, W4, a3, c3, W3, r3, r4, es4, h4, hT4, hB4⟩
        have R3 := Lib.hid r3
        have R4 := Lib.hid r4
        have FIN := Lib.hid (And.intro h4 (And.intro hT4 hB4))
        clear r3 r4 h4 hT4 hB4 CT hre
        go_wp2_with (at_builtin; first | (refine wpList_appIs rfl (.tmp 45) (.tmp 48) 23 rfl _ _ rfl rfl _ _ R3.out ?_) | (refine wpList_appIs rfl (.tmp 49) (.tmp 50) 23 rfl _ _ rfl rfl _ _ R4.out ?_))
        go_ret3
        exact ⟨es4, a4, c4, by rw [HPK3.out]; rfl, FIN.out⟩
    · have HK := Lib.hid hA
      have hki : (k : Int) < (l.length : Int) := by omega
      have hkd : decide ((k : Int) < (l.length : Int)) = true := decide_eq_true hki
      have hkdn : decide (k < l.length) = true := decide_eq_true HK.out
      have c0 := CEL.out HK.out
      replace hbl : Op.bytesLess (l[k]'(HK.out)).nm s = false := hbl
      have hrk : ¬ rc = k := by have := HRL.out; omega
      have hre : Hid (k < l.length → (some ⟨g, 0 + k * 2, none⟩ : Option Addr) = some ⟨g, k * 2, none⟩) := fun _ => by rw [Nat.zero_add]
      clear CEL hA
      generalize l[k]'(HK.out) = x at *
      go_wp2_with fail
      refine (CT.out _ _ (by omega) ?_).mono ?_
      · first | exact hre.out | (have h9 := hre.out; rw [Nat.zero_add] at h9; exact h9)
      rintro e w2 ⟨rt, ct, rfl, a4, c4, W4, a3, c3, W3, r3, r4, es4, h4, hT4, hB4⟩
      have R3 := Lib.hid r3
      have R4 := Lib.hid r4
      have FIN := Lib.hid (And.intro h4 (And.intro hT4 hB4))
      clear r3 r4 h4 hT4 hB4 CT hre
      go_wp2_with (at_builtin; first | (refine wpList_appIs rfl (.tmp 45) (.tmp 48) 23 rfl _ _ rfl rfl _ _ R3.out ?_) | (refine wpList_appIs rfl (.tmp 49) (.tmp 50) 23 rfl _ _ rfl rfl _ _ R4.out ?_))
      go_ret3
      exact ⟨es4, a4, c4, by rw [HPK3.out]; rfl, FIN.out⟩
end Go.Proofs.Ythpenliecgpedaa
