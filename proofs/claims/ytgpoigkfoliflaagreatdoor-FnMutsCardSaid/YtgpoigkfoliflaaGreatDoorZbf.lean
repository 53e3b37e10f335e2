import Derived.Test.YtgpoigkfoliflaaGreatDoorZbb
import Derived.Test.YtgpoigkfoliflaaGreatDoorZav
import Derived.Test.YtgpoigkfoliflaaGreatDoorZax
import Derived.Test.YtgpoigkfoliflaaGreatDoorZan
import Derived.Test.YtgpoigkfoliflaaGreatDoorZao
import Derived.Test.YtgpoigkfoliflaaGreatDoorZbe
import Derived.Test.YtgpoigkfoliflaaGreatDoorZat
namespace Go.Proofs.YtgpoigkfoliflaaGreatDoor
open Go.RowKit
set_option linter.unusedSimpArgs false
def Dk (k : Int) (L : List At) : Prop := Rise L ∧ ∀ y ∈ L, y.k = k ∧ atOK y = true
theorem Dk.nil (k : Int) : Dk k [] := ⟨rise_nil, fun y hy => absurd hy (by simp)⟩
theorem Dk.datum {k : Int} {L : List At} (h : Dk k L) (hl : L.length ≤ 8) : datumB L = true := by
  rw [datumB_yes, decide_eq_true hl]
  intro i hi
  unfold stepB
  have hi' := h.2 _ (List.getElem_mem hi)
  have h0 := h.2 _ (List.getElem_mem (show 0 < L.length by omega))
  rw [at_getD hi, at_getD (show 0 < L.length by omega), hi'.2, hi'.1, h0.1]
  cases i with
  | zero => simp
  | succ m =>
    have := h.1.get (show m < L.length by omega) hi (by omega)
    rw [Nat.add_sub_cancel, at_getD (show m < L.length by omega)]
    simp [this]
theorem Dk.two {k : Int} {A B : List At} (ha : Dk k A) (hb : Dk k B) (h1 : A.length ≤ 8) (h2 : B.length ≤ 8) : twoC A B = 0 := by
  unfold twoC
  rw [if_neg (by omega), if_neg (by rw [ha.datum h1, hb.datum h2]; simp), if_neg]
  rintro ⟨p1, p2, hn⟩
  rw [at_getD p1, at_getD p2] at hn
  exact hn (by rw [(ha.2 _ (List.getElem_mem p1)).1, (hb.2 _ (List.getElem_mem p2)).1])
theorem Dk.join {k : Int} {A B : List At} (ha : Dk k A) (hb : Dk k B) : Dk k (joinL A B) := ⟨rise_join ha.1 B, fun y hy => by
  rcases mem_join.1 hy with h | h
  · exact ha.2 y h
  · exact hb.2 y h⟩
theorem Dk.minus {k : Int} {A : List At} (ha : Dk k A) (B : List At) : Dk k (minusA A B) := ⟨rise_minus ha.1 B, fun y hy => ha.2 y (mem_minus.1 hy).1⟩
theorem Dk.put {k : Int} {A : List At} {x : At} (ha : Dk k A) (hx : x.k = k ∧ atOK x = true) : Dk k (putL A x) := ⟨rise_put ha.1 x, fun y hy => by
  rcases mem_put.1 hy with h | h
  · exact ha.2 y h
  · subst h; exact hx⟩
theorem Dk.text {k : Int} {A : List At} (ha : Dk k A) : ∀ x ∈ A, x.t.length ≤ maxLen := fun x hx => by
  have := atOK_text (ha.2 x hx).2
  unfold maxLen
  omega
theorem Dk.of {k : Int} {L : List At} (h : datumB L = true) (hk : 0 < L.length → (L.getD 0 atZ).k = k) : Dk k L ∧ L.length ≤ 8 := by
  rw [datumB_eq] at h
  simp only [Bool.and_eq_true, decide_eq_true_eq] at h
  refine ⟨⟨rise_of h.2.2, fun y hy => ?_⟩, h.1⟩
  obtain ⟨i, hi, rfl⟩ := List.mem_iff_getElem.1 hy
  have e := errAt_zero.1 ((errOf_zero L).1 h.2.1 i hi)
  rw [at_getD hi] at e
  exact ⟨e.2.trans (hk (by omega)), e.1⟩
def numR (f a b : Int) : Int := if f = 1 then a + b else if f = 2 then a - b else if f = 3 then a * b else if f = 5 then a.tmod b else a.tdiv b
def cantB (f b : Int) : Bool := decide (4 ≤ f) && (b == 0)
def numV (f a b : Int) : Int := if cantB f b = true then 0 else numR f a b
def numK (f a b : Int) : Bool := !cantB f b && inB (-1000000000) (numR f a b) 1000000000
noncomputable def numA (f b : Int) (l : List At) : List At := l.foldl (fun acc x => putL acc ⟨1, numR f x.n b, []⟩) []
def numO (f b : Int) (l : List At) : Bool := l.all (fun x => numK f x.n b)
theorem numA_snoc (f b : Int) (l : List At) (m : Nat) (h : m < l.length) : numA f b (l.take (m + 1)) = putL (numA f b (l.take m)) ⟨1, numR f l[m].n b, []⟩ := by
  unfold numA
  rw [List.take_succ_eq_append_getElem h, List.foldl_append]; rfl
theorem numA_len (f b : Int) (l : List At) : ∀ m, m ≤ l.length → (numA f b (l.take m)).length ≤ m
  | 0, _ => by simp [numA]
  | m + 1, h => by
    rw [numA_snoc f b l m (by omega)]
    have := numA_len f b l m (by omega)
    have := putL_len (numA f b (l.take m)) ⟨1, numR f l[m].n b, []⟩
    omega
theorem atom_num {f a b : Int} (h : numK f a b = true) : atOK ⟨1, numR f a b, []⟩ = true := by
  unfold numK at h
  simp only [Bool.and_eq_true] at h
  rw [atOK1 rfl, h.2]; rfl
theorem numA_dk {f b : Int} {l : List At} : ∀ m, m ≤ l.length → (∀ q (h : q < l.length), q < m → numK f l[q].n b = true) → Dk 1 (numA f b (l.take m))
  | 0, _, _ => by simpa [numA] using Dk.nil 1
  | m + 1, h, hk => by
    rw [numA_snoc f b l m (by omega)]
    exact (numA_dk m (by omega) (fun q hq hm => hk q hq (by omega))).put ⟨rfl, atom_num (hk m (by omega) (by omega))⟩
theorem numO_no {f b : Int} {l : List At} {m : Nat} (h : m < l.length) (hk : numK f l[m].n b = false) : numO f b l = false := by
  unfold numO
  exact List.all_eq_false.2 ⟨_, List.getElem_mem h, by simp [hk]⟩
theorem numO_yes {f b : Int} {l : List At} (h : ∀ m (h : m < l.length), numK f l[m].n b = true) : numO f b l = true := by
  unfold numO
  exact List.all_eq_true.2 (fun x hx => by obtain ⟨k, hk, rfl⟩ := List.mem_iff_getElem.1 hx; exact h k hk)
theorem numO_all {f b : Int} {l : List At} (h : numO f b l = true) : ∀ m (h : m < l.length), numK f l[m].n b = true := fun m hm => by
  unfold numO at h
  exact List.all_eq_true.1 h _ (List.getElem_mem hm)
def val0 (c : MutV) : Int := (c.val.getD 0 atZ).n
noncomputable def mutL (c : MutV) (d : List At) : Option (List At) := if c.fn = 6 then some (joinL d c.val) else if c.fn = 7 then some (minusA d c.val) else if numO c.fn (val0 c) d = true then some (numA c.fn (val0 c) d) else none
noncomputable def mutP (x : Cl) (d : List At) (c : MutV) : Int × List At := match mutL c d with
  | none => (4, [])
  | some o => if fitC x o = 0 then (0, o) else (fitC x o, [])
theorem mutP_none {x : Cl} {d : List At} {c : MutV} (h : mutL c d = none) : mutP x d c = (4, []) := by unfold mutP; rw [h]
theorem mutP_fit {x : Cl} {d : List At} {c : MutV} {o : List At} (h : mutL c d = some o) (hf : fitC x o = 0) : mutP x d c = (0, o) := by unfold mutP; rw [h]; exact if_pos hf
theorem mutP_no {x : Cl} {d : List At} {c : MutV} {o : List At} (h : mutL c d = some o) (hf : ¬ fitC x o = 0) : mutP x d c = (fitC x o, []) := by unfold mutP; rw [h]; exact if_neg hf
structure CanM (x : Cl) (d : List At) (c : MutV) : Prop where
  col : colB x = true
  d8 : d.length ≤ 8
  dk : Dk x.k d
  v8 : c.val.length ≤ 8
  vk : Dk x.k c.val
  fn : 1 ≤ c.fn ∧ c.fn ≤ 7
  num : c.fn ≤ 5 → x.k = 1 ∧ c.val.length = 1
theorem col_most {x : Cl} (h : colB x = true) : x.mx ≤ 8 := by
  unfold colB at h
  simp only [Bool.and_eq_true] at h
  have := h.2.2.1
  unfold inB at this
  simp only [decide_eq_true_eq] at this
  exact this.2
theorem Dk.first {k : Int} {L : List At} (h : Dk k L) : ¬ (0 < L.length ∧ (L.getD 0 atZ).k ≠ k) := fun hn => by
  rw [at_getD hn.1] at hn
  exact hn.2 (h.2 _ (List.getElem_mem hn.1)).1
theorem fit_long {x : Cl} {L : List At} (hc : colB x = true) (h : Dk x.k L) (hl : 8 < L.length) : fitC x L = 6 := by
  have hm := col_most hc
  refine fit6 h.first ?_
  unfold inB
  rw [decide_eq_false (by omega)]
theorem fit_few {x : Cl} {L : List At} (hc : colB x = true) (h : fitC x L = 0) : L.length ≤ 8 ∧ (0 < L.length → (L.getD 0 atZ).k = x.k) := by
  have hm := col_most hc
  unfold fitC at h
  split at h
  · omega
  · rename_i h1
    split at h
    · omega
    · rename_i h2
      refine ⟨?_, fun h0 => ?_⟩
      · unfold inB at h2
        simp only [Bool.not_eq_false, decide_eq_true_eq] at h2
        omega
      · cases Int.decEq (L.getD 0 atZ).k x.k with
        | isTrue e => exact e
        | isFalse e => exact absurd ⟨h0, e⟩ h1
theorem mutL_dk {x : Cl} {d : List At} {c : MutV} {o : List At} (h : CanM x d c) (ho : mutL c d = some o) : Dk x.k o := by
  unfold mutL at ho
  split at ho
  · obtain rfl := Option.some.inj ho; exact h.dk.join h.vk
  · split at ho
    · obtain rfl := Option.some.inj ho; exact h.dk.minus _
    · split at ho
      · rename_i h6 h7 hn
        obtain rfl := Option.some.inj ho
        have := h.num (by have := h.fn; omega)
        rw [this.1]
        have hk := numA_dk (f := c.fn) (b := val0 c) (l := d) d.length (Nat.le_refl _) (fun q hq _ => numO_all hn q hq)
        rwa [List.take_of_length_le (Nat.le_refl _)] at hk
      · cases ho
theorem mutP_ok {x : Cl} {d : List At} {c : MutV} (h : CanM x d c) (h0 : (mutP x d c).1 = 0) : Dk x.k (mutP x d c).2 ∧ (mutP x d c).2.length ≤ 8 ∧ fitC x (mutP x d c).2 = 0 := by
  unfold mutP at h0 ⊢
  split at h0
  · cases h0
  · rename_i o ho
    by_cases hf : fitC x o = 0
    · rw [if_pos hf]
      exact ⟨mutL_dk h ho, (fit_few h.col hf).1, hf⟩
    · rw [if_neg hf] at h0
      exact absurd h0 hf
theorem CanM.mk' {x : Cl} {d : List At} {c : MutV} (hx : colB x = true) (hd : datumB d = true) (hf : fitC x d = 0) (hm : mutB c = true) (hk : mutK x.k c = 0) : CanM x d c := by
  unfold mutB inB at hm
  simp only [Bool.and_eq_true, decide_eq_true_eq] at hm
  have hd' := Dk.of hd (fit_few hx hf).2
  have hkn : kindNo x.k c.val = false := by
    cases e : kindNo x.k c.val
    · rfl
    · rw [mutK_kind e] at hk; omega
  have hv := Dk.of (k := x.k) hm.2.1 (fun h0 => by
    rw [kindNo_at h0] at hkn
    rw [at_getD h0]
    simpa using hkn)
  refine ⟨hx, hd'.2, hd'.1, hv.2, hv.1, hm.1, fun h5 => ?_⟩
  by_cases h1 : x.k = 1
  · by_cases h2 : c.val.length = 1
    · exact ⟨h1, h2⟩
    · rw [mutK_no hkn h5 (.inr h2)] at hk; omega
  · rw [mutK_no hkn h5 (.inl h1)] at hk; omega
theorem Dk.n {L : List At} (h : Dk 1 L) {x : At} (hx : x ∈ L) : -1000000000 ≤ x.n ∧ x.n ≤ 1000000000 := by
  have h1 := h.2 x hx
  have h2 := h1.2
  rw [atOK1 h1.1] at h2
  simp only [Bool.and_eq_true] at h2
  have := h2.1
  unfold inB at this
  simpa using this
theorem join_code {x : Cl} {d : List At} {c : MutV} (h : CanM x d c) : (joinC d c.val = 0 ∧ joinR d c.val = joinL d c.val) ∨ (joinC d c.val = 6 ∧ joinR d c.val = [] ∧ fitC x (joinL d c.val) = 6) := by
  have h0 := h.dk.two h.vk h.d8 h.v8
  unfold joinC joinR
  by_cases h8 : 8 < (joinL d c.val).length
  · right
    rw [if_pos h0, if_pos h8, if_neg (fun hn => hn.2 h8)]
    exact ⟨rfl, rfl, fit_long h.col (h.dk.join h.vk) h8⟩
  · left
    rw [if_pos h0, if_neg h8, if_pos ⟨h0, h8⟩]
    exact ⟨rfl, rfl⟩
end Go.Proofs.YtgpoigkfoliflaaGreatDoor
namespace Go.Proofs.YtgpoigkfoliflaaGreatDoor
open Go.RowKit
set_option linter.unusedSimpArgs false
def RowI (t : Tb) (cs : List (List At)) : Prop := ∃ h : cs.length = t.cols.length, ∀ i (hi : i < t.cols.length), colB t.cols[i] = true ∧ Dk t.cols[i].k (cs[i]'(by omega)) ∧ (cs[i]'(by omega)).length ≤ 8
theorem rok_I {t : Tb} {r : RowV} (h : rokM t r = true) : RowI t r.cells := by
  unfold rokM at h
  simp only [Bool.and_eq_true] at h
  have hT : TabP t := by have := h.1; unfold tabB at this; exact @of_decide_eq_true _ (Classical.propDecidable _) this
  have hR : RowP t r.id r.cells := by have := h.2; unfold rowB at this; exact @of_decide_eq_true _ (Classical.propDecidable _) this
  refine ⟨hR.len, fun i hi => ?_⟩
  have hcol : colB t.cols[i] = true := (hT.cols i hi).1
  have hc := hR.fit i (by have := hR.len; omega) hi
  have hk := Dk.of hc.1 (fit_few hcol hc.2).2
  exact ⟨hcol, hk.1, hk.2⟩
theorem iOK_small {n : Int} (h : -9223372036854775808 ≤ n ∧ n ≤ 9223372036854775807) : iOK n := by
  show (decide (IntKind.i64.min ≤ n) && decide (n ≤ IntKind.i64.max)) = true
  rw [show IntKind.i64.min = -9223372036854775808 from by decide, show IntKind.i64.max = 9223372036854775807 from by decide, decide_eq_true h.1, decide_eq_true h.2]; rfl
theorem dk_le {k : Int} {L : List At} (hk : 1 ≤ k ∧ k ≤ 4) (h : Dk k L) (h8 : L.length ≤ 8) : (dAtomS L).le maxLen ∧ (dAtomS L).sz ≤ 2000 := by
  have ht : ∀ i (hi : i < L.length), L[i].t.length ≤ 200 := fun i hi => atOK_text (h.2 _ (List.getElem_mem hi)).2
  refine ⟨Ls_le.2 ⟨by omega, by unfold maxLen; omega, fun i hi j hj => ?_⟩, ?_⟩
  · have hx := h.2 _ (List.getElem_mem hi)
    rcases (by omega : j = 0 ∨ j = 1 ∨ j = 2) with rfl | rfl | rfl
    · exact iOK_small (by rw [hx.1]; omega)
    · refine iOK_small ?_
      have ho := hx.2
      rw [show L[i] = L[i] from rfl] at ho
      unfold atOK at ho
      unfold inB at ho
      split at ho
      · simp at ho; omega
      · split at ho
        · simp at ho; omega
        · split at ho
          · simp at ho; omega
          · split at ho
            · simp at ho; omega
            · cases ho
    · show L[i].t.length ≤ maxLen
      have := ht i hi
      unfold maxLen; omega
  · show L.length + szL 3 dAtom L L.length ≤ 2000
    have : szL 3 dAtom L L.length ≤ L.length * 200 := by
      unfold szL
      have h1 := sumN_bound (g := fun i => szT 3 (lsF dAtom L i)) (h := fun _ => 200 + 0 * 0) (n := L.length) (fun i hi => by
        rw [lsF_at hi]
        have := ht i hi
        simp [szT, sumN, dAtom, D.sz]
        omega)
      have h2 := sumN_lin 200 0 (fun _ => 0) L.length
      omega
    omega
theorem rowI_le {t : Tb} {cs : List (List At)} (h : RowI t cs) (h6 : t.cols.length ≤ 6) : (dAtomSS cs).le maxLen ∧ (dAtomSS cs).sz ≤ 100000 := by
  obtain ⟨hl, h⟩ := h
  have hd : ∀ i (hi : i < cs.length), (dAtomS cs[i]).le maxLen ∧ (dAtomS cs[i]).sz ≤ 2000 := fun i hi => by
    obtain ⟨h1, h2, h3⟩ := h i (by omega)
    exact dk_le (colB_kind h1) h2 h3
  refine ⟨Ls_le.2 ⟨by omega, by unfold maxLen; omega, fun i hi j _ => (hd i hi).1⟩, ?_⟩
  show cs.length + szL 1 cAtomS cs cs.length ≤ 100000
  have : szL 1 cAtomS cs cs.length ≤ cs.length * 2000 := by
    unfold szL
    have h1 := sumN_bound (g := fun i => szT 1 (lsF cAtomS cs i)) (h := fun _ => 2000 + 0 * 0) (n := cs.length) (fun i hi => by
      rw [lsF_at hi]
      have := (hd i hi).2
      simp [szT, sumN, cAtomS]
      exact this)
    have h2 := sumN_lin 2000 0 (fun _ => 0) cs.length
    omega
  omega
end Go.Proofs.YtgpoigkfoliflaaGreatDoor
