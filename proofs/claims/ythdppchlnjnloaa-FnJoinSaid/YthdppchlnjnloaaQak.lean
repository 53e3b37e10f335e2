import Derived.Test.YthdppchlnjnloaaQai
import Derived.Test.YthdppchlnjnloaaQad
import Derived.Test.YthdppchlnjnloaaQaj
import Derived.Test.YthdppchlnjnloaaQae
import Derived.Test.YthdppchlnjnloaaQag
import Derived.Test.YthdppchlnjnloaaQab
namespace Go.Proofs.Ythdppchlnjnloaa
open Go.RowKit
set_option linter.unusedSimpArgs false
/-! sets of atoms: what is in them, and that rising lists with the same atoms are the same -/
theorem hasB_iff {l : List At} {x : At} : hasB l x = true ↔ x ∈ l := by
  unfold hasB
  rw [List.any_eq_true]
  constructor
  · rintro ⟨y, hy, e⟩
    rw [← sameAt_iff.1 e]
    exact hy
  · intro h
    exact ⟨x, h, sameAt_iff.2 rfl⟩
theorem mem_put {l : List At} {x y : At} : y ∈ putL l x ↔ y ∈ l ∨ y = x := by
  unfold putL
  split
  · rename_i h
    constructor
    · exact .inl
    · rintro (h' | rfl)
      · exact h'
      · exact hasB_iff.1 h
  · have e : y ∈ l ↔ y ∈ l.take (posA l x) ∨ y ∈ l.drop (posA l x) := by
      rw [← List.mem_append, List.take_append_drop]
    rw [e, List.mem_append, List.mem_append, List.mem_singleton]
    constructor
    · rintro ((h | h) | h)
      · exact .inl (.inl h)
      · exact .inr h
      · exact .inl (.inr h)
    · rintro ((h | h) | h)
      · exact .inl (.inl h)
      · exact .inr h
      · exact .inl (.inr h)
theorem mem_join {y : At} : ∀ {b a : List At}, y ∈ joinL a b ↔ y ∈ a ∨ y ∈ b
  | [], a => by simp [joinL]
  | x :: b, a => by
    have h := mem_join (y := y) (b := b) (a := putL a x)
    unfold joinL at h ⊢
    rw [List.foldl_cons, h, mem_put, List.mem_cons, or_assoc]
theorem mem_minus {a b : List At} {y : At} : y ∈ minusA a b ↔ y ∈ a ∧ y ∉ b := by
  unfold minusA
  rw [List.mem_filter]
  have : (!hasB b y) = true ↔ y ∉ b := by
    rw [← hasB_iff]
    cases hasB b y <;> simp
  rw [this]
theorem rise_minus {a : List At} (h : Rise a) (b : List At) : Rise (minusA a b) := List.Pairwise.sublist List.filter_sublist h
theorem rise_ext : ∀ {a b : List At}, Rise a → Rise b → (∀ y, y ∈ a ↔ y ∈ b) → a = b
  | [], [], _, _, _ => rfl
  | [], y :: b, _, _, h => absurd ((h y).2 List.mem_cons_self) List.not_mem_nil
  | x :: a, [], _, _, h => absurd ((h x).1 List.mem_cons_self) List.not_mem_nil
  | x :: a, y :: b, ha, hb, h => by
    obtain ⟨hx, ha'⟩ := List.pairwise_cons.1 ha
    obtain ⟨hy, hb'⟩ := List.pairwise_cons.1 hb
    have e : x = y := by
      rcases List.mem_cons.1 ((h x).1 List.mem_cons_self) with e | h1
      · exact e
      · rcases List.mem_cons.1 ((h y).2 List.mem_cons_self) with e | h2
        · exact e.symm
        · exact absurd (cmp_trans (hx y h2) (hy x h1)) (cmp_self x)
    subst e
    rw [rise_ext ha' hb' (fun z => ?_)]
    constructor
    · intro hz
      rcases List.mem_cons.1 ((h z).1 (List.mem_cons_of_mem _ hz)) with e | h1
      · subst e; exact absurd (hx z hz) (cmp_self z)
      · exact h1
    · intro hz
      rcases List.mem_cons.1 ((h z).2 (List.mem_cons_of_mem _ hz)) with e | h1
      · subst e; exact absurd (hy z hz) (cmp_self z)
      · exact h1
/-- what is joined, less the second one, is the first one less the second one -/
theorem minus_join {a : List At} (h : Rise a) (b : List At) : minusA (joinL a b) b = minusA a b :=
  rise_ext (rise_minus (rise_join h b) b) (rise_minus h b) (fun y => by
    rw [mem_minus, mem_minus, mem_join]
    constructor
    · rintro ⟨h1 | h1, h2⟩
      · exact ⟨h1, h2⟩
      · exact absurd h1 h2
    · rintro ⟨h1, h2⟩
      exact ⟨.inl h1, h2⟩)
/-- the first one less the second one, joined with the second one, is both joined -/
theorem join_minus {a : List At} (h : Rise a) (b : List At) : joinL (minusA a b) b = joinL a b :=
  rise_ext (rise_join (rise_minus h b) b) (rise_join h b) (fun y => by
    rw [mem_join, mem_join, mem_minus]
    constructor
    · rintro (⟨h1, -⟩ | h1)
      · exact .inl h1
      · exact .inr h1
    · rintro (h1 | h1)
      · by_cases h2 : y ∈ b
        · exact .inr h2
        · exact .inl ⟨h1, h2⟩
      · exact .inr h1)
/-- the order in which atoms come does not matter -/
theorem of_same {a b : List At} (h : ∀ y, y ∈ a ↔ y ∈ b) : joinL [] a = joinL [] b :=
  rise_ext (rise_join rise_nil a) (rise_join rise_nil b) (fun y => by
    rw [mem_join, mem_join, h y])
theorem of_back (a : List At) : joinL [] a.reverse = joinL [] a := of_same (fun _ => List.mem_reverse)
theorem of_again (a : List At) : joinL [] (joinL [] a) = joinL [] a := join_self (rise_join rise_nil a)
end Go.Proofs.Ythdppchlnjnloaa
namespace Go.Proofs.Ythdppchlnjnloaa
open Go.RowKit
set_option linter.unusedSimpArgs false
/-- right atoms of one kind that rise -/
def Drn (k : Nat) (L : List At) : Prop := Rise L ∧ ∀ x ∈ L, x.k = (k : Int) ∧ atOK x = true
theorem Drn.nil (k : Nat) : Drn k [] := ⟨rise_nil, fun _ h => absurd h List.not_mem_nil⟩
theorem Drn.put {k : Nat} {L : List At} (h : Drn k L) {x : At} (hk : x.k = (k : Int)) (ho : atOK x = true) : Drn k (putL L x) := ⟨rise_put h.1 x, fun y hy => by
  rcases mem_put.1 hy with h1 | rfl
  · exact h.2 y h1
  · exact ⟨hk, ho⟩⟩
/-- a set that is drawn, at work: n atoms were asked for -/
structure DrO (w : World) (p S : Nat) (a : Option Addr) (l : List UInt8) (c m k n : Nat) (W : World) (g cp : Nat) (L : List At) : Prop where
  bel : Below w.heap.size w W
  pos : w.heap.size ≤ p
  src : ∃ s, Src W p S a l c m s
  ats : Ats W (· = g) (some ⟨g, 0, none⟩) L
  gp : p < g
  lt : g < W.heap.size
  cap : L.length ≤ cp
  len : L.length ≤ n
  drn : Drn k L
variable {w W W' : World} {p S : Nat} {a : Option Addr} {l : List UInt8} {c m k n g cp : Nat} {L : List At}
theorem DrO.draw (h : DrO w p S a l c m k n W g cp L) (hF : Frm (· = p) W W') {s' : Nat} (hS : Src W' p S a l c (m + 1) s') : DrO w p S a l c (m + 1) k n W' g cp L := by
  have hp := h.pos
  have hg := h.gp
  exact ⟨h.bel.trans (hF.below h.bel.size (fun b hb => by omega)), hp, ⟨s', hS⟩, h.ats.same (fun b hb => hF.block b (by rw [hb]; exact h.lt) (by omega)) (fun _ h => h), hg, Nat.lt_of_lt_of_le h.lt hF.size, h.cap, h.len, h.drn⟩
theorem DrO.keep (h : DrO w p S a l c m k n W g cp L) (hB : Below W.heap.size W W') {L' : List At} (e : L' = L) : DrO w p S a l c m k (n + 1) W' g cp L' := by
  subst e
  obtain ⟨s, hs⟩ := h.src
  exact ⟨h.bel.trans (hB.mono h.bel.size), h.pos, ⟨s, hs.on hB⟩, h.ats.same (fun b hb => hB.block b (by rw [hb]; exact h.lt)) (fun _ h => h), h.gp, Nat.lt_of_lt_of_le h.lt hB.size, h.cap, Nat.le_succ_of_le h.len, h.drn⟩
theorem AI.place {B : Nat} {v : Value} (h : AI W B W' v L) : ∃ g c, v = .slice (some ⟨g, 0, none⟩) L.length c ∧ L.length ≤ c ∧ Ats W' (· = g) (some ⟨g, 0, none⟩) L ∧ W.heap.size ≤ g ∧ g < W'.heap.size := by
  obtain ⟨a, c, e, ho⟩ := h.buf.own
  rcases h.buf.2 with ⟨e', -⟩ | ⟨g, cap, cur, rfl, hg, hb, hn, -⟩
  · exact absurd e' h.no
  · injection e with e1 e2 e3
    subst e1
    have hlt : g < W'.heap.size := (Array.getElem?_eq_some_iff.1 hb).1
    refine ⟨g, cap, rfl, hn, ?_, Nat.le_trans h.old hg, hlt⟩
    rcases ho.ats with h0 | ⟨b, off, e, hb', hc⟩
    · exact .inl h0
    · cases e
      exact .inr ⟨g, 0, rfl, rfl, hc⟩
theorem DrO.put (h : DrO w p S a l c m k n W g cp L) {B : Nat} {v : Value} {x : At} (hk : x.k = (k : Int)) (ho : atOK x = true) (hai : AI W B W' v (putL L x)) : ∃ g' c', v = .slice (some ⟨g', 0, none⟩) (putL L x).length c' ∧ DrO w p S a l c m k (n + 1) W' g' c' (putL L x) := by
  obtain ⟨g', c', e, hc, hat, hg, hlt⟩ := hai.place
  obtain ⟨s, hs⟩ := h.src
  have h1 := h.gp
  have h2 := h.lt
  refine ⟨g', c', e, h.bel.trans (hai.bel.mono h.bel.size), h.pos, ⟨s, hs.on hai.bel⟩, hat, by omega, hlt, hc, ?_, h.drn.put hk ho⟩
  have := putL_len L x
  have := h.len
  omega
/-- a drawn set -/
def DatumAns (w : World) (k : Nat) (e : Ending) (W' : World) : Prop := ∃ g cp L, e = .returned (.slice (some ⟨g, 0, none⟩) (L : List At).length cp) ∧ L.length ≤ 4 ∧ Drn k L ∧ Ats W' (· < W'.heap.size) (some ⟨g, 0, none⟩) L ∧ Below w.heap.size w W'
set_option maxRecDepth 100000 in
set_option maxHeartbeats 3200000 in
theorem srcDatum (w W : World) {s : Nat} (h : Src W p S a l c 0 s) (hp : w.heap.size ≤ p) (hB : Below w.heap.size w W) (h1 : 1 ≤ k) (h4 : k ≤ 4) :
    Calls Try.prog 11 #[.pointer (some ⟨p, 0, none⟩), .int .i64 (k : Int)] W (DatumAns w k) := by
  have hA : Below W.heap.size W (W.alloc (.cells #[] 37)) := (Below.refl _ _).alloc (Nat.le_refl _) _
  have hpl : p < W.heap.size := (Array.getElem?_eq_some_iff.1 h.box).1
  have NX := Lib.hid (srcNext (h.on hA) (by omega) 5 (by omega) (by omega))
  have D0 : Hid (∀ w1 s', Frm (· = p) (W.alloc (.cells #[] 37)) w1 → Src w1 p S a l c 1 s' → DrO w p S a l c 1 k 0 w1 W.heap.size 0 []) := fun w1 s' hF hS => by
    have e : (W.alloc (.cells #[] 37)).heap.size = W.heap.size + 1 := by simp
    have hb := hB.trans (hA.mono hB.size)
    have hsz := hF.size
    exact ⟨hb.trans (hF.below hb.size (fun b hb => by omega)), hp, ⟨s', hS⟩, .inl rfl, hpl, by omega, Nat.le_refl _, Nat.le_refl _, Drn.nil k⟩
  have HK : Hid (1 ≤ k ∧ k ≤ 4) := ⟨h1, h4⟩
  clear h hB hA hpl h1 h4 hp
  go_enter Try.func11, Try.ntmps11
  go_wp2_with fail
  refine NX.out.mono ?_
  rintro e w1 ⟨r, s', rfl, hr, hS, hF⟩
  have D1 := Lib.hid (D0.out w1 s' hF hS)
  have HR := Lib.hid hr
  clear hS hF hr D0 NX
  go_wp2_with fail
  go_loopw [5, 6] (fun o i wr => ∃ i' j g cp L, i' + j = r ∧ i = .int .i64 ((i' : Nat) : Int) ∧ o = .slice (some ⟨g, 0, none⟩) L.length cp ∧ Hid (DrO w p S a l c (j + 1) k j wr g cp L)) (fun _ i _ => (intOf i).toNat)
  case atStart => exact ⟨r, 0, _, 0, [], rfl, rfl, rfl, D1⟩
  case round =>
    obtain ⟨i', j, g, cp, L, hij, rfl, rfl, HD⟩ := hrel
    have hj5 : j ≤ 5 := by have := HR.out; omega
    by_cases hi : i' = 0
    · subst hi
      have HL : Hid (L.length ≤ 4) := by have := HD.out.len; have := HR.out; show L.length ≤ 4; omega
      clear hij hj5
      go_wp2_with fail
      go_ret
      exact ⟨g, cp, L, rfl, HL.out, HD.out.drn, HD.out.ats.same (fun _ _ => rfl) (fun b hb => by rw [hb]; exact HD.out.lt), HD.out.bel⟩
    · obtain ⟨q, rfl⟩ : ∃ q, i' = q + 1 := ⟨i' - 1, by omega⟩
      obtain ⟨i2, hi2⟩ : ∃ i2, i2 = q + 1 := ⟨_, rfl⟩
      have d1 : decide (0 < (i2 : Int)) = true := decide_eq_true (by omega)
      have d2 : decide (0 < i2) = true := decide_eq_true (by omega)
      have hq : i2 ≤ 5 := by have := HR.out; omega
      have f1 : IntKind.i64.wrap ((i2 : Int) - 1) = (q : Int) := by rw [IntKind.wrap_i64]; omega
      have HQ : Hid (q + (j + 1) = r) := by show _ = _; omega
      have HI : Hid (i2 = q + 1) := hi2
      obtain ⟨s2, hs2⟩ := HD.out.src
      have AT := Lib.hid (srcAtom hs2 (by omega) k HK.out.1 HK.out.2)
      rw [← hi2]
      clear hij hj5 hi hi2 hq hs2
      go_wp2_with fail
      refine AT.out.mono ?_
      rintro e w2 ⟨x, s3, rfl, hxk, hxo, hS, hF⟩
      have HD2 := Lib.hid (HD.out.draw hF hS)
      have HX : Hid (x.k = (k : Int) ∧ atOK x = true) := ⟨hxk, hxo⟩
      clear hS hF hxk hxo AT
      cases hh : hasB L x
      · have HP : Hid (Calls Try.prog 18 #[.slice (some ⟨g, 0, none⟩) L.length cp, .agg #[.int .i64 x.k, .int .i64 x.n, .string ⟨x.t.toArray⟩]] w2 fun e w' => ∃ g' c', e = .returned (.slice (some ⟨g', 0, none⟩) (putL L x).length c') ∧ DrO w p S a l c (j + 1 + 1) k (j + 1) w' g' c' (putL L x)) :=
          (putS L x g 0 cp w2.heap.size w2 (by have := HD2.out.len; have := HQ.out; have := HR.out; omega) (Nat.le_refl _) (HD2.out.ats.same (fun _ _ => rfl) (fun b hb => by rw [hb]; exact HD2.out.lt)) HD2.out.cap hh).mono (fun e w' ⟨v, B', he, hai⟩ => by
            have hai' : AI w2 B' w' v (putL L x) := hai.cast (by unfold putL; rw [hh]; rfl)
            obtain ⟨g', c', e', hd⟩ := HD2.out.put HX.out.1 HX.out.2 hai'
            exact ⟨g', c', by rw [he, e'], hd⟩)
        clear hh
        generalize L.length = n0 at *
        go_wp2_with (go_at_call 18; refine HP.out.mono ?_; rintro e w3 ⟨g', c', rfl, H3⟩)
        go_roundw
        case rel => exact ⟨q, j + 1, g', c', putL L x, HQ.out, rfl, rfl, H3⟩
        case measure => have := HI.out; simp [intOf]; omega
      · have HP : Hid (Calls Try.prog 18 #[.slice (some ⟨g, 0, none⟩) L.length cp, .agg #[.int .i64 x.k, .int .i64 x.n, .string ⟨x.t.toArray⟩]] w2 fun e w' => e = .returned (.slice (some ⟨g, 0, none⟩) L.length cp) ∧ DrO w p S a l c (j + 1 + 1) k (j + 1) w' g cp L) :=
          (putS1 L x _ cp w2.heap.size w2 (by have := HD2.out.len; have := HQ.out; have := HR.out; omega) (Nat.le_refl _) (HD2.out.ats.same (fun _ _ => rfl) (fun b hb => by rw [hb]; exact HD2.out.lt)) hh).mono (fun e w' ⟨he, hb⟩ => ⟨he, HD2.out.keep hb rfl⟩)
        clear hh
        obtain ⟨n0, hn0⟩ : ∃ n0, n0 = L.length := ⟨_, rfl⟩
        rw [← hn0] at HP ⊢
        have HN0 := Lib.hid hn0
        clear hn0
        go_wp2_with (go_at_call 18; refine HP.out.mono ?_; rintro e w3 ⟨rfl, H3⟩)
        go_roundw
        case rel => exact ⟨q, j + 1, g, cp, L, HQ.out, rfl, by rw [HN0.out], H3⟩
        case measure => have := HI.out; simp [intOf]; omega
end Go.Proofs.Ythdppchlnjnloaa
namespace Go.Proofs.Ythdppchlnjnloaa
open Go.RowKit
set_option linter.unusedSimpArgs false
/-! drawn sets are right, and so is what is made of them -/
theorem Drn.datum {k : Nat} {L : List At} (h : Drn k L) (hl : L.length ≤ 8) : datumB L = true := by
  rw [datumB_yes, decide_eq_true hl]
  intro i hi
  cases i with
  | zero => exact step_zero hi (h.2 _ (List.getElem_mem hi)).2
  | succ m =>
    rw [step_up hi (h.2 _ (List.getElem_mem hi)).2 (by rw [(h.2 _ (List.getElem_mem hi)).1, (h.2 _ (List.getElem_mem (show 0 < L.length by omega))).1])]
    exact decide_eq_true (h.1.get (by omega) hi (by omega))
theorem Drn.two {k : Nat} {A B : List At} (ha : Drn k A) (hb : Drn k B) (h1 : A.length ≤ 8) (h2 : B.length ≤ 8) : twoC A B = 0 := by
  unfold twoC
  rw [if_neg (by omega), if_neg (by rw [ha.datum h1, hb.datum h2]; simp), if_neg]
  rintro ⟨p1, p2, hn⟩
  rw [at_getD p1, at_getD p2] at hn
  exact hn (by rw [(ha.2 _ (List.getElem_mem p1)).1, (hb.2 _ (List.getElem_mem p2)).1])
theorem Drn.join {k : Nat} {A B : List At} (ha : Drn k A) (hb : Drn k B) : Drn k (joinL A B) := ⟨rise_join ha.1 B, fun y hy => by
  rcases mem_join.1 hy with h | h
  · exact ha.2 y h
  · exact hb.2 y h⟩
theorem Drn.minus {k : Nat} {A : List At} (ha : Drn k A) (B : List At) : Drn k (minusA A B) := ⟨rise_minus ha.1 B, fun y hy => ha.2 y (mem_minus.1 hy).1⟩
theorem Drn.text {k : Nat} {A : List At} (ha : Drn k A) : ∀ x ∈ A, x.t.length ≤ maxLen := fun x hx => by
  have := atOK_text (ha.2 x hx).2
  unfold maxLen
  omega
theorem join_drn {k : Nat} {A B : List At} (ha : Drn k A) (hb : Drn k B) (h1 : A.length ≤ 4) (h2 : B.length ≤ 4) : joinR A B = joinL A B ∧ joinC A B = 0 ∧ (joinL A B).length ≤ 8 := by
  have h8 : (joinL A B).length ≤ 8 := by have := join_len A B; omega
  have h0 := ha.two hb (by omega) (by omega)
  refine ⟨?_, ?_, h8⟩
  · unfold joinR
    rw [if_pos ⟨h0, by omega⟩]
  · unfold joinC
    rw [if_pos h0, if_neg (by omega)]
theorem minus_len' (A B : List At) : (minusA A B).length ≤ A.length := List.length_filter_le _ _
theorem less_drn {k : Nat} {A B : List At} (ha : Drn k A) (hb : Drn k B) (h1 : A.length ≤ 8) (h2 : B.length ≤ 8) : lessL A B = minusA A B ∧ twoC A B = 0 := by
  have h0 := ha.two hb h1 h2
  refine ⟨?_, h0⟩
  unfold lessL
  rw [if_pos h0]
/-- what the law of joins asks of drawn sets -/
theorem join_law {k : Nat} {A B : List At} (ha : Drn k A) (hb : Drn k B) (h1 : A.length ≤ 4) (h2 : B.length ≤ 4) :
    joinC A B = 0 ∧ twoC (joinR A B) B = 0 ∧ twoC A B = 0 ∧ lessL (joinR A B) B = lessL A B ∧ joinC (lessL A B) B = 0 ∧ joinR (lessL A B) B = joinR A B := by
  obtain ⟨e1, e2, e3⟩ := join_drn ha hb h1 h2
  obtain ⟨e4, e5⟩ := less_drn ha hb (by omega) (by omega)
  obtain ⟨e6, e7⟩ := less_drn (ha.join hb) hb e3 (by omega)
  have hm := minus_len' A B
  obtain ⟨e8, e9, -⟩ := join_drn (ha.minus B) hb (by omega) h2
  refine ⟨e2, by rw [e1]; exact e7, e5, by rw [e1, e6, e4]; exact minus_join ha.1 B, by rw [e4]; exact e9, by rw [e4, e8, e1]; exact join_minus ha.1 B⟩
end Go.Proofs.Ythdppchlnjnloaa
namespace Go.Proofs.Ythdppchlnjnloaa
open Go.RowKit
set_option linter.unusedSimpArgs false
set_option maxHeartbeats 800000 in
theorem drawnS (l : List UInt8) (a : Option Addr) (c k S : Nat) (w : World) (hS : S ≤ w.heap.size) (hb : Byts w (· < S) a l) (h1 : 1 ≤ k) (h4 : k ≤ 4) :
    Calls Try.prog 5 #[.slice a l.length c, .int .i64 (k : Int)] w (DatumAns w k) := by
  have NW := Lib.hid (srcNew (c := c) w hS hb)
  have DR : Hid (∀ W s, Src W w.heap.size S a l c 0 s → Below w.heap.size w W → Calls Try.prog 11 #[.pointer (some ⟨w.heap.size, 0, none⟩), .int .i64 (k : Int)] W (DatumAns w k)) := fun W s h hB => srcDatum w W h (Nat.le_refl _) hB h1 h4
  clear hb h1 h4 hS
  go_enter Try.func5, Try.ntmps5
  go_wp2_with fail
  refine NW.out.mono ?_
  rintro e w1 ⟨s, rfl, hs, hB⟩
  have D1 := Lib.hid (DR.out w1 s hs hB)
  clear hs hB
  go_wp2_with fail
  refine D1.out.mono ?_
  rintro e w2 ⟨g, cp, L, rfl, hd⟩
  have HD := Lib.hid hd
  clear hd
  go_wp2_with fail
  go_ret
  exact ⟨g, cp, L, rfl, HD.out⟩
set_option maxHeartbeats 1600000 in
theorem sameDatumS (l : List At) (a a' : Option Addr) (c c' : Nat) (A B : Nat → Prop) (w : World) (hl : l.length ≤ 1048576) (hA : Ats w A a l) (hB : Ats w B a' l) :
    Calls Try.prog 9 #[.slice a l.length c, .slice a' l.length c'] w fun e w' => e = .returned (.bool true) ∧ Below w.heap.size w w' := by
  have HA : Hid (Ats w A a l) := hA
  have HB : Hid (Ats w B a' l) := hB
  have nn : ((l.length : Int) != (l.length : Int)) = false := by simp
  clear hA hB
  go_enter Try.func9, Try.ntmps9
  go_wp2_with fail
  go_loopw [5] (fun i wr => ∃ k : Nat, k ≤ l.length ∧ i = .int .i64 k ∧ Hid (Below w.heap.size w wr)) (fun i _ => l.length - (intOf i).toNat)
  case atStart => exact ⟨0, Nat.zero_le _, rfl, Below.refl _ _⟩
  case round =>
    obtain ⟨k, hk, rfl, HW⟩ := hrel
    by_cases hlt : k < l.length
    · obtain ⟨b, off, rfl, -, c0, c1, c2⟩ := (HA.out.later HW.out).item k hlt
      obtain ⟨b', off', rfl, -, d0, d1, d2⟩ := (HB.out.later HW.out).item k hlt
      generalize l[k] = x at *
      have hki : (k : Int) < (l.length : Int) := by omega
      have n1 : (x.k != x.k) = false := by simp
      have n2 : (x.n != x.n) = false := by simp
      go_wp2_with fail
      go_region
      go_wp2_with fail
      go_roundw
      case rel => exact ⟨k + 1, by omega, by go_num, HW.out.drew⟩
      case measure => simp [intOf]; omega
    · have hki : decide ((k : Int) < (l.length : Int)) = false := by simp; omega
      go_wp2_with fail
      go_ret
      exact ⟨rfl, HW.out⟩
end Go.Proofs.Ythdppchlnjnloaa
namespace Go.Proofs.Ythdppchlnjnloaa
open Go.RowKit
set_option linter.unusedSimpArgs false
set_option maxRecDepth 100000 in
set_option maxHeartbeats 3200000 in
/-- the first choice out of n that some bytes make -/
theorem atS (l : List UInt8) (a : Option Addr) (c n : Nat) (B : Nat → Prop) (W : World) (hb : Byts W B a l) (hl : l.length ≤ 1048576) (h1 : 1 < n) (h2 : n ≤ 256) :
    Calls Try.prog 4 #[.slice a l.length c, .int .i64 0, .int .i64 (n : Int)] W fun e W' => ∃ k : Nat, e = .returned (.int .i64 (k : Int)) ∧ k < n ∧ Below W.heap.size W W' := by
  have d1 : decide ((n : Int) ≤ 1) = false := decide_eq_false (by omega)
  have d2 : decide (n ≤ 1) = false := decide_eq_false (by omega)
  have d5 : ((n : Int) == 0) = false := by rw [beq_eq_false_iff_ne]; omega
  have hn0 : n ≠ 0 := by omega
  have HB : Hid (Below W.heap.size W W ∧ Below W.heap.size W W.drew) := ⟨Below.refl _ _, (Below.refl _ _).drew⟩
  have HN : Hid (0 < n) := by show 0 < n; omega
  rcases hb with h0 | ⟨b, off, rfl, hb, hc⟩
  · have e0 : l = [] := List.length_eq_zero_iff.1 h0
    subst e0
    clear h1 h2 hl h0
    go_enter Try.func4, Try.ntmps4
    go_wp2_with fail
    go_ret
    exact ⟨0, rfl, HN.out, HB.out.1⟩
  by_cases h0 : l.length = 0
  · have e0 : l = [] := List.length_eq_zero_iff.1 h0
    subst e0
    clear h1 h2 hl h0 hc
    go_enter Try.func4, Try.ntmps4
    go_wp2_with fail
    go_ret
    exact ⟨0, rfl, HN.out, HB.out.1⟩
  have g1 : ((l.length : Int) == 0) = false := by rw [beq_eq_false_iff_ne]; omega
  have g2 : (l.length == 0) = false := by rw [beq_eq_false_iff_ne]; omega
  have g3 : l ≠ [] := fun e => h0 (by rw [e]; rfl)
  have hp : 0 < l.length := by omega
  obtain ⟨r, hr⟩ : ∃ r : Nat, r = 1 % l.length := ⟨_, rfl⟩
  have hrl : r < l.length := by rw [hr]; exact Nat.mod_lt _ hp
  have t1 : (1 : Int).tmod (l.length : Int) = (r : Int) := by rw [Int.tmod_eq_emod_of_nonneg (by omega), hr, Int.natCast_emod]; rfl
  have t2 : IntKind.i64.wrap (r : Int) = (r : Int) := by rw [IntKind.wrap_i64]; omega
  have c0 := hc 0 hp
  have c1 := hc r hrl
  rw [Nat.add_zero] at c0
  obtain ⟨v0, e0⟩ : ∃ v : Nat, v = l[0].toNat := ⟨_, rfl⟩
  obtain ⟨v1, e1⟩ : ∃ v : Nat, v = l[r].toNat := ⟨_, rfl⟩
  have b0 : v0 < 256 := by rw [e0]; exact UInt8.toNat_lt _
  have b1 : v1 < 256 := by rw [e1]; exact UInt8.toNat_lt _
  rw [← e0] at c0
  rw [← e1] at c1
  obtain ⟨u1, q1⟩ : ∃ u : Nat, u = v0 * 31 := ⟨_, rfl⟩
  obtain ⟨u2, q2⟩ : ∃ u : Nat, u = u1 + v1 := ⟨_, rfl⟩
  obtain ⟨k, q3⟩ : ∃ u : Nat, u = u2 % n := ⟨_, rfl⟩
  have f0 : IntKind.i64.wrap (v0 : Int) = (v0 : Int) := by rw [IntKind.wrap_i64]; omega
  have f1 : IntKind.i64.wrap (v1 : Int) = (v1 : Int) := by rw [IntKind.wrap_i64]; omega
  have f2 : IntKind.i64.wrap ((v0 : Int) * 31) = (u1 : Int) := by rw [IntKind.wrap_i64]; omega
  have f3 : IntKind.i64.wrap ((u1 : Int) + (v1 : Int)) = (u2 : Int) := by rw [IntKind.wrap_i64]; omega
  have f4 : IntKind.i64.wrap (u2 : Int) = (u2 : Int) := by rw [IntKind.wrap_i64]; omega
  have HK : Hid (k < n) := by show k < n; rw [q3]; exact Nat.mod_lt _ HN.out
  have f5 : (u2 : Int).tmod (n : Int) = (k : Int) := by rw [Int.tmod_eq_emod_of_nonneg (by omega), q3, Int.natCast_emod]
  have f6 : IntKind.i64.wrap (k : Int) = (k : Int) := by have := HK.out; rw [IntKind.wrap_i64]; omega
  clear h1 h2 hl hc hb e0 e1 b0 b1 q1 q2 q3 hr h0
  go_enter Try.func4, Try.ntmps4
  go_wp2_with fail
  go_region
  go_wp2_with fail
  go_ret
  exact ⟨k, rfl, HK.out, HB.out.2⟩
end Go.Proofs.Ythdppchlnjnloaa
namespace Go.Proofs.Ythdppchlnjnloaa
open Go.RowKit
set_option linter.unusedSimpArgs false
/-- what impl.DatumLess is to answer -/
def LessSaid : Prop := ∀ (a b : List At) (b1 o1 b2 o2 ca cb : Nat) (S : Nat) (w : World), a.length ≤ 1048576 → b.length ≤ 1048576 → (∀ x ∈ a, x.t.length ≤ maxLen) → (∀ x ∈ b, x.t.length ≤ maxLen) → S ≤ w.heap.size → Ats w (· < S) (some ⟨b1, o1, none⟩) a → Ats w (· < S) (some ⟨b2, o2, none⟩) b →
    Calls Try.prog 8 #[.slice (some ⟨b1, o1, none⟩) a.length ca, .slice (some ⟨b2, o2, none⟩) b.length cb] w (AAns2 w (lessL a b) (twoC a b))
theorem Less_len (a b : List At) : (lessL a b).length ≤ 4096 := by
  unfold lessL
  split
  · rename_i h
    have := (two_len h).1
    exact Nat.le_trans (List.length_filter_le _ _) this
  · simp
end Go.Proofs.Ythdppchlnjnloaa
namespace Go.Proofs.Ythdppchlnjnloaa
open Go.RowKit
set_option linter.unusedSimpArgs false
set_option maxRecDepth 100000 in
set_option maxHeartbeats 3200000 in
theorem datumLessI (a b : List At) (pa pb : Option Addr) (ca cb : Nat) (S : Nat) (w : World) (hla : a.length ≤ 1048576) (hlb : b.length ≤ 1048576) (hxa : ∀ x ∈ a, x.t.length ≤ maxLen) (hxb : ∀ x ∈ b, x.t.length ≤ maxLen) (hw : S ≤ w.heap.size) (hA : Ats w (· < S) pa a) (hB : Ats w (· < S) pb b) :
    Calls Try.prog 8 #[.slice pa a.length ca, .slice pb b.length cb] w (AAns2 w (lessL a b) (twoC a b)) := by
  have TW : Hid (∀ W, Below w.heap.size w W → Calls Try.prog 12 #[.slice pa a.length ca, .slice pb b.length cb] W fun e w' => e = .returned (.int .i64 (twoC a b)) ∧ Below w.heap.size w w') := fun W h =>
    (pairI a b pa pb ca cb S W (by unfold maxLen; omega) (by unfold maxLen; omega) hxa hxb (Nat.le_trans hw h.size) (hA.below (h.mono hw)) (hB.below (h.mono hw))).mono (fun e w' ⟨he, hb⟩ => ⟨he, h.trans (hb.mono h.size)⟩)
  have HA : Hid (Ats w (· < S) pa a) := hA
  have HS : Hid (∀ x W, Below w.heap.size w W → Calls Try.prog 16 #[.slice pb b.length cb, .agg #[.int .i64 x.k, .int .i64 x.n, .string ⟨x.t.toArray⟩]] W fun e w' => e = .returned (.bool (hasB b x)) ∧ Below W.heap.size W w') := fun x W h => containsI b x pb cb _ W (by unfold maxLen; omega) (hB.below (h.mono hw))
  clear hA hB hxa hxb
  have hx := Below.refl w.heap.size w
  by_cases h0 : twoC a b = 0
  · have HL : Hid (lessL a b = minusA a b) := by show lessL a b = _; unfold lessL; rw [if_pos h0]
    rw [h0] at TW ⊢
    rw [HL.out]
    clear h0 HL
    go_enter Try.func8, Try.ntmps8
    go_wp2_with (go_at_call 12; refine (TW.out _ hx).mono ?_; rintro e w1 ⟨rfl, hx⟩)
    go_loopw [7, 18] (fun o i wr => ∃ m : Nat, ∃ vo, m ≤ a.length ∧ i = .int .i64 m ∧ vo = o ∧ Hid (AN w w.heap.size wr vo (minusA (a.take m) b))) (fun _ i _ => a.length - (intOf i).toNat)
    case atStart => exact ⟨0, _, Nat.zero_le _, rfl, rfl, by show AN _ _ _ _ _; exact (AN.first hx).cast (by simp [minusA])⟩
    case round =>
      obtain ⟨m, vo, hm, rfl, rfl, HI⟩ := hrel
      by_cases hlt : m < a.length
      · obtain ⟨b1, o1, rfl, -, c0, c1, c2⟩ := (HA.out.below (HI.out.bel.mono hw)).item m hlt
        have HN : Hid (minusA (a.take (m + 1)) b = minusA (a.take m) b ++ (if hasB b a[m] then [] else [a[m]])) := minus_snoc a b m hlt
        have HM : Hid ((minusA (a.take m) b).length ≤ m) := minus_len a b m
        have hmi : (m : Int) < (a.length : Int) := by omega
        generalize minusA (a.take m) b = l at *
        generalize a[m] = x at *
        have hA1 : Below wr.heap.size wr (wr.alloc (.cells #[.int .i64 x.k, .int .i64 x.n, .string ⟨x.t.toArray⟩] 37)) := (Below.refl _ _).alloc (Nat.le_refl _) _
        have hN1 := heap_newA wr (.cells #[.int .i64 x.k, .int .i64 x.n, .string ⟨x.t.toArray⟩] 37)
        have H0 : Hid (AN w w.heap.size (wr.alloc (.cells #[.int .i64 x.k, .int .i64 x.n, .string ⟨x.t.toArray⟩] 37)) vo l) := HI.out.on hA1
        have HX : Hid ((wr.alloc (.cells #[.int .i64 x.k, .int .i64 x.n, .string ⟨x.t.toArray⟩] 37)).heap[wr.heap.size]? = some (.cells #[.int .i64 x.k, .int .i64 x.n, .string ⟨x.t.toArray⟩] 37)) := hN1
        clear hA1 hN1
        cases hh : hasB b x
        · rw [hh] at HN
          have HS' : Hid (∀ W, Below w.heap.size w W → Calls Try.prog 16 #[.slice pb b.length cb, .agg #[.int .i64 x.k, .int .i64 x.n, .string ⟨x.t.toArray⟩]] W fun e w' => e = .returned (.bool false) ∧ Below W.heap.size W w') := fun W h => by have := HS.out x W h; rw [hh] at this; exact this
          clear hh
          go_wp2_with (first
            | (go_at_call 16; refine (HS'.out _ H0.out.bel).mono ?_; rintro e w2 ⟨rfl, hB1⟩; have H1 : Hid (AN w w.heap.size w2 vo l) := H0.out.on hB1; have hk := heap_keptA HX.out hB1; have d0 := cell_at (o := 0) hk rfl; have d1 := cell_at (o := 1) hk rfl; have d2 := cell_at (o := 2) hk rfl; clear hB1 hk)
            | (at_builtin; refine wpList_apushN rfl (.tmp 26) (.tmp 28) rfl w.heap.size vo l [x] ⟨w2.heap.size, 0, none⟩ 1 1 rfl rfl rfl (H1.out.buf.on ((Below.refl _ _).alloc (Nat.le_refl _) _)) (by have := H1.out.le; simp; omega) (by have := HM.out; simp; omega) (by simp) (news_one _ _ _) ?_; intro v2 w3 hb2 ha2; have H2 : Hid (AN w w.heap.size w3 v2 (l ++ [x])) := (H1.out.on ((Below.refl _ _).alloc (Nat.le_refl _) _)).push hb2 ha2; clear hb2 ha2))
          go_roundw
          case rel => exact ⟨m + 1, v2, by omega, by go_num, rfl, by show AN _ _ _ _ _; rw [HN.out]; exact H2.out⟩
          case measure => simp [intOf]; omega
        · rw [hh] at HN
          have HS' : Hid (∀ W, Below w.heap.size w W → Calls Try.prog 16 #[.slice pb b.length cb, .agg #[.int .i64 x.k, .int .i64 x.n, .string ⟨x.t.toArray⟩]] W fun e w' => e = .returned (.bool true) ∧ Below W.heap.size W w') := fun W h => by have := HS.out x W h; rw [hh] at this; exact this
          clear hh
          go_wp2_with (go_at_call 16; refine (HS'.out _ H0.out.bel).mono ?_; rintro e w2 ⟨rfl, hB1⟩; have H1 : Hid (AN w w.heap.size w2 vo l) := H0.out.on hB1; clear hB1)
          go_roundw
          case rel => exact ⟨m + 1, vo, by omega, by go_num, rfl, by show AN _ _ _ _ _; rw [HN.out]; exact H1.out.cast (by simp)⟩
          case measure => simp [intOf]; omega
      · have HE : Hid (minusA (a.take m) b = minusA a b) := by show _ = _; rw [List.take_of_length_le (by omega)]
        have hmi : decide ((m : Int) < (a.length : Int)) = false := by simp; omega
        go_wp2_with fail
        go_ret2
        exact (HI.out.cast HE.out).ans2
  · have HL : Hid (lessL a b = []) := by show lessL a b = _; unfold lessL; rw [if_neg h0]
    obtain ⟨q, hq⟩ : ∃ q, q = twoC a b := ⟨_, rfl⟩
    rw [← hq] at TW h0 ⊢
    have hq0 : (q != 0) = true := by simpa using h0
    clear hq h0
    go_enter Try.func8, Try.ntmps8
    go_wp2_with (go_at_call 12; refine (TW.out _ hx).mono ?_; rintro e w1 ⟨rfl, hx⟩)
    go_ret2
    exact AAns2.none HL.out hx
theorem lessSaidI : LessSaid := fun a b _ _ _ _ ca cb S w hla hlb hxa hxb hw hA hB => datumLessI a b _ _ ca cb S w hla hlb hxa hxb hw hA hB
end Go.Proofs.Ythdppchlnjnloaa
namespace Go.Proofs.Ythdppchlnjnloaa
open Go.RowKit
set_option linter.unusedSimpArgs false
theorem Ats.up {W W' : World} {q : Option Addr} {L : List At} (h : Ats W (· < W.heap.size) q L) (hB : Below W.heap.size W W') : Ats W' (· < W'.heap.size) q L := h.same (fun b hb => hB.block b hb) (fun _ hb => Nat.lt_of_lt_of_le hb hB.size)
theorem AAns2.two {W w' : World} {L : List At} {c : Int} {e : Ending} (h : AAns2 W L c e w') : ∃ q cp, e = .returned (.tuple #[.slice q L.length cp, .int .i64 c]) ∧ Ats w' (· < w'.heap.size) q L ∧ Below W.heap.size W w' := by
  obtain ⟨q, cp, e, ho, hb⟩ := h
  exact ⟨q, cp, e, ho.ats.same (fun _ _ => rfl) (fun _ hb => hb.2), hb⟩
theorem Byts.up {w W : World} {q : Option Addr} {l : List UInt8} (h : Byts w (· < w.heap.size) q l) (hB : Below w.heap.size w W) : Byts W (· < w.heap.size) q l := h.same (fun b hb => hB.block b hb) (fun _ h => h)
/-- an answer: a list in memory and the code 0 -/
def JAns (W : World) (L : List At) (e : Ending) (w' : World) : Prop := ∃ q cp, e = .returned (.tuple #[.slice q L.length cp, .int .i64 0]) ∧ Ats w' (· < w'.heap.size) q L ∧ Below W.heap.size W w'
set_option maxRecDepth 100000 in
set_option maxHeartbeats 6400000 in
theorem lawFnJoin (l1 l2 : List UInt8) (pa pb : Option Addr) (ca cb : Nat) (w : World) (h1 : Byts w (· < w.heap.size) pa l1) (h2 : Byts w (· < w.heap.size) pb l2) :
    Calls Try.prog 3 #[.slice pa l1.length ca, .slice pb l2.length cb] w fun e w' => e = .returned (.bool true) ∧ Below w.heap.size w w' := by
  by_cases g1 : 1048576 < l1.length
  · have d1 : decide (1048576 < (l1.length : Int)) = true := decide_eq_true (by omega)
    have d2 : decide (1048576 < l1.length) = true := decide_eq_true g1
    go_enter Try.func3, Try.ntmps3
    go_wp2_with fail
    go_ret
    exact ⟨rfl, Below.refl _ _⟩
  have d1 : decide (1048576 < (l1.length : Int)) = false := decide_eq_false (by omega)
  have d2 : decide (1048576 < l1.length) = false := decide_eq_false g1
  by_cases g2 : 1048576 < l2.length
  · have d3 : decide (1048576 < (l2.length : Int)) = true := decide_eq_true (by omega)
    have d4 : decide (1048576 < l2.length) = true := decide_eq_true g2
    go_enter Try.func3, Try.ntmps3
    go_wp2_with fail
    go_ret
    exact ⟨rfl, Below.refl _ _⟩
  have d3 : decide (1048576 < (l2.length : Int)) = false := decide_eq_false (by omega)
  have d4 : decide (1048576 < l2.length) = false := decide_eq_false g2
  have AT : Hid (Calls Try.prog 4 #[.slice pb l2.length cb, .int .i64 0, .int .i64 4] w fun e W' => ∃ k : Nat, e = .returned (.int .i64 (k : Int)) ∧ k < 4 ∧ Below w.heap.size w W') := atS l2 pb cb 4 _ w h2 (by omega) (by omega) (by omega)
  have H1 := Lib.hid h1
  have H2 := Lib.hid h2
  clear h1 h2 g1 g2
  go_enter Try.func3, Try.ntmps3
  go_wp2_with fail
  refine AT.out.mono ?_
  rintro e w1 ⟨k0, rfl, hk0, hB1⟩
  obtain ⟨k, hk⟩ : ∃ k : Nat, k = 1 + k0 := ⟨_, rfl⟩
  have f1 : IntKind.i64.wrap (1 + (k0 : Int)) = (k : Int) := by rw [IntKind.wrap_i64]; omega
  have HB1 := Lib.hid hB1
  have DA := Lib.hid (drawnS l1 pa ca k w.heap.size w1 hB1.size (H1.out.up hB1) (by omega) (by omega))
  have DB : Hid (∀ W, Below w.heap.size w W → Calls Try.prog 5 #[.slice pb l2.length cb, .int .i64 (k : Int)] W (DatumAns W k)) := fun W h => drawnS l2 pb cb k w.heap.size W h.size (H2.out.up h) (by omega) (by omega)
  clear hk hk0 hB1 AT
  go_wp2_with fail
  refine DA.out.mono ?_
  rintro e w2 ⟨ga, ka, A, rfl, hA4, hAd, hAt, hB2⟩
  have HA : Hid (A.length ≤ 4 ∧ Drn k A) := ⟨hA4, hAd⟩
  have M2 : Hid (Below w.heap.size w w2 ∧ Ats w2 (· < w2.heap.size) (some ⟨ga, 0, none⟩) A) := ⟨HB1.out.trans (hB2.mono HB1.out.size), hAt⟩
  clear hA4 hAd hAt hB2 DA HB1
  go_wp2_with fail
  refine (DB.out _ M2.out.1).mono ?_
  rintro e w3 ⟨gb, kb, B, rfl, hB4, hBd, hBt, hB3⟩
  have HBB : Hid (B.length ≤ 4 ∧ Drn k B) := ⟨hB4, hBd⟩
  have M3 : Hid (Below w.heap.size w w3 ∧ Ats w3 (· < w3.heap.size) (some ⟨ga, 0, none⟩) A ∧ Ats w3 (· < w3.heap.size) (some ⟨gb, 0, none⟩) B) := ⟨M2.out.1.trans (hB3.mono M2.out.1.size), M2.out.2.up hB3, hBt⟩
  clear hB4 hBd hBt hB3 DB M2
  obtain ⟨e1, e2, e3, e4, e5, e6⟩ := join_law HA.out.2 HBB.out.2 HA.out.1 HBB.out.1
  have bX : (joinR A B).length ≤ 1048576 ∧ ∀ x ∈ joinR A B, x.t.length ≤ maxLen := by
    obtain ⟨q1, -, q3⟩ := join_drn HA.out.2 HBB.out.2 HA.out.1 HBB.out.1
    rw [q1]
    exact ⟨by omega, (HA.out.2.join HBB.out.2).text⟩
  have bZ : (lessL A B).length ≤ 1048576 ∧ ∀ x ∈ lessL A B, x.t.length ≤ maxLen := by
    obtain ⟨q1, -⟩ := less_drn HA.out.2 HBB.out.2 (by have := HA.out.1; omega) (by have := HBB.out.1; omega)
    rw [q1]
    have := minus_len' A B
    have := HA.out.1
    exact ⟨by omega, (HA.out.2.minus B).text⟩
  have lA : A.length ≤ 1048576 := by have := HA.out.1; omega
  have lB : B.length ≤ 1048576 := by have := HBB.out.1; omega
  have J1 : Hid (∀ W cp cq, Ats W (· < W.heap.size) (some ⟨ga, 0, none⟩) A → Ats W (· < W.heap.size) (some ⟨gb, 0, none⟩) B → Calls Try.prog 6 #[.slice (some ⟨ga, 0, none⟩) A.length cp, .slice (some ⟨gb, 0, none⟩) B.length cq] W (JAns W (joinR A B))) := fun W cp cq h h' =>
    (datumJoinO A B _ _ cp cq W.heap.size W lA lB HA.out.2.text HBB.out.2.text (Nat.le_refl _) h h').mono (fun e w' hh => by rw [e1] at hh; exact hh.two)
  have J2 : Hid (∀ W cp cq, Ats W (· < W.heap.size) (some ⟨ga, 0, none⟩) A → Ats W (· < W.heap.size) (some ⟨gb, 0, none⟩) B → Calls Try.prog 7 #[.slice (some ⟨ga, 0, none⟩) A.length cp, .slice (some ⟨gb, 0, none⟩) B.length cq] W (JAns W (joinR A B))) := fun W cp cq h h' =>
    (datumJoinS A B _ _ cp cq _ W.heap.size W lA lB HA.out.2.text HBB.out.2.text (Nat.le_refl _) h h').mono (fun e w' hh => by rw [e1] at hh; exact hh.two)
  have L1 : Hid (∀ W q cp cq, Ats W (· < W.heap.size) q (joinR A B) → Ats W (· < W.heap.size) (some ⟨gb, 0, none⟩) B → Calls Try.prog 8 #[.slice q (joinR A B).length cp, .slice (some ⟨gb, 0, none⟩) B.length cq] W (JAns W (lessL A B))) := fun W q cp cq h h' =>
    (datumLessI _ B _ _ cp cq W.heap.size W bX.1 lB bX.2 HBB.out.2.text (Nat.le_refl _) h h').mono (fun e w' hh => by rw [e2, e4] at hh; exact hh.two)
  have L2 : Hid (∀ W cp cq, Ats W (· < W.heap.size) (some ⟨ga, 0, none⟩) A → Ats W (· < W.heap.size) (some ⟨gb, 0, none⟩) B → Calls Try.prog 8 #[.slice (some ⟨ga, 0, none⟩) A.length cp, .slice (some ⟨gb, 0, none⟩) B.length cq] W (JAns W (lessL A B))) := fun W cp cq h h' =>
    (datumLessI A B _ _ cp cq W.heap.size W lA lB HA.out.2.text HBB.out.2.text (Nat.le_refl _) h h').mono (fun e w' hh => by rw [e3] at hh; exact hh.two)
  have J3 : Hid (∀ W q cp cq, Ats W (· < W.heap.size) q (lessL A B) → Ats W (· < W.heap.size) (some ⟨gb, 0, none⟩) B → Calls Try.prog 6 #[.slice q (lessL A B).length cp, .slice (some ⟨gb, 0, none⟩) B.length cq] W (JAns W (joinR A B))) := fun W q cp cq h h' =>
    (datumJoinO _ B _ _ cp cq W.heap.size W bZ.1 lB bZ.2 HBB.out.2.text (Nat.le_refl _) h h').mono (fun e w' hh => by rw [e5, e6] at hh; exact hh.two)
  have SX : Hid (∀ W q q' c c', Ats W (· < W.heap.size) q (joinR A B) → Ats W (· < W.heap.size) q' (joinR A B) → Calls Try.prog 9 #[.slice q (joinR A B).length c, .slice q' (joinR A B).length c'] W fun e w' => e = .returned (.bool true) ∧ Below W.heap.size W w') := fun W q q' c c' h h' => sameDatumS _ q q' c c' _ _ W bX.1 h h'
  have SZ : Hid (∀ W q q' c c', Ats W (· < W.heap.size) q (lessL A B) → Ats W (· < W.heap.size) q' (lessL A B) → Calls Try.prog 9 #[.slice q (lessL A B).length c, .slice q' (lessL A B).length c'] W fun e w' => e = .returned (.bool true) ∧ Below W.heap.size W w') := fun W q q' c c' h h' => sameDatumS _ q q' c c' _ _ W bZ.1 h h'
  clear e1 e2 e3 e4 e5 e6 bX bZ lA lB HA HBB
  generalize joinR A B = X at *
  generalize lessL A B = Z at *
  go_wp2_with fail
  refine (J1.out _ _ _ M3.out.2.1 M3.out.2.2).mono ?_
  rintro e w4 ⟨qx, cx, rfl, hx, hB4⟩
  have M4 : Hid (Below w.heap.size w w4 ∧ Ats w4 (· < w4.heap.size) (some ⟨ga, 0, none⟩) A ∧ Ats w4 (· < w4.heap.size) (some ⟨gb, 0, none⟩) B ∧ Ats w4 (· < w4.heap.size) qx X) := ⟨M3.out.1.trans (hB4.mono M3.out.1.size), M3.out.2.1.up hB4, M3.out.2.2.up hB4, hx⟩
  clear hx hB4 M3
  go_wp2_with fail
  refine (J2.out _ _ _ M4.out.2.1 M4.out.2.2.1).mono ?_
  rintro e w5 ⟨qw, cw, rfl, hx, hB5⟩
  have M5 : Hid (Below w.heap.size w w5 ∧ Ats w5 (· < w5.heap.size) (some ⟨ga, 0, none⟩) A ∧ Ats w5 (· < w5.heap.size) (some ⟨gb, 0, none⟩) B ∧ Ats w5 (· < w5.heap.size) qx X ∧ Ats w5 (· < w5.heap.size) qw X) := ⟨M4.out.1.trans (hB5.mono M4.out.1.size), M4.out.2.1.up hB5, M4.out.2.2.1.up hB5, M4.out.2.2.2.up hB5, hx⟩
  clear hx hB5 M4
  go_wp2_with fail
  refine (L1.out _ _ _ _ M5.out.2.2.2.1 M5.out.2.2.1).mono ?_
  rintro e w6 ⟨qy, cy, rfl, hx, hB6⟩
  have M6 : Hid (Below w.heap.size w w6 ∧ Ats w6 (· < w6.heap.size) (some ⟨ga, 0, none⟩) A ∧ Ats w6 (· < w6.heap.size) (some ⟨gb, 0, none⟩) B ∧ Ats w6 (· < w6.heap.size) qx X ∧ Ats w6 (· < w6.heap.size) qw X ∧ Ats w6 (· < w6.heap.size) qy Z) := ⟨M5.out.1.trans (hB6.mono M5.out.1.size), M5.out.2.1.up hB6, M5.out.2.2.1.up hB6, M5.out.2.2.2.1.up hB6, M5.out.2.2.2.2.up hB6, hx⟩
  clear hx hB6 M5
  go_wp2_with fail
  refine (L2.out _ _ _ M6.out.2.1 M6.out.2.2.1).mono ?_
  rintro e w7 ⟨qz, cz, rfl, hx, hB7⟩
  have M7 : Hid (Below w.heap.size w w7 ∧ Ats w7 (· < w7.heap.size) (some ⟨gb, 0, none⟩) B ∧ Ats w7 (· < w7.heap.size) qx X ∧ Ats w7 (· < w7.heap.size) qw X ∧ Ats w7 (· < w7.heap.size) qy Z ∧ Ats w7 (· < w7.heap.size) qz Z) := ⟨M6.out.1.trans (hB7.mono M6.out.1.size), M6.out.2.2.1.up hB7, M6.out.2.2.2.1.up hB7, M6.out.2.2.2.2.1.up hB7, M6.out.2.2.2.2.2.up hB7, hx⟩
  clear hx hB7 M6
  go_wp2_with fail
  refine (J3.out _ _ _ _ M7.out.2.2.2.2.2 M7.out.2.1).mono ?_
  rintro e w8 ⟨qv, cv, rfl, hx, hB8⟩
  have M8 : Hid (Below w.heap.size w w8 ∧ Ats w8 (· < w8.heap.size) qx X ∧ Ats w8 (· < w8.heap.size) qw X ∧ Ats w8 (· < w8.heap.size) qy Z ∧ Ats w8 (· < w8.heap.size) qz Z ∧ Ats w8 (· < w8.heap.size) qv X) := ⟨M7.out.1.trans (hB8.mono M7.out.1.size), M7.out.2.2.1.up hB8, M7.out.2.2.2.1.up hB8, M7.out.2.2.2.2.1.up hB8, M7.out.2.2.2.2.2.up hB8, hx⟩
  clear hx hB8 M7
  go_wp2_with fail
  refine (SX.out _ _ _ _ _ M8.out.2.1 M8.out.2.2.1).mono ?_
  rintro e w9 ⟨rfl, hB9⟩
  have M9 : Hid (Below w.heap.size w w9 ∧ Ats w9 (· < w9.heap.size) qx X ∧ Ats w9 (· < w9.heap.size) qy Z ∧ Ats w9 (· < w9.heap.size) qz Z ∧ Ats w9 (· < w9.heap.size) qv X) := ⟨M8.out.1.trans (hB9.mono M8.out.1.size), M8.out.2.1.up hB9, M8.out.2.2.2.1.up hB9, M8.out.2.2.2.2.1.up hB9, M8.out.2.2.2.2.2.up hB9⟩
  clear hB9 M8
  go_wp2_with fail
  refine (SZ.out _ _ _ _ _ M9.out.2.2.1 M9.out.2.2.2.1).mono ?_
  rintro e w10 ⟨rfl, hB10⟩
  have M10 : Hid (Below w.heap.size w w10 ∧ Ats w10 (· < w10.heap.size) qx X ∧ Ats w10 (· < w10.heap.size) qv X) := ⟨M9.out.1.trans (hB10.mono M9.out.1.size), M9.out.2.1.up hB10, M9.out.2.2.2.2.up hB10⟩
  clear hB10 M9
  go_wp2_with fail
  refine (SX.out _ _ _ _ _ M10.out.2.2 M10.out.2.1).mono ?_
  rintro e w11 ⟨rfl, hB11⟩
  have M11 : Hid (Below w.heap.size w w11) := M10.out.1.trans (hB11.mono M10.out.1.size)
  clear hB11 M10
  go_wp2_with fail
  go_ret
  exact ⟨rfl, M11.out⟩
end Go.Proofs.Ythdppchlnjnloaa
