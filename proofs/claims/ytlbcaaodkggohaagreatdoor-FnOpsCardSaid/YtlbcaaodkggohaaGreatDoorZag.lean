import Derived.Test.YtlbcaaodkggohaaGreatDoorZaf
import Derived.Test.YtlbcaaodkggohaaGreatDoorZae
import Derived.Test.YtlbcaaodkggohaaGreatDoorZad
import Derived.Laws.CopyRow
import Derived.Lib.Overlaps
import Derived.Lib.AppendZerosOnto
import Derived.Deep.RegionLaw
import Derived.Lib.Hide
import Derived.Deep.RegionHeld3
import Derived.Test.YtlbcaaodkggohaaGreatDoorZac
import Derived.Test.YtlbcaaodkggohaaGreatDoorZaa
import Derived.Deep.OwnRows
import Derived.Laws.IdiomStrings
import Derived.Deep.MidRow
import Derived.Deep.QuietTactic
import Derived.BigQuiet
import Derived.Deep.RegionWith
namespace Go.Proofs.YtlbcaaodkggohaaGreatDoor
open Go.RowKit
set_option linter.unusedSimpArgs false
set_option maxHeartbeats 1600000 in
theorem putS1 (l : List At) (x : At) (a : Option Addr) (c : Nat) (S : Nat) (w : World) (hl : l.length ≤ 1048576) (hw : S ≤ w.heap.size) (hA : Ats w (· < S) a l) (hh : hasB l x = true) :
  Calls Tryz.prog 95 #[.slice a l.length c, .agg #[.int .i64 x.k, .int .i64 x.n, .string ⟨x.t.toArray⟩]] w fun e w' => e = .returned (.slice a l.length c) ∧ Below w.heap.size w w' := by
 have HS : Hid (∀ W, Below w.heap.size w W → Calls Tryz.prog 109 #[.slice a l.length c, .agg #[.int .i64 x.k, .int .i64 x.n, .string ⟨x.t.toArray⟩]] W fun e w' => e = .returned (.bool true) ∧ Below w.heap.size w w') := fun W h => by
  have h1 := hasS l x a c _ W (by unfold maxLen; omega) (hA.below (h.mono hw)); rw [hh] at h1; exact h1.mono (fun e w' ⟨he, hb⟩ => ⟨he, h.trans (hb.mono h.size)⟩)
 have hB0 : Hid (Below w.heap.size w (w.alloc (.cells #[.int .i64 x.k, .int .i64 x.n, .string ⟨x.t.toArray⟩] 132))) := (Below.refl _ _).alloc (Nat.le_refl _) _; clear hA hh; (go_enter Tryz.func95, Tryz.ntmps95); (go_wp2_with (go_at_call 109; refine (HS.out _ hB0.out).mono ?_; rintro e w1 ⟨rfl, hB1⟩)); go_ret; exact ⟨rfl, hB1⟩
theorem putL_len (l : List At) (x : At) : (putL l x).length ≤ l.length + 1 := by
 unfold putL
 split
 ·
  omega
 ·
  have := posTo_le l x l.length; unfold posA; simp; omega
def insA (l : List At) (i : Nat) (x : At) : List At := l.take i ++ [x] ++ l.drop i
theorem bl_trans : ∀ x y z : List UInt8, Op.bytesLess x y = true → Op.bytesLess y z = true → Op.bytesLess x z = true
 | _, [], _, h, _ => by cases ‹List UInt8› <;> simp [Op.bytesLess] at h
 | _, _ :: _, [], _, h => by simp [Op.bytesLess] at h
 | [], _ :: _, _ :: _, _, _ => by simp [Op.bytesLess]
 | a :: r, b :: s, c :: t, h, k => by
  simp only [Op.bytesLess, Bool.or_eq_true, Bool.and_eq_true, decide_eq_true_eq, beq_iff_eq] at h k ⊢; rcases h with h | ⟨h1, h2⟩
  ·
   rcases k with k | ⟨k1, k2⟩
   ·
    exact .inl (UInt8.lt_trans h k)
   ·
    exact .inl (k1 ▸ h)
  ·
   rcases k with k | ⟨k1, k2⟩
   ·
    exact .inl (h1 ▸ k)
   ·
    exact .inr ⟨h1.trans k1, bl_trans r s t h2 k2⟩
theorem bl_tri : ∀ x y : List UInt8, x ≠ y → Op.bytesLess x y = false → Op.bytesLess y x = true
 | [], [], h, _ => absurd rfl h
 | [], _ :: _, _, h => by simp [Op.bytesLess] at h
 | _ :: _, [], _, _ => by simp [Op.bytesLess]
 | a :: r, b :: s, hn, h => by
  simp only [Op.bytesLess, Bool.or_eq_false_iff, Bool.and_eq_false_iff, decide_eq_false_iff_not, Bool.or_eq_true, Bool.and_eq_true, decide_eq_true_eq, beq_iff_eq, beq_eq_false_iff_ne] at h ⊢
  by_cases e : a = b
  ·
   subst e; refine .inr ⟨rfl, bl_tri r s (fun e => hn (by rw [e])) ?_⟩; rcases h.2 with h | h
   ·
    exact absurd rfl h
   ·
    exact h
  ·
   left
   rcases Nat.lt_or_ge b.toNat a.toNat with h1 | h1
   ·
    exact h1
   ·
    have h2 : ¬ a.toNat < b.toNat := h.1; exact absurd (UInt8.toNat_inj.1 (by omega)) e
theorem bl_asymm {x y : List UInt8} (h : Op.bytesLess x y = true) : Op.bytesLess y x = false := by
 cases e : Op.bytesLess y x
 ·
  rfl
 ·
  have := bl_trans x y x h e; rw [bl_self] at this
  cases this
theorem cmp_lt {a b : At} : cmpA a b < 0 ↔ a.k < b.k ∨ (a.k = b.k ∧ (a.n < b.n ∨ (a.n = b.n ∧ Op.bytesLess a.t b.t = true))) := by
 unfold cmpA
 by_cases h : a.k = b.k
 ·
  rw [if_neg (by simp [h])]
  by_cases h2 : a.n = b.n
  ·
   rw [if_neg (by simp [h2])]
   by_cases h3 : a.t = b.t
   ·
    rw [if_neg (by simp [h3]), h3, bl_self]; simp; omega
   ·
    rw [if_pos h3]
    by_cases h4 : Op.bytesLess a.t b.t = true
    ·
     rw [if_pos h4]; simp [h, h2, h4]
    ·
     rw [if_neg h4]; simp [h, h2, h4]
  ·
   rw [if_pos h2]
   by_cases h3 : a.n < b.n
   ·
    rw [if_pos h3]; simp [h, h3]
   ·
    rw [if_neg h3]; simp [h, h2, h3]
 ·
  rw [if_pos h]
  by_cases h3 : a.k < b.k
  ·
   rw [if_pos h3]; simp [h3]
  ·
   rw [if_neg h3]; simp [h, h3]
theorem cmp_trans {a b c : At} (h : cmpA a b < 0) (k : cmpA b c < 0) : cmpA a c < 0 := by
  rw [cmp_lt] at h k ⊢; rcases h with h | ⟨h1, h2⟩
  · rcases k with k | ⟨k1, -⟩
    · exact .inl (by omega)
    · exact .inl (by omega)
  · rcases k with k | ⟨k1, k2⟩
    · exact .inl (by omega)
    · refine .inr ⟨by omega, ?_⟩
      rcases h2 with h2 | ⟨h2, h3⟩
      · rcases k2 with k2 | ⟨k2, -⟩
        · exact .inl (by omega)
        · exact .inl (by omega)
      · rcases k2 with k2 | ⟨k2, k3⟩
        · exact .inl (by omega)
        · exact .inr ⟨by omega, bl_trans _ _ _ h3 k3⟩
theorem cmp_self (a : At) : ¬ cmpA a a < 0 := by rw [cmp_0 rfl rfl rfl]; omega
theorem cmp_gt {a b : At} (h : cmpA a b < 0) : 0 < cmpA b a := by
  rw [cmp_lt] at h; unfold cmpA; rcases h with h | ⟨h1, h | ⟨h2, h3⟩⟩
  · rw [if_pos (by omega), if_neg (by omega)]; omega
  · rw [if_neg (by omega), if_pos (by omega), if_neg (by omega)]; omega
  · rw [if_neg (by omega), if_neg (by omega), if_pos (fun e => by rw [e, bl_self] at h3; cases h3), if_neg (by rw [bl_asymm h3]; simp)]; omega
theorem cmp_tri {a b : At} (hn : a ≠ b) (h : ¬ cmpA a b < 0) : cmpA b a < 0 := by
  rw [cmp_lt] at h ⊢
  by_cases h1 : a.k = b.k
  · by_cases h2 : a.n = b.n
    · by_cases h3 : a.t = b.t
      · exact absurd (At.ext' h1 h2 h3) hn
      · refine .inr ⟨h1.symm, .inr ⟨h2.symm, bl_tri _ _ h3 ?_⟩⟩
        cases e : Op.bytesLess a.t b.t
        · rfl
        · exact absurd (.inr ⟨h1, .inr ⟨h2, e⟩⟩) h
    · exact .inr ⟨h1.symm, .inl (by omega)⟩
  · exact .inl (by omega)
def Rise (l : List At) : Prop := l.Pairwise (fun a b => cmpA a b < 0)
theorem Rise.get {l : List At} (h : Rise l) {i j : Nat} (hi : i < l.length) (hj : j < l.length) (hij : i < j) : cmpA l[i] l[j] < 0 := (List.pairwise_iff_getElem.1 h) i j hi hj hij
theorem posTo_at {l : List At} {x : At} {m : Nat} (h1 : ∀ q (h : q < l.length), q < m → cmpA l[q] x < 0) (h2 : ∀ q (h : q < l.length), m ≤ q → 0 < cmpA l[q] x) : ∀ k, m ≤ k → k ≤ l.length → posTo l x k = m
 | 0, h, _ => by rw [posTo]; omega
 | k + 1, h, hk => by
  rw [posTo, at_getD (show k < l.length by omega)]
  by_cases e : m ≤ k
  ·
   rw [if_pos (h2 k (by omega) e)]; exact posTo_at h1 h2 k e (by omega)
  ·
   have := h1 k (by omega) (by omega); rw [if_neg (by omega)]; omega
theorem rise_ins {l : List At} {x : At} {m : Nat} (hR : Rise l) (h1 : ∀ q (h : q < l.length), q < m → cmpA l[q] x < 0) (h2 : ∀ q (h : q < l.length), m ≤ q → cmpA x l[q] < 0) : Rise (insA l m x) := by
 unfold Rise insA
 have hA : ∀ a ∈ l.take m, cmpA a x < 0 := fun a ha => by
  obtain ⟨q, hq, rfl⟩ := List.getElem_of_mem ha; rw [List.length_take] at hq; rw [List.getElem_take]; exact h1 q (by omega) (by omega)
 have hB : ∀ b ∈ l.drop m, cmpA x b < 0 := fun b hb => by
  obtain ⟨q, hq, rfl⟩ := List.getElem_of_mem hb; rw [List.getElem_drop]; exact h2 (m + q) (by rw [List.length_drop] at hq; omega) (by omega)
 have hT : Rise (l.take m ++ l.drop m) := by rw [List.take_append_drop]; exact hR
 unfold Rise at hT; rw [List.pairwise_append] at hT ⊢; refine ⟨?_, hT.2.1, fun a ha b hb => ?_⟩
 ·
  rw [List.pairwise_append]; exact ⟨hT.1, List.pairwise_singleton _ _, fun a ha b hb => by rw [List.mem_singleton.1 hb]; exact hA a ha⟩
 ·
  rcases List.mem_append.1 ha with ha | ha
  ·
   exact hT.2.2 a ha b hb
  ·
   rw [List.mem_singleton.1 ha]; exact hB b hb
theorem put_has {l : List At} {x : At} {m : Nat} (hm : m < l.length) (he : l[m] = x) : putL l x = l := by
 unfold putL; rw [if_pos (hasB_true hm he)]
theorem put_ins {l : List At} {x : At} {m : Nat} (hR : Rise l) (hm : m ≤ l.length) (h1 : ∀ q (h : q < l.length), q < m → cmpA l[q] x < 0) (h2 : ∀ h : m < l.length, ¬ cmpA l[m] x < 0 ∧ l[m] ≠ x) : putL l x = insA l m x ∧ Rise (insA l m x) := by
 have h3 : ∀ q (h : q < l.length), m ≤ q → cmpA x l[q] < 0 := fun q h hq => by
  obtain ⟨a, b⟩ := h2 (by omega); have h0 := cmp_tri b a
  by_cases e : m = q
  ·
   subst e; exact h0
  ·
   exact cmp_trans h0 (hR.get (by omega) h (by omega))
 have hh : hasB l x = false := hasB_false (fun k hk e => by
  by_cases hlt : k < m
  ·
   exact cmp_self x (e ▸ h1 k hk hlt)
  ·
   exact cmp_self x (by have := h3 k hk (by omega); rw [e] at this; exact this))
 refine ⟨?_, rise_ins hR h1 h3⟩; unfold putL posA; rw [if_neg (by rw [hh]; simp), posTo_at h1 (fun q h hq => cmp_gt (h3 q h hq)) l.length hm (Nat.le_refl _)]
 rfl
theorem place_ex (l : List At) (x : At) : ∃ m, m ≤ l.length ∧ (∀ q (h : q < l.length), q < m → cmpA l[q] x < 0) ∧ ∀ h : m < l.length, ¬ cmpA l[m] x < 0 := by
 refine ⟨l.findIdx (fun y => !decide (cmpA y x < 0)), List.findIdx_le_length, fun q h hq => ?_, fun h => ?_⟩
 ·
  have := List.not_of_lt_findIdx hq
  simpa using this
 ·
  have := List.findIdx_getElem (w := h)
  simpa using this
theorem rise_put {l : List At} (hR : Rise l) (x : At) : Rise (putL l x) := by
 obtain ⟨m, hm, h1, h2⟩ := place_ex l x
 by_cases h : ∃ h : m < l.length, l[m] = x
 ·
  obtain ⟨h, he⟩ := h; rw [put_has h he]; exact hR
 ·
  obtain ⟨e, hr⟩ := put_ins hR hm h1 (fun h' => ⟨h2 h', fun e => h ⟨h', e⟩⟩); rw [e]; exact hr
theorem rise_nil : Rise [] := List.Pairwise.nil
theorem hasB_iff {l : List At} {x : At} : hasB l x = true ↔ x ∈ l := by
 unfold hasB; rw [List.any_eq_true]; constructor
 ·
  rintro ⟨y, hy, e⟩; rw [← sameAt_iff.1 e]; exact hy
 ·
  intro h; exact ⟨x, h, sameAt_iff.2 rfl⟩
theorem mem_put {l : List At} {x y : At} : y ∈ putL l x ↔ y ∈ l ∨ y = x := by
  unfold putL
  split
  · rename_i h
    constructor
    · exact .inl
    · rintro (h' | rfl)
      · exact h'
      · exact hasB_iff.1 h
  · have e : y ∈ l ↔ y ∈ l.take (posA l x) ∨ y ∈ l.drop (posA l x) := by
      rw [← List.mem_append, List.take_append_drop]
    rw [e, List.mem_append, List.mem_append, List.mem_singleton]; constructor
    · rintro ((h | h) | h)
      · exact .inl (.inl h)
      · exact .inr h
      · exact .inl (.inr h)
    · rintro ((h | h) | h)
      · exact .inl (.inl h)
      · exact .inr h
      · exact .inl (.inr h)
def Drn (k : Nat) (L : List At) : Prop := Rise L ∧ ∀ x ∈ L, x.k = (k : Int) ∧ atOK x = true
theorem Drn.nil (k : Nat) : Drn k [] := ⟨rise_nil, fun _ h => absurd h List.not_mem_nil⟩
theorem Drn.put {k : Nat} {L : List At} (h : Drn k L) {x : At} (hk : x.k = (k : Int)) (ho : atOK x = true) : Drn k (putL L x) := ⟨rise_put h.1 x, fun y hy => by
  rcases mem_put.1 hy with h1 | rfl
  · exact h.2 y h1
  · exact ⟨hk, ho⟩⟩
variable {w W W' : World} {p S : Nat} {a : Option Addr} {l : List UInt8} {c m k n g cp : Nat} {L : List At}
theorem AI.place {B : Nat} {v : Value} (h : AI W B W' v L) : ∃ g c, v = .slice (some ⟨g, 0, none⟩) L.length c ∧ L.length ≤ c ∧ Ats W' (· = g) (some ⟨g, 0, none⟩) L ∧ W.heap.size ≤ g ∧ g < W'.heap.size := by
 obtain ⟨a, c, e, ho⟩ := h.buf.own; rcases h.buf.2 with ⟨e', -⟩ | ⟨g, cap, cur, rfl, hg, hb, hn, -⟩
 ·
  exact absurd e' h.no
 ·
  injection e with e1 e2 e3
  subst e1; have hlt : g < W'.heap.size := (Array.getElem?_eq_some_iff.1 hb).1; refine ⟨g, cap, rfl, hn, ?_, Nat.le_trans h.old hg, hlt⟩; rcases ho.ats with h0 | ⟨b, off, e, hb', hc⟩
  ·
   exact .inl h0
  ·
   cases e
   exact .inr ⟨g, 0, rfl, rfl, hc⟩
end Go.Proofs.YtlbcaaodkggohaaGreatDoor
namespace Go.Proofs.YtlbcaaodkggohaaGreatDoor
open Go.RowKit
set_option linter.unusedSimpArgs false
structure DrV (W0 : World) (p S : Nat) (a : Option Addr) (l : List UInt8) (c m k n : Nat) (W : World) (g cp : Nat) (L : List At) : Prop where
 frm : Frm (· = p) W0 W
 pos : p < W0.heap.size
 src : ∃ s, Src W p S a l c m s
 ats : Ats W (· = g) (some ⟨g, 0, none⟩) L
 gp : W0.heap.size ≤ g
 lt : g < W.heap.size
 cap : L.length ≤ cp
 len : L.length ≤ n
 drn : Drn k L
variable {W0 W W' : World} {p S : Nat} {a : Option Addr} {l : List UInt8} {c m s k n g cp : Nat} {L : List At}
theorem DrV.draw (h : DrV W0 p S a l c m k n W g cp L) (hF : Frm (· = p) W W') {s' : Nat} (hS : Src W' p S a l c (m + 1) s') : DrV W0 p S a l c (m + 1) k n W' g cp L := by
 have hp := h.pos; have hg := h.gp; exact ⟨h.frm.trans hF, hp, ⟨s', hS⟩, h.ats.same (fun b hb => hF.block b (by rw [hb]; exact h.lt) (by omega)) (fun _ h => h), hg, Nat.lt_of_lt_of_le h.lt hF.size, h.cap, h.len, h.drn⟩
theorem DrV.keep (h : DrV W0 p S a l c m k n W g cp L) (hB : Below W.heap.size W W') {L' : List At} (e : L' = L) : DrV W0 p S a l c m k (n + 1) W' g cp L' := by
 subst e; obtain ⟨s, hs⟩ := h.src; exact ⟨h.frm.trans (Frm.of_below hB), h.pos, ⟨s, hs.on hB⟩, h.ats.same (fun b hb => hB.block b (by rw [hb]; exact h.lt)) (fun _ h => h), h.gp, Nat.lt_of_lt_of_le h.lt hB.size, h.cap, Nat.le_succ_of_le h.len, h.drn⟩
theorem DrV.put (h : DrV W0 p S a l c m k n W g cp L) {B : Nat} {v : Value} {x : At} (hk : x.k = (k : Int)) (ho : atOK x = true) (hai : AI W B W' v (putL L x)) : ∃ g' c', v = .slice (some ⟨g', 0, none⟩) (putL L x).length c' ∧ DrV W0 p S a l c m k (n + 1) W' g' c' (putL L x) := by
 obtain ⟨g', c', e, hc, hat, hg, hlt⟩ := hai.place; obtain ⟨s, hs⟩ := h.src; have h1 := h.gp; have h2 := h.lt; refine ⟨g', c', e, h.frm.trans (Frm.of_below hai.bel), h.pos, ⟨s, hs.on hai.bel⟩, hat, by omega, hlt, hc, ?_, h.drn.put hk ho⟩; have := putL_len L x; have := h.len
 omega
def DatumV (W : World) (p S : Nat) (a : Option Addr) (l : List UInt8) (c m k : Nat) (e : Ending) (W' : World) : Prop := ∃ g cp L m' s', e = .returned (.slice (some ⟨g, 0, none⟩) (L : List At).length cp) ∧ L.length ≤ 4 ∧ Drn k L ∧ Ats W' (· = g) (some ⟨g, 0, none⟩) L ∧ W.heap.size ≤ g ∧ g < W'.heap.size ∧ L.length ≤ cp ∧ m' ≤ m + 5 ∧ Src W' p S a l c m' s' ∧ Frm (· = p) W W'
set_option maxRecDepth 100000 in
set_option maxHeartbeats 3200000 in
theorem srcDatumV (h : Src W p S a l c m s) (hm : m < 990000) (h1 : 1 ≤ k) (h4 : k ≤ 4) :
  Calls Tryz.prog 68 #[.pointer (some ⟨p, 0, none⟩), .int .i64 (k : Int)] W (DatumV W p S a l c m k) := by
 have hA : Below W.heap.size W (W.alloc (.cells #[] 132)) := (Below.refl _ _).alloc (Nat.le_refl _) _; have hpl : p < W.heap.size := (Array.getElem?_eq_some_iff.1 h.box).1; have NX := Lib.hid (srcNext (h.on hA) (by omega) 5 (by omega) (by omega))
 have D0 : Hid (∀ w1 s', Frm (· = p) (W.alloc (.cells #[] 132)) w1 → Src w1 p S a l c (m + 1) s' → DrV W p S a l c (m + 0 + 1) k 0 w1 W.heap.size 0 []) := fun w1 s' hF hS => by
  have e : (W.alloc (.cells #[] 132)).heap.size = W.heap.size + 1 := by simp
  have hsz := hF.size; exact ⟨(Frm.of_below hA).trans hF, hpl, ⟨s', hS⟩, .inl rfl, Nat.le_refl _, by omega, Nat.le_refl _, Nat.le_refl _, Drn.nil k⟩
 have HK : Hid (1 ≤ k ∧ k ≤ 4) := ⟨h1, h4⟩; have HM := Lib.hid hm; clear h hA hpl h1 h4 hm; (go_enter Tryz.func68, Tryz.ntmps68); (go_wp2_with fail); refine NX.out.mono ?_; rintro e w1 ⟨r, s', rfl, hr, hS, hF⟩; have D1 := Lib.hid (D0.out w1 s' hF hS); have HR := Lib.hid hr; clear hS hF hr D0 NX; (go_wp2_with fail); go_loopw [5, 6] (fun o i wr => ∃ i' j g cp L, i' + j = r ∧ i = .int .i64 ((i' : Nat) : Int) ∧ o = .slice (some ⟨g, 0, none⟩) L.length cp ∧ Hid (DrV W p S a l c (m + j + 1) k j wr g cp L)) (fun _ i _ => (intOf i).toNat)
 case atStart => exact ⟨r, 0, _, 0, [], rfl, rfl, rfl, D1⟩
 case round =>
  obtain ⟨i', j, g, cp, L, hij, rfl, rfl, HD⟩ := hrel; have hj5 : j ≤ 5 := by have := HR.out; omega
  have HJ : Hid (j ≤ 4) := by have := HR.out; show j ≤ 4; omega
  by_cases hi : i' = 0
  ·
   subst hi; have HL : Hid (L.length ≤ 4) := by have := HD.out.len; have := HR.out; show L.length ≤ 4; omega
   clear hij hj5; (go_wp2_with fail); go_ret; obtain ⟨s9, hs9⟩ := HD.out.src; exact ⟨g, cp, L, _, s9, rfl, HL.out, HD.out.drn, HD.out.ats, HD.out.gp, HD.out.lt, HD.out.cap, by have := HJ.out; omega, hs9, HD.out.frm⟩
  ·
   obtain ⟨q, rfl⟩ : ∃ q, i' = q + 1 := ⟨i' - 1, by omega⟩; obtain ⟨i2, hi2⟩ : ∃ i2, i2 = q + 1 := ⟨_, rfl⟩; have d1 : decide (0 < (i2 : Int)) = true := decide_eq_true (by omega); have d2 : decide (0 < i2) = true := decide_eq_true (by omega); have hq : i2 ≤ 5 := by have := HR.out; omega
   have f1 : IntKind.i64.wrap ((i2 : Int) - 1) = (q : Int) := by rw [IntKind.wrap_i64]; omega
   have HQ : Hid (q + (j + 1) = r) := by show _ = _; omega
   have HI : Hid (i2 = q + 1) := hi2; obtain ⟨s2, hs2⟩ := HD.out.src; have AT := Lib.hid (srcAtom hs2 (by have := HM.out; omega) k HK.out.1 HK.out.2); rw [← hi2]; clear hij hj5 hi hi2 hq hs2; (go_wp2_with fail); refine AT.out.mono ?_; rintro e w2 ⟨x, s3, rfl, hxk, hxo, hS, hF⟩; have HD2 := Lib.hid (HD.out.draw hF hS); have HX : Hid (x.k = (k : Int) ∧ atOK x = true) := ⟨hxk, hxo⟩; clear hS hF hxk hxo AT
   cases hh : hasB L x
   ·
    have HP : Hid (Calls Tryz.prog 95 #[.slice (some ⟨g, 0, none⟩) L.length cp, .agg #[.int .i64 x.k, .int .i64 x.n, .string ⟨x.t.toArray⟩]] w2 fun e w' => ∃ g' c', e = .returned (.slice (some ⟨g', 0, none⟩) (putL L x).length c') ∧ DrV W p S a l c (m + (j + 1) + 1) k (j + 1) w' g' c' (putL L x)) :=
     (putS L x g 0 cp w2.heap.size w2 (by have := HD2.out.len; have := HQ.out; have := HR.out; omega) (Nat.le_refl _) (HD2.out.ats.same (fun _ _ => rfl) (fun b hb => by rw [hb]; exact HD2.out.lt)) HD2.out.cap hh).mono (fun e w' ⟨v, B', he, hai⟩ => by
      have hai' : AI w2 B' w' v (putL L x) := hai.cast (by unfold putL; rw [hh]; rfl); obtain ⟨g', c', e', hd⟩ := HD2.out.put HX.out.1 HX.out.2 hai'; exact ⟨g', c', by rw [he, e'], hd⟩)
    clear hh; generalize L.length = n0 at *; (go_wp2_with (go_at_call 95; refine HP.out.mono ?_; rintro e w3 ⟨g', c', rfl, H3⟩)); go_roundw
    case rel => exact ⟨q, j + 1, g', c', putL L x, HQ.out, rfl, rfl, H3⟩
    case measure => have := HI.out; simp [intOf]; omega
   ·
    have HP : Hid (Calls Tryz.prog 95 #[.slice (some ⟨g, 0, none⟩) L.length cp, .agg #[.int .i64 x.k, .int .i64 x.n, .string ⟨x.t.toArray⟩]] w2 fun e w' => e = .returned (.slice (some ⟨g, 0, none⟩) L.length cp) ∧ DrV W p S a l c (m + (j + 1) + 1) k (j + 1) w' g cp L) :=
     (putS1 L x _ cp w2.heap.size w2 (by have := HD2.out.len; have := HQ.out; have := HR.out; omega) (Nat.le_refl _) (HD2.out.ats.same (fun _ _ => rfl) (fun b hb => by rw [hb]; exact HD2.out.lt)) hh).mono (fun e w' ⟨he, hb⟩ => ⟨he, HD2.out.keep hb rfl⟩)
    clear hh; obtain ⟨n0, hn0⟩ : ∃ n0, n0 = L.length := ⟨_, rfl⟩; rw [← hn0] at HP ⊢; have HN0 := Lib.hid hn0; clear hn0; (go_wp2_with (go_at_call 95; refine HP.out.mono ?_; rintro e w3 ⟨rfl, H3⟩)); go_roundw
    case rel => exact ⟨q, j + 1, g, cp, L, HQ.out, rfl, by rw [HN0.out], H3⟩
    case measure => have := HI.out; simp [intOf]; omega
end Go.Proofs.YtlbcaaodkggohaaGreatDoor
namespace Go.Proofs.YtlbcaaodkggohaaGreatDoor
open Go.RowKit
set_option linter.unusedSimpArgs false
inductive D where
 | i (n : Int)
 | s (t : List UInt8)
 | b (x : Bool)
 | l (n m : Nat) (f : Nat → Nat → D)
def sumN : Nat → (Nat → Nat) → Nat
 | 0, _ => 0
 | n + 1, g => sumN n g + g n
theorem sumN_succ (n : Nat) (g : Nat → Nat) : sumN (n + 1) g = sumN n g + g n := rfl
theorem sumN_congr {g h : Nat → Nat} : ∀ {n : Nat}, (∀ i, i < n → g i = h i) → sumN n g = sumN n h
 | 0, _ => rfl
 | n + 1, e => by rw [sumN_succ, sumN_succ, sumN_congr (n := n) (fun i hi => e i (by omega)), e n (by omega)]
theorem sumN_bound {g h : Nat → Nat} : ∀ {n : Nat}, (∀ i, i < n → g i ≤ h i) → sumN n g ≤ sumN n h
 | 0, _ => Nat.le_refl _
 | n + 1, e => by rw [sumN_succ, sumN_succ]; have := sumN_bound (n := n) (fun i hi => e i (by omega)); have := e n (by omega); omega
theorem sumN_lin (c N : Nat) (g : Nat → Nat) : ∀ n : Nat, sumN n (fun i => c + N * g i) = n * c + N * sumN n g
 | 0 => by simp [sumN]
 | n + 1 => by rw [sumN_succ, sumN_succ, sumN_lin c N g n, Nat.succ_mul, Nat.mul_add]; omega
def D.sz : D → Nat
 | .i _ => 0
 | .s t => t.length
 | .b _ => 0
 | .l n m f => m + sumN m (fun i => sumN n (fun j => (f i j).sz))
def iOK (n : Int) : Prop := (Lit.int .i64 n).wf = true
def D.le (K : Nat) : D → Prop
 | .i n => iOK n
 | .s t => t.length ≤ K
 | .b _ => True
 | .l n m f => n ≤ 64 ∧ m ≤ K ∧ ∀ i j, i < m → j < n → (f i j).le K
theorem D.le.mono {K K' : Nat} (h : K ≤ K') : ∀ d : D, d.le K → d.le K'
 | .i _, h0 => h0
 | .s _, h0 => Nat.le_trans h0 h
 | .b _, _ => trivial
 | .l _ _ f, h0 => ⟨h0.1, Nat.le_trans h0.2.1 h, fun i j hi hj => D.le.mono h (f i j) (h0.2.2 i j hi hj)⟩
def Rd (w : World) (B : Nat → Prop) : D → Value → Prop
 | .i n, v => v = .int .i64 n
 | .s t, v => v = .string ⟨t.toArray⟩
 | .b x, v => v = .bool x
 | .l n m f, v => ∃ a c, v = .slice a m c ∧ (m = 0 ∨ ∃ b off, a = some ⟨b, off, none⟩ ∧ B b ∧ 0 < n ∧ ∀ i j, i < m → j < n → ∃ u, w.cell? ⟨b, off + i * n + j, none⟩ = some u ∧ Rd w B (f i j) u)
theorem Rd.same {w w' : World} {B B' : Nat → Prop} (hs : ∀ b, B b → w'.heap[b]? = w.heap[b]?) (hB : ∀ b, B b → B' b) : ∀ (d : D) (v : Value), Rd w B d v → Rd w' B' d v
 | .i _, _, h => h
 | .s _, _, h => h
 | .b _, _, h => h
 | .l n m f, v, h => by
  obtain ⟨a, c, hv, h⟩ := h; refine ⟨a, c, hv, h.imp id ?_⟩; rintro ⟨b, off, ha, hb, hn, hc⟩; refine ⟨b, off, ha, hB b hb, hn, fun i j hi hj => ?_⟩; obtain ⟨u, hu, hr⟩ := hc i j hi hj; exact ⟨u, by rw [World.cell?_of_block (w := w) (a := ⟨b, off + i * n + j, none⟩) (hs b hb)]; exact hu, Rd.same hs hB (f i j) u hr⟩
theorem Rd.inside {w : World} {B : Nat → Prop} : ∀ (d : D) (v : Value), Rd w B d v → Rd w (fun b => B b ∧ b < w.heap.size) d v
 | .i _, _, h => h
 | .s _, _, h => h
 | .b _, _, h => h
 | .l n m f, v, h => by
  obtain ⟨a, c, hv, h⟩ := h; refine ⟨a, c, hv, ?_⟩
  by_cases h0 : m = 0
  ·
   exact .inl h0
  rcases h with h | ⟨b, off, ha, hb, hn, hc⟩
  ·
   exact .inl h
  obtain ⟨u, hu, -⟩ := hc 0 0 (by omega) hn; refine .inr ⟨b, off, ha, ⟨hb, World.block_lt_of_cell? _ _ hu⟩, hn, fun i j hi hj => ?_⟩; obtain ⟨u, hu, hr⟩ := hc i j hi hj; exact ⟨u, hu, Rd.inside (f i j) u hr⟩
theorem Rd.later {w w' : World} {B : Nat → Prop} {d : D} {v : Value} (h : Rd w B d v) (hb : Below w.heap.size w w') : Rd w' B d v :=
 Rd.same (B := fun b => B b ∧ b < w.heap.size) (fun b h => hb.block b h.2) (fun _ h => h.1) d v (Rd.inside d v h)
theorem Rd.mono {w : World} {B B' : Nat → Prop} {d : D} {v : Value} (h : Rd w B d v) (hB : ∀ b, B b → B' b) : Rd w B' d v := Rd.same (fun _ _ => rfl) hB d v h
theorem Rd.lt {w : World} {B : Nat → Prop} {d : D} {v : Value} (h : Rd w B d v) : Rd w (· < w.heap.size) d v := (Rd.inside d v h).mono (fun _ h => h.2)
theorem Rd.frm {w w' : World} {B F : Nat → Prop} {d : D} {v : Value} (h : Rd w B d v) (hF : Frm F w w') (hn : ∀ b, B b → ¬ F b) : Rd w' B d v :=
 Rd.same (B := fun b => B b ∧ b < w.heap.size) (fun b h => hF.block b h.2 (hn b h.1)) (fun _ h => h.1) d v (Rd.inside d v h)
theorem Rd.slice {w : World} {B : Nat → Prop} {n m : Nat} {f : Nat → Nat → D} {v : Value} (h : Rd w B (.l n m f) v) : ∃ a c, v = .slice a m c := by obtain ⟨a, c, h, -⟩ := h; exact ⟨a, c, h⟩
theorem Rd.cells {w : World} {B : Nat → Prop} {n m : Nat} {f : Nat → Nat → D} {a : Option Addr} {c : Nat} (h : Rd w B (.l n m f) (.slice a m c)) {i : Nat} (hi : i < m) :
  ∃ b off, a = some ⟨b, off, none⟩ ∧ B b ∧ ∀ j, j < n → ∃ u, w.cell? ⟨b, off + i * n + j, none⟩ = some u ∧ Rd w B (f i j) u := by
 obtain ⟨a', c', hv, h⟩ := h; simp only [Value.slice.injEq] at hv; obtain ⟨rfl, -, -⟩ := hv; rcases h with h | ⟨b, off, ha, hb, -, hc⟩
 ·
  omega
 ·
  exact ⟨b, off, ha, hb, fun j hj => hc i j hi hj⟩
theorem Rd.spot {w : World} {B : Nat → Prop} {n m : Nat} {f : Nat → Nat → D} {b off c : Nat} (h : Rd w B (.l n m f) (.slice (some ⟨b, off, none⟩) m c)) {i j : Nat} (hi : i < m) (hj : j < n) : ∃ u, w.cell? ⟨b, off + i * n + j, none⟩ = some u ∧ Rd w B (f i j) u := by
 obtain ⟨b', off', e, -, hc⟩ := h.cells hi; simp only [Option.some.injEq, Addr.mk.injEq, and_true] at e; obtain ⟨rfl, rfl⟩ := e; exact hc j hj
theorem frm_set (w : World) (b o : Nat) (v : Value) : Frm (· = b) w (w.setCell ⟨b, o, none⟩ v) := (Frm.refl _ _).set (B := (· = b)) rfl v
def lsF {α : Type} (d : α → Nat → D) (l : List α) : Nat → Nat → D := fun i => match l[i]? with
 | some x => d x
 | none => fun _ => .i 0
def Ls {α : Type} (n : Nat) (d : α → Nat → D) (l : List α) : D := .l n l.length (lsF d l)
theorem lsF_at {α : Type} {d : α → Nat → D} {l : List α} {i : Nat} (h : i < l.length) : lsF d l i = d l[i] := by
 unfold lsF; rw [List.getElem?_eq_getElem h]
def szT (n : Nat) (t : Nat → D) : Nat := sumN n (fun j => (t j).sz)
def szL {α : Type} (n : Nat) (d : α → Nat → D) (l : List α) (k : Nat) : Nat := sumN k (fun i => szT n (lsF d l i))
theorem Ls_le {α : Type} {n K : Nat} {d : α → Nat → D} {l : List α} : (Ls n d l).le K ↔ n ≤ 64 ∧ l.length ≤ K ∧ ∀ i (h : i < l.length) j, j < n → (d l[i] j).le K := by
 unfold Ls; simp only [D.le]; constructor
 ·
  rintro ⟨h0, h1, h2⟩; exact ⟨h0, h1, fun i hi j hj => by have := h2 i j hi hj; rwa [lsF_at hi] at this⟩
 ·
  rintro ⟨h0, h1, h2⟩; exact ⟨h0, h1, fun i j hi hj => by rw [lsF_at hi]; exact h2 i hi j hj⟩
theorem Rd.things {α : Type} {w : World} {B : Nat → Prop} {n : Nat} {d : α → Nat → D} {l : List α} {a : Option Addr} {c : Nat} (h : Rd w B (Ls n d l) (.slice a l.length c)) (i : Nat) (hi : i < l.length) :
  ∃ b off, a = some ⟨b, off, none⟩ ∧ B b ∧ ∀ j, j < n → ∃ u, w.cell? ⟨b, off + i * n + j, none⟩ = some u ∧ Rd w B (d l[i] j) u := by
 obtain ⟨b, off, ha, hb, hc⟩ := Rd.cells h hi; refine ⟨b, off, ha, hb, fun j hj => ?_⟩; have := hc j hj
 rwa [lsF_at hi] at this
theorem Rd.spotT {α : Type} {w : World} {B : Nat → Prop} {n : Nat} {d : α → Nat → D} {l : List α} {b off c : Nat} (h : Rd w B (Ls n d l) (.slice (some ⟨b, off, none⟩) l.length c)) {i j : Nat} (hi : i < l.length) (hj : j < n) : ∃ u, w.cell? ⟨b, off + i * n + j, none⟩ = some u ∧ Rd w B (d l[i] j) u := by
 have := Rd.spot h hi hj
 rwa [lsF_at hi] at this
theorem Rd.lsSlice {α : Type} {w : World} {B : Nat → Prop} {n : Nat} {d : α → Nat → D} {l : List α} {v : Value} (h : Rd w B (Ls n d l) v) : ∃ a c, v = .slice a l.length c := Rd.slice h
theorem Rd.lsNil {α : Type} {w : World} {B : Nat → Prop} {n : Nat} {d : α → Nat → D} (a : Option Addr) (c : Nat) : Rd w B (Ls n d ([] : List α)) (.slice a 0 c) := ⟨a, c, rfl, .inl rfl⟩
theorem spot_lt {i j n L : Nat} (hi : i < L) (hj : j < n) : i * n + j < L * n := by
 obtain ⟨k, rfl⟩ : ∃ k, L = i + 1 + k := ⟨L - i - 1, by omega⟩; have : (i + 1 + k) * n = i * n + n + k * n := by rw [Nat.add_mul, Nat.add_mul, Nat.one_mul]
 omega
section
variable {w wr w1 : World} {n m : Nat} {f : Nat → Nat → D} {k : Nat} {B : Nat → Prop} {b off : Nat} {X : Nat → Nat → Nat → Prop} {i j : Nat}
end
end Go.Proofs.YtlbcaaodkggohaaGreatDoor
