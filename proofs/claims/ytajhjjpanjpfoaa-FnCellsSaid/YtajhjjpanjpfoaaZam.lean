import Derived.Test.YtajhjjpanjpfoaaZal
import Derived.Deep.RegionHeld3
import Derived.Test.YtajhjjpanjpfoaaZaj
import Derived.Test.YtajhjjpanjpfoaaZaf
namespace Go.Proofs.Ytajhjjpanjpfoaa
open Go.RowKit
set_option linter.unusedSimpArgs false
theorem place_ex (l : List At) (x : At) : ∃ m, m ≤ l.length ∧ (∀ q (h : q < l.length), q < m → cmpA l[q] x < 0) ∧ ∀ h : m < l.length, ¬ cmpA l[m] x < 0 := by
  refine ⟨l.findIdx (fun y => !decide (cmpA y x < 0)), List.findIdx_le_length, fun q h hq => ?_, fun h => ?_⟩
  · have := List.not_of_lt_findIdx hq
    simpa using this
  · have := List.findIdx_getElem (w := h)
    simpa using this
theorem rise_put {l : List At} (hR : Rise l) (x : At) : Rise (putL l x) := by
  obtain ⟨m, hm, h1, h2⟩ := place_ex l x
  by_cases h : ∃ h : m < l.length, l[m] = x
  · obtain ⟨h, he⟩ := h
    rw [put_has h he]; exact hR
  · obtain ⟨e, hr⟩ := put_ins hR hm h1 (fun h' => ⟨h2 h', fun e => h ⟨h', e⟩⟩)
    rw [e]; exact hr
structure Sl where
  l : List At
  a : Option Addr
  c : Nat
def flat (s : List Sl) : List At := s.flatMap (·.l)
theorem rise_nil : Rise [] := List.Pairwise.nil
end Go.Proofs.Ytajhjjpanjpfoaa
namespace Go.Proofs.Ytajhjjpanjpfoaa
open Go.RowKit
set_option linter.unusedSimpArgs false
theorem hasB_iff {l : List At} {x : At} : hasB l x = true ↔ x ∈ l := by
  unfold hasB
  rw [List.any_eq_true]
  constructor
  · rintro ⟨y, hy, e⟩
    rw [← sameAt_iff.1 e]
    exact hy
  · intro h
    exact ⟨x, h, sameAt_iff.2 rfl⟩
theorem mem_put {l : List At} {x y : At} : y ∈ putL l x ↔ y ∈ l ∨ y = x := by
  unfold putL
  split
  · rename_i h
    constructor
    · exact .inl
    · rintro (h' | rfl)
      · exact h'
      · exact hasB_iff.1 h
  · have e : y ∈ l ↔ y ∈ l.take (posA l x) ∨ y ∈ l.drop (posA l x) := by
      rw [← List.mem_append, List.take_append_drop]
    rw [e, List.mem_append, List.mem_append, List.mem_singleton]
    constructor
    · rintro ((h | h) | h)
      · exact .inl (.inl h)
      · exact .inr h
      · exact .inl (.inr h)
    · rintro ((h | h) | h)
      · exact .inl (.inl h)
      · exact .inr h
      · exact .inl (.inr h)
end Go.Proofs.Ytajhjjpanjpfoaa
namespace Go.Proofs.Ytajhjjpanjpfoaa
open Go.RowKit
set_option linter.unusedSimpArgs false
def Drn (k : Nat) (L : List At) : Prop := Rise L ∧ ∀ x ∈ L, x.k = (k : Int) ∧ atOK x = true
theorem Drn.nil (k : Nat) : Drn k [] := ⟨rise_nil, fun _ h => absurd h List.not_mem_nil⟩
theorem Drn.put {k : Nat} {L : List At} (h : Drn k L) {x : At} (hk : x.k = (k : Int)) (ho : atOK x = true) : Drn k (putL L x) := ⟨rise_put h.1 x, fun y hy => by
  rcases mem_put.1 hy with h1 | rfl
  · exact h.2 y h1
  · exact ⟨hk, ho⟩⟩
variable {w W W' : World} {p S : Nat} {a : Option Addr} {l : List UInt8} {c m k n g cp : Nat} {L : List At}
theorem AI.place {B : Nat} {v : Value} (h : AI W B W' v L) : ∃ g c, v = .slice (some ⟨g, 0, none⟩) L.length c ∧ L.length ≤ c ∧ Ats W' (· = g) (some ⟨g, 0, none⟩) L ∧ W.heap.size ≤ g ∧ g < W'.heap.size := by
  obtain ⟨a, c, e, ho⟩ := h.buf.own
  rcases h.buf.2 with ⟨e', -⟩ | ⟨g, cap, cur, rfl, hg, hb, hn, -⟩
  · exact absurd e' h.no
  · injection e with e1 e2 e3
    subst e1
    have hlt : g < W'.heap.size := (Array.getElem?_eq_some_iff.1 hb).1
    refine ⟨g, cap, rfl, hn, ?_, Nat.le_trans h.old hg, hlt⟩
    rcases ho.ats with h0 | ⟨b, off, e, hb', hc⟩
    · exact .inl h0
    · cases e
      exact .inr ⟨g, 0, rfl, rfl, hc⟩
end Go.Proofs.Ytajhjjpanjpfoaa
namespace Go.Proofs.Ytajhjjpanjpfoaa
open Go.RowKit
set_option linter.unusedSimpArgs false
structure DrV (W0 : World) (p S : Nat) (a : Option Addr) (l : List UInt8) (c m k n : Nat) (W : World) (g cp : Nat) (L : List At) : Prop where
  frm : Frm (· = p) W0 W
  pos : p < W0.heap.size
  src : ∃ s, Src W p S a l c m s
  ats : Ats W (· = g) (some ⟨g, 0, none⟩) L
  gp : W0.heap.size ≤ g
  lt : g < W.heap.size
  cap : L.length ≤ cp
  len : L.length ≤ n
  drn : Drn k L
variable {W0 W W' : World} {p S : Nat} {a : Option Addr} {l : List UInt8} {c m s k n g cp : Nat} {L : List At}
theorem DrV.draw (h : DrV W0 p S a l c m k n W g cp L) (hF : Frm (· = p) W W') {s' : Nat} (hS : Src W' p S a l c (m + 1) s') : DrV W0 p S a l c (m + 1) k n W' g cp L := by
  have hp := h.pos
  have hg := h.gp
  exact ⟨h.frm.trans hF, hp, ⟨s', hS⟩, h.ats.same (fun b hb => hF.block b (by rw [hb]; exact h.lt) (by omega)) (fun _ h => h), hg, Nat.lt_of_lt_of_le h.lt hF.size, h.cap, h.len, h.drn⟩
theorem DrV.keep (h : DrV W0 p S a l c m k n W g cp L) (hB : Below W.heap.size W W') {L' : List At} (e : L' = L) : DrV W0 p S a l c m k (n + 1) W' g cp L' := by
  subst e
  obtain ⟨s, hs⟩ := h.src
  exact ⟨h.frm.trans (Frm.of_below hB), h.pos, ⟨s, hs.on hB⟩, h.ats.same (fun b hb => hB.block b (by rw [hb]; exact h.lt)) (fun _ h => h), h.gp, Nat.lt_of_lt_of_le h.lt hB.size, h.cap, Nat.le_succ_of_le h.len, h.drn⟩
theorem DrV.put (h : DrV W0 p S a l c m k n W g cp L) {B : Nat} {v : Value} {x : At} (hk : x.k = (k : Int)) (ho : atOK x = true) (hai : AI W B W' v (putL L x)) : ∃ g' c', v = .slice (some ⟨g', 0, none⟩) (putL L x).length c' ∧ DrV W0 p S a l c m k (n + 1) W' g' c' (putL L x) := by
  obtain ⟨g', c', e, hc, hat, hg, hlt⟩ := hai.place
  obtain ⟨s, hs⟩ := h.src
  have h1 := h.gp
  have h2 := h.lt
  refine ⟨g', c', e, h.frm.trans (Frm.of_below hai.bel), h.pos, ⟨s, hs.on hai.bel⟩, hat, by omega, hlt, hc, ?_, h.drn.put hk ho⟩
  have := putL_len L x
  have := h.len
  omega
def DatumV (W : World) (p S : Nat) (a : Option Addr) (l : List UInt8) (c m k : Nat) (e : Ending) (W' : World) : Prop := ∃ g cp L m' s', e = .returned (.slice (some ⟨g, 0, none⟩) (L : List At).length cp) ∧ L.length ≤ 4 ∧ Drn k L ∧ Ats W' (· = g) (some ⟨g, 0, none⟩) L ∧ W.heap.size ≤ g ∧ g < W'.heap.size ∧ L.length ≤ cp ∧ m' ≤ m + 5 ∧ Src W' p S a l c m' s' ∧ Frm (· = p) W W'
set_option maxRecDepth 100000 in
set_option maxHeartbeats 3200000 in
theorem srcDatumV (h : Src W p S a l c m s) (hm : m < 990000) (h1 : 1 ≤ k) (h4 : k ≤ 4) :
    Calls Try.prog 39 #[.pointer (some ⟨p, 0, none⟩), .int .i64 (k : Int)] W (DatumV W p S a l c m k) := by
  have hA : Below W.heap.size W (W.alloc (.cells #[] 51)) := (Below.refl _ _).alloc (Nat.le_refl _) _
  have hpl : p < W.heap.size := (Array.getElem?_eq_some_iff.1 h.box).1
  have NX := Lib.hid (srcNext (h.on hA) (by omega) 5 (by omega) (by omega))
  have D0 : Hid (∀ w1 s', Frm (· = p) (W.alloc (.cells #[] 51)) w1 → Src w1 p S a l c (m + 1) s' → DrV W p S a l c (m + 0 + 1) k 0 w1 W.heap.size 0 []) := fun w1 s' hF hS => by
    have e : (W.alloc (.cells #[] 51)).heap.size = W.heap.size + 1 := by simp
    have hsz := hF.size
    exact ⟨(Frm.of_below hA).trans hF, hpl, ⟨s', hS⟩, .inl rfl, Nat.le_refl _, by omega, Nat.le_refl _, Nat.le_refl _, Drn.nil k⟩
  have HK : Hid (1 ≤ k ∧ k ≤ 4) := ⟨h1, h4⟩
  have HM := Lib.hid hm
  clear h hA hpl h1 h4 hm
  go_enter Try.func39, Try.ntmps39
  go_wp2_with fail
  refine NX.out.mono ?_
  rintro e w1 ⟨r, s', rfl, hr, hS, hF⟩
  have D1 := Lib.hid (D0.out w1 s' hF hS)
  have HR := Lib.hid hr
  clear hS hF hr D0 NX
  go_wp2_with fail
  go_loopw [5, 6] (fun o i wr => ∃ i' j g cp L, i' + j = r ∧ i = .int .i64 ((i' : Nat) : Int) ∧ o = .slice (some ⟨g, 0, none⟩) L.length cp ∧ Hid (DrV W p S a l c (m + j + 1) k j wr g cp L)) (fun _ i _ => (intOf i).toNat)
  case atStart => exact ⟨r, 0, _, 0, [], rfl, rfl, rfl, D1⟩
  case round =>
    obtain ⟨i', j, g, cp, L, hij, rfl, rfl, HD⟩ := hrel
    have hj5 : j ≤ 5 := by have := HR.out; omega
    have HJ : Hid (j ≤ 4) := by have := HR.out; show j ≤ 4; omega
    by_cases hi : i' = 0
    · subst hi
      have HL : Hid (L.length ≤ 4) := by have := HD.out.len; have := HR.out; show L.length ≤ 4; omega
      clear hij hj5
      go_wp2_with fail
      go_ret
      obtain ⟨s9, hs9⟩ := HD.out.src
      exact ⟨g, cp, L, _, s9, rfl, HL.out, HD.out.drn, HD.out.ats, HD.out.gp, HD.out.lt, HD.out.cap, by have := HJ.out; omega, hs9, HD.out.frm⟩
    · obtain ⟨q, rfl⟩ : ∃ q, i' = q + 1 := ⟨i' - 1, by omega⟩
      obtain ⟨i2, hi2⟩ : ∃ i2, i2 = q + 1 := ⟨_, rfl⟩
      have d1 : decide (0 < (i2 : Int)) = true := decide_eq_true (by omega)
      have d2 : decide (0 < i2) = true := decide_eq_true (by omega)
      have hq : i2 ≤ 5 := by have := HR.out; omega
      have f1 : IntKind.i64.wrap ((i2 : Int) - 1) = (q : Int) := by rw [IntKind.wrap_i64]; omega
      have HQ : Hid (q + (j + 1) = r) := by show _ = _; omega
      have HI : Hid (i2 = q + 1) := hi2
      obtain ⟨s2, hs2⟩ := HD.out.src
      have AT := Lib.hid (srcAtom hs2 (by have := HM.out; omega) k HK.out.1 HK.out.2)
      rw [← hi2]
      clear hij hj5 hi hi2 hq hs2
      go_wp2_with fail
      refine AT.out.mono ?_
      rintro e w2 ⟨x, s3, rfl, hxk, hxo, hS, hF⟩
      have HD2 := Lib.hid (HD.out.draw hF hS)
      have HX : Hid (x.k = (k : Int) ∧ atOK x = true) := ⟨hxk, hxo⟩
      clear hS hF hxk hxo AT
      cases hh : hasB L x
      · have HP : Hid (Calls Try.prog 60 #[.slice (some ⟨g, 0, none⟩) L.length cp, .agg #[.int .i64 x.k, .int .i64 x.n, .string ⟨x.t.toArray⟩]] w2 fun e w' => ∃ g' c', e = .returned (.slice (some ⟨g', 0, none⟩) (putL L x).length c') ∧ DrV W p S a l c (m + (j + 1) + 1) k (j + 1) w' g' c' (putL L x)) :=
          (putS L x g 0 cp w2.heap.size w2 (by have := HD2.out.len; have := HQ.out; have := HR.out; omega) (Nat.le_refl _) (HD2.out.ats.same (fun _ _ => rfl) (fun b hb => by rw [hb]; exact HD2.out.lt)) HD2.out.cap hh).mono (fun e w' ⟨v, B', he, hai⟩ => by
            have hai' : AI w2 B' w' v (putL L x) := hai.cast (by unfold putL; rw [hh]; rfl)
            obtain ⟨g', c', e', hd⟩ := HD2.out.put HX.out.1 HX.out.2 hai'
            exact ⟨g', c', by rw [he, e'], hd⟩)
        clear hh
        generalize L.length = n0 at *
        go_wp2_with (go_at_call 60; refine HP.out.mono ?_; rintro e w3 ⟨g', c', rfl, H3⟩)
        go_roundw
        case rel => exact ⟨q, j + 1, g', c', putL L x, HQ.out, rfl, rfl, H3⟩
        case measure => have := HI.out; simp [intOf]; omega
      · have HP : Hid (Calls Try.prog 60 #[.slice (some ⟨g, 0, none⟩) L.length cp, .agg #[.int .i64 x.k, .int .i64 x.n, .string ⟨x.t.toArray⟩]] w2 fun e w' => e = .returned (.slice (some ⟨g, 0, none⟩) L.length cp) ∧ DrV W p S a l c (m + (j + 1) + 1) k (j + 1) w' g cp L) :=
          (putS1 L x _ cp w2.heap.size w2 (by have := HD2.out.len; have := HQ.out; have := HR.out; omega) (Nat.le_refl _) (HD2.out.ats.same (fun _ _ => rfl) (fun b hb => by rw [hb]; exact HD2.out.lt)) hh).mono (fun e w' ⟨he, hb⟩ => ⟨he, HD2.out.keep hb rfl⟩)
        clear hh
        obtain ⟨n0, hn0⟩ : ∃ n0, n0 = L.length := ⟨_, rfl⟩
        rw [← hn0] at HP ⊢
        have HN0 := Lib.hid hn0
        clear hn0
        go_wp2_with (go_at_call 60; refine HP.out.mono ?_; rintro e w3 ⟨rfl, H3⟩)
        go_roundw
        case rel => exact ⟨q, j + 1, g, cp, L, HQ.out, rfl, by rw [HN0.out], H3⟩
        case measure => have := HI.out; simp [intOf]; omega
#print axioms srcDatumV
end Go.Proofs.Ytajhjjpanjpfoaa
