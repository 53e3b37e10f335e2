import Derived.Test.YtpdidfbeelgpmaaQaf
import Derived.Test.YtpdidfbeelgpmaaQab
import Derived.Test.YtpdidfbeelgpmaaQac
import Derived.Lib.Hide
import Derived.Deep.CutRange
namespace Go.Proofs.Ytpdidfbeelgpmaa
open Go.RowKit
set_option linter.unusedSimpArgs false
/-- right atoms of one kind that rise -/
def Drn (k : Nat) (L : List At) : Prop := Rise L ∧ ∀ x ∈ L, x.k = (k : Int) ∧ atOK x = true
theorem Drn.nil (k : Nat) : Drn k [] := ⟨rise_nil, fun _ h => absurd h List.not_mem_nil⟩
theorem Drn.put {k : Nat} {L : List At} (h : Drn k L) {x : At} (hk : x.k = (k : Int)) (ho : atOK x = true) : Drn k (putL L x) := ⟨rise_put h.1 x, fun y hy => by
  rcases mem_put.1 hy with h1 | rfl
  · exact h.2 y h1
  · exact ⟨hk, ho⟩⟩
/-- a set that is drawn, at work: n atoms were asked for -/
structure DrO (w : World) (p S : Nat) (a : Option Addr) (l : List UInt8) (c m k n : Nat) (W : World) (g cp : Nat) (L : List At) : Prop where
  bel : Below w.heap.size w W
  pos : w.heap.size ≤ p
  src : ∃ s, Src W p S a l c m s
  ats : Ats W (· = g) (some ⟨g, 0, none⟩) L
  gp : p < g
  lt : g < W.heap.size
  cap : L.length ≤ cp
  len : L.length ≤ n
  drn : Drn k L
variable {w W W' : World} {p S : Nat} {a : Option Addr} {l : List UInt8} {c m k n g cp : Nat} {L : List At}
theorem DrO.draw (h : DrO w p S a l c m k n W g cp L) (hF : Frm (· = p) W W') {s' : Nat} (hS : Src W' p S a l c (m + 1) s') : DrO w p S a l c (m + 1) k n W' g cp L := by
  have hp := h.pos
  have hg := h.gp
  exact ⟨h.bel.trans (hF.below h.bel.size (fun b hb => by omega)), hp, ⟨s', hS⟩, h.ats.same (fun b hb => hF.block b (by rw [hb]; exact h.lt) (by omega)) (fun _ h => h), hg, Nat.lt_of_lt_of_le h.lt hF.size, h.cap, h.len, h.drn⟩
theorem DrO.keep (h : DrO w p S a l c m k n W g cp L) (hB : Below W.heap.size W W') {L' : List At} (e : L' = L) : DrO w p S a l c m k (n + 1) W' g cp L' := by
  subst e
  obtain ⟨s, hs⟩ := h.src
  exact ⟨h.bel.trans (hB.mono h.bel.size), h.pos, ⟨s, hs.on hB⟩, h.ats.same (fun b hb => hB.block b (by rw [hb]; exact h.lt)) (fun _ h => h), h.gp, Nat.lt_of_lt_of_le h.lt hB.size, h.cap, Nat.le_succ_of_le h.len, h.drn⟩
theorem AI.place {B : Nat} {v : Value} (h : AI W B W' v L) : ∃ g c, v = .slice (some ⟨g, 0, none⟩) L.length c ∧ L.length ≤ c ∧ Ats W' (· = g) (some ⟨g, 0, none⟩) L ∧ W.heap.size ≤ g ∧ g < W'.heap.size := by
  obtain ⟨a, c, e, ho⟩ := h.buf.own
  rcases h.buf.2 with ⟨e', -⟩ | ⟨g, cap, cur, rfl, hg, hb, hn, -⟩
  · exact absurd e' h.no
  · injection e with e1 e2 e3
    subst e1
    have hlt : g < W'.heap.size := (Array.getElem?_eq_some_iff.1 hb).1
    refine ⟨g, cap, rfl, hn, ?_, Nat.le_trans h.old hg, hlt⟩
    rcases ho.ats with h0 | ⟨b, off, e, hb', hc⟩
    · exact .inl h0
    · cases e
      exact .inr ⟨g, 0, rfl, rfl, hc⟩
theorem DrO.put (h : DrO w p S a l c m k n W g cp L) {B : Nat} {v : Value} {x : At} (hk : x.k = (k : Int)) (ho : atOK x = true) (hai : AI W B W' v (putL L x)) : ∃ g' c', v = .slice (some ⟨g', 0, none⟩) (putL L x).length c' ∧ DrO w p S a l c m k (n + 1) W' g' c' (putL L x) := by
  obtain ⟨g', c', e, hc, hat, hg, hlt⟩ := hai.place
  obtain ⟨s, hs⟩ := h.src
  have h1 := h.gp
  have h2 := h.lt
  refine ⟨g', c', e, h.bel.trans (hai.bel.mono h.bel.size), h.pos, ⟨s, hs.on hai.bel⟩, hat, by omega, hlt, hc, ?_, h.drn.put hk ho⟩
  have := putL_len L x
  have := h.len
  omega
/-- a drawn set -/
def DatumAns (w : World) (k : Nat) (e : Ending) (W' : World) : Prop := ∃ g cp L, e = .returned (.slice (some ⟨g, 0, none⟩) (L : List At).length cp) ∧ L.length ≤ 4 ∧ Drn k L ∧ Ats W' (· < W'.heap.size) (some ⟨g, 0, none⟩) L ∧ Below w.heap.size w W'
end Go.Proofs.Ytpdidfbeelgpmaa
namespace Go.Proofs.Ytpdidfbeelgpmaa
open Go.RowKit
set_option linter.unusedSimpArgs false
set_option maxHeartbeats 1600000 in
theorem sameDatumS (l : List At) (a a' : Option Addr) (c c' : Nat) (A B : Nat → Prop) (w : World) (hl : l.length ≤ 1048576) (hA : Ats w A a l) (hB : Ats w B a' l) :
    Calls Try.prog 7 #[.slice a l.length c, .slice a' l.length c'] w fun e w' => e = .returned (.bool true) ∧ Below w.heap.size w w' := by
  have HA : Hid (Ats w A a l) := hA
  have HB : Hid (Ats w B a' l) := hB
  have nn : ((l.length : Int) != (l.length : Int)) = false := by simp
  clear hA hB
  go_enter Try.func7, Try.ntmps7
  go_wp2_with fail
  go_loopw [5] (fun i wr => ∃ k : Nat, k ≤ l.length ∧ i = .int .i64 k ∧ Hid (Below w.heap.size w wr)) (fun i _ => l.length - (intOf i).toNat)
  case atStart => exact ⟨0, Nat.zero_le _, rfl, Below.refl _ _⟩
  case round =>
    obtain ⟨k, hk, rfl, HW⟩ := hrel
    by_cases hlt : k < l.length
    · obtain ⟨b, off, rfl, -, c0, c1, c2⟩ := (HA.out.later HW.out).item k hlt
      obtain ⟨b', off', rfl, -, d0, d1, d2⟩ := (HB.out.later HW.out).item k hlt
      generalize l[k] = x at *
      have hki : (k : Int) < (l.length : Int) := by omega
      have n1 : (x.k != x.k) = false := by simp
      have n2 : (x.n != x.n) = false := by simp
      go_wp2_with fail
      go_region
      go_wp2_with fail
      go_roundw
      case rel => exact ⟨k + 1, by omega, by go_num, HW.out.drew⟩
      case measure => simp [intOf]; omega
    · have hki : decide ((k : Int) < (l.length : Int)) = false := by simp; omega
      go_wp2_with fail
      go_ret
      exact ⟨rfl, HW.out⟩
end Go.Proofs.Ytpdidfbeelgpmaa
namespace Go.Proofs.Ytpdidfbeelgpmaa
open Go.RowKit
set_option linter.unusedSimpArgs false
/-- while atoms are drawn one behind the other -/
structure DrP (w : World) (p S : Nat) (a : Option Addr) (l : List UInt8) (c m k n : Nat) (B : Nat) (W : World) (v : Value) (L : List At) : Prop where
  ai : AI w B W v L
  src : ∃ s, Src W p S a l c m s
  pB : p < B
  pw : w.heap.size ≤ p
  len : L.length = n
  ok : ∀ x ∈ L, x.k = (k : Int) ∧ atOK x = true
variable {w W W' : World} {p S : Nat} {a : Option Addr} {l : List UInt8} {c m k n B : Nat} {v v' : Value} {L : List At}
theorem AI.frm (h : AI w B W v L) (hF : Frm (· = p) W W') (hp : p < B) (hw : w.heap.size ≤ p) : AI w B W' v L := by
  have hle := h.le
  have hb : Below w.heap.size w W' := h.bel.trans (hF.below h.bel.size (fun b hb => by omega))
  refine ⟨?_, hb, Nat.le_trans h.le hF.size, h.old, h.no⟩
  obtain ⟨h1, h2⟩ := h.buf
  refine ⟨h1, ?_⟩
  rcases h2 with h2 | ⟨g, cap, cur, e, hg, hbk, hn, hc⟩
  · exact .inl h2
  · have hlt : g < W.heap.size := (Array.getElem?_eq_some_iff.1 hbk).1
    exact .inr ⟨g, cap, cur, e, hg, by rw [hF.block g hlt (by omega)]; exact hbk, hn, hc⟩
theorem DrP.draw (h : DrP w p S a l c m k n B W v L) (hF : Frm (· = p) W W') {s' : Nat} (hS : Src W' p S a l c (m + 1) s') : DrP w p S a l c (m + 1) k n B W' v L :=
  ⟨h.ai.frm hF h.pB h.pw, ⟨s', hS⟩, h.pB, h.pw, h.len, h.ok⟩
theorem DrP.push (h : DrP w p S a l c m k n B W v L) {x : At} (hk : x.k = (k : Int)) (ho : atOK x = true) (hb : ABuf W' B v' (L ++ [x])) (ha : AppA W v W' v') (hn : v' ≠ .slice none 0 0) : DrP w p S a l c m k (n + 1) B W' v' (L ++ [x]) := by
  obtain ⟨s, hs⟩ := h.src
  have hB := ha.below h.ai.buf h.ai.le
  have hp := h.pB
  have hle := hs.le
  refine ⟨h.ai.push hb ha hn, ⟨s, ?_⟩, h.pB, h.pw, by simp [h.len], fun y hy => ?_⟩
  · exact ⟨by rw [hB.block p hp]; exact hs.box, hs.sd, hs.byt.same (fun b hb => hB.block b (by omega)) (fun _ h => h), hs.le⟩
  · rcases List.mem_append.1 hy with hy | hy
    · exact h.ok y hy
    · simp only [List.mem_singleton] at hy
      subst hy
      exact ⟨hk, ho⟩
theorem DrP.on (h : DrP w p S a l c m k n B W v L) (hb : Below W.heap.size W W') : DrP w p S a l c m k n B W' v L := by
  obtain ⟨s, hs⟩ := h.src
  exact ⟨h.ai.on hb, ⟨s, hs.on hb⟩, h.pB, h.pw, h.len, h.ok⟩
/-- drawn atoms of a kind -/
def AtomsAns (w : World) (k : Nat) (e : Ending) (W' : World) : Prop := ∃ g cp L, e = .returned (.slice (some ⟨g, 0, none⟩) (L : List At).length cp) ∧ L.length ≤ 6 ∧ (∀ x ∈ L, x.k = (k : Int) ∧ atOK x = true) ∧ Ats W' (· < W'.heap.size) (some ⟨g, 0, none⟩) L ∧ Below w.heap.size w W'
theorem DrP.ans (h : DrP w p S a l c m k n B W v L) (hn : n ≤ 6) : AtomsAns w k (.returned v) W := by
  obtain ⟨g, cp, rfl, -, hat, -, hlt⟩ := AI.place (W := w) (B := B) (v := v) (W' := W) (L := L) h.ai
  exact ⟨g, cp, L, rfl, by rw [h.len]; exact hn, h.ok, hat.same (fun _ _ => rfl) (fun b hb => by rw [hb]; exact hlt), h.ai.bel⟩
set_option maxRecDepth 100000 in
set_option maxHeartbeats 3200000 in
theorem atomsOfS (l : List UInt8) (a : Option Addr) (c k S : Nat) (w : World) (hS : S ≤ w.heap.size) (hb : Byts w (· < S) a l) (h1 : 1 ≤ k) (h4 : k ≤ 4) :
    Calls Try.prog 4 #[.slice a l.length c, .int .i64 (k : Int)] w (AtomsAns w k) := by
  have NW := Lib.hid (srcNew (c := c) w hS hb)
  have HK : Hid (1 ≤ k ∧ k ≤ 4) := ⟨h1, h4⟩
  clear hb h1 h4 hS
  go_enter Try.func4, Try.ntmps4
  go_wp2_with fail
  refine NW.out.mono ?_
  rintro e w1 ⟨s, rfl, hs, hB⟩
  have hA : Below w1.heap.size w1 (w1.alloc (.cells #[] 27)) := (Below.refl _ _).alloc (Nat.le_refl _) _
  have hpl : w.heap.size < w1.heap.size := (Array.getElem?_eq_some_iff.1 hs.box).1
  have NX := Lib.hid (srcNext (hs.on hA) (by omega) 7 (by omega) (by omega))
  have D0 : Hid (∀ w2 s', Frm (· = w.heap.size) (w1.alloc (.cells #[] 27)) w2 → Src w2 w.heap.size S a l c 1 s' → DrP w w.heap.size S a l c 1 k 0 w1.heap.size w2 (.slice (some ⟨w1.heap.size, 0, none⟩) 0 0) []) := fun w2 s' hF hS2 => by
    have hf := AI.first w1
    have hf' : AI w w1.heap.size (w1.alloc (.cells #[] 27)) (.slice (some ⟨w1.heap.size, 0, none⟩) 0 0) [] := ⟨hf.buf, hB.trans (hf.bel.mono hB.size), hf.le, hB.size, hf.no⟩
    exact ⟨hf'.frm hF hpl (Nat.le_refl _), ⟨s', hS2⟩, hpl, Nat.le_refl _, rfl, fun _ h => absurd h List.not_mem_nil⟩
  clear hs hB hA hpl NW
  go_wp2_with fail
  refine NX.out.mono ?_
  rintro e w2 ⟨r, s', rfl, hr, hS, hF⟩
  have D1 := Lib.hid (D0.out w2 s' hF hS)
  have HR := Lib.hid hr
  clear hS hF hr D0 NX
  go_wp2_with fail
  go_loopw [6, 7] (fun o i wr => ∃ i' j vo L, i' + j = r ∧ i = .int .i64 ((i' : Nat) : Int) ∧ vo = o ∧ Hid (DrP w w.heap.size S a l c (j + 1) k j w1.heap.size wr vo L)) (fun _ i _ => (intOf i).toNat)
  case atStart => exact ⟨r, 0, _, [], rfl, rfl, rfl, D1⟩
  case round =>
    obtain ⟨i', j, vo, L, hij, rfl, rfl, HD⟩ := hrel
    have hj5 : j ≤ 6 := by have := HR.out; omega
    by_cases hi : i' = 0
    · subst hi
      have HJ : Hid (j ≤ 6) := hj5
      clear hij hj5
      go_wp2_with fail
      go_ret
      exact HD.out.ans HJ.out
    · obtain ⟨q, rfl⟩ : ∃ q, i' = q + 1 := ⟨i' - 1, by omega⟩
      obtain ⟨i2, hi2⟩ : ∃ i2, i2 = q + 1 := ⟨_, rfl⟩
      have d1 : decide (0 < (i2 : Int)) = true := decide_eq_true (by omega)
      have d2 : decide (0 < i2) = true := decide_eq_true (by omega)
      have hq : i2 ≤ 6 := by have := HR.out; omega
      have f1 : IntKind.i64.wrap ((i2 : Int) - 1) = (q : Int) := by rw [IntKind.wrap_i64]; omega
      have HQ : Hid (q + (j + 1) = r) := by show _ = _; omega
      have HI : Hid (i2 = q + 1) := hi2
      obtain ⟨s2, hs2⟩ := HD.out.src
      have AT := Lib.hid (srcAtom hs2 (by omega) k HK.out.1 HK.out.2)
      rw [← hi2]
      clear hij hj5 hi hi2 hq hs2
      go_wp2_with fail
      refine AT.out.mono ?_
      rintro e w3 ⟨x, s3, rfl, hxk, hxo, hS, hF⟩
      have HD2 := Lib.hid (HD.out.draw hF hS)
      have HX : Hid (x.k = (k : Int) ∧ atOK x = true) := ⟨hxk, hxo⟩
      have HL : Hid (L.length = j ∧ j ≤ 6) := ⟨HD.out.len, by have := HQ.out; have := HR.out; omega⟩
      clear hS hF hxk hxo AT HD
      go_wp2_with (at_builtin; refine wpList_apush rfl (.tmp 17) (.tmp 21) rfl w1.heap.size vo L [x] ⟨w3.heap.size, 0, none⟩ 1 1 rfl rfl rfl (HD2.out.ai.buf.on ((Below.refl _ _).alloc (Nat.le_refl _) _)) (by have := HD2.out.ai.le; simp; omega) (by have := HL.out; simp; omega) HD2.out.ai.no (news_one _ _ _) ?_; intro v2 w4 hb2 ha2 hn2; have H2 := Lib.hid ((HD2.out.on ((Below.refl _ _).alloc (Nat.le_refl _) _)).push HX.out.1 HX.out.2 hb2 ha2 hn2); clear hb2 ha2 hn2)
      go_roundw
      case rel => exact ⟨q, j + 1, v2, L ++ [x], HQ.out, rfl, rfl, H2⟩
      case measure => have := HI.out; simp [intOf]; omega
end Go.Proofs.Ytpdidfbeelgpmaa
namespace Go.Proofs.Ytpdidfbeelgpmaa
open Go.RowKit
set_option linter.unusedSimpArgs false
theorem neq_selfKB (c : Bool) : (c != c) = false := by simp
/-- what impl.AtomOK and impl.DatumOK are to answer -/
def AtSaid : Prop := ∀ (x : At) (w : World), x.t.length ≤ maxLen →
    Calls Try.prog 18 #[.agg #[.int .i64 x.k, .int .i64 x.n, .string ⟨x.t.toArray⟩]] w fun e w' => e = .returned (.bool (atOK x)) ∧ Below w.heap.size w w'
def DoSaid : Prop := ∀ (l : List At) (a : Option Addr) (c : Nat) (S : Nat) (w : World), l.length ≤ maxLen → (∀ x ∈ l, x.t.length ≤ maxLen) → S ≤ w.heap.size → Ats w (· < S) a l →
    Calls Try.prog 8 #[.slice a l.length c] w fun e w' => e = .returned (.bool (datumB l)) ∧ Below w.heap.size w w'
end Go.Proofs.Ytpdidfbeelgpmaa
namespace Go.Proofs.Ytpdidfbeelgpmaa
open Go.RowKit
set_option linter.unusedSimpArgs false
/-- two atoms in boxes of the call's own -/
def BoxP (t : TypeId) (w W : World) (x y : At) : Prop := W.heap[w.heap.size]? = some (.cells #[.int .i64 x.k, .int .i64 x.n, .string ⟨x.t.toArray⟩] t) ∧ W.heap[w.heap.size + 1]? = some (.cells #[.int .i64 y.k, .int .i64 y.n, .string ⟨y.t.toArray⟩] t) ∧ Below w.heap.size w W
theorem BoxP.later {t : TypeId} {w W W' : World} {x y : At} (h : BoxP t w W x y) (hB : Below W.heap.size W W') : BoxP t w W' x y := ⟨heap_keptA h.1 hB, heap_keptA h.2.1 hB, h.2.2.trans (hB.mono h.2.2.size)⟩
theorem BoxP.drew {t : TypeId} {w W : World} {x y : At} (h : BoxP t w W x y) : BoxP t w W.drew x y := h.later (Below.refl _ _).drew
theorem boxP (t : TypeId) (w : World) (x y : At) : BoxP t w ((w.alloc (.cells #[.int .i64 x.k, .int .i64 x.n, .string ⟨x.t.toArray⟩] t)).alloc (.cells #[.int .i64 y.k, .int .i64 y.n, .string ⟨y.t.toArray⟩] t)) x y := by
  have h := heap_newA (w.alloc (.cells #[.int .i64 x.k, .int .i64 x.n, .string ⟨x.t.toArray⟩] t)) (.cells #[.int .i64 y.k, .int .i64 y.n, .string ⟨y.t.toArray⟩] t)
  rw [show (w.alloc (.cells #[.int .i64 x.k, .int .i64 x.n, .string ⟨x.t.toArray⟩] t)).heap.size = w.heap.size + 1 by simp] at h
  refine ⟨?_, h, ((Below.refl _ _).alloc (Nat.le_refl _) _).alloc (by simp) _⟩
  rw [Below.heap_alloc _ _ _ (by simp)]
  exact heap_newA _ _
noncomputable def ordR (x y : At) : Int := if atOK x = true ∧ atOK y = true then cmpA x y else 0
noncomputable def ordC (x y : At) : Int := if atOK x = true ∧ atOK y = true then 0 else 1
theorem ret_ii' {a b c d : Int} (h : a = b) (h' : c = d) : Ending.returned (.tuple #[.int .i64 a, .int .i64 c]) = .returned (.tuple #[.int .i64 b, .int .i64 d]) := by rw [h, h']
def OrdSaid (f : Nat) : Prop := ∀ (x y : At) (w : World), x.t.length ≤ maxLen → y.t.length ≤ maxLen →
    Calls Try.prog f #[.agg #[.int .i64 x.k, .int .i64 x.n, .string ⟨x.t.toArray⟩], .agg #[.int .i64 y.k, .int .i64 y.n, .string ⟨y.t.toArray⟩]] w fun e w' => e = .returned (.tuple #[.int .i64 (ordR x y), .int .i64 (ordC x y)]) ∧ Below w.heap.size w w'
end Go.Proofs.Ytpdidfbeelgpmaa
namespace Go.Proofs.Ytpdidfbeelgpmaa
open Go.RowKit
set_option linter.unusedSimpArgs false
noncomputable def hasR (l : List At) (x : At) : Bool := if ¬ 4096 < l.length ∧ datumB l = true ∧ atOK x = true then hasB l x else false
noncomputable def hasC (l : List At) (x : At) : Int := if 4096 < l.length then 2 else if datumB l = true ∧ atOK x = true then 0 else 1
theorem ret_bi {a b : Bool} {c d : Int} (h : a = b) (h' : c = d) : Ending.returned (.tuple #[.bool a, .int .i64 c]) = .returned (.tuple #[.bool b, .int .i64 d]) := by rw [h, h']
def HasSaid (f : Nat) : Prop := ∀ (l : List At) (x : At) (a : Option Addr) (c : Nat) (S : Nat) (w : World), l.length ≤ maxLen → (∀ y ∈ l, y.t.length ≤ maxLen) → x.t.length ≤ maxLen → S ≤ w.heap.size → Ats w (· < S) a l →
    Calls Try.prog f #[.slice a l.length c, .agg #[.int .i64 x.k, .int .i64 x.n, .string ⟨x.t.toArray⟩]] w fun e w' => e = .returned (.tuple #[.bool (hasR l x), .int .i64 (hasC l x)]) ∧ Below w.heap.size w w'
end Go.Proofs.Ytpdidfbeelgpmaa
namespace Go.Proofs.Ytpdidfbeelgpmaa
open Go.RowKit
set_option linter.unusedSimpArgs false
set_option maxRecDepth 100000 in
set_option maxHeartbeats 3200000 in
theorem datumHasI : HasSaid 9 := by
  intro l x a c S w hl hxl hxt hw hA
  have hx : BoxA w (w.alloc (.cells #[.int .i64 x.k, .int .i64 x.n, .string ⟨x.t.toArray⟩] 27)) x := ⟨heap_newA _ _, (Below.refl _ _).alloc (Nat.le_refl _) _⟩
  have DO : Hid (∀ W, BoxA w W x → Calls Try.prog 8 #[.slice a l.length c] W fun e w' => e = .returned (.bool (datumB l)) ∧ BoxA w w' x) := fun W h => (datumOKi l a c S W hl hxl (Nat.le_trans hw h.2.size) (hA.below (h.2.mono hw))).mono (fun e w' ⟨he, hB⟩ => ⟨he, h.later hB⟩)
  have AO : Hid (∀ W, BoxA w W x → Calls Try.prog 18 #[.agg #[.int .i64 x.k, .int .i64 x.n, .string ⟨x.t.toArray⟩]] W fun e w' => e = .returned (.bool (atOK x)) ∧ BoxA w w' x) := fun W h => (atomOKi x W hxt).mono (fun e w' ⟨he, hB⟩ => ⟨he, h.later hB⟩)
  have HS : Hid (∀ W, BoxA w W x → Calls Try.prog 19 #[.slice a l.length c, .agg #[.int .i64 x.k, .int .i64 x.n, .string ⟨x.t.toArray⟩]] W fun e w' => e = .returned (.bool (hasB l x)) ∧ BoxA w w' x) := fun W h => (containsI l x a c _ W hl (hA.below (h.2.mono hw))).mono (fun e w' ⟨he, hB⟩ => ⟨he, h.later hB⟩)
  unfold maxLen at hl
  clear hA hxl hxt hw
  by_cases h1 : 4096 < l.length
  · have HC : Hid (false = hasR l x ∧ (2 : Int) = hasC l x) := by constructor <;> simp [hasR, hasC, h1]
    have d1 : decide (4096 < (l.length : Int)) = true := decide_eq_true (by omega)
    clear h1
    go_enter Try.func9, Try.ntmps9
    go_wp2_with fail
    go_ret2
    exact ⟨ret_bi HC.out.1 HC.out.2, hx.2⟩
  have d1 : decide (4096 < (l.length : Int)) = false := decide_eq_false (by omega)
  cases dl : datumB l
  · have HC : Hid (false = hasR l x ∧ (1 : Int) = hasC l x) := by constructor <;> simp [hasR, hasC, h1, dl]
    rw [dl] at DO
    clear dl h1
    go_enter Try.func9, Try.ntmps9
    go_wp2_with (go_at_call 8; refine (DO.out _ hx).mono ?_; rintro e w1 ⟨rfl, hx⟩)
    go_ret2
    exact ⟨ret_bi HC.out.1 HC.out.2, hx.2⟩
  rw [dl] at DO
  cases ax : atOK x
  · have HC : Hid (false = hasR l x ∧ (1 : Int) = hasC l x) := by constructor <;> simp [hasR, hasC, h1, ax]
    rw [ax] at AO
    clear dl ax h1
    go_enter Try.func9, Try.ntmps9
    go_wp2_with (first | (go_at_call 8; refine (DO.out _ hx).mono ?_; rintro e w1 ⟨rfl, hx⟩; have x0 := cell_at (o := 0) hx.1 rfl; have x1 := cell_at (o := 1) hx.1 rfl; have x2 := cell_at (o := 2) hx.1 rfl) | (go_at_call 18; refine (AO.out _ hx).mono ?_; rintro e w2 ⟨rfl, hx⟩; have x0 := cell_at (o := 0) hx.1 rfl; have x1 := cell_at (o := 1) hx.1 rfl; have x2 := cell_at (o := 2) hx.1 rfl))
    go_ret2
    exact ⟨ret_bi HC.out.1 HC.out.2, hx.2⟩
  rw [ax] at AO
  have HC : Hid (hasB l x = hasR l x ∧ (0 : Int) = hasC l x) := by
    constructor
    · unfold hasR; rw [if_pos ⟨h1, dl, ax⟩]
    · unfold hasC; rw [if_neg h1, if_pos ⟨dl, ax⟩]
  clear dl ax h1
  generalize hasB l x = q at *
  go_enter Try.func9, Try.ntmps9
  go_wp2_with (first | (go_at_call 8; refine (DO.out _ hx).mono ?_; rintro e w1 ⟨rfl, hx⟩; have x0 := cell_at (o := 0) hx.1 rfl; have x1 := cell_at (o := 1) hx.1 rfl; have x2 := cell_at (o := 2) hx.1 rfl) | (go_at_call 18; refine (AO.out _ hx).mono ?_; rintro e w2 ⟨rfl, hx⟩; have x0 := cell_at (o := 0) hx.1 rfl; have x1 := cell_at (o := 1) hx.1 rfl; have x2 := cell_at (o := 2) hx.1 rfl) | (go_at_call 19; refine (HS.out _ hx).mono ?_; rintro e w3 ⟨rfl, hx⟩))
  go_ret2
  exact ⟨ret_bi HC.out.1 HC.out.2, hx.2⟩
set_option maxRecDepth 100000 in
set_option maxHeartbeats 3200000 in
theorem ordI : OrdSaid 10 := by
  intro x y w hxt hyt
  have hx := boxP 27 w x y
  have AX : Hid (∀ W, BoxP 27 w W x y → Calls Try.prog 18 #[.agg #[.int .i64 x.k, .int .i64 x.n, .string ⟨x.t.toArray⟩]] W fun e w' => e = .returned (.bool (atOK x)) ∧ BoxP 27 w w' x y) := fun W h => (atomOKi x W hxt).mono (fun e w' ⟨he, hB⟩ => ⟨he, h.later hB⟩)
  have AY : Hid (∀ W, BoxP 27 w W x y → Calls Try.prog 18 #[.agg #[.int .i64 y.k, .int .i64 y.n, .string ⟨y.t.toArray⟩]] W fun e w' => e = .returned (.bool (atOK y)) ∧ BoxP 27 w w' x y) := fun W h => (atomOKi y W hyt).mono (fun e w' ⟨he, hB⟩ => ⟨he, h.later hB⟩)
  have OR : Hid (∀ W, BoxP 27 w W x y → Calls Try.prog 17 #[.agg #[.int .i64 x.k, .int .i64 x.n, .string ⟨x.t.toArray⟩], .agg #[.int .i64 y.k, .int .i64 y.n, .string ⟨y.t.toArray⟩]] W fun e w' => e = .returned (.int .i64 (cmpA x y)) ∧ BoxP 27 w w' x y) := fun W h => (compareI x y W).mono (fun e w' ⟨he, hB⟩ => ⟨he, h.later hB⟩)
  clear hxt hyt
  have x0 := cell_at (o := 0) hx.1 rfl
  have x1 := cell_at (o := 1) hx.1 rfl
  have x2 := cell_at (o := 2) hx.1 rfl
  have y0 := cell_at (o := 0) hx.2.1 rfl
  have y1 := cell_at (o := 1) hx.2.1 rfl
  have y2 := cell_at (o := 2) hx.2.1 rfl
  cases ax : atOK x
  · have HC : Hid ((0 : Int) = ordR x y ∧ (1 : Int) = ordC x y) := by constructor <;> simp [ordR, ordC, ax]
    rw [ax] at AX
    clear ax
    go_enter Try.func10, Try.ntmps10
    go_wp2_with (first | (go_at_call 18; (with_reducible refine (AX.out _ ?_).mono ?_); exact hx; rintro e w1 ⟨rfl, hx⟩; have x0 := cell_at (o := 0) hx.1 rfl; have x1 := cell_at (o := 1) hx.1 rfl; have x2 := cell_at (o := 2) hx.1 rfl; have y0 := cell_at (o := 0) hx.2.1 rfl; have y1 := cell_at (o := 1) hx.2.1 rfl; have y2 := cell_at (o := 2) hx.2.1 rfl))
    go_ret2
    exact ⟨ret_ii' HC.out.1 HC.out.2, hx.2.2⟩
  rw [ax] at AX
  cases ay : atOK y
  · have HC : Hid ((0 : Int) = ordR x y ∧ (1 : Int) = ordC x y) := by constructor <;> simp [ordR, ordC, ay]
    rw [ay] at AY
    clear ax ay
    go_enter Try.func10, Try.ntmps10
    go_wp2_with (first | (go_at_call 18; (with_reducible refine (AX.out _ ?_).mono ?_); exact hx; rintro e w1 ⟨rfl, hx⟩; have x0 := cell_at (o := 0) hx.1 rfl; have x1 := cell_at (o := 1) hx.1 rfl; have x2 := cell_at (o := 2) hx.1 rfl; have y0 := cell_at (o := 0) hx.2.1 rfl; have y1 := cell_at (o := 1) hx.2.1 rfl; have y2 := cell_at (o := 2) hx.2.1 rfl) | (go_at_call 18; (with_reducible refine (AY.out _ ?_).mono ?_); exact hx; rintro e w2 ⟨rfl, hx⟩; have x0 := cell_at (o := 0) hx.1 rfl; have x1 := cell_at (o := 1) hx.1 rfl; have x2 := cell_at (o := 2) hx.1 rfl; have y0 := cell_at (o := 0) hx.2.1 rfl; have y1 := cell_at (o := 1) hx.2.1 rfl; have y2 := cell_at (o := 2) hx.2.1 rfl))
    go_ret2
    exact ⟨ret_ii' HC.out.1 HC.out.2, hx.2.2⟩
  rw [ay] at AY
  have HC : Hid (cmpA x y = ordR x y ∧ (0 : Int) = ordC x y) := by constructor <;> simp [ordR, ordC, ax, ay]
  clear ax ay
  generalize cmpA x y = q at *
  go_enter Try.func10, Try.ntmps10
  go_wp2_with (first | (go_at_call 18; (with_reducible refine (AX.out _ ?_).mono ?_); exact hx; rintro e w1 ⟨rfl, hx⟩; have x0 := cell_at (o := 0) hx.1 rfl; have x1 := cell_at (o := 1) hx.1 rfl; have x2 := cell_at (o := 2) hx.1 rfl; have y0 := cell_at (o := 0) hx.2.1 rfl; have y1 := cell_at (o := 1) hx.2.1 rfl; have y2 := cell_at (o := 2) hx.2.1 rfl) | (go_at_call 18; (with_reducible refine (AY.out _ ?_).mono ?_); exact hx; rintro e w2 ⟨rfl, hx⟩; have x0 := cell_at (o := 0) hx.1 rfl; have x1 := cell_at (o := 1) hx.1 rfl; have x2 := cell_at (o := 2) hx.1 rfl; have y0 := cell_at (o := 0) hx.2.1 rfl; have y1 := cell_at (o := 1) hx.2.1 rfl; have y2 := cell_at (o := 2) hx.2.1 rfl) | (go_at_call 17; refine (OR.out _ hx).mono ?_; rintro e w3 ⟨rfl, hx⟩))
  go_ret2
  exact ⟨ret_ii' HC.out.1 HC.out.2, hx.2.2⟩
theorem atSaidI : AtSaid := fun x w ht => atomOKi x w ht
theorem doSaidI : DoSaid := fun l a c S w hl hx hw hA => datumOKi l a c S w hl hx hw hA
end Go.Proofs.Ytpdidfbeelgpmaa
namespace Go.Proofs.Ytpdidfbeelgpmaa
open Go.RowKit
set_option linter.unusedSimpArgs false
/-! drawn sets are right, and so is what is made of them -/
theorem Drn.datum {k : Nat} {L : List At} (h : Drn k L) (hl : L.length ≤ 8) : datumB L = true := by
  rw [datumB_yes, decide_eq_true hl]
  intro i hi
  cases i with
  | zero => exact step_zero hi (h.2 _ (List.getElem_mem hi)).2
  | succ m =>
    rw [step_up hi (h.2 _ (List.getElem_mem hi)).2 (by rw [(h.2 _ (List.getElem_mem hi)).1, (h.2 _ (List.getElem_mem (show 0 < L.length by omega))).1])]
    exact decide_eq_true (h.1.get (by omega) hi (by omega))
theorem Drn.two {k : Nat} {A B : List At} (ha : Drn k A) (hb : Drn k B) (h1 : A.length ≤ 8) (h2 : B.length ≤ 8) : twoC A B = 0 := by
  unfold twoC
  rw [if_neg (by omega), if_neg (by rw [ha.datum h1, hb.datum h2]; simp), if_neg]
  rintro ⟨p1, p2, hn⟩
  rw [at_getD p1, at_getD p2] at hn
  exact hn (by rw [(ha.2 _ (List.getElem_mem p1)).1, (hb.2 _ (List.getElem_mem p2)).1])
theorem Drn.join {k : Nat} {A B : List At} (ha : Drn k A) (hb : Drn k B) : Drn k (joinL A B) := ⟨rise_join ha.1 B, fun y hy => by
  rcases mem_join.1 hy with h | h
  · exact ha.2 y h
  · exact hb.2 y h⟩
theorem Drn.minus {k : Nat} {A : List At} (ha : Drn k A) (B : List At) : Drn k (minusA A B) := ⟨rise_minus ha.1 B, fun y hy => ha.2 y (mem_minus.1 hy).1⟩
theorem Drn.text {k : Nat} {A : List At} (ha : Drn k A) : ∀ x ∈ A, x.t.length ≤ maxLen := fun x hx => by
  have := atOK_text (ha.2 x hx).2
  unfold maxLen
  omega
theorem join_drn {k : Nat} {A B : List At} (ha : Drn k A) (hb : Drn k B) (h1 : A.length ≤ 4) (h2 : B.length ≤ 4) : joinR A B = joinL A B ∧ joinC A B = 0 ∧ (joinL A B).length ≤ 8 := by
  have h8 : (joinL A B).length ≤ 8 := by have := join_len A B; omega
  have h0 := ha.two hb (by omega) (by omega)
  refine ⟨?_, ?_, h8⟩
  · unfold joinR
    rw [if_pos ⟨h0, by omega⟩]
  · unfold joinC
    rw [if_pos h0, if_neg (by omega)]
theorem minus_len' (A B : List At) : (minusA A B).length ≤ A.length := List.length_filter_le _ _
theorem less_drn {k : Nat} {A B : List At} (ha : Drn k A) (hb : Drn k B) (h1 : A.length ≤ 8) (h2 : B.length ≤ 8) : lessL A B = minusA A B ∧ twoC A B = 0 := by
  have h0 := ha.two hb h1 h2
  refine ⟨?_, h0⟩
  unfold lessL
  rw [if_pos h0]
/-- what the law of joins asks of drawn sets -/
theorem join_law {k : Nat} {A B : List At} (ha : Drn k A) (hb : Drn k B) (h1 : A.length ≤ 4) (h2 : B.length ≤ 4) :
    joinC A B = 0 ∧ twoC (joinR A B) B = 0 ∧ twoC A B = 0 ∧ lessL (joinR A B) B = lessL A B ∧ joinC (lessL A B) B = 0 ∧ joinR (lessL A B) B = joinR A B := by
  obtain ⟨e1, e2, e3⟩ := join_drn ha hb h1 h2
  obtain ⟨e4, e5⟩ := less_drn ha hb (by omega) (by omega)
  obtain ⟨e6, e7⟩ := less_drn (ha.join hb) hb e3 (by omega)
  have hm := minus_len' A B
  obtain ⟨e8, e9, -⟩ := join_drn (ha.minus B) hb (by omega) h2
  refine ⟨e2, by rw [e1]; exact e7, e5, by rw [e1, e6, e4]; exact minus_join ha.1 B, by rw [e4]; exact e9, by rw [e4, e8, e1]; exact join_minus ha.1 B⟩
end Go.Proofs.Ytpdidfbeelgpmaa
namespace Go.Proofs.Ytpdidfbeelgpmaa
open Go.RowKit
set_option linter.unusedSimpArgs false
set_option maxRecDepth 100000 in
set_option maxHeartbeats 3200000 in
/-- the first choice out of n that some bytes make -/
theorem atS (l : List UInt8) (a : Option Addr) (c n : Nat) (B : Nat → Prop) (W : World) (hb : Byts W B a l) (hl : l.length ≤ 1048576) (h1 : 1 < n) (h2 : n ≤ 256) :
    Calls Try.prog 5 #[.slice a l.length c, .int .i64 0, .int .i64 (n : Int)] W fun e W' => ∃ k : Nat, e = .returned (.int .i64 (k : Int)) ∧ k < n ∧ Below W.heap.size W W' := by
  have d1 : decide ((n : Int) ≤ 1) = false := decide_eq_false (by omega)
  have d2 : decide (n ≤ 1) = false := decide_eq_false (by omega)
  have d5 : ((n : Int) == 0) = false := by rw [beq_eq_false_iff_ne]; omega
  have hn0 : n ≠ 0 := by omega
  have HB : Hid (Below W.heap.size W W ∧ Below W.heap.size W W.drew) := ⟨Below.refl _ _, (Below.refl _ _).drew⟩
  have HN : Hid (0 < n) := by show 0 < n; omega
  rcases hb with h0 | ⟨b, off, rfl, hb, hc⟩
  · have e0 : l = [] := List.length_eq_zero_iff.1 h0
    subst e0
    clear h1 h2 hl h0
    go_enter Try.func5, Try.ntmps5
    go_wp2_with fail
    go_ret
    exact ⟨0, rfl, HN.out, HB.out.1⟩
  by_cases h0 : l.length = 0
  · have e0 : l = [] := List.length_eq_zero_iff.1 h0
    subst e0
    clear h1 h2 hl h0 hc
    go_enter Try.func5, Try.ntmps5
    go_wp2_with fail
    go_ret
    exact ⟨0, rfl, HN.out, HB.out.1⟩
  have g1 : ((l.length : Int) == 0) = false := by rw [beq_eq_false_iff_ne]; omega
  have g2 : (l.length == 0) = false := by rw [beq_eq_false_iff_ne]; omega
  have g3 : l ≠ [] := fun e => h0 (by rw [e]; rfl)
  have hp : 0 < l.length := by omega
  obtain ⟨r, hr⟩ : ∃ r : Nat, r = 1 % l.length := ⟨_, rfl⟩
  have hrl : r < l.length := by rw [hr]; exact Nat.mod_lt _ hp
  have t1 : (1 : Int).tmod (l.length : Int) = (r : Int) := by rw [Int.tmod_eq_emod_of_nonneg (by omega), hr, Int.natCast_emod]; rfl
  have t2 : IntKind.i64.wrap (r : Int) = (r : Int) := by rw [IntKind.wrap_i64]; omega
  have c0 := hc 0 hp
  have c1 := hc r hrl
  rw [Nat.add_zero] at c0
  obtain ⟨v0, e0⟩ : ∃ v : Nat, v = l[0].toNat := ⟨_, rfl⟩
  obtain ⟨v1, e1⟩ : ∃ v : Nat, v = l[r].toNat := ⟨_, rfl⟩
  have b0 : v0 < 256 := by rw [e0]; exact UInt8.toNat_lt _
  have b1 : v1 < 256 := by rw [e1]; exact UInt8.toNat_lt _
  rw [← e0] at c0
  rw [← e1] at c1
  obtain ⟨u1, q1⟩ : ∃ u : Nat, u = v0 * 31 := ⟨_, rfl⟩
  obtain ⟨u2, q2⟩ : ∃ u : Nat, u = u1 + v1 := ⟨_, rfl⟩
  obtain ⟨k, q3⟩ : ∃ u : Nat, u = u2 % n := ⟨_, rfl⟩
  have f0 : IntKind.i64.wrap (v0 : Int) = (v0 : Int) := by rw [IntKind.wrap_i64]; omega
  have f1 : IntKind.i64.wrap (v1 : Int) = (v1 : Int) := by rw [IntKind.wrap_i64]; omega
  have f2 : IntKind.i64.wrap ((v0 : Int) * 31) = (u1 : Int) := by rw [IntKind.wrap_i64]; omega
  have f3 : IntKind.i64.wrap ((u1 : Int) + (v1 : Int)) = (u2 : Int) := by rw [IntKind.wrap_i64]; omega
  have f4 : IntKind.i64.wrap (u2 : Int) = (u2 : Int) := by rw [IntKind.wrap_i64]; omega
  have HK : Hid (k < n) := by show k < n; rw [q3]; exact Nat.mod_lt _ HN.out
  have f5 : (u2 : Int).tmod (n : Int) = (k : Int) := by rw [Int.tmod_eq_emod_of_nonneg (by omega), q3, Int.natCast_emod]
  have f6 : IntKind.i64.wrap (k : Int) = (k : Int) := by have := HK.out; rw [IntKind.wrap_i64]; omega
  clear h1 h2 hl hc hb e0 e1 b0 b1 q1 q2 q3 hr h0
  go_enter Try.func5, Try.ntmps5
  go_wp2_with fail
  go_region
  go_wp2_with fail
  go_ret
  exact ⟨k, rfl, HK.out, HB.out.2⟩
end Go.Proofs.Ytpdidfbeelgpmaa
