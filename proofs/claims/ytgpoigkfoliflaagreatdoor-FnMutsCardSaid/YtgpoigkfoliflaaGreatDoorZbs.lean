import Derived.Test.YtgpoigkfoliflaaGreatDoorZbr
import Derived.Test.YtgpoigkfoliflaaGreatDoorZbb
import Derived.Test.YtgpoigkfoliflaaGreatDoorZac
import Derived.Test.YtgpoigkfoliflaaGreatDoorZad
import Derived.Test.YtgpoigkfoliflaaGreatDoorZbo
import Derived.Test.YtgpoigkfoliflaaGreatDoorZab
import Derived.Test.YtgpoigkfoliflaaGreatDoorZbf
namespace Go.Proofs.YtgpoigkfoliflaaGreatDoor
open Go.RowKit
set_option linter.unusedSimpArgs false
def Drn (k : Nat) (L : List At) : Prop := Rise L ∧ ∀ x ∈ L, x.k = (k : Int) ∧ atOK x = true
theorem Drn.nil (k : Nat) : Drn k [] := ⟨rise_nil, fun _ h => absurd h List.not_mem_nil⟩
theorem Drn.put {k : Nat} {L : List At} (h : Drn k L) {x : At} (hk : x.k = (k : Int)) (ho : atOK x = true) : Drn k (putL L x) := ⟨rise_put h.1 x, fun y hy => by
  rcases mem_put.1 hy with h1 | rfl
  · exact h.2 y h1
  · exact ⟨hk, ho⟩⟩
variable {w W W' : World} {p S : Nat} {a : Option Addr} {l : List UInt8} {c m k n g cp : Nat} {L : List At}
theorem AI.place {B : Nat} {v : Value} (h : AI W B W' v L) : ∃ g c, v = .slice (some ⟨g, 0, none⟩) L.length c ∧ L.length ≤ c ∧ Ats W' (· = g) (some ⟨g, 0, none⟩) L ∧ W.heap.size ≤ g ∧ g < W'.heap.size := by
  obtain ⟨a, c, e, ho⟩ := h.buf.own
  rcases h.buf.2 with ⟨e', -⟩ | ⟨g, cap, cur, rfl, hg, hb, hn, -⟩
  · exact absurd e' h.no
  · injection e with e1 e2 e3
    subst e1
    have hlt : g < W'.heap.size := (Array.getElem?_eq_some_iff.1 hb).1
    refine ⟨g, cap, rfl, hn, ?_, Nat.le_trans h.old hg, hlt⟩
    rcases ho.ats with h0 | ⟨b, off, e, hb', hc⟩
    · exact .inl h0
    · cases e
      exact .inr ⟨g, 0, rfl, rfl, hc⟩
end Go.Proofs.YtgpoigkfoliflaaGreatDoor
namespace Go.Proofs.YtgpoigkfoliflaaGreatDoor
open Go.RowKit
set_option linter.unusedSimpArgs false
structure DrV (W0 : World) (p S : Nat) (a : Option Addr) (l : List UInt8) (c m k n : Nat) (W : World) (g cp : Nat) (L : List At) : Prop where
  frm : Frm (· = p) W0 W
  pos : p < W0.heap.size
  src : ∃ s, Src W p S a l c m s
  ats : Ats W (· = g) (some ⟨g, 0, none⟩) L
  gp : W0.heap.size ≤ g
  lt : g < W.heap.size
  cap : L.length ≤ cp
  len : L.length ≤ n
  drn : Drn k L
variable {W0 W W' : World} {p S : Nat} {a : Option Addr} {l : List UInt8} {c m s k n g cp : Nat} {L : List At}
theorem DrV.draw (h : DrV W0 p S a l c m k n W g cp L) (hF : Frm (· = p) W W') {s' : Nat} (hS : Src W' p S a l c (m + 1) s') : DrV W0 p S a l c (m + 1) k n W' g cp L := by
  have hp := h.pos
  have hg := h.gp
  exact ⟨h.frm.trans hF, hp, ⟨s', hS⟩, h.ats.same (fun b hb => hF.block b (by rw [hb]; exact h.lt) (by omega)) (fun _ h => h), hg, Nat.lt_of_lt_of_le h.lt hF.size, h.cap, h.len, h.drn⟩
theorem DrV.keep (h : DrV W0 p S a l c m k n W g cp L) (hB : Below W.heap.size W W') {L' : List At} (e : L' = L) : DrV W0 p S a l c m k (n + 1) W' g cp L' := by
  subst e
  obtain ⟨s, hs⟩ := h.src
  exact ⟨h.frm.trans (Frm.of_below hB), h.pos, ⟨s, hs.on hB⟩, h.ats.same (fun b hb => hB.block b (by rw [hb]; exact h.lt)) (fun _ h => h), h.gp, Nat.lt_of_lt_of_le h.lt hB.size, h.cap, Nat.le_succ_of_le h.len, h.drn⟩
theorem DrV.put (h : DrV W0 p S a l c m k n W g cp L) {B : Nat} {v : Value} {x : At} (hk : x.k = (k : Int)) (ho : atOK x = true) (hai : AI W B W' v (putL L x)) : ∃ g' c', v = .slice (some ⟨g', 0, none⟩) (putL L x).length c' ∧ DrV W0 p S a l c m k (n + 1) W' g' c' (putL L x) := by
  obtain ⟨g', c', e, hc, hat, hg, hlt⟩ := hai.place
  obtain ⟨s, hs⟩ := h.src
  have h1 := h.gp
  have h2 := h.lt
  refine ⟨g', c', e, h.frm.trans (Frm.of_below hai.bel), h.pos, ⟨s, hs.on hai.bel⟩, hat, by omega, hlt, hc, ?_, h.drn.put hk ho⟩
  have := putL_len L x
  have := h.len
  omega
def DatumV (W : World) (p S : Nat) (a : Option Addr) (l : List UInt8) (c m k : Nat) (e : Ending) (W' : World) : Prop := ∃ g cp L m' s', e = .returned (.slice (some ⟨g, 0, none⟩) (L : List At).length cp) ∧ L.length ≤ 4 ∧ Drn k L ∧ Ats W' (· = g) (some ⟨g, 0, none⟩) L ∧ W.heap.size ≤ g ∧ g < W'.heap.size ∧ L.length ≤ cp ∧ m' ≤ m + 5 ∧ Src W' p S a l c m' s' ∧ Frm (· = p) W W'
set_option maxRecDepth 100000 in
set_option maxHeartbeats 3200000 in
theorem srcDatumV (h : Src W p S a l c m s) (hm : m < 990000) (h1 : 1 ≤ k) (h4 : k ≤ 4) :
    Calls Tryz.prog 43 #[.pointer (some ⟨p, 0, none⟩), .int .i64 (k : Int)] W (DatumV W p S a l c m k) := by
  have hA : Below W.heap.size W (W.alloc (.cells #[] 55)) := (Below.refl _ _).alloc (Nat.le_refl _) _
  have hpl : p < W.heap.size := (Array.getElem?_eq_some_iff.1 h.box).1
  have NX := Lib.hid (srcNext (h.on hA) (by omega) 5 (by omega) (by omega))
  have D0 : Hid (∀ w1 s', Frm (· = p) (W.alloc (.cells #[] 55)) w1 → Src w1 p S a l c (m + 1) s' → DrV W p S a l c (m + 0 + 1) k 0 w1 W.heap.size 0 []) := fun w1 s' hF hS => by
    have e : (W.alloc (.cells #[] 55)).heap.size = W.heap.size + 1 := by simp
    have hsz := hF.size
    exact ⟨(Frm.of_below hA).trans hF, hpl, ⟨s', hS⟩, .inl rfl, Nat.le_refl _, by omega, Nat.le_refl _, Nat.le_refl _, Drn.nil k⟩
  have HK : Hid (1 ≤ k ∧ k ≤ 4) := ⟨h1, h4⟩
  have HM := Lib.hid hm
  clear h hA hpl h1 h4 hm
  go_enter Tryz.func43, Tryz.ntmps43
  go_wp2_with fail
  refine NX.out.mono ?_
  rintro e w1 ⟨r, s', rfl, hr, hS, hF⟩
  have D1 := Lib.hid (D0.out w1 s' hF hS)
  have HR := Lib.hid hr
  clear hS hF hr D0 NX
  go_wp2_with fail
  go_loopw [5, 6] (fun o i wr => ∃ i' j g cp L, i' + j = r ∧ i = .int .i64 ((i' : Nat) : Int) ∧ o = .slice (some ⟨g, 0, none⟩) L.length cp ∧ Hid (DrV W p S a l c (m + j + 1) k j wr g cp L)) (fun _ i _ => (intOf i).toNat)
  case atStart => exact ⟨r, 0, _, 0, [], rfl, rfl, rfl, D1⟩
  case round =>
    obtain ⟨i', j, g, cp, L, hij, rfl, rfl, HD⟩ := hrel
    have hj5 : j ≤ 5 := by have := HR.out; omega
    have HJ : Hid (j ≤ 4) := by have := HR.out; show j ≤ 4; omega
    by_cases hi : i' = 0
    · subst hi
      have HL : Hid (L.length ≤ 4) := by have := HD.out.len; have := HR.out; show L.length ≤ 4; omega
      clear hij hj5
      go_wp2_with fail
      go_ret
      obtain ⟨s9, hs9⟩ := HD.out.src
      exact ⟨g, cp, L, _, s9, rfl, HL.out, HD.out.drn, HD.out.ats, HD.out.gp, HD.out.lt, HD.out.cap, by have := HJ.out; omega, hs9, HD.out.frm⟩
    · obtain ⟨q, rfl⟩ : ∃ q, i' = q + 1 := ⟨i' - 1, by omega⟩
      obtain ⟨i2, hi2⟩ : ∃ i2, i2 = q + 1 := ⟨_, rfl⟩
      have d1 : decide (0 < (i2 : Int)) = true := decide_eq_true (by omega)
      have d2 : decide (0 < i2) = true := decide_eq_true (by omega)
      have hq : i2 ≤ 5 := by have := HR.out; omega
      have f1 : IntKind.i64.wrap ((i2 : Int) - 1) = (q : Int) := by rw [IntKind.wrap_i64]; omega
      have HQ : Hid (q + (j + 1) = r) := by show _ = _; omega
      have HI : Hid (i2 = q + 1) := hi2
      obtain ⟨s2, hs2⟩ := HD.out.src
      have AT := Lib.hid (srcAtom hs2 (by have := HM.out; omega) k HK.out.1 HK.out.2)
      rw [← hi2]
      clear hij hj5 hi hi2 hq hs2
      go_wp2_with fail
      refine AT.out.mono ?_
      rintro e w2 ⟨x, s3, rfl, hxk, hxo, hS, hF⟩
      have HD2 := Lib.hid (HD.out.draw hF hS)
      have HX : Hid (x.k = (k : Int) ∧ atOK x = true) := ⟨hxk, hxo⟩
      clear hS hF hxk hxo AT
      cases hh : hasB L x
      · have HP : Hid (Calls Tryz.prog 60 #[.slice (some ⟨g, 0, none⟩) L.length cp, .agg #[.int .i64 x.k, .int .i64 x.n, .string ⟨x.t.toArray⟩]] w2 fun e w' => ∃ g' c', e = .returned (.slice (some ⟨g', 0, none⟩) (putL L x).length c') ∧ DrV W p S a l c (m + (j + 1) + 1) k (j + 1) w' g' c' (putL L x)) :=
          (putS L x g 0 cp w2.heap.size w2 (by have := HD2.out.len; have := HQ.out; have := HR.out; omega) (Nat.le_refl _) (HD2.out.ats.same (fun _ _ => rfl) (fun b hb => by rw [hb]; exact HD2.out.lt)) HD2.out.cap hh).mono (fun e w' ⟨v, B', he, hai⟩ => by
            have hai' : AI w2 B' w' v (putL L x) := hai.cast (by unfold putL; rw [hh]; rfl)
            obtain ⟨g', c', e', hd⟩ := HD2.out.put HX.out.1 HX.out.2 hai'
            exact ⟨g', c', by rw [he, e'], hd⟩)
        clear hh
        generalize L.length = n0 at *
        go_wp2_with (go_at_call 60; refine HP.out.mono ?_; rintro e w3 ⟨g', c', rfl, H3⟩)
        go_roundw
        case rel => exact ⟨q, j + 1, g', c', putL L x, HQ.out, rfl, rfl, H3⟩
        case measure => have := HI.out; simp [intOf]; omega
      · have HP : Hid (Calls Tryz.prog 60 #[.slice (some ⟨g, 0, none⟩) L.length cp, .agg #[.int .i64 x.k, .int .i64 x.n, .string ⟨x.t.toArray⟩]] w2 fun e w' => e = .returned (.slice (some ⟨g, 0, none⟩) L.length cp) ∧ DrV W p S a l c (m + (j + 1) + 1) k (j + 1) w' g cp L) :=
          (putS1 L x _ cp w2.heap.size w2 (by have := HD2.out.len; have := HQ.out; have := HR.out; omega) (Nat.le_refl _) (HD2.out.ats.same (fun _ _ => rfl) (fun b hb => by rw [hb]; exact HD2.out.lt)) hh).mono (fun e w' ⟨he, hb⟩ => ⟨he, HD2.out.keep hb rfl⟩)
        clear hh
        obtain ⟨n0, hn0⟩ : ∃ n0, n0 = L.length := ⟨_, rfl⟩
        rw [← hn0] at HP ⊢
        have HN0 := Lib.hid hn0
        clear hn0
        go_wp2_with (go_at_call 60; refine HP.out.mono ?_; rintro e w3 ⟨rfl, H3⟩)
        go_roundw
        case rel => exact ⟨q, j + 1, g, cp, L, HQ.out, rfl, by rw [HN0.out], H3⟩
        case measure => have := HI.out; simp [intOf]; omega
end Go.Proofs.YtgpoigkfoliflaaGreatDoor
namespace Go.Proofs.YtgpoigkfoliflaaGreatDoor
open Go.RowKit
set_option linter.unusedSimpArgs false
theorem SG.nil {w : World} {base : Nat} {G : Nat → Prop} {T : TypeId} {n : Nat} {f : Nat → Nat → D} : SG w base G T n f 0 (.slice none 0 0) := ⟨[], ⟨by simp, .inl ⟨rfl, rfl⟩⟩, fun i j h => absurd h (by omega)⟩
theorem SG.conv {w : World} {base : Nat} {G G' : Nat → Prop} {T : TypeId} {n : Nat} {f f' : Nat → Nat → D} {k : Nat} {v : Value} (h : SG w base G T n f k v) (hf : ∀ i j, i < k → f' i j = f i j) (hG : ∀ c, c < w.heap.size → G c → G' c) : SG w base G' T n f' k v := by
  obtain ⟨xs, h1, h2⟩ := h
  refine ⟨xs, h1, fun i j hi hj => ?_⟩
  obtain ⟨u, hu, hr⟩ := h2 i j hi hj
  exact ⟨u, hu, by rw [hf i j hi]; exact hr.mono (fun c hc => ⟨hc.1, hG c hc.1.2 hc.2⟩)⟩
theorem SG.frmP {w w' : World} {base : Nat} {G : Nat → Prop} {T : TypeId} {n : Nat} {f : Nat → Nat → D} {k : Nat} {v : Value} {p : Nat} (h : SG w base G T n f k v) (hF : Frm (· = p) w w') (hv : ∀ g, v.ownBlock = some g → g ≠ p) (hG : ∀ c, G c → c ≠ p) : SG w' base G T n f k v := by
  obtain ⟨xs, h1, h2⟩ := h
  refine ⟨xs, ?_, fun i j hi hj => ?_⟩
  · obtain ⟨h3, h4⟩ := h1
    refine ⟨h3, ?_⟩
    rcases h4 with h4 | ⟨g, cap, cur, hv', hg, hh, r⟩
    · exact .inl h4
    · exact .inr ⟨g, cap, cur, hv', hg, by rw [hF.block g (Array.getElem?_eq_some_iff.1 hh).1 (hv g (by rw [hv']; rfl))]; exact hh, r⟩
  · obtain ⟨u, hu, hr⟩ := h2 i j hi hj
    exact ⟨u, hu, Rd.same (fun c hc => hF.block c hc.1.2 (hG c hc.2)) (fun c hc => ⟨⟨hc.1.1, Nat.lt_of_lt_of_le hc.1.2 hF.size⟩, hc.2⟩) _ _ hr⟩
end Go.Proofs.YtgpoigkfoliflaaGreatDoor
namespace Go.Proofs.YtgpoigkfoliflaaGreatDoor
open Go.RowKit
set_option linter.unusedSimpArgs false
variable {V W1 W W' : World} {p S : Nat} {a : Option Addr} {l : List UInt8} {c m m' s : Nat}
def ChanceW (W : World) (p S : Nat) (a : Option Addr) (l : List UInt8) (c m : Nat) (e : Ending) (W' : World) : Prop := ∃ (b : Bool) (s' : Nat), e = .returned (.bool b) ∧ Src W' p S a l c (m + 1) s' ∧ Frm (· = p) W W'
set_option maxHeartbeats 1600000 in
theorem srcChanceW (h : Src W p S a l c m s) (hm : m < 1000000) (n : Nat) (h1 : 1 < n) (h2 : n ≤ 256) :
    Calls Tryz.prog 42 #[.pointer (some ⟨p, 0, none⟩), .int .i64 (n : Int)] W (ChanceW W p S a l c m) := by
  have NX := Lib.hid (srcNext h hm n h1 h2)
  have hw : IntKind.i64.wrap ((n : Int) - 1) = (n : Int) - 1 := by rw [IntKind.wrap_i64]; omega
  clear h hm
  go_enter Tryz.func42, Tryz.ntmps42
  go_wp2_with fail
  refine NX.out.mono ?_
  rintro e w1 ⟨b, s', rfl, hb, hS, hF⟩
  have HS := Lib.hid hS
  have HF := Lib.hid hF
  clear hS hF hb
  go_wp2_with fail
  go_ret
  exact ⟨_, s', rfl, HS.out, HF.out⟩
def PlT (w : World) (e : Ending) (w' : World) : Prop := ∃ (A : Nat → Ad) (rb off : Nat), e = .returned (.agg #[.slice (some ⟨rb, off, none⟩) 3 3]) ∧ (∀ t, t < 3 → TabAt w' rb (off + t * 4) (plT t) (A t) ∧ (plT t).Has w' (fun b => w.heap.size ≤ b ∧ b < w'.heap.size) (A t).ca (A t).ua) ∧ Below w.heap.size w w'
theorem plainT (w : World) : Calls Tryz.prog 5 #[] w (PlT w) := (plainS w).mono (fun e w' ⟨A, rb, cb, ub, he, ho, _, hin, hB⟩ => by
  refine ⟨A, rb, 0, he, fun t ht => ⟨?_, ?_⟩, hB⟩
  · obtain ⟨b, off, e, hb, hc⟩ := Rw.at (OwnRw.rw ho.row) (t * 4) (by omega)
    cases e
    have g : ∀ j, j < 4 → w'.cell? ⟨rb, 0 + t * 4 + j, none⟩ = some ((tbC (plT t) (A t)).getD j undef) := fun j hj => by
      rw [Nat.add_assoc, hc _ (by omega), tF_at _ _ _ _ hj]
    exact ⟨g 0 (by omega), g 1 (by omega), g 2 (by omega), g 3 (by omega)⟩
  · exact ⟨Rw.same (OwnRw.rw (ho.cols t ht)) (fun _ _ => rfl) (fun b hb => hin b (.inr ⟨t, ht, .inl hb⟩)), Rw.same (OwnRw.rw (ho.ints t ht)) (fun _ _ => rfl) (fun b hb => hin b (.inr ⟨t, ht, .inr hb⟩))⟩)
theorem ats_rd {w : World} {B : Nat → Prop} {q : Option Addr} {L : List At} (h : Ats w B q L) (cp : Nat) : Rd w B (dAtomS L) (.slice q L.length cp) := by
  refine ⟨q, cp, rfl, ?_⟩
  rcases h with h | ⟨b, off, e, hb, hc⟩
  · exact .inl h
  · refine .inr ⟨b, off, e, hb, by omega, fun i j hi hj => ?_⟩
    rw [lsF_at hi]
    rcases (by omega : j = 0 ∨ j = 1 ∨ j = 2) with rfl | rfl | rfl
    · exact ⟨_, by rw [Nat.add_assoc]; exact hc (i * 3 + 0) (by omega), by rw [Nat.add_zero, atF0 hi]; rfl⟩
    · exact ⟨_, by rw [Nat.add_assoc]; exact hc (i * 3 + 1) (by omega), by rw [atF1 hi]; rfl⟩
    · exact ⟨_, by rw [Nat.add_assoc]; exact hc (i * 3 + 2) (by omega), by rw [atF2 hi]; rfl⟩
theorem keepF {b : Nat} {o : Obj} (h : W.heap[b]? = some o) (hF : Frm (· = p) W W') (hb : b ≠ p) : W'.heap[b]? = some o := by rw [hF.block b (Array.getElem?_eq_some_iff.1 h).1 hb]; exact h
theorem frm_over {A W1 W2 : World} (hF : Frm (· = p) A W1) {b : Nat} (hb : A.heap.size ≤ b) (hG : Frm (· = b) W1 W2) : Frm (· = p) A W2 :=
  ⟨hG.os.trans hF.os, hG.tape.trans hF.tape, hG.output.trans hF.output, Nat.le_trans hF.size hG.size, fun x hx hn => (hG.block x (Nat.lt_of_lt_of_le hx hF.size) (show ¬ x = b by omega)).trans (hF.block x hx hn)⟩
structure DL (V W : World) (p S : Nat) (a : Option Addr) (l : List UInt8) (c m : Nat) (T : TypeId) (n : Nat) (f : Nat → Nat → D) (k : Nat) (v : Value) : Prop where
  src : ∃ s, Src W p S a l c m s
  fr : Frm (· = p) V W
  pl : p < V.heap.size
  sg : SG W V.heap.size (V.heap.size ≤ ·) T n f k v
variable {T : TypeId} {n : Nat} {f f' : Nat → Nat → D} {k : Nat} {v : Value}
theorem DL.draw (h : DL V W p S a l c m T n f k v) (hF : Frm (· = p) W W') (hS : ∃ s', Src W' p S a l c m' s') : DL V W' p S a l c m' T n f k v :=
  ⟨hS, h.fr.trans hF, h.pl, h.sg.frmP hF (fun g hg => by have := h.sg.low hg; have := h.pl; omega) (fun b hb => by have := h.pl; omega)⟩
theorem DL.later (h : DL V W p S a l c m T n f k v) (hB : Below W.heap.size W W') : DL V W' p S a l c m T n f k v := by
  obtain ⟨s, hs⟩ := h.src
  exact h.draw (Frm.of_below hB) ⟨s, hs.on hB⟩
theorem DL.push {P : Program} (h : DL V W p S a l c m T n f k v) (hf : ∀ i j, i < k → f' i j = f i j) (t ty : TypeId) (i : TypeInfo) (z : Value) (bytes : Nat) (ht : P.underlying t = some (.slice T)) (hi : P.info? T = some i) (hz : i.zero = some z)
    (hsize : i.size = n) (hby : i.bytes = bytes) (hzs : z.cells.size = n) (hn : 0 < n) (ad : Addr) (cc : Nat) (news : List Value) (hl : news.length = n) (hnews : ∀ j u, news[j]? = some u → W.cell? (ad.add j) = some u) (h1 : ∀ u ∈ news, u.oneCell' = true)
    (h63 : k + 1 ≤ maxLen) (hbytes : (k + 1) * bytes ≤ 140737488355328) (hrd : ∀ j, j < n → ∃ u, news[j]? = some u ∧ Rd W (fun b => (v.ownBlock ≠ some b ∧ b < W.heap.size) ∧ V.heap.size ≤ b) (f' k j) u) :
    ∃ a' c' W', (Builtin.append_ #[t, t] ty #[v, .slice (some ad) 1 cc]).run P W = .ok (.slice a' (k + 1) c') W' ∧ DL V W' p S a l c m T n f' (k + 1) (.slice a' (k + 1) c') := by
  obtain ⟨s, hs⟩ := h.src
  have hp := h.pl
  have hsg : SG W V.heap.size (V.heap.size ≤ ·) T n f' k v := h.sg.conv hf (fun _ _ hx => hx)
  obtain ⟨a', c', w', hr, h2, h3, -⟩ := hsg.push (P := P) t ty i z bytes ht hi hz hsize hby hzs hn ad cc news hl hnews h1 h63 hbytes h.fr.size hrd
  have hFg : Frm (fun b => v.ownBlock = some b) W w' := ⟨h3.os, h3.tape, h3.output, h3.size, fun b hb hn => h3.block b hb (fun e => hn e.symm)⟩
  refine ⟨a', c', w', hr, ⟨s, hs.frm hFg (fun e => by have := h.sg.low e; omega) (fun b hb e => by have := h.sg.low e; have := hs.le; omega)⟩, ?_, hp, h2⟩
  exact ⟨h3.os.trans h.fr.os, h3.tape.trans h.fr.tape, h3.output.trans h.fr.output, Nat.le_trans h.fr.size h3.size, fun b hb hn => (hFg.block b (Nat.lt_of_lt_of_le hb h.fr.size) (fun e => by have := h.sg.low e; omega)).trans (h.fr.block b hb hn)⟩
theorem at_leK {x : At} (hk : 1 ≤ x.k ∧ x.k ≤ 4) (h : atOK x = true) : ∀ j, j < 3 → (dAtom x j).le 1048576 := fun j hj => by
  rcases (by omega : j = 0 ∨ j = 1 ∨ j = 2) with rfl | rfl | rfl
  · exact (dk_le (L := [x]) hk ⟨by first | exact rise_one x | exact ⟨by intro i j hi hj; simp at hj; omega⟩ | simp [Rise], fun y hy => by rw [List.mem_singleton.1 hy]; exact ⟨rfl, h⟩⟩ (by simp)).1.2.2 0 0 (by simp) (by omega)
  · exact (dk_le (L := [x]) hk ⟨by first | exact rise_one x | exact ⟨by intro i j hi hj; simp at hj; omega⟩ | simp [Rise], fun y hy => by rw [List.mem_singleton.1 hy]; exact ⟨rfl, h⟩⟩ (by simp)).1.2.2 0 1 (by simp) (by omega)
  · have := atOK_text h; show x.t.length ≤ 1048576; omega
theorem ats_leK {L : List At} (hl : L.length ≤ 1048576) (h : ∀ x ∈ L, (1 ≤ x.k ∧ x.k ≤ 4) ∧ atOK x = true) : (dAtomS L).le 1048576 := Ls_le.2 ⟨by omega, hl, fun i hi j hj => by
  have hx := h _ (List.getElem_mem hi)
  exact at_leK hx.1 hx.2 j hj⟩
end Go.Proofs.YtgpoigkfoliflaaGreatDoor
