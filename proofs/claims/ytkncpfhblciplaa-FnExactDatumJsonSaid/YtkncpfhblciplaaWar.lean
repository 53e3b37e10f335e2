import Derived.Test.YtkncpfhblciplaaWaq
namespace Go.Proofs.Ytkncpfhblciplaa
open Go.RowKit
set_option linter.unusedSimpArgs false
theorem Row.at {w : World} {b off n : Nat} {f : Nat → Value} (h : Row w b off n f) (m : Nat) (hm : m < n) {o : Nat} (ho : o = off + m) : w.cell? ⟨b, o, none⟩ = some (f m) ∧ w.frozen? ⟨b, o, none⟩ = false := by
  subst ho; exact h m hm
theorem Row.set_at {w : World} {b off n : Nat} {f : Nat → Value} (h : Row w b off n f) (i : Nat) (hi : i < n) (v : Value) {o : Nat} (ho : o = off + i) : Row (w.setCell ⟨b, o, none⟩ v) b off n (fun m => if m = i then v else f m) := by
  subst ho; exact h.set i hi v
def turn3 (f : Nat → Value) (i : Nat) (v0 v1 v2 : Value) : Nat → Value := fun m => if m = i * 5 + 2 then v2 else if m = i * 5 + 1 then v1 else if m = i * 5 then v0 else f m
theorem five_turn (f : Nat → Value) (i : Nat) (v0 v1 v2 : Value) : five (turn3 f i v0 v1 v2) i = [v0, v1, v2, f (i * 5 + 3), f (i * 5 + 4)] := by
  have h1 : ∀ o o' : Nat, (i * 5 + o = i * 5 + o') ↔ o = o' := fun o o' => by omega
  have h0 : ∀ o : Nat, (i * 5 = i * 5 + o) ↔ 0 = o := fun o => by omega
  simp [five, turn3, h1, h0]
theorem five_other (f : Nat → Value) (i m : Nat) (h : m ≠ i) (v0 v1 v2 : Value) : five (turn3 f i v0 v1 v2) m = five f m := by
  have h5 : ∀ o o' : Nat, o < 5 → o' < 5 → ¬ (m * 5 + o = i * 5 + o') := fun o o' h1 h2 => by omega
  have g0 : ∀ o' : Nat, o' < 5 → ¬ (m * 5 = i * 5 + o') := fun o' h2 => by omega
  have g1 : ∀ o : Nat, o < 5 → ¬ (m * 5 + o = i * 5) := fun o h2 => by omega
  have g2 : ¬ (m * 5 = i * 5) := by omega
  simp only [five, turn3, g2, g0 1 (by omega), g0 2 (by omega), g1 1 (by omega), g1 2 (by omega), g1 3 (by omega), g1 4 (by omega), h5 1 1 (by omega) (by omega), h5 1 2 (by omega) (by omega), h5 2 1 (by omega) (by omega), h5 2 2 (by omega) (by omega), h5 3 1 (by omega) (by omega), h5 3 2 (by omega) (by omega), h5 4 1 (by omega) (by omega), h5 4 2 (by omega) (by omega), if_false]
theorem OwnRow.turn {wr w5 : World} {b off n : Nat} {f : Nat → Value} {X : Nat → Nat → Prop} {L : Nat → J} (h : OwnRow wr b off n f X L) (i : Nat) (x' : J) (v0 v1 v2 : Value)
    (hrow : Row w5 b off (n * 5) (turn3 f i v0 v1 v2)) (hx : OwnJ w5 x' (X i) [v0, v1, v2, f (i * 5 + 3), f (i * 5 + 4)])
    (hs : ∀ c, c < wr.heap.size → c ≠ b → ¬ X i c → w5.heap[c]? = wr.heap[c]?) : OwnRow w5 b off n (turn3 f i v0 v1 v2) X (fun m => if m = i then x' else L m) := by
  refine ⟨hrow, h.away, h.apart, fun m hm => ?_⟩
  show OwnJ w5 (if m = i then x' else L m) (X m) _
  by_cases e : m = i
  · subst e; rw [if_pos rfl, five_turn]; exact hx
  · rw [if_neg e, five_other f i m e]
    exact OwnJ.same _ _ (X m) _ (fun c hc => hs c hc.2 (h.away m c hc.1) (fun hi => e (h.apart m i c hc.1 hi))) (fun _ h => h.1) (OwnJ.inside _ _ _ (h.own m hm))
def mixL (items : List J) (k m : Nat) : Nat → J := fun i => if i < m then mkJ (items.getD i dflt) (k + sumTo mn items i) else items.getD i dflt
theorem mix_zero (items : List J) (k : Nat) : mixL items k 0 = fun i => items.getD i dflt := by funext i; simp [mixL]
theorem mix_succ (items : List J) (k m : Nat) : (fun i => if i = m then mkJ (items.getD m dflt) (k + sumTo mn items m) else mixL items k m i) = mixL items k (m + 1) := by
  funext i
  by_cases e : i = m
  · subst e; simp [mixL]
  · simp only [mixL, if_neg e]
    by_cases e2 : i < m
    · rw [if_pos e2, if_pos (by omega)]
    · rw [if_neg e2, if_neg (by omega)]
theorem mix_all (items : List J) (k i : Nat) (h : i < items.length) : mixL items k items.length i = (mkL items k).getD i dflt := by
  have h' : i < (mkL items k).length := by rw [mkL_len]; exact h
  rw [List.getD_eq_getElem?_getD, List.getElem?_eq_getElem h', mkL_at items k i h]
  simp [mixL, h]
def MarkSaid (j : J) : Prop := ∀ (ia : Option Addr) (c k : Nat) (I : Nat → Prop) (w : World), j.items.length ≤ maxLen → 0 < k → k + (j.items.map mn).sum < 1000000000000 → OwnJsons w I ia j.items →
    Calls Try.prog 45 #[.slice ia j.items.length c, .int .i64 k] w fun e w' => e = .returned (.int .i64 (k + (j.items.map mn).sum : Nat)) ∧ OwnJsons w' I ia (mkL j.items k) ∧ Frm I w w'
set_option maxRecDepth 100000 in
set_option maxHeartbeats 3200000 in
theorem markJsons (j : J) : MarkSaid j := by
  induction j using J.induct with
  | h j ih =>
    intro ia c k I w hl h0 h1 hS
    unfold maxLen at hl
    obtain ⟨b, off, f, X, ha, hX, hrow⟩ := hS.row
    have IH : Hid (∀ x ∈ j.items, MarkSaid x) := ih
    have HA : Hid (0 < j.items.length → ia = some ⟨b, off, none⟩ ∧ I b) := ha
    have HX : Hid (∀ i c, X i c → I c) := hX
    have HR : Hid (OwnRow w b off j.items.length f X (fun i => j.items.getD i dflt)) := hrow
    clear ha hrow hS hX ih
    go_enter Try.func45, Try.ntmps45
    go_wp2_with fail
    go_loopw [1, 5] (fun q i wr => ∃ m : Nat, m ≤ j.items.length ∧ i = .int .i64 m ∧ q = .int .i64 (k + sumTo mn j.items m : Nat) ∧ Hid (∃ f, OwnRow wr b off j.items.length f X (mixL j.items k m)) ∧ Frm I w wr) (fun _ i _ => j.items.length - (intOf i).toNat)
    case atStart => exact ⟨0, Nat.zero_le _, rfl, by rw [sumTo_zero]; rfl, ⟨f, by rw [mix_zero]; exact HR.out⟩, Frm.refl _ _⟩
    case round =>
      obtain ⟨m, hm, rfl, rfl, HRW, hF⟩ := hrel
      by_cases hlt : m < j.items.length
      · obtain ⟨rfl, hb⟩ := HA.out (by omega)
        obtain ⟨g, hg⟩ := HRW.out
        have HSU : Hid (sumTo mn j.items (m + 1) = sumTo mn j.items m + mn j.items[m]) := sumTo_succ _ _ _ hlt
        have HLE : Hid (sumTo mn j.items (m + 1) ≤ (j.items.map mn).sum) := sumTo_le _ _ _
        have hx := hg.own m hlt
        rw [show mixL j.items k m m = j.items[m] by simp [mixL, List.getElem?_eq_getElem hlt]] at hx
        have HIX : Hid (MarkSaid j.items[m]) := IH.out _ (List.getElem_mem hlt)
        have hmn := mn_eq j.items[m]
        have HMX : Hid (mkJ (j.items.getD m dflt) (k + sumTo mn j.items m) = mkJ j.items[m] (k + sumTo mn j.items m)) := by
          show mkJ _ _ = _
          rw [List.getD_eq_getElem?_getD, List.getElem?_eq_getElem hlt]; rfl
        generalize j.items[m] = x at *
        rw [OwnJ_eq] at hx
        obtain ⟨ka, kc, ia', ic, K, I', e5, ht, hkl, hil, hkx, hks, hK, hI', hjs⟩ := hx
        simp only [five, List.cons.injEq, and_true] at e5
        obtain ⟨e0, e1, e2, e3, e4⟩ := e5
        have hbd : k + sumTo mn j.items m + mn x < 1000000000000 := by have := HSU.out; have := HLE.out; omega
        generalize hkk : k + sumTo mn j.items m = kk at *
        have HKE : Hid (k + sumTo mn j.items m = kk) := hkk
        clear hkk
        have c0 := hg.row.at (m * 5) (by omega) (o := off + m * 5) rfl
        have c1 := hg.row.at (m * 5 + 1) (by omega) (o := off + m * 5 + 1) (by omega)
        have HG : Hid (OwnRow wr b off j.items.length g X (mixL j.items k m)) := hg
        have HWK : Hid (OwnStrs wr K ka x.keys) := hks
        have HWJ : Hid (OwnJsons wr I' ia' x.items) := hjs
        have HK : Hid (∀ b, K b → X m b ∧ ¬ I' b) := hK
        have HI' : Hid (∀ b, I' b → X m b) := hI'
        have HT : Hid (mt (kk + 2) = mt (kk + 2)) := rfl
        have r1 := (hg.row.set_at (m * 5) (by omega) (.int .i64 (kk : Int)) (o := off + m * 5) rfl).set_at (m * 5 + 1) (by omega) (.int .i64 ((kk : Int) + 1)) (o := off + m * 5 + 1) (by omega)
        have R1 : Hid (Row _ b off (j.items.length * 5) _) := r1
        have HKX : Hid (∀ y ∈ x.keys, y.length ≤ maxLen) := hkx
        have HTL : Hid (x.t.length ≤ maxLen) := ht
        have hkl' : x.keys.length ≤ 9223372036854775807 := hkl
        have hil' : x.items.length ≤ 9223372036854775807 := hil
        have hE3 : Hid (g (m * 5 + 3) = _) := e3
        have hE4 : Hid (g (m * 5 + 4) = _) := e4
        have hkb : kk + 3 + x.keys.length + (x.items.map mn).sum < 1000000000000 := by omega
        obtain ⟨c0, z0⟩ := c0
        obtain ⟨c1, z1⟩ := c1
        clear r1 hks hjs hK hI' hkx ht hkl hil hg e0 e1 e2 e3 e4
        go_wp2_with fail
        rw [show ((kk : Int) + 1 + 1) = ((kk + 2 : Nat) : Int) by omega]
        refine (markText (kk + 2) _ (by omega) (by omega)).mono ?_
        rintro e w2 ⟨rfl, hB2⟩
        have r2 := R1.out.later hB2
        obtain ⟨c2, z2⟩ := r2.at (m * 5 + 2) (by omega) (o := off + m * 5 + 2) (by omega)
        obtain ⟨c3, -⟩ := r2.at (m * 5 + 3) (by omega) (o := off + m * 5 + 3) (by omega)
        simp only [show ¬ (m * 5 + 3 = m * 5 + 1) by omega, show ¬ (m * 5 + 3 = m * 5) by omega, if_false] at c3
        rw [hE3.out] at c3
        have hsame2 : ∀ c, c < wr.heap.size → c ≠ b → w2.heap[c]? = wr.heap[c]? := fun c hc hcb => by
          rw [hB2.block c (by simpa [World.setCell] using hc), Below.heap_setCell _ _ _ _ hcb, Below.heap_setCell _ _ _ _ hcb]
        have hsz2 : wr.heap.size ≤ w2.heap.size := by have := hB2.size; simpa [World.setCell] using this
        have hF2 : Frm I w w2 := ((hF.set hb _).set hb _).trans (Frm.of_below hB2)
        have r3 := r2.set_at (m * 5 + 2) (by omega) (.string ⟨(mt (kk + 2)).toArray⟩) (o := off + m * 5 + 2) (by omega)
        have R3 : Hid (Row _ b off (j.items.length * 5) (turn3 g m (.int .i64 (kk : Int)) (.int .i64 ((kk : Int) + 1)) (.string ⟨(mt (kk + 2)).toArray⟩))) := r3
        clear r2 r3 hB2 R1 hF c0 c1 z0 z1
        go_wp2_with fail
        rw [show ((kk : Int) + 2 + 1) = ((kk + 3 : Nat) : Int) by omega]
        have hsame3 : ∀ c, c < wr.heap.size → c ≠ b → (w2.setCell ⟨b, off + m * 5 + 2, none⟩ (.string ⟨(mt (kk + 2)).toArray⟩)).heap[c]? = wr.heap[c]? := fun c hc hcb => by
          rw [Below.heap_setCell _ _ _ _ hcb, hsame2 c hc hcb]
        have hs3 : (w2.setCell ⟨b, off + m * 5 + 2, none⟩ (.string ⟨(mt (kk + 2)).toArray⟩)).heap.size = w2.heap.size := by simp [World.setCell]
        refine (markStrs x.keys ka kc (kk + 3) (fun c => K c ∧ c < wr.heap.size) _ hkl' (by omega) (by omega) (HWK.out.inside.same (fun c hc => hsame3 c hc.2 (HG.out.away m c (HK.out c hc.1).1)) (fun _ h => h))).mono ?_
        rintro e w4 ⟨rfl, hO4, hF4⟩
        have hnb : ¬ (K b ∧ b < wr.heap.size) := fun h => HG.out.away m b (HK.out b h.1).1 rfl
        have hbw : b < w2.heap.size := World.block_lt_of_cell? _ _ c2
        have r4 := R3.out.same (hF4.block b (by rw [hs3]; exact hbw) hnb)
        obtain ⟨c4, -⟩ := r4.at (m * 5 + 4) (by omega) (o := off + m * 5 + 4) (by omega)
        simp only [turn3, show ¬ (m * 5 + 4 = m * 5 + 2) by omega, show ¬ (m * 5 + 4 = m * 5 + 1) by omega, show ¬ (m * 5 + 4 = m * 5) by omega, if_false] at c4
        rw [hE4.out] at c4
        have hsame4 : ∀ c, c < wr.heap.size → c ≠ b → ¬ K c → w4.heap[c]? = wr.heap[c]? := fun c hc hcb hnk => by
          rw [hF4.block c (by rw [hs3]; omega) (fun h => hnk h.1), hsame3 c hc hcb]
        have hsz4 : w2.heap.size ≤ w4.heap.size := by have := hF4.size; rw [hs3] at this; exact this
        have hF5 : Frm I w w4 := (hF2.set hb _).trans (hF4.mono (fun c h => HX.out m c (HK.out c h.1).1))
        have R4 : Hid (Row w4 b off (j.items.length * 5) (turn3 g m (.int .i64 (kk : Int)) (.int .i64 ((kk : Int) + 1)) (.string ⟨(mt (kk + 2)).toArray⟩))) := r4
        have HO4 : Hid (OwnStrs w4 (fun c => K c ∧ c < wr.heap.size) ka (marks x.keys.length (kk + 3))) := hO4
        have HB4 : Hid (b < w4.heap.size) := by show b < w4.heap.size; omega
        clear r4 hO4 hF4 c2 c3 z2 hsame3 hsame2 hF2
        go_wp2_with fail
        refine (HIX.out ia' ic (kk + 3 + x.keys.length) (fun c => I' c ∧ c < wr.heap.size) _ hil' (by omega) (by omega) ?_).mono ?_
        · exact OwnJsons.same (I := fun c => I' c ∧ c < wr.heap.size) HWJ.out.inside (fun c hc => hsame4 c hc.2 (HG.out.away m c (HI'.out c hc.1)) (fun hk => (HK.out c hk).2 hc.1)) (fun _ h => h)
        rintro e w5 ⟨rfl, hO5, hF6⟩
        have hni : ¬ (I' b ∧ b < wr.heap.size) := fun h => HG.out.away m b (HI'.out b h.1) rfl
        have r5 := R4.out.same (hF6.block b HB4.out hni)
        have hO5' : OwnStrs w5 K ka (marks x.keys.length (kk + 3)) := HO4.out.same (fun c hc => hF6.block c (by omega) (fun h => (HK.out c hc.1).2 h.1)) (fun _ h => h.1)
        have hxx : OwnJ w5 (mkJ x kk) (X m) [.int .i64 (kk : Int), .int .i64 ((kk : Int) + 1), .string ⟨(mt (kk + 2)).toArray⟩, g (m * 5 + 3), g (m * 5 + 4)] := by
          rw [hE3.out, hE4.out, mkJ_eq, OwnJ_eq]
          refine ⟨ka, kc, ia', ic, K, I', by rw [marks_len, mkL_len], ?_, by rw [marks_len]; exact hkl', by rw [mkL_len]; exact hil', fun y hy => ?_, hO5', fun c hc => HK.out c hc, fun c hc => HI'.out c hc, hO5.same (fun _ _ => rfl) (fun _ h => h.1)⟩
          · exact mt_len _
          · simp only [marks, List.mem_map] at hy
            obtain ⟨i, -, rfl⟩ := hy
            exact mt_len _
        have HO6 : Hid (∃ f, OwnRow w5 b off j.items.length f X (mixL j.items k (m + 1))) := by
          refine ⟨turn3 g m (.int .i64 (kk : Int)) (.int .i64 ((kk : Int) + 1)) (.string ⟨(mt (kk + 2)).toArray⟩), ?_⟩
          rw [← mix_succ, HKE.out, HMX.out]
          refine OwnRow.turn HG.out m (mkJ x kk) (.int .i64 (kk : Int)) (.int .i64 ((kk : Int) + 1)) (.string ⟨(mt (kk + 2)).toArray⟩) r5 hxx (fun c hc hcb hx => ?_)
          rw [hF6.block c (by omega) (fun h => hx (HI'.out c h.1)), hsame4 c hc hcb (fun h => hx (HK.out c h).1)]
        have hF7 : Frm I w w5 := hF5.trans (hF6.mono (fun c h => HX.out m c (HI'.out c h.1)))
        have HKK : Hid (kk + 3 + x.keys.length + (x.items.map mn).sum = k + sumTo mn j.items (m + 1)) := by
          show _ = _
          have h1 := HSU.out
          have h2 := HKE.out
          omega
        clear r5 hO5 hO5' hxx hF6 hF5 hsame4
        generalize kk + 3 + x.keys.length + (x.items.map mn).sum = kn at *
        go_wp2_with fail
        go_roundw
        case rel => exact ⟨m + 1, by omega, by go_num, by rw [← HKK.out], HO6.out, hF7⟩
        case measure => simp [intOf]; omega
      · have hm' : m = j.items.length := by omega
        have HO : Hid (OwnJsons wr I ia (mkL j.items k)) := by
          obtain ⟨g, hg⟩ := HRW.out
          rw [hm'] at hg
          refine OwnJsons.of_row (b := b) (off := off) (f := g) (X := X) (by rw [mkL_len]; exact HA.out) HX.out ?_
          rw [mkL_len]
          exact ⟨hg.row, hg.away, hg.apart, fun i hi => by have := hg.own i hi; rw [mix_all _ _ _ hi] at this; exact this⟩
        have HE : Hid (k + sumTo mn j.items m = k + (j.items.map mn).sum) := by show _ = _; rw [hm', sumTo_all]
        clear hm'
        generalize k + sumTo mn j.items m = kn at *
        go_wp2_with fail
        go_ret
        exact ⟨ret_i (by rw [HE.out]), HO.out, hF⟩
end Go.Proofs.Ytkncpfhblciplaa
