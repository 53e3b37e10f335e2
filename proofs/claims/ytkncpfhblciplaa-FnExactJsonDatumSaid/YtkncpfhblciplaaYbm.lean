import Derived.Test.YtkncpfhblciplaaYad
import Derived.Test.YtkncpfhblciplaaYbl
namespace Go.Proofs.Ytkncpfhblciplaa
open Go.RowKit
set_option maxHeartbeats 400000 in
theorem toStrsO (keys : List (List UInt8)) (a : Option Addr) (c : Nat) (S : Nat) (w : World) (hw : S ≤ w.heap.size) (hl : keys.length ≤ 1048576) (hS : Strs w (· < S) a keys) :
    Calls Try.prog 32 #[.slice a keys.length c] w fun e w' => e = .returned (.slice (some ⟨w.heap.size, 0, none⟩) keys.length keys.length) ∧ OwnStrs w' (· = w.heap.size) (some ⟨w.heap.size, 0, none⟩) keys ∧ Below w.heap.size w w' := by
  have HS : Hid (Strs w (· < S) a keys) := hS
  clear hS
  have hmk := run_make_row' (P := Try.prog) 25 9 (.string ⟨#[]⟩) 16 Try.underlying25 info9 rfl .i64 .i64 keys.length (by omega) (by omega)
  go_enter Try.func32, Try.ntmps32
  go_wp2_with fail
  have hr0 := World.rowIs_made w (.string ⟨#[]⟩) keys.length 9
  go_loopw [4] (fun i wr => ∃ k : Nat, k ≤ keys.length ∧ i = .int .i64 k ∧ Below w.heap.size w wr ∧ Hid (wr.rowIs w.heap.size 9 keys.length (fun m => if m < k then .string ⟨(keys.getD m []).toArray⟩ else .string ⟨#[]⟩))) (fun i _ => keys.length - (intOf i).toNat)
  case atStart => exact ⟨0, Nat.zero_le _, rfl, (Below.refl _ _).alloc (Nat.le_refl _) _, hr0.congr (fun i _ => by simp)⟩
  case round =>
    obtain ⟨k, hk, rfl, hB, HR⟩ := hrel
    by_cases hlt : k < keys.length
    · obtain ⟨b, off, rfl, hbw, hc⟩ : ∃ b off, a = some ⟨b, off, none⟩ ∧ b < w.heap.size ∧ wr.cell? ⟨b, off + k, none⟩ = some (.string ⟨(keys.getD k []).toArray⟩) := by
        rcases HS.out.below (hB.mono hw) with h | ⟨b, off, ha, hb, hc⟩
        · omega
        · exact ⟨b, off, ha, by omega, by rw [hc k hlt, List.getD_eq_getElem?_getD, List.getElem?_eq_getElem hlt]; rfl⟩
      have ho := HR.out.cell hlt
      have hfz := HR.out.frozen k
      generalize hx : keys.getD k [] = x at *
      have HX : Hid (keys.getD k [] = x) := hx
      clear hx
      go_wp2_with fail
      go_roundw
      case rel =>
        refine ⟨k + 1, by omega, by go_num, hB.setCell (Nat.le_refl _) _, (HR.out.set k _).congr (fun m hm => ?_)⟩
        by_cases e : m = k
        · subst e; rw [if_pos rfl, if_pos (by omega), HX.out]
        · rw [if_neg e]
          by_cases e2 : m < k
          · rw [if_pos e2, if_pos (by omega)]
          · rw [if_neg e2, if_neg (by omega)]
      case measure => simp [intOf]; omega
    · have hk' : k = keys.length := by omega
      go_wp2_with fail
      go_ret
      refine ⟨rfl, ?_, hB⟩
      by_cases hz : keys.length = 0
      · exact .inl hz
      · refine .inr ⟨_, 0, rfl, rfl, fun i hi => ⟨?_, by rw [Nat.zero_add]; exact HR.out.frozen i⟩⟩
        have := HR.out.cell hi
        rw [Nat.zero_add, this, if_pos (by omega), List.getD_eq_getElem?_getD, List.getElem?_eq_getElem hi]; rfl
def ToSaidO (j : J) : Prop := ∀ (cs : List Value) (S : Nat) (w : World), S ≤ w.heap.size → j.sz ≤ 1048576 → RJ w (· < S) j cs →
    Calls Try.prog 17 #[.agg cs.toArray] w fun e w' => ∃ cs', e = .returned (.agg cs'.toArray) ∧ OwnJ w' j (fun b => w.heap.size ≤ b ∧ b < w'.heap.size) cs' ∧ Below w.heap.size w w'
def DoneO (wr : World) (b k n : Nat) (items : List J) : Prop := ∃ f, ∃ L : Nat → Nat, wr.rowIs b 28 (n * 5) f ∧ b < L 0 ∧ (∀ i, i < k → L i ≤ L (i + 1)) ∧ L k ≤ wr.heap.size ∧ ∀ i (h : i < items.length), i < k → OwnJ wr items[i] (fun c => L i ≤ c ∧ c < L (i + 1)) (five f i)
theorem bounds_mono {L : Nat → Nat} {k : Nat} (h : ∀ i, i < k → L i ≤ L (i + 1)) : ∀ i i', i ≤ i' → i' ≤ k → L i ≤ L i'
  | i, 0, h1, _ => by rw [show i = 0 by omega]; exact Nat.le_refl _
  | i, i' + 1, h1, h2 => by
    by_cases e : i = i' + 1
    · rw [e]; exact Nat.le_refl _
    · exact Nat.le_trans (bounds_mono h i i' (by omega) (by omega)) (h i' (by omega))
theorem DoneO.step {wr w1 : World} {b k n : Nat} {items : List J} {f : Nat → Value} {L : Nat → Nat} (hf : w1.rowIs b 28 (n * 5) f) (hL0 : b < L 0) (hL : ∀ i, i < k → L i ≤ L (i + 1)) (hLk : L k ≤ wr.heap.size) (hsz : wr.heap.size ≤ w1.heap.size)
    (hd : ∀ i (h : i < items.length), i < k → OwnJ w1 items[i] (fun c => L i ≤ c ∧ c < L (i + 1)) (five f i)) (hk : k < items.length) (v0 v1 v2 v3 v4 : Value) (hv : OwnJ w1 items[k] (fun c => wr.heap.size ≤ c ∧ c < w1.heap.size) [v0, v1, v2, v3, v4]) :
    DoneO (((((w1.setCell ⟨b, k * 5, none⟩ v0).setCell ⟨b, k * 5 + 1, none⟩ v1).setCell ⟨b, k * 5 + 2, none⟩ v2).setCell ⟨b, k * 5 + 3, none⟩ v3).setCell ⟨b, k * 5 + 4, none⟩ v4) b (k + 1) n items := by
  have hs : ∀ b', b' ≠ b → (((((w1.setCell ⟨b, k * 5, none⟩ v0).setCell ⟨b, k * 5 + 1, none⟩ v1).setCell ⟨b, k * 5 + 2, none⟩ v2).setCell ⟨b, k * 5 + 3, none⟩ v3).setCell ⟨b, k * 5 + 4, none⟩ v4).heap[b']? = w1.heap[b']? := fun b' hb' => by
    rw [Below.heap_setCell _ _ _ _ hb', Below.heap_setCell _ _ _ _ hb', Below.heap_setCell _ _ _ _ hb', Below.heap_setCell _ _ _ _ hb', Below.heap_setCell _ _ _ _ hb']
  have hmono := bounds_mono hL
  refine ⟨_, fun m => if m ≤ k then L m else w1.heap.size, ((((hf.set (k * 5) v0).set (k * 5 + 1) v1).set (k * 5 + 2) v2).set (k * 5 + 3) v3).set (k * 5 + 4) v4, by simpa using hL0, fun i hi => ?_, by simp only [if_neg (show ¬ (k + 1 ≤ k) by omega)]; simp [World.setCell], fun i hi hik => ?_⟩
  · by_cases e : i = k
    · subst e; simp only [if_pos (Nat.le_refl i), if_neg (show ¬ (i + 1 ≤ i) by omega)]; omega
    · simp only [if_pos (show i ≤ k by omega), if_pos (show i + 1 ≤ k by omega)]; exact hL i (by omega)
  · by_cases e : i = k
    · subst e
      simp only [Nat.le_refl, if_true, show ¬ (i + 1 ≤ i) by omega, if_false]
      have hb0 : b < L i := Nat.lt_of_lt_of_le hL0 (hmono 0 i (by omega) (Nat.le_refl _))
      refine OwnJ.same _ (fun c => wr.heap.size ≤ c ∧ c < w1.heap.size) _ _ (fun c hc => hs c (by omega)) (fun c hc => ⟨by omega, hc.2⟩) ?_
      have : ∀ o o' : Nat, (i * 5 + o = i * 5 + o') ↔ o = o' := fun o o' => by omega
      have h0 : ∀ o : Nat, (i * 5 = i * 5 + o) ↔ 0 = o := fun o => by omega
      simpa [five, this, h0] using hv
    · have hb0 : b < L i := Nat.lt_of_lt_of_le hL0 (hmono 0 i (by omega) (by omega))
      simp only [if_pos (show i ≤ k by omega), if_pos (show i + 1 ≤ k by omega)]
      refine OwnJ.same _ (fun c => L i ≤ c ∧ c < L (i + 1)) _ _ (fun c hc => hs c (by omega)) (fun c hc => hc) ?_
      have h5 : ∀ o o' : Nat, o < 5 → o' < 5 → ¬ (i * 5 + o = k * 5 + o') := fun o o' h1 h2 => by omega
      have g0 : ∀ o' : Nat, o' < 5 → ¬ (i * 5 = k * 5 + o') := fun o' h2 => by omega
      have g1 : ∀ o : Nat, o < 5 → ¬ (i * 5 + o = k * 5) := fun o h2 => by omega
      have g2 : ¬ (i * 5 = k * 5) := by omega
      have := hd i hi (by omega)
      simp only [five, g2, g0 1 (by omega), g0 2 (by omega), g0 3 (by omega), g0 4 (by omega), g1 1 (by omega), g1 2 (by omega), g1 3 (by omega), g1 4 (by omega), h5 1 1 (by omega) (by omega), h5 1 2 (by omega) (by omega), h5 1 3 (by omega) (by omega), h5 1 4 (by omega) (by omega), h5 2 1 (by omega) (by omega), h5 2 2 (by omega) (by omega), h5 2 3 (by omega) (by omega), h5 2 4 (by omega) (by omega), h5 3 1 (by omega) (by omega), h5 3 2 (by omega) (by omega), h5 3 3 (by omega) (by omega), h5 3 4 (by omega) (by omega), h5 4 1 (by omega) (by omega), h5 4 2 (by omega) (by omega), h5 4 3 (by omega) (by omega), h5 4 4 (by omega) (by omega), if_false]
      exact this
theorem DoneO.jsons {w' : World} {b n : Nat} {items : List J} (h : DoneO w' b items.length n items) (hn : n = items.length) (S : Nat) (hS : S ≤ b) : OwnJsons w' (fun c => S ≤ c ∧ c < w'.heap.size) (some ⟨b, 0, none⟩) items := by
  subst hn
  obtain ⟨f, L, hf, h0, hL, hLk, hd⟩ := h
  have hmono := bounds_mono hL
  refine OwnJsons.of_row (b := b) (off := 0) (f := f) (X := fun i c => i < items.length ∧ L i ≤ c ∧ c < L (i + 1)) (fun _ => ⟨rfl, hS, hf.lt⟩) (fun i c hc => ⟨?_, ?_⟩) ⟨fun m hm => ⟨by rw [Nat.zero_add]; exact hf.cell hm, by rw [Nat.zero_add]; exact hf.frozen m⟩, fun i c hc => ?_, fun i i' c hc hc' => ?_, fun i hi => ?_⟩
  · have := hmono 0 i (by omega) (by omega); omega
  · have := hmono (i + 1) items.length (by omega) (Nat.le_refl _); omega
  · have := hmono 0 i (by omega) (by omega); omega
  · obtain ⟨a1, a2, a3⟩ := hc
    obtain ⟨b1, b2, b3⟩ := hc'
    by_cases e : i = i'
    · exact e
    · rcases Nat.lt_or_gt_of_ne e with e | e
      · have := hmono (i + 1) i' (by omega) (by omega); omega
      · have := hmono (i' + 1) i (by omega) (by omega); omega
  · have := hd i hi hi
    show OwnJ w' (items.getD i dflt) _ _
    rw [List.getD_eq_getElem?_getD, List.getElem?_eq_getElem hi]
    exact OwnJ.same _ _ _ _ (fun _ _ => rfl) (fun c hc => ⟨hi, hc⟩) this
set_option maxHeartbeats 800000 in
theorem toJsonsO (items : List J) (ih : ∀ x ∈ items, ToSaidO x) (a : Option Addr) (c : Nat) (S : Nat) (w : World) (hw : S ≤ w.heap.size) (hl : items.length ≤ 1048576) (hz : ∀ x ∈ items, x.sz ≤ 1048576) (hS : Jsons w (· < S) a items) :
    Calls Try.prog 51 #[.slice a items.length c] w fun e w' => e = .returned (.slice (some ⟨w.heap.size, 0, none⟩) items.length items.length) ∧ OwnJsons w' (fun c => w.heap.size ≤ c ∧ c < w'.heap.size) (some ⟨w.heap.size, 0, none⟩) items ∧ Below w.heap.size w w' := by
  have HS : Hid (Jsons w (· < S) a items) := hS
  have IH : Hid (∀ x ∈ items, ToSaidO x) := ih
  have HZ : Hid (∀ x ∈ items, x.sz ≤ 1048576) := hz
  clear hS ih hz
  have hmk := run_make5 items.length hl
  go_enter Try.func51, Try.ntmps51
  go_wp2_with fail
  clear hmk
  go_loopw [4] (fun i wr => ∃ k : Nat, k ≤ items.length ∧ i = .int .i64 k ∧ Below w.heap.size w wr ∧ Hid (DoneO wr w.heap.size k items.length items)) (fun i _ => items.length - (intOf i).toNat)
  case atStart =>
    refine ⟨0, Nat.zero_le _, rfl, (Below.refl _ _).alloc (Nat.le_refl _) _, ?_⟩
    obtain ⟨f, hf⟩ := rowIs_made5 w items.length 28
    exact ⟨f, fun _ => w.heap.size + 1, hf, by show w.heap.size < w.heap.size + 1; omega, fun i h => absurd h (by omega), by simp, fun i _ h => absurd h (by omega)⟩
  case round =>
    obtain ⟨k, hk, rfl, hB, HD⟩ := hrel
    by_cases hlt : k < items.length
    · obtain ⟨b, off, ka, kc, ia, ic, rfl, _, c0, c1, c2, c3, c4, hr⟩ := (HS.out.below (hB.mono hw)).item k hlt
      have HR : Hid (RJ wr (· < S) items[k] _) := hr
      have hx : ToSaidO items[k] := IH.out _ (List.getElem_mem hlt)
      have hxz : Hid (items[k].sz ≤ 1048576) := HZ.out _ (List.getElem_mem hlt)
      clear hr
      generalize hX : items[k] = x at *
      have HX : Hid (items[k] = x) := hX
      clear hX
      go_wp2_with fail
      refine (hx _ S _ (Nat.le_trans hw hB.size) hxz.out HR.out).mono ?_
      rintro e w1 ⟨cs', rfl, hJ, hB1⟩
      have hJ' := hJ
      obtain ⟨ka', kc', ia', ic', rfl⟩ := hJ'.cells
      obtain ⟨f, L, hf, hL0, hL, hLk, hd⟩ := HD.out
      have hlt' := hf.lt
      have hf1 := hf.of_block (hB1.block _ hf.lt)
      have hd1 : ∀ i (h : i < items.length), i < k → OwnJ w1 items[i] (fun c => L i ≤ c ∧ c < L (i + 1)) (five f i) := fun i h hi =>
        OwnJ.same _ _ _ _ (fun c hc => hB1.block c (by have := bounds_mono hL (i + 1) k (by omega) (Nat.le_refl _); omega)) (fun _ h => h) (hd i h hi)
      have hJ2 : OwnJ w1 items[k] (fun c => wr.heap.size ≤ c ∧ c < w1.heap.size) [.int .i64 x.k, .int .i64 x.n, .string ⟨x.t.toArray⟩, .slice ka' x.keys.length kc', .slice ia' x.items.length ic'] := by rw [HX.out]; exact hJ
      have hst := DoneO.step hf1 hL0 hL hLk hB1.size hd1 hlt _ _ _ _ _ hJ2
      have HST : Hid (DoneO _ _ _ _ _) := hst
      clear hst hJ2
      have e0 := hf1.cell (i := k * 5) (by omega)
      have e1 := hf1.cell (i := k * 5 + 1) (by omega)
      have e2 := hf1.cell (i := k * 5 + 2) (by omega)
      have e3 := hf1.cell (i := k * 5 + 3) (by omega)
      have e4 := hf1.cell (i := k * 5 + 4) (by omega)
      have z0 := hf1.frozen (k * 5)
      have z1 := hf1.frozen (k * 5 + 1)
      have z2 := hf1.frozen (k * 5 + 2)
      have z3 := hf1.frozen (k * 5 + 3)
      have z4 := hf1.frozen (k * 5 + 4)
      have hB2 : Below w.heap.size w w1 := hB.trans (hB1.mono hB.size)
      clear hJ hJ' hd hf hf1 hd1 hB1 hL0 hL hLk c0 c1 c2 c3 c4 hx hB hlt'
      go_wp2_with fail
      go_roundw
      case rel => exact ⟨k + 1, by omega, by go_num, ((((hB2.setCell (Nat.le_refl _) _).setCell (Nat.le_refl _) _).setCell (Nat.le_refl _) _).setCell (Nat.le_refl _) _).setCell (Nat.le_refl _) _, HST.out⟩
      case measure => simp [intOf]; omega
    · have hk' : k = items.length := by omega
      go_wp2_with fail
      go_ret
      exact ⟨rfl, DoneO.jsons (by have h := HD.out; rw [hk'] at h; exact h) rfl _ (Nat.le_refl _), hB⟩
set_option maxHeartbeats 1600000 in
theorem toJsonO (j : J) : ToSaidO j := by
  induction j using J.induct with
  | h j ih =>
    intro cs S w hw hz hr
    rw [RJ_eq] at hr
    obtain ⟨ka, kc, ia, ic, rfl, ht, hkl, hil, hkx, hk, hi⟩ := hr
    have hsz := J.sz_eq j
    have hk20 : j.keys.length ≤ 1048576 := by unfold szK at hsz; omega
    have hi20 : j.items.length ≤ 1048576 := by omega
    have HZ : Hid (∀ x ∈ j.items, x.sz ≤ 1048576) := fun x hx => Nat.le_trans (J.sz_item j x hx) hz
    have HI : Hid (Jsons w (· < S) ia j.items) := hi
    have HK : Hid (Strs w (· < S) ka j.keys) := hk
    have HT : Hid (j.t.length ≤ maxLen) := ht
    have HKX : Hid (∀ x ∈ j.keys, x.length ≤ maxLen) := hkx
    have IH : Hid (∀ x ∈ j.items, ToSaidO x) := ih
    clear hi hk hkl hil hkx ih hsz ht hz
    go_enter Try.func17, Try.ntmps17
    go_wp2_with fail
    refine (toStrsO j.keys ka kc S _ (by simp; omega) hk20 (HK.out.below ((((Below.refl _ _).alloc hw _).alloc (by simp; omega) _).alloc (by simp; omega) _))).mono ?_
    rintro e w4 ⟨rfl, hS4, hB4⟩
    obtain ⟨b0, b1, b2, hz4, hB⟩ := three hB4
    have HS4 : Hid (OwnStrs w4 (· = w.heap.size + 1 + 1 + 1) (some ⟨w.heap.size + 1 + 1 + 1, 0, none⟩) j.keys) := by show OwnStrs _ _ _ _; simpa using hS4
    have k4 := cell_at (o := 4) b0 rfl
    have m3 := cell_at (o := 3) b2 rfl
    have f3 := frozen_at 3 b2
    have H0 : Hid (w4.heap[w.heap.size]? = _) := b0
    have H1 : Hid (w4.heap[w.heap.size + 1]? = _) := b1
    have H2 : Hid (w4.heap[w.heap.size + 1 + 1]? = _) := b2
    clear hS4 hB4 b0 b1 b2
    go_wp2_with fail
    have hB5 : Below w.heap.size w (w4.setCell ⟨w.heap.size + 1 + 1, 3, none⟩ (.slice (some ⟨w.heap.size + 1 + 1 + 1, 0, none⟩) j.keys.length j.keys.length)) := hB.setCell (by show w.heap.size ≤ w.heap.size + 1 + 1; omega) _
    have hs5 : (w4.setCell ⟨w.heap.size + 1 + 1, 3, none⟩ (.slice (some ⟨w.heap.size + 1 + 1 + 1, 0, none⟩) j.keys.length j.keys.length)).heap.size = w4.heap.size := by simp [World.setCell]
    refine (toJsonsO j.items IH.out ia ic S _ (by rw [hs5]; omega) hi20 HZ.out (HI.out.below (hB5.mono hw))).mono ?_
    rintro e w6 ⟨rfl, hS6, hB6⟩
    rw [hs5] at hS6
    have d2 := (hB6.block (w.heap.size + 1 + 1) (by rw [hs5]; omega)).trans (heap_set 3 _ H2.out)
    have d1 := ((hB6.block (w.heap.size + 1) (by rw [hs5]; omega)).trans (Below.heap_setCell _ _ _ _ (by show w.heap.size + 1 ≠ w.heap.size + 1 + 1; omega))).trans H1.out
    have HS6 : Hid (OwnStrs w6 (· = w.heap.size + 1 + 1 + 1) (some ⟨w.heap.size + 1 + 1 + 1, 0, none⟩) j.keys) :=
      HS4.out.inside.same (w' := w6) (B' := (· = w.heap.size + 1 + 1 + 1)) (fun b hb => by
        have h1 : b = w.heap.size + 1 + 1 + 1 := hb.1
        rw [hB6.block b (by rw [hs5]; exact hb.2), Below.heap_setCell _ _ _ _ (by show b ≠ w.heap.size + 1 + 1; omega)]) (fun b hb => hb.1)
    have HS4L : Hid (j.keys.length = 0 ∨ w.heap.size + 1 + 1 + 1 < w4.heap.size) := by
      rcases HS4.out.inside with h | ⟨b, off, hab, hb, _⟩
      · exact .inl h
      · right
        have h1 : b = w.heap.size + 1 + 1 + 1 := hb.1
        have h2 : b < w4.heap.size := hb.2
        omega
    have hB7 : Below w.heap.size w w6 := hB5.trans (hB6.mono (by rw [hs5]; omega))
    have hs6 : w4.heap.size ≤ w6.heap.size := by have := hB6.size; rw [hs5] at this; exact this
    rw [hs5]
    have HI6 : Hid (OwnJsons w6 (fun c => w4.heap.size ≤ c ∧ c < w6.heap.size) (some ⟨w4.heap.size, 0, none⟩) j.items) := hS6
    have e0 := cell_at (o := 0) d2 rfl
    have e1 := cell_at (o := 1) d2 rfl
    have e2 := cell_at (o := 2) d2 rfl
    have e3 := cell_at (o := 3) d2 rfl
    have e4 := cell_at (o := 4) d2 rfl
    have f4 := frozen_at 4 d2
    have g0 := cell_at (o := 0) d1 rfl
    have g1 := cell_at (o := 1) d1 rfl
    have g2 := cell_at (o := 2) d1 rfl
    have g3 := cell_at (o := 3) d1 rfl
    have g4 := cell_at (o := 4) d1 rfl
    have y0 := frozen_at 0 d1
    have y1 := frozen_at 1 d1
    have y2 := frozen_at 2 d1
    have y3 := frozen_at 3 d1
    have y4 := frozen_at 4 d1
    clear hS6 hB6 d1 d2 k4 m3 f3 H0 H1 H2 hB5 hB hs5 HS4
    go_wp2_with fail
    refine bodyPost_ret (v := .agg #[.int .i64 j.k, .int .i64 j.n, .string ⟨j.t.toArray⟩, .slice (some ⟨w.heap.size + 1 + 1 + 1, 0, none⟩) j.keys.length j.keys.length, .slice (some ⟨w4.heap.size, 0, none⟩) j.items.length j.items.length])
      (by simp [results, Try.results17, go_sem, g0, g1, g2, g3, g4]) rfl ⟨_, rfl, ?_, six_below hB7 _ _ _ _ _ _⟩
    clear g0 g1 g2 g3 g4 y0 y1 y2 y3 y4 e0 e1 e2 e3 e4 f4
    rw [OwnJ_eq]
    have hh := six_heap w6 w.heap.size (.slice (some ⟨w4.heap.size, 0, none⟩) j.items.length j.items.length) (.int .i64 j.k) (.int .i64 j.n) (.string ⟨j.t.toArray⟩) (.slice (some ⟨w.heap.size + 1 + 1 + 1, 0, none⟩) j.keys.length j.keys.length) (.slice (some ⟨w4.heap.size, 0, none⟩) j.items.length j.items.length)
    have hsz8 : (sixSet w6 w.heap.size (.slice (some ⟨w4.heap.size, 0, none⟩) j.items.length j.items.length) (.int .i64 j.k) (.int .i64 j.n) (.string ⟨j.t.toArray⟩) (.slice (some ⟨w.heap.size + 1 + 1 + 1, 0, none⟩) j.keys.length j.keys.length) (.slice (some ⟨w4.heap.size, 0, none⟩) j.items.length j.items.length)).heap.size = w6.heap.size := by simp [sixSet, World.setCell]
    refine ⟨_, _, _, _, fun c => c = w.heap.size + 1 + 1 + 1 ∧ c < w4.heap.size, fun c => w4.heap.size ≤ c ∧ c < w6.heap.size, rfl, HT.out, by unfold maxLen; omega, by unfold maxLen; omega, HKX.out, ?_, fun b hb => ⟨⟨?_, ?_⟩, fun h => ?_⟩, fun b hb => ⟨?_, ?_⟩, HI6.out.same (fun b hb => hh b ?_) (fun b hb => hb)⟩
    · rcases HS6.out with h | ⟨b, off, hab, hb, hc⟩
      · exact .inl h
      · have hb' : b = w.heap.size + 1 + 1 + 1 := hb
        by_cases h0 : j.keys.length = 0
        · exact .inl h0
        · have hlt : w.heap.size + 1 + 1 + 1 < w4.heap.size := by
            rcases HS4L.out with h | h
            · exact absurd h h0
            · exact h
          exact OwnStrs.same (w := w6) (.inr ⟨b, off, hab, ⟨hb', by omega⟩, hc⟩) (fun c hc => hh c (by have := hc.1; omega)) (fun c hc => hc)
    · have := hb.1; omega
    · show b < (sixSet _ _ _ _ _ _ _ _).heap.size
      rw [hsz8]; have := hb.2; omega
    · have := hb.1; have := hb.2; have := h.1; omega
    · have := hb.1; omega
    · show b < (sixSet _ _ _ _ _ _ _ _).heap.size
      rw [hsz8]; exact hb.2
    · have := hb.1; omega
end Go.Proofs.Ytkncpfhblciplaa
