import Derived.Test.YtmmcnalhmpkkmaaZbf
namespace Go.Proofs.Ytmmcnalhmpkkmaa
open Go.RowKit
set_option linter.unusedSimpArgs false
theorem inv_start {w wr : World} {j : J} {S : Nat} {box : Array Value} {kv : Value} {ka : Option Addr} {K : Nat → Prop} (b0 : wr.heap[S]? = some (.cells box 26)) (b1 : wr.heap[S + 1]? = some (.cells zero5 26))
    (b2 : wr.heap[S + 1 + 1]? = some (.cells #[.int .i64 j.k, .int .i64 j.n, .string ⟨j.t.toArray⟩, kv, .slice none 0 0] 26)) (hk : OwnStrs wr K ka j.keys) (hK : ∀ c, K c → S + 1 + 1 + 1 ≤ c ∧ c < wr.heap.size) (hB : Below S w wr) :
    CopyInv w wr j S 0 box kv ka K (.slice none 0 0) [] (fun _ _ => False) :=
  ⟨b0, b1, b2, ⟨rfl, .inl ⟨rfl, rfl⟩⟩, fun g h => by simp [Value.ownBlock] at h, fun _ _ h => h.elim, fun _ _ _ h => h.elim, fun i _ h => absurd h (by omega), hk, hK, hB⟩
def fiveSet (w : World) (n : Nat) (u0 u1 u2 u3 u4 : Value) : World :=
  ((((w.setCell ⟨n + 1, 0, none⟩ u0).setCell ⟨n + 1, 1, none⟩ u1).setCell ⟨n + 1, 2, none⟩ u2).setCell ⟨n + 1, 3, none⟩ u3).setCell ⟨n + 1, 4, none⟩ u4
theorem five_heap (w : World) (n : Nat) (u0 u1 u2 u3 u4 : Value) (c : Nat) (hc : c ≠ n + 1) : (fiveSet w n u0 u1 u2 u3 u4).heap[c]? = w.heap[c]? := by
  unfold fiveSet
  rw [Below.heap_setCell _ _ _ _ hc, Below.heap_setCell _ _ _ _ hc, Below.heap_setCell _ _ _ _ hc, Below.heap_setCell _ _ _ _ hc, Below.heap_setCell _ _ _ _ hc]
theorem five_below {w w6 : World} {n : Nat} (h : Below n w w6) (u0 u1 u2 u3 u4 : Value) : Below n w (fiveSet w6 n u0 u1 u2 u3 u4) :=
  ((((h.setCell (by show n ≤ n + 1; omega) _).setCell (by show n ≤ n + 1; omega) _).setCell (by show n ≤ n + 1; omega) _).setCell (by show n ≤ n + 1; omega) _).setCell (by show n ≤ n + 1; omega) _
theorem CopyInv.fin {w wr W : World} {j : J} {S : Nat} {box : Array Value} {ka : Option Addr} {kc vc : Nat} {va : Option Addr} {K : Nat → Prop} {xs : List Value} {X : Nat → Nat → Prop}
    (h : CopyInv w wr j S j.items.length box (.slice ka j.keys.length kc) ka K (.slice va j.items.length vc) xs X) (ht : j.t.length ≤ maxLen) (hkx : ∀ x ∈ j.keys, x.length ≤ maxLen) (hk : j.keys.length ≤ maxLen) (hi : j.items.length ≤ maxLen)
    (hW : ∀ c, c ≠ S + 1 → W.heap[c]? = wr.heap[c]?) (hs : W.heap.size = wr.heap.size) :
    OwnJ W j (fun b => S ≤ b ∧ b < W.heap.size) [.int .i64 j.k, .int .i64 j.n, .string ⟨j.t.toArray⟩, .slice ka j.keys.length kc, .slice va j.items.length vc] := by
  rw [OwnJ_eq]
  refine ⟨ka, kc, va, vc, K, fun c => (∃ i, X i c) ∨ (Value.slice va j.items.length vc).ownBlock = some c, rfl, ht, hk, hi, hkx, h.keys.same (fun c hc => hW c (by have := (h.kin c hc).1; omega)) (fun _ h => h), fun c hc => ⟨⟨by have := (h.kin c hc).1; omega, by rw [hs]; exact (h.kin c hc).2⟩, fun hI => ?_⟩, fun c hc => ?_, ?_⟩
  · rcases hI with ⟨i, hi⟩ | hg
    · exact (h.inn i c hi).2.2 hc
    · exact (h.far c hg).2 hc
  · rw [hs]
    rcases hc with ⟨i, hi⟩ | hg
    · have := h.inn i c hi; exact ⟨by omega, this.2.1⟩
    · have := h.vlt c hg; exact ⟨by omega, this.1⟩
  · by_cases h0 : j.items.length = 0
    · exact .inl h0
    rcases h.row.2 with ⟨-, h1⟩ | ⟨g, cap, cur, e, hg1, hb, hn, hcap, hsz, hx⟩
    · exact absurd h1 h0
    · injection e with e1 e2 e3
      subst e1
      refine OwnJsons.of_row (b := g) (off := 0) (f := fun q => xs.getD q default) (X := X) (fun _ => ⟨rfl, .inr rfl⟩) (fun i c hc => .inl ⟨i, hc⟩) ⟨fun q hq => ?_, fun i c hc e => ?_, h.apart, fun i hi => ?_⟩
      · have hbW : W.heap[g]? = some (.cells cur 26 (0, 0)) := by rw [hW g (by omega)]; exact hb
        have hq2 : cur[q]? = some (xs.getD q default) := by
          rw [← hx, List.getD_eq_getElem?_getD, List.getElem?_take_of_lt hq, Array.getElem?_toList]
          have : q < cur.size := by rw [hsz]; exact Nat.lt_of_lt_of_le hq (Nat.mul_le_mul_right 5 hn)
          rw [Array.getElem?_eq_getElem this]; rfl
        rw [Nat.zero_add]
        exact ⟨by simp [World.cell?, hbW, hq2], by simp [World.frozen?, hbW]⟩
      · subst e
        exact (h.far c rfl).1 i hc
      · have := h.own i hi hi
        show OwnJ W (j.items.getD i dflt) (X i) _
        rw [List.getD_eq_getElem?_getD, List.getElem?_eq_getElem hi]
        exact OwnJ.same _ (X i) _ _ (fun c hc => hW c (by have := (h.inn i c hc).1; omega)) (fun _ h => h) this
set_option maxRecDepth 100000 in
set_option maxHeartbeats 6400000 in
theorem copyJson (j : J) : CopySaid j := by
  induction j using J.induct with
  | h j ih =>
    intro cs B w hz hr
    rw [RJ_eq] at hr
    obtain ⟨ka, kc, ia, ic, rfl, ht, hkl, hil, hkx, hk, hi⟩ := hr
    have hsz := J.sz_eq j
    have hk20 : j.keys.length ≤ 1048576 := by unfold szK at hsz; omega
    have hi20 : j.items.length ≤ 1048576 := by omega
    obtain ⟨iJ, hiJ⟩ := infoJ
    have HIJ : Hid (Try.prog.info? 26 = some iJ ∧ iJ.zero = some (.agg zero5) ∧ iJ.size = 5 ∧ iJ.bytes = 80) := hiJ
    have HZ : Hid (∀ x ∈ j.items, x.sz ≤ 1048576) := fun x hx => Nat.le_trans (J.sz_item j x hx) hz
    have HI : Hid (Jsons w B ia j.items) := hi
    have HK : Hid (Strs w B ka j.keys) := hk
    have HT : Hid (j.t.length ≤ maxLen) := ht
    have HKX : Hid (∀ x ∈ j.keys, x.length ≤ maxLen) := hkx
    have IH : Hid (∀ x ∈ j.items, CopySaid x) := ih
    clear hi hk hkl hil hkx ih hsz ht hz hiJ
    have hB3 : Below w.heap.size w (((w.alloc (.cells #[.int .i64 j.k, .int .i64 j.n, .string ⟨j.t.toArray⟩, .slice ka j.keys.length kc, .slice ia j.items.length ic] 26)).alloc (.cells #[.int .i64 0, .int .i64 0, .string ⟨#[]⟩, .slice none 0 0, .slice none 0 0] 26)).alloc (.cells #[.int .i64 j.k, .int .i64 j.n, .string ⟨j.t.toArray⟩, .slice none 0 0, .slice none 0 0] 26)) := ((((Below.refl _ _).alloc (Nat.le_refl _) _).alloc (by simp) _).alloc (by simp; omega) _)
    have hs3 : (((w.alloc (.cells #[.int .i64 j.k, .int .i64 j.n, .string ⟨j.t.toArray⟩, .slice ka j.keys.length kc, .slice ia j.items.length ic] 26)).alloc (.cells #[.int .i64 0, .int .i64 0, .string ⟨#[]⟩, .slice none 0 0, .slice none 0 0] 26)).alloc (.cells #[.int .i64 j.k, .int .i64 j.n, .string ⟨j.t.toArray⟩, .slice none 0 0, .slice none 0 0] 26)).heap.size = w.heap.size + 1 + 1 + 1 := by simp
    obtain ⟨b0, b1, b2, -, -⟩ := three (Below.refl (((w.alloc (.cells #[.int .i64 j.k, .int .i64 j.n, .string ⟨j.t.toArray⟩, .slice ka j.keys.length kc, .slice ia j.items.length ic] 26)).alloc (.cells #[.int .i64 0, .int .i64 0, .string ⟨#[]⟩, .slice none 0 0, .slice none 0 0] 26)).alloc (.cells #[.int .i64 j.k, .int .i64 j.n, .string ⟨j.t.toArray⟩, .slice none 0 0, .slice none 0 0] 26)).heap.size (((w.alloc (.cells #[.int .i64 j.k, .int .i64 j.n, .string ⟨j.t.toArray⟩, .slice ka j.keys.length kc, .slice ia j.items.length ic] 26)).alloc (.cells #[.int .i64 0, .int .i64 0, .string ⟨#[]⟩, .slice none 0 0, .slice none 0 0] 26)).alloc (.cells #[.int .i64 j.k, .int .i64 j.n, .string ⟨j.t.toArray⟩, .slice none 0 0, .slice none 0 0] 26)))
    by_cases hk0 : j.keys.length = 0
    case' pos =>
      obtain ⟨kv, ka', kc', K, hkv, hinv⟩ : ∃ kv ka' kc' K, kv = Value.slice ka' j.keys.length kc' ∧ CopyInv w (((w.alloc (.cells #[.int .i64 j.k, .int .i64 j.n, .string ⟨j.t.toArray⟩, .slice ka j.keys.length kc, .slice ia j.items.length ic] 26)).alloc (.cells #[.int .i64 0, .int .i64 0, .string ⟨#[]⟩, .slice none 0 0, .slice none 0 0] 26)).alloc (.cells #[.int .i64 j.k, .int .i64 j.n, .string ⟨j.t.toArray⟩, .slice none 0 0, .slice none 0 0] 26)) j w.heap.size 0 #[.int .i64 j.k, .int .i64 j.n, .string ⟨j.t.toArray⟩, .slice ka j.keys.length kc, .slice ia j.items.length ic] kv ka' K (.slice none 0 0) [] (fun _ _ => False) :=
        ⟨.slice none 0 0, none, 0, fun _ => False, by rw [hk0], inv_start b0 b1 b2 (.inl hk0) (fun _ h => h.elim) hB3⟩
      have HKV : Hid (kv = Value.slice ka' j.keys.length kc') := hkv
      have hkn : decide (0 < j.keys.length) = false := decide_eq_false (by omega)
      have HINV : Hid (∃ v xs X, CopyInv w (((w.alloc (.cells #[.int .i64 j.k, .int .i64 j.n, .string ⟨j.t.toArray⟩, .slice ka j.keys.length kc, .slice ia j.items.length ic] 26)).alloc (.cells #[.int .i64 0, .int .i64 0, .string ⟨#[]⟩, .slice none 0 0, .slice none 0 0] 26)).alloc (.cells #[.int .i64 j.k, .int .i64 j.n, .string ⟨j.t.toArray⟩, .slice none 0 0, .slice none 0 0] 26)) j w.heap.size 0 #[.int .i64 j.k, .int .i64 j.n, .string ⟨j.t.toArray⟩, .slice ka j.keys.length kc, .slice ia j.items.length ic] kv ka' K v xs X) := ⟨_, _, _, hinv⟩
      clear hk0 hinv b0 b1 b2 hB3 hs3 hkv
      go_enter Try.func12, Try.ntmps12
      go_wp2_with fail
      generalize (((w.alloc (.cells #[.int .i64 j.k, .int .i64 j.n, .string ⟨j.t.toArray⟩, .slice ka j.keys.length kc, .slice ia j.items.length ic] 26)).alloc (.cells #[.int .i64 0, .int .i64 0, .string ⟨#[]⟩, .slice none 0 0, .slice none 0 0] 26)).alloc (.cells #[.int .i64 j.k, .int .i64 j.n, .string ⟨j.t.toArray⟩, .slice none 0 0, .slice none 0 0] 26)) = wL at *
    case' neg =>
      have hkn : decide (0 < j.keys.length) = true := decide_eq_true (by omega)
      obtain ⟨bk, ok, rfl, hkc⟩ : ∃ b off, ka = some ⟨b, off, none⟩ ∧ ∀ i (h : i < j.keys.length), w.cell? ⟨b, off + i, none⟩ = some (.string ⟨j.keys[i].toArray⟩) := by
        rcases HK.out with h | ⟨b, off, ha, _, hc⟩
        · exact absurd h hk0
        · exact ⟨b, off, ha, hc⟩
      have HB3 : Hid (Below w.heap.size w _ ∧ _ = _) := ⟨hB3, hs3⟩
      have HKC : Hid (∀ i (h : i < j.keys.length), w.cell? ⟨bk, ok + i, none⟩ = some (.string ⟨j.keys[i].toArray⟩)) := hkc
      clear b0 b1 b2 hB3 hs3 hkc
      go_enter Try.func12, Try.ntmps12
      go_wp2_with fail
      refine (clone j.keys bk ok kc _ hk20 (by omega) (fun i h => by rw [HB3.out.1.cell (p := ⟨bk, ok + i, none⟩) (World.block_lt_of_cell? _ _ (HKC.out i h))]; exact HKC.out i h)).mono ?_
      rintro e w4 ⟨ka', kc', rfl, hO4, hB4⟩
      obtain ⟨b0, b1, b2, hz4, hBw⟩ := three hB4
      have m3 := cell_at (o := 3) b2 rfl
      have f3 := frozen_at 3 b2
      have HINV : Hid (∃ v xs X, CopyInv w (w4.setCell ⟨w.heap.size + 1 + 1, 3, none⟩ (.slice ka' j.keys.length kc')) j w.heap.size 0 #[.int .i64 j.k, .int .i64 j.n, .string ⟨j.t.toArray⟩, .slice (some ⟨bk, ok, none⟩) j.keys.length kc, .slice ia j.items.length ic] (.slice ka' j.keys.length kc') ka' (fun c => w.heap.size + 1 + 1 + 1 ≤ c ∧ c < w4.heap.size) v xs X) := by
        refine ⟨_, _, _, inv_start (by rw [Below.heap_setCell _ _ _ _ (by show w.heap.size ≠ w.heap.size + 1 + 1; omega)]; exact b0) (by rw [Below.heap_setCell _ _ _ _ (by show w.heap.size + 1 ≠ w.heap.size + 1 + 1; omega)]; exact b1) (heap_set 3 _ b2) ?_ (fun c hc => ⟨hc.1, by simpa [World.setCell] using hc.2⟩) (hBw.setCell (by show w.heap.size ≤ w.heap.size + 1 + 1; omega) _)⟩
        refine hO4.same (fun c hc => Below.heap_setCell _ _ _ _ (by have h1 := hc.1; rw [HB3.out.2] at h1; show c ≠ w.heap.size + 1 + 1; omega)) (fun c hc => ⟨by have h1 := hc.1; rw [HB3.out.2] at h1; exact h1, hc.2⟩)
      obtain ⟨K, hKK⟩ : ∃ K : Nat → Prop, K = (fun c => w.heap.size + 1 + 1 + 1 ≤ c ∧ c < w4.heap.size) := ⟨_, rfl⟩
      rw [← hKK] at HINV
      obtain ⟨kv, HKV⟩ : ∃ kv, Hid (kv = Value.slice ka' j.keys.length kc') := ⟨_, rfl⟩
      clear hO4 hB4 b0 b1 b2 hKK hBw HB3 HKC
      have x4 : (w4.setCell ⟨w.heap.size + 1 + 1, 3, none⟩ (.slice ka' j.keys.length kc')).cell? ⟨w.heap.size, 4, none⟩ = some (.slice ia j.items.length ic) := by
        obtain ⟨v, xs, X, hv⟩ := HINV.out
        exact cell_at (o := 4) hv.b0 rfl
      go_wp2_with fail
      generalize w4.setCell ⟨w.heap.size + 1 + 1, 3, none⟩ (.slice ka' j.keys.length kc') = wL at *
      rw [← HKV.out] at HINV
      clear x4 m3 f3 hz4
    all_goals
      clear hkn
      go_loopw [23] (fun i wr => ∃ m : Nat, m ≤ j.items.length ∧ i = .int .i64 m ∧ Hid (∃ box v xs X, box[4]? = some (.slice ia j.items.length ic) ∧ CopyInv w wr j w.heap.size m box kv ka' K v xs X)) (fun i _ => j.items.length - (intOf i).toNat)
      case atStart =>
        obtain ⟨v, xs, X, hv⟩ := HINV.out
        have e0 := hv.row
        rcases e0.2 with ⟨rfl, -⟩ | ⟨g, cap, cur, rfl, -⟩
        · exact ⟨0, Nat.zero_le _, rfl, _, _, xs, X, rfl, hv⟩
        · exact ⟨0, Nat.zero_le _, rfl, _, _, xs, X, rfl, hv⟩
      case round =>
        obtain ⟨m, hm, rfl, HC⟩ := hrel
        by_cases hlt : m < j.items.length
        · obtain ⟨box, v, xs, X, hbox, hv⟩ := HC.out
          obtain ⟨va, vc, rfl⟩ := own_shape hv.row
          obtain ⟨b, off, kx, kcx, ix, icx, rfl, _, c0, c1, c2, c3, c4, hr⟩ := (HI.out.later hv.bel).item m hlt
          have HR : Hid (RJ wr B j.items[m] _) := hr
          have HV : Hid (CopyInv w wr j w.heap.size m box kv ka' K (.slice va m vc) xs X) := hv
          have HIX : Hid (CopySaid j.items[m]) := IH.out _ (List.getElem_mem hlt)
          have HZX : Hid (j.items[m].sz ≤ 1048576) := HZ.out _ (List.getElem_mem hlt)
          have x4 : wr.cell? ⟨w.heap.size, 4, none⟩ = some (.slice (some ⟨b, off, none⟩) j.items.length ic) := cell_at (o := 4) hv.b0 hbox
          have t4 : wr.cell? ⟨w.heap.size + 1 + 1, 4, none⟩ = some (.slice va m vc) := cell_at (o := 4) hv.b2 rfl
          have z4 : wr.frozen? ⟨w.heap.size + 1 + 1, 4, none⟩ = false := frozen_at 4 hv.b2
          have hki : (m : Int) < (j.items.length : Int) := by omega
          have HBX : Hid (box[4]? = some (.slice (some ⟨b, off, none⟩) j.items.length ic)) := hbox
          clear hr hv hbox
          generalize hX : j.items[m] = x at *
          have HX : Hid (j.items[m] = x) := hX
          clear hX
          have H63 : Hid (m + 1 ≤ maxLen) := by show m + 1 ≤ maxLen; unfold maxLen; omega
          have HBY : Hid ((m + 1) * 80 ≤ 140737488355328) := by show (m + 1) * 80 ≤ 140737488355328; omega
          go_wp2_with fail
          go_region_law (first
            | (refine step_append_own2 rfl (.tmp 27) (.tmp 34) 24 rfl (w.heap.size + 1 + 1 + 1) 26 iJ (.agg zero5) 5 80 Try.underlying24 HIJ.out.1 HIJ.out.2.1 HIJ.out.2.2.1 HIJ.out.2.2.2 rfl (Nat.lt_of_sub_eq_succ rfl) (.slice va m vc) m xs rfl ?_ ⟨w1.heap.size, 0, none⟩ 1 1 [.int .i64 x.k, .int .i64 x.n, .string ⟨x.t.toArray⟩, .slice kx2 x.keys.length kcx2, .slice ix2 x.items.length icx2] rfl rfl ?_ ?_ ?_ ?_ ?_ Nat.one_pos ?_
               exact HV.out.row1 HB1.out _
               exact news5 _ _ _ _ _ _ _
               exact ONE.out
               exact H63.out
               exact HBY.out
               exact HBA.out
               intro v' w2 hrow2 hgr2 hg2
               obtain ⟨va2, vc2, rfl⟩ := own_shape hrow2
               have t5 := cell_at (o := 4) (HV.out.t2 HB1.out hgr2) rfl
               have z5 := frozen_at 4 (HV.out.t2 HB1.out hgr2))
            | (go_simp; go_at_call 12; refine (HIX.out _ B _ HZX.out ?_).mono ?_; exact HR.out.later (by first | exact (Below.refl _ _).drew | exact Below.refl _ _); rintro e w1 ⟨cs', rfl, hJ, hB1⟩
               obtain ⟨kx2, kcx2, ix2, icx2, rfl⟩ := hJ.cells
               have HJ : Hid (OwnJ w1 x (fun b => wr.heap.size ≤ b ∧ b < w1.heap.size) _) := hJ
               have HB1 : Hid (Below wr.heap.size wr w1) := (Below.refl _ _).drew.trans hB1
               have t4' := cell_at (o := 4) (HV.out.t1 HB1.out) rfl
               have z4' := frozen_at 4 (HV.out.t1 HB1.out)
               have HBA : Hid (w.heap.size + 1 + 1 + 1 ≤ (w1.alloc (.cells #[.int .i64 x.k, .int .i64 x.n, .string ⟨x.t.toArray⟩, .slice kx2 x.keys.length kcx2, .slice ix2 x.items.length icx2] 26)).heap.size) := by
                 have h1 := (Array.getElem?_eq_some_iff.1 HV.out.b2).1
                 have h2 := HB1.out.size
                 show _ ≤ _
                 simp; omega
               have hlt1 : w.heap.size + 1 + 1 < w1.heap.size := (Array.getElem?_eq_some_iff.1 (HV.out.t1 HB1.out)).1
               have t4a : (w1.alloc (.cells #[.int .i64 x.k, .int .i64 x.n, .string ⟨x.t.toArray⟩, .slice kx2 x.keys.length kcx2, .slice ix2 x.items.length icx2] 26)).cell? ⟨w.heap.size + 1 + 1, 4, none⟩ = some (.slice va m vc) := cell_at (o := 4) (by rw [Below.heap_alloc _ _ _ hlt1]; exact HV.out.t1 HB1.out) rfl
               have ONE : Hid (∀ u ∈ [Value.int .i64 x.k, .int .i64 x.n, .string ⟨x.t.toArray⟩, .slice kx2 x.keys.length kcx2, .slice ix2 x.items.length icx2], u.oneCell' = true) := by
                 intro u hu
                 simp only [List.mem_cons, List.not_mem_nil, or_false] at hu
                 rcases hu with rfl | rfl | rfl | rfl | rfl <;> rfl
               clear hJ hB1))
          all_goals
            have HNX : Hid (∃ box v xs X, box[4]? = some (.slice (some ⟨b, off, none⟩) j.items.length ic) ∧ CopyInv w (w2.setCell ⟨w.heap.size + 1 + 1, 4, none⟩ (.slice va2 (m + 1) vc2)) j w.heap.size (m + 1) box kv ka' K v xs X) := by
              exact ⟨box, _, _, _, HBX.out, HV.out.step hlt HB1.out hgr2 hrow2 hg2 rfl (by rw [HX.out]; exact HJ.out) HV.out.vlt⟩
            clear x4 t4 z4 c0 c1 c2 c3 c4 t4' z4' t4a t5 z5 hrow2 hgr2 hg2 hlt1
            go_wp2_with fail
            go_roundw
            case rel => exact ⟨m + 1, by omega, by go_num, HNX.out⟩
            case measure => simp [intOf]; omega
        · obtain ⟨box, v, xs, X, hbox, hv⟩ := HC.out
          have hmn : m = j.items.length := by omega
          obtain ⟨va, vc, rfl⟩ := own_shape hv.row
          have HV : Hid (CopyInv w wr j w.heap.size m box kv ka' K (.slice va m vc) xs X) := hv
          have hkv := HKV.out
          subst hkv
          have e0 := cell_at (o := 0) hv.b2 rfl
          have e1 := cell_at (o := 1) hv.b2 rfl
          have e2 := cell_at (o := 2) hv.b2 rfl
          have e3 := cell_at (o := 3) hv.b2 rfl
          have e4 := cell_at (o := 4) hv.b2 rfl
          have g0 := cell_at (o := 0) hv.b1 rfl
          have g1 := cell_at (o := 1) hv.b1 rfl
          have g2 := cell_at (o := 2) hv.b1 rfl
          have g3 := cell_at (o := 3) hv.b1 rfl
          have g4 := cell_at (o := 4) hv.b1 rfl
          have y0 := frozen_at 0 hv.b1
          have y1 := frozen_at 1 hv.b1
          have y2 := frozen_at 2 hv.b1
          have y3 := frozen_at 3 hv.b1
          have y4 := frozen_at 4 hv.b1
          clear hv hbox
          have HMN : Hid (m = j.items.length) := hmn
          clear hmn
          go_wp2_with fail
          refine bodyPost_ret (v := .agg #[.int .i64 j.k, .int .i64 j.n, .string ⟨j.t.toArray⟩, .slice ka' j.keys.length kc', .slice va m vc])
            (by simp [results, Try.results12, go_sem, g0, g1, g2, g3, g4]) rfl ⟨_, rfl, ?_, five_below HV.out.bel _ _ _ _ _⟩
          clear g0 g1 g2 g3 g4 y0 y1 y2 y3 y4 e0 e1 e2 e3 e4
          have hfin := HV.out
          have hmn := HMN.out
          subst hmn
          exact hfin.fin HT.out HKX.out (by unfold maxLen; omega) (by unfold maxLen; omega) (fun c hc => five_heap _ _ _ _ _ _ _ _ hc) (by simp [fiveSet, World.setCell])
end Go.Proofs.Ytmmcnalhmpkkmaa
