import Derived.Test.YtngbhifafdbpkaaGreatZbp
import Derived.Test.YtngbhifafdbpkaaGreatZbq
import Derived.Test.YtngbhifafdbpkaaGreatZbn
namespace Go.Proofs.YtngbhifafdbpkaaGreat
open Go.RowKit Go.Deep
set_option linter.unusedSimpArgs false
variable {dst : List RowV} {pb m mn rb roff : Nat} {D : DataW Value}
def atv (x : At) : Nat → Value
  | 0 => .int .i64 x.k
  | 1 => .int .i64 x.n
  | _ => .string ⟨x.t.toArray⟩
def cnK (dst : List RowV) (L : List At) (j : Nat) : Nat := ((L.take j).filter (thP dst)).length
theorem cn_yes {L : List At} {j : Nat} (h : j < L.length) (hp : thP dst L[j] = true) : cnK dst L (j + 1) = cnK dst L j + 1 := flt_yes h hp
theorem cn_no {L : List At} {j : Nat} (h : j < L.length) (hp : thP dst L[j] = false) : cnK dst L (j + 1) = cnK dst L j := flt_no h hp
theorem cn_end (L : List At) : cnK dst L L.length = (L.filter (thP dst)).length := by unfold cnK; rw [List.take_length]
theorem cn_all {L : List At} : ∀ {j : Nat}, j ≤ ixN dst L → cnK dst L j = j
  | 0, _ => by simp [cnK]
  | j + 1, h => by
    have := ix_le dst L
    rw [cn_yes (by omega) (ix_lt (by omega)), cn_all (by omega)]
structure DelA (dst : List RowV) (L : List At) (w : World) (b off j : Nat) (wr : World) (g : Nat → Value) : Prop where
  fr : Frm (· = b) w wr
  rw3 : Row3 wr b off (L.length * 3) g
  lo : ∀ p (h : p < (L.filter (thP dst)).length), p < cnK dst L j → ∀ q, q < 3 → g (p * 3 + q) = atv (L.filter (thP dst))[p] q
  hi : ∀ p (h : p < L.length), j ≤ p → ∀ q, q < 3 → g (p * 3 + q) = atv L[p] q
  lt : cnK dst L j + 1 ≤ j
theorem DelA.skip {L : List At} {w wr wr' : World} {b off j : Nat} {g : Nat → Value} (h : DelA dst L w b off j wr g) (hj : j < L.length) (hp : thP dst L[j] = false) (hB : Below wr.heap.size wr wr') : DelA dst L w b off (j + 1) wr' g := by
  have hc := cn_no hj hp
  have hb : b < wr.heap.size := World.block_lt_of_cell? _ ⟨b, off + 0, none⟩ (h.rw3.c 0 (by omega))
  exact ⟨h.fr.trans (frm_below hB), h.rw3.block (hB.block b hb), fun p h1 h2 => h.lo p h1 (by omega), fun p h1 h2 => h.hi p h1 (by omega), by have := h.lt; omega⟩
theorem DelA.keep {L : List At} {w wr wr' : World} {b off j i : Nat} {g : Nat → Value} (h : DelA dst L w b off j wr g) (hi : cnK dst L j = i) (hj : j < L.length) (hp : thP dst L[j] = true) (hB : Below wr.heap.size wr wr') :
    DelA dst L w b off (j + 1) (((wr'.setCell ⟨b, off + i * 3, none⟩ (.int .i64 L[j].k)).setCell ⟨b, off + i * 3 + 1, none⟩ (.int .i64 L[j].n)).setCell ⟨b, off + i * 3 + 2, none⟩ (.string ⟨L[j].t.toArray⟩)) (fun p => if p = i * 3 + 2 then .string ⟨L[j].t.toArray⟩ else if p = i * 3 + 1 then .int .i64 L[j].n else if p = i * 3 + 0 then .int .i64 L[j].k else g p) := by
  have hc := cn_yes hj hp
  have hlt := h.lt
  have hb : b < wr.heap.size := World.block_lt_of_cell? _ ⟨b, off + 0, none⟩ (h.rw3.c 0 (by omega))
  have h3 := h.rw3.block (hB.block b hb)
  obtain ⟨hx, hat⟩ := flt_at hj hp
  have hx' : i < (L.filter (thP dst)).length := by have : cnK dst L j < (L.filter (thP dst)).length := hx; omega
  have hat' : (L.filter (thP dst))[i] = L[j] := by
    have h9 : (L.filter (thP dst))[cnK dst L j]'hx = L[j] := hat
    simp only [hi] at h9; exact h9
  refine ⟨((((h.fr.trans (frm_below hB)).trans (frm_set _ _ _ _)).trans (frm_set _ _ _ _)).trans (frm_set _ _ _ _)), ((h3.set (o := i * 3 + 0) (by omega) _).set (o := i * 3 + 1) (by omega) _).set (o := i * 3 + 2) (by omega) _, fun p h1 h2 q hq => ?_, fun p h1 h2 q hq => ?_, by omega⟩
  · by_cases e : p = i
    · subst e
      rw [hat']
      rcases (by omega : q = 0 ∨ q = 1 ∨ q = 2) with rfl | rfl | rfl
      · rw [if_neg (by omega), if_neg (by omega), if_pos rfl]; rfl
      · rw [if_neg (by omega), if_pos rfl]; rfl
      · rw [if_pos rfl]; rfl
    · rw [if_neg (by omega), if_neg (by omega), if_neg (by omega)]
      exact h.lo p h1 (by omega) q hq
  · rw [if_neg (by omega), if_neg (by omega), if_neg (by omega)]
    exact h.hi p h1 (by omega) q hq
theorem row3_own {W : World} {b off c n : Nat} {L : List At} {g : Nat → Value} {X : Nat → Prop} (h : Row3 W b off n g) (hn : L.length * 3 ≤ n) (hg : ∀ p (h : p < L.length) q, q < 3 → g (p * 3 + q) = atv L[p] q) (hc : L.length ≤ c) (hX : X b) : Own W (dAtomS L) X (.slice (some ⟨b, off, none⟩) L.length c) := by
  refine ⟨_, _, rfl, hc, .inr ⟨b, off, fun _ _ _ => False, rfl, hX, by omega, fun _ _ _ h => h.elim, fun _ _ _ _ _ h => h.elim, fun i j hi hj => ?_⟩⟩
  have hi : i < L.length := hi
  have h1 := h.c (i * 3 + j) (by omega)
  have h2 := h.z (i * 3 + j) (by omega)
  rw [hg i hi j hj, show off + (i * 3 + j) = off + i * 3 + j by omega] at h1
  rw [show off + (i * 3 + j) = off + i * 3 + j by omega] at h2
  refine ⟨_, h1, h2, ?_⟩
  rw [lsF_at hi]
  rcases (by omega : j = 0 ∨ j = 1 ∨ j = 2) with rfl | rfl | rfl <;> exact rfl
theorem own_row3 {W : World} {a : Option Addr} {c : Nat} {L : List At} {X : Nat → Prop} (h : Own W (dAtomS L) X (.slice a L.length c)) (h0 : 0 < L.length) : ∃ b off g, a = some ⟨b, off, none⟩ ∧ X b ∧ Row3 W b off (L.length * 3) g ∧ ∀ p (h : p < L.length) q, q < 3 → g (p * 3 + q) = atv L[p] q := by
  obtain ⟨a', c', hv, hc, h⟩ := h
  simp only [Value.slice.injEq, true_and] at hv
  obtain ⟨rfl, rfl⟩ := hv
  rcases h with h | ⟨b, off, Y, rfl, hX, -, -, -, hC⟩
  · omega
  have hat : ∀ p (hp : p < L.length) q, q < 3 → W.cell? ⟨b, off + (p * 3 + q), none⟩ = some (atv L[p] q) ∧ W.frozen? ⟨b, off + (p * 3 + q), none⟩ = false := fun p hp q hq => by
    obtain ⟨u, hu, hz, ho⟩ := hC p q hp hq
    rw [lsF_at hp] at ho
    rw [show off + (p * 3 + q) = off + p * 3 + q by omega]
    refine ⟨?_, hz⟩
    rcases (by omega : q = 0 ∨ q = 1 ∨ q = 2) with rfl | rfl | rfl
    · obtain rfl : u = .int .i64 L[p].k := ho
      exact hu
    · obtain rfl : u = .int .i64 L[p].n := ho
      exact hu
    · obtain rfl : u = .string ⟨L[p].t.toArray⟩ := ho
      exact hu
  have hL : ∀ o, o < L.length * 3 → (L[o / 3]? ).isSome = true := fun o ho => by rw [List.getElem?_eq_getElem (by omega)]; rfl
  refine ⟨b, off, fun o => match L[o / 3]? with | some x => atv x (o % 3) | none => undef, rfl, hX, ⟨fun o ho => ?_, fun o ho => ?_⟩, fun p hp q hq => ?_⟩
  · rw [List.getElem?_eq_getElem (show o / 3 < L.length by omega)]
    have := (hat (o / 3) (by omega) (o % 3) (by omega)).1
    rw [show o / 3 * 3 + o % 3 = o by omega] at this
    exact this
  · have := (hat (o / 3) (by omega) (o % 3) (by omega)).2
    rw [show o / 3 * 3 + o % 3 = o by omega] at this
    exact this
  · show (match L[(p * 3 + q) / 3]? with | some x => atv x ((p * 3 + q) % 3) | none => undef) = _
    rw [show (p * 3 + q) / 3 = p by omega, show (p * 3 + q) % 3 = q by omega, List.getElem?_eq_getElem hp]
def DelAns (dst : List RowV) (L : List At) (X : Nat → Prop) (a : Option Addr) (c : Nat) (w : World) (e : Ending) (w' : World) : Prop := e = .returned (.slice a (L.filter (thP dst)).length c) ∧ Own w' (dAtomS (L.filter (thP dst))) X (.slice a (L.filter (thP dst)).length c) ∧ Frm X w w'
set_option maxRecDepth 1048576 in
set_option maxHeartbeats 6400000 in
theorem deleteK (L : List At) (a : Option Addr) (c : Nat) (X : Nat → Prop) (w : World) (hl : L.length ≤ 1048576) (hio : ∀ x ∈ L, iOK x.n) (hO : Own w (dAtomS L) X (.slice a L.length c)) (hM : KMap dst w pb m mn D rb roff) (hp : ¬ X pb) (hm : ¬ X m) :
    Calls Tryz.prog 79 #[.slice a L.length c, .func (.func 80) #[] #[.pointer (some ⟨pb, 0, none⟩)]] w (DelAns dst L X a c w) := by
  have IX := Lib.hid (indexK L a c X w hl hio hO.rd' hM)
  by_cases hix : ixN dst L < L.length
  case neg =>
    have hfil : L.filter (thP dst) = L := List.filter_eq_self.2 (fun x hx => by
      obtain ⟨j, hj, rfl⟩ := List.getElem_of_mem hx
      exact ix_lt (by have := ix_le dst L; omega))
    have hfi : ixI dst L = -1 := by unfold ixI; rw [if_neg hix]
    rw [hfi] at IX
    have HOW := Lib.hid hO
    have HF := Lib.hid hfil
    clear hio hO hM hp hm hix hfi hfil
    go_enter Tryz.func79, Tryz.ntmps79
    go_wp2_with fail
    refine IX.out.mono ?_
    rintro e w1 ⟨rfl, hB⟩
    have HB := Lib.hid hB
    clear hB
    go_wp2_with fail
    go_ret
    show DelAns dst L X a c w _ _
    unfold DelAns
    rw [HF.out]
    exact ⟨rfl, HOW.out.later HB.out, frm_below HB.out⟩
  have hfi : ixI dst L = (ixN dst L : Int) := by unfold ixI; rw [if_pos hix]
  rw [hfi] at IX
  have hcap : L.length ≤ c := hO.rd'.room
  obtain ⟨b, off, g0, rfl, hXb, hr0, hg0⟩ := own_row3 hO (by omega)
  have H0 : Hid (∀ w1, Below w.heap.size w w1 → DelA dst L w b off (ixN dst L + 1) w1 g0) := fun w1 hB => by
    have hb : b < w.heap.size := World.block_lt_of_cell? _ ⟨b, off + 0, none⟩ (hr0.c 0 (by omega))
    have hcn : cnK dst L (ixN dst L + 1) = ixN dst L := by rw [cn_no hix (ix_at hix), cn_all (Nat.le_refl _)]
    refine ⟨frm_below hB, hr0.block (hB.block b hb), fun p h1 h2 q hq => ?_, fun p h1 h2 => hg0 p h1, by omega⟩
    rw [hcn] at h2
    have hpl : p < L.length := by omega
    obtain ⟨hx, hat⟩ := flt_at hpl (ix_lt (dst := dst) h2)
    have hca : cnK dst L p = p := cn_all (by omega)
    have h9 : (L.filter (thP dst))[cnK dst L p]'hx = L[p] := hat
    simp only [hca] at h9
    rw [h9]; exact hg0 p hpl q hq
  have HM := Lib.hid (And.intro hM (And.intro hp hm))
  have HI := Lib.hid hio
  have HXB := Lib.hid hXb
  have HCN : Hid (cnK dst L (ixN dst L + 1) = ixN dst L) := by show _ = _; rw [cn_no hix (ix_at hix), cn_all (Nat.le_refl _)]
  obtain ⟨k, hk⟩ : ∃ k, k = ixN dst L := ⟨_, rfl⟩
  rw [← hk] at IX hix H0 HCN
  have hkn : ((k : Int) == -1) = false := by simp <;> omega
  have hkn2 : ¬ ((k : Int) = -1) := by omega
  have f0 : IntKind.i64.wrap ((k : Int) + 1) = ((k + 1 : Nat) : Int) := by rw [IntKind.wrap_i64]; omega
  clear hio hO hM hp hm hfi hr0 hg0 hXb hk
  go_enter Tryz.func79, Tryz.ntmps79
  go_wp2_with fail
  refine IX.out.mono ?_
  rintro e w1 ⟨rfl, hB⟩
  have H1 := Lib.hid (H0.out w1 hB)
  clear hB H0 IX
  go_wp2_with fail
  go_loopw [5, 6] (fun s t wr => ∃ (j : Nat) (g : Nat → Value), j ≤ L.length ∧ s = .int .i64 ((cnK dst L j : Nat) : Int) ∧ t = .int .i64 (j : Int) ∧ Hid (DelA dst L w b off j wr g)) (fun _ t _ => L.length - (intOf t).toNat)
  case atStart => exact ⟨k + 1, g0, by omega, by rw [HCN.out], by go_num, H1.out⟩
  case round =>
    obtain ⟨j, g, hjl, rfl, rfl, HW⟩ := hrel
    have hlt1 := HW.out.lt
    by_cases hlt : j < L.length
    case neg =>
      have hkd : decide ((j : Int) < (L.length : Int)) = false := by simp; omega
      have hje : j = L.length := by omega
      have HCE : Hid (cnK dst L j = (L.filter (thP dst)).length) := by show _ = _; rw [hje, cn_end]
      obtain ⟨i, hi⟩ : ∃ i, i = cnK dst L j := ⟨_, rfl⟩
      rw [← hi] at hlt1 HCE ⊢
      obtain ⟨w2, hrun, hfr, hrow⟩ := run_clearK (i := i) (n := L.length - i) (c - i) HW.out.rw3 (by omega) (by omega)
      have HE : Hid (Frm (· = b) w w2 ∧ Row3 w2 b off (i * 3) g) := ⟨HW.out.fr.trans hfr, hrow⟩
      have HLO : Hid (∀ p (h : p < (L.filter (thP dst)).length), ∀ q, q < 3 → g (p * 3 + q) = atv (L.filter (thP dst))[p] q) := fun p h q hq => HW.out.lo p h (by rw [← hi, HCE.out]; exact h) q hq
      have h2 : (i : Int) ≤ (L.length : Int) := by omega
      have h3 : (i : Int) ≤ (c : Int) := by omega
      have h5 : (L.length : Int) ≤ (c : Int) := by omega
      have h6 : ¬ c = i := by omega
      have HIC : Hid (i ≤ c) := by show i ≤ c; omega
      clear hfr hrow hi HW hje hlt1
      go_wp2_with fail
      go_ret
      show DelAns dst L X _ c w _ _
      unfold DelAns
      rw [← HCE.out]
      have ho : Own w2 (dAtomS (L.filter (thP dst))) X (.slice (some ⟨b, off, none⟩) (L.filter (thP dst)).length c) := row3_own HE.out.2 (by rw [← HCE.out]; omega) HLO.out (by rw [← HCE.out]; exact HIC.out) HXB.out
      rw [← HCE.out] at ho
      exact ⟨rfl, ho, HE.out.1.mono (fun d hd => by subst hd; exact HXB.out)⟩
    have hki : (j : Int) < (L.length : Int) := by omega
    have f1 : IntKind.i64.wrap ((j : Int) + 1) = ((j + 1 : Nat) : Int) := by rw [IntKind.wrap_i64]; omega
    have hat : ∀ q, q < 3 → wr.cell? ⟨b, off + (j * 3 + q), none⟩ = some (atv L[j] q) := fun q hq => by rw [← HW.out.hi j hlt (Nat.le_refl _) q hq]; exact HW.out.rw3.c _ (by omega)
    have c0 : wr.cell? ⟨b, off + j * 3, none⟩ = some (.int .i64 L[j].k) := hat 0 (by omega)
    have c1 : wr.cell? ⟨b, off + j * 3 + 1, none⟩ = some (.int .i64 L[j].n) := hat 1 (by omega)
    have c2 : wr.cell? ⟨b, off + j * 3 + 2, none⟩ = some (.string ⟨L[j].t.toArray⟩) := hat 2 (by omega)
    obtain ⟨W2, hW2⟩ : ∃ W2, W2 = wr.alloc (.cells #[.int .i64 L[j].k, .int .i64 L[j].n, .string ⟨L[j].t.toArray⟩] 84) := ⟨_, rfl⟩
    have hb2 : Below wr.heap.size wr W2 := by rw [hW2]; exact below_allocD _ _
    have hn2 : W2.heap[wr.heap.size]? = some (.cells #[.int .i64 L[j].k, .int .i64 L[j].n, .string ⟨L[j].t.toArray⟩] 84) := by rw [hW2]; exact heap_newD _ _
    have CC := Lib.hid (fnK L[j] W2 ((HM.out.1.frm HW.out.fr (fun e => HM.out.2.1 (by rw [e]; exact HXB.out)) (fun e => HM.out.2.2 (by rw [e]; exact HXB.out))).later hb2) (HI.out _ (List.getElem_mem hlt)))
    have k0 := cell_at (o := 0) hn2 rfl
    have k1 := cell_at (o := 1) hn2 rfl
    have k2 := cell_at (o := 2) hn2 rfl
    have HH := Lib.hid (And.intro hb2 hn2)
    rw [hW2] at CC k0 k1 k2
    have HW2 := Lib.hid hW2
    obtain ⟨i, hi⟩ : ∃ i, i = cnK dst L j := ⟨_, rfl⟩
    cases he : thP dst L[j]
    · have HN : Hid (∀ w3, Below W2.heap.size W2 w3 → DelA dst L w b off (j + 1) w3 g) := fun w3 hB => HW.out.skip hlt he (HH.out.1.trans (hB.mono HH.out.1.size))
      have HCJ : Hid (cnK dst L (j + 1) = i) := (cn_no hlt he).trans hi.symm
      rw [he] at CC
      rw [← hi] at hlt1 ⊢
      clear hat hb2 hn2 hW2 he hi
      generalize L[j] = y at *
      go_wp2_with (go_at_call 80; refine CC.out.mono ?_; rintro e w3 ⟨rfl, hB⟩; rw [← HW2.out] at hB; have HNN := Lib.hid (HN.out _ hB); clear hB k0 k1 k2)
      go_roundw
      case rel => exact ⟨j + 1, g, by omega, by rw [HCJ.out], by go_num, HNN.out⟩
      case measure => simp [intOf]; omega
    · have HN : Hid (∀ w3, Below W2.heap.size W2 w3 → ∃ g', DelA dst L w b off (j + 1) (((w3.setCell ⟨b, off + i * 3, none⟩ (.int .i64 L[j].k)).setCell ⟨b, off + i * 3 + 1, none⟩ (.int .i64 L[j].n)).setCell ⟨b, off + i * 3 + 2, none⟩ (.string ⟨L[j].t.toArray⟩)) g') := fun w3 hB => ⟨_, HW.out.keep hi.symm hlt he (HH.out.1.trans (hB.mono HH.out.1.size))⟩
      have HCJ : Hid (cnK dst L (j + 1) = i + 1) := by show _ = _; rw [cn_yes hlt he, hi]
      have HZ : Hid (∀ w3, Below W2.heap.size W2 w3 → Row3 w3 b off (L.length * 3) g) := fun w3 hB => by
        have hbw := HW.out.rw3
        have hbl : b < wr.heap.size := World.block_lt_of_cell? _ ⟨b, off + 0, none⟩ (hbw.c 0 (by omega))
        exact hbw.block ((hB.block b (Nat.lt_of_lt_of_le hbl HH.out.1.size)).trans (HH.out.1.block b hbl))
      have HLI : Hid (i + 1 ≤ j) := by show i + 1 ≤ j; omega
      have hil : (i : Int) < (L.length : Int) := by omega
      have f2 : IntKind.i64.wrap ((i : Int) + 1) = ((i + 1 : Nat) : Int) := by rw [IntKind.wrap_i64]; omega
      rw [he] at CC
      rw [← hi]
      have HLTJ := Lib.hid hlt
      clear hat hb2 hn2 hW2 he hi hlt1
      generalize L[j] = y at *
      go_wp2_with (go_at_call 80; refine CC.out.mono ?_; rintro e w3 ⟨rfl, hB⟩; rw [← HW2.out] at hB; obtain ⟨g', hg'⟩ := HN.out _ hB; have HNN := Lib.hid hg'; have hz := HZ.out _ hB; clear k0 k1 k2; have k0 := cell_at (o := 0) (heap_keptD HH.out.2 hB) rfl; have k1 := cell_at (o := 1) (heap_keptD HH.out.2 hB) rfl; have k2 := cell_at (o := 2) (heap_keptD HH.out.2 hB) rfl; have s0 := hz.c (i * 3) (by have := HLI.out; have := HLTJ.out; omega); have s1 : w3.cell? ⟨b, off + i * 3 + 1, none⟩ = some (g (i * 3 + 1)) := hz.c (i * 3 + 1) (by have := HLI.out; have := HLTJ.out; omega); have s2 : w3.cell? ⟨b, off + i * 3 + 2, none⟩ = some (g (i * 3 + 2)) := hz.c (i * 3 + 2) (by have := HLI.out; have := HLTJ.out; omega); have z0 := hz.z (i * 3) (by have := HLI.out; have := HLTJ.out; omega); have z1 : w3.frozen? ⟨b, off + i * 3 + 1, none⟩ = false := hz.z (i * 3 + 1) (by have := HLI.out; have := HLTJ.out; omega); have z2 : w3.frozen? ⟨b, off + i * 3 + 2, none⟩ = false := hz.z (i * 3 + 2) (by have := HLI.out; have := HLTJ.out; omega); clear hB hg' hz)
      go_roundw
      case rel => exact ⟨j + 1, g', by have := HLTJ.out; omega, by rw [HCJ.out]; go_num, by go_num, HNN.out⟩
      case measure => have := HLTJ.out; simp [intOf]; omega
end Go.Proofs.YtngbhifafdbpkaaGreat
namespace Go.Proofs.YtngbhifafdbpkaaGreat
open Go.RowKit
set_option linter.unusedSimpArgs false
theorem own_cellX {W : World} {Y : List (List RowV)} {B : Nat → Prop} {q qo rc : Nat} (h : Own W (dRowSS Y) B (.slice (some ⟨q, qo, none⟩) Y.length rc)) (hlt : ∀ d, B d → d < W.heap.size) {i k c : Nat} (hi : i < Y.length) (hk : k < Y[i].length) (hc : c < Y[i][k].cells.length) :
    ∃ rb ro rcap cb co ccap, ∃ (la : Option Addr) (lc : Nat) (X : Nat → Prop), W.cell? ⟨q, qo + i, none⟩ = some (.slice (some ⟨rb, ro, none⟩) Y[i].length rcap) ∧ W.cell? ⟨rb, ro + k * 2 + 1, none⟩ = some (.slice (some ⟨cb, co, none⟩) Y[i][k].cells.length ccap) ∧
      W.cell? ⟨cb, co + c, none⟩ = some (.slice la Y[i][k].cells[c].length lc) ∧ W.frozen? ⟨cb, co + c, none⟩ = false ∧ Own W (dAtomS Y[i][k].cells[c]) X (.slice la Y[i][k].cells[c].length lc) ∧ (∀ d, X d → B d) ∧ B rb ∧ B cb ∧ cb ≠ q ∧ cb ≠ rb ∧ ¬ X q ∧ ¬ X rb ∧ ¬ X cb ∧
      ∀ (W1 : World) (l' : List At) (a' : Option Addr) (c' : Nat), Frm X W W1 → Own W1 (dAtomS l') X (.slice a' l'.length c') →
        Own (W1.setCell ⟨cb, co + c, none⟩ (.slice a' l'.length c')) (dRowSS (Y.set i (Y[i].set k ⟨Y[i][k].id, Y[i][k].cells.set c l'⟩))) B (.slice (some ⟨q, qo, none⟩) Y.length rc) := by
  obtain ⟨u1, X1, hu1, hz1, ho1, hB1, hX1, hXB1, hup1⟩ := Own.part (n := 1) (f := lsF cRowS Y) h hi (j := 0) (by omega)
  rw [lsF_at hi] at ho1
  replace ho1 : Own W (dRowS Y[i]) X1 u1 := ho1
  obtain ⟨ra, rcap, rfl⟩ := ho1.rd'.lsSlice
  obtain ⟨rb, ro, rfl, -, -⟩ := Rd.things (d := dRow) (n := 2) ho1.rd' k hk
  obtain ⟨u2, X2, hu2, hz2, ho2, hB2, hX2, hXB2, hup2⟩ := Own.part (n := 2) (f := lsF dRow Y[i]) ho1 hk (j := 1) (by omega)
  rw [lsF_at hk] at ho2
  replace ho2 : Own W (dAtomSS Y[i][k].cells) X2 u2 := ho2
  obtain ⟨ca, ccap, rfl⟩ := ho2.rd'.lsSlice
  obtain ⟨cb, co, rfl, -, -⟩ := Rd.things (d := cAtomS) (n := 1) ho2.rd' c hc
  obtain ⟨u3, X3, hu3, hz3, ho3, hB3, hX3, hXB3, hup3⟩ := Own.part (n := 1) (f := lsF cAtomS Y[i][k].cells) ho2 hc (j := 0) (by omega)
  rw [lsF_at hc] at ho3
  replace ho3 : Own W (dAtomS Y[i][k].cells[c]) X3 u3 := ho3
  obtain ⟨la, lc, rfl⟩ := ho3.rd'.lsSlice
  rw [Nat.mul_one, Nat.add_zero] at hu1 hz1 hu3 hz3
  have hcbB : B cb := hXB1 _ (hXB2 _ hB3)
  have hne1 : cb ≠ q := fun e => hX1 (by rw [← e]; exact hXB2 _ hB3)
  have hne2 : cb ≠ rb := fun e => hX2 (by rw [← e]; exact hB3)
  refine ⟨rb, ro, rcap, cb, co, ccap, la, lc, X3, hu1, hu2, hu3, hz3, ho3, fun d hd => hXB1 _ (hXB2 _ (hXB3 _ hd)), hXB1 _ hB2, hcbB, hne1, hne2, fun h => hX1 (hXB2 _ (hXB3 _ h)), fun h => hX2 (hXB3 _ h), hX3, fun W1 l' a' c' hF hn => ?_⟩
  have hcbl := hlt _ hcbB
  have hblk : ∀ d, d ≠ cb → ¬ X3 d → d < W.heap.size → (W1.setCell ⟨cb, co + c, none⟩ (.slice a' l'.length c')).heap[d]? = W.heap[d]? := fun d hd hx hl => by
    rw [Below.heap_setCell _ _ _ _ (by show d ≠ cb; exact hd)]; exact hF.block d hl hx
  have hcell : ∀ b, b ≠ cb → ¬ X3 b → b < W.heap.size → ∀ o, (W1.setCell ⟨cb, co + c, none⟩ (.slice a' l'.length c')).cell? ⟨b, o, none⟩ = W.cell? ⟨b, o, none⟩ := fun b hb hx hl o => by
    simp only [World.cell?, hblk b hb hx hl]
  have hfrz : ∀ b, ¬ X3 b → b < W.heap.size → ∀ o, (W1.setCell ⟨cb, co + c, none⟩ (.slice a' l'.length c')).frozen? ⟨b, o, none⟩ = W.frozen? ⟨b, o, none⟩ := fun b hx hl o => by
    rw [frz_set]
    have h1 := hF.block b hl hx
    simp only [World.frozen?, h1]
  have hcbk := hF.block cb hcbl hX3
  have c3 : W1.cell? ⟨cb, co + c, none⟩ = some (.slice la Y[i][k].cells[c].length lc) := (by simp only [World.cell?, hcbk] : W1.cell? ⟨cb, co + c, none⟩ = W.cell? ⟨cb, co + c, none⟩).trans hu3
  have hx3q : ¬ X3 q := fun h => hX1 (hXB2 _ (hXB3 _ h))
  have hx3r : ¬ X3 rb := fun h => hX2 (hXB3 _ h)
  have e3 := hup3 (W1.setCell ⟨cb, co + c, none⟩ (.slice a' l'.length c')) (lsF cAtomS (Y[i][k].cells.set c l')) (fun _ => False) (.slice a' l'.length c') (fun d hb hx hd => hblk d hd hx (hlt _ (hXB1 _ (hXB2 _ hb)))) (fun o v ho hv => by
      rw [Nat.mul_one, Nat.add_zero] at ho
      exact cell_skip ((by simp only [World.cell?, hcbk] : W1.cell? ⟨cb, o, none⟩ = W.cell? ⟨cb, o, none⟩).trans hv) ho) (fun o => hfrz cb hX3 hcbl o) (by
      rw [Nat.mul_one, Nat.add_zero]
      exact World.cell?_setCell_same _ _ _ c3) (by
      rw [lsF_at (by rw [List.length_set]; exact hc), List.getElem_set_self]
      exact (hn.frm (F := (· = cb)) (frm_set _ _ _ _) (fun d hd e => by have e' : d = cb := e; subst e'; exact hX3 hd)).mono (fun d hd => .inl hd)) (fun d hd _ => hd) (fun i' j' hi' hj' hne => by
      obtain rfl : j' = 0 := by omega
      have hic : i' ≠ c := fun e => hne (by rw [e])
      rw [lsF_at (by rw [List.length_set]; exact hi'), lsF_at hi', List.getElem_set_ne (by omega)])
  have e2 := hup2 (W1.setCell ⟨cb, co + c, none⟩ (.slice a' l'.length c')) (lsF dRow (Y[i].set k ⟨Y[i][k].id, Y[i][k].cells.set c l'⟩)) (fun _ => False) (.slice (some ⟨cb, co, none⟩) Y[i][k].cells.length ccap) (fun d hb hx _ => hblk d (fun e => hx (by rw [e]; exact hB3)) (fun h => hx (hXB3 _ h)) (hlt _ (hXB1 _ hb))) (fun o _ _ hv => (hcell rb (fun e => hne2 e.symm) hx3r (hlt _ (hXB1 _ hB2)) o).trans hv) (fun o => hfrz rb hx3r (hlt _ (hXB1 _ hB2)) o) ((hcell rb (fun e => hne2 e.symm) hx3r (hlt _ (hXB1 _ hB2)) _).trans hu2) (by
      rw [lsF_at (by rw [List.length_set]; exact hk), List.getElem_set_self]
      show Own _ (.l 1 (Y[i][k].cells.set c l').length _) _ _
      rw [List.length_set]
      exact e3) (fun d hd _ => hd) (fun i' j' hi' hj' hne => by
      by_cases e : i' = k
      · subst e
        have : j' = 0 := by
          rcases (by omega : j' = 0 ∨ j' = 1) with e | e
          · exact e
          · exact absurd (by rw [e]) hne
        subst this
        rw [lsF_at (by rw [List.length_set]; exact hi'), lsF_at hi', List.getElem_set_self]
        rfl
      · rw [lsF_at (by rw [List.length_set]; exact hi'), lsF_at hi', List.getElem_set_ne (by omega)])
  have e1 := hup1 (W1.setCell ⟨cb, co + c, none⟩ (.slice a' l'.length c')) (lsF cRowS (Y.set i (Y[i].set k ⟨Y[i][k].id, Y[i][k].cells.set c l'⟩))) (fun _ => False) (.slice (some ⟨rb, ro, none⟩) Y[i].length rcap) (fun d hb hx _ => hblk d (fun e => hx (by rw [e]; exact hXB2 _ hB3)) (fun h => hx (hXB2 _ (hXB3 _ h))) (hlt _ hb)) (fun o _ _ hv => (hcell q (fun e => hne1 e.symm) hx3q (hlt _ hB1) o).trans hv) (fun o => hfrz q hx3q (hlt _ hB1) o) (by
      rw [Nat.mul_one, Nat.add_zero]
      exact (hcell q (fun e => hne1 e.symm) hx3q (hlt _ hB1) _).trans hu1) (by
      rw [lsF_at (by rw [List.length_set]; exact hi), List.getElem_set_self]
      show Own _ (.l 2 (Y[i].set k _).length _) _ _
      rw [List.length_set]
      exact e2) (fun d hd _ => hd) (fun i' j' hi' hj' hne => by
      obtain rfl : j' = 0 := by omega
      have hic : i' ≠ i := fun e => hne (by rw [e])
      rw [lsF_at (by rw [List.length_set]; exact hi'), lsF_at hi', List.getElem_set_ne (by omega)])
  show Own _ (.l 1 (Y.set i _).length _) _ _
  rw [List.length_set]
  exact e1.mono (fun d hd => hd.elim id False.elim)
end Go.Proofs.YtngbhifafdbpkaaGreat
