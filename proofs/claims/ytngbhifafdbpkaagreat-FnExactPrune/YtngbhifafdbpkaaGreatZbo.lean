import Derived.Test.YtngbhifafdbpkaaGreatZbn
import Derived.Test.YtngbhifafdbpkaaGreatZTk
namespace Go.Proofs.YtngbhifafdbpkaaGreat
open Go.RowKit
set_option linter.unusedSimpArgs false
structure DrS (B : Nat → Prop) (pb : Nat) (w W : World) (sv : Value) (n : Int) (Y : List (List RowV)) (q qo rc : Nat) : Prop where
  a : W.heap[w.heap.size]? = some (.cells #[sv] 37)
  b : W.heap[pb]? = some (.cells #[.slice (some ⟨q, qo, none⟩) Y.length rc, .int .i64 n] 32)
  d : Own W (dRowSS Y) (fun d => B d ∨ (w.heap.size + 1 ≤ d ∧ d < W.heap.size)) (.slice (some ⟨q, qo, none⟩) Y.length rc)
  fr : Frm B w W
  lt : w.heap.size < W.heap.size
  hB : (∀ d, B d → d < w.heap.size) ∧ ¬ B pb ∧ pb < w.heap.size
theorem DrS.dlt {B : Nat → Prop} {pb : Nat} {w W : World} {sv : Value} {n : Int} {Y : List (List RowV)} {q qo rc : Nat} (h : DrS B pb w W sv n Y q qo rc) {d : Nat} (hd : B d ∨ (w.heap.size + 1 ≤ d ∧ d < W.heap.size)) : d < W.heap.size := by
  have := h.lt
  rcases hd with hd | hd
  · have := h.hB.1 d hd; omega
  · exact hd.2
theorem DrS.later {B : Nat → Prop} {pb : Nat} {w W W' : World} {sv : Value} {n : Int} {Y : List (List RowV)} {q qo rc : Nat} (h : DrS B pb w W sv n Y q qo rc) (hB : Below W.heap.size W W') : DrS B pb w W' sv n Y q qo rc :=
  ⟨heap_keptD h.a hB, heap_keptD h.b hB, (h.d.later hB).mono (fun _ hd => hd.imp id (fun h => ⟨h.1, Nat.lt_of_lt_of_le h.2 hB.size⟩)), h.fr.trans ⟨hB.os, hB.tape, hB.output, hB.size, fun b hb _ => hB.block b hb⟩, Nat.lt_of_lt_of_le h.lt hB.size, h.hB⟩
theorem frm_setN {B : Nat → Prop} {w W : World} (h : Frm B w W) {q o : Nat} (hq : B q ∨ w.heap.size ≤ q) (v : Value) : Frm B w (W.setCell ⟨q, o, none⟩ v) := by
  have h1 := frm_set W q o v
  refine ⟨h1.os.trans h.os, h1.tape.trans h.tape, h1.output.trans h.output, Nat.le_trans h.size h1.size, fun b hb hn => ?_⟩
  have hne : b ≠ q := fun e => by subst e; exact hq.elim hn (fun h => by omega)
  exact (h1.block b (Nat.lt_of_lt_of_le hb h.size) hne).trans (h.block b hb hn)
theorem DrS.cell {B : Nat → Prop} {pb : Nat} {w W W1 : World} {sv : Value} {n : Int} {Y Y' : List (List RowV)} {q qo rc : Nat} (h : DrS B pb w W sv n Y q qo rc) (hB : Below W.heap.size W W1) {o : Nat} {v : Value} (hq : B q ∨ (w.heap.size + 1 ≤ q ∧ q < W.heap.size)) (hl : Y'.length = Y.length) (hO : Own (W1.setCell ⟨q, o, none⟩ v) (dRowSS Y') (fun d => (B d ∨ (w.heap.size + 1 ≤ d ∧ d < W.heap.size)) ∨ (W.heap.size ≤ d ∧ d < W1.heap.size)) (.slice (some ⟨q, qo, none⟩) Y.length rc)) : DrS B pb w (W1.setCell ⟨q, o, none⟩ v) sv n Y' q qo rc := by
  have hk : ∀ b x, b ≠ q → W.heap[b]? = some x → (W1.setCell ⟨q, o, none⟩ v).heap[b]? = some x := fun b x hb hx => by
    rw [Below.heap_setCell _ _ _ _ (by show b ≠ q; exact hb)]; exact heap_keptD hx hB
  have hs : (W1.setCell ⟨q, o, none⟩ v).heap.size = W1.heap.size := by simp [World.setCell]
  have hl2 := h.lt
  have hb2 := h.hB
  have := hB.size
  have hqp : pb ≠ q := fun e => by subst e; rcases hq with h9 | h9; exact hb2.2.1 h9; have := hb2.2.2; omega
  have hqs : w.heap.size ≠ q := fun e => by rcases hq with h9 | h9; have := hb2.1 _ h9; omega; omega
  refine ⟨hk _ _ hqs h.a, by rw [hl]; exact hk _ _ hqp h.b, ?_, frm_setN (h.fr.trans ⟨hB.os, hB.tape, hB.output, hB.size, fun b hb _ => hB.block b hb⟩) (hq.imp id (fun h => by omega)) _, by omega, hb2⟩
  rw [hl, hs]
  exact hO.mono (fun d hd => by
    rcases hd with (hd | hd) | hd
    · exact .inl hd
    · exact .inr ⟨hd.1, by omega⟩
    · exact .inr ⟨by omega, hd.2⟩)
def HelA (l : List Tb) (Y : List (List RowV)) (tb : Nat) (nm : List UInt8) (R : List RowV) (ca : Nat → Option Addr) (cq : Nat → Nat) (w : World) (e : Ending) (w' : World) : Prop := ∃ va vc, e = .returned (.slice va (heldL l Y tb nm).length vc) ∧ w'.ownsRow (w.heap.size + 1 + 1) 77 2 (.slice va (heldL l Y tb nm).length vc) (heldL l Y tb nm).length (fltC R ca cq (pks (heldP l Y nm) z0R R R.length)) ∧ Below w.heap.size w w'
set_option maxRecDepth 100000 in
set_option maxHeartbeats 12800000 in
theorem dropI (l : List Tb) (sa : Option Addr) (sc : Nat) (A : Nat → Prop) (X Y0 : List (List RowV)) (n : Int) (B : Nat → Prop) (pb q qo rc : Nat) (w : World) (hlo : (dTableS l).le maxLen) (ho : (dRowSS X).le 1048576) (hs : SchP l) (hf : FormP l ⟨X, n⟩) (hYr : Reach l X Y0) (hT : ∀ W, Frm B w W → Rd W A (dTableS l) (.slice sa l.length sc)) (hb : w.heap[pb]? = some (.cells #[.slice (some ⟨q, qo, none⟩) Y0.length rc, .int .i64 n] 32)) (hB : (∀ d, B d → d < w.heap.size) ∧ ¬ B pb) (hd : Own w (dRowSS Y0) B (.slice (some ⟨q, qo, none⟩) Y0.length rc)) :
    Calls Tryz.prog 46 #[.agg #[.slice sa l.length sc], .pointer (some ⟨pb, 0, none⟩)] w fun e w' => ∃ b Y', e = .returned (.bool b) ∧ PrD l X (totT Y0) b l.length Y' ∧ w'.heap[pb]? = some (.cells #[.slice (some ⟨q, qo, none⟩) Y'.length rc, .int .i64 n] 32) ∧ Own w' (dRowSS Y') (fun d => B d ∨ (w.heap.size ≤ d ∧ d < w'.heap.size)) (.slice (some ⟨q, qo, none⟩) Y'.length rc) ∧ Frm B w w' := by
  have hl4 : l.length ≤ 4 := hs.len.2
  have HX : Hid (X.length = l.length) := hf.1
  have hpl := (Array.getElem?_eq_some_iff.1 hb).1
  have HT : Hid (∀ W, Frm B w W → Rd W A (dTableS l) (.slice sa l.length sc)) := hT
  have HC : Hid (∀ (Y : List (List RowV)) (i : Nat) (hi : i < l.length) (hx : i < Y.length), Reach l X Y → ∀ (W : World) (B : Nat → Prop) (ra : Option Addr) (rq : Nat) (ca : Nat → Option Addr) (cq : Nat → Nat), Rd W A (dTableS l) (.slice sa l.length sc) → Rd W B (dRowSS Y) (.slice (some ⟨q, qo, none⟩) Y.length rc) → W.cell? ⟨q, qo + i, none⟩ = some (.slice ra Y[i].length rq) → (∀ m (hm : m < Y[i].length), ∃ rb ro, ra = some ⟨rb, ro, none⟩ ∧ W.cell? ⟨rb, ro + m * 2, none⟩ = some (.int .i64 Y[i][m].id) ∧ W.cell? ⟨rb, ro + m * 2 + 1, none⟩ = some (.slice (ca m) Y[i][m].cells.length (cq m))) → Calls Tryz.prog 78 #[.agg #[.slice sa l.length sc], .agg #[.slice (some ⟨q, qo, none⟩) Y.length rc, .int .i64 n], .int .i64 i] W (HelA l Y i l[i].nm Y[i] ca cq W)) := fun Y i hi hx hr W B ra rq ca cq h1 h2 h3 h4 => heldI l sa sc A ⟨Y, n⟩ q qo rc B i hi W hlo (D.le.mono (by unfold maxLen; omega) _ (Reach.le hr ho)) hs (Reach.form hr hf) h1 h2 hx ra rq ca cq h3 h4
  have HB0 : Hid (DrS B pb w (w.alloc (.cells #[(.slice sa l.length sc)] 37)) (.slice sa l.length sc) n Y0 q qo rc ∧ PrD l X (totT Y0) false 0 Y0) := ⟨⟨heap_newD _ _, heap_keptD hb (below_allocD _ _), (hd.later (below_allocD _ _)).mono (fun d h => .inl h), Frm.of_below (below_allocD _ _), by rw [size_allocD]; omega, hB.1, hB.2, hpl⟩, PrD.first hYr⟩
  clear hlo ho hs hf hYr hT hb hd
  have x0 := cell_at (o := 0) HB0.out.1.a rfl
  go_enter Tryz.func46, Tryz.ntmps46
  go_wp2_with fail
  clear x0
  go_loopw [5, 12] (fun v iv wr => ∃ (i : Nat) (b : Bool) (Y : List (List RowV)), i ≤ l.length ∧ iv = .int .i64 i ∧ v = .bool b ∧ Hid (DrS B pb w wr (.slice sa l.length sc) n Y q qo rc ∧ PrD l X (totT Y0) b i Y)) (fun _ iv _ => l.length - (intOf iv).toNat)
  case atStart => exact ⟨0, false, Y0, Nat.zero_le _, rfl, rfl, HB0.out⟩
  case round =>
    clear HB0
    obtain ⟨i, b, Y, hi, rfl, rfl, HW⟩ := hrel
    by_cases hil : i < l.length
    case neg =>
      have hid : decide ((i : Int) < (l.length : Int)) = false := by simp; omega
      have hie : i = l.length := by omega
      have HIE := Lib.hid hie
      clear hie
      go_wp2_with fail
      go_ret
      exact ⟨b, Y, rfl, by rw [← HIE.out]; exact HW.out.2, HW.out.1.b, HW.out.1.d.mono (fun d hd => hd.imp id (fun h => ⟨by omega, h.2⟩)), HW.out.1.fr⟩
    have hi1 : (i : Int) < (l.length : Int) := by omega
    have hYl : Y.length = l.length := by have h1 := HW.out.2.r.len; have h2 : X.length = l.length := HX.out; omega
    have hiY : i < Y.length := by omega
    have hi2 : (i : Int) < (Y.length : Int) := by omega
    have HYL := Lib.hid hYl
    clear hYl
    obtain ⟨tq, tf, ca, cc, ua, uc, hsa, hbi⟩ := tblAt (HT.out _ HW.out.1.fr) hil
    subst hsa
    obtain ⟨c0, c1, c2, c3, -, -⟩ := hbi _ (Below.refl _ _)
    have x0 := cell_at (o := 0) HW.out.1.a rfl
    have HRT : Hid (l[i].rt = true → PrD l X (totT Y0) b (i + 1) Y) := fun h => HW.out.2.root hil h
    have HPK : Hid (l[i].rt = false → PrD l X (totT Y0) (b || decide ((heldL l Y i l[i].nm).length < Y[i].length)) (i + 1) (Y.set i (heldL l Y i l[i].nm))) := fun h => HW.out.2.pick hil hiY h
    clear hbi
    generalize hrt : l[i].rt = rt at *
    cases rt
    case true =>
      have HBA : Hid (Below wr.heap.size wr (wr.alloc (.cells #[.string ⟨l[i].nm.toArray⟩, .slice ca l[i].cols.length cc, .slice ua l[i].uq.length uc, .bool true] 70))) := below_allocD _ _
      have z3 := cell_at (o := 3) (heap_newD wr (.cells #[.string ⟨l[i].nm.toArray⟩, .slice ca l[i].cols.length cc, .slice ua l[i].uq.length uc, .bool true] 70)) rfl
      have HN : Hid (DrS B pb w (wr.alloc (.cells #[.string ⟨l[i].nm.toArray⟩, .slice ca l[i].cols.length cc, .slice ua l[i].uq.length uc, .bool true] 70)) (.slice (some ⟨tq, tf, none⟩) l.length sc) n Y q qo rc ∧ PrD l X (totT Y0) b (i + 1) Y) := ⟨HW.out.1.later HBA.out, HRT.out rfl⟩
      clear HRT HPK hrt HBA HW
      go_wp2_with fail
      go_roundw
      case rel => exact ⟨i + 1, b, Y, by omega, by go_num, rfl, HN.out⟩
      case measure => simp [intOf]; omega
    case false =>
      have HBA : Hid (Below wr.heap.size wr (wr.alloc (.cells #[.string ⟨l[i].nm.toArray⟩, .slice ca l[i].cols.length cc, .slice ua l[i].uq.length uc, .bool false] 70))) := below_allocD _ _
      have z3 := cell_at (o := 3) (heap_newD wr (.cells #[.string ⟨l[i].nm.toArray⟩, .slice ca l[i].cols.length cc, .slice ua l[i].uq.length uc, .bool false] 70)) rfl
      have HV : Hid (DrS B pb w (wr.alloc (.cells #[.string ⟨l[i].nm.toArray⟩, .slice ca l[i].cols.length cc, .slice ua l[i].uq.length uc, .bool false] 70)) (.slice (some ⟨tq, tf, none⟩) l.length sc) n Y q qo rc) := HW.out.1.later HBA.out
      obtain ⟨la, lc, ka, kq, t0, tz, hBq, hV, hup⟩ := own_tab HV.out.d (fun d hd => HV.out.dlt hd) hiY
      have HUP := Lib.hid hup
      have HBQ := Lib.hid hBq
      have HPN := Lib.hid (HPK.out rfl)
      have HRC : Hid (Reach l X Y) := HW.out.2.r
      have CX : Hid (∀ W, Below (wr.alloc (.cells #[.string ⟨l[i].nm.toArray⟩, .slice ca l[i].cols.length cc, .slice ua l[i].uq.length uc, .bool false] 70)).heap.size (wr.alloc (.cells #[.string ⟨l[i].nm.toArray⟩, .slice ca l[i].cols.length cc, .slice ua l[i].uq.length uc, .bool false] 70)) W → W.cell? ⟨w.heap.size, 0, none⟩ = some (.slice (some ⟨tq, tf, none⟩) l.length sc) ∧ W.cell? ⟨pb, 0, none⟩ = some (.slice (some ⟨q, qo, none⟩) Y.length rc) ∧ W.cell? ⟨pb, 1, none⟩ = some (.int .i64 n) ∧ W.cell? ⟨q, qo + i, none⟩ = some (.slice la Y[i].length lc) ∧ W.frozen? ⟨q, qo + i, none⟩ = false) := fun W h => ⟨cell_at (o := 0) (HV.out.later h).a rfl, cell_at (o := 0) (HV.out.later h).b rfl, cell_at (o := 1) (HV.out.later h).b rfl, cell_keptS t0 h, by
        have h9 := h.block q (HV.out.dlt HBQ.out)
        rw [← tz]; simp only [World.frozen?, h9]⟩
      have HCK := Lib.hid (fun (W : World) (h : Below (wr.alloc (.cells #[.string ⟨l[i].nm.toArray⟩, .slice ca l[i].cols.length cc, .slice ua l[i].uq.length uc, .bool false] 70)).heap.size (wr.alloc (.cells #[.string ⟨l[i].nm.toArray⟩, .slice ca l[i].cols.length cc, .slice ua l[i].uq.length uc, .bool false] 70)) W) => HC.out Y i hil hiY HRC.out W _ la lc ka kq (HT.out W (HV.out.later h).fr) ((HV.out.later h).d.rd') (CX.out W h).2.2.2.1 (fun m hm => by obtain ⟨rb, ro, e, h1, h2⟩ := hV m hm; exact ⟨rb, ro, e, cell_keptS h1 h, cell_keptS h2 h⟩))
      have HPKS : Hid (heldL l Y i l[i].nm = (pks (heldP l Y l[i].nm) z0R Y[i] Y[i].length).map (fun m => Y[i].getD m z0R) ∧ (∀ m ∈ pks (heldP l Y l[i].nm) z0R Y[i] Y[i].length, m < Y[i].length) ∧ (pks (heldP l Y l[i].nm) z0R Y[i] Y[i].length).Nodup) := ⟨by rw [heldL_flt hiY]; exact pks_all _ _ _, fun m hm => pks_lt hm, List.nodup_range.filter _⟩
      have hll := held_len l Y i l[i].nm
      clear HRT HPK hrt HBA HW hup hBq hV t0 tz HRC
      go_wp2_with fail
      clear x0 c0 c1 c2 c3 z3
      refine wp_region_held_drew (S := (fun W => W.cell? ⟨w.heap.size, 0, none⟩ = some (.slice (some ⟨tq, tf, none⟩) l.length sc) ∧ W.cell? ⟨pb, 0, none⟩ = some (.slice (some ⟨q, qo, none⟩) Y.length rc) ∧ W.cell? ⟨pb, 1, none⟩ = some (.int .i64 n) ∧ W.cell? ⟨q, qo + i, none⟩ = some (.slice la Y[i].length lc) ∧ W.frozen? ⟨q, qo + i, none⟩ = false)) (by kernel_rfl) ?_ (fun hHeld => ?_)
      · (first | exact CX.out _ (Below.refl _ _) | exact CX.out _ (Below.refl _ _).drew | exact CX.out _ BW.out)
      refine tkB (i := 0) ?_
      refine tkB (i := 1) ?_
      refine tkB (i := 2) ?_
      refine tkB (i := 3) ?_
      refine tkB (i := 4) ?_
      refine tkR (i := 5) (fun K hK => ?_)
      go_simp
      (go_at_call 78; refine (HCK.out _ (Below.refl _ _).drew).mono ?_; rintro e w2 ⟨va, vc, rfl, hrow, hB⟩; have BW : Hid (Below (wr.alloc (.cells #[.string ⟨l[i].nm.toArray⟩, .slice ca l[i].cols.length cc, .slice ua l[i].uq.length uc, .bool false] 70)).heap.size (wr.alloc (.cells #[.string ⟨l[i].nm.toArray⟩, .slice ca l[i].cols.length cc, .slice ua l[i].uq.length uc, .bool false] 70)) w2) := (Below.refl _ _).drew.trans hB; have HROW := Lib.hid hrow; clear hrow hB)
      refine hK.out _ _ ?_ (fun hHeld => ?_)
      · (first | exact CX.out _ (Below.refl _ _) | exact CX.out _ (Below.refl _ _).drew | exact CX.out _ BW.out)
      clear hK K
      try simp only [Act.put, tkS]
      refine tkB (i := 6) ?_
      refine wpAnyH_done (by kernel_rfl) ?_ _
      have HN : Hid (∀ b', b' = (b || decide ((heldL l Y i l[i].nm).length < Y[i].length)) → DrS B pb w (w2.setCell ⟨q, qo + i, none⟩ (.slice va (heldL l Y i l[i].nm).length vc)) (.slice (some ⟨tq, tf, none⟩) l.length sc) n (Y.set i (heldL l Y i l[i].nm)) q qo rc ∧ PrD l X (totT Y0) b' (i + 1) (Y.set i (heldL l Y i l[i].nm))) := fun b' hb => by
        rw [hb]
        exact ⟨HV.out.cell BW.out HBQ.out (List.length_set ..) (HUP.out w2 _ _ _ va vc BW.out (by simp) HPKS.out.1 HPKS.out.2.1 HPKS.out.2.2 HROW.out), HPN.out⟩
      obtain ⟨d0, d1, d2, d3, d4⟩ := CX.out _ BW.out
      clear HUP HPN HCK HPKS HROW CX HV HBQ BW hll
      generalize heldL l Y i l[i].nm = hd at *
      generalize Y[i].length = yn at *
      cases b
      case false =>
        by_cases hlt : hd.length < yn
        case pos =>
          go_wp2_with fail
          go_roundw
          case rel => exact ⟨i + 1, _, Y.set i hd, by omega, by go_num, rfl, HN.out _ (by simp [hlt])⟩
          case measure => simp [intOf]; omega
        case neg =>
          go_wp2_with fail
          go_roundw
          case rel => exact ⟨i + 1, _, Y.set i hd, by omega, by go_num, rfl, HN.out _ (by simp [hlt])⟩
          case measure => simp [intOf]; omega
      case true =>
        go_wp2_with fail
        go_roundw
        case rel => exact ⟨i + 1, _, Y.set i hd, by omega, by go_num, rfl, HN.out _ (by simp)⟩
        case measure => simp [intOf]; omega
end Go.Proofs.YtngbhifafdbpkaaGreat
