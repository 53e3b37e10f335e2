import Derived.Test.YtgpoigkfoliflaaGreatDoorZbg
import Derived.Test.YtgpoigkfoliflaaGreatDoorZTk
namespace Go.Proofs.YtgpoigkfoliflaaGreatDoor
open Go.RowKit
set_option linter.unusedSimpArgs false
theorem mutL_join {c : MutV} {d : List At} (h : c.fn = 6) : mutL c d = some (joinL d c.val) := by unfold mutL; rw [if_pos h]
theorem mutL_minus {c : MutV} {d : List At} (h : c.fn = 7) : mutL c d = some (minusA d c.val) := by unfold mutL; rw [if_neg (by omega), if_pos h]
theorem mutL_num {c : MutV} {d : List At} (h : c.fn ≤ 5) (hn : numO c.fn (val0 c) d = true) : mutL c d = some (numA c.fn (val0 c) d) := by unfold mutL; rw [if_neg (by omega), if_neg (by omega), if_pos hn]
theorem mutL_none {c : MutV} {d : List At} (h : c.fn ≤ 5) (hn : numO c.fn (val0 c) d = false) : mutL c d = none := by unfold mutL; rw [if_neg (by omega), if_neg (by omega), if_neg (by simp [hn])]
def OO (w0 W : World) (a : Option Addr) (o : List At) : Prop := OwnAts W (fun b => w0.heap.size ≤ b ∧ b < W.heap.size) a o ∧ Below w0.heap.size w0 W
theorem OO.later {w0 W W' : World} {a : Option Addr} {o : List At} (h : OO w0 W a o) (hB : Below W.heap.size W W') : OO w0 W' a o := ⟨(h.1.later hB).same (fun _ _ => rfl) (fun _ hb => ⟨hb.1, Nat.lt_of_lt_of_le hb.2 hB.size⟩), h.2.trans (hB.mono h.2.size)⟩
theorem OO.ats {w0 W : World} {a : Option Addr} {o : List At} (h : OO w0 W a o) : Ats W (· < W.heap.size) a o := h.1.ats.same (fun _ _ => rfl) (fun _ hb => hb.2)
theorem OO.ans2 {w w0 W : World} {a : Option Addr} {o : List At} (h : OO w0 W a o) (hb : Below w.heap.size w w0) (cp : Nat) (c : Int) : AAns2 w o c (.returned (.tuple #[.slice a o.length cp, .int .i64 c])) W := ⟨a, cp, rfl, h.1.same (fun _ _ => rfl) (fun _ hb' => ⟨Nat.le_trans hb.size hb'.1, hb'.2⟩), hb.trans (h.2.mono hb.size)⟩
theorem AI.oo {w0 W : World} {B : Nat} {v : Value} {l : List At} (h : AI w0 B W v l) : ∃ a cp, v = .slice a l.length cp ∧ OO w0 W a l := by
  obtain ⟨a, c, e, ho, hB⟩ := h.ans
  exact ⟨a, c, Ending.returned.inj e, ho, hB⟩
theorem OO.since {w0 W0 W : World} {a : Option Addr} {o : List At} (h : OO W0 W a o) (hb : Below w0.heap.size w0 W0) : OO w0 W a o := ⟨h.1.same (fun _ _ => rfl) (fun _ hb' => ⟨Nat.le_trans hb.size hb'.1, hb'.2⟩), hb.trans (h.2.mono hb.size)⟩
set_option maxRecDepth 100000 in
set_option maxHeartbeats 12800000 in
theorem mutateS (x : Cl) (d : List At) (c : MutV) (da : Option Addr) (dc : Nat) (va : Option Addr) (vc : Nat) (S : Nat) (w : World) (h : CanM x d c) (hw : S ≤ w.heap.size) (hD : Ats w (· < S) da d) (hV : Ats w (· < S) va c.val) :
    Calls Tryz.prog 51 #[.agg #[.string ⟨x.nm.toArray⟩, .int .i64 x.k, .int .i64 x.mn, .int .i64 x.mx, .int .i64 x.lo, .int .i64 x.hi, .string ⟨x.rf.toArray⟩, .bool x.st], .slice da d.length dc, .agg #[.string ⟨c.col.toArray⟩, .int .i64 c.fn, .slice va c.val.length vc]] w (AAns2 w (mutP x d c).2 (mutP x d c).1) := by
  have HC := Lib.hid h
  have HD : Hid (∀ W, Below w.heap.size w W → Ats W (· < S) da d) := fun W h => hD.below (h.mono hw)
  have HV : Hid (∀ W, Below w.heap.size w W → Ats W (· < S) va c.val) := fun W h => hV.below (h.mono hw)
  have HW := Lib.hid hw
  have hb := boxE 39 49 w #[.string ⟨x.nm.toArray⟩, .int .i64 x.k, .int .i64 x.mn, .int .i64 x.mx, .int .i64 x.lo, .int .i64 x.hi, .string ⟨x.rf.toArray⟩, .bool x.st] #[.string ⟨c.col.toArray⟩, .int .i64 c.fn, .slice va c.val.length vc]
  obtain ⟨w0, hw0⟩ : ∃ w0, w0 = ((w.alloc (.cells #[.string ⟨x.nm.toArray⟩, .int .i64 x.k, .int .i64 x.mn, .int .i64 x.mx, .int .i64 x.lo, .int .i64 x.hi, .string ⟨x.rf.toArray⟩, .bool x.st] 39)).alloc (.cells #[.string ⟨c.col.toArray⟩, .int .i64 c.fn, .slice va c.val.length vc] 49)) := ⟨_, rfl⟩
  have AF : Hid (AI w0 w0.heap.size (w0.alloc (.cells #[] 55)) (.slice (some ⟨w0.heap.size, 0, none⟩) 0 0) []) := AI.first w0
  have HW0 := Lib.hid hw0
  rw [← hw0] at hb
  have HB0 := Lib.hid hb
  have KB : Hid (∀ W, Below w0.heap.size w0 W → BoxE 39 49 w W #[.string ⟨x.nm.toArray⟩, .int .i64 x.k, .int .i64 x.mn, .int .i64 x.mx, .int .i64 x.lo, .int .i64 x.hi, .string ⟨x.rf.toArray⟩, .bool x.st] #[.string ⟨c.col.toArray⟩, .int .i64 c.fn, .slice va c.val.length vc]) := fun W h => HB0.out.later h
  have FT : Hid (∀ (o : List At) (a : Option Addr) (cp : Nat) (W : World), o.length ≤ 1048576 → OO w0 W a o → Calls Tryz.prog 70 #[.agg #[.string ⟨x.nm.toArray⟩, .int .i64 x.k, .int .i64 x.mn, .int .i64 x.mx, .int .i64 x.lo, .int .i64 x.hi, .string ⟨x.rf.toArray⟩, .bool x.st], .slice a o.length cp] W fun e w' => e = .returned (.int .i64 (fitC x o)) ∧ OO w0 w' a o) := fun o a cp W hl ho => (fitsS x o a cp W.heap.size W (by unfold maxLen; omega) (Nat.le_refl _) ho.ats).mono (fun e w' ⟨he, hB⟩ => ⟨he, ho.later hB⟩)
  have hd8 := h.d8
  have hv8 := h.v8
  clear h hw hD hV hb hw0
  by_cases h6 : c.fn = 6
  case pos =>
    have ML : Hid (mutL c d = some (joinL d c.val)) := mutL_join h6
    have HJ : Hid (∀ W, Below w.heap.size w W → Calls Tryz.prog 71 #[.slice da d.length dc, .slice va c.val.length vc] W fun e w' => ∃ v B, e = .returned v ∧ AI W B w' v (joinL d c.val)) := fun W h => joinA d c.val da va dc vc S W (by omega) (by omega) (Nat.le_trans HW.out h.size) (HD.out W h) (HV.out W h)
    have hjl : (joinL d c.val).length ≤ 1048576 := by have := join_len d c.val; omega
    have AF2 := AF
    rw [HW0.out] at AF2
    have KB2 := KB.out _ AF.out.bel
    rw [HW0.out] at KB2
    have x0 := cell_at (o := 0) KB2.a rfl
    have x1 := cell_at (o := 1) KB2.a rfl
    have x2 := cell_at (o := 2) KB2.a rfl
    have x3 := cell_at (o := 3) KB2.a rfl
    have x4 := cell_at (o := 4) KB2.a rfl
    have x5 := cell_at (o := 5) KB2.a rfl
    have x6 := cell_at (o := 6) KB2.a rfl
    have x7 := cell_at (o := 7) KB2.a rfl
    have y0 := cell_at (o := 0) KB2.b rfl
    have y1 := cell_at (o := 1) KB2.b rfl
    have y2 := cell_at (o := 2) KB2.b rfl
    clear KB2
    have e6 : (c.fn == 6) = true := by simpa using h6
    clear h6
    go_enter Tryz.func51, Tryz.ntmps51
    go_wp2_with fail
    rw [← HW0.out]
    refine (HJ.out _ (HB0.out.bel.trans (AF.out.bel.mono HB0.out.bel.size))).mono ?_
    rintro e w1 ⟨v1, B1, rfl, hai⟩
    obtain ⟨oa, ocp, rfl, hoo⟩ := (hai.base AF.out.bel).oo
    have H1 := Lib.hid hoo
    clear hai hoo AF2
    clear x0 x1 x2 x3 x4 x5 x6 x7 y0 y1 y2
    have hk := KB.out w1 H1.out.2
    have x0 := cell_at (o := 0) hk.a rfl
    have x1 := cell_at (o := 1) hk.a rfl
    have x2 := cell_at (o := 2) hk.a rfl
    have x3 := cell_at (o := 3) hk.a rfl
    have x4 := cell_at (o := 4) hk.a rfl
    have x5 := cell_at (o := 5) hk.a rfl
    have x6 := cell_at (o := 6) hk.a rfl
    have x7 := cell_at (o := 7) hk.a rfl
    have y0 := cell_at (o := 0) hk.b rfl
    have y1 := cell_at (o := 1) hk.b rfl
    have y2 := cell_at (o := 2) hk.b rfl
    clear hk
    have HFC := Lib.hid (FT.out (joinL d c.val) oa ocp _ (hjl) H1.out)
    by_cases hf : fitC x (joinL d c.val) = 0
    case neg =>
      have HP := Lib.hid (mutP_no ML.out hf)
      have hne : (fitC x (joinL d c.val) != 0) = true := by simpa using hf
      clear hf
      go_wp2_with fail
      refine HFC.out.mono ?_
      rintro e w9 ⟨rfl, hoo⟩
      have H9 := Lib.hid hoo
      clear hoo
      clear x0 x1 x2 x3 x4 x5 x6 x7 y0 y1 y2
      go_wp2_with fail
      go_ret2
      rw [HP.out]
      exact AAns2.none rfl ((HB0.out.bel.trans (H9.out.2.mono HB0.out.bel.size)).alloc (HB0.out.bel.trans (H9.out.2.mono HB0.out.bel.size)).size _)
    have HP := Lib.hid (mutP_fit ML.out hf)
    rw [hf] at HFC
    clear hf
    go_wp2_with fail
    refine HFC.out.mono ?_
    rintro e w9 ⟨rfl, hoo⟩
    have H9 := Lib.hid hoo
    clear hoo
    clear x0 x1 x2 x3 x4 x5 x6 x7 y0 y1 y2
    go_wp2_with fail
    go_ret2
    rw [HP.out]
    exact H9.out.ans2 HB0.out.bel ocp 0
  by_cases h7 : c.fn = 7
  case pos =>
    have ML : Hid (mutL c d = some (minusA d c.val)) := mutL_minus h7
    have HJ : Hid (∀ W, Below w.heap.size w W → Calls Tryz.prog 72 #[.slice da d.length dc, .slice va c.val.length vc] W (AAns W (minusA d c.val))) := fun W h => minusS d c.val da va dc vc S W (by omega) (by unfold maxLen; omega) (Nat.le_trans HW.out h.size) (HD.out W h) (HV.out W h)
    have hjl : (minusA d c.val).length ≤ 1048576 := by have := List.length_filter_le (fun x => !hasB c.val x) d; unfold minusA; omega
    have AF2 := AF
    rw [HW0.out] at AF2
    have KB2 := KB.out _ AF.out.bel
    rw [HW0.out] at KB2
    have x0 := cell_at (o := 0) KB2.a rfl
    have x1 := cell_at (o := 1) KB2.a rfl
    have x2 := cell_at (o := 2) KB2.a rfl
    have x3 := cell_at (o := 3) KB2.a rfl
    have x4 := cell_at (o := 4) KB2.a rfl
    have x5 := cell_at (o := 5) KB2.a rfl
    have x6 := cell_at (o := 6) KB2.a rfl
    have x7 := cell_at (o := 7) KB2.a rfl
    have y0 := cell_at (o := 0) KB2.b rfl
    have y1 := cell_at (o := 1) KB2.b rfl
    have y2 := cell_at (o := 2) KB2.b rfl
    clear KB2
    have e6 : (c.fn == 6) = false := by simpa using h6
    have e7 : (c.fn == 7) = true := by simpa using h7
    clear h6 h7
    go_enter Tryz.func51, Tryz.ntmps51
    go_wp2_with fail
    rw [← HW0.out]
    refine (HJ.out _ (HB0.out.bel.trans (AF.out.bel.mono HB0.out.bel.size))).mono ?_
    rintro e w1 ⟨oa, ocp, rfl, ho, hB⟩
    have H1 : Hid (OO w0 w1 oa (minusA d c.val)) := OO.since ⟨ho, hB⟩ AF.out.bel
    clear ho hB AF2
    clear x0 x1 x2 x3 x4 x5 x6 x7 y0 y1 y2
    have hk := KB.out w1 H1.out.2
    have x0 := cell_at (o := 0) hk.a rfl
    have x1 := cell_at (o := 1) hk.a rfl
    have x2 := cell_at (o := 2) hk.a rfl
    have x3 := cell_at (o := 3) hk.a rfl
    have x4 := cell_at (o := 4) hk.a rfl
    have x5 := cell_at (o := 5) hk.a rfl
    have x6 := cell_at (o := 6) hk.a rfl
    have x7 := cell_at (o := 7) hk.a rfl
    have y0 := cell_at (o := 0) hk.b rfl
    have y1 := cell_at (o := 1) hk.b rfl
    have y2 := cell_at (o := 2) hk.b rfl
    clear hk
    have HFC := Lib.hid (FT.out (minusA d c.val) oa ocp _ (hjl) H1.out)
    by_cases hf : fitC x (minusA d c.val) = 0
    case neg =>
      have HP := Lib.hid (mutP_no ML.out hf)
      have hne : (fitC x (minusA d c.val) != 0) = true := by simpa using hf
      clear hf
      go_wp2_with fail
      refine HFC.out.mono ?_
      rintro e w9 ⟨rfl, hoo⟩
      have H9 := Lib.hid hoo
      clear hoo
      clear x0 x1 x2 x3 x4 x5 x6 x7 y0 y1 y2
      go_wp2_with fail
      go_ret2
      rw [HP.out]
      exact AAns2.none rfl ((HB0.out.bel.trans (H9.out.2.mono HB0.out.bel.size)).alloc (HB0.out.bel.trans (H9.out.2.mono HB0.out.bel.size)).size _)
    have HP := Lib.hid (mutP_fit ML.out hf)
    rw [hf] at HFC
    clear hf
    go_wp2_with fail
    refine HFC.out.mono ?_
    rintro e w9 ⟨rfl, hoo⟩
    have H9 := Lib.hid hoo
    clear hoo
    clear x0 x1 x2 x3 x4 x5 x6 x7 y0 y1 y2
    go_wp2_with fail
    go_ret2
    rw [HP.out]
    exact H9.out.ans2 HB0.out.bel ocp 0
  have e6 : (c.fn == 6) = false := by simpa using h6
  have e7 : (c.fn == 7) = false := by simpa using h7
  have h5 : c.fn ≤ 5 := by have := HC.out.fn; omega
  have H5 := Lib.hid h5
  obtain ⟨hxk, hv1⟩ := HC.out.num h5
  have HDK : Hid (Dk 1 d) := by have := HC.out.dk; rw [hxk] at this; exact this
  have HVK : Hid (Dk 1 c.val) := by have := HC.out.vk; rw [hxk] at this; exact this
  obtain ⟨vb, vo, rfl, -, -⟩ := (HV.out _ (Below.refl _ _)).item 0 (by omega)
  have VC : Hid (∀ W, Below w.heap.size w W → W.cell? ⟨vb, vo + 1, none⟩ = some (.int .i64 (val0 c))) := fun W h => by
    have h1 := ((HV.out W h).three 0 (by omega)).2.1
    rw [Nat.zero_mul, Nat.add_zero] at h1
    rw [h1]; unfold val0; rw [at_getD (by omega)]
  have HVN : Hid (Num (val0 c)) := by
    unfold val0; rw [at_getD (by omega)]; exact HVK.out.n (List.getElem_mem _)
  have hv0 : 0 < c.val.length := by omega
  have HV1 := Lib.hid hv1
  clear h6 h7 h5 hxk hv1
  have MN : Hid (numO c.fn (val0 c) d = false → mutL c d = none) := fun h => mutL_none H5.out h
  have MY : Hid (numO c.fn (val0 c) d = true → mutL c d = some (numA c.fn (val0 c) d)) := fun h => mutL_num H5.out h
  have NS : Hid (∀ (m : Nat) (hm : m < d.length) (W : World), Calls Tryz.prog 73 #[.int .i64 c.fn, .int .i64 d[m].n, .int .i64 (val0 c)] W fun e w' => e = .returned (.tuple #[.int .i64 (numV c.fn d[m].n (val0 c)), .bool (numK c.fn d[m].n (val0 c))]) ∧ w' = W) := fun m hm W => numS c.fn d[m].n (val0 c) W ⟨HC.out.fn.1, H5.out⟩ (HDK.out.n (List.getElem_mem hm)) HVN.out
  have AS : Hid (AI w0 w0.heap.size (w0.alloc (.cells #[] 55)) (.slice (some ⟨w.heap.size + 1 + 1, 0, none⟩) 0 0) []) := by
    have h := AF.out
    have e : w0.heap.size = w.heap.size + 1 + 1 := by rw [HW0.out]; simp
    show AI _ _ _ _ _
    rw [e] at h ⊢
    exact h
  have AF2 := AF
  rw [HW0.out] at AF2
  have KB2 := KB.out _ AF.out.bel
  rw [HW0.out] at KB2
  have x0 := cell_at (o := 0) KB2.a rfl
  have x1 := cell_at (o := 1) KB2.a rfl
  have x2 := cell_at (o := 2) KB2.a rfl
  have x3 := cell_at (o := 3) KB2.a rfl
  have x4 := cell_at (o := 4) KB2.a rfl
  have x5 := cell_at (o := 5) KB2.a rfl
  have x6 := cell_at (o := 6) KB2.a rfl
  have x7 := cell_at (o := 7) KB2.a rfl
  have y0 := cell_at (o := 0) KB2.b rfl
  have y1 := cell_at (o := 1) KB2.b rfl
  have y2 := cell_at (o := 2) KB2.b rfl
  clear KB2
  go_enter Tryz.func51, Tryz.ntmps51
  go_wp2_with fail
  rw [← HW0.out]
  clear AF2
  clear x0 x1 x2 x3 x4 x5 x6 x7 y0 y1 y2
  go_loopw [8, 9] (fun o i wr => ∃ m : Nat, ∃ vo B, m ≤ d.length ∧ i = .int .i64 m ∧ vo = o ∧ Hid (AI w0 B wr vo (numA c.fn (val0 c) (d.take m)) ∧ ∀ q (h : q < d.length), q < m → numK c.fn d[q].n (val0 c) = true)) (fun _ i _ => d.length - (intOf i).toNat)
  case atStart => exact ⟨0, _, _, Nat.zero_le _, rfl, rfl, AS.out, fun q _ h => absurd h (by omega)⟩
  case round =>
    obtain ⟨m, vv, B, hm, rfl, rfl, HI⟩ := hrel
    by_cases hlt : m < d.length
    case neg =>
      have hmi : decide ((m : Int) < (d.length : Int)) = false := by simp; omega
      have HN := Lib.hid (MY.out (numO_yes (fun q h => HI.out.2 q h (by omega))))
      obtain ⟨oa, ocp, rfl, hoo⟩ := HI.out.1.oo
      have he : d.take m = d := List.take_of_length_le (by omega)
      rw [he] at hoo ⊢
      have H1 := Lib.hid hoo
      clear hoo he
      have hjl : (numA c.fn (val0 c) d).length ≤ 1048576 := by have h1 := numA_len c.fn (val0 c) d d.length (Nat.le_refl _); rw [List.take_of_length_le (Nat.le_refl _)] at h1; omega
      have hk := KB.out wr H1.out.2
      have x0 := cell_at (o := 0) hk.a rfl
      have x1 := cell_at (o := 1) hk.a rfl
      have x2 := cell_at (o := 2) hk.a rfl
      have x3 := cell_at (o := 3) hk.a rfl
      have x4 := cell_at (o := 4) hk.a rfl
      have x5 := cell_at (o := 5) hk.a rfl
      have x6 := cell_at (o := 6) hk.a rfl
      have x7 := cell_at (o := 7) hk.a rfl
      have y0 := cell_at (o := 0) hk.b rfl
      have y1 := cell_at (o := 1) hk.b rfl
      have y2 := cell_at (o := 2) hk.b rfl
      clear hk
      have HFC := Lib.hid (FT.out (numA c.fn (val0 c) d) oa ocp _ (hjl) H1.out)
      by_cases hf : fitC x (numA c.fn (val0 c) d) = 0
      case neg =>
        have HP := Lib.hid (mutP_no HN.out hf)
        have hne : (fitC x (numA c.fn (val0 c) d) != 0) = true := by simpa using hf
        clear hf
        go_wp2_with fail
        refine HFC.out.mono ?_
        rintro e w9 ⟨rfl, hoo⟩
        have H9 := Lib.hid hoo
        clear hoo
        clear x0 x1 x2 x3 x4 x5 x6 x7 y0 y1 y2
        go_wp2_with fail
        go_ret2
        rw [HP.out]
        exact AAns2.none rfl ((HB0.out.bel.trans (H9.out.2.mono HB0.out.bel.size)).alloc (HB0.out.bel.trans (H9.out.2.mono HB0.out.bel.size)).size _)
      have HP := Lib.hid (mutP_fit HN.out hf)
      rw [hf] at HFC
      clear hf
      go_wp2_with fail
      refine HFC.out.mono ?_
      rintro e w9 ⟨rfl, hoo⟩
      have H9 := Lib.hid hoo
      clear hoo
      clear x0 x1 x2 x3 x4 x5 x6 x7 y0 y1 y2
      go_wp2_with fail
      go_ret2
      rw [HP.out]
      exact H9.out.ans2 HB0.out.bel ocp 0
    have hmi : (m : Int) < (d.length : Int) := by omega
    obtain ⟨db, dof, rfl, -, -⟩ := (HD.out _ (Below.refl _ _)).item m hlt
    have CX : Hid (∀ W, Below w0.heap.size w0 W → W.cell? ⟨w.heap.size + 1, 1, none⟩ = some (.int .i64 c.fn) ∧ W.cell? ⟨w.heap.size + 1, 2, none⟩ = some (.slice (some ⟨vb, vo, none⟩) c.val.length vc) ∧ W.cell? ⟨db, dof + m * 3 + 1, none⟩ = some (.int .i64 d[m].n) ∧ W.cell? ⟨vb, vo + 1, none⟩ = some (.int .i64 (val0 c))) := fun W h => ⟨cell_at (o := 1) (KB.out W h).b rfl, cell_at (o := 2) (KB.out W h).b rfl, ((HD.out W (HB0.out.bel.trans (h.mono HB0.out.bel.size))).three m hlt).2.1, VC.out W (HB0.out.bel.trans (h.mono HB0.out.bel.size))⟩
    have NM := Lib.hid (NS.out m hlt)
    have HSN : Hid (numA c.fn (val0 c) (d.take (m + 1)) = putL (numA c.fn (val0 c) (d.take m)) ⟨1, numR c.fn d[m].n (val0 c), []⟩) := numA_snoc _ _ d m hlt
    have HNO : Hid (numK c.fn d[m].n (val0 c) = false → mutL c d = none) := fun h => MN.out (numO_no hlt h)
    have HNX : Hid (numK c.fn d[m].n (val0 c) = true → ∀ q (h : q < d.length), q < m + 1 → numK c.fn d[q].n (val0 c) = true) := fun he q h hq => by
      by_cases e : q = m
      · subst e; exact he
      · exact HI.out.2 q h (by omega)
    have HVR : Hid (numK c.fn d[m].n (val0 c) = true → numV c.fn d[m].n (val0 c) = numR c.fn d[m].n (val0 c)) := fun h => by
      unfold numK at h; simp only [Bool.and_eq_true, Bool.not_eq_true'] at h
      unfold numV; rw [h.1]; rfl
    have hal := numA_len c.fn (val0 c) d m hm
    generalize d[m] = y at *
    have hx := HI.out.1.bel
    go_wp2_with fail
    refine wp_region_held_drew (S := (fun W => W.cell? ⟨w.heap.size + 1, 1, none⟩ = some (.int .i64 c.fn) ∧ W.cell? ⟨w.heap.size + 1, 2, none⟩ = some (.slice (some ⟨vb, vo, none⟩) c.val.length vc) ∧ W.cell? ⟨db, dof + m * 3 + 1, none⟩ = some (.int .i64 y.n) ∧ W.cell? ⟨vb, vo + 1, none⟩ = some (.int .i64 (val0 c)))) (by kernel_rfl) ?_ (fun hHeld => ?_)
    · (first | exact CX.out _ hx | exact CX.out _ hx.drew)
    refine wpAnyH_take (i := 0) (v := ?_) rfl (by kernel_rfl) (by kernel_rfl) (by kernel_rfl) (fun _ _ _ h => h) (Or.inl ⟨by kernel_rfl, ?_⟩) (by assumption) ?_
    rotate_left
    · (intro wS hSw; (try dsimp only at hSw); go_simp <;> with_reducible rfl)
    try simp only [Act.put, tkS]
    refine wpAnyH_take (i := 1) (v := ?_) rfl (by kernel_rfl) (by kernel_rfl) (by kernel_rfl) (fun _ _ _ h => h) (Or.inl ⟨by kernel_rfl, ?_⟩) (by assumption) ?_
    rotate_left
    · (intro wS hSw; (try dsimp only at hSw); go_simp <;> with_reducible rfl)
    try simp only [Act.put, tkS]
    refine wpAnyH_take (i := 2) (v := ?_) rfl (by kernel_rfl) (by kernel_rfl) (by kernel_rfl) (fun _ _ _ h => h) (Or.inl ⟨by kernel_rfl, ?_⟩) (by assumption) ?_
    rotate_left
    · (intro wS hSw; (try dsimp only at hSw); go_simp <;> with_reducible rfl)
    try simp only [Act.put, tkS]
    refine wpAnyH_take (i := 3) (v := ?_) rfl (by kernel_rfl) (by kernel_rfl) (by kernel_rfl) (fun _ _ _ h => h) (Or.inl ⟨by kernel_rfl, ?_⟩) (by assumption) ?_
    rotate_left
    · (intro wS hSw; (try dsimp only at hSw); go_simp <;> with_reducible rfl)
    try simp only [Act.put, tkS]
    refine wpAnyH_take (i := 4) (v := ?_) rfl (by kernel_rfl) (by kernel_rfl) (by kernel_rfl) (fun _ _ _ h => h) (Or.inl ⟨by kernel_rfl, ?_⟩) (by assumption) ?_
    rotate_left
    · (intro wS hSw; (try dsimp only at hSw); go_simp <;> with_reducible rfl)
    try simp only [Act.put, tkS]
    refine wpAnyH_take (i := 5) (v := ?_) rfl (by kernel_rfl) (by kernel_rfl) (by kernel_rfl) (fun _ _ _ h => h) (Or.inl ⟨by kernel_rfl, ?_⟩) (by assumption) ?_
    rotate_left
    · (intro wS hSw; (try dsimp only at hSw); go_simp <;> with_reducible rfl)
    try simp only [Act.put, tkS]
    refine wpAnyH_take (i := 6) (v := ?_) rfl (by kernel_rfl) (by kernel_rfl) (by kernel_rfl) (fun _ _ _ h => h) (Or.inl ⟨by kernel_rfl, ?_⟩) (by assumption) ?_
    rotate_left
    · (intro wS hSw; (try dsimp only at hSw); go_simp <;> with_reducible rfl)
    try simp only [Act.put, tkS]
    refine wpAnyH_take (i := 7) (v := ?_) rfl (by kernel_rfl) (by kernel_rfl) (by kernel_rfl) (fun _ _ _ h => h) (Or.inl ⟨by kernel_rfl, ?_⟩) (by assumption) ?_
    rotate_left
    · (intro wS hSw; (try dsimp only at hSw); go_simp <;> with_reducible rfl)
    try simp only [Act.put, tkS]
    refine wpAnyH_take (i := 8) (v := ?_) rfl (by kernel_rfl) (by kernel_rfl) (by kernel_rfl) (fun _ _ _ h => h) (Or.inl ⟨by kernel_rfl, ?_⟩) (by assumption) ?_
    rotate_left
    · (intro wS hSw; (try dsimp only at hSw); go_simp <;> with_reducible rfl)
    try simp only [Act.put, tkS]
    refine wpAnyH_take (i := 9) (v := ?_) rfl (by kernel_rfl) (by kernel_rfl) (by kernel_rfl) (fun _ _ _ h => h) (Or.inl ⟨by kernel_rfl, ?_⟩) (by assumption) ?_
    rotate_left
    · (intro wS hSw; (try dsimp only at hSw); go_simp <;> with_reducible rfl)
    try simp only [Act.put, tkS]
    refine wpAnyH_take (i := 10) (v := ?_) rfl (by kernel_rfl) (by kernel_rfl) (by kernel_rfl) (fun _ _ _ h => h) (Or.inl ⟨by kernel_rfl, ?_⟩) (by assumption) ?_
    rotate_left
    · (intro wS hSw; (try dsimp only at hSw); go_simp <;> with_reducible rfl)
    try simp only [Act.put, tkS]
    refine wpAnyH_take (i := 11) (v := ?_) rfl (by kernel_rfl) (by kernel_rfl) (by kernel_rfl) (fun _ _ _ h => h) (Or.inl ⟨by kernel_rfl, ?_⟩) (by assumption) ?_
    rotate_left
    · (intro wS hSw; (try dsimp only at hSw); go_simp <;> with_reducible rfl)
    try simp only [Act.put, tkS]
    refine wpAnyH_ready (rs := [12]) (by kernel_rfl) (by simp) (AllReadyH.cons rfl (fun K hK => ?_) AllReadyH.nil)
    go_simp
    (go_at_call 73; (with_reducible refine (NM.out _).mono ?_); rintro e w1 ⟨rfl, rfl⟩)
    refine hK.out _ _ ?_ (fun hHeld => ?_)
    · (first | exact CX.out _ hx | exact CX.out _ hx.drew)
    clear hK K
    try simp only [Act.put, tkS]
    refine wpAnyH_take (i := 13) (v := ?_) rfl (by kernel_rfl) (by kernel_rfl) (by kernel_rfl) (fun _ _ _ h => h) (Or.inl ⟨by kernel_rfl, ?_⟩) (by assumption) ?_
    rotate_left
    · (intro wS hSw; (try dsimp only at hSw); go_simp <;> with_reducible rfl)
    try simp only [Act.put, tkS]
    refine wpAnyH_take (i := 14) (v := ?_) rfl (by kernel_rfl) (by kernel_rfl) (by kernel_rfl) (fun _ _ _ h => h) (Or.inl ⟨by kernel_rfl, ?_⟩) (by assumption) ?_
    rotate_left
    · (intro wS hSw; (try dsimp only at hSw); go_simp <;> with_reducible rfl)
    try simp only [Act.put, tkS]
    refine wpAnyH_take (i := 15) (v := ?_) rfl (by kernel_rfl) (by kernel_rfl) (by kernel_rfl) (fun _ _ _ h => h) (Or.inl ⟨by kernel_rfl, ?_⟩) (by assumption) ?_
    rotate_left
    · (intro wS hSw; (try dsimp only at hSw); go_simp <;> with_reducible rfl)
    try simp only [Act.put, tkS]
    refine wpAnyH_take (i := 16) (v := ?_) rfl (by kernel_rfl) (by kernel_rfl) (by kernel_rfl) (fun _ _ _ h => h) (Or.inl ⟨by kernel_rfl, ?_⟩) (by assumption) ?_
    rotate_left
    · (intro wS hSw; (try dsimp only at hSw); go_simp <;> with_reducible rfl)
    try simp only [Act.put, tkS]
    refine wpAnyH_take (i := 17) (v := ?_) rfl (by kernel_rfl) (by kernel_rfl) (by kernel_rfl) (fun _ _ _ h => h) (Or.inl ⟨by kernel_rfl, ?_⟩) (by assumption) ?_
    rotate_left
    · (intro wS hSw; (try dsimp only at hSw); go_simp <;> with_reducible rfl)
    try simp only [Act.put, tkS]
    refine wpAnyH_done (by kernel_rfl) ?_ _
    have HID : Hid (AI w0 B wr.drew vv (numA c.fn (val0 c) (d.take m))) := HI.out.1.on (Below.refl _ _).drew
    cases hk : numK c.fn y.n (val0 c)
    case false =>
      have HP := Lib.hid (mutP_none (x := x) (HNO.out hk))
      clear hk HNO HNX HVR hx
      go_wp2_with fail
      go_ret2
      rw [HP.out]
      exact AAns2.none rfl ((HB0.out.bel.trans (HID.out.bel.mono HB0.out.bel.size)).alloc (HB0.out.bel.trans (HID.out.bel.mono HB0.out.bel.size)).size _)
    have HN := Lib.hid (HNX.out hk)
    rw [HVR.out hk]
    clear hk HNO HNX HVR hx
    obtain ⟨g, cp, rfl, hgc, hat⟩ := HID.out.open
    generalize hz : (⟨1, numR c.fn y.n (val0 c), []⟩ : At) = z at *
    have HZ : Hid (z.k = 1 ∧ z.n = numR c.fn y.n (val0 c) ∧ z.t = []) := by rw [← hz]; exact ⟨rfl, rfl, rfl⟩
    clear hz
    have HP : Hid (∃ E : Ending → World → Prop, Calls Tryz.prog 60 #[.slice (some ⟨g, 0, none⟩) (numA c.fn (val0 c) (d.take m)).length cp, .agg #[.int .i64 z.k, .int .i64 z.n, .string ⟨z.t.toArray⟩]] wr.drew E ∧ ∀ e w', E e w' → ∃ v B, e = .returned v ∧ AI w0 B w' v (numA c.fn (val0 c) (d.take (m + 1)))) := by
      cases hh : hasB (numA c.fn (val0 c) (d.take m)) z
      · exact ⟨_, putS _ z g 0 cp wr.drew.heap.size wr.drew (by omega) (Nat.le_refl _) hat hgc hh, fun e w' ⟨v, B', he, hai⟩ => ⟨v, B', he, (hai.base HID.out.bel).cast (by rw [HSN.out]; unfold putL; rw [hh]; rfl)⟩⟩
      · exact ⟨_, putS1 _ z _ cp wr.drew.heap.size wr.drew (by omega) (Nat.le_refl _) hat hh, fun e w' ⟨he, hb⟩ => ⟨_, B, he, (HID.out.on hb).cast (by rw [HSN.out]; unfold putL; rw [hh]; rfl)⟩⟩
    obtain ⟨E, hE, hE2⟩ := HP.out
    rw [HZ.out.1, HZ.out.2.1, HZ.out.2.2] at hE
    have HE := Lib.hid (And.intro hE hE2)
    clear hE hE2 HP hat hgc hal
    generalize (numA c.fn (val0 c) (d.take m)).length = nn at *
    go_wp2_with fail
    refine HE.out.1.mono ?_
    intro e w2 he
    obtain ⟨v2, B2, rfl, hai⟩ := HE.out.2 e w2 he
    have H2 := Lib.hid hai
    clear he hai
    go_wp2_with fail
    go_roundw
    case rel => exact ⟨m + 1, v2, B2, by omega, by go_num, rfl, H2.out, HN.out⟩
    case measure => simp [intOf]; omega
end Go.Proofs.YtgpoigkfoliflaaGreatDoor
