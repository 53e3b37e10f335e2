import Derived.Test.YtkncpfhblciplaaYbr
namespace Go.Proofs.Ytkncpfhblciplaa
open Go.RowKit
set_option linter.unusedSimpArgs false
theorem wd_none {s : List UInt8} {x : J} (h1 : ¬ (s = uuidW ∧ x.k = 2 ∧ inB 1 x.n 1000000 = true)) (h2 : ¬ (s = namedW ∧ x.k = 3)) (h3 : ¬ (s = setW ∧ x.k = 4)) {w w' : World} (hB : Below w.heap.size w w') : PtAns (wdA s x) (wdN s x) (wdL s x) w (.returned .nilIface) w' := by
  unfold wdA wdN wdL
  rw [if_neg h1, if_neg h2, if_neg h3]
  exact ⟨_, rfl, rfl, hB⟩
theorem wd_uuid {x : J} (h1 : x.k = 2) (h2 : inB 1 x.n 1000000 = true) {w w' : World} (hB : Below w.heap.size w w') : PtAns (wdA uuidW x) (wdN uuidW x) (wdL uuidW x) w (.returned (.iface 31 (.agg #[.int .i64 4, .int .i64 x.n, .string ⟨#[]⟩]))) w' := by
  unfold wdA
  rw [if_pos ⟨rfl, h1, h2⟩]
  exact ⟨_, rfl, rfl, hB⟩
theorem wd_named {x : J} (h1 : x.k = 3) {w w' : World} (hB : Below w.heap.size w w') : PtAns (wdA namedW x) (wdN namedW x) (wdL namedW x) w (.returned (.iface 137 (.string ⟨x.t.toArray⟩))) w' := by
  unfold wdA wdN
  rw [if_neg (fun h => absurd h.1 (by decide)), if_pos ⟨rfl, h1⟩]
  exact ⟨_, rfl, rfl, hB⟩
theorem wd_set {x : J} (h1 : x.k = 4) {w w' : World} {p : Nat} {c : Nat} (hp : PL w' p x.items.length x.items x.items.length) (hpp : w.heap.size ≤ p) (hB : Below w.heap.size w w') : PtAns (wdA setW x) (wdN setW x) (wdL setW x) w (.returned (.iface 135 (.slice (some ⟨p, 0, none⟩) x.items.length c))) w' := by
  unfold wdA wdN wdL
  rw [if_neg (fun h => absurd h.1 (by decide)), if_neg (fun h => absurd h.1 (by decide)), if_pos ⟨rfl, h1⟩]
  have hlt : p < w'.heap.size := by obtain ⟨arr, h1, -⟩ := hp; exact (Array.getElem?_eq_some_iff.1 h1).1
  exact ⟨_, rfl, ⟨_, _, rfl, hp.parts ⟨hpp, hlt⟩⟩, hB⟩
set_option maxRecDepth 100000 in
set_option maxHeartbeats 12800000 in
theorem wordedI (x : J) (ih : ∀ y ∈ x.items, PSaid y) : WSaid x := by
  intro s cs B w hz hr
  have HJ : Hid (RJ w B x cs) := hr
  rw [RJ_eq] at hr
  obtain ⟨ka, kc, ia, ic, rfl, -, -, hil, -, -, hjs⟩ := hr
  have HI : Hid (Jsons w B ia x.items) := hjs
  have HIH := Lib.hid ih
  have hsz := J.sz_eq x
  have hi20 : x.items.length ≤ 1048576 := by omega
  have HZ : Hid (∀ y ∈ x.items, y.sz ≤ 1048576) := fun y hy => Nat.le_trans (J.sz_item x y hy) hz
  clear hil hjs ih hsz hz HJ
  go_enter Try.func104, Try.ntmps104
  go_upto_region 1 with fail
  have hb := heap_new' w (.cells #[.int .i64 x.k, .int .i64 x.n, .string ⟨x.t.toArray⟩, .slice ka x.keys.length kc, .slice ia x.items.length ic] 28) rfl
  have HB0 : Hid (Below w.heap.size w (w.alloc (.cells #[.int .i64 x.k, .int .i64 x.n, .string ⟨x.t.toArray⟩, .slice ka x.keys.length kc, .slice ia x.items.length ic] 28)) ∧ (w.alloc (.cells #[.int .i64 x.k, .int .i64 x.n, .string ⟨x.t.toArray⟩, .slice ka x.keys.length kc, .slice ia x.items.length ic] 28)).heap[w.heap.size]? = some (.cells #[.int .i64 x.k, .int .i64 x.n, .string ⟨x.t.toArray⟩, .slice ka x.keys.length kc, .slice ia x.items.length ic] 28)) := ⟨(Below.refl _ _).alloc (Nat.le_refl _) _, hb⟩
  obtain ⟨W0, hW0⟩ : ∃ W, W = (w.alloc (.cells #[.int .i64 x.k, .int .i64 x.n, .string ⟨x.t.toArray⟩, .slice ka x.keys.length kc, .slice ia x.items.length ic] 28)) := ⟨_, rfl⟩
  rw [← hW0] at HB0 ⊢
  clear hW0 hb
  have x0 := cell_at (o := 0) HB0.out.2 rfl
  have x1 := cell_at (o := 1) HB0.out.2 rfl
  have x2 := cell_at (o := 2) HB0.out.2 rfl
  have x3 := cell_at (o := 3) HB0.out.2 rfl
  have x4 := cell_at (o := 4) HB0.out.2 rfl
  by_cases hu : s = uuidW
  case pos =>
    subst hu
    by_cases hk : x.k = 2
    case neg =>
      have kk : (x.k == 2) = false := by simpa using hk
      unfold uuidW
      go_wp2_with fail
      go_ret
      exact wd_none (s := uuidW) (fun h => hk h.2.1) (fun h => absurd h.1 (by decide)) (fun h => absurd h.1 (by decide)) HB0.out.1
    have kk : (x.k == 2) = true := by rw [hk]; rfl
    unfold uuidW
    go_wp2_with fail
    refine (idOKi x.n _).mono ?_
    rintro e w1 ⟨rfl, rfl⟩
    cases hi : inB 1 x.n 1000000
    · go_wp2_with fail
      go_ret
      exact wd_none (s := uuidW) (fun h => by rw [hi] at h; exact absurd h.2.2 (by simp)) (fun h => absurd h.1 (by decide)) (fun h => absurd h.1 (by decide)) HB0.out.1
    · go_wp2_with fail
      go_ret
      exact wd_uuid hk hi HB0.out.1
  by_cases hn : s = namedW
  case pos =>
    subst hn
    by_cases hk : x.k = 3
    case neg =>
      have kk : (x.k == 3) = false := by simpa using hk
      unfold namedW
      go_wp2_with fail
      go_ret
      exact wd_none (s := namedW) (fun h => absurd h.1 (by decide)) (fun h => hk h.2) (fun h => absurd h.1 (by decide)) HB0.out.1
    have kk : (x.k == 3) = true := by rw [hk]; rfl
    unfold namedW
    go_wp2_with fail
    go_ret
    exact wd_named hk HB0.out.1
  by_cases hs : s = setW
  case pos =>
    subst hs
    by_cases hk : x.k = 4
    case neg =>
      have kk : (x.k == 4) = false := by simpa using hk
      unfold setW
      go_wp2_with fail
      go_ret
      exact wd_none (s := setW) (fun h => absurd h.1 (by decide)) (fun h => absurd h.1 (by decide)) (fun h => hk h.2) HB0.out.1
    have kk : (x.k == 4) = true := by rw [hk]; rfl
    unfold setW
    have HK4 := Lib.hid hk; clear hk
    have hmk := run_mkParts x.items.length hi20 W0
    go_upto_region 7 with fail
    clear hmk x0 x1 x2 x3 x4
    obtain ⟨W1, hW1⟩ : ∃ W, W = W0.alloc (.cells (madeCells #[.nilIface] x.items.length) 20) := ⟨_, rfl⟩
    have HP0 : Hid (Below W0.heap.size W0 W1 ∧ PL W1 W0.heap.size x.items.length x.items 0) := by rw [hW1]; exact ⟨(Below.refl _ _).alloc (Nat.le_refl _) _, PL.start _ _ _⟩
    rw [← hW1]
    clear hW1
    have x0 := cell_at (o := 0) (heap_kept2 HB0.out.2 HP0.out.1) rfl
    have x1 := cell_at (o := 1) (heap_kept2 HB0.out.2 HP0.out.1) rfl
    have x2 := cell_at (o := 2) (heap_kept2 HB0.out.2 HP0.out.1) rfl
    have x3 := cell_at (o := 3) (heap_kept2 HB0.out.2 HP0.out.1) rfl
    have x4 := cell_at (o := 4) (heap_kept2 HB0.out.2 HP0.out.1) rfl
    go_wp2_with fail
    go_loopw [50] (fun iv wr => ∃ k : Nat, k ≤ x.items.length ∧ iv = .int .i64 (k : Int) ∧ Hid (Below W0.heap.size W0 wr ∧ PL wr W0.heap.size x.items.length x.items k)) (fun iv _ => x.items.length - (intOf iv).toNat)
    case atStart => exact ⟨0, Nat.zero_le _, rfl, HP0.out⟩
    case round =>
      obtain ⟨k, hkl, rfl, HL⟩ := hrel
      clear x0 x1 x2 x3 x4 HP0
      have x0 := cell_at (o := 0) (heap_kept2 HB0.out.2 HL.out.1) rfl
      have x1 := cell_at (o := 1) (heap_kept2 HB0.out.2 HL.out.1) rfl
      have x2 := cell_at (o := 2) (heap_kept2 HB0.out.2 HL.out.1) rfl
      have x3 := cell_at (o := 3) (heap_kept2 HB0.out.2 HL.out.1) rfl
      have x4 := cell_at (o := 4) (heap_kept2 HB0.out.2 HL.out.1) rfl
      by_cases hlt : k < x.items.length
      case pos =>
        have hki : (k : Int) < (x.items.length : Int) := by omega
        have f1 : IntKind.i64.wrap ((k : Int) + 1) = ((k + 1 : Nat) : Int) := by rw [IntKind.wrap_i64]; omega
        obtain ⟨b, off, kx, kcx, ix, icx, rfl, -, c0, c1, c2, c3, c4, hr⟩ := (HI.out.later (HB0.out.1.trans (HL.out.1.mono HB0.out.1.size))).item k hlt
        have PS : Hid (Calls Try.prog 86 #[.agg #[.int .i64 x.items[k].k, .int .i64 x.items[k].n, .string ⟨x.items[k].t.toArray⟩, .slice kx x.items[k].keys.length kcx, .slice ix x.items[k].items.length icx]] wr (PtAns (paA x.items[k]) (paN x.items[k]) (paL x.items[k]) wr)) := HIH.out _ (List.getElem_mem hlt) _ B wr (HZ.out _ (List.getElem_mem hlt)) hr
        clear hr
        generalize hy : x.items[k] = y at *
        have HY := Lib.hid hy
        clear hy
        go_wp2_with fail
        refine PS.out.mono ?_
        rintro e w3 ⟨v, rfl, hv, hB3⟩
        have HV : Hid (PV1 x.items[k] v) := by rw [show x.items[k] = y from HY.out]; exact hv.one
        have HL3 : Hid (Below W0.heap.size W0 w3 ∧ PL w3 W0.heap.size x.items.length x.items k) := ⟨HL.out.1.trans (hB3.mono HL.out.1.size), HL.out.2.later hB3⟩
        obtain ⟨⟨uo, hc⟩, hf⟩ := HL3.out.2.cell hlt
        have hv1 := hv.one
        clear hv hB3 PS HL c0 c1 c2 c3 c4 x0 x1 x2 x3 x4
        rcases hv1.shape with ⟨T, u, rfl⟩ | rfl
        · clear hv1
          go_wp2_with fail
          go_roundw
          case rel => exact ⟨k + 1, by omega, by go_num, HL3.out.1.setCell (by exact Nat.le_refl _) _, HL3.out.2.put hlt hlt HV.out⟩
          case measure => simp [intOf]; omega
        · clear hv1
          go_wp2_with fail
          go_roundw
          case rel => exact ⟨k + 1, by omega, by go_num, HL3.out.1.setCell (by exact Nat.le_refl _) _, HL3.out.2.put hlt hlt HV.out⟩
          case measure => simp [intOf]; omega
      have hkd : decide ((k : Int) < (x.items.length : Int)) = false := by simp; omega
      have hz : k = x.items.length := by omega
      subst hz
      go_wp2_with fail
      go_ret
      exact wd_set HK4.out HL.out.2 HB0.out.1.size (HB0.out.1.trans (HL.out.1.mono HB0.out.1.size))
  have su : (s == [117, 117, 105, 100]) = false := beq_eq_false_iff_ne.2 hu
  have sn : (s == [110, 97, 109, 101, 100, 45, 117, 117, 105, 100]) = false := beq_eq_false_iff_ne.2 hn
  have ss : (s == [115, 101, 116]) = false := beq_eq_false_iff_ne.2 hs
  go_wp2_with fail
  go_ret
  exact wd_none (fun h => hu h.1) (fun h => hn h.1) (fun h => hs h.1) HB0.out.1
end Go.Proofs.Ytkncpfhblciplaa
