import Derived.Test.YtmebbinolkohjaaGreatZbq
import Derived.Test.YtmebbinolkohjaaGreatZbs
import Derived.Test.YtmebbinolkohjaaGreatZat
namespace Go.Proofs.YtmebbinolkohjaaGreat
open Go.RowKit Go.Maps
set_option linter.unusedSimpArgs false
theorem atomsAt {w : World} {B : Nat → Prop} {l : List At} {da : Option Addr} {dq n : Nat} (h : Rd w B (dAtomS l) (.slice da l.length dq)) (hn : n < l.length) : ∃ ab ao, da = some ⟨ab, ao, none⟩ ∧ ∀ W, Below w.heap.size w W → W.cell? ⟨ab, ao + n * 3, none⟩ = some (.int .i64 l[n].k) ∧ W.cell? ⟨ab, ao + n * 3 + 1, none⟩ = some (.int .i64 l[n].n) ∧ W.cell? ⟨ab, ao + n * 3 + 2, none⟩ = some (.string ⟨l[n].t.toArray⟩) := by
  obtain ⟨b, off, rfl, -, hd⟩ := Rd.things (d := dAtom) (n := 3) h n hn
  obtain ⟨u0, q0, r0⟩ := hd 0 (by omega)
  obtain rfl : u0 = .int .i64 l[n].k := r0
  rw [Nat.add_zero] at q0
  obtain ⟨u1, q1, r1⟩ := hd 1 (by omega)
  obtain rfl : u1 = .int .i64 l[n].n := r1
  obtain ⟨u2, q2, r2⟩ := hd 2 (by omega)
  obtain rfl : u2 = .string ⟨l[n].t.toArray⟩ := r2
  exact ⟨b, off, rfl, fun W hB => ⟨cell_keptS q0 hB, cell_keptS q1 hB, cell_keptS q2 hB⟩⟩
def setP (s : List At) (dst : List RowV) : Prop := ∀ n (hn : n < s.length), ¬ rplI dst s[n].n = -1
def thereP (rows : List RowV) (c : Nat) (dst : List RowV) : Prop := ∀ k (hk : k < rows.length), setP (rows[k].cells.getD c []) dst
noncomputable def thereB (rows : List RowV) (c : Nat) (dst : List RowV) : Bool := @decide (thereP rows c dst) (Classical.propDecidable _)
theorem there_yes {rows : List RowV} {c : Nat} {dst : List RowV} (h : thereP rows c dst) : thereB rows c dst = true := by unfold thereB; exact @decide_eq_true _ (Classical.propDecidable _) h
theorem there_no {rows : List RowV} {c : Nat} {dst : List RowV} (h : ¬ thereP rows c dst) : thereB rows c dst = false := by unfold thereB; exact @decide_eq_false _ (Classical.propDecidable _) h
def refP (l : List Tb) (x : List (List RowV)) (i : Nat) (c : Nat) : Prop := ∀ (hi : i < l.length) (hx : i < x.length) (hc : c < l[i].cols.length), l[i].cols[c].k = 4 → ∀ j (hj : j < l.length) (hjx : j < x.length), l[j].nm = l[i].cols[c].rf → thereB x[i] c x[j] = true
noncomputable def refB (l : List Tb) (x : List (List RowV)) : Bool := @decide (∀ i, i < l.length → ∀ c, refP l x i c) (Classical.propDecidable _)
theorem ref_yes {l : List Tb} {x : List (List RowV)} (h : ∀ i, i < l.length → ∀ c, refP l x i c) : refB l x = true := by unfold refB; exact @decide_eq_true _ (Classical.propDecidable _) h
theorem ref_no {l : List Tb} {x : List (List RowV)} {i c : Nat} (hi : i < l.length) (h : ¬ refP l x i c) : refB l x = false := by unfold refB; exact @decide_eq_false _ (Classical.propDecidable _) (fun hn => h (hn i hi c))
theorem ptr_some {l : List RowV} {rb roff : Nat} {id : Int} : ∀ {k : Nat}, k ≤ l.length → (∃ m, ∃ h : m < l.length, m < k ∧ l[m].id = id) → ∃ p, ptrOf l rb roff k id = .pointer (some p)
  | 0, _, h => by obtain ⟨m, _, h, _⟩ := h; omega
  | k + 1, hk, h => by
    rw [ptrOf, getD_tab (by omega)]
    by_cases e : l[k].id = id
    · rw [if_pos e]; exact ⟨_, rfl⟩
    · rw [if_neg e]
      obtain ⟨m, hm, hmk, he⟩ := h
      refine ptr_some (by omega) ⟨m, hm, ?_, he⟩
      rcases Nat.lt_or_ge m k with h | h
      · exact h
      · have : m = k := by omega
        subst this; exact absurd he e
theorem zeroPS (w : World) : (zeroValue 93).run Tryz.prog w = .ok (.pointer none) w := by
  have h : (Tryz.prog.info? 93).map (fun i => i.zero) = some (some (.pointer none)) := by kernel_rfl
  obtain ⟨i, hi, hz⟩ := Option.map_eq_some_iff.1 h
  simp [zeroValue, typeInfo, hi, hz]
theorem lookS {w : World} {m n : Nat} {D : DataW Value} {l : List RowV} {rb roff : Nat} (hown : w.ownsMap Tryz.prog 3 ptrR m n D) (hs : ShM D l rb roff l.length) {id : Int} (hid : iOK id) : (Instr.lookup 99 (.map (some m)) (.int .i64 id) false).run Tryz.prog w = .ok (ptrOf l rb roff l.length id) w := by
  obtain ⟨v, ps, hrun, hv⟩ := hown.lookup (t := 99) intK Tryz.underlying99 (zeroPS w) (zd := .held (.pointer none)) (zp := []) rfl (keyOf_int_mk Tryz.underlying3 hid)
  rw [hs id] at hv
  simp only [ptrR, Option.some.injEq, Prod.mk.injEq, DataW.held.injEq] at hv
  rw [hrun, hv.1]
theorem owns_keptS {H : Type} {P : Program} {k : TypeId} {R : Value → Option (DataW H × List MemPlace)} {w w' : World} {b n : Nat} {D : DataW H} (h : w.ownsMap P k R b n D) (hB : Below w.heap.size w w') : w'.ownsMap P k R b n D := by
  have hlt := h.lt
  obtain ⟨es, clock, hb, F, hs, hD⟩ := h
  exact ⟨es, clock, (hB.block b hlt).trans hb, F, hs, hD⟩
theorem look_there {w : World} {m n : Nat} {D : DataW Value} {l : List RowV} {rb roff : Nat} (hown : w.ownsMap Tryz.prog 3 ptrR m n D) (hs : ShM D l rb roff l.length) {id : Int} (hid : iOK id) : (rplI l id = -1 ∧ ∀ W, Below w.heap.size w W → (Instr.lookup 99 (.map (some m)) (.int .i64 id) false).run Tryz.prog W = .ok (.pointer none) W) ∨ (¬ rplI l id = -1 ∧ ∃ p, ∀ W, Below w.heap.size w W → (Instr.lookup 99 (.map (some m)) (.int .i64 id) false).run Tryz.prog W = .ok (.pointer (some p)) W) := by
  rcases rpl_cases l id with ⟨hr, hno⟩ | ⟨k, hkl, hr, hke, -⟩
  · refine .inl ⟨hr, fun W h => ?_⟩
    rw [lookS (owns_keptS hown h) hs hid, ptr_none (Nat.le_refl _) hno]
  · obtain ⟨p, hp⟩ := ptr_some (rb := rb) (roff := roff) (Nat.le_refl l.length) ⟨k, hkl, hkl, hke⟩
    refine .inr ⟨by omega, p, fun W h => ?_⟩
    rw [lookS (owns_keptS hown h) hs hid, hp]
set_option maxRecDepth 100000 in
set_option maxHeartbeats 6400000 in
theorem cellsI (rows : List RowV) (ra : Option Addr) (rq : Nat) (B : Nat → Prop) (c : Nat) (dst : List RowV) (m mn : Nat) (D : DataW Value) (rb roff : Nat) (w : World) (hrl : rows.length ≤ 1000) (hc : ∀ k (h : k < rows.length), c < rows[k].cells.length) (ho : (dRowS rows).le maxLen) (hR : Rd w B (dRowS rows) (.slice ra rows.length rq)) (hown : w.ownsMap Tryz.prog 3 ptrR m mn D) (hs : ShM D dst rb roff dst.length) :
    Calls Tryz.prog 95 #[.slice ra rows.length rq, .int .i64 c, .map (some m)] w fun e w' => e = .returned (.bool (thereB rows c dst)) ∧ Below w.heap.size w w' := by
  have HR : Hid (∀ W, Below w.heap.size w W → Rd W B (dRowS rows) (.slice ra rows.length rq)) := fun W h => Rd.later hR h
  have HM : Hid (∀ W, Below w.heap.size w W → W.ownsMap Tryz.prog 3 ptrR m mn D) := fun W h => owns_keptS hown h
  have HO := Lib.hid (And.intro ho (And.intro hc hs))
  clear hR ho hc hs hown
  go_enter Tryz.func95, Tryz.ntmps95
  go_wp2_with fail
  go_loopw [12] (fun t wr => ∃ k : Nat, k ≤ rows.length ∧ t = .int .i64 k ∧ Hid ((∀ n (h : n < rows.length), n < k → setP (rows[n].cells.getD c []) dst) ∧ Below w.heap.size w wr)) (fun t _ => rows.length - (intOf t).toNat)
  case atStart => exact ⟨0, Nat.zero_le _, rfl, fun n _ h => absurd h (by omega), Below.refl _ _⟩
  case round =>
    obtain ⟨k, hk, rfl, HW⟩ := hrel
    generalize wr = wo at *
    by_cases hkl : k < rows.length
    case neg =>
      have hkd : decide ((k : Int) < (rows.length : Int)) = false := by simp; omega
      have HE := Lib.hid (there_yes (fun n h => HW.out.1 n h (by omega)))
      go_wp2_with fail
      go_ret
      exact ⟨ret_b HE.out.symm, HW.out.2⟩
    have hk1 : (k : Int) < (rows.length : Int) := by omega
    obtain ⟨qb, qo, ca, cq, hra, hrk⟩ := rowsAt (HR.out _ HW.out.2) hkl
    subst hra
    have hcl := HO.out.2.1 k hkl
    have hc1 : (c : Int) < (rows[k].cells.length : Int) := by omega
    obtain ⟨-, y1, y2⟩ := hrk _ (Below.refl _ _)
    obtain ⟨cb, co, da, dq, hca, hcc⟩ := cellsAt y2 hcl
    subst hca
    have z0 := (hcc _ (Below.refl _ _)).1
    have HDA : Hid (∀ W, Below wo.heap.size wo W → Rd W B (dAtomS rows[k].cells[c]) (.slice da rows[k].cells[c].length dq)) := fun W h => (hcc W h).2
    have HLA : Hid ((dAtomS rows[k].cells[c]).le maxLen) := (Ls_le.1 ((Ls_le.1 HO.out.1).2.2 k hkl 1 (by omega) : (dAtomSS rows[k].cells).le maxLen)).2.2 c hcl 0 (by omega)
    have hsl : rows[k].cells[c].length ≤ maxLen := (Ls_le.1 HLA.out).2.1
    unfold maxLen at hsl
    have HNX : Hid (setP rows[k].cells[c] dst → ∀ n (h : n < rows.length), n < k + 1 → setP (rows[n].cells.getD c []) dst) := fun he n h hn => by
      by_cases e : n = k
      · subst e; rw [getDA hcl]; exact he
      · exact HW.out.1 n h (by omega)
    have HNO : Hid (¬ setP rows[k].cells[c] dst → thereB rows c dst = false) := fun h => there_no (fun hn => h (by have := hn k hkl; rw [getDA hcl] at this; exact this))
    clear hrk hcc y2
    generalize rows[k].cells[c] = s at *
    generalize rows[k].cells.length = cl at *
    go_wp2_with fail
    clear y1 z0
    go_loopw [24] (fun t wr => ∃ n : Nat, n ≤ s.length ∧ t = .int .i64 n ∧ Hid ((∀ j (h : j < s.length), j < n → ¬ rplI dst s[j].n = -1) ∧ Below wo.heap.size wo wr)) (fun t _ => s.length - (intOf t).toNat)
    case atStart => exact ⟨0, Nat.zero_le _, rfl, fun n _ h => absurd h (by omega), Below.refl _ _⟩
    case round =>
      obtain ⟨n, hn, rfl, HV⟩ := hrel
      have HBO : Hid (Below w.heap.size w wr) := HW.out.2.trans (HV.out.2.mono HW.out.2.size)
      by_cases hnl : n < s.length
      case neg =>
        have hnd : decide ((n : Int) < (s.length : Int)) = false := by simp; omega
        have HN := Lib.hid (HNX.out (fun j h => HV.out.1 j h (by omega)))
        clear HNX HNO
        go_wp2_with fail
        go_roundw
        case rel => exact ⟨k + 1, by omega, by go_num, HN.out, HBO.out⟩
        case measure => simp [intOf]; omega
      have hn1 : (n : Int) < (s.length : Int) := by omega
      obtain ⟨ab, ao, hda, hat⟩ := atomsAt (HDA.out _ HV.out.2) hnl
      subst hda
      obtain ⟨a0, a1, a2⟩ := hat _ (Below.refl _ _)
      have hid : iOK s[n].n := (Ls_le.1 HLA.out).2.2 n hnl 1 (by omega)
      have HNN : Hid (¬ rplI dst s[n].n = -1 → ∀ j (h : j < s.length), j < n + 1 → ¬ rplI dst s[j].n = -1) := fun he j h hj => by
        by_cases e : j = n
        · subst e; exact he
        · exact HV.out.1 j h (by omega)
      have HNF : Hid (rplI dst s[n].n = -1 → thereB rows c dst = false) := fun h => HNO.out (fun hn => hn n hnl h)
      have HLK := Lib.hid (look_there (HM.out _ HBO.out) HO.out.2.2 hid)
      clear hat hid HNX HNO
      generalize s[n] = y at *
      obtain ⟨yk, yn, yt⟩ := y
      dsimp only at *
      have b1 := cell_at (o := 1) (heap_newD wr (.cells #[.int .i64 yk, .int .i64 yn, .string ⟨yt.toArray⟩] 87)) rfl
      have HBA : Hid (Below wr.heap.size wr (wr.alloc (.cells #[.int .i64 yk, .int .i64 yn, .string ⟨yt.toArray⟩] 87))) := below_allocD _ _
      rcases HLK.out with ⟨hr, hlk⟩ | ⟨hr, pp, hlk⟩
      · have hl := hlk _ HBA.out
        have HE := Lib.hid (HNF.out hr)
        clear hr hlk HNN HNF HLK
        go_wp2_with fail
        go_ret
        exact ⟨ret_b HE.out.symm, HBO.out.trans (HBA.out.mono HBO.out.size)⟩
      · have hl := hlk _ HBA.out
        have HN := Lib.hid (HNN.out hr)
        clear hr hlk HNN HNF HLK
        go_wp2_with fail
        go_roundw
        case rel => exact ⟨n + 1, by omega, by go_num, HN.out, HV.out.2.trans (HBA.out.mono HV.out.2.size)⟩
        case measure => simp [intOf]; omega
set_option maxRecDepth 100000 in
set_option maxHeartbeats 3200000 in
theorem findX (l : List Tb) (s : List UInt8) (a : Option Addr) (c : Nat) (A : Nat → Ad) (B : Nat → Prop) (w : World) (hl : l.length ≤ maxLen) (hS : Tabs w B a l A) (he : ∃ j, ∃ hj : j < l.length, l[j].nm = s) :
    Calls Tryz.prog 39 #[.agg #[.slice a l.length c], .string ⟨s.toArray⟩] w fun e w' => ∃ j : Nat, ∃ hj : j < l.length, l[j].nm = s ∧ e = .returned (.int .i64 j) ∧ Below w.heap.size w w' := by
  unfold maxLen at hl
  have HS : Hid (∀ W, Below w.heap.size w W → Tabs W B a l A) := fun W h => hS.later h
  have HX := Lib.hid (boxS w a l.length c)
  have HH := Lib.hid he
  clear hS he
  go_enter Tryz.func39, Tryz.ntmps39
  go_wp2_with fail
  go_loopw [5] (fun i wr => ∃ k : Nat, k ≤ l.length ∧ i = .int .i64 k ∧ Hid ((∀ m (h : m < l.length), m < k → l[m].nm ≠ s) ∧ BoxS w wr a l.length c)) (fun i _ => l.length - (intOf i).toNat)
  case atStart => exact ⟨0, Nat.zero_le _, rfl, fun m _ h => absurd h (by omega), HX.out⟩
  case round =>
    obtain ⟨k, hk, rfl, HW⟩ := hrel
    have x0 := HW.out.2.cell
    have hlt : k < l.length := by
      obtain ⟨j, hj, e⟩ := HH.out
      rcases Nat.lt_or_ge j k with h | h
      · exact absurd e (HW.out.1 j hj h)
      · omega
    have hki : (k : Int) < (l.length : Int) := by omega
    obtain ⟨b, off, rfl, -, hc⟩ := (HS.out _ HW.out.2.2).at k hlt
    have c0 := (hc k hlt).1
    clear hc
    by_cases he : l[k].nm = s
    · have HP := Lib.hid he
      rw [he] at c0
      clear he
      go_wp2_with fail
      go_ret
      exact ⟨k, hlt, HP.out, rfl, HW.out.2.2⟩
    · have HN : Hid (∀ m (h : m < l.length), m < k + 1 → l[m].nm ≠ s) := fun m h hm => by
        by_cases e : m = k
        · subst e; exact he
        · exact HW.out.1 m h (by omega)
      have hne : (l[k].nm == s) = false := by simpa using he
      clear he
      generalize l[k] = x at *
      go_wp2_with fail
      go_roundw
      case rel => exact ⟨k + 1, by omega, by go_num, HN.out, HW.out.2⟩
      case measure => simp [intOf]; omega
end Go.Proofs.YtmebbinolkohjaaGreat
