import Derived.Test.YtngbhifafdbpkaaGreatZbl
import Derived.Test.YtngbhifafdbpkaaGreatZaq
import Derived.Test.YtngbhifafdbpkaaGreatZas
import Derived.Test.YtngbhifafdbpkaaGreatZbc
import Derived.Test.YtngbhifafdbpkaaGreatZbe
import Derived.Test.YtngbhifafdbpkaaGreatZbf
import Derived.Test.YtngbhifafdbpkaaGreatZbg
import Derived.Test.YtngbhifafdbpkaaGreatZbh
import Derived.Test.YtngbhifafdbpkaaGreatZbk
namespace Go.Proofs.YtngbhifafdbpkaaGreat
open Go.RowKit Go.Maps
set_option linter.unusedSimpArgs false
theorem atomsAt {w : World} {B : Nat → Prop} {l : List At} {da : Option Addr} {dq n : Nat} (h : Rd w B (dAtomS l) (.slice da l.length dq)) (hn : n < l.length) : ∃ ab ao, da = some ⟨ab, ao, none⟩ ∧ ∀ W, Below w.heap.size w W → W.cell? ⟨ab, ao + n * 3, none⟩ = some (.int .i64 l[n].k) ∧ W.cell? ⟨ab, ao + n * 3 + 1, none⟩ = some (.int .i64 l[n].n) ∧ W.cell? ⟨ab, ao + n * 3 + 2, none⟩ = some (.string ⟨l[n].t.toArray⟩) := by
  obtain ⟨b, off, rfl, -, hd⟩ := Rd.things (d := dAtom) (n := 3) h n hn
  obtain ⟨u0, q0, r0⟩ := hd 0 (by omega)
  obtain rfl : u0 = .int .i64 l[n].k := r0
  rw [Nat.add_zero] at q0
  obtain ⟨u1, q1, r1⟩ := hd 1 (by omega)
  obtain rfl : u1 = .int .i64 l[n].n := r1
  obtain ⟨u2, q2, r2⟩ := hd 2 (by omega)
  obtain rfl : u2 = .string ⟨l[n].t.toArray⟩ := r2
  exact ⟨b, off, rfl, fun W hB => ⟨cell_keptS q0 hB, cell_keptS q1 hB, cell_keptS q2 hB⟩⟩
theorem ptr_some {l : List RowV} {rb roff : Nat} {id : Int} : ∀ {k : Nat}, k ≤ l.length → (∃ m, ∃ h : m < l.length, m < k ∧ l[m].id = id) → ∃ p, ptrOf l rb roff k id = .pointer (some p)
  | 0, _, h => by obtain ⟨m, _, h, _⟩ := h; omega
  | k + 1, hk, h => by
    rw [ptrOf, getD_tab (by omega)]
    by_cases e : l[k].id = id
    · rw [if_pos e]; exact ⟨_, rfl⟩
    · rw [if_neg e]
      obtain ⟨m, hm, hmk, he⟩ := h
      refine ptr_some (by omega) ⟨m, hm, ?_, he⟩
      rcases Nat.lt_or_ge m k with h | h
      · exact h
      · have : m = k := by omega
        subst this; exact absurd he e
theorem zeroPS (w : World) : (zeroValue 122).run Tryz.prog w = .ok (.pointer none) w := by
  have h : (Tryz.prog.info? 122).map (fun i => i.zero) = some (some (.pointer none)) := by kernel_rfl
  obtain ⟨i, hi, hz⟩ := Option.map_eq_some_iff.1 h
  simp [zeroValue, typeInfo, hi, hz]
theorem lookS {w : World} {m n : Nat} {D : DataW Value} {l : List RowV} {rb roff : Nat} (hown : w.ownsMap Tryz.prog 3 ptrR m n D) (hs : ShM D l rb roff l.length) {id : Int} (hid : iOK id) : (Instr.lookup 95 (.map (some m)) (.int .i64 id) false).run Tryz.prog w = .ok (ptrOf l rb roff l.length id) w := by
  obtain ⟨v, ps, hrun, hv⟩ := hown.lookup (t := 95) intK Tryz.underlying95 (zeroPS w) (zd := .held (.pointer none)) (zp := []) rfl (keyOf_int_mk Tryz.underlying3 hid)
  rw [hs id] at hv
  simp only [ptrR, Option.some.injEq, Prod.mk.injEq, DataW.held.injEq] at hv
  rw [hrun, hv.1]
theorem owns_keptS {H : Type} {P : Program} {k : TypeId} {R : Value → Option (DataW H × List MemPlace)} {w w' : World} {b n : Nat} {D : DataW H} (h : w.ownsMap P k R b n D) (hB : Below w.heap.size w w') : w'.ownsMap P k R b n D := by
  have hlt := h.lt
  obtain ⟨es, clock, hb, F, hs, hD⟩ := h
  exact ⟨es, clock, (hB.block b hlt).trans hb, F, hs, hD⟩
theorem look_there {w : World} {m n : Nat} {D : DataW Value} {l : List RowV} {rb roff : Nat} (hown : w.ownsMap Tryz.prog 3 ptrR m n D) (hs : ShM D l rb roff l.length) {id : Int} (hid : iOK id) : (rplI l id = -1 ∧ ∀ W, Below w.heap.size w W → (Instr.lookup 95 (.map (some m)) (.int .i64 id) false).run Tryz.prog W = .ok (.pointer none) W) ∨ (¬ rplI l id = -1 ∧ ∃ p, ∀ W, Below w.heap.size w W → (Instr.lookup 95 (.map (some m)) (.int .i64 id) false).run Tryz.prog W = .ok (.pointer (some p)) W) := by
  rcases rpl_cases l id with ⟨hr, hno⟩ | ⟨k, hkl, hr, hke, -⟩
  · refine .inl ⟨hr, fun W h => ?_⟩
    rw [lookS (owns_keptS hown h) hs hid, ptr_none (Nat.le_refl _) hno]
  · obtain ⟨p, hp⟩ := ptr_some (rb := rb) (roff := roff) (Nat.le_refl l.length) ⟨k, hkl, hkl, hke⟩
    refine .inr ⟨by omega, p, fun W h => ?_⟩
    rw [lookS (owns_keptS hown h) hs hid, hp]
end Go.Proofs.YtngbhifafdbpkaaGreat
namespace Go.Proofs.YtngbhifafdbpkaaGreat
open Go.RowKit Go.Maps
set_option linter.unusedSimpArgs false
theorem bl_transU : ∀ x y z : List UInt8, Op.bytesLess x y = true → Op.bytesLess y z = true → Op.bytesLess x z = true
  | _, [], _, h, _ => by cases ‹List UInt8› <;> simp [Op.bytesLess] at h
  | _, _ :: _, [], _, h => by simp [Op.bytesLess] at h
  | [], _ :: _, _ :: _, _, _ => by simp [Op.bytesLess]
  | a :: r, b :: s, c :: t, h, k => by
    simp only [Op.bytesLess, Bool.or_eq_true, Bool.and_eq_true, decide_eq_true_eq, beq_iff_eq] at h k ⊢
    rcases h with h | ⟨h1, h2⟩
    · rcases k with k | ⟨k1, k2⟩
      · exact .inl (UInt8.lt_trans h k)
      · exact .inl (k1 ▸ h)
    · rcases k with k | ⟨k1, k2⟩
      · exact .inl (h1 ▸ k)
      · exact .inr ⟨h1.trans k1, bl_transU r s t h2 k2⟩
theorem up_ltU {l : List Tb} (hs : SchP l) : ∀ j i (hj : j < l.length) (hij : i < j), Op.bytesLess (l[i]'(by omega)).nm l[j].nm = true := by
  intro j
  induction j with
  | zero => intro i _ h; omega
  | succ j ih =>
    intro i hj hij
    have h1 := hs.up j hj
    by_cases e : i = j
    · subst e; exact h1
    · exact bl_transU _ _ _ (ih i (by omega) (by omega)) h1
theorem nm_uniqU {l : List Tb} (hs : SchP l) {i j : Nat} (hi : i < l.length) (hj : j < l.length) (e : l[i].nm = l[j].nm) : i = j := by
  rcases Nat.lt_trichotomy i j with h | h | h
  · have := up_ltU hs j i hj h; rw [e, bl_self] at this; cases this
  · exact h
  · have := up_ltU hs i j hi h; rw [e, bl_self] at this; cases this
theorem ref_exU {l : List Tb} (hs : SchP l) {i c : Nat} (hi : i < l.length) (hc : c < l[i].cols.length) (h4 : l[i].cols[c].k = 4) : ∃ j, ∃ hj : j < l.length, l[j].nm = l[i].cols[c].rf :=
  hs.ref i hi c hc ((col_ref4 ((tab_ofU (hs.tab i hi)).cols c hc).1).1 h4)
theorem colsAt {w : World} {B : Nat → Prop} {l : List Cl} {ca : Option Addr} {cc c : Nat} (h : Rd w B (dColumnS l) (.slice ca l.length cc)) (hc : c < l.length) : ∃ kb ko, ca = some ⟨kb, ko, none⟩ ∧ ∀ W, Below w.heap.size w W → W.cell? ⟨kb, ko + c * 8, none⟩ = some (.string ⟨l[c].nm.toArray⟩) ∧ W.cell? ⟨kb, ko + c * 8 + 1, none⟩ = some (.int .i64 l[c].k) ∧ W.cell? ⟨kb, ko + c * 8 + 2, none⟩ = some (.int .i64 l[c].mn) ∧ W.cell? ⟨kb, ko + c * 8 + 3, none⟩ = some (.int .i64 l[c].mx) ∧ W.cell? ⟨kb, ko + c * 8 + 4, none⟩ = some (.int .i64 l[c].lo) ∧ W.cell? ⟨kb, ko + c * 8 + 5, none⟩ = some (.int .i64 l[c].hi) ∧ W.cell? ⟨kb, ko + c * 8 + 6, none⟩ = some (.string ⟨l[c].rf.toArray⟩) ∧ W.cell? ⟨kb, ko + c * 8 + 7, none⟩ = some (.bool l[c].st) := by
  obtain ⟨b, off, rfl, -, hd⟩ := Rd.things (d := dColumn) (n := 8) h c hc
  obtain ⟨u0, q0, r0⟩ := hd 0 (by omega)
  obtain rfl : u0 = .string ⟨l[c].nm.toArray⟩ := r0
  rw [Nat.add_zero] at q0
  obtain ⟨u1, q1, r1⟩ := hd 1 (by omega)
  obtain rfl : u1 = .int .i64 l[c].k := r1
  obtain ⟨u2, q2, r2⟩ := hd 2 (by omega)
  obtain rfl : u2 = .int .i64 l[c].mn := r2
  obtain ⟨u3, q3, r3⟩ := hd 3 (by omega)
  obtain rfl : u3 = .int .i64 l[c].mx := r3
  obtain ⟨u4, q4, r4⟩ := hd 4 (by omega)
  obtain rfl : u4 = .int .i64 l[c].lo := r4
  obtain ⟨u5, q5, r5⟩ := hd 5 (by omega)
  obtain rfl : u5 = .int .i64 l[c].hi := r5
  obtain ⟨u6, q6, r6⟩ := hd 6 (by omega)
  obtain rfl : u6 = .string ⟨l[c].rf.toArray⟩ := r6
  obtain ⟨u7, q7, r7⟩ := hd 7 (by omega)
  obtain rfl : u7 = .bool l[c].st := r7
  exact ⟨b, off, rfl, fun W hB => ⟨cell_keptS q0 hB, cell_keptS q1 hB, cell_keptS q2 hB, cell_keptS q3 hB, cell_keptS q4 hB, cell_keptS q5 hB, cell_keptS q6 hB, cell_keptS q7 hB⟩⟩
end Go.Proofs.YtngbhifafdbpkaaGreat
namespace Go.Proofs.YtngbhifafdbpkaaGreat
open Go.RowKit
set_option linter.unusedSimpArgs false
noncomputable def heldP (l : List Tb) (Y : List (List RowV)) (nm : List UInt8) (r : RowV) : Bool := @decide (holds l Y nm ⟨4, r.id, []⟩) (Classical.propDecidable _)
theorem heldP_iff {l : List Tb} {Y : List (List RowV)} {nm : List UInt8} {r : RowV} : heldP l Y nm r = true ↔ strongN l Y nm ⟨4, r.id, []⟩ l.length ≠ 0 := by
  rw [strong_ne]
  unfold heldP
  exact ⟨fun h => @of_decide_eq_true _ (Classical.propDecidable _) h, fun h => @decide_eq_true _ (Classical.propDecidable _) h⟩
theorem heldL_flt {l : List Tb} {Y : List (List RowV)} {i : Nat} {nm : List UInt8} (h : i < Y.length) : heldL l Y i nm = Y[i].filter (heldP l Y nm) := by unfold heldL keepR; rw [getD_tab h]; rfl
def z0R : RowV := ⟨0, []⟩
def fltC (rows : List RowV) (ca : Nat → Option Addr) (cq : Nat → Nat) (ks : List Nat) : List Value := ks.flatMap (fun m => [.int .i64 (rows.getD m z0R).id, .slice (ca m) (rows.getD m z0R).cells.length (cq m)])
theorem fltC_app (rows : List RowV) (ca : Nat → Option Addr) (cq : Nat → Nat) (ks : List Nat) {k : Nat} (h : k < rows.length) : fltC rows ca cq (ks ++ [k]) = fltC rows ca cq ks ++ [.int .i64 rows[k].id, .slice (ca k) rows[k].cells.length (cq k)] := by
  unfold fltC
  rw [List.flatMap_append]
  simp [List.getElem?_eq_getElem h]
theorem boxE_kept {T1 T2 : TypeId} {w W W' : World} {c1 c2 : Array Value} (h : BoxE T1 T2 w W c1 c2) (hB : Below (w.heap.size + 1 + 1) W W') : BoxE T1 T2 w W' c1 c2 := by
  have h2 := (Array.getElem?_eq_some_iff.1 h.b).1
  exact ⟨(hB.block _ (by omega)).trans h.a, (hB.block _ (by omega)).trans h.b, h.bel.trans (hB.mono (by omega))⟩
set_option maxRecDepth 100000 in
set_option maxHeartbeats 6400000 in
theorem heldI (l : List Tb) (sa : Option Addr) (sc : Nat) (A : Nat → Prop) (x : StV) (xb xo : Nat) (xc : Nat) (B : Nat → Prop) (tb : Nat) (htb : tb < l.length) (w : World) (hlo : (dTableS l).le maxLen) (ho : (dRowSS x.tables).le maxLen) (hs : SchP l) (hf : FormP l x) (hT : Rd w A (dTableS l) (.slice sa l.length sc)) (hR : Rd w B (dRowSS x.tables) (.slice (some ⟨xb, xo, none⟩) x.tables.length xc)) (htx : tb < x.tables.length) (ra : Option Addr) (rq : Nat) (ca : Nat → Option Addr) (cq : Nat → Nat) (hc : w.cell? ⟨xb, xo + tb, none⟩ = some (.slice ra x.tables[tb].length rq)) (hV : ∀ m (hm : m < x.tables[tb].length), ∃ rb ro, ra = some ⟨rb, ro, none⟩ ∧ w.cell? ⟨rb, ro + m * 2, none⟩ = some (.int .i64 x.tables[tb][m].id) ∧ w.cell? ⟨rb, ro + m * 2 + 1, none⟩ = some (.slice (ca m) x.tables[tb][m].cells.length (cq m))) :
    Calls Tryz.prog 78 #[.agg #[.slice sa l.length sc], .agg #[.slice (some ⟨xb, xo, none⟩) x.tables.length xc, .int .i64 x.next], .int .i64 tb] w fun e w' => ∃ va vc, e = .returned (.slice va (heldL l x.tables tb l[tb].nm).length vc) ∧ w'.ownsRow (w.heap.size + 1 + 1) 77 2 (.slice va (heldL l x.tables tb l[tb].nm).length vc) (heldL l x.tables tb l[tb].nm).length (fltC x.tables[tb] ca cq (pks (heldP l x.tables l[tb].nm) z0R x.tables[tb] x.tables[tb].length)) ∧ Below w.heap.size w w' := by
  obtain ⟨iR, hiR⟩ : ∃ i, Tryz.prog.info? 77 = some i ∧ i.zero = some (.agg #[.int .i64 0, .slice none 0 0]) ∧ i.size = 2 ∧ i.bytes = 32 := infoRw2
  have HIR := Lib.hid hiR
  have hc6 : ∀ i (h : i < l.length), l[i].cols.length ≤ 1000 := fun i h => by have := (tab_ofU (hs.tab i h)).len.2; omega
  have hl4 : l.length ≤ 4 := hs.len.2
  have SC : Hid (∀ (id : Int) (W : World), BoxE 37 32 w W #[.slice sa l.length sc] #[.slice (some ⟨xb, xo, none⟩) x.tables.length xc, .int .i64 x.next] → Calls Tryz.prog 101 #[.agg #[.slice sa l.length sc], .agg #[.slice (some ⟨xb, xo, none⟩) x.tables.length xc, .int .i64 x.next], .int .i64 tb, .int .i64 id] W fun e w' => e = .returned (.int .i64 (strongN l x.tables l[tb].nm ⟨4, id, []⟩ l.length)) ∧ Below W.heap.size W w') := fun id W h => strongCountI l sa sc A x _ xc B tb htb id W hlo ho (by omega) hc6 hf (hT.later h.bel) (hR.later h.bel)
  have hsl : ∀ id, strongN l x.tables l[tb].nm ⟨4, id, []⟩ l.length ≤ l.length * (1000 * 12) := fun id => strongN_le _ _ hc6 (fun i h => (hf.2.2 i (by have := hf.1; omega) h).1) l.length
  have HSL := Lib.hid hsl
  have hrl : x.tables[tb].length ≤ 12 := (hf.2.2 tb htb htx).1
  have hti : (tb : Int) < (x.tables.length : Int) := by omega
  have HFL : Hid ((heldL l x.tables tb l[tb].nm).length = (pks (heldP l x.tables l[tb].nm) z0R x.tables[tb] x.tables[tb].length).length) := by
    show _ = _
    rw [heldL_flt htx, pks_all (heldP l x.tables l[tb].nm) z0R x.tables[tb], List.length_map]
  have HP : Hid (∀ k (hk : k < x.tables[tb].length), (strongN l x.tables l[tb].nm ⟨4, x.tables[tb][k].id, []⟩ l.length = 0 → pks (heldP l x.tables l[tb].nm) z0R x.tables[tb] (k + 1) = pks (heldP l x.tables l[tb].nm) z0R x.tables[tb] k) ∧ (strongN l x.tables l[tb].nm ⟨4, x.tables[tb][k].id, []⟩ l.length ≠ 0 → pks (heldP l x.tables l[tb].nm) z0R x.tables[tb] (k + 1) = pks (heldP l x.tables l[tb].nm) z0R x.tables[tb] k ++ [k])) := fun k hk => ⟨fun h => pks_no hk (by rw [Bool.eq_false_iff]; exact fun hp => heldP_iff.1 hp h), fun h => pks_yes hk (heldP_iff.2 h)⟩
  have HV : Hid (∀ m (hm : m < x.tables[tb].length), ∃ rb ro, ra = some ⟨rb, ro, none⟩ ∧ ∀ W, Below w.heap.size w W → W.cell? ⟨rb, ro + m * 2, none⟩ = some (.int .i64 x.tables[tb][m].id) ∧ W.cell? ⟨rb, ro + m * 2 + 1, none⟩ = some (.slice (ca m) x.tables[tb][m].cells.length (cq m))) := fun m hm => by
    obtain ⟨rb, ro, e, h1, h2⟩ := hV m hm
    exact ⟨rb, ro, e, fun W h => ⟨cell_keptS h1 h, cell_keptS h2 h⟩⟩
  have hb0 := boxE 37 32 w #[.slice sa l.length sc] #[.slice (some ⟨xb, xo, none⟩) x.tables.length xc, .int .i64 x.next]
  have y0 := cell_at (o := 0) hb0.b rfl
  have t0 := cell_keptS hc hb0.bel
  have HB0 := Lib.hid hb0
  generalize hnn : (heldL l x.tables tb l[tb].nm).length = nn at *
  clear hnn hb0 hsl hc hV hlo ho hs hf hT hR hc6 hiR
  have HP0 : Hid (pks (heldP l x.tables l[tb].nm) z0R x.tables[tb] 0 = []) := rfl
  generalize pks (heldP l x.tables l[tb].nm) z0R x.tables[tb] = P at *
  generalize x.tables[tb] = rows at *
  go_enter Tryz.func78, Tryz.ntmps78
  go_wp2_with fail
  clear y0 t0
  go_loopw [7, 16] (fun v i wr => ∃ k : Nat, k ≤ rows.length ∧ i = .int .i64 k ∧ ∃ (n : Nat) (va : Option Addr) (vc : Nat), v = .slice va n vc ∧ Hid (n = (P k).length ∧ n ≤ k ∧ wr.ownsRow (w.heap.size + 1 + 1) 77 2 (.slice va n vc) n (fltC rows ca cq (P k)) ∧ BoxE 37 32 w wr #[.slice sa l.length sc] #[.slice (some ⟨xb, xo, none⟩) x.tables.length xc, .int .i64 x.next])) (fun _ i _ => rows.length - (intOf i).toNat)
  case atStart => exact ⟨0, Nat.zero_le _, rfl, 0, none, 0, rfl, by rw [HP0.out]; rfl, Nat.le_refl _, by rw [HP0.out]; exact ⟨by simp [fltC], .inl ⟨rfl, rfl⟩⟩, HB0.out⟩
  case round =>
    obtain ⟨k, hk, rfl, n, va, vc, rfl, HW⟩ := hrel
    by_cases hkl : k < rows.length
    case neg =>
      have hkd : decide ((k : Int) < (rows.length : Int)) = false := by simp; omega
      have HE : Hid (k = rows.length) := by show k = _; omega
      go_wp2_with fail
      go_ret
      have e := HE.out
      subst e
      have e2 : n = nn := HW.out.1.trans HFL.out.symm
      subst e2
      exact ⟨va, vc, rfl, HW.out.2.2.1, HW.out.2.2.2.bel⟩
    have hkd : (k : Int) < (rows.length : Int) := by omega
    obtain ⟨rb, ro, rfl, hv⟩ := HV.out k hkl
    obtain ⟨u0, u1⟩ := hv _ HW.out.2.2.2.bel
    have hkn := HP.out k hkl
    have hfa := fltC_app rows ca cq (P k) hkl
    have hsb := HSL.out rows[k].id
    have HFA := Lib.hid hfa
    have HKN := Lib.hid hkn
    clear hfa hkn hv HP HV
    generalize rows[k] = y at *
    have HB1 : Hid (BoxE 37 32 w (wr.alloc (.cells #[.int .i64 y.id, .slice (ca k) y.cells.length (cq k)] 77)) #[.slice sa l.length sc] #[.slice (some ⟨xb, xo, none⟩) x.tables.length xc, .int .i64 x.next]) := HW.out.2.2.2.later (below_allocD _ _)
    have t0 := cell_at (o := 0) (heap_newD wr (.cells #[.int .i64 y.id, .slice (ca k) y.cells.length (cq k)] 77)) rfl
    have x0 := cell_at (o := 0) HB1.out.a rfl
    have y0 := cell_at (o := 0) HB1.out.b rfl
    have y1 := cell_at (o := 1) HB1.out.b rfl
    have SC1 := Lib.hid (SC.out y.id)
    generalize strongN l x.tables l[tb].nm ⟨4, y.id, []⟩ l.length = sn at *
    go_wp2_with fail
    refine (SC1.out _ (by first | exact HB1.out | exact HB1.out.drew)).mono ?_
    rintro e w2 ⟨rfl, hB⟩
    have HB2 : Hid (BoxE 37 32 w w2 #[.slice sa l.length sc] #[.slice (some ⟨xb, xo, none⟩) x.tables.length xc, .int .i64 x.next]) := by
      first
      | exact HB1.out.later hB
      | exact HB1.out.drew.later hB
    have HB3 : Hid (Below wr.heap.size wr w2) := by
      first
      | exact (below_allocD wr _).trans (hB.mono (below_allocD wr _).size)
      | exact (below_allocD wr _).drew.trans (hB.mono (below_allocD wr _).drew.size)
    have hn1 : w2.heap[wr.heap.size]? = some (.cells #[.int .i64 y.id, .slice (ca k) y.cells.length (cq k)] 77) := by
      first
      | exact heap_keptD (heap_newD wr _) hB
      | exact heap_keptD (w := (wr.alloc _).drew) (heap_newD wr _) hB
    have r0 := cell_at (o := 0) hn1 rfl
    have r1 := cell_at (o := 1) hn1 rfl
    clear hB hn1 t0 x0 y0 y1 u0 u1 SC1 HB1
    by_cases hs0 : sn = 0
    case pos =>
      subst hs0
      have HN : Hid (n = (P (k + 1)).length ∧ n ≤ k + 1 ∧ w2.ownsRow (w.heap.size + 1 + 1) 77 2 (.slice va n vc) n (fltC rows ca cq (P (k + 1))) ∧ BoxE 37 32 w w2 #[.slice sa l.length sc] #[.slice (some ⟨xb, xo, none⟩) x.tables.length xc, .int .i64 x.next]) := by
        show _ ∧ _
        rw [HKN.out.1 rfl]
        exact ⟨HW.out.1, by have := HW.out.2.1; omega, ownsRow_later HW.out.2.2.1 HB3.out, HB2.out⟩
      clear HKN HFA hsb
      go_wp2_with fail
      go_roundw
      case rel => exact ⟨k + 1, by omega, by go_num, n, va, vc, rfl, HN.out⟩
      case measure => simp [intOf]; omega
    have hs1 : 0 < sn := by omega
    have hrow := HW.out.2.2.1
    have hvb : ∀ q, Value.ownBlock (.slice va n vc) = some q → w.heap.size + 1 + 1 ≤ q := fun q hq => by
      rcases hrow.2 with ⟨e, -⟩ | ⟨g, cap, cur, e, hb, -⟩
      · rw [e] at hq; cases hq
      · rw [e] at hq
        simp only [Value.ownBlock, Option.some.injEq] at hq
        omega
    have hsz := (Array.getElem?_eq_some_iff.1 HB2.out.b).1
    obtain ⟨W2, hW2⟩ : ∃ W2, W2 = w2.alloc (.cells #[.int .i64 y.id, .slice (ca k) y.cells.length (cq k)] 77) := ⟨_, rfl⟩
    have bW2 : Below w2.heap.size w2 W2 := by rw [hW2]; exact below_allocD _ _
    have hn9 : W2.heap[w2.heap.size]? = some (.cells #[.int .i64 y.id, .slice (ca k) y.cells.length (cq k)] 77) := by rw [hW2]; exact heap_newD _ _
    have hrow2 := ownsRow_later (ownsRow_later hrow HB3.out) bW2
    obtain ⟨v', w5, hr5, hrow5, hg5, g5, hg5b, hg5c⟩ := run_append_own3 (P := Tryz.prog) W2 (w.heap.size + 1 + 1) 74 74 77 iR (.agg #[.int .i64 0, .slice none 0 0]) 2 32 Tryz.underlying74 HIR.out.1 HIR.out.2.1 HIR.out.2.2.1 HIR.out.2.2.2 rfl (by omega) _ n _ hrow2 ⟨w2.heap.size, 0, none⟩ 1 1 [.int .i64 y.id, .slice (ca k) y.cells.length (cq k)] rfl (fun j u hj => by
      rw [Addr.add_mid, Nat.zero_add]
      refine cell_at (o := j) hn9 ?_
      rcases j with _ | _ | j
      · simpa using hj
      · simpa using hj
      · simp at hj) (fun u hu => by simp only [List.mem_cons, List.mem_singleton, List.not_mem_nil, or_false] at hu; rcases hu with rfl | rfl <;> rfl) (by have := HW.out.2.1; unfold maxLen; omega) (by have := HW.out.2.1; omega) (by have := bW2.size; omega) (by omega)
    obtain ⟨g', cap', rfl⟩ : ∃ g' cap', v' = .slice (some ⟨g', 0, none⟩) (n + 1) cap' := by
      rcases hrow5.2 with ⟨-, h0⟩ | ⟨g', cp, cu, e, -⟩
      · omega
      · exact ⟨g', cp, e⟩
    have hbl : Below (w.heap.size + 1 + 1) W2 w5 := (Below.refl _ W2).grown hg5 (by have := bW2.size; omega) (fun q hq => hvb q hq)
    have HN : Hid (n + 1 = (P (k + 1)).length ∧ n + 1 ≤ k + 1 ∧ w5.ownsRow (w.heap.size + 1 + 1) 77 2 (.slice (some ⟨g', 0, none⟩) (n + 1) cap') (n + 1) (fltC rows ca cq (P (k + 1))) ∧ BoxE 37 32 w w5 #[.slice sa l.length sc] #[.slice (some ⟨xb, xo, none⟩) x.tables.length xc, .int .i64 x.next]) := by
      show _ ∧ _
      rw [HKN.out.2 hs0, HFA.out]
      exact ⟨by rw [List.length_append, ← HW.out.1]; rfl, by have := HW.out.2.1; omega, hrow5, boxE_kept (HB2.out.later bW2) hbl⟩
    have RUN := Lib.hid hr5
    rw [hW2] at RUN
    clear hrow hvb hsz bW2 hn9 hrow2 hr5 hrow5 hg5 hg5b hg5c hbl hW2 HKN HFA hs0
    go_wp2_with (at_builtin; go_must (refine wpList_append_is rfl (.tmp 27) (.tmp 29) 74 rfl _ _ rfl rfl _ _ RUN.out ?_))
    go_roundw
    case rel => exact ⟨k + 1, by omega, by go_num, n + 1, _, cap', rfl, HN.out⟩
    case measure => simp [intOf]; omega
end Go.Proofs.YtngbhifafdbpkaaGreat
