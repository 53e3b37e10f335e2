import Derived.Test.YtngbhifafdbpkaaGreatZaz
import Derived.Test.YtngbhifafdbpkaaGreatZTk
namespace Go.Proofs.YtngbhifafdbpkaaGreat
open Go.RowKit
set_option linter.unusedSimpArgs false
def cellAtN (rows : List RowV) (i c : Nat) : List At := (rows.getD i rowZ).cells.getD c []
def setsN (rows : List RowV) (c : Nat) (a : At) (k : Nat) : Nat := sumN k (fun i => if hasB (cellAtN rows i c) a = true then 1 else 0)
theorem setsN_le (rows : List RowV) (c : Nat) (a : At) : ∀ k, setsN rows c a k ≤ k
  | 0 => Nat.le_refl _
  | k + 1 => by
    have := setsN_le rows c a k
    unfold setsN at this ⊢
    rw [sumN_succ]
    split <;> omega
theorem setsN_succ (rows : List RowV) (c : Nat) (a : At) (k : Nat) : setsN rows c a (k + 1) = setsN rows c a k + (if hasB (cellAtN rows k c) a = true then 1 else 0) := by
  unfold setsN
  rw [sumN_succ]
theorem cellAtN_at {rows : List RowV} {i c : Nat} (hi : i < rows.length) (hc : c < rows[i].cells.length) : cellAtN rows i c = rows[i].cells[c] := by
  unfold cellAtN
  simp [List.getD_eq_getElem?_getD, List.getElem?_eq_getElem hi, List.getElem?_eq_getElem hc]
set_option maxRecDepth 100000 in
set_option maxHeartbeats 6400000 in
theorem setsWithI (rows : List RowV) (ra : Option Addr) (rc : Nat) (B : Nat → Prop) (c : Nat) (a : At) (w : World) (ho : (dRowS rows).le maxLen) (hl : rows.length ≤ 1000) (hcc : ∀ i (h : i < rows.length), c < rows[i].cells.length) (hR : Rd w B (dRowS rows) (.slice ra rows.length rc)) :
    Calls Tryz.prog 123 #[.slice ra rows.length rc, .int .i64 c, .agg #[.int .i64 a.k, .int .i64 a.n, .string ⟨a.t.toArray⟩]] w fun e w' => e = .returned (.int .i64 (setsN rows c a rows.length)) ∧ Below w.heap.size w w' := by
  have HL : Hid (∀ W, Below w.heap.size w W → Rd W B (Ls 2 dRow rows) (.slice ra rows.length rc)) := fun W h => Rd.later hR h
  have HO := Lib.hid (And.intro ho hcc)
  have HX := Lib.hid (boxD 84 w #[.int .i64 a.k, .int .i64 a.n, .string ⟨a.t.toArray⟩])
  have HSL := Lib.hid (setsN_le rows c a)
  clear ho hcc hR
  go_enter Tryz.func123, Tryz.ntmps123
  go_wp2_with fail
  go_loopw [7, 11] (fun n i wr => ∃ k : Nat, k ≤ rows.length ∧ i = .int .i64 k ∧ ∃ s : Nat, n = .int .i64 s ∧ Hid (s = setsN rows c a k ∧ BoxD 84 w wr #[.int .i64 a.k, .int .i64 a.n, .string ⟨a.t.toArray⟩])) (fun _ i _ => rows.length - (intOf i).toNat)
  case atStart => exact ⟨0, Nat.zero_le _, rfl, 0, rfl, rfl, HX.out⟩
  case round =>
    obtain ⟨k, hk, rfl, s, rfl, HW⟩ := hrel
    have hsk : s ≤ 1000 := by have := HSL.out k; rw [← HW.out.1] at this; omega
    by_cases hlt : k < rows.length
    case neg =>
      have hki : decide ((k : Int) < (rows.length : Int)) = false := by simp; omega
      have HE : Hid ((s : Int) = (setsN rows c a rows.length : Nat)) := by
        show (s : Int) = _
        rw [HW.out.1, show k = rows.length by omega]
      go_wp2_with fail
      go_ret
      exact ⟨ret_i HE.out, HW.out.2.2⟩
    have hki : (k : Int) < (rows.length : Int) := by omega
    have hcl := HO.out.2 k hlt
    have hcj : (c : Int) < (rows[k].cells.length : Int) := by omega
    obtain ⟨b, off, rfl, -, hc⟩ := (HL.out _ HW.out.2.2).things k hlt
    obtain ⟨u1, c1, r1⟩ := hc 1 (by omega)
    replace r1 : Rd wr B (Ls 1 cAtomS rows[k].cells) u1 := r1
    obtain ⟨sa, sq, rfl⟩ := r1.lsSlice
    obtain ⟨sb, soff, rfl, -, hs⟩ := r1.things c hcl
    obtain ⟨u2, c2, r2⟩ := hs 0 (by omega)
    replace r2 : Rd wr B (dAtomS rows[k].cells[c]) u2 := r2
    obtain ⟨va, vq, rfl⟩ := r2.lsSlice
    rw [Nat.mul_one, Nat.add_zero] at c2
    have HLE : Hid ((dAtomS rows[k].cells[c]).le maxLen) := (Ls_le.1 ((Ls_le.1 HO.out.1).2.2 k hlt 1 (by omega))).2.2 c hcl 0 (by omega)
    have CT : Hid (∀ W, Below wr.heap.size wr W → Calls Tryz.prog 128 #[.slice va rows[k].cells[c].length vq, .agg #[.int .i64 a.k, .int .i64 a.n, .string ⟨a.t.toArray⟩]] W fun e w' => e = .returned (.bool (hasB rows[k].cells[c] a)) ∧ Below W.heap.size W w') := fun W h => containsI rows[k].cells[c] a va vq B W (le_atoms HLE.out).1 (r2.later h).ats
    have HS : Hid (setsN rows c a (k + 1) = s + (if hasB rows[k].cells[c] a = true then 1 else 0)) := by
      show setsN rows c a (k + 1) = _
      rw [setsN_succ, cellAtN_at hlt hcl, HW.out.1]
    have CX : Hid (∀ W, Below wr.heap.size wr W → (W.cell? ⟨w.heap.size, 0, none⟩ = some (.int .i64 a.k) ∧ W.cell? ⟨w.heap.size, 1, none⟩ = some (.int .i64 a.n) ∧ W.cell? ⟨w.heap.size, 2, none⟩ = some (.string ⟨a.t.toArray⟩)) ∧ W.cell? ⟨b, off + k * 2 + 1, none⟩ = some (.slice (some ⟨sb, soff, none⟩) rows[k].cells.length sq) ∧ W.cell? ⟨sb, soff + c, none⟩ = some (.slice va rows[k].cells[c].length vq)) := fun W h => ⟨⟨cell_at (o := 0) (HW.out.2.later h).1 rfl, cell_at (o := 1) (HW.out.2.later h).1 rfl, cell_at (o := 2) (HW.out.2.later h).1 rfl⟩, (h.cell (p := ⟨b, off + k * 2 + 1, none⟩) (World.block_lt_of_cell? _ _ c1)).trans c1, (h.cell (p := ⟨sb, soff + c, none⟩) (World.block_lt_of_cell? _ _ c2)).trans c2⟩
    clear hc hs c1 c2 r1 r2 HLE
    generalize rows[k].cells[c] = cell at *
    clear hcl
    generalize rows[k].cells.length = nc at *
    go_wp2_with fail
    refine wp_region_held_drew (S := (fun W => (W.cell? ⟨w.heap.size, 0, none⟩ = some (.int .i64 a.k) ∧ W.cell? ⟨w.heap.size, 1, none⟩ = some (.int .i64 a.n) ∧ W.cell? ⟨w.heap.size, 2, none⟩ = some (.string ⟨a.t.toArray⟩)) ∧ W.cell? ⟨b, off + k * 2 + 1, none⟩ = some (.slice (some ⟨sb, soff, none⟩) nc sq) ∧ W.cell? ⟨sb, soff + c, none⟩ = some (.slice va cell.length vq))) (by kernel_rfl) ?_ (fun hHeld => ?_)
    · (first | exact CX.out _ (Below.refl _ _) | exact CX.out _ (Below.refl _ _).drew | exact CX.out _ BW.out)
    refine tkB (i := 0) ?_
    refine tkB (i := 1) ?_
    refine tkB (i := 2) ?_
    refine tkB (i := 3) ?_
    refine tkB (i := 4) ?_
    refine tkB (i := 5) ?_
    refine tkB (i := 6) ?_
    refine tkB (i := 7) ?_
    refine tkB (i := 8) ?_
    refine tkR (i := 9) (fun K hK => ?_)
    go_simp
    go_at_call 128
    refine (CT.out _ (Below.refl _ _).drew).mono ?_
    rintro e w2 ⟨rfl, hB2⟩
    have BW : Hid (Below wr.heap.size wr w2) := (Below.refl _ _).drew.trans hB2
    clear hB2
    refine hK.out _ _ ?_ (fun hHeld => ?_)
    · (first | exact CX.out _ (Below.refl _ _) | exact CX.out _ (Below.refl _ _).drew | exact CX.out _ BW.out)
    clear hK K
    try simp only [Act.put, tkS]
    refine wpAnyH_done (by kernel_rfl) ?_ _
    have HB2 := Lib.hid (HW.out.2.later BW.out)
    have hws : IntKind.i64.wrap ((s : Int) + 1) = (s : Int) + 1 := by rw [IntKind.wrap_i64]; omega
    cases he : hasB cell a
    case false =>
      have HN : Hid (s = setsN rows c a (k + 1)) := by show _ = _; rw [HS.out, he]; simp
      clear HS CT he
      go_wp2_with fail
      go_roundw
      case rel => exact ⟨k + 1, by omega, by go_num, s, by go_num, HN.out, HB2.out⟩
      case measure => simp [intOf]; omega
    case true =>
      have HN : Hid (s + 1 = setsN rows c a (k + 1)) := by show _ = _; rw [HS.out, he]; simp
      clear HS CT he
      go_wp2_with fail
      go_roundw
      case rel => exact ⟨k + 1, by omega, by go_num, s + 1, by go_num, HN.out, HB2.out⟩
      case measure => simp [intOf]; omega
end Go.Proofs.YtngbhifafdbpkaaGreat
namespace Go.Proofs.YtngbhifafdbpkaaGreat
set_option linter.unusedSimpArgs false
def pullB (c : Cl) (nm : List UInt8) : Bool := c.st && decide (c.rf = nm)
def colsN (cols : List Cl) (rows : List RowV) (nm : List UInt8) (a : At) (k : Nat) : Nat := sumN k (fun c => match cols[c]? with
  | some y => if pullB y nm = true then setsN rows c a rows.length else 0
  | none => 0)
def strongN (l : List Tb) (ts : List (List RowV)) (nm : List UInt8) (a : At) (k : Nat) : Nat := sumN k (fun i => match l[i]?, ts[i]? with
  | some t, some rows => colsN t.cols rows nm a t.cols.length
  | _, _ => 0)
theorem colsN_yes {cols : List Cl} {rows : List RowV} {nm : List UInt8} {a : At} {k : Nat} (h : k < cols.length) (hp : pullB cols[k] nm = true) : colsN cols rows nm a (k + 1) = colsN cols rows nm a k + setsN rows k a rows.length := by
  unfold colsN
  rw [sumN_succ]
  simp [List.getElem?_eq_getElem h, hp]
theorem colsN_no {cols : List Cl} {rows : List RowV} {nm : List UInt8} {a : At} {k : Nat} (h : k < cols.length) (hp : pullB cols[k] nm = false) : colsN cols rows nm a (k + 1) = colsN cols rows nm a k := by
  unfold colsN
  rw [sumN_succ]
  simp [List.getElem?_eq_getElem h, hp]
theorem colsN_le (cols : List Cl) (rows : List RowV) (nm : List UInt8) (a : At) : ∀ k, colsN cols rows nm a k ≤ k * rows.length
  | 0 => Nat.zero_le _
  | k + 1 => by
    have h := colsN_le cols rows nm a k
    have hs := setsN_le rows k a rows.length
    unfold colsN at h ⊢
    rw [sumN_succ, Nat.succ_mul]
    split
    · split <;> omega
    · omega
theorem strongN_succ {l : List Tb} {ts : List (List RowV)} {nm : List UInt8} {a : At} {k : Nat} (h : k < l.length) (h' : k < ts.length) : strongN l ts nm a (k + 1) = strongN l ts nm a k + colsN l[k].cols ts[k] nm a l[k].cols.length := by
  unfold strongN
  rw [sumN_succ]
  simp [List.getElem?_eq_getElem h, List.getElem?_eq_getElem h']
theorem strongN_le {l : List Tb} {ts : List (List RowV)} {m n : Nat} (nm : List UInt8) (a : At) (hc : ∀ i (h : i < l.length), l[i].cols.length ≤ m) (hr : ∀ i (h : i < ts.length), ts[i].length ≤ n) : ∀ k, strongN l ts nm a k ≤ k * (m * n)
  | 0 => Nat.zero_le _
  | k + 1 => by
    have h := strongN_le nm a hc hr k
    rw [Nat.succ_mul]
    by_cases h1 : k < l.length
    · by_cases h2 : k < ts.length
      · rw [strongN_succ h1 h2]
        have hx := colsN_le l[k].cols ts[k] nm a l[k].cols.length
        have hy := Nat.mul_le_mul (hc k h1) (hr k h2)
        omega
      · unfold strongN at h ⊢
        rw [sumN_succ]
        simp [List.getElem?_eq_none (Nat.not_lt.1 h2)]
        omega
    · unfold strongN at h ⊢
      rw [sumN_succ]
      simp [List.getElem?_eq_none (Nat.not_lt.1 h1)]
      omega
end Go.Proofs.YtngbhifafdbpkaaGreat
