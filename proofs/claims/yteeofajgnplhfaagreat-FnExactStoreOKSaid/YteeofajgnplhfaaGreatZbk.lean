import Derived.Test.YteeofajgnplhfaaGreatZbj
namespace Go.Proofs.YteeofajgnplhfaaGreat
set_option linter.unusedSimpArgs false
def pullB (c : Cl) (nm : List UInt8) : Bool := c.st && decide (c.rf = nm)
def colsN (cols : List Cl) (rows : List RowV) (nm : List UInt8) (a : At) (k : Nat) : Nat := sumN k (fun c => match cols[c]? with
  | some y => if pullB y nm = true then setsN rows c a rows.length else 0
  | none => 0)
def strongN (l : List Tb) (ts : List (List RowV)) (nm : List UInt8) (a : At) (k : Nat) : Nat := sumN k (fun i => match l[i]?, ts[i]? with
  | some t, some rows => colsN t.cols rows nm a t.cols.length
  | _, _ => 0)
theorem colsN_yes {cols : List Cl} {rows : List RowV} {nm : List UInt8} {a : At} {k : Nat} (h : k < cols.length) (hp : pullB cols[k] nm = true) : colsN cols rows nm a (k + 1) = colsN cols rows nm a k + setsN rows k a rows.length := by
  unfold colsN
  rw [sumN_succ]
  simp [List.getElem?_eq_getElem h, hp]
theorem colsN_no {cols : List Cl} {rows : List RowV} {nm : List UInt8} {a : At} {k : Nat} (h : k < cols.length) (hp : pullB cols[k] nm = false) : colsN cols rows nm a (k + 1) = colsN cols rows nm a k := by
  unfold colsN
  rw [sumN_succ]
  simp [List.getElem?_eq_getElem h, hp]
theorem colsN_le (cols : List Cl) (rows : List RowV) (nm : List UInt8) (a : At) : ∀ k, colsN cols rows nm a k ≤ k * rows.length
  | 0 => Nat.zero_le _
  | k + 1 => by
    have h := colsN_le cols rows nm a k
    have hs := setsN_le rows k a rows.length
    unfold colsN at h ⊢
    rw [sumN_succ, Nat.succ_mul]
    split
    · split <;> omega
    · omega
theorem strongN_succ {l : List Tb} {ts : List (List RowV)} {nm : List UInt8} {a : At} {k : Nat} (h : k < l.length) (h' : k < ts.length) : strongN l ts nm a (k + 1) = strongN l ts nm a k + colsN l[k].cols ts[k] nm a l[k].cols.length := by
  unfold strongN
  rw [sumN_succ]
  simp [List.getElem?_eq_getElem h, List.getElem?_eq_getElem h']
theorem strongN_le {l : List Tb} {ts : List (List RowV)} {m n : Nat} (nm : List UInt8) (a : At) (hc : ∀ i (h : i < l.length), l[i].cols.length ≤ m) (hr : ∀ i (h : i < ts.length), ts[i].length ≤ n) : ∀ k, strongN l ts nm a k ≤ k * (m * n)
  | 0 => Nat.zero_le _
  | k + 1 => by
    have h := strongN_le nm a hc hr k
    rw [Nat.succ_mul]
    by_cases h1 : k < l.length
    · by_cases h2 : k < ts.length
      · rw [strongN_succ h1 h2]
        have hx := colsN_le l[k].cols ts[k] nm a l[k].cols.length
        have hy := Nat.mul_le_mul (hc k h1) (hr k h2)
        omega
      · unfold strongN at h ⊢
        rw [sumN_succ]
        simp [List.getElem?_eq_none (Nat.not_lt.1 h2)]
        omega
    · unfold strongN at h ⊢
      rw [sumN_succ]
      simp [List.getElem?_eq_none (Nat.not_lt.1 h1)]
      omega
end Go.Proofs.YteeofajgnplhfaaGreat
