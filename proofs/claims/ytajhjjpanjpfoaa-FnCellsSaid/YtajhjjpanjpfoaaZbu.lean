import Derived.Test.YtajhjjpanjpfoaaZbi
import Derived.Test.YtajhjjpanjpfoaaZbf
import Derived.Test.YtajhjjpanjpfoaaZbr
import Derived.Test.YtajhjjpanjpfoaaZbn
import Derived.Test.YtajhjjpanjpfoaaZau
namespace Go.Proofs.Ytajhjjpanjpfoaa
open Go.RowKit
set_option linter.unusedSimpArgs false
noncomputable def pkN (t : Tb) (names : List (List UInt8)) : Int := if names.all (askT t) = true then 0 else 11
noncomputable def pkC (t : Tb) (r : RowV) (names : List (List UInt8)) : Int := if 4096 < names.length then 2 else if rokM t r = true then pkN t names else 1
noncomputable def pkR (t : Tb) (r : RowV) (names : List (List UInt8)) : RowV := if ¬ 4096 < names.length ∧ rokM t r = true ∧ pkN t names = 0 then ⟨r.id, names.map (cellOf t r)⟩ else rowZ
theorem pk_long {t : Tb} {r : RowV} {l : List (List UInt8)} (h : 4096 < l.length) : pkR t r l = rowZ ∧ pkC t r l = 2 := by
  unfold pkR pkC; rw [if_neg (fun hn => hn.1 h), if_pos h]; exact ⟨rfl, rfl⟩
theorem pk_bad {t : Tb} {r : RowV} {l : List (List UInt8)} (h : ¬ 4096 < l.length) (hb : rokM t r = false) : pkR t r l = rowZ ∧ pkC t r l = 1 := by
  unfold pkR pkC; rw [if_neg (fun hn => by rw [hb] at hn; cases hn.2.1), if_neg h, if_neg (by rw [hb]; decide)]; exact ⟨rfl, rfl⟩
theorem pk_code {t : Tb} {r : RowV} {l : List (List UInt8)} (h : ¬ 4096 < l.length) (hb : rokM t r = true) (hc : ¬ pkN t l = 0) : pkR t r l = rowZ ∧ pkC t r l = pkN t l := by
  unfold pkR pkC; rw [if_neg (fun hn => hc hn.2.2), if_neg h, if_pos hb]; exact ⟨rfl, rfl⟩
theorem pk_ok {t : Tb} {r : RowV} {l : List (List UInt8)} (h : ¬ 4096 < l.length) (hb : rokM t r = true) (hc : pkN t l = 0) : pkR t r l = ⟨r.id, l.map (cellOf t r)⟩ ∧ pkC t r l = 0 := by
  unfold pkR pkC; rw [if_pos ⟨h, hb, hc⟩, if_neg h, if_pos hb]; exact ⟨rfl, hc⟩
theorem pkN_no {t : Tb} {l : List (List UInt8)} {k : Nat} (hk : k < l.length) (h : askT t l[k] = false) : pkN t l = 11 := by
  unfold pkN; rw [if_neg]; intro hn
  have := List.all_eq_true.1 hn _ (List.getElem_mem hk)
  rw [h] at this; cases this
theorem pkN_yes {t : Tb} {l : List (List UInt8)} (h : ∀ k (hk : k < l.length), askT t l[k] = true) : pkN t l = 0 := by
  unfold pkN; rw [if_pos]
  exact List.all_eq_true.2 (fun x hx => by obtain ⟨k, hk, rfl⟩ := List.mem_iff_getElem.1 hx; exact h k hk)
theorem rok_len {t : Tb} {r : RowV} (h : rokM t r = true) : r.cells.length = t.cols.length := by
  unfold rokM at h
  simp only [Bool.and_eq_true] at h
  exact (row_of h.2).len
theorem pkF {t : Tb} {r : RowV} {l : List (List UInt8)} {k : Nat} (h : k < l.length) : lsF cAtomS (l.map (cellOf t r)) k = cAtomS (cellOf t r l[k]) := by rw [lsF_at (by simpa using h)]; simp
theorem cell_leK {t : Tb} {r : RowV} {s : List UInt8} {K : Nat} (hK : 1 ≤ K) (hr : (dAtomSS r.cells).le K) (hid : iOK r.id) (hlen : r.cells.length = t.cols.length) : (dAtomS (cellOf t r s)).le K := by
  rcases place_cases t.cols s with hp | ⟨k, hk, hp⟩
  · rw [cell_id hp]
    refine Ls_le.2 ⟨by omega, by simpa using hK, fun i hi j hj => ?_⟩
    obtain rfl : i = 0 := by simpa using hi
    rcases (by omega : j = 0 ∨ j = 1 ∨ j = 2) with rfl | rfl | rfl
    · show iOK 4; unfold iOK; decide
    · exact hid
    · show (0 : Nat) ≤ K; omega
  · rw [cell_col (by omega) hp]
    exact (Ls_le.1 hr).2.2 k (by omega) 0 (by omega)
end Go.Proofs.Ytajhjjpanjpfoaa
namespace Go.Proofs.Ytajhjjpanjpfoaa
open Go.RowKit
set_option linter.unusedSimpArgs false
theorem Rd.row {w : World} {B : Nat → Prop} {l : List (List At)} {a : Option Addr} {c : Nat} (h : Rd w B (dAtomSS l) (.slice a l.length c)) : ∃ X, Sets w (· < w.heap.size) a l X := h.lt.sets
end Go.Proofs.Ytajhjjpanjpfoaa
