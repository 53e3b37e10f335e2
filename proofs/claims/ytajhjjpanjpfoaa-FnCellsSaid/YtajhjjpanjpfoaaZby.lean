import Derived.Test.YtajhjjpanjpfoaaZbt
import Derived.Test.YtajhjjpanjpfoaaZbg
import Derived.Test.YtajhjjpanjpfoaaZbv
import Derived.Test.YtajhjjpanjpfoaaZbu
import Derived.Test.YtajhjjpanjpfoaaZbx
import Derived.Test.YtajhjjpanjpfoaaZat
namespace Go.Proofs.Ytajhjjpanjpfoaa
open Go.RowKit
set_option linter.unusedSimpArgs false
theorem plT_tab : ∀ t, t < 3 → TabP (plT t) ∧ (plT t).ok := by
  intro t ht
  rcases (by omega : t = 0 ∨ t = 1 ∨ t = 2) with rfl | rfl | rfl
  · refine ⟨⟨by decide, by decide, fun i h => ?_, fun i h => absurd h (by simp [plT])⟩, by simp [plT, Tb.ok, maxLen], by simp [plT, maxLen], ?_, by simp [plT]⟩
    · rcases (by simp [plT] at h; omega : i = 0 ∨ i = 1) with rfl | rfl
      · exact ⟨rfl, fun k hk => absurd hk (by omega)⟩
      · refine ⟨rfl, fun k hk => ?_⟩
        obtain rfl : k = 0 := by omega
        simp [plT]
    · intro x hx
      simp only [plT, List.mem_cons, List.not_mem_nil, or_false] at hx
      rcases hx with rfl | rfl <;> simp [Cl.ok, maxLen]
  · refine ⟨⟨by decide, by decide, fun i h => ?_, fun i h => ?_⟩, by simp [plT, Tb.ok, maxLen], by simp [plT, maxLen], ?_, by simp [plT, maxLen]⟩
    · rcases (by simp [plT] at h; omega : i = 0 ∨ i = 1 ∨ i = 2) with rfl | rfl | rfl
      · exact ⟨rfl, fun k hk => absurd hk (by omega)⟩
      · refine ⟨rfl, fun k hk => ?_⟩
        obtain rfl : k = 0 := by omega
        simp [plT]
      · refine ⟨rfl, fun k hk => ?_⟩
        rcases (by omega : k = 0 ∨ k = 1) with rfl | rfl <;> simp [plT]
    · obtain rfl : i = 0 := by simp [plT] at h; omega
      exact ⟨by simp [plT], fun j hj => by omega⟩
    · intro x hx
      simp only [plT, List.mem_cons, List.not_mem_nil, or_false] at hx
      rcases hx with rfl | rfl | rfl <;> simp [Cl.ok, maxLen]
  · refine ⟨⟨by decide, by decide, fun i h => ?_, fun i h => ?_⟩, by simp [plT, Tb.ok, maxLen], by simp [plT, maxLen], ?_, by simp [plT, maxLen]⟩
    · rcases (by simp [plT] at h; omega : i = 0 ∨ i = 1 ∨ i = 2) with rfl | rfl | rfl
      · exact ⟨rfl, fun k hk => absurd hk (by omega)⟩
      · refine ⟨rfl, fun k hk => ?_⟩
        obtain rfl : k = 0 := by omega
        simp [plT]
      · refine ⟨rfl, fun k hk => ?_⟩
        rcases (by omega : k = 0 ∨ k = 1) with rfl | rfl <;> simp [plT]
    · obtain rfl : i = 0 := by simp [plT] at h; omega
      exact ⟨by simp [plT], fun j hj => by omega⟩
    · intro x hx
      simp only [plT, List.mem_cons, List.not_mem_nil, or_false] at hx
      rcases hx with rfl | rfl | rfl <;> simp [Cl.ok, maxLen]
theorem plT_def : ∀ t, t < 3 → ∀ cl ∈ (plT t).cols, datumB (dfL cl) = true ∧ fitC cl (dfL cl) = 0 := by
  intro t ht cl h
  rcases (by omega : t = 0 ∨ t = 1 ∨ t = 2) with rfl | rfl | rfl
  · simp only [plT, List.mem_cons, List.not_mem_nil, or_false] at h
    rcases h with rfl | rfl <;> exact ⟨by decide, by decide⟩
  · simp only [plT, List.mem_cons, List.not_mem_nil, or_false] at h
    rcases h with rfl | rfl | rfl <;> exact ⟨by decide, by decide⟩
  · simp only [plT, List.mem_cons, List.not_mem_nil, or_false] at h
    rcases h with rfl | rfl | rfl <;> exact ⟨by decide, by decide⟩
theorem plT_fresh {t : Nat} (ht : t < 3) {id : Int} (hi : inB 1 id 1000000 = true) : frC (plT t) id = 0 ∧ (frR (plT t) id).id = id ∧ rokM (plT t) (frR (plT t) id) = true := by
  have hT := tab_yes (plT_tab t ht).1
  obtain ⟨h1, h2⟩ := fr_ok hT hi
  refine ⟨h2, by rw [h1], ?_⟩
  rw [h1]
  unfold rokM
  rw [hT, row_yes ⟨hi, by simp, fun i h h' => ?_⟩]
  · rfl
  · rw [List.getElem_map]
    exact plT_def t ht _ (List.getElem_mem h')
theorem place_own {t : Tb} (hT : TabP t) {i : Nat} (hi : i < t.cols.length) : placeC t.cols t.cols[i].nm = (i : Int) := (place_good hi).1 (hT.cols i hi).2
theorem place_nm {l : List Cl} {s : List UInt8} {k : Nat} (hk : k < l.length) (h : placeC l s = (k : Int)) : l[k].nm = s := by
  rcases place_first l s with ⟨h1, -⟩ | ⟨k', hk', h1, h2, -⟩
  · omega
  · have : k' = k := by omega
    subst this
    exact h2
theorem place_idN {t : Tb} (hI : ∀ cl ∈ t.cols, cl.nm ≠ idN) : placeC t.cols idN = -1 := place_eq (.inl ⟨rfl, fun _ hk => hI _ (List.getElem_mem hk)⟩)
theorem plT_noId : ∀ t, t < 3 → ∀ cl ∈ (plT t).cols, cl.nm ≠ idN := by
  intro t ht cl h
  rcases (by omega : t = 0 ∨ t = 1 ∨ t = 2) with rfl | rfl | rfl
  · simp only [plT, List.mem_cons, List.not_mem_nil, or_false] at h
    rcases h with rfl | rfl <;> decide
  · simp only [plT, List.mem_cons, List.not_mem_nil, or_false] at h
    rcases h with rfl | rfl | rfl <;> decide
  · simp only [plT, List.mem_cons, List.not_mem_nil, or_false] at h
    rcases h with rfl | rfl | rfl <;> decide
def dueL : List At → List SetV → List UInt8 → List At
  | d, [], _ => d
  | d, x :: l, nm => dueL (if x.col = nm then x.val else d) l nm
theorem dueL_snoc : ∀ (l : List SetV) (d : List At) (x : SetV) (nm : List UInt8), dueL d (l ++ [x]) nm = if x.col = nm then x.val else dueL d l nm
  | [], _, _, _ => rfl
  | _ :: l, _, x, nm => dueL_snoc l _ x nm
theorem dueL_mem : ∀ (l : List SetV) (d : List At) (nm : List UInt8), dueL d l nm = d ∨ ∃ x ∈ l, dueL d l nm = x.val
  | [], _, _ => .inl rfl
  | y :: l, d, nm => by
    rcases dueL_mem l (if y.col = nm then y.val else d) nm with h | ⟨x, hx, h⟩
    · by_cases e : y.col = nm
      · right; exact ⟨y, by simp, by show dueL _ l nm = _; rw [h, if_pos e]⟩
      · left; show dueL _ l nm = _; rw [h, if_neg e]
    · right; exact ⟨x, by simp [hx], h⟩
def DueP (t : Tb) (cs : List (List At)) (list : List SetV) (res : List (List At)) : Prop := res.length = t.cols.length ∧ ∀ i (h : i < t.cols.length) (h2 : i < cs.length) (h3 : i < res.length), res[i] = dueL cs[i] list t.cols[i].nm ∧ datumB res[i] = true ∧ fitC t.cols[i] res[i] = 0
theorem rowW_due {t : Tb} (hT : TabP t) : ∀ {list : List SetV} {cs : List (List At)}, cs.length = t.cols.length → (∀ i (h : i < cs.length) (h' : i < t.cols.length), datumB cs[i] = true ∧ fitC t.cols[i] cs[i] = 0) → (∀ x ∈ list, setB x = true ∧ ∃ k, k < t.cols.length ∧ placeC t.cols x.col = (k : Int)) → (rowW t cs list).1 = 0 → DueP t cs list (rowW t cs list).2
  | [], _, hl, hf, _, _ => ⟨hl, fun i h h2 _ => ⟨rfl, hf i h2 h⟩⟩
  | x :: l, cs, hl, hf, hq, h0 => by
    obtain ⟨hs, k, hk, hp⟩ := hq x (by simp)
    have e1 : t.cols.getD k clZ = t.cols[k] := by rw [List.getD_eq_getElem?_getD, List.getElem?_eq_getElem hk]; rfl
    have hnm := place_nm hk hp
    have h00 : fitC t.cols[k] x.val = 0 := by
      unfold rowW at h0
      rw [hp, Int.toNat_natCast, e1] at h0
      by_cases hh : fitC t.cols[k] x.val = 0
      · exact hh
      · rw [if_neg hh] at h0; exact absurd h0 hh
    have hw : rowW t cs (x :: l) = rowW t (cs.set k x.val) l := by
      conv => lhs; unfold rowW
      rw [hp, Int.toNat_natCast, e1, if_pos h00]
    rw [hw] at h0 ⊢
    have hds : datumB x.val = true := by unfold setB at hs; simp only [Bool.and_eq_true] at hs; exact hs.2.1
    obtain ⟨hl2, h2⟩ := rowW_due hT (list := l) (cs := cs.set k x.val) (by simpa using hl) (fun i h h' => by
      by_cases e : i = k
      · subst e; rw [List.getElem_set_self]; exact ⟨hds, h00⟩
      · rw [List.getElem_set_ne (fun h => e h.symm)]; exact hf i (by simpa using h) h') (fun y hy => hq y (by simp [hy])) h0
    refine ⟨hl2, fun i h h3 h7 => ?_⟩
    obtain ⟨h4, h5⟩ := h2 i h (by simpa using h3) h7
    refine ⟨?_, h5⟩
    rw [h4]
    show _ = dueL (if x.col = t.cols[i].nm then x.val else cs[i]) l _
    by_cases e : i = k
    · subst e; rw [List.getElem_set_self, if_pos hnm.symm]
    · rw [List.getElem_set_ne (fun h => e h.symm), if_neg (fun h6 => e ?_)]
      have := place_own hT h
      rw [← h6, hp] at this
      omega
theorem se_due {t : Tb} (hT : TabP t) {r : RowV} {list : List SetV} (hr : rokM t r = true) (h0 : seC t r list = 0) : (seR t r list).id = r.id ∧ rokM t (seR t r list) = true ∧ DueP t r.cells list (seR t r list).cells := by
  have hb : tabB t = true := tab_yes hT
  have hrow : RowP t r.id r.cells := by unfold rokM at hr; simp only [Bool.and_eq_true] at hr; exact row_of hr.2
  by_cases h4 : 4096 < list.length
  · rw [(se_long h4).2] at h0; cases h0
  by_cases hv : valsB list = true
  case neg => rw [(se_bad h4 (fun h => hv h.2)).2] at h0; cases h0
  by_cases hc : setsC t list = 0
  case neg => rw [(se_code h4 ⟨hr, hv⟩ hc).2] at h0; exact absurd h0 hc
  obtain ⟨e1, e2⟩ := se_ok h4 ⟨hr, hv⟩ hc
  rw [e2] at h0
  have hq : ∀ x ∈ list, setB x = true ∧ ∃ k, k < t.cols.length ∧ placeC t.cols x.col = (k : Int) := fun x hx => by
    obtain ⟨k, hk, rfl⟩ := List.mem_iff_getElem.1 hx
    exact ⟨(val_set ((vals_all hv).2 k hk)).1, setK_place (setsG_all hc k hk)⟩
  have hD := rowW_due hT hrow.len (fun i h h' => hrow.fit i h h') hq h0
  have e3 : seR t r list = ⟨r.id, (rowW t r.cells list).2⟩ := by rw [e1]; unfold rowWR; rw [if_pos h0]
  rw [e3]
  refine ⟨rfl, ?_, hD⟩
  unfold rokM
  rw [hb, row_yes ⟨hrow.id, hD.1, fun i h h' => (hD.2 i h' (by rw [hrow.len]; exact h') h).2⟩]
  rfl
theorem pk_two {t : Tb} (hT : TabP t) (hI : ∀ cl ∈ t.cols, cl.nm ≠ idN) {r : RowV} (hr : rokM t r = true) {i : Nat} (hi : i < t.cols.length) (h2 : i < r.cells.length) : pkC t r [t.cols[i].nm, idN] = 0 ∧ pkR t r [t.cols[i].nm, idN] = ⟨r.id, [r.cells[i], [⟨4, r.id, []⟩]]⟩ := by
  have hp := place_own hT hi
  have hn : pkN t [t.cols[i].nm, idN] = 0 := pkN_yes (fun k hk => by
    rcases (by simp at hk; omega : k = 0 ∨ k = 1) with rfl | rfl
    · exact (ask_at hi hp).2
    · exact (ask_id (place_idN hI) rfl).2)
  obtain ⟨e1, e2⟩ := pk_ok (r := r) (by simp) hr hn
  refine ⟨e2, ?_⟩
  rw [e1]
  simp only [List.map_cons, List.map_nil, cell_id (place_idN hI), cell_col h2 hp]
theorem rok_small {t : Tb} {r : RowV} (h : rokM t r = true) (h6 : t.cols.length ≤ 6) : (dAtomSS r.cells).le 1048576 := by
  obtain ⟨h1, h2⟩ := rowI_le (rok_I h) h6
  exact D.le.mono (by omega) _ (D.le_of_sz _ h1 h2)
theorem due_small {d : List At} {list : List SetV} (nm : List UInt8) (hd : d.length ≤ 1048576) (hl : (dSetS list).le 1048576) : (dueL d list nm).length ≤ 1048576 := by
  rcases dueL_mem list d nm with h | ⟨x, hx, h⟩
  · rw [h]; exact hd
  · rw [h]
    obtain ⟨k, hk, rfl⟩ := List.mem_iff_getElem.1 hx
    exact (Ls_le.1 ((Ls_le.1 hl).2.2 k hk 1 (by omega))).2.1
#print axioms se_due
#print axioms pk_two
#print axioms plT_fresh
end Go.Proofs.Ytajhjjpanjpfoaa
