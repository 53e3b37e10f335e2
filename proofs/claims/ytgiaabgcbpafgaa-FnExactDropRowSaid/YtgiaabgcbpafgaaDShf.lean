import Derived.Test.YtgiaabgcbpafgaaDStP
import Derived.Maps.OwnSet
import Derived.Maps.OwnOps
import Derived.Maps.Views
import Derived.Deep.RegionHeld3
namespace Go.Proofs.Ytgiaabgcbpafgaa
open Go.RowKit Go.Maps
set_option linter.unusedSimpArgs false
/-- a pointer in a map is told as it is -/
def ptrR : Value → Option (DataW Value × List MemPlace) := fun v => some (.held v, [])
theorem intK : Keyed Try.prog 3 := int_keyed Try.underlying3
/-- where the last of the first k rows with that Id lies -/
def ptrOf (l : List RowV) (rb roff : Nat) : Nat → Int → Value
  | 0, _ => .pointer none
  | k + 1, id => if (l.getD k rowZ).id = id then .pointer (some ⟨rb, roff + k * 2, none⟩) else ptrOf l rb roff k id
theorem ptr_none {l : List RowV} {rb roff : Nat} {id : Int} : ∀ {k : Nat}, k ≤ l.length → (∀ m (h : m < l.length), l[m].id ≠ id) → ptrOf l rb roff k id = .pointer none
  | 0, _, _ => rfl
  | k + 1, hk, hn => by
    rw [ptrOf, getD_tab (by omega), if_neg (hn k (by omega))]
    exact ptr_none (by omega) hn
theorem ptr_at {l : List RowV} {rb roff : Nat} {id : Int} (hu : ∀ i j (hi : i < l.length) (hj : j < l.length), l[i].id = l[j].id → i = j) {j : Nat} (hj : j < l.length) (he : l[j].id = id) : ∀ {k : Nat}, k ≤ l.length → j < k → ptrOf l rb roff k id = .pointer (some ⟨rb, roff + j * 2, none⟩)
  | k + 1, hk, hjk => by
    rw [ptrOf, getD_tab (by omega)]
    by_cases e : l[k].id = id
    · have := hu k j (by omega) hj (by rw [e, he])
      subst this
      rw [if_pos e]
    · rw [if_neg e]
      refine ptr_at hu hj he (by omega) ?_
      rcases Nat.lt_or_ge j k with h | h
      · exact h
      · have : j = k := by omega
        subst this
        exact absurd he e
theorem rise_uniq {l : List RowV} (h : riseIds l) : ∀ i j (hi : i < l.length) (hj : j < l.length), l[i].id = l[j].id → i = j := by
  have lt : ∀ j i (hj : j < l.length) (hij : i < j), (l[i]'(by omega)).id < l[j].id := by
    intro j
    induction j with
    | zero => intro i _ h; omega
    | succ j ih =>
      intro i hj hij
      have h1 := h j hj
      by_cases e : i = j
      · subst e; exact h1
      · have := ih i (by omega) (by omega); omega
  intro i j hi hj e
  rcases Nat.lt_trichotomy i j with hlt | heq | hgt
  · have := lt j i hj hlt; omega
  · exact heq
  · have := lt i j hi hgt; omega
/-- a map from Ids to where their rows lie -/
def ShM (D : DataW Value) (l : List RowV) (rb roff k : Nat) : Prop := ∀ id : Int, D.atKey (.int .i64 id) (.held (.pointer none)) = .held (ptrOf l rb roff k id)
theorem ShM.put {D : DataW Value} {l : List RowV} {rb roff k : Nat} (h : ShM D l rb roff k) (hD : IsMap D) (hk : k < l.length) : ShM (D.put (.int .i64 l[k].id) (.held (.pointer (some ⟨rb, roff + k * 2, none⟩)))) l rb roff (k + 1) := fun id => by
  rw [ptrOf, getD_tab hk]
  by_cases e : l[k].id = id
  · subst e
    rw [if_pos rfl, atKey_put_same hD (by simp [WideAt.IsKeyLit])]
  · rw [if_neg e, atKey_put_other (by simpa using fun h => e h.symm), h id]
theorem run_makeMapR (n : Int) (w : World) : (Instr.makeMap 59 (some (.int .i64 n))).run Try.prog w = .ok (.map (some w.heap.size)) (w.alloc (.map #[] 0)) := by
  simp [Instr.makeMap, run_underlying Try.underlying59, asInt, asIntOf, Result.andThen]
def ShAns (l : List RowV) (rb roff : Nat) (w : World) (e : Ending) (w' : World) : Prop := ∃ m D, e = .returned (.map (some m)) ∧ w'.ownsMap Try.prog 3 ptrR m l.length D ∧ ShM D l rb roff l.length ∧ w.heap.size ≤ m ∧ Below w.heap.size w w'
set_option maxRecDepth 100000 in
set_option maxHeartbeats 3200000 in
theorem shelveI (l : List RowV) (a : Option Addr) (c rb roff : Nat) (B : Nat → Prop) (w : World) (ha : 0 < l.length → a = some ⟨rb, roff, none⟩) (ho : (dRowS l).le maxLen) (hS : Rd w B (dRowS l) (.slice a l.length c)) :
    Calls Try.prog 29 #[.slice a l.length c] w (ShAns l rb roff w) := by
  have hl : l.length ≤ maxLen := (Ls_le.1 ho).2.1
  unfold maxLen at hl
  have HI : Hid (∀ i (h : i < l.length), iOK l[i].id) := fun i h => (Ls_le.1 ho).2.2 i h 0 (by omega)
  have HS : Hid (∀ W, Below w.heap.size w W → Rd W (· < w.heap.size) (Ls 2 dRow l) (.slice a l.length c)) := fun W h => Rd.same (fun b hb => h.block b hb) (fun _ h => h) _ _ hS.lt
  have HA := Lib.hid ha
  have hmm := run_makeMapR (l.length : Int)
  have H0 : Hid (Below w.heap.size w (w.alloc (.map #[] 0)) ∧ ∃ D, IsMap D ∧ (w.alloc (.map #[] 0)).ownsMap Try.prog 3 ptrR w.heap.size 0 D ∧ ShM D l rb roff 0) := ⟨below_allocD _ _, _, isMap_empty, World.ownsMap_made (H := Value) w Try.prog 3 ptrR, fun id => rfl⟩
  clear ho hS ha
  go_enter Try.func29, Try.ntmps29
  go_wp2_with fail
  clear hmm
  go_loopw [10] (fun i wr => ∃ k : Nat, k ≤ l.length ∧ i = .int .i64 k ∧ Hid (Below w.heap.size w wr ∧ ∃ D, IsMap D ∧ wr.ownsMap Try.prog 3 ptrR w.heap.size k D ∧ ShM D l rb roff k)) (fun i _ => l.length - (intOf i).toNat)
  case atStart => exact ⟨0, Nat.zero_le _, rfl, H0.out⟩
  case round =>
    obtain ⟨k, hk, rfl, HW⟩ := hrel
    obtain ⟨hb, D, hD, hown, hP⟩ := HW.out
    by_cases hlt : k < l.length
    case neg =>
      have hk' : k = l.length := by omega
      subst hk'
      have hkd : decide ((l.length : Int) < (l.length : Int)) = false := by simp
      have HX := Lib.hid hb
      have HOW := Lib.hid (And.intro hown hP)
      clear HW hb hown hP hD
      go_wp2_with fail
      go_ret
      exact ⟨_, D, rfl, HOW.out.1, HOW.out.2, Nat.le_refl _, HX.out⟩
    have hki : (k : Int) < (l.length : Int) := by omega
    obtain rfl := HA.out (by omega)
    have CE : Hid (∀ W, Below w.heap.size w W → W.cell? ⟨rb, roff + k * 2, none⟩ = some (.int .i64 l[k].id)) := fun W h => by
      obtain ⟨u, e, r⟩ := (HS.out W h).spotT hlt (j := 0) (by omega)
      obtain rfl : u = .int .i64 l[k].id := r
      exact e
    have hkey : keyOf Try.prog 3 (.int .i64 l[k].id) = some (.int .i64 l[k].id) := keyOf_int_mk Try.underlying3 (HI.out k hlt)
    obtain ⟨w1, hrun, hown1, hgr1⟩ := World.ownsMap.update (w := wr.drew) (t := 59) (val := .pointer (some ⟨rb, roff + k * 2, none⟩)) hown.drew intK Try.underlying59 (by unfold maxLen; omega) hkey rfl
    have HB := Lib.hid hb
    have HB1 : Hid (Below w.heap.size w w1) := hb.drew.grown hgr1 hb.size (fun q hq => by cases hq; exact Nat.le_refl _)
    have HN := Lib.hid (And.intro (hD.put (.int .i64 l[k].id) (.held (.pointer (some ⟨rb, roff + k * 2, none⟩)))) (And.intro hown1 (hP.put hD hlt)))
    clear HW hb hown hP hD hown1 hgr1 hkey
    generalize l[k].id = y at *
    go_wp2_with fail
    refine wp_region_held_drew (S := (fun W => W.cell? ⟨rb, roff + k * 2, none⟩ = some (.int .i64 y))) (by kernel_rfl) ?_ (fun hHeld => ?_)
    · (first | exact CE.out _ HB.out | exact CE.out _ HB.out.drew | exact CE.out _ HB1.out)
    refine wpAnyH_take (i := 0) (v := ?_) rfl (by kernel_rfl) (by kernel_rfl) (by kernel_rfl) (fun _ _ _ h => h) (Or.inl ⟨by kernel_rfl, ?_⟩) (by assumption) ?_
    rotate_left
    · (intro wS hSw; (try dsimp only at hSw); go_simp <;> with_reducible rfl)
    try simp only [Act.put, List.getElem_toArray, List.getElem_cons_succ, List.getElem_cons_zero, List.setIfInBounds_toArray, List.set_cons_zero, List.set_cons_succ]
    refine wpAnyH_take (i := 1) (v := ?_) rfl (by kernel_rfl) (by kernel_rfl) (by kernel_rfl) (fun _ _ _ h => h) (Or.inl ⟨by kernel_rfl, ?_⟩) (by assumption) ?_
    rotate_left
    · (intro wS hSw; (try dsimp only at hSw); go_simp <;> with_reducible rfl)
    try simp only [Act.put, List.getElem_toArray, List.getElem_cons_succ, List.getElem_cons_zero, List.setIfInBounds_toArray, List.set_cons_zero, List.set_cons_succ]
    refine wpAnyH_take (i := 2) (v := ?_) rfl (by kernel_rfl) (by kernel_rfl) (by kernel_rfl) (fun _ _ _ h => h) (Or.inl ⟨by kernel_rfl, ?_⟩) (by assumption) ?_
    rotate_left
    · (intro wS hSw; (try dsimp only at hSw); go_simp <;> with_reducible rfl)
    try simp only [Act.put, List.getElem_toArray, List.getElem_cons_succ, List.getElem_cons_zero, List.setIfInBounds_toArray, List.set_cons_zero, List.set_cons_succ]
    refine wpAnyH_take (i := 3) (v := ?_) rfl (by kernel_rfl) (by kernel_rfl) (by kernel_rfl) (fun _ _ _ h => h) (Or.inl ⟨by kernel_rfl, ?_⟩) (by assumption) ?_
    rotate_left
    · (intro wS hSw; (try dsimp only at hSw); go_simp <;> with_reducible rfl)
    try simp only [Act.put, List.getElem_toArray, List.getElem_cons_succ, List.getElem_cons_zero, List.setIfInBounds_toArray, List.set_cons_zero, List.set_cons_succ]
    refine wpAnyH_take (i := 4) (v := ?_) rfl (by kernel_rfl) (by kernel_rfl) (by kernel_rfl) (fun _ _ _ h => h) (Or.inl ⟨by kernel_rfl, ?_⟩) (by assumption) ?_
    rotate_left
    · (intro wS hSw; (try dsimp only at hSw); go_simp <;> with_reducible rfl)
    try simp only [Act.put, List.getElem_toArray, List.getElem_cons_succ, List.getElem_cons_zero, List.setIfInBounds_toArray, List.set_cons_zero, List.set_cons_succ]
    refine wpAnyH_take (i := 5) (v := ?_) rfl (by kernel_rfl) (by kernel_rfl) (by kernel_rfl) (fun _ _ _ h => h) (Or.inl ⟨by kernel_rfl, ?_⟩) (by assumption) ?_
    rotate_left
    · (intro wS hSw; (try dsimp only at hSw); go_simp <;> with_reducible rfl)
    try simp only [Act.put, List.getElem_toArray, List.getElem_cons_succ, List.getElem_cons_zero, List.setIfInBounds_toArray, List.set_cons_zero, List.set_cons_succ]
    refine wpAnyH_take (i := 6) (v := ?_) rfl (by kernel_rfl) (by kernel_rfl) (by kernel_rfl) (fun _ _ _ h => h) (Or.inl ⟨by kernel_rfl, ?_⟩) (by assumption) ?_
    rotate_left
    · (intro wS hSw; (try dsimp only at hSw); go_simp <;> with_reducible rfl)
    try simp only [Act.put, List.getElem_toArray, List.getElem_cons_succ, List.getElem_cons_zero, List.setIfInBounds_toArray, List.set_cons_zero, List.set_cons_succ]
    refine wpAnyH_take (i := 7) (v := ?_) rfl (by kernel_rfl) (by kernel_rfl) (by kernel_rfl) (fun _ _ _ h => h) (Or.inl ⟨by kernel_rfl, ?_⟩) (by assumption) ?_
    rotate_left
    · (intro wS hSw; (try dsimp only at hSw); go_simp <;> with_reducible rfl)
    try simp only [Act.put, List.getElem_toArray, List.getElem_cons_succ, List.getElem_cons_zero, List.setIfInBounds_toArray, List.set_cons_zero, List.set_cons_succ]
    refine wpAnyH_take (i := 8) (v := ?_) rfl (by kernel_rfl) (by kernel_rfl) (by kernel_rfl) (fun _ _ _ h => h) (Or.inl ⟨by kernel_rfl, ?_⟩) (by assumption) ?_
    rotate_left
    · (intro wS hSw; (try dsimp only at hSw); go_simp <;> with_reducible rfl)
    try simp only [Act.put, List.getElem_toArray, List.getElem_cons_succ, List.getElem_cons_zero, List.setIfInBounds_toArray, List.set_cons_zero, List.set_cons_succ]
    refine wpAnyH_ready (rs := [9]) (by kernel_rfl) (by simp) (AllReadyH.cons rfl (fun K hK => ?_) AllReadyH.nil)
    go_simp
    skip
    refine hK.out _ _ ?_ (fun hHeld => ?_)
    · (first | exact CE.out _ HB.out | exact CE.out _ HB.out.drew | exact CE.out _ HB1.out)
    clear hK K
    try simp only [Act.put, List.getElem_toArray, List.getElem_cons_succ, List.getElem_cons_zero, List.setIfInBounds_toArray, List.set_cons_zero, List.set_cons_succ]
    refine wpAnyH_done (by kernel_rfl) ?_ _
    go_wp2_with fail
    go_roundw
    case rel => exact ⟨k + 1, by omega, by go_num, HB1.out, _, HN.out.1, HN.out.2.1, HN.out.2.2⟩
    case measure => simp [intOf]; omega
end Go.Proofs.Ytgiaabgcbpafgaa
