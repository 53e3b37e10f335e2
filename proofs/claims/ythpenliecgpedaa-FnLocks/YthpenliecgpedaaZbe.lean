import Derived.Test.YthpenliecgpedaaZbc
namespace Go.Proofs.Ythpenliecgpedaa
open Go.RowKit Go.MuLone
set_option linter.unusedSimpArgs false
theorem ask_one (l : List LkV) (n : Int) (s : List UInt8) : askK (decide (4096 < l.length) || longM 1 s) (lksB l) (sesB n) (nameM 1 s) = askC l n s := by
  unfold askC longM nameM
  simp
structure SmL (x : LkV) : Prop where
  nm : x.nm.length ≤ 40
  qu : x.qu.length ≤ 4
  se : ∀ m ∈ x.qu, 0 ≤ m ∧ m ≤ 2
theorem iOK_ses {m : Int} (h : 0 ≤ m ∧ m ≤ 2) : iOK m := by
  rcases (by omega : m = 0 ∨ m = 1 ∨ m = 2) with rfl | rfl | rfl <;> (unfold iOK; decide +kernel)
theorem ints_le {q : List Int} (h : ∀ m ∈ q, 0 ≤ m ∧ m ≤ 2) (hl : q.length ≤ 100000) : (dIntS q).le maxLen ∧ (dIntS q).sz = q.length := by
  refine ⟨Ls_le.2 ⟨by omega, by unfold maxLen; omega, fun i hi j hj => iOK_ses (h _ (List.getElem_mem hi))⟩, ?_⟩
  have h3 : sumN q.length (fun i => sumN 1 (fun j => (lsF cInt q i j).sz)) ≤ sumN q.length (fun _ => 0) := sumN_bound (fun i hi => by
    show 0 + (lsF cInt q i 0).sz ≤ 0
    rw [lsF_at hi]
    exact Nat.le_refl _)
  rw [sumN_cst] at h3
  show q.length + sumN q.length (fun i => sumN 1 (fun j => (lsF cInt q i j).sz)) = q.length
  omega
theorem locks_le {R : List LkV} (h1 : R.length ≤ 100) (h2 : ∀ x ∈ R, SmL x) : (dLockS R).le maxLen ∧ (dLockS R).sz ≤ 100000000 := by
  refine ⟨Ls_le.2 ⟨by omega, by unfold maxLen; omega, fun i hi j hj => ?_⟩, ?_⟩
  · have hx := h2 _ (List.getElem_mem hi)
    rcases (by omega : j = 0 ∨ j = 1) with rfl | rfl
    · show R[i].nm.length ≤ maxLen
      have := hx.nm; unfold maxLen; omega
    · exact (ints_le hx.se (by have := hx.qu; omega)).1
  · have h3 : sumN R.length (fun i => sumN 2 (fun j => (lsF dLock R i j).sz)) ≤ sumN R.length (fun _ => 44) := sumN_bound (fun i hi => by
      show 0 + (lsF dLock R i 0).sz + (lsF dLock R i 1).sz ≤ 44
      rw [lsF_at hi]
      have hx := h2 _ (List.getElem_mem hi)
      have h4 := (ints_le hx.se (by have := hx.qu; omega)).2
      have h5 : (dLock R[i] 1).sz = (dIntS R[i].qu).sz := rfl
      have h6 : (dLock R[i] 0).sz = R[i].nm.length := rfl
      have := hx.nm; have := hx.qu
      omega)
    rw [sumN_cst] at h3
    show R.length + sumN R.length (fun i => sumN 2 (fun j => (lsF dLock R i j).sz)) ≤ 100000000
    omega
theorem LksP.small {l : List LkV} (h : LksP l) : ∀ x ∈ l, SmL x ∧ x.qu.length ≤ 3 := fun x hx => by
  obtain ⟨k, hk, rfl⟩ := List.mem_iff_getElem.1 hx
  have hq := h.que k hk
  refine ⟨⟨nmB_len (h.nam k hk), by have := hq.len; omega, fun m hm => ?_⟩, hq.len.2⟩
  obtain ⟨j, hj, rfl⟩ := List.mem_iff_getElem.1 hm
  exact ses_in (hq.ses j hj)
theorem insL_mem {l : List LkV} {s : List UInt8} {q : List Int} {x : LkV} (h : x ∈ insL l s q) : x ∈ l ∨ x = ⟨s, q⟩ := by
  unfold insL at h
  rcases List.mem_append.1 h with h | h
  · rcases List.mem_append.1 h with h | h
    · exact .inl (List.mem_of_mem_take h)
    · simp only [List.mem_cons, List.not_mem_nil, or_false] at h; exact .inr h
  · exact .inl (List.mem_of_mem_drop h)
theorem atL_mem {l : List LkV} {k : Nat} : atL l k ∈ l ∨ atL l k = ⟨[], []⟩ := by
  by_cases h : k < l.length
  · rw [atL_at h]; exact .inl (List.getElem_mem h)
  · refine .inr ?_
    unfold atL; rw [List.getD_eq_getElem?_getD, List.getElem?_eq_none (by omega)]; rfl
set_option maxRecDepth 100000 in
set_option maxHeartbeats 6400000 in
theorem takeLockI (l : List LkV) (n : Int) (s : List UInt8) (a : Option Addr) (c : Nat) (B : Nat → Prop) (w : World) (ho : (dLockS l).le maxLen) (hs : s.length ≤ maxLen) (hS : Rd w B (dLockS l) (.slice a l.length c)) :
    Calls Try.prog 8 #[.slice a l.length c, .int .i64 n, .string ⟨s.toArray⟩] w fun e w' => ∃ (ra : Option Addr) (rc : Nat), e = .returned (.tuple #[.slice ra (tloR l n s).length rc, .bool (tloB l n s), .int .i64 (tloC l n s)]) ∧ Own w' (dLockS (tloR l n s)) (fun c => w.heap.size ≤ c ∧ c < w'.heap.size) (.slice ra (tloR l n s).length rc) ∧ Below w.heap.size w w' := by
  have D1 : Below w.heap.size w (w.alloc (.cells #[.string ⟨s.toArray⟩] 9)) := below_allocD _ _
  have CA : Hid (Calls Try.prog 23 #[.slice a l.length c, .int .i64 n, .slice (some ⟨w.heap.size, 0, none⟩) 1 1] (w.alloc (.cells #[.string ⟨s.toArray⟩] 9)) fun e w' => e = .returned (.int .i64 (askC l n s)) ∧ Below w.heap.size w w') := by
    have h1 := askI l n s a c (some ⟨w.heap.size, 0, none⟩) 1 1 B (w.alloc (.cells #[.string ⟨s.toArray⟩] 9)) ho hs (hS.later D1) (.inr ⟨rfl, w.heap.size, 0, rfl, cell_at (o := 0) (heap_newD _ _) rfl⟩)
    rw [ask_one] at h1
    exact h1.mono (fun e w' ⟨he, hB⟩ => ⟨he, D1.trans (hB.mono D1.size)⟩)
  by_cases h0 : askC l n s = 0
  case neg =>
    obtain ⟨r1, r2, r3⟩ := tk_no h0
    rw [r1, r2, r3]
    have hne : (askC l n s != 0) = true := by simpa using h0
    clear hS ho h0 r1 r2 r3 D1
    generalize askC l n s = r at *
    go_enter Try.func8, Try.ntmps8
    go_wp2_with (go_at_call 23; refine CA.out.mono ?_; rintro e w1 ⟨rfl, hB⟩)
    go_ret3
    exact ⟨none, 0, rfl, (LTab.nil w.heap.size w1).own, hB⟩
  have hp := (ask_zero h0).1
  obtain ⟨r1, r2, r3⟩ := tk_ok h0
  rw [r1, r2, r3]
  have CO : Hid (∀ W, Below w.heap.size w W → Calls Try.prog 24 #[.slice a l.length c] W fun e w' => ∃ pb es, e = .returned (.pointer (some ⟨pb, 0, none⟩)) ∧ lks es = l ∧ TW W.heap.size pb W w' 0 es (.slice (some ⟨W.heap.size, 0, none⟩) l.length l.length)) := fun W h => tabOfI l a c B W hp.len (lks_que hp) (Rd.later hS h)
  have HP := Lib.hid hp
  rw [h0] at CA
  clear hS ho h0 r1 r2 r3 hp D1
  go_enter Try.func8, Try.ntmps8
  go_wp2_with (first | (go_at_call 23; refine CA.out.mono ?_; rintro e w1 ⟨rfl, hB⟩; have HB := Lib.hid hB; clear hB) | (go_at_call 24; refine (CO.out _ HB.out).mono ?_; rintro e w2 ⟨pb, es, rfl, hes, hT⟩; have HES := Lib.hid hes; have HT := Lib.hid hT; clear hes hT))
  refine (takeI w1.heap.size pb w1 w2 es l w1.heap.size l.length n s HES.out HP.out HT.out HT.out.bel.size (Nat.le_refl _)).mono ?_
  rintro e w3 ⟨rfl, es', a', c', hes', hT'⟩
  have HES' := Lib.hid hes'
  have HT' := Lib.hid hT'
  clear hes' hT' CO CA
  go_wp2_with fail
  refine (allI w1.heap.size pb w1 w3 es' (.slice a' (takeL l n s).length c') ⟨_, _, _, rfl⟩ HT'.out).mono ?_
  rintro e w4 ⟨rfl, hT4⟩
  have HT4 := Lib.hid hT4
  clear hT4
  go_wp2_with fail
  go_ret3
  refine ⟨a', c', rfl, ?_, HB.out.trans (HT4.out.bel.mono HB.out.size)⟩
  have h9 := HT4.out.tb.own
  rw [HES'.out] at h9
  exact h9.mono (fun b hb => ⟨Nat.le_trans HB.out.size hb.1, hb.2⟩)
end Go.Proofs.Ythpenliecgpedaa
