import Derived.Test.YtdhlndpobpdfmaaYau
import Derived.Test.YtdhlndpobpdfmaaYax
import Derived.Deep.RegionHeld3
import Derived.Test.YtdhlndpobpdfmaaYTk
namespace Go.Proofs.Ytdhlndpobpdfmaa
open Go.RowKit
set_option linter.unusedSimpArgs false
structure LpB (w W : World) (v : Value) (n : Int) (rid : Int) (u : Value) : Prop where
  bx : W.heap[w.heap.size]? = some (.cells #[v, .int .i64 n] 30)
  rb : W.heap[w.heap.size + 1]? = some (.cells #[.int .i64 rid, u] 53)
  rv : W.heap[w.heap.size + 1 + 1]? = some (.cells #[.slice none 0 0, .int .i64 0] 30)
  bel : Below w.heap.size w W
theorem LpB.first (w : World) (v : Value) (n rid : Int) (u : Value) : LpB w (((w.alloc (.cells #[v, .int .i64 n] 30)).alloc (.cells #[.int .i64 rid, u] 53)).alloc (.cells #[.slice none 0 0, .int .i64 0] 30)) v n rid u := by
  have s1 := size_allocD w (.cells #[v, .int .i64 n] 30)
  have e1 := heap_newD (w.alloc (.cells #[v, .int .i64 n] 30)) (.cells #[.int .i64 rid, u] 53)
  have s2 := size_allocD (w.alloc (.cells #[v, .int .i64 n] 30)) (.cells #[.int .i64 rid, u] 53)
  have e2 := heap_newD ((w.alloc (.cells #[v, .int .i64 n] 30)).alloc (.cells #[.int .i64 rid, u] 53)) (.cells #[.slice none 0 0, .int .i64 0] 30)
  rw [s1] at e1 s2
  rw [s2] at e2
  exact ⟨heap_keptD (heap_keptD (heap_newD _ _) (below_allocD _ _)) (below_allocD _ _), heap_keptD e1 (below_allocD _ _), e2, (((Below.refl _ _).alloc (Nat.le_refl _) _).alloc (by simp) _).alloc (by simp; omega) _⟩
theorem LpB.later {w W W' : World} {v : Value} {n rid : Int} {u : Value} (h : LpB w W v n rid u) (hB : Below W.heap.size W W') : LpB w W' v n rid u := ⟨heap_keptD h.bx hB, heap_keptD h.rb hB, heap_keptD h.rv hB, h.bel.trans (hB.mono h.bel.size)⟩
set_option maxRecDepth 100000 in
set_option maxHeartbeats 12800000 in
theorem lputS (x : StV) (i : Nat) (r : RowV) (hi : i < x.tables.length) (a : Option Addr) (c : Nat) (sa : Option Addr) (sq : Nat) (B B' : Nat → Prop) (w : World) (ho : (dRowSS x.tables).le 1048576) (hor : (dAtomSS r.cells).le 1048576) (hS : Rd w B (dRowSS x.tables) (.slice a x.tables.length c)) (hR : Rd w B' (dAtomSS r.cells) (.slice sa r.cells.length sq)) :
    Calls Try.prog 43 #[.agg #[.slice a x.tables.length c, .int .i64 x.next], .int .i64 i, .agg #[.int .i64 r.id, .slice sa r.cells.length sq]] w fun e w' => ∃ ra rc, e = .returned (.agg #[.slice ra x.tables.length rc, .int .i64 x.next]) ∧ Rd w' (fun d => w.heap.size ≤ d ∧ d < w'.heap.size) (dRowSS (x.tables.set i (putL x.tables[i] r))) (.slice ra (x.tables.set i (putL x.tables[i] r)).length rc) ∧ Below w.heap.size w w' := by
  obtain ⟨iS, hiS⟩ := infoRw2
  have HIS := Lib.hid hiS
  have OS : Hid (∀ W, Below w.heap.size w W → Calls Try.prog 36 #[.agg #[.slice a x.tables.length c, .int .i64 x.next]] W _) := fun W h => ownS x a c B W ho (hS.later h)
  have OR : Hid (∀ W, Below w.heap.size w W → Calls Try.prog 58 #[.agg #[.int .i64 r.id, .slice sa r.cells.length sq]] W _) := fun W h => ownRowS r sa sq B' W hor (hR.later h)
  have hln : x.tables[i].length ≤ 1048576 := (Ls_le.1 ((Ls_le.1 ho).2.2 i hi 0 (by omega) : (dRowS x.tables[i]).le 1048576)).2.1
  have hb := LpB.first w (.slice a x.tables.length c) x.next r.id (.slice sa r.cells.length sq)
  have x0 := cell_at (o := 0) hb.bx rfl
  have x1 := cell_at (o := 1) hb.bx rfl
  have H0 := Lib.hid hb
  clear hS ho hb hiS hR hor
  go_enter Try.func43, Try.ntmps43
  go_wp2_with fail
  refine (OS.out _ H0.out.bel).mono ?_
  rintro e w1 ⟨ra, rc, rfl, hsq, hB⟩
  have H1 := Lib.hid (H0.out.later hB)
  clear x0 x1
  have x0 := cell_at (o := 0) H1.out.bx rfl
  have x1 := cell_at (o := 1) H1.out.bx rfl
  have f0 := frozen_at 0 H1.out.bx
  have f1 := frozen_at 1 H1.out.bx
  have hws : w.heap.size + 1 + 1 < (((w.alloc (.cells #[.slice a x.tables.length c, .int .i64 x.next] 30)).alloc (.cells #[.int .i64 r.id, .slice sa r.cells.length sq] 53)).alloc (.cells #[.slice none 0 0, .int .i64 0] 30)).heap.size := by simp
  generalize (((w.alloc (.cells #[.slice a x.tables.length c, .int .i64 x.next] 30)).alloc (.cells #[.int .i64 r.id, .slice sa r.cells.length sq] 53)).alloc (.cells #[.slice none 0 0, .int .i64 0] 30)).heap.size = z at *
  obtain ⟨V, hV⟩ : ∃ V, V = (w1.setCell ⟨w.heap.size, 0, none⟩ (.slice ra x.tables.length rc)).setCell ⟨w.heap.size, 1, none⟩ (.int .i64 x.next) := ⟨_, rfl⟩
  have hne : ∀ {W : World}, SQ W z (fun b => z ≤ b) 73 1 (lsF cRowS x.tables) (capQ x.tables) x.tables.length (.slice ra x.tables.length rc) → ∀ o u, SQ (W.setCell ⟨w.heap.size, o, none⟩ u) z (fun b => z ≤ b) 73 1 (lsF cRowS x.tables) (capQ x.tables) x.tables.length (.slice ra x.tables.length rc) := fun h o u => h.same (p := w.heap.size) (by simp [World.setCell]) (fun b hb => Below.heap_setCell _ _ _ _ hb) (fun e => by have := (h.low e).1; omega) (fun c hc => by have hc' : z ≤ c := hc; omega)
  have hsV : SQ V z (fun b => z ≤ b) 73 1 (lsF cRowS x.tables) (capQ x.tables) x.tables.length (.slice ra x.tables.length rc) := by rw [hV]; exact hne (hne hsq _ _) _ _
  have hbV : LpB w V (.slice ra x.tables.length rc) x.next r.id (.slice sa r.cells.length sq) := ⟨by rw [hV]; exact heap_set 1 _ (heap_set 0 _ H1.out.bx), by rw [hV, Below.heap_setCell _ _ _ _ (by show w.heap.size + 1 ≠ w.heap.size; omega), Below.heap_setCell _ _ _ _ (by show w.heap.size + 1 ≠ w.heap.size; omega)]; exact H1.out.rb, by rw [hV, Below.heap_setCell _ _ _ _ (by show w.heap.size + 1 + 1 ≠ w.heap.size; omega), Below.heap_setCell _ _ _ _ (by show w.heap.size + 1 + 1 ≠ w.heap.size; omega)]; exact H1.out.rv, by rw [hV]; exact (H1.out.bel.setCell (Nat.le_refl _) _).setCell (Nat.le_refl _) _⟩
  clear hne hsq hB
  obtain ⟨g, rfl, hzg, hgV, hcV⟩ := hsV.spot (by omega)
  obtain ⟨u, cu, zu, ⟨ra2, rcap, hu, hcap, rb, hrb⟩, hru⟩ := hcV i 0 hi (by omega)
  subst hrb
  rw [Nat.mul_one, Nat.add_zero] at cu zu
  rw [getD_tab hi] at hu hcap
  subst hu
  rw [lsF_at hi] at hru
  replace hru : Rd V _ (Ls 2 dRow x.tables[i]) (.slice (some ⟨rb, 0, none⟩) x.tables[i].length rcap) := hru
  have HVB := Lib.hid hbV
  have HCV := Lib.hid (And.intro hcV (And.intro hru (And.intro hzg (And.intro hgV (And.intro hws hcap)))))
  have HZU := Lib.hid zu
  have HCU := Lib.hid cu
  have ID : Hid (∀ W, Below V.heap.size V W → ∀ j (h : j < x.tables[i].length), W.cell? ⟨rb, j * 2, none⟩ = some (.int .i64 x.tables[i][j].id)) := fun W h j hj => by
    obtain ⟨u, e, r⟩ := (hru.later h).spotT hj (j := 0) (by omega)
    obtain rfl : u = .int .i64 x.tables[i][j].id := r
    rw [Nat.zero_add, Nat.add_zero] at e
    exact e
  have v0 : V.cell? ⟨w.heap.size, 0, none⟩ = some (.slice (some ⟨g, 0, none⟩) x.tables.length rc) := cell_at (o := 0) hbV.bx rfl
  have hi1 : (i : Int) < (x.tables.length : Int) := by omega
  have hi0 : (0 : Int) ≤ (i : Int) := by omega
  have HV := Lib.hid hV
  rw [hV] at v0 cu
  clear hsV hbV hcV hru hzg hgV hws zu hV
  generalize hLL : x.tables[i] = l at *
  have HLL := Lib.hid hLL
  clear hLL
  have hridE : ∃ rid, rid = r.id := ⟨_, rfl⟩
  go_wp2_with fail
  rw [← HV.out]
  clear v0 cu x0 x1 f0 f1 hridE
  go_loopw [8] (fun t wr => ∃ k : Nat, k ≤ l.length ∧ t = .int .i64 k ∧ Hid ((∀ m (h : m < l.length), m < k → l[m].id < r.id) ∧ Below V.heap.size V wr)) (fun t _ => l.length - (intOf t).toNat)
  case atStart => exact ⟨0, Nat.zero_le _, rfl, fun m _ h => absurd h (by omega), Below.refl _ _⟩
  case round =>
    obtain ⟨k, hk, rfl, HW⟩ := hrel
    have hx := Below.refl wr.heap.size wr
    have HLB := Lib.hid (HVB.out.later HW.out.2)
    by_cases hlt : k < l.length
    case neg =>
      have hkd : decide ((k : Int) < (l.length : Int)) = false := by simp; omega
      have CE : Hid (∀ W, Below wr.heap.size wr W → W.cell? ⟨w.heap.size + 1, 0, none⟩ = some (.int .i64 r.id) ∧ True) := fun W h => ⟨cell_at (o := 0) (HLB.out.later h).rb rfl, trivial⟩
      have HTK : Hid (k ≤ k ∧ k + 1 + (l.length - k) ≤ 1048577) := ⟨Nat.le_refl _, by omega⟩
      have HPT : Hid (putL l r = l.take k ++ r :: l.drop k) := putL_at hk HW.out.1 (fun h => absurd h hlt) (.inr ⟨rfl, fun h => absurd h hlt⟩)
      generalize hrid : r.id = rid at *
      have HRID := Lib.hid hrid
      obtain ⟨ad, hif⟩ : ∃ ad, (if rcap = k then some (⟨rb, 0, none⟩ : Addr) else some ⟨rb, k * 2, none⟩) = ad := ⟨_, rfl⟩
      have hkn : (k : Int) ≤ (l.length : Int) := by omega
      have hk00 : (0 : Int) ≤ (k : Int) := by omega
      clear hrid
      go_wp2_with fail
      refine wp_region_held_drew (S := (fun W => W.cell? ⟨w.heap.size + 1, 0, none⟩ = some (.int .i64 rid))) (by kernel_rfl) ?_ (fun hHeld => ?_)
      · (first | exact (CE.out _ hx).1 | exact (CE.out _ hx.drew).1 | exact (CE.out _ hx.drew.drew).1)
      refine wpAnyH_take (i := 0) (v := ?_) rfl (by kernel_rfl) (by kernel_rfl) (by kernel_rfl) (fun _ _ _ h => h) (Or.inl ⟨by kernel_rfl, ?_⟩) (by assumption) ?_
      rotate_left
      · (intro wS hSw; (try dsimp only at hSw); go_simp <;> with_reducible rfl)
      try simp only [Act.put, tkS]
      refine wpAnyH_take (i := 1) (v := ?_) rfl (by kernel_rfl) (by kernel_rfl) (by kernel_rfl) (fun _ _ _ h => h) (Or.inl ⟨by kernel_rfl, ?_⟩) (by assumption) ?_
      rotate_left
      · (intro wS hSw; (try dsimp only at hSw); go_simp <;> with_reducible rfl)
      try simp only [Act.put, tkS]
      refine wpAnyH_take (i := 2) (v := ?_) rfl (by kernel_rfl) (by kernel_rfl) (by kernel_rfl) (fun _ _ _ h => h) (Or.inl ⟨by kernel_rfl, ?_⟩) (by assumption) ?_
      rotate_left
      · (intro wS hSw; (try dsimp only at hSw); go_simp <;> with_reducible rfl)
      try simp only [Act.put, tkS]
      refine wpAnyH_take (i := 3) (v := ?_) rfl (by kernel_rfl) (by kernel_rfl) (by kernel_rfl) (fun _ _ _ h => h) (Or.inl ⟨by kernel_rfl, ?_⟩) (by assumption) ?_
      rotate_left
      · (intro wS hSw; (try dsimp only at hSw); go_simp <;> with_reducible rfl)
      try simp only [Act.put, tkS]
      refine wpAnyH_take (i := 4) (v := ?_) rfl (by kernel_rfl) (by kernel_rfl) (by kernel_rfl) (fun _ _ _ h => h) (Or.inl ⟨by kernel_rfl, ?_⟩) (by assumption) ?_
      rotate_left
      · (intro wS hSw; (try dsimp only at hSw); go_simp <;> with_reducible rfl)
      try simp only [Act.put, tkS]
      refine wpAnyH_take (i := 5) (v := undef) rfl (by kernel_rfl) (by kernel_rfl) (by kernel_rfl) (fun _ _ _ h => h) (Or.inr ⟨by kernel_rfl, rfl⟩) (by assumption) ?_
      try simp only [Act.put, tkS]
      refine wpAnyH_take (i := 6) (v := undef) rfl (by kernel_rfl) (by kernel_rfl) (by kernel_rfl) (fun _ _ _ h => h) (Or.inr ⟨by kernel_rfl, rfl⟩) (by assumption) ?_
      try simp only [Act.put, tkS]
      refine wpAnyH_take (i := 7) (v := undef) rfl (by kernel_rfl) (by kernel_rfl) (by kernel_rfl) (fun _ _ _ h => h) (Or.inr ⟨by kernel_rfl, rfl⟩) (by assumption) ?_
      try simp only [Act.put, tkS]
      refine wpAnyH_take (i := 8) (v := undef) rfl (by kernel_rfl) (by kernel_rfl) (by kernel_rfl) (fun _ _ _ h => h) (Or.inr ⟨by kernel_rfl, rfl⟩) (by assumption) ?_
      try simp only [Act.put, tkS]
      refine wpAnyH_take (i := 9) (v := undef) rfl (by kernel_rfl) (by kernel_rfl) (by kernel_rfl) (fun _ _ _ h => h) (Or.inr ⟨by kernel_rfl, rfl⟩) (by assumption) ?_
      try simp only [Act.put, tkS]
      refine wpAnyH_take (i := 10) (v := undef) rfl (by kernel_rfl) (by kernel_rfl) (by kernel_rfl) (fun _ _ _ h => h) (Or.inr ⟨by kernel_rfl, rfl⟩) (by assumption) ?_
      try simp only [Act.put, tkS]
      refine wpAnyH_take (i := 11) (v := undef) rfl (by kernel_rfl) (by kernel_rfl) (by kernel_rfl) (fun _ _ _ h => h) (Or.inr ⟨by kernel_rfl, rfl⟩) (by assumption) ?_
      try simp only [Act.put, tkS]
      refine wpAnyH_take (i := 12) (v := undef) rfl (by kernel_rfl) (by kernel_rfl) (by kernel_rfl) (fun _ _ _ h => h) (Or.inr ⟨by kernel_rfl, rfl⟩) (by assumption) ?_
      try simp only [Act.put, tkS]
      refine wpAnyH_take (i := 13) (v := ?_) rfl (by kernel_rfl) (by kernel_rfl) (by kernel_rfl) (fun _ _ _ h => h) (Or.inl ⟨by kernel_rfl, ?_⟩) (by assumption) ?_
      rotate_left
      · (intro wS hSw; (try dsimp only at hSw); go_simp <;> with_reducible rfl)
      try simp only [Act.put, tkS]
      refine wpAnyH_done (by kernel_rfl) ?_ _
      go_wp2_with fail
      refine wp_region_held_drew (S := (fun W => W.cell? ⟨w.heap.size + 1, 0, none⟩ = some (.int .i64 rid))) (by kernel_rfl) ?_ (fun hHeld => ?_)
      · (first | exact (CE.out _ hx).1 | exact (CE.out _ hx.drew).1 | exact (CE.out _ hx.drew.drew).1)
      refine wpAnyH_take (i := 0) (v := ?_) rfl (by kernel_rfl) (by kernel_rfl) (by kernel_rfl) (fun _ _ _ h => h) (Or.inl ⟨by kernel_rfl, ?_⟩) (by assumption) ?_
      rotate_left
      · (intro wS hSw; (try dsimp only at hSw); go_simp <;> with_reducible rfl)
      try simp only [Act.put, tkS]
      refine wpAnyH_take (i := 1) (v := ?_) rfl (by kernel_rfl) (by kernel_rfl) (by kernel_rfl) (fun _ _ _ h => h) (Or.inl ⟨by kernel_rfl, ?_⟩) (by assumption) ?_
      rotate_left
      · (intro wS hSw; (try dsimp only at hSw); go_simp <;> with_reducible rfl)
      try simp only [Act.put, tkS]
      refine wpAnyH_take (i := 2) (v := ?_) rfl (by kernel_rfl) (by kernel_rfl) (by kernel_rfl) (fun _ _ _ h => h) (Or.inl ⟨by kernel_rfl, ?_⟩) (by assumption) ?_
      rotate_left
      · (intro wS hSw; (try dsimp only at hSw); go_simp <;> with_reducible rfl)
      try simp only [Act.put, tkS]
      refine wpAnyH_take (i := 3) (v := ?_) rfl (by kernel_rfl) (by kernel_rfl) (by kernel_rfl) (fun _ _ _ h => h) (Or.inl ⟨by kernel_rfl, ?_⟩) (by assumption) ?_
      rotate_left
      · (intro wS hSw; (try dsimp only at hSw); go_simp <;> with_reducible rfl)
      try simp only [Act.put, tkS]
      refine wpAnyH_take (i := 4) (v := ?_) rfl (by kernel_rfl) (by kernel_rfl) (by kernel_rfl) (fun _ _ _ h => h) (Or.inl ⟨by kernel_rfl, ?_⟩) (by assumption) ?_
      rotate_left
      · (intro wS hSw; (try dsimp only at hSw); go_simp <;> with_reducible rfl)
      try simp only [Act.put, tkS]
      refine wpAnyH_take (i := 5) (v := undef) rfl (by kernel_rfl) (by kernel_rfl) (by kernel_rfl) (fun _ _ _ h => h) (Or.inr ⟨by kernel_rfl, rfl⟩) (by assumption) ?_
      try simp only [Act.put, tkS]
      refine wpAnyH_take (i := 6) (v := undef) rfl (by kernel_rfl) (by kernel_rfl) (by kernel_rfl) (fun _ _ _ h => h) (Or.inr ⟨by kernel_rfl, rfl⟩) (by assumption) ?_
      try simp only [Act.put, tkS]
      refine wpAnyH_take (i := 7) (v := undef) rfl (by kernel_rfl) (by kernel_rfl) (by kernel_rfl) (fun _ _ _ h => h) (Or.inr ⟨by kernel_rfl, rfl⟩) (by assumption) ?_
      try simp only [Act.put, tkS]
      refine wpAnyH_take (i := 8) (v := undef) rfl (by kernel_rfl) (by kernel_rfl) (by kernel_rfl) (fun _ _ _ h => h) (Or.inr ⟨by kernel_rfl, rfl⟩) (by assumption) ?_
      try simp only [Act.put, tkS]
      refine wpAnyH_take (i := 9) (v := undef) rfl (by kernel_rfl) (by kernel_rfl) (by kernel_rfl) (fun _ _ _ h => h) (Or.inr ⟨by kernel_rfl, rfl⟩) (by assumption) ?_
      try simp only [Act.put, tkS]
      refine wpAnyH_take (i := 10) (v := undef) rfl (by kernel_rfl) (by kernel_rfl) (by kernel_rfl) (fun _ _ _ h => h) (Or.inr ⟨by kernel_rfl, rfl⟩) (by assumption) ?_
      try simp only [Act.put, tkS]
      refine wpAnyH_take (i := 11) (v := undef) rfl (by kernel_rfl) (by kernel_rfl) (by kernel_rfl) (fun _ _ _ h => h) (Or.inr ⟨by kernel_rfl, rfl⟩) (by assumption) ?_
      try simp only [Act.put, tkS]
      refine wpAnyH_take (i := 12) (v := undef) rfl (by kernel_rfl) (by kernel_rfl) (by kernel_rfl) (fun _ _ _ h => h) (Or.inr ⟨by kernel_rfl, rfl⟩) (by assumption) ?_
      try simp only [Act.put, tkS]
      refine wpAnyH_take (i := 13) (v := ?_) rfl (by kernel_rfl) (by kernel_rfl) (by kernel_rfl) (fun _ _ _ h => h) (Or.inl ⟨by kernel_rfl, ?_⟩) (by assumption) ?_
      rotate_left
      · (intro wS hSw; (try dsimp only at hSw); go_simp <;> with_reducible rfl)
      try simp only [Act.put, tkS]
      refine wpAnyH_done (by kernel_rfl) ?_ _
      go_wp2_with fail
      have BX : Hid (Below V.heap.size V wr.drew.drew) := HW.out.2.drew.drew
      generalize wr.drew.drew = X at *
      have hXB := BX.out
      obtain ⟨hcV, hru, hzg, hgV, hws, hcap⟩ := HCV.out
      have hru2 := hru.later hXB
      have hsx := hXB.size
      have hXL := HVB.out.later hXB
      have hgl : ∀ m, ∃ u, m < l.length * 2 → X.cell? ⟨rb, m, none⟩ = some u ∧ Rd X (fun d => (d ≠ g ∧ d < V.heap.size) ∧ z ≤ d) (lsF dRow l (m / 2) (m % 2)) u ∧ u.oneCell' = true := fun m => by
        by_cases hm : m < l.length * 2
        · obtain ⟨u, hu, hr⟩ := hru2.spotT (i := m / 2) (j := m % 2) (by omega) (by omega)
          rw [Nat.zero_add, Nat.div_add_mod'] at hu
          exact ⟨u, fun _ => ⟨hu, by rw [lsF_at (by omega)]; exact hr, row_one (by omega) hr⟩⟩
        · exact ⟨undef, fun h => absurd h hm⟩
      obtain ⟨gl, hgl⟩ := Classical.axiomOfChoice hgl
      have hrbX : ∀ m, m < l.length * 2 → rb < X.heap.size := fun m hm => World.block_lt_of_cell? X ⟨rb, m, none⟩ (hgl m hm).1
      obtain ⟨W1, hW1⟩ : ∃ W1, W1 = (X.alloc (.cells #[] 53)).drew := ⟨_, rfl⟩
      have bW1 : Below X.heap.size X W1 := by rw [hW1]; exact ((Below.refl _ _).alloc (Nat.le_refl _) _).drew
      have hs1 : SG W1 X.heap.size (fun d => d ≠ g ∧ z ≤ d) 53 2 (lsF dRow (l.take k ++ r :: l.drop k)) 0 (.slice (some ⟨X.heap.size, 0, none⟩) 0 0) := SG.start (Nat.le_refl _) (by rw [hW1]; exact heap_newD _ _)
      obtain ⟨a1, c1, W2, hr7, hs2, hg2, hg2'⟩ := hs1.pushN (P := Try.prog) ⟨_, rfl⟩ 73 73 iS (.agg #[.int .i64 0, .slice none 0 0]) 32 Try.underlying73 HIS.out.1 HIS.out.2.1 HIS.out.2.2.1 HIS.out.2.2.2 rfl (by omega) ⟨rb, 0, none⟩ k rcap ((List.range (k * 2)).map gl) (by simp) (fun j u hj => by
          rw [List.getElem?_map, Option.map_eq_some_iff] at hj
          obtain ⟨m, hm, rfl⟩ := hj
          obtain ⟨hlt, rfl⟩ := List.getElem?_eq_some_iff.1 hm
          simp only [List.length_range] at hlt
          simp only [List.getElem_range]
          rw [Addr.add_mid, Nat.zero_add, bW1.cell (p := ⟨rb, j, none⟩) (hrbX j (by omega))]
          exact (hgl j (by omega)).1) (fun u hu => by
          simp only [List.mem_map, List.mem_range] at hu
          obtain ⟨m, hm, rfl⟩ := hu
          exact (hgl m (by omega)).2.2) (by unfold maxLen; omega) (by omega) bW1.size (fun q j hq hj => by
          have hlt : q * 2 + j < k * 2 := by omega
          refine ⟨gl (q * 2 + j), by simp [hlt], ?_⟩
          have h2 := (hgl (q * 2 + j) (by omega)).2.1
          rw [show (q * 2 + j) / 2 = q by omega, show (q * 2 + j) % 2 = j by omega, lsF_at (by omega)] at h2
          rw [Nat.zero_add, P_lt hk hq]
          refine (h2.later bW1).mono (fun d hd => ?_)
          have h3 := hd.1.2; have h4 := bW1.size
          exact ⟨⟨by simp only [Value.ownBlock, ne_eq, Option.some.injEq]; omega, by omega⟩, hd.1.1, hd.2⟩)
      rw [Nat.zero_add] at hr7 hs2 hg2'
      have bW2 : Below X.heap.size X W2 := below_grown bW1 hg2 (fun d e => by simp only [Value.ownBlock, Option.some.injEq] at e; omega) bW1.size
      obtain ⟨o1, ho1, ho1'⟩ := hg2'
      have hlo1 := (hs2.low ho1).1
      have CR := Lib.hid (OR.out W2 (hXL.bel.trans (bW2.mono hXL.bel.size)))
      have CE9 : Hid (∀ W, LpB w W (.slice (some ⟨g, 0, none⟩) x.tables.length rc) x.next rid (.slice sa r.cells.length sq) → W.cell? ⟨w.heap.size, 0, none⟩ = some (.slice (some ⟨g, 0, none⟩) x.tables.length rc) ∧ W.cell? ⟨w.heap.size + 1, 0, none⟩ = some (.int .i64 rid) ∧ W.cell? ⟨w.heap.size + 1, 1, none⟩ = some (.slice sa r.cells.length sq)) := fun W h => ⟨cell_at (o := 0) h.bx rfl, cell_at (o := 0) h.rb rfl, cell_at (o := 1) h.rb rfl⟩
      have BW0 : Hid (LpB w X.drew (.slice (some ⟨g, 0, none⟩) x.tables.length rc) x.next rid (.slice sa r.cells.length sq)) := ⟨hXL.bx, hXL.rb, hXL.rv, hXL.bel.drew⟩
      have BW1 := Lib.hid (hXL.later bW1)
      have BW2 := Lib.hid (hXL.later bW2)
      have RUN7 := Lib.hid hr7
      have HMEM := Lib.hid (And.intro hs2 (And.intro bW2 (And.intro ⟨o1, ho1⟩ hlo1)) : SG W2 X.heap.size (fun d => d ≠ g ∧ z ≤ d) 53 2 (lsF dRow (l.take k ++ r :: l.drop k)) k (.slice a1 k c1) ∧ Below X.heap.size X W2 ∧ (∃ o, Value.ownBlock (.slice a1 k c1) = some o) ∧ X.heap.size ≤ o1)
      have HGL := Lib.hid (And.intro hgl hrbX)
      have HXL := Lib.hid hXL
      have hk1r : (k : Int) ≤ (rcap : Int) := by omega
      have hk0r : (0 : Int) ≤ (k : Int) := by omega
      rw [hW1] at RUN7 BW1
      clear hcV hru hru2 hgl hrbX hs1 hs2 hg2 ho1 ho1' hlo1 hr7 bW1 bW2 hW1 hXL hXB hzg hgV hws hsx
      go_wp2_with fail
      refine wp_region_held_drew (S := (fun W => W.cell? ⟨w.heap.size, 0, none⟩ = some (.slice (some ⟨g, 0, none⟩) x.tables.length rc) ∧ W.cell? ⟨w.heap.size + 1, 0, none⟩ = some (.int .i64 rid) ∧ W.cell? ⟨w.heap.size + 1, 1, none⟩ = some (.slice sa r.cells.length sq))) (by kernel_rfl) ?_ (fun hHeld => ?_)
      · (exact CE9.out _ (by first | exact BW0.out | exact BW1.out | exact BW2.out | exact BW3.out | exact BW4.out | exact BW5.out | exact BW6.out | exact BW7.out))
      refine wpAnyH_take (i := 0) (v := ?_) rfl (by kernel_rfl) (by kernel_rfl) (by kernel_rfl) (fun _ _ _ h => h) (Or.inl ⟨by kernel_rfl, ?_⟩) (by assumption) ?_
      rotate_left
      · (intro wS hSw; (try dsimp only at hSw); go_simp <;> with_reducible rfl)
      try simp only [Act.put, tkS]
      refine wpAnyH_take (i := 1) (v := ?_) rfl (by kernel_rfl) (by kernel_rfl) (by kernel_rfl) (fun _ _ _ h => h) (Or.inl ⟨by kernel_rfl, ?_⟩) (by assumption) ?_
      rotate_left
      · (intro wS hSw; (try dsimp only at hSw); go_simp <;> with_reducible rfl)
      try simp only [Act.put, tkS]
      refine wpAnyH_take (i := 2) (v := ?_) rfl (by kernel_rfl) (by kernel_rfl) (by kernel_rfl) (fun _ _ _ h => h) (Or.inl ⟨by kernel_rfl, ?_⟩) (by assumption) ?_
      rotate_left
      · (intro wS hSw; (try dsimp only at hSw); go_simp <;> with_reducible rfl)
      try simp only [Act.put, tkS]
      refine wpAnyH_take (i := 4) (v := ?_) rfl (by kernel_rfl) (by kernel_rfl) (by kernel_rfl) (fun _ _ _ h => h) (Or.inl ⟨by kernel_rfl, ?_⟩) (by assumption) ?_
      rotate_left
      · (intro wS hSw; (try dsimp only at hSw); go_simp <;> with_reducible rfl)
      try simp only [Act.put, tkS]
      refine wpAnyH_take (i := 5) (v := ?_) rfl (by kernel_rfl) (by kernel_rfl) (by kernel_rfl) (fun _ _ _ h => h) (Or.inl ⟨by kernel_rfl, ?_⟩) (by assumption) ?_
      rotate_left
      · (intro wS hSw; (try dsimp only at hSw); go_simp <;> with_reducible rfl)
      try simp only [Act.put, tkS]
      refine wpAnyH_take (i := 6) (v := ?_) rfl (by kernel_rfl) (by kernel_rfl) (by kernel_rfl) (fun _ _ _ h => h) (Or.inl ⟨by kernel_rfl, ?_⟩) (by assumption) ?_
      rotate_left
      · (intro wS hSw; (try dsimp only at hSw); go_simp <;> with_reducible rfl)
      try simp only [Act.put, tkS]
      refine wpAnyH_take (i := 8) (v := ?_) rfl (by kernel_rfl) (by kernel_rfl) (by kernel_rfl) (fun _ _ _ h => h) (Or.inl ⟨by kernel_rfl, ?_⟩) (by assumption) ?_
      rotate_left
      · (intro wS hSw; (try dsimp only at hSw); go_simp <;> with_reducible rfl)
      try simp only [Act.put, tkS]
      refine wpAnyH_take (i := 12) (v := ?_) rfl (by kernel_rfl) (by kernel_rfl) (by kernel_rfl) (fun _ _ _ h => h) (Or.inl ⟨by kernel_rfl, ?_⟩) (by assumption) ?_
      rotate_left
      · (intro wS hSw; (try dsimp only at hSw); go_simp <;> with_reducible rfl)
      try simp only [Act.put, tkS]
      refine wpAnyH_ready (rs := [3]) (by kernel_rfl) (by simp) (AllReadyH.cons rfl (fun K hK => ?_) AllReadyH.nil)
      go_simp
      refine hK.out _ _ ?_ (fun hHeld => ?_)
      · (exact CE9.out _ (by first | exact BW0.out | exact BW1.out | exact BW2.out | exact BW3.out | exact BW4.out | exact BW5.out | exact BW6.out | exact BW7.out))
      clear hK K
      try simp only [Act.put, tkS]
      refine wpAnyH_ready (rs := [7]) (by kernel_rfl) (by simp) (AllReadyH.cons rfl (fun K hK => ?_) AllReadyH.nil)
      refine step_append_is rfl (.tmp 57) (.tmp 60) 73 rfl _ _ (by rfl) (by rfl) _ _ RUN7.out ?_
      refine hK.out _ _ ?_ (fun hHeld => ?_)
      · (exact CE9.out _ (by first | exact BW0.out | exact BW1.out | exact BW2.out | exact BW3.out | exact BW4.out | exact BW5.out | exact BW6.out | exact BW7.out))
      clear hK K
      try simp only [Act.put, tkS]
      refine wpAnyH_ready (rs := [9]) (by kernel_rfl) (by simp) (AllReadyH.cons rfl (fun K hK => ?_) AllReadyH.nil)
      go_simp
      go_at_call 58
      refine CR.out.mono ?_
      rintro e W3 ⟨pa, pc, rfl, hrd3, hB3⟩
      obtain ⟨hs2, bW2, ⟨o2, ho2⟩, -⟩ := HMEM.out
      obtain ⟨hcV, hru, hzg, hgV, hws, hcap⟩ := HCV.out
      have bW3 : Below X.heap.size X W3 := bW2.trans (hB3.mono bW2.size)
      obtain ⟨W4, hW4⟩ : ∃ W4, W4 = W3.alloc (.cells #[.int .i64 rid, .slice pa r.cells.length pc] 53) := ⟨_, rfl⟩
      have b34 : Below W3.heap.size W3 W4 := by rw [hW4]; exact below_allocD _ _
      have b24 : Below W2.heap.size W2 W4 := hB3.trans (b34.mono hB3.size)
      have bW4 : Below X.heap.size X W4 := bW2.trans (b24.mono bW2.size)
      have hn4 : W4.heap[W3.heap.size]? = some (.cells #[.int .i64 rid, .slice pa r.cells.length pc] 53) := by rw [hW4]; exact heap_newD _ _
      have hsx := BX.out.size
      have hs2x := bW2.size
      obtain ⟨a3, c3, W5, hr11, hs5, hg5, hg5'⟩ := (hs2.later b24).push (P := Try.prog) 73 73 iS (.agg #[.int .i64 0, .slice none 0 0]) 32 Try.underlying73 HIS.out.1 HIS.out.2.1 HIS.out.2.2.1 HIS.out.2.2.2 rfl (by omega) ⟨W3.heap.size, 0, none⟩ 1 [.int .i64 rid, .slice pa r.cells.length pc] rfl (fun j u hj => by
          have hj2 : j = 0 ∨ j = 1 := by
            have := (List.getElem?_eq_some_iff.1 hj).1
            simp only [List.length_cons, List.length_nil] at this
            omega
          rw [Addr.add_mid, Nat.zero_add]
          refine cell_at (o := j) hn4 ?_
          rcases hj2 with rfl | rfl
          · exact hj
          · exact hj) (fun u hu => by simp only [List.mem_cons, List.not_mem_nil, or_false] at hu; rcases hu with rfl | rfl <;> rfl) (by unfold maxLen; omega) (by omega) (by have := bW4.size; omega) (fun j hj => by
          rw [P_eq hk]
          rcases (by omega : j = 0 ∨ j = 1) with rfl | rfl
          · exact ⟨_, rfl, by show _ = _; rw [HRID.out]⟩
          · refine ⟨_, rfl, ?_⟩
            refine (hrd3.later b34).mono (fun q hq => ?_)
            have h1 := hq.1; have h2 := hq.2; have h3 := b34.size
            refine ⟨⟨fun e => ?_, by omega⟩, by omega, by omega⟩
            have := (hs2.low e).2
            omega)
      have bW5 : Below X.heap.size X W5 := below_grown bW4 hg5 (fun d e => (hs2.low e).1) bW4.size
      obtain ⟨o5, ho5, -⟩ := hg5'
      have hlo5 := (hs5.low ho5).1
      obtain ⟨a4, c4, W6, hr13, hs6, hg6, hg6'⟩ := hs5.pushN (P := Try.prog) ⟨_, ho5⟩ 73 73 iS (.agg #[.int .i64 0, .slice none 0 0]) 32 Try.underlying73 HIS.out.1 HIS.out.2.1 HIS.out.2.2.1 HIS.out.2.2.2 rfl (by omega) (if rcap = k then ⟨rb, 0, none⟩ else ⟨rb, k * 2, none⟩) (l.length - k) (rcap - k) ((List.range ((l.length - k) * 2)).map (fun m => gl (k * 2 + m))) (by simp) (fun j u hj => by
          rw [List.getElem?_map, Option.map_eq_some_iff] at hj
          obtain ⟨m, hm, rfl⟩ := hj
          obtain ⟨hlt, rfl⟩ := List.getElem?_eq_some_iff.1 hm
          simp only [List.length_range] at hlt
          simp only [List.getElem_range]
          rw [if_neg (by omega), Addr.add_mid, bW5.cell (p := ⟨rb, k * 2 + j, none⟩) (HGL.out.2 (k * 2 + j) (by omega))]
          exact (HGL.out.1 (k * 2 + j) (by omega)).1) (fun u hu => by
          simp only [List.mem_map, List.mem_range] at hu
          obtain ⟨m, hm, rfl⟩ := hu
          exact (HGL.out.1 (k * 2 + m) (by omega)).2.2) (by unfold maxLen; have := HTK.out; omega) (by have := HTK.out; omega) (by have := bW5.size; omega) (fun q j hq hj => by
          have hlt : q * 2 + j < (l.length - k) * 2 := by omega
          refine ⟨gl (k * 2 + (q * 2 + j)), by simp [hlt], ?_⟩
          have h2 := (HGL.out.1 (k * 2 + (q * 2 + j)) (by omega)).2.1
          rw [show (k * 2 + (q * 2 + j)) / 2 = k + q by omega, show (k * 2 + (q * 2 + j)) % 2 = j by omega, lsF_at (by omega)] at h2
          rw [P_gt hk hq]
          refine (h2.later bW5).mono (fun d hd => ?_)
          have h3 := hd.1.2; have h4 := bW5.size
          exact ⟨⟨by rw [ho5]; simp only [ne_eq, Option.some.injEq]; omega, by omega⟩, hd.1.1, hd.2⟩)
      have bW6 : Below X.heap.size X W6 := below_grown bW5 hg6 (fun d e => (hs5.low e).1) bW5.size
      rw [← P_len (r := r) (t := k) hk] at hr13 hs6 hg6'
      have hnew : Rd W6 (fun d => (d ≠ g ∧ d < W6.heap.size) ∧ z ≤ d) (dRowS (l.take k ++ r :: l.drop k)) (.slice a4 (l.take k ++ r :: l.drop k).length c4) := (hs6.rd (by omega) (fun d e => by have := (hs6.low e).1; exact ⟨by omega, by omega⟩)).mono (fun d hd => ⟨⟨hd.1.1, hd.2⟩, hd.1.2⟩)
      have bV6 : Below V.heap.size V W6 := BX.out.trans (bW6.mono BX.out.size)
      have hfin := rd_put (c := rc) (G := fun d => z ≤ d) hzg hi (by have := bV6.size; omega) (fun j hj => by
        obtain ⟨u, h1, -, -, h2⟩ := hcV j 0 hj (by omega)
        rw [Nat.mul_one, Nat.add_zero] at h1
        exact ⟨u, (bV6.cell (p := ⟨g, j, none⟩) hgV).trans h1, (h2.later bV6).mono (fun d hd => ⟨⟨hd.1.1, by have := hd.1.2; have := bV6.size; omega⟩, hd.2⟩)⟩) hnew
      rw [← HPT.out, show (putL l r).length = (l.take k ++ r :: l.drop k).length by rw [HPT.out]] at hfin
      have HFIN := Lib.hid (And.intro hfin hws)
      have b6 := HXL.out.later bW6
      have b7 : LpB w (W6.setCell ⟨g, i, none⟩ (.slice a4 (l.take k ++ r :: l.drop k).length c4)) (.slice (some ⟨g, 0, none⟩) x.tables.length rc) x.next rid (.slice sa r.cells.length sq) := ⟨by rw [Below.heap_setCell _ _ _ _ (by show w.heap.size ≠ g; omega)]; exact b6.bx, by rw [Below.heap_setCell _ _ _ _ (by show w.heap.size + 1 ≠ g; omega)]; exact b6.rb, by rw [Below.heap_setCell _ _ _ _ (by show w.heap.size + 1 + 1 ≠ g; omega)]; exact b6.rv, b6.bel.setCell (by show w.heap.size ≤ g; omega) _⟩
      have BW3 := Lib.hid (HXL.out.later bW3)
      have BW4 := Lib.hid (HXL.out.later bW4)
      have BW5 := Lib.hid (HXL.out.later bW5)
      have BW6 := Lib.hid b6
      have BW7 := Lib.hid b7
      have p6 := (bV6.cell (p := ⟨g, i, none⟩) hgV).trans HCU.out
      have q6 : W6.frozen? ⟨g, i, none⟩ = false := by
        have hbk := bV6.block g hgV
        have zu := HZU.out
        unfold World.frozen? at zu ⊢
        simp only at zu ⊢
        rw [hbk]; exact zu
      have hiff : (some (if rcap = k then (⟨rb, 0, none⟩ : Addr) else ⟨rb, k * 2, none⟩)) = ad := by rw [← hif]; split <;> rfl
      rw [hiff] at hr13
      have RUN11 := Lib.hid hr11
      have RUN13 := Lib.hid hr13
      rw [hW4] at RUN11 BW4
      clear hs2 bW2 ho2 hcV hru hzg hgV hws hcap bW3 b34 b24 bW4 hn4 hs5 hg5 bW5 ho5 hlo5 hs6 hg6 hg6' bW6 hnew bV6 hfin b6 b7 hr11 hr13 hrd3 hB3 hW4 hiff hsx hs2x
      generalize (l.take k ++ r :: l.drop k).length = n1 at *
      refine hK.out _ _ ?_ (fun hHeld => ?_)
      · (exact CE9.out _ (by first | exact BW0.out | exact BW1.out | exact BW2.out | exact BW3.out | exact BW4.out | exact BW5.out | exact BW6.out | exact BW7.out))
      clear hK K
      try simp only [Act.put, tkS]
      refine wpAnyH_ready (rs := [10]) (by kernel_rfl) (by simp) (AllReadyH.cons rfl (fun K hK => ?_) AllReadyH.nil)
      go_simp
      refine hK.out _ _ ?_ (fun hHeld => ?_)
      · (exact CE9.out _ (by first | exact BW0.out | exact BW1.out | exact BW2.out | exact BW3.out | exact BW4.out | exact BW5.out | exact BW6.out | exact BW7.out))
      clear hK K
      try simp only [Act.put, tkS]
      refine wpAnyH_ready (rs := [11]) (by kernel_rfl) (by simp) (AllReadyH.cons rfl (fun K hK => ?_) AllReadyH.nil)
      refine step_append_is rfl (.tmp 61) (.tmp 64) 73 rfl _ _ (by rfl) (by rfl) _ _ RUN11.out ?_
      refine hK.out _ _ ?_ (fun hHeld => ?_)
      · (exact CE9.out _ (by first | exact BW0.out | exact BW1.out | exact BW2.out | exact BW3.out | exact BW4.out | exact BW5.out | exact BW6.out | exact BW7.out))
      clear hK K
      try simp only [Act.put, tkS]
      refine wpAnyH_ready (rs := [13]) (by kernel_rfl) (by simp) (AllReadyH.cons rfl (fun K hK => ?_) AllReadyH.nil)
      refine step_append_is rfl (.tmp 65) (.tmp 66) 73 rfl _ _ (by rfl) (by rfl) _ _ RUN13.out ?_
      refine hK.out _ _ ?_ (fun hHeld => ?_)
      · (exact CE9.out _ (by first | exact BW0.out | exact BW1.out | exact BW2.out | exact BW3.out | exact BW4.out | exact BW5.out | exact BW6.out | exact BW7.out))
      clear hK K
      try simp only [Act.put, tkS]
      refine wpAnyH_take (i := 14) (v := ?_) rfl (by kernel_rfl) (by kernel_rfl) (by kernel_rfl) (fun _ _ _ h => h) (Or.inl ⟨by kernel_rfl, ?_⟩) (by assumption) ?_
      rotate_left
      · (intro wS hSw; (try dsimp only at hSw); go_simp <;> with_reducible rfl)
      try simp only [Act.put, tkS]
      refine wpAnyH_ready (rs := [15]) (by kernel_rfl) (by simp) (AllReadyH.cons rfl (fun K hK => ?_) AllReadyH.nil)
      go_simp
      refine hK.out _ _ ?_ (fun hHeld => ?_)
      · (exact CE9.out _ (by first | exact BW0.out | exact BW1.out | exact BW2.out | exact BW3.out | exact BW4.out | exact BW5.out | exact BW6.out | exact BW7.out))
      clear hK K
      try simp only [Act.put, tkS]
      refine wpAnyH_done (by kernel_rfl) ?_ _
      have m0 := cell_at (o := 0) BW7.out.bx rfl
      have m1 := cell_at (o := 1) BW7.out.bx rfl
      have r0 := cell_at (o := 0) BW7.out.rv rfl
      have r1 := cell_at (o := 1) BW7.out.rv rfl
      have g0 := frozen_at 0 BW7.out.rv
      have g1 := frozen_at 1 BW7.out.rv
      clear p6 q6 hif
      go_wp2_with fail
      refine bodyPost_ret (v := .agg #[.slice (some ⟨g, 0, none⟩) x.tables.length rc, .int .i64 x.next]) (by simp [results, Try.results43, go_sem, *]) rfl ?_
      refine ⟨some ⟨g, 0, none⟩, rc, rfl, ?_, (BW7.out.bel.setCell (by simp <;> omega) _).setCell (by simp <;> omega) _⟩
      have hz := HFIN.out.2
      have hfr2 : Frm (· = w.heap.size + 1 + 1) (W6.setCell ⟨g, i, none⟩ (.slice a4 n1 c4)) (((W6.setCell ⟨g, i, none⟩ (.slice a4 n1 c4)).setCell ⟨w.heap.size + 1 + 1, 0, none⟩ (.slice (some ⟨g, 0, none⟩) x.tables.length rc)).setCell ⟨w.heap.size + 1 + 1, 1, none⟩ (.int .i64 x.next)) := (frm_set _ _ _ _).trans (frm_set _ _ _ _)
      have h9 := HFIN.out.1.frm hfr2 (fun b hb e => by have h1 := hb.1; have e' : b = w.heap.size + 1 + 1 := e; omega)
      rw [HLL.out]
      exact h9.mono (fun b hb => ⟨by have h1 : z ≤ b := hb.1; omega, by have := hb.2; simpa using this⟩)
    have hki : (k : Int) < (l.length : Int) := by omega
    have CE : Hid (∀ W, Below wr.heap.size wr W → W.cell? ⟨w.heap.size + 1, 0, none⟩ = some (.int .i64 r.id) ∧ W.cell? ⟨rb, k * 2, none⟩ = some (.int .i64 l[k].id)) := fun W h => ⟨cell_at (o := 0) (HLB.out.later h).rb rfl, ID.out W (HW.out.2.trans (h.mono HW.out.2.size)) k hlt⟩
    by_cases hcmp : l[k].id < r.id
    · have HN : Hid (∀ m (h : m < l.length), m < k + 1 → l[m].id < r.id) := fun m h hm => by
        by_cases e : m = k
        · subst e; exact hcmp
        · exact HW.out.1 m h (by omega)
      generalize hy : l[k].id = y at *
      clear hy
      generalize hrid : r.id = rid at *
      clear hrid
      go_wp2_with fail
      refine wp_region_held_drew (S := (fun W => W.cell? ⟨w.heap.size + 1, 0, none⟩ = some (.int .i64 rid) ∧ W.cell? ⟨rb, k * 2, none⟩ = some (.int .i64 y))) (by kernel_rfl) ?_ (fun hHeld => ?_)
      · (first | exact CE.out _ hx | exact CE.out _ hx.drew | exact CE.out _ hx.drew.drew)
      refine wpAnyH_take (i := 0) (v := ?_) rfl (by kernel_rfl) (by kernel_rfl) (by kernel_rfl) (fun _ _ _ h => h) (Or.inl ⟨by kernel_rfl, ?_⟩) (by assumption) ?_
      rotate_left
      · (intro wS hSw; (try dsimp only at hSw); go_simp <;> with_reducible rfl)
      try simp only [Act.put, tkS]
      refine wpAnyH_take (i := 1) (v := ?_) rfl (by kernel_rfl) (by kernel_rfl) (by kernel_rfl) (fun _ _ _ h => h) (Or.inl ⟨by kernel_rfl, ?_⟩) (by assumption) ?_
      rotate_left
      · (intro wS hSw; (try dsimp only at hSw); go_simp <;> with_reducible rfl)
      try simp only [Act.put, tkS]
      refine wpAnyH_take (i := 2) (v := ?_) rfl (by kernel_rfl) (by kernel_rfl) (by kernel_rfl) (fun _ _ _ h => h) (Or.inl ⟨by kernel_rfl, ?_⟩) (by assumption) ?_
      rotate_left
      · (intro wS hSw; (try dsimp only at hSw); go_simp <;> with_reducible rfl)
      try simp only [Act.put, tkS]
      refine wpAnyH_take (i := 3) (v := ?_) rfl (by kernel_rfl) (by kernel_rfl) (by kernel_rfl) (fun _ _ _ h => h) (Or.inl ⟨by kernel_rfl, ?_⟩) (by assumption) ?_
      rotate_left
      · (intro wS hSw; (try dsimp only at hSw); go_simp <;> with_reducible rfl)
      try simp only [Act.put, tkS]
      refine wpAnyH_take (i := 4) (v := ?_) rfl (by kernel_rfl) (by kernel_rfl) (by kernel_rfl) (fun _ _ _ h => h) (Or.inl ⟨by kernel_rfl, ?_⟩) (by assumption) ?_
      rotate_left
      · (intro wS hSw; (try dsimp only at hSw); go_simp <;> with_reducible rfl)
      try simp only [Act.put, tkS]
      refine wpAnyH_take (i := 5) (v := ?_) rfl (by kernel_rfl) (by kernel_rfl) (by kernel_rfl) (fun _ _ _ h => h) (Or.inl ⟨by kernel_rfl, ?_⟩) (by assumption) ?_
      rotate_left
      · (intro wS hSw; (try dsimp only at hSw); go_simp <;> with_reducible rfl)
      try simp only [Act.put, tkS]
      refine wpAnyH_take (i := 6) (v := ?_) rfl (by kernel_rfl) (by kernel_rfl) (by kernel_rfl) (fun _ _ _ h => h) (Or.inl ⟨by kernel_rfl, ?_⟩) (by assumption) ?_
      rotate_left
      · (intro wS hSw; (try dsimp only at hSw); go_simp <;> with_reducible rfl)
      try simp only [Act.put, tkS]
      refine wpAnyH_take (i := 7) (v := ?_) rfl (by kernel_rfl) (by kernel_rfl) (by kernel_rfl) (fun _ _ _ h => h) (Or.inl ⟨by kernel_rfl, ?_⟩) (by assumption) ?_
      rotate_left
      · (intro wS hSw; (try dsimp only at hSw); go_simp <;> with_reducible rfl)
      try simp only [Act.put, tkS]
      refine wpAnyH_take (i := 8) (v := ?_) rfl (by kernel_rfl) (by kernel_rfl) (by kernel_rfl) (fun _ _ _ h => h) (Or.inl ⟨by kernel_rfl, ?_⟩) (by assumption) ?_
      rotate_left
      · (intro wS hSw; (try dsimp only at hSw); go_simp <;> with_reducible rfl)
      try simp only [Act.put, tkS]
      refine wpAnyH_take (i := 9) (v := ?_) rfl (by kernel_rfl) (by kernel_rfl) (by kernel_rfl) (fun _ _ _ h => h) (Or.inl ⟨by kernel_rfl, ?_⟩) (by assumption) ?_
      rotate_left
      · (intro wS hSw; (try dsimp only at hSw); go_simp <;> with_reducible rfl)
      try simp only [Act.put, tkS]
      refine wpAnyH_take (i := 10) (v := ?_) rfl (by kernel_rfl) (by kernel_rfl) (by kernel_rfl) (fun _ _ _ h => h) (Or.inl ⟨by kernel_rfl, ?_⟩) (by assumption) ?_
      rotate_left
      · (intro wS hSw; (try dsimp only at hSw); go_simp <;> with_reducible rfl)
      try simp only [Act.put, tkS]
      refine wpAnyH_take (i := 11) (v := ?_) rfl (by kernel_rfl) (by kernel_rfl) (by kernel_rfl) (fun _ _ _ h => h) (Or.inl ⟨by kernel_rfl, ?_⟩) (by assumption) ?_
      rotate_left
      · (intro wS hSw; (try dsimp only at hSw); go_simp <;> with_reducible rfl)
      try simp only [Act.put, tkS]
      refine wpAnyH_take (i := 12) (v := ?_) rfl (by kernel_rfl) (by kernel_rfl) (by kernel_rfl) (fun _ _ _ h => h) (Or.inl ⟨by kernel_rfl, ?_⟩) (by assumption) ?_
      rotate_left
      · (intro wS hSw; (try dsimp only at hSw); go_simp <;> with_reducible rfl)
      try simp only [Act.put, tkS]
      refine wpAnyH_take (i := 13) (v := ?_) rfl (by kernel_rfl) (by kernel_rfl) (by kernel_rfl) (fun _ _ _ h => h) (Or.inl ⟨by kernel_rfl, ?_⟩) (by assumption) ?_
      rotate_left
      · (intro wS hSw; (try dsimp only at hSw); go_simp <;> with_reducible rfl)
      try simp only [Act.put, tkS]
      refine wpAnyH_done (by kernel_rfl) ?_ _
      go_wp2_with fail
      go_roundw
      case rel => exact ⟨k + 1, by omega, by go_num, HN.out, HW.out.2.drew⟩
      case measure => simp [intOf]; omega
    have hcd : decide (l[k].id < r.id) = false := decide_eq_false hcmp
    by_cases heq : l[k].id = r.id
    · have heqb : (l[k].id == r.id) = true := by simpa using heq
      obtain ⟨k1, hk1e⟩ : ∃ k1, k1 = k + 1 := ⟨_, rfl⟩
      have HTK : Hid (k ≤ k1 ∧ k + 1 + (l.length - k1) ≤ 1048577) := ⟨by omega, by omega⟩
      have HPT : Hid (putL l r = l.take k ++ r :: l.drop k1) := putL_at hk HW.out.1 (fun _ => hcmp) (.inl ⟨hk1e, hlt, heq⟩)
      have hwr : IntKind.i64.wrap ((k : Int) + 1) = (k1 : Int) := by rw [hk1e, IntKind.wrap_i64]; omega
      have hk1n : (k1 : Int) ≤ (l.length : Int) := by omega
      have hk10 : (0 : Int) ≤ (k1 : Int) := by omega
      clear hcmp heq hk1e
      generalize hy : l[k].id = y at *
      clear hy
      generalize hrid : r.id = rid at *
      have HRID := Lib.hid hrid
      clear hrid
      obtain ⟨ad0, hif0⟩ : ∃ ad0, (if rcap = k then some (⟨rb, 0, none⟩ : Addr) else some ⟨rb, k * 2, none⟩) = ad0 := ⟨_, rfl⟩
      obtain ⟨ad, hif⟩ : ∃ ad, (if rcap = k1 then some (⟨rb, 0, none⟩ : Addr) else some ⟨rb, k1 * 2, none⟩) = ad := ⟨_, rfl⟩
      have hkn : (k : Int) ≤ (l.length : Int) := by omega
      have hk00 : (0 : Int) ≤ (k : Int) := by omega
      go_wp2_with fail
      refine wp_region_held_drew (S := (fun W => W.cell? ⟨w.heap.size + 1, 0, none⟩ = some (.int .i64 rid) ∧ W.cell? ⟨rb, k * 2, none⟩ = some (.int .i64 y))) (by kernel_rfl) ?_ (fun hHeld => ?_)
      · (first | exact CE.out _ hx | exact CE.out _ hx.drew | exact CE.out _ hx.drew.drew)
      refine wpAnyH_take (i := 0) (v := ?_) rfl (by kernel_rfl) (by kernel_rfl) (by kernel_rfl) (fun _ _ _ h => h) (Or.inl ⟨by kernel_rfl, ?_⟩) (by assumption) ?_
      rotate_left
      · (intro wS hSw; (try dsimp only at hSw); go_simp <;> with_reducible rfl)
      try simp only [Act.put, tkS]
      refine wpAnyH_take (i := 1) (v := ?_) rfl (by kernel_rfl) (by kernel_rfl) (by kernel_rfl) (fun _ _ _ h => h) (Or.inl ⟨by kernel_rfl, ?_⟩) (by assumption) ?_
      rotate_left
      · (intro wS hSw; (try dsimp only at hSw); go_simp <;> with_reducible rfl)
      try simp only [Act.put, tkS]
      refine wpAnyH_take (i := 2) (v := ?_) rfl (by kernel_rfl) (by kernel_rfl) (by kernel_rfl) (fun _ _ _ h => h) (Or.inl ⟨by kernel_rfl, ?_⟩) (by assumption) ?_
      rotate_left
      · (intro wS hSw; (try dsimp only at hSw); go_simp <;> with_reducible rfl)
      try simp only [Act.put, tkS]
      refine wpAnyH_take (i := 3) (v := ?_) rfl (by kernel_rfl) (by kernel_rfl) (by kernel_rfl) (fun _ _ _ h => h) (Or.inl ⟨by kernel_rfl, ?_⟩) (by assumption) ?_
      rotate_left
      · (intro wS hSw; (try dsimp only at hSw); go_simp <;> with_reducible rfl)
      try simp only [Act.put, tkS]
      refine wpAnyH_take (i := 4) (v := ?_) rfl (by kernel_rfl) (by kernel_rfl) (by kernel_rfl) (fun _ _ _ h => h) (Or.inl ⟨by kernel_rfl, ?_⟩) (by assumption) ?_
      rotate_left
      · (intro wS hSw; (try dsimp only at hSw); go_simp <;> with_reducible rfl)
      try simp only [Act.put, tkS]
      refine wpAnyH_take (i := 5) (v := ?_) rfl (by kernel_rfl) (by kernel_rfl) (by kernel_rfl) (fun _ _ _ h => h) (Or.inl ⟨by kernel_rfl, ?_⟩) (by assumption) ?_
      rotate_left
      · (intro wS hSw; (try dsimp only at hSw); go_simp <;> with_reducible rfl)
      try simp only [Act.put, tkS]
      refine wpAnyH_take (i := 6) (v := ?_) rfl (by kernel_rfl) (by kernel_rfl) (by kernel_rfl) (fun _ _ _ h => h) (Or.inl ⟨by kernel_rfl, ?_⟩) (by assumption) ?_
      rotate_left
      · (intro wS hSw; (try dsimp only at hSw); go_simp <;> with_reducible rfl)
      try simp only [Act.put, tkS]
      refine wpAnyH_take (i := 7) (v := ?_) rfl (by kernel_rfl) (by kernel_rfl) (by kernel_rfl) (fun _ _ _ h => h) (Or.inl ⟨by kernel_rfl, ?_⟩) (by assumption) ?_
      rotate_left
      · (intro wS hSw; (try dsimp only at hSw); go_simp <;> with_reducible rfl)
      try simp only [Act.put, tkS]
      refine wpAnyH_take (i := 8) (v := ?_) rfl (by kernel_rfl) (by kernel_rfl) (by kernel_rfl) (fun _ _ _ h => h) (Or.inl ⟨by kernel_rfl, ?_⟩) (by assumption) ?_
      rotate_left
      · (intro wS hSw; (try dsimp only at hSw); go_simp <;> with_reducible rfl)
      try simp only [Act.put, tkS]
      refine wpAnyH_take (i := 9) (v := ?_) rfl (by kernel_rfl) (by kernel_rfl) (by kernel_rfl) (fun _ _ _ h => h) (Or.inl ⟨by kernel_rfl, ?_⟩) (by assumption) ?_
      rotate_left
      · (intro wS hSw; (try dsimp only at hSw); go_simp <;> with_reducible rfl)
      try simp only [Act.put, tkS]
      refine wpAnyH_take (i := 10) (v := ?_) rfl (by kernel_rfl) (by kernel_rfl) (by kernel_rfl) (fun _ _ _ h => h) (Or.inl ⟨by kernel_rfl, ?_⟩) (by assumption) ?_
      rotate_left
      · (intro wS hSw; (try dsimp only at hSw); go_simp <;> with_reducible rfl)
      try simp only [Act.put, tkS]
      refine wpAnyH_take (i := 11) (v := ?_) rfl (by kernel_rfl) (by kernel_rfl) (by kernel_rfl) (fun _ _ _ h => h) (Or.inl ⟨by kernel_rfl, ?_⟩) (by assumption) ?_
      rotate_left
      · (intro wS hSw; (try dsimp only at hSw); go_simp <;> with_reducible rfl)
      try simp only [Act.put, tkS]
      refine wpAnyH_take (i := 12) (v := ?_) rfl (by kernel_rfl) (by kernel_rfl) (by kernel_rfl) (fun _ _ _ h => h) (Or.inl ⟨by kernel_rfl, ?_⟩) (by assumption) ?_
      rotate_left
      · (intro wS hSw; (try dsimp only at hSw); go_simp <;> with_reducible rfl)
      try simp only [Act.put, tkS]
      refine wpAnyH_take (i := 13) (v := ?_) rfl (by kernel_rfl) (by kernel_rfl) (by kernel_rfl) (fun _ _ _ h => h) (Or.inl ⟨by kernel_rfl, ?_⟩) (by assumption) ?_
      rotate_left
      · (intro wS hSw; (try dsimp only at hSw); go_simp <;> with_reducible rfl)
      try simp only [Act.put, tkS]
      refine wpAnyH_done (by kernel_rfl) ?_ _
      go_wp2_with fail
      refine wp_region_held_drew (S := (fun W => W.cell? ⟨w.heap.size + 1, 0, none⟩ = some (.int .i64 rid) ∧ W.cell? ⟨rb, k * 2, none⟩ = some (.int .i64 y))) (by kernel_rfl) ?_ (fun hHeld => ?_)
      · (first | exact CE.out _ hx | exact CE.out _ hx.drew | exact CE.out _ hx.drew.drew)
      refine wpAnyH_take (i := 0) (v := ?_) rfl (by kernel_rfl) (by kernel_rfl) (by kernel_rfl) (fun _ _ _ h => h) (Or.inl ⟨by kernel_rfl, ?_⟩) (by assumption) ?_
      rotate_left
      · (intro wS hSw; (try dsimp only at hSw); go_simp <;> with_reducible rfl)
      try simp only [Act.put, tkS]
      refine wpAnyH_take (i := 1) (v := ?_) rfl (by kernel_rfl) (by kernel_rfl) (by kernel_rfl) (fun _ _ _ h => h) (Or.inl ⟨by kernel_rfl, ?_⟩) (by assumption) ?_
      rotate_left
      · (intro wS hSw; (try dsimp only at hSw); go_simp <;> with_reducible rfl)
      try simp only [Act.put, tkS]
      refine wpAnyH_take (i := 2) (v := ?_) rfl (by kernel_rfl) (by kernel_rfl) (by kernel_rfl) (fun _ _ _ h => h) (Or.inl ⟨by kernel_rfl, ?_⟩) (by assumption) ?_
      rotate_left
      · (intro wS hSw; (try dsimp only at hSw); go_simp <;> with_reducible rfl)
      try simp only [Act.put, tkS]
      refine wpAnyH_take (i := 3) (v := ?_) rfl (by kernel_rfl) (by kernel_rfl) (by kernel_rfl) (fun _ _ _ h => h) (Or.inl ⟨by kernel_rfl, ?_⟩) (by assumption) ?_
      rotate_left
      · (intro wS hSw; (try dsimp only at hSw); go_simp <;> with_reducible rfl)
      try simp only [Act.put, tkS]
      refine wpAnyH_take (i := 4) (v := ?_) rfl (by kernel_rfl) (by kernel_rfl) (by kernel_rfl) (fun _ _ _ h => h) (Or.inl ⟨by kernel_rfl, ?_⟩) (by assumption) ?_
      rotate_left
      · (intro wS hSw; (try dsimp only at hSw); go_simp <;> with_reducible rfl)
      try simp only [Act.put, tkS]
      refine wpAnyH_take (i := 5) (v := ?_) rfl (by kernel_rfl) (by kernel_rfl) (by kernel_rfl) (fun _ _ _ h => h) (Or.inl ⟨by kernel_rfl, ?_⟩) (by assumption) ?_
      rotate_left
      · (intro wS hSw; (try dsimp only at hSw); go_simp <;> with_reducible rfl)
      try simp only [Act.put, tkS]
      refine wpAnyH_take (i := 6) (v := ?_) rfl (by kernel_rfl) (by kernel_rfl) (by kernel_rfl) (fun _ _ _ h => h) (Or.inl ⟨by kernel_rfl, ?_⟩) (by assumption) ?_
      rotate_left
      · (intro wS hSw; (try dsimp only at hSw); go_simp <;> with_reducible rfl)
      try simp only [Act.put, tkS]
      refine wpAnyH_take (i := 7) (v := ?_) rfl (by kernel_rfl) (by kernel_rfl) (by kernel_rfl) (fun _ _ _ h => h) (Or.inl ⟨by kernel_rfl, ?_⟩) (by assumption) ?_
      rotate_left
      · (intro wS hSw; (try dsimp only at hSw); go_simp <;> with_reducible rfl)
      try simp only [Act.put, tkS]
      refine wpAnyH_take (i := 8) (v := ?_) rfl (by kernel_rfl) (by kernel_rfl) (by kernel_rfl) (fun _ _ _ h => h) (Or.inl ⟨by kernel_rfl, ?_⟩) (by assumption) ?_
      rotate_left
      · (intro wS hSw; (try dsimp only at hSw); go_simp <;> with_reducible rfl)
      try simp only [Act.put, tkS]
      refine wpAnyH_take (i := 9) (v := ?_) rfl (by kernel_rfl) (by kernel_rfl) (by kernel_rfl) (fun _ _ _ h => h) (Or.inl ⟨by kernel_rfl, ?_⟩) (by assumption) ?_
      rotate_left
      · (intro wS hSw; (try dsimp only at hSw); go_simp <;> with_reducible rfl)
      try simp only [Act.put, tkS]
      refine wpAnyH_take (i := 10) (v := ?_) rfl (by kernel_rfl) (by kernel_rfl) (by kernel_rfl) (fun _ _ _ h => h) (Or.inl ⟨by kernel_rfl, ?_⟩) (by assumption) ?_
      rotate_left
      · (intro wS hSw; (try dsimp only at hSw); go_simp <;> with_reducible rfl)
      try simp only [Act.put, tkS]
      refine wpAnyH_take (i := 11) (v := ?_) rfl (by kernel_rfl) (by kernel_rfl) (by kernel_rfl) (fun _ _ _ h => h) (Or.inl ⟨by kernel_rfl, ?_⟩) (by assumption) ?_
      rotate_left
      · (intro wS hSw; (try dsimp only at hSw); go_simp <;> with_reducible rfl)
      try simp only [Act.put, tkS]
      refine wpAnyH_take (i := 12) (v := ?_) rfl (by kernel_rfl) (by kernel_rfl) (by kernel_rfl) (fun _ _ _ h => h) (Or.inl ⟨by kernel_rfl, ?_⟩) (by assumption) ?_
      rotate_left
      · (intro wS hSw; (try dsimp only at hSw); go_simp <;> with_reducible rfl)
      try simp only [Act.put, tkS]
      refine wpAnyH_take (i := 13) (v := ?_) rfl (by kernel_rfl) (by kernel_rfl) (by kernel_rfl) (fun _ _ _ h => h) (Or.inl ⟨by kernel_rfl, ?_⟩) (by assumption) ?_
      rotate_left
      · (intro wS hSw; (try dsimp only at hSw); go_simp <;> with_reducible rfl)
      try simp only [Act.put, tkS]
      refine wpAnyH_done (by kernel_rfl) ?_ _
      go_wp2_with fail
      clear hif0
      have BX : Hid (Below V.heap.size V wr.drew.drew) := HW.out.2.drew.drew
      generalize wr.drew.drew = X at *
      have hXB := BX.out
      obtain ⟨hcV, hru, hzg, hgV, hws, hcap⟩ := HCV.out
      have hru2 := hru.later hXB
      have hsx := hXB.size
      have hXL := HVB.out.later hXB
      have hgl : ∀ m, ∃ u, m < l.length * 2 → X.cell? ⟨rb, m, none⟩ = some u ∧ Rd X (fun d => (d ≠ g ∧ d < V.heap.size) ∧ z ≤ d) (lsF dRow l (m / 2) (m % 2)) u ∧ u.oneCell' = true := fun m => by
        by_cases hm : m < l.length * 2
        · obtain ⟨u, hu, hr⟩ := hru2.spotT (i := m / 2) (j := m % 2) (by omega) (by omega)
          rw [Nat.zero_add, Nat.div_add_mod'] at hu
          exact ⟨u, fun _ => ⟨hu, by rw [lsF_at (by omega)]; exact hr, row_one (by omega) hr⟩⟩
        · exact ⟨undef, fun h => absurd h hm⟩
      obtain ⟨gl, hgl⟩ := Classical.axiomOfChoice hgl
      have hrbX : ∀ m, m < l.length * 2 → rb < X.heap.size := fun m hm => World.block_lt_of_cell? X ⟨rb, m, none⟩ (hgl m hm).1
      obtain ⟨W1, hW1⟩ : ∃ W1, W1 = (X.alloc (.cells #[] 53)).drew := ⟨_, rfl⟩
      have bW1 : Below X.heap.size X W1 := by rw [hW1]; exact ((Below.refl _ _).alloc (Nat.le_refl _) _).drew
      have hs1 : SG W1 X.heap.size (fun d => d ≠ g ∧ z ≤ d) 53 2 (lsF dRow (l.take k ++ r :: l.drop k1)) 0 (.slice (some ⟨X.heap.size, 0, none⟩) 0 0) := SG.start (Nat.le_refl _) (by rw [hW1]; exact heap_newD _ _)
      obtain ⟨a1, c1, W2, hr7, hs2, hg2, hg2'⟩ := hs1.pushN (P := Try.prog) ⟨_, rfl⟩ 73 73 iS (.agg #[.int .i64 0, .slice none 0 0]) 32 Try.underlying73 HIS.out.1 HIS.out.2.1 HIS.out.2.2.1 HIS.out.2.2.2 rfl (by omega) ⟨rb, 0, none⟩ k rcap ((List.range (k * 2)).map gl) (by simp) (fun j u hj => by
          rw [List.getElem?_map, Option.map_eq_some_iff] at hj
          obtain ⟨m, hm, rfl⟩ := hj
          obtain ⟨hlt, rfl⟩ := List.getElem?_eq_some_iff.1 hm
          simp only [List.length_range] at hlt
          simp only [List.getElem_range]
          rw [Addr.add_mid, Nat.zero_add, bW1.cell (p := ⟨rb, j, none⟩) (hrbX j (by omega))]
          exact (hgl j (by omega)).1) (fun u hu => by
          simp only [List.mem_map, List.mem_range] at hu
          obtain ⟨m, hm, rfl⟩ := hu
          exact (hgl m (by omega)).2.2) (by unfold maxLen; omega) (by omega) bW1.size (fun q j hq hj => by
          have hlt : q * 2 + j < k * 2 := by omega
          refine ⟨gl (q * 2 + j), by simp [hlt], ?_⟩
          have h2 := (hgl (q * 2 + j) (by omega)).2.1
          rw [show (q * 2 + j) / 2 = q by omega, show (q * 2 + j) % 2 = j by omega, lsF_at (by omega)] at h2
          rw [Nat.zero_add, P_lt hk hq]
          refine (h2.later bW1).mono (fun d hd => ?_)
          have h3 := hd.1.2; have h4 := bW1.size
          exact ⟨⟨by simp only [Value.ownBlock, ne_eq, Option.some.injEq]; omega, by omega⟩, hd.1.1, hd.2⟩)
      rw [Nat.zero_add] at hr7 hs2 hg2'
      have bW2 : Below X.heap.size X W2 := below_grown bW1 hg2 (fun d e => by simp only [Value.ownBlock, Option.some.injEq] at e; omega) bW1.size
      obtain ⟨o1, ho1, ho1'⟩ := hg2'
      have hlo1 := (hs2.low ho1).1
      have CR := Lib.hid (OR.out W2 (hXL.bel.trans (bW2.mono hXL.bel.size)))
      have CE9 : Hid (∀ W, LpB w W (.slice (some ⟨g, 0, none⟩) x.tables.length rc) x.next rid (.slice sa r.cells.length sq) → W.cell? ⟨w.heap.size, 0, none⟩ = some (.slice (some ⟨g, 0, none⟩) x.tables.length rc) ∧ W.cell? ⟨w.heap.size + 1, 0, none⟩ = some (.int .i64 rid) ∧ W.cell? ⟨w.heap.size + 1, 1, none⟩ = some (.slice sa r.cells.length sq)) := fun W h => ⟨cell_at (o := 0) h.bx rfl, cell_at (o := 0) h.rb rfl, cell_at (o := 1) h.rb rfl⟩
      have BW0 : Hid (LpB w X.drew (.slice (some ⟨g, 0, none⟩) x.tables.length rc) x.next rid (.slice sa r.cells.length sq)) := ⟨hXL.bx, hXL.rb, hXL.rv, hXL.bel.drew⟩
      have BW1 := Lib.hid (hXL.later bW1)
      have BW2 := Lib.hid (hXL.later bW2)
      have RUN7 := Lib.hid hr7
      have HMEM := Lib.hid (And.intro hs2 (And.intro bW2 (And.intro ⟨o1, ho1⟩ hlo1)) : SG W2 X.heap.size (fun d => d ≠ g ∧ z ≤ d) 53 2 (lsF dRow (l.take k ++ r :: l.drop k1)) k (.slice a1 k c1) ∧ Below X.heap.size X W2 ∧ (∃ o, Value.ownBlock (.slice a1 k c1) = some o) ∧ X.heap.size ≤ o1)
      have HGL := Lib.hid (And.intro hgl hrbX)
      have HXL := Lib.hid hXL
      have hk1r : (k : Int) ≤ (rcap : Int) := by omega
      have hk0r : (0 : Int) ≤ (k : Int) := by omega
      rw [hW1] at RUN7 BW1
      clear hcV hru hru2 hgl hrbX hs1 hs2 hg2 ho1 ho1' hlo1 hr7 bW1 bW2 hW1 hXL hXB hzg hgV hws hsx
      go_wp2_with fail
      refine wp_region_held_drew (S := (fun W => W.cell? ⟨w.heap.size, 0, none⟩ = some (.slice (some ⟨g, 0, none⟩) x.tables.length rc) ∧ W.cell? ⟨w.heap.size + 1, 0, none⟩ = some (.int .i64 rid) ∧ W.cell? ⟨w.heap.size + 1, 1, none⟩ = some (.slice sa r.cells.length sq))) (by kernel_rfl) ?_ (fun hHeld => ?_)
      · (exact CE9.out _ (by first | exact BW0.out | exact BW1.out | exact BW2.out | exact BW3.out | exact BW4.out | exact BW5.out | exact BW6.out | exact BW7.out))
      refine wpAnyH_take (i := 0) (v := ?_) rfl (by kernel_rfl) (by kernel_rfl) (by kernel_rfl) (fun _ _ _ h => h) (Or.inl ⟨by kernel_rfl, ?_⟩) (by assumption) ?_
      rotate_left
      · (intro wS hSw; (try dsimp only at hSw); go_simp <;> with_reducible rfl)
      try simp only [Act.put, tkS]
      refine wpAnyH_take (i := 1) (v := ?_) rfl (by kernel_rfl) (by kernel_rfl) (by kernel_rfl) (fun _ _ _ h => h) (Or.inl ⟨by kernel_rfl, ?_⟩) (by assumption) ?_
      rotate_left
      · (intro wS hSw; (try dsimp only at hSw); go_simp <;> with_reducible rfl)
      try simp only [Act.put, tkS]
      refine wpAnyH_take (i := 2) (v := ?_) rfl (by kernel_rfl) (by kernel_rfl) (by kernel_rfl) (fun _ _ _ h => h) (Or.inl ⟨by kernel_rfl, ?_⟩) (by assumption) ?_
      rotate_left
      · (intro wS hSw; (try dsimp only at hSw); go_simp <;> with_reducible rfl)
      try simp only [Act.put, tkS]
      refine wpAnyH_take (i := 4) (v := ?_) rfl (by kernel_rfl) (by kernel_rfl) (by kernel_rfl) (fun _ _ _ h => h) (Or.inl ⟨by kernel_rfl, ?_⟩) (by assumption) ?_
      rotate_left
      · (intro wS hSw; (try dsimp only at hSw); go_simp <;> with_reducible rfl)
      try simp only [Act.put, tkS]
      refine wpAnyH_take (i := 5) (v := ?_) rfl (by kernel_rfl) (by kernel_rfl) (by kernel_rfl) (fun _ _ _ h => h) (Or.inl ⟨by kernel_rfl, ?_⟩) (by assumption) ?_
      rotate_left
      · (intro wS hSw; (try dsimp only at hSw); go_simp <;> with_reducible rfl)
      try simp only [Act.put, tkS]
      refine wpAnyH_take (i := 6) (v := ?_) rfl (by kernel_rfl) (by kernel_rfl) (by kernel_rfl) (fun _ _ _ h => h) (Or.inl ⟨by kernel_rfl, ?_⟩) (by assumption) ?_
      rotate_left
      · (intro wS hSw; (try dsimp only at hSw); go_simp <;> with_reducible rfl)
      try simp only [Act.put, tkS]
      refine wpAnyH_take (i := 8) (v := ?_) rfl (by kernel_rfl) (by kernel_rfl) (by kernel_rfl) (fun _ _ _ h => h) (Or.inl ⟨by kernel_rfl, ?_⟩) (by assumption) ?_
      rotate_left
      · (intro wS hSw; (try dsimp only at hSw); go_simp <;> with_reducible rfl)
      try simp only [Act.put, tkS]
      refine wpAnyH_take (i := 12) (v := ?_) rfl (by kernel_rfl) (by kernel_rfl) (by kernel_rfl) (fun _ _ _ h => h) (Or.inl ⟨by kernel_rfl, ?_⟩) (by assumption) ?_
      rotate_left
      · (intro wS hSw; (try dsimp only at hSw); go_simp <;> with_reducible rfl)
      try simp only [Act.put, tkS]
      refine wpAnyH_ready (rs := [3]) (by kernel_rfl) (by simp) (AllReadyH.cons rfl (fun K hK => ?_) AllReadyH.nil)
      go_simp
      refine hK.out _ _ ?_ (fun hHeld => ?_)
      · (exact CE9.out _ (by first | exact BW0.out | exact BW1.out | exact BW2.out | exact BW3.out | exact BW4.out | exact BW5.out | exact BW6.out | exact BW7.out))
      clear hK K
      try simp only [Act.put, tkS]
      refine wpAnyH_ready (rs := [7]) (by kernel_rfl) (by simp) (AllReadyH.cons rfl (fun K hK => ?_) AllReadyH.nil)
      refine step_append_is rfl (.tmp 57) (.tmp 60) 73 rfl _ _ (by rfl) (by rfl) _ _ RUN7.out ?_
      refine hK.out _ _ ?_ (fun hHeld => ?_)
      · (exact CE9.out _ (by first | exact BW0.out | exact BW1.out | exact BW2.out | exact BW3.out | exact BW4.out | exact BW5.out | exact BW6.out | exact BW7.out))
      clear hK K
      try simp only [Act.put, tkS]
      refine wpAnyH_ready (rs := [9]) (by kernel_rfl) (by simp) (AllReadyH.cons rfl (fun K hK => ?_) AllReadyH.nil)
      go_simp
      go_at_call 58
      refine CR.out.mono ?_
      rintro e W3 ⟨pa, pc, rfl, hrd3, hB3⟩
      obtain ⟨hs2, bW2, ⟨o2, ho2⟩, -⟩ := HMEM.out
      obtain ⟨hcV, hru, hzg, hgV, hws, hcap⟩ := HCV.out
      have bW3 : Below X.heap.size X W3 := bW2.trans (hB3.mono bW2.size)
      obtain ⟨W4, hW4⟩ : ∃ W4, W4 = W3.alloc (.cells #[.int .i64 rid, .slice pa r.cells.length pc] 53) := ⟨_, rfl⟩
      have b34 : Below W3.heap.size W3 W4 := by rw [hW4]; exact below_allocD _ _
      have b24 : Below W2.heap.size W2 W4 := hB3.trans (b34.mono hB3.size)
      have bW4 : Below X.heap.size X W4 := bW2.trans (b24.mono bW2.size)
      have hn4 : W4.heap[W3.heap.size]? = some (.cells #[.int .i64 rid, .slice pa r.cells.length pc] 53) := by rw [hW4]; exact heap_newD _ _
      have hsx := BX.out.size
      have hs2x := bW2.size
      obtain ⟨a3, c3, W5, hr11, hs5, hg5, hg5'⟩ := (hs2.later b24).push (P := Try.prog) 73 73 iS (.agg #[.int .i64 0, .slice none 0 0]) 32 Try.underlying73 HIS.out.1 HIS.out.2.1 HIS.out.2.2.1 HIS.out.2.2.2 rfl (by omega) ⟨W3.heap.size, 0, none⟩ 1 [.int .i64 rid, .slice pa r.cells.length pc] rfl (fun j u hj => by
          have hj2 : j = 0 ∨ j = 1 := by
            have := (List.getElem?_eq_some_iff.1 hj).1
            simp only [List.length_cons, List.length_nil] at this
            omega
          rw [Addr.add_mid, Nat.zero_add]
          refine cell_at (o := j) hn4 ?_
          rcases hj2 with rfl | rfl
          · exact hj
          · exact hj) (fun u hu => by simp only [List.mem_cons, List.not_mem_nil, or_false] at hu; rcases hu with rfl | rfl <;> rfl) (by unfold maxLen; omega) (by omega) (by have := bW4.size; omega) (fun j hj => by
          rw [P_eq hk]
          rcases (by omega : j = 0 ∨ j = 1) with rfl | rfl
          · exact ⟨_, rfl, by show _ = _; rw [HRID.out]⟩
          · refine ⟨_, rfl, ?_⟩
            refine (hrd3.later b34).mono (fun q hq => ?_)
            have h1 := hq.1; have h2 := hq.2; have h3 := b34.size
            refine ⟨⟨fun e => ?_, by omega⟩, by omega, by omega⟩
            have := (hs2.low e).2
            omega)
      have bW5 : Below X.heap.size X W5 := below_grown bW4 hg5 (fun d e => (hs2.low e).1) bW4.size
      obtain ⟨o5, ho5, -⟩ := hg5'
      have hlo5 := (hs5.low ho5).1
      obtain ⟨a4, c4, W6, hr13, hs6, hg6, hg6'⟩ := hs5.pushN (P := Try.prog) ⟨_, ho5⟩ 73 73 iS (.agg #[.int .i64 0, .slice none 0 0]) 32 Try.underlying73 HIS.out.1 HIS.out.2.1 HIS.out.2.2.1 HIS.out.2.2.2 rfl (by omega) (if rcap = k1 then ⟨rb, 0, none⟩ else ⟨rb, k1 * 2, none⟩) (l.length - k1) (rcap - k1) ((List.range ((l.length - k1) * 2)).map (fun m => gl (k1 * 2 + m))) (by simp) (fun j u hj => by
          rw [List.getElem?_map, Option.map_eq_some_iff] at hj
          obtain ⟨m, hm, rfl⟩ := hj
          obtain ⟨hlt, rfl⟩ := List.getElem?_eq_some_iff.1 hm
          simp only [List.length_range] at hlt
          simp only [List.getElem_range]
          rw [if_neg (by omega), Addr.add_mid, bW5.cell (p := ⟨rb, k1 * 2 + j, none⟩) (HGL.out.2 (k1 * 2 + j) (by omega))]
          exact (HGL.out.1 (k1 * 2 + j) (by omega)).1) (fun u hu => by
          simp only [List.mem_map, List.mem_range] at hu
          obtain ⟨m, hm, rfl⟩ := hu
          exact (HGL.out.1 (k1 * 2 + m) (by omega)).2.2) (by unfold maxLen; have := HTK.out; omega) (by have := HTK.out; omega) (by have := bW5.size; omega) (fun q j hq hj => by
          have hlt : q * 2 + j < (l.length - k1) * 2 := by omega
          refine ⟨gl (k1 * 2 + (q * 2 + j)), by simp [hlt], ?_⟩
          have h2 := (HGL.out.1 (k1 * 2 + (q * 2 + j)) (by omega)).2.1
          rw [show (k1 * 2 + (q * 2 + j)) / 2 = k1 + q by omega, show (k1 * 2 + (q * 2 + j)) % 2 = j by omega, lsF_at (by omega)] at h2
          rw [P_gt hk hq]
          refine (h2.later bW5).mono (fun d hd => ?_)
          have h3 := hd.1.2; have h4 := bW5.size
          exact ⟨⟨by rw [ho5]; simp only [ne_eq, Option.some.injEq]; omega, by omega⟩, hd.1.1, hd.2⟩)
      have bW6 : Below X.heap.size X W6 := below_grown bW5 hg6 (fun d e => (hs5.low e).1) bW5.size
      rw [← P_len (r := r) (t := k1) hk] at hr13 hs6 hg6'
      have hnew : Rd W6 (fun d => (d ≠ g ∧ d < W6.heap.size) ∧ z ≤ d) (dRowS (l.take k ++ r :: l.drop k1)) (.slice a4 (l.take k ++ r :: l.drop k1).length c4) := (hs6.rd (by omega) (fun d e => by have := (hs6.low e).1; exact ⟨by omega, by omega⟩)).mono (fun d hd => ⟨⟨hd.1.1, hd.2⟩, hd.1.2⟩)
      have bV6 : Below V.heap.size V W6 := BX.out.trans (bW6.mono BX.out.size)
      have hfin := rd_put (c := rc) (G := fun d => z ≤ d) hzg hi (by have := bV6.size; omega) (fun j hj => by
        obtain ⟨u, h1, -, -, h2⟩ := hcV j 0 hj (by omega)
        rw [Nat.mul_one, Nat.add_zero] at h1
        exact ⟨u, (bV6.cell (p := ⟨g, j, none⟩) hgV).trans h1, (h2.later bV6).mono (fun d hd => ⟨⟨hd.1.1, by have := hd.1.2; have := bV6.size; omega⟩, hd.2⟩)⟩) hnew
      rw [← HPT.out, show (putL l r).length = (l.take k ++ r :: l.drop k1).length by rw [HPT.out]] at hfin
      have HFIN := Lib.hid (And.intro hfin hws)
      have b6 := HXL.out.later bW6
      have b7 : LpB w (W6.setCell ⟨g, i, none⟩ (.slice a4 (l.take k ++ r :: l.drop k1).length c4)) (.slice (some ⟨g, 0, none⟩) x.tables.length rc) x.next rid (.slice sa r.cells.length sq) := ⟨by rw [Below.heap_setCell _ _ _ _ (by show w.heap.size ≠ g; omega)]; exact b6.bx, by rw [Below.heap_setCell _ _ _ _ (by show w.heap.size + 1 ≠ g; omega)]; exact b6.rb, by rw [Below.heap_setCell _ _ _ _ (by show w.heap.size + 1 + 1 ≠ g; omega)]; exact b6.rv, b6.bel.setCell (by show w.heap.size ≤ g; omega) _⟩
      have BW3 := Lib.hid (HXL.out.later bW3)
      have BW4 := Lib.hid (HXL.out.later bW4)
      have BW5 := Lib.hid (HXL.out.later bW5)
      have BW6 := Lib.hid b6
      have BW7 := Lib.hid b7
      have p6 := (bV6.cell (p := ⟨g, i, none⟩) hgV).trans HCU.out
      have q6 : W6.frozen? ⟨g, i, none⟩ = false := by
        have hbk := bV6.block g hgV
        have zu := HZU.out
        unfold World.frozen? at zu ⊢
        simp only at zu ⊢
        rw [hbk]; exact zu
      have hiff : (some (if rcap = k1 then (⟨rb, 0, none⟩ : Addr) else ⟨rb, k1 * 2, none⟩)) = ad := by rw [← hif]; split <;> rfl
      rw [hiff] at hr13
      have RUN11 := Lib.hid hr11
      have RUN13 := Lib.hid hr13
      rw [hW4] at RUN11 BW4
      clear hs2 bW2 ho2 hcV hru hzg hgV hws hcap bW3 b34 b24 bW4 hn4 hs5 hg5 bW5 ho5 hlo5 hs6 hg6 hg6' bW6 hnew bV6 hfin b6 b7 hr11 hr13 hrd3 hB3 hW4 hiff hsx hs2x
      generalize (l.take k ++ r :: l.drop k1).length = n1 at *
      refine hK.out _ _ ?_ (fun hHeld => ?_)
      · (exact CE9.out _ (by first | exact BW0.out | exact BW1.out | exact BW2.out | exact BW3.out | exact BW4.out | exact BW5.out | exact BW6.out | exact BW7.out))
      clear hK K
      try simp only [Act.put, tkS]
      refine wpAnyH_ready (rs := [10]) (by kernel_rfl) (by simp) (AllReadyH.cons rfl (fun K hK => ?_) AllReadyH.nil)
      go_simp
      refine hK.out _ _ ?_ (fun hHeld => ?_)
      · (exact CE9.out _ (by first | exact BW0.out | exact BW1.out | exact BW2.out | exact BW3.out | exact BW4.out | exact BW5.out | exact BW6.out | exact BW7.out))
      clear hK K
      try simp only [Act.put, tkS]
      refine wpAnyH_ready (rs := [11]) (by kernel_rfl) (by simp) (AllReadyH.cons rfl (fun K hK => ?_) AllReadyH.nil)
      refine step_append_is rfl (.tmp 61) (.tmp 64) 73 rfl _ _ (by rfl) (by rfl) _ _ RUN11.out ?_
      refine hK.out _ _ ?_ (fun hHeld => ?_)
      · (exact CE9.out _ (by first | exact BW0.out | exact BW1.out | exact BW2.out | exact BW3.out | exact BW4.out | exact BW5.out | exact BW6.out | exact BW7.out))
      clear hK K
      try simp only [Act.put, tkS]
      refine wpAnyH_ready (rs := [13]) (by kernel_rfl) (by simp) (AllReadyH.cons rfl (fun K hK => ?_) AllReadyH.nil)
      refine step_append_is rfl (.tmp 65) (.tmp 66) 73 rfl _ _ (by rfl) (by rfl) _ _ RUN13.out ?_
      refine hK.out _ _ ?_ (fun hHeld => ?_)
      · (exact CE9.out _ (by first | exact BW0.out | exact BW1.out | exact BW2.out | exact BW3.out | exact BW4.out | exact BW5.out | exact BW6.out | exact BW7.out))
      clear hK K
      try simp only [Act.put, tkS]
      refine wpAnyH_take (i := 14) (v := ?_) rfl (by kernel_rfl) (by kernel_rfl) (by kernel_rfl) (fun _ _ _ h => h) (Or.inl ⟨by kernel_rfl, ?_⟩) (by assumption) ?_
      rotate_left
      · (intro wS hSw; (try dsimp only at hSw); go_simp <;> with_reducible rfl)
      try simp only [Act.put, tkS]
      refine wpAnyH_ready (rs := [15]) (by kernel_rfl) (by simp) (AllReadyH.cons rfl (fun K hK => ?_) AllReadyH.nil)
      go_simp
      refine hK.out _ _ ?_ (fun hHeld => ?_)
      · (exact CE9.out _ (by first | exact BW0.out | exact BW1.out | exact BW2.out | exact BW3.out | exact BW4.out | exact BW5.out | exact BW6.out | exact BW7.out))
      clear hK K
      try simp only [Act.put, tkS]
      refine wpAnyH_done (by kernel_rfl) ?_ _
      have m0 := cell_at (o := 0) BW7.out.bx rfl
      have m1 := cell_at (o := 1) BW7.out.bx rfl
      have r0 := cell_at (o := 0) BW7.out.rv rfl
      have r1 := cell_at (o := 1) BW7.out.rv rfl
      have g0 := frozen_at 0 BW7.out.rv
      have g1 := frozen_at 1 BW7.out.rv
      clear p6 q6 hif
      go_wp2_with fail
      refine bodyPost_ret (v := .agg #[.slice (some ⟨g, 0, none⟩) x.tables.length rc, .int .i64 x.next]) (by simp [results, Try.results43, go_sem, *]) rfl ?_
      refine ⟨some ⟨g, 0, none⟩, rc, rfl, ?_, (BW7.out.bel.setCell (by simp <;> omega) _).setCell (by simp <;> omega) _⟩
      have hz := HFIN.out.2
      have hfr2 : Frm (· = w.heap.size + 1 + 1) (W6.setCell ⟨g, i, none⟩ (.slice a4 n1 c4)) (((W6.setCell ⟨g, i, none⟩ (.slice a4 n1 c4)).setCell ⟨w.heap.size + 1 + 1, 0, none⟩ (.slice (some ⟨g, 0, none⟩) x.tables.length rc)).setCell ⟨w.heap.size + 1 + 1, 1, none⟩ (.int .i64 x.next)) := (frm_set _ _ _ _).trans (frm_set _ _ _ _)
      have h9 := HFIN.out.1.frm hfr2 (fun b hb e => by have h1 := hb.1; have e' : b = w.heap.size + 1 + 1 := e; omega)
      rw [HLL.out]
      exact h9.mono (fun b hb => ⟨by have h1 : z ≤ b := hb.1; omega, by have := hb.2; simpa using this⟩)
    · have heqb : (l[k].id == r.id) = false := by simpa using heq
      have HTK : Hid (k ≤ k ∧ k + 1 + (l.length - k) ≤ 1048577) := ⟨Nat.le_refl _, by omega⟩
      have HPT : Hid (putL l r = l.take k ++ r :: l.drop k) := putL_at hk HW.out.1 (fun _ => hcmp) (.inr ⟨rfl, fun _ => heq⟩)
      clear hcmp heq
      generalize hy : l[k].id = y at *
      clear hy
      generalize hrid : r.id = rid at *
      have HRID := Lib.hid hrid
      clear hrid
      have hif : (if rcap = k then some (⟨rb, 0, none⟩ : Addr) else some ⟨rb, k * 2, none⟩) = some ⟨rb, k * 2, none⟩ := if_neg (by have := HCV.out.2.2.2.2.2; omega)
      have hkn : (k : Int) ≤ (l.length : Int) := by omega
      have hk00 : (0 : Int) ≤ (k : Int) := by omega
      go_wp2_with fail
      refine wp_region_held_drew (S := (fun W => W.cell? ⟨w.heap.size + 1, 0, none⟩ = some (.int .i64 rid) ∧ W.cell? ⟨rb, k * 2, none⟩ = some (.int .i64 y))) (by kernel_rfl) ?_ (fun hHeld => ?_)
      · (first | exact CE.out _ hx | exact CE.out _ hx.drew | exact CE.out _ hx.drew.drew)
      refine wpAnyH_take (i := 0) (v := ?_) rfl (by kernel_rfl) (by kernel_rfl) (by kernel_rfl) (fun _ _ _ h => h) (Or.inl ⟨by kernel_rfl, ?_⟩) (by assumption) ?_
      rotate_left
      · (intro wS hSw; (try dsimp only at hSw); go_simp <;> with_reducible rfl)
      try simp only [Act.put, tkS]
      refine wpAnyH_take (i := 1) (v := ?_) rfl (by kernel_rfl) (by kernel_rfl) (by kernel_rfl) (fun _ _ _ h => h) (Or.inl ⟨by kernel_rfl, ?_⟩) (by assumption) ?_
      rotate_left
      · (intro wS hSw; (try dsimp only at hSw); go_simp <;> with_reducible rfl)
      try simp only [Act.put, tkS]
      refine wpAnyH_take (i := 2) (v := ?_) rfl (by kernel_rfl) (by kernel_rfl) (by kernel_rfl) (fun _ _ _ h => h) (Or.inl ⟨by kernel_rfl, ?_⟩) (by assumption) ?_
      rotate_left
      · (intro wS hSw; (try dsimp only at hSw); go_simp <;> with_reducible rfl)
      try simp only [Act.put, tkS]
      refine wpAnyH_take (i := 3) (v := ?_) rfl (by kernel_rfl) (by kernel_rfl) (by kernel_rfl) (fun _ _ _ h => h) (Or.inl ⟨by kernel_rfl, ?_⟩) (by assumption) ?_
      rotate_left
      · (intro wS hSw; (try dsimp only at hSw); go_simp <;> with_reducible rfl)
      try simp only [Act.put, tkS]
      refine wpAnyH_take (i := 4) (v := ?_) rfl (by kernel_rfl) (by kernel_rfl) (by kernel_rfl) (fun _ _ _ h => h) (Or.inl ⟨by kernel_rfl, ?_⟩) (by assumption) ?_
      rotate_left
      · (intro wS hSw; (try dsimp only at hSw); go_simp <;> with_reducible rfl)
      try simp only [Act.put, tkS]
      refine wpAnyH_take (i := 5) (v := ?_) rfl (by kernel_rfl) (by kernel_rfl) (by kernel_rfl) (fun _ _ _ h => h) (Or.inl ⟨by kernel_rfl, ?_⟩) (by assumption) ?_
      rotate_left
      · (intro wS hSw; (try dsimp only at hSw); go_simp <;> with_reducible rfl)
      try simp only [Act.put, tkS]
      refine wpAnyH_take (i := 6) (v := ?_) rfl (by kernel_rfl) (by kernel_rfl) (by kernel_rfl) (fun _ _ _ h => h) (Or.inl ⟨by kernel_rfl, ?_⟩) (by assumption) ?_
      rotate_left
      · (intro wS hSw; (try dsimp only at hSw); go_simp <;> with_reducible rfl)
      try simp only [Act.put, tkS]
      refine wpAnyH_take (i := 7) (v := ?_) rfl (by kernel_rfl) (by kernel_rfl) (by kernel_rfl) (fun _ _ _ h => h) (Or.inl ⟨by kernel_rfl, ?_⟩) (by assumption) ?_
      rotate_left
      · (intro wS hSw; (try dsimp only at hSw); go_simp <;> with_reducible rfl)
      try simp only [Act.put, tkS]
      refine wpAnyH_take (i := 8) (v := ?_) rfl (by kernel_rfl) (by kernel_rfl) (by kernel_rfl) (fun _ _ _ h => h) (Or.inl ⟨by kernel_rfl, ?_⟩) (by assumption) ?_
      rotate_left
      · (intro wS hSw; (try dsimp only at hSw); go_simp <;> with_reducible rfl)
      try simp only [Act.put, tkS]
      refine wpAnyH_take (i := 9) (v := ?_) rfl (by kernel_rfl) (by kernel_rfl) (by kernel_rfl) (fun _ _ _ h => h) (Or.inl ⟨by kernel_rfl, ?_⟩) (by assumption) ?_
      rotate_left
      · (intro wS hSw; (try dsimp only at hSw); go_simp <;> with_reducible rfl)
      try simp only [Act.put, tkS]
      refine wpAnyH_take (i := 10) (v := ?_) rfl (by kernel_rfl) (by kernel_rfl) (by kernel_rfl) (fun _ _ _ h => h) (Or.inl ⟨by kernel_rfl, ?_⟩) (by assumption) ?_
      rotate_left
      · (intro wS hSw; (try dsimp only at hSw); go_simp <;> with_reducible rfl)
      try simp only [Act.put, tkS]
      refine wpAnyH_take (i := 11) (v := ?_) rfl (by kernel_rfl) (by kernel_rfl) (by kernel_rfl) (fun _ _ _ h => h) (Or.inl ⟨by kernel_rfl, ?_⟩) (by assumption) ?_
      rotate_left
      · (intro wS hSw; (try dsimp only at hSw); go_simp <;> with_reducible rfl)
      try simp only [Act.put, tkS]
      refine wpAnyH_take (i := 12) (v := ?_) rfl (by kernel_rfl) (by kernel_rfl) (by kernel_rfl) (fun _ _ _ h => h) (Or.inl ⟨by kernel_rfl, ?_⟩) (by assumption) ?_
      rotate_left
      · (intro wS hSw; (try dsimp only at hSw); go_simp <;> with_reducible rfl)
      try simp only [Act.put, tkS]
      refine wpAnyH_take (i := 13) (v := ?_) rfl (by kernel_rfl) (by kernel_rfl) (by kernel_rfl) (fun _ _ _ h => h) (Or.inl ⟨by kernel_rfl, ?_⟩) (by assumption) ?_
      rotate_left
      · (intro wS hSw; (try dsimp only at hSw); go_simp <;> with_reducible rfl)
      try simp only [Act.put, tkS]
      refine wpAnyH_done (by kernel_rfl) ?_ _
      go_wp2_with fail
      refine wp_region_held_drew (S := (fun W => W.cell? ⟨w.heap.size + 1, 0, none⟩ = some (.int .i64 rid) ∧ W.cell? ⟨rb, k * 2, none⟩ = some (.int .i64 y))) (by kernel_rfl) ?_ (fun hHeld => ?_)
      · (first | exact CE.out _ hx | exact CE.out _ hx.drew | exact CE.out _ hx.drew.drew)
      refine wpAnyH_take (i := 0) (v := ?_) rfl (by kernel_rfl) (by kernel_rfl) (by kernel_rfl) (fun _ _ _ h => h) (Or.inl ⟨by kernel_rfl, ?_⟩) (by assumption) ?_
      rotate_left
      · (intro wS hSw; (try dsimp only at hSw); go_simp <;> with_reducible rfl)
      try simp only [Act.put, tkS]
      refine wpAnyH_take (i := 1) (v := ?_) rfl (by kernel_rfl) (by kernel_rfl) (by kernel_rfl) (fun _ _ _ h => h) (Or.inl ⟨by kernel_rfl, ?_⟩) (by assumption) ?_
      rotate_left
      · (intro wS hSw; (try dsimp only at hSw); go_simp <;> with_reducible rfl)
      try simp only [Act.put, tkS]
      refine wpAnyH_take (i := 2) (v := ?_) rfl (by kernel_rfl) (by kernel_rfl) (by kernel_rfl) (fun _ _ _ h => h) (Or.inl ⟨by kernel_rfl, ?_⟩) (by assumption) ?_
      rotate_left
      · (intro wS hSw; (try dsimp only at hSw); go_simp <;> with_reducible rfl)
      try simp only [Act.put, tkS]
      refine wpAnyH_take (i := 3) (v := ?_) rfl (by kernel_rfl) (by kernel_rfl) (by kernel_rfl) (fun _ _ _ h => h) (Or.inl ⟨by kernel_rfl, ?_⟩) (by assumption) ?_
      rotate_left
      · (intro wS hSw; (try dsimp only at hSw); go_simp <;> with_reducible rfl)
      try simp only [Act.put, tkS]
      refine wpAnyH_take (i := 4) (v := ?_) rfl (by kernel_rfl) (by kernel_rfl) (by kernel_rfl) (fun _ _ _ h => h) (Or.inl ⟨by kernel_rfl, ?_⟩) (by assumption) ?_
      rotate_left
      · (intro wS hSw; (try dsimp only at hSw); go_simp <;> with_reducible rfl)
      try simp only [Act.put, tkS]
      refine wpAnyH_take (i := 5) (v := ?_) rfl (by kernel_rfl) (by kernel_rfl) (by kernel_rfl) (fun _ _ _ h => h) (Or.inl ⟨by kernel_rfl, ?_⟩) (by assumption) ?_
      rotate_left
      · (intro wS hSw; (try dsimp only at hSw); go_simp <;> with_reducible rfl)
      try simp only [Act.put, tkS]
      refine wpAnyH_take (i := 6) (v := ?_) rfl (by kernel_rfl) (by kernel_rfl) (by kernel_rfl) (fun _ _ _ h => h) (Or.inl ⟨by kernel_rfl, ?_⟩) (by assumption) ?_
      rotate_left
      · (intro wS hSw; (try dsimp only at hSw); go_simp <;> with_reducible rfl)
      try simp only [Act.put, tkS]
      refine wpAnyH_take (i := 7) (v := ?_) rfl (by kernel_rfl) (by kernel_rfl) (by kernel_rfl) (fun _ _ _ h => h) (Or.inl ⟨by kernel_rfl, ?_⟩) (by assumption) ?_
      rotate_left
      · (intro wS hSw; (try dsimp only at hSw); go_simp <;> with_reducible rfl)
      try simp only [Act.put, tkS]
      refine wpAnyH_take (i := 8) (v := ?_) rfl (by kernel_rfl) (by kernel_rfl) (by kernel_rfl) (fun _ _ _ h => h) (Or.inl ⟨by kernel_rfl, ?_⟩) (by assumption) ?_
      rotate_left
      · (intro wS hSw; (try dsimp only at hSw); go_simp <;> with_reducible rfl)
      try simp only [Act.put, tkS]
      refine wpAnyH_take (i := 9) (v := ?_) rfl (by kernel_rfl) (by kernel_rfl) (by kernel_rfl) (fun _ _ _ h => h) (Or.inl ⟨by kernel_rfl, ?_⟩) (by assumption) ?_
      rotate_left
      · (intro wS hSw; (try dsimp only at hSw); go_simp <;> with_reducible rfl)
      try simp only [Act.put, tkS]
      refine wpAnyH_take (i := 10) (v := ?_) rfl (by kernel_rfl) (by kernel_rfl) (by kernel_rfl) (fun _ _ _ h => h) (Or.inl ⟨by kernel_rfl, ?_⟩) (by assumption) ?_
      rotate_left
      · (intro wS hSw; (try dsimp only at hSw); go_simp <;> with_reducible rfl)
      try simp only [Act.put, tkS]
      refine wpAnyH_take (i := 11) (v := ?_) rfl (by kernel_rfl) (by kernel_rfl) (by kernel_rfl) (fun _ _ _ h => h) (Or.inl ⟨by kernel_rfl, ?_⟩) (by assumption) ?_
      rotate_left
      · (intro wS hSw; (try dsimp only at hSw); go_simp <;> with_reducible rfl)
      try simp only [Act.put, tkS]
      refine wpAnyH_take (i := 12) (v := ?_) rfl (by kernel_rfl) (by kernel_rfl) (by kernel_rfl) (fun _ _ _ h => h) (Or.inl ⟨by kernel_rfl, ?_⟩) (by assumption) ?_
      rotate_left
      · (intro wS hSw; (try dsimp only at hSw); go_simp <;> with_reducible rfl)
      try simp only [Act.put, tkS]
      refine wpAnyH_take (i := 13) (v := ?_) rfl (by kernel_rfl) (by kernel_rfl) (by kernel_rfl) (fun _ _ _ h => h) (Or.inl ⟨by kernel_rfl, ?_⟩) (by assumption) ?_
      rotate_left
      · (intro wS hSw; (try dsimp only at hSw); go_simp <;> with_reducible rfl)
      try simp only [Act.put, tkS]
      refine wpAnyH_done (by kernel_rfl) ?_ _
      go_wp2_with fail
      have BX : Hid (Below V.heap.size V wr.drew.drew) := HW.out.2.drew.drew
      generalize wr.drew.drew = X at *
      have hXB := BX.out
      obtain ⟨hcV, hru, hzg, hgV, hws, hcap⟩ := HCV.out
      have hru2 := hru.later hXB
      have hsx := hXB.size
      have hXL := HVB.out.later hXB
      have hgl : ∀ m, ∃ u, m < l.length * 2 → X.cell? ⟨rb, m, none⟩ = some u ∧ Rd X (fun d => (d ≠ g ∧ d < V.heap.size) ∧ z ≤ d) (lsF dRow l (m / 2) (m % 2)) u ∧ u.oneCell' = true := fun m => by
        by_cases hm : m < l.length * 2
        · obtain ⟨u, hu, hr⟩ := hru2.spotT (i := m / 2) (j := m % 2) (by omega) (by omega)
          rw [Nat.zero_add, Nat.div_add_mod'] at hu
          exact ⟨u, fun _ => ⟨hu, by rw [lsF_at (by omega)]; exact hr, row_one (by omega) hr⟩⟩
        · exact ⟨undef, fun h => absurd h hm⟩
      obtain ⟨gl, hgl⟩ := Classical.axiomOfChoice hgl
      have hrbX : ∀ m, m < l.length * 2 → rb < X.heap.size := fun m hm => World.block_lt_of_cell? X ⟨rb, m, none⟩ (hgl m hm).1
      obtain ⟨W1, hW1⟩ : ∃ W1, W1 = (X.alloc (.cells #[] 53)).drew := ⟨_, rfl⟩
      have bW1 : Below X.heap.size X W1 := by rw [hW1]; exact ((Below.refl _ _).alloc (Nat.le_refl _) _).drew
      have hs1 : SG W1 X.heap.size (fun d => d ≠ g ∧ z ≤ d) 53 2 (lsF dRow (l.take k ++ r :: l.drop k)) 0 (.slice (some ⟨X.heap.size, 0, none⟩) 0 0) := SG.start (Nat.le_refl _) (by rw [hW1]; exact heap_newD _ _)
      obtain ⟨a1, c1, W2, hr7, hs2, hg2, hg2'⟩ := hs1.pushN (P := Try.prog) ⟨_, rfl⟩ 73 73 iS (.agg #[.int .i64 0, .slice none 0 0]) 32 Try.underlying73 HIS.out.1 HIS.out.2.1 HIS.out.2.2.1 HIS.out.2.2.2 rfl (by omega) ⟨rb, 0, none⟩ k rcap ((List.range (k * 2)).map gl) (by simp) (fun j u hj => by
          rw [List.getElem?_map, Option.map_eq_some_iff] at hj
          obtain ⟨m, hm, rfl⟩ := hj
          obtain ⟨hlt, rfl⟩ := List.getElem?_eq_some_iff.1 hm
          simp only [List.length_range] at hlt
          simp only [List.getElem_range]
          rw [Addr.add_mid, Nat.zero_add, bW1.cell (p := ⟨rb, j, none⟩) (hrbX j (by omega))]
          exact (hgl j (by omega)).1) (fun u hu => by
          simp only [List.mem_map, List.mem_range] at hu
          obtain ⟨m, hm, rfl⟩ := hu
          exact (hgl m (by omega)).2.2) (by unfold maxLen; omega) (by omega) bW1.size (fun q j hq hj => by
          have hlt : q * 2 + j < k * 2 := by omega
          refine ⟨gl (q * 2 + j), by simp [hlt], ?_⟩
          have h2 := (hgl (q * 2 + j) (by omega)).2.1
          rw [show (q * 2 + j) / 2 = q by omega, show (q * 2 + j) % 2 = j by omega, lsF_at (by omega)] at h2
          rw [Nat.zero_add, P_lt hk hq]
          refine (h2.later bW1).mono (fun d hd => ?_)
          have h3 := hd.1.2; have h4 := bW1.size
          exact ⟨⟨by simp only [Value.ownBlock, ne_eq, Option.some.injEq]; omega, by omega⟩, hd.1.1, hd.2⟩)
      rw [Nat.zero_add] at hr7 hs2 hg2'
      have bW2 : Below X.heap.size X W2 := below_grown bW1 hg2 (fun d e => by simp only [Value.ownBlock, Option.some.injEq] at e; omega) bW1.size
      obtain ⟨o1, ho1, ho1'⟩ := hg2'
      have hlo1 := (hs2.low ho1).1
      have CR := Lib.hid (OR.out W2 (hXL.bel.trans (bW2.mono hXL.bel.size)))
      have CE9 : Hid (∀ W, LpB w W (.slice (some ⟨g, 0, none⟩) x.tables.length rc) x.next rid (.slice sa r.cells.length sq) → W.cell? ⟨w.heap.size, 0, none⟩ = some (.slice (some ⟨g, 0, none⟩) x.tables.length rc) ∧ W.cell? ⟨w.heap.size + 1, 0, none⟩ = some (.int .i64 rid) ∧ W.cell? ⟨w.heap.size + 1, 1, none⟩ = some (.slice sa r.cells.length sq)) := fun W h => ⟨cell_at (o := 0) h.bx rfl, cell_at (o := 0) h.rb rfl, cell_at (o := 1) h.rb rfl⟩
      have BW0 : Hid (LpB w X.drew (.slice (some ⟨g, 0, none⟩) x.tables.length rc) x.next rid (.slice sa r.cells.length sq)) := ⟨hXL.bx, hXL.rb, hXL.rv, hXL.bel.drew⟩
      have BW1 := Lib.hid (hXL.later bW1)
      have BW2 := Lib.hid (hXL.later bW2)
      have RUN7 := Lib.hid hr7
      have HMEM := Lib.hid (And.intro hs2 (And.intro bW2 (And.intro ⟨o1, ho1⟩ hlo1)) : SG W2 X.heap.size (fun d => d ≠ g ∧ z ≤ d) 53 2 (lsF dRow (l.take k ++ r :: l.drop k)) k (.slice a1 k c1) ∧ Below X.heap.size X W2 ∧ (∃ o, Value.ownBlock (.slice a1 k c1) = some o) ∧ X.heap.size ≤ o1)
      have HGL := Lib.hid (And.intro hgl hrbX)
      have HXL := Lib.hid hXL
      have hk1r : (k : Int) ≤ (rcap : Int) := by omega
      have hk0r : (0 : Int) ≤ (k : Int) := by omega
      rw [hW1] at RUN7 BW1
      clear hcV hru hru2 hgl hrbX hs1 hs2 hg2 ho1 ho1' hlo1 hr7 bW1 bW2 hW1 hXL hXB hzg hgV hws hsx
      go_wp2_with fail
      refine wp_region_held_drew (S := (fun W => W.cell? ⟨w.heap.size, 0, none⟩ = some (.slice (some ⟨g, 0, none⟩) x.tables.length rc) ∧ W.cell? ⟨w.heap.size + 1, 0, none⟩ = some (.int .i64 rid) ∧ W.cell? ⟨w.heap.size + 1, 1, none⟩ = some (.slice sa r.cells.length sq))) (by kernel_rfl) ?_ (fun hHeld => ?_)
      · (exact CE9.out _ (by first | exact BW0.out | exact BW1.out | exact BW2.out | exact BW3.out | exact BW4.out | exact BW5.out | exact BW6.out | exact BW7.out))
      refine wpAnyH_take (i := 0) (v := ?_) rfl (by kernel_rfl) (by kernel_rfl) (by kernel_rfl) (fun _ _ _ h => h) (Or.inl ⟨by kernel_rfl, ?_⟩) (by assumption) ?_
      rotate_left
      · (intro wS hSw; (try dsimp only at hSw); go_simp <;> with_reducible rfl)
      try simp only [Act.put, tkS]
      refine wpAnyH_take (i := 1) (v := ?_) rfl (by kernel_rfl) (by kernel_rfl) (by kernel_rfl) (fun _ _ _ h => h) (Or.inl ⟨by kernel_rfl, ?_⟩) (by assumption) ?_
      rotate_left
      · (intro wS hSw; (try dsimp only at hSw); go_simp <;> with_reducible rfl)
      try simp only [Act.put, tkS]
      refine wpAnyH_take (i := 2) (v := ?_) rfl (by kernel_rfl) (by kernel_rfl) (by kernel_rfl) (fun _ _ _ h => h) (Or.inl ⟨by kernel_rfl, ?_⟩) (by assumption) ?_
      rotate_left
      · (intro wS hSw; (try dsimp only at hSw); go_simp <;> with_reducible rfl)
      try simp only [Act.put, tkS]
      refine wpAnyH_take (i := 4) (v := ?_) rfl (by kernel_rfl) (by kernel_rfl) (by kernel_rfl) (fun _ _ _ h => h) (Or.inl ⟨by kernel_rfl, ?_⟩) (by assumption) ?_
      rotate_left
      · (intro wS hSw; (try dsimp only at hSw); go_simp <;> with_reducible rfl)
      try simp only [Act.put, tkS]
      refine wpAnyH_take (i := 5) (v := ?_) rfl (by kernel_rfl) (by kernel_rfl) (by kernel_rfl) (fun _ _ _ h => h) (Or.inl ⟨by kernel_rfl, ?_⟩) (by assumption) ?_
      rotate_left
      · (intro wS hSw; (try dsimp only at hSw); go_simp <;> with_reducible rfl)
      try simp only [Act.put, tkS]
      refine wpAnyH_take (i := 6) (v := ?_) rfl (by kernel_rfl) (by kernel_rfl) (by kernel_rfl) (fun _ _ _ h => h) (Or.inl ⟨by kernel_rfl, ?_⟩) (by assumption) ?_
      rotate_left
      · (intro wS hSw; (try dsimp only at hSw); go_simp <;> with_reducible rfl)
      try simp only [Act.put, tkS]
      refine wpAnyH_take (i := 8) (v := ?_) rfl (by kernel_rfl) (by kernel_rfl) (by kernel_rfl) (fun _ _ _ h => h) (Or.inl ⟨by kernel_rfl, ?_⟩) (by assumption) ?_
      rotate_left
      · (intro wS hSw; (try dsimp only at hSw); go_simp <;> with_reducible rfl)
      try simp only [Act.put, tkS]
      refine wpAnyH_take (i := 12) (v := ?_) rfl (by kernel_rfl) (by kernel_rfl) (by kernel_rfl) (fun _ _ _ h => h) (Or.inl ⟨by kernel_rfl, ?_⟩) (by assumption) ?_
      rotate_left
      · (intro wS hSw; (try dsimp only at hSw); go_simp <;> with_reducible rfl)
      try simp only [Act.put, tkS]
      refine wpAnyH_ready (rs := [3]) (by kernel_rfl) (by simp) (AllReadyH.cons rfl (fun K hK => ?_) AllReadyH.nil)
      go_simp
      refine hK.out _ _ ?_ (fun hHeld => ?_)
      · (exact CE9.out _ (by first | exact BW0.out | exact BW1.out | exact BW2.out | exact BW3.out | exact BW4.out | exact BW5.out | exact BW6.out | exact BW7.out))
      clear hK K
      try simp only [Act.put, tkS]
      refine wpAnyH_ready (rs := [7]) (by kernel_rfl) (by simp) (AllReadyH.cons rfl (fun K hK => ?_) AllReadyH.nil)
      refine step_append_is rfl (.tmp 57) (.tmp 60) 73 rfl _ _ (by rfl) (by rfl) _ _ RUN7.out ?_
      refine hK.out _ _ ?_ (fun hHeld => ?_)
      · (exact CE9.out _ (by first | exact BW0.out | exact BW1.out | exact BW2.out | exact BW3.out | exact BW4.out | exact BW5.out | exact BW6.out | exact BW7.out))
      clear hK K
      try simp only [Act.put, tkS]
      refine wpAnyH_ready (rs := [9]) (by kernel_rfl) (by simp) (AllReadyH.cons rfl (fun K hK => ?_) AllReadyH.nil)
      go_simp
      go_at_call 58
      refine CR.out.mono ?_
      rintro e W3 ⟨pa, pc, rfl, hrd3, hB3⟩
      obtain ⟨hs2, bW2, ⟨o2, ho2⟩, -⟩ := HMEM.out
      obtain ⟨hcV, hru, hzg, hgV, hws, hcap⟩ := HCV.out
      have bW3 : Below X.heap.size X W3 := bW2.trans (hB3.mono bW2.size)
      obtain ⟨W4, hW4⟩ : ∃ W4, W4 = W3.alloc (.cells #[.int .i64 rid, .slice pa r.cells.length pc] 53) := ⟨_, rfl⟩
      have b34 : Below W3.heap.size W3 W4 := by rw [hW4]; exact below_allocD _ _
      have b24 : Below W2.heap.size W2 W4 := hB3.trans (b34.mono hB3.size)
      have bW4 : Below X.heap.size X W4 := bW2.trans (b24.mono bW2.size)
      have hn4 : W4.heap[W3.heap.size]? = some (.cells #[.int .i64 rid, .slice pa r.cells.length pc] 53) := by rw [hW4]; exact heap_newD _ _
      have hsx := BX.out.size
      have hs2x := bW2.size
      obtain ⟨a3, c3, W5, hr11, hs5, hg5, hg5'⟩ := (hs2.later b24).push (P := Try.prog) 73 73 iS (.agg #[.int .i64 0, .slice none 0 0]) 32 Try.underlying73 HIS.out.1 HIS.out.2.1 HIS.out.2.2.1 HIS.out.2.2.2 rfl (by omega) ⟨W3.heap.size, 0, none⟩ 1 [.int .i64 rid, .slice pa r.cells.length pc] rfl (fun j u hj => by
          have hj2 : j = 0 ∨ j = 1 := by
            have := (List.getElem?_eq_some_iff.1 hj).1
            simp only [List.length_cons, List.length_nil] at this
            omega
          rw [Addr.add_mid, Nat.zero_add]
          refine cell_at (o := j) hn4 ?_
          rcases hj2 with rfl | rfl
          · exact hj
          · exact hj) (fun u hu => by simp only [List.mem_cons, List.not_mem_nil, or_false] at hu; rcases hu with rfl | rfl <;> rfl) (by unfold maxLen; omega) (by omega) (by have := bW4.size; omega) (fun j hj => by
          rw [P_eq hk]
          rcases (by omega : j = 0 ∨ j = 1) with rfl | rfl
          · exact ⟨_, rfl, by show _ = _; rw [HRID.out]⟩
          · refine ⟨_, rfl, ?_⟩
            refine (hrd3.later b34).mono (fun q hq => ?_)
            have h1 := hq.1; have h2 := hq.2; have h3 := b34.size
            refine ⟨⟨fun e => ?_, by omega⟩, by omega, by omega⟩
            have := (hs2.low e).2
            omega)
      have bW5 : Below X.heap.size X W5 := below_grown bW4 hg5 (fun d e => (hs2.low e).1) bW4.size
      obtain ⟨o5, ho5, -⟩ := hg5'
      have hlo5 := (hs5.low ho5).1
      obtain ⟨a4, c4, W6, hr13, hs6, hg6, hg6'⟩ := hs5.pushN (P := Try.prog) ⟨_, ho5⟩ 73 73 iS (.agg #[.int .i64 0, .slice none 0 0]) 32 Try.underlying73 HIS.out.1 HIS.out.2.1 HIS.out.2.2.1 HIS.out.2.2.2 rfl (by omega) (if rcap = k then ⟨rb, 0, none⟩ else ⟨rb, k * 2, none⟩) (l.length - k) (rcap - k) ((List.range ((l.length - k) * 2)).map (fun m => gl (k * 2 + m))) (by simp) (fun j u hj => by
          rw [List.getElem?_map, Option.map_eq_some_iff] at hj
          obtain ⟨m, hm, rfl⟩ := hj
          obtain ⟨hlt, rfl⟩ := List.getElem?_eq_some_iff.1 hm
          simp only [List.length_range] at hlt
          simp only [List.getElem_range]
          rw [if_neg (by omega), Addr.add_mid, bW5.cell (p := ⟨rb, k * 2 + j, none⟩) (HGL.out.2 (k * 2 + j) (by omega))]
          exact (HGL.out.1 (k * 2 + j) (by omega)).1) (fun u hu => by
          simp only [List.mem_map, List.mem_range] at hu
          obtain ⟨m, hm, rfl⟩ := hu
          exact (HGL.out.1 (k * 2 + m) (by omega)).2.2) (by unfold maxLen; have := HTK.out; omega) (by have := HTK.out; omega) (by have := bW5.size; omega) (fun q j hq hj => by
          have hlt : q * 2 + j < (l.length - k) * 2 := by omega
          refine ⟨gl (k * 2 + (q * 2 + j)), by simp [hlt], ?_⟩
          have h2 := (HGL.out.1 (k * 2 + (q * 2 + j)) (by omega)).2.1
          rw [show (k * 2 + (q * 2 + j)) / 2 = k + q by omega, show (k * 2 + (q * 2 + j)) % 2 = j by omega, lsF_at (by omega)] at h2
          rw [P_gt hk hq]
          refine (h2.later bW5).mono (fun d hd => ?_)
          have h3 := hd.1.2; have h4 := bW5.size
          exact ⟨⟨by rw [ho5]; simp only [ne_eq, Option.some.injEq]; omega, by omega⟩, hd.1.1, hd.2⟩)
      have bW6 : Below X.heap.size X W6 := below_grown bW5 hg6 (fun d e => (hs5.low e).1) bW5.size
      rw [← P_len (r := r) (t := k) hk] at hr13 hs6 hg6'
      have hnew : Rd W6 (fun d => (d ≠ g ∧ d < W6.heap.size) ∧ z ≤ d) (dRowS (l.take k ++ r :: l.drop k)) (.slice a4 (l.take k ++ r :: l.drop k).length c4) := (hs6.rd (by omega) (fun d e => by have := (hs6.low e).1; exact ⟨by omega, by omega⟩)).mono (fun d hd => ⟨⟨hd.1.1, hd.2⟩, hd.1.2⟩)
      have bV6 : Below V.heap.size V W6 := BX.out.trans (bW6.mono BX.out.size)
      have hfin := rd_put (c := rc) (G := fun d => z ≤ d) hzg hi (by have := bV6.size; omega) (fun j hj => by
        obtain ⟨u, h1, -, -, h2⟩ := hcV j 0 hj (by omega)
        rw [Nat.mul_one, Nat.add_zero] at h1
        exact ⟨u, (bV6.cell (p := ⟨g, j, none⟩) hgV).trans h1, (h2.later bV6).mono (fun d hd => ⟨⟨hd.1.1, by have := hd.1.2; have := bV6.size; omega⟩, hd.2⟩)⟩) hnew
      rw [← HPT.out, show (putL l r).length = (l.take k ++ r :: l.drop k).length by rw [HPT.out]] at hfin
      have HFIN := Lib.hid (And.intro hfin hws)
      have b6 := HXL.out.later bW6
      have b7 : LpB w (W6.setCell ⟨g, i, none⟩ (.slice a4 (l.take k ++ r :: l.drop k).length c4)) (.slice (some ⟨g, 0, none⟩) x.tables.length rc) x.next rid (.slice sa r.cells.length sq) := ⟨by rw [Below.heap_setCell _ _ _ _ (by show w.heap.size ≠ g; omega)]; exact b6.bx, by rw [Below.heap_setCell _ _ _ _ (by show w.heap.size + 1 ≠ g; omega)]; exact b6.rb, by rw [Below.heap_setCell _ _ _ _ (by show w.heap.size + 1 + 1 ≠ g; omega)]; exact b6.rv, b6.bel.setCell (by show w.heap.size ≤ g; omega) _⟩
      have BW3 := Lib.hid (HXL.out.later bW3)
      have BW4 := Lib.hid (HXL.out.later bW4)
      have BW5 := Lib.hid (HXL.out.later bW5)
      have BW6 := Lib.hid b6
      have BW7 := Lib.hid b7
      have p6 := (bV6.cell (p := ⟨g, i, none⟩) hgV).trans HCU.out
      have q6 : W6.frozen? ⟨g, i, none⟩ = false := by
        have hbk := bV6.block g hgV
        have zu := HZU.out
        unfold World.frozen? at zu ⊢
        simp only at zu ⊢
        rw [hbk]; exact zu
      have hiff : (some (if rcap = k then (⟨rb, 0, none⟩ : Addr) else ⟨rb, k * 2, none⟩)) = some ⟨rb, k * 2, none⟩ := by rw [← hif]; split <;> rfl
      rw [hiff] at hr13
      have RUN11 := Lib.hid hr11
      have RUN13 := Lib.hid hr13
      rw [hW4] at RUN11 BW4
      clear hs2 bW2 ho2 hcV hru hzg hgV hws hcap bW3 b34 b24 bW4 hn4 hs5 hg5 bW5 ho5 hlo5 hs6 hg6 hg6' bW6 hnew bV6 hfin b6 b7 hr11 hr13 hrd3 hB3 hW4 hiff hsx hs2x
      generalize (l.take k ++ r :: l.drop k).length = n1 at *
      refine hK.out _ _ ?_ (fun hHeld => ?_)
      · (exact CE9.out _ (by first | exact BW0.out | exact BW1.out | exact BW2.out | exact BW3.out | exact BW4.out | exact BW5.out | exact BW6.out | exact BW7.out))
      clear hK K
      try simp only [Act.put, tkS]
      refine wpAnyH_ready (rs := [10]) (by kernel_rfl) (by simp) (AllReadyH.cons rfl (fun K hK => ?_) AllReadyH.nil)
      go_simp
      refine hK.out _ _ ?_ (fun hHeld => ?_)
      · (exact CE9.out _ (by first | exact BW0.out | exact BW1.out | exact BW2.out | exact BW3.out | exact BW4.out | exact BW5.out | exact BW6.out | exact BW7.out))
      clear hK K
      try simp only [Act.put, tkS]
      refine wpAnyH_ready (rs := [11]) (by kernel_rfl) (by simp) (AllReadyH.cons rfl (fun K hK => ?_) AllReadyH.nil)
      refine step_append_is rfl (.tmp 61) (.tmp 64) 73 rfl _ _ (by rfl) (by rfl) _ _ RUN11.out ?_
      refine hK.out _ _ ?_ (fun hHeld => ?_)
      · (exact CE9.out _ (by first | exact BW0.out | exact BW1.out | exact BW2.out | exact BW3.out | exact BW4.out | exact BW5.out | exact BW6.out | exact BW7.out))
      clear hK K
      try simp only [Act.put, tkS]
      refine wpAnyH_ready (rs := [13]) (by kernel_rfl) (by simp) (AllReadyH.cons rfl (fun K hK => ?_) AllReadyH.nil)
      refine step_append_is rfl (.tmp 65) (.tmp 66) 73 rfl _ _ (by rfl) (by rfl) _ _ RUN13.out ?_
      refine hK.out _ _ ?_ (fun hHeld => ?_)
      · (exact CE9.out _ (by first | exact BW0.out | exact BW1.out | exact BW2.out | exact BW3.out | exact BW4.out | exact BW5.out | exact BW6.out | exact BW7.out))
      clear hK K
      try simp only [Act.put, tkS]
      refine wpAnyH_take (i := 14) (v := ?_) rfl (by kernel_rfl) (by kernel_rfl) (by kernel_rfl) (fun _ _ _ h => h) (Or.inl ⟨by kernel_rfl, ?_⟩) (by assumption) ?_
      rotate_left
      · (intro wS hSw; (try dsimp only at hSw); go_simp <;> with_reducible rfl)
      try simp only [Act.put, tkS]
      refine wpAnyH_ready (rs := [15]) (by kernel_rfl) (by simp) (AllReadyH.cons rfl (fun K hK => ?_) AllReadyH.nil)
      go_simp
      refine hK.out _ _ ?_ (fun hHeld => ?_)
      · (exact CE9.out _ (by first | exact BW0.out | exact BW1.out | exact BW2.out | exact BW3.out | exact BW4.out | exact BW5.out | exact BW6.out | exact BW7.out))
      clear hK K
      try simp only [Act.put, tkS]
      refine wpAnyH_done (by kernel_rfl) ?_ _
      have m0 := cell_at (o := 0) BW7.out.bx rfl
      have m1 := cell_at (o := 1) BW7.out.bx rfl
      have r0 := cell_at (o := 0) BW7.out.rv rfl
      have r1 := cell_at (o := 1) BW7.out.rv rfl
      have g0 := frozen_at 0 BW7.out.rv
      have g1 := frozen_at 1 BW7.out.rv
      clear p6 q6 hif
      go_wp2_with fail
      refine bodyPost_ret (v := .agg #[.slice (some ⟨g, 0, none⟩) x.tables.length rc, .int .i64 x.next]) (by simp [results, Try.results43, go_sem, *]) rfl ?_
      refine ⟨some ⟨g, 0, none⟩, rc, rfl, ?_, (BW7.out.bel.setCell (by simp <;> omega) _).setCell (by simp <;> omega) _⟩
      have hz := HFIN.out.2
      have hfr2 : Frm (· = w.heap.size + 1 + 1) (W6.setCell ⟨g, i, none⟩ (.slice a4 n1 c4)) (((W6.setCell ⟨g, i, none⟩ (.slice a4 n1 c4)).setCell ⟨w.heap.size + 1 + 1, 0, none⟩ (.slice (some ⟨g, 0, none⟩) x.tables.length rc)).setCell ⟨w.heap.size + 1 + 1, 1, none⟩ (.int .i64 x.next)) := (frm_set _ _ _ _).trans (frm_set _ _ _ _)
      have h9 := HFIN.out.1.frm hfr2 (fun b hb e => by have h1 := hb.1; have e' : b = w.heap.size + 1 + 1 := e; omega)
      rw [HLL.out]
      exact h9.mono (fun b hb => ⟨by have h1 : z ≤ b := hb.1; omega, by have := hb.2; simpa using this⟩)
end Go.Proofs.Ytdhlndpobpdfmaa
