import Derived.Test.YtnegmpdllbbnhaaZaq
import Derived.Test.YtnegmpdllbbnhaaZat
import Derived.Test.YtnegmpdllbbnhaaZTk
namespace Go.Proofs.Ytnegmpdllbbnhaa
open Go.RowKit
set_option linter.unusedSimpArgs false
theorem SQ.spot {w : World} {base : Nat} {G : Nat → Prop} {T : TypeId} {n : Nat} {f : Nat → Nat → D} {Q : Nat → Nat → Value → Prop} {k : Nat} {a : Option Addr} {c : Nat} (h : SQ w base G T n f Q k (.slice a k c)) (hk : 0 < k) : ∃ g, a = some ⟨g, 0, none⟩ ∧ base ≤ g ∧ g < w.heap.size ∧ ∀ i j, i < k → j < n → ∃ u, w.cell? ⟨g, i * n + j, none⟩ = some u ∧ w.frozen? ⟨g, i * n + j, none⟩ = false ∧ Q i j u ∧ Rd w (fun c => (c ≠ g ∧ c < w.heap.size) ∧ G c) (f i j) u := by
  obtain ⟨xs, h1, h2⟩ := h
  rcases h1.2 with ⟨-, h0⟩ | ⟨g, cap, cur, e, hg, hh, r1, r2, r3, r4⟩
  · omega
  simp only [Value.slice.injEq, true_and] at e
  obtain ⟨rfl, rfl⟩ := e
  refine ⟨g, rfl, hg, (Array.getElem?_eq_some_iff.1 hh).1, fun i j hi hj => ?_⟩
  obtain ⟨u, hu, hq, hr⟩ := h2 i j hi hj
  have hlt : i * n + j < k * n := spot_lt hi hj
  refine ⟨u, ?_, by simp [World.frozen?, hh], hq, hr.mono (fun c hc => ⟨⟨fun e => hc.1.1 (by rw [e]; rfl), hc.1.2⟩, hc.2⟩)⟩
  rw [← r4, List.getElem?_take_of_lt hlt, Array.getElem?_toList] at hu
  simp [World.cell?, hh, hu]
theorem rd_put {w : World} {L : List (List RowV)} {i g c : Nat} {l' : List RowV} {v' : Value} {G : Nat → Prop} (hG : G g) (hi : i < L.length) (hg : g < w.heap.size) (hc : ∀ j, j < L.length → ∃ u, w.cell? ⟨g, j, none⟩ = some u ∧ Rd w (fun d => (d ≠ g ∧ d < w.heap.size) ∧ G d) (lsF cRowS L j 0) u) (hnew : Rd w (fun d => (d ≠ g ∧ d < w.heap.size) ∧ G d) (dRowS l') v') :
    Rd (w.setCell ⟨g, i, none⟩ v') (fun d => G d ∧ d < (w.setCell ⟨g, i, none⟩ v').heap.size) (dRowSS (L.set i l')) (.slice (some ⟨g, 0, none⟩) (L.set i l').length c) := by
  have hsz : (w.setCell ⟨g, i, none⟩ v').heap.size = w.heap.size := by simp [World.setCell]
  refine ⟨_, _, rfl, .inr ⟨g, 0, rfl, ⟨hG, by rw [hsz]; exact hg⟩, by omega, fun j z hj hz => ?_⟩⟩
  obtain rfl : z = 0 := by omega
  rw [List.length_set] at hj
  rw [Nat.zero_add, Nat.mul_one, Nat.add_zero, lsF_at (by rw [List.length_set]; exact hj)]
  have key : ∀ d u, Rd w (fun d => (d ≠ g ∧ d < w.heap.size) ∧ G d) d u → Rd (w.setCell ⟨g, i, none⟩ v') (fun d => G d ∧ d < (w.setCell ⟨g, i, none⟩ v').heap.size) d u := fun d u hu => Rd.same (fun b hb => Below.heap_setCell _ _ _ _ hb.1.1) (fun b hb => ⟨hb.2, by rw [hsz]; exact hb.1.2⟩) d u hu
  obtain ⟨u, hu, hr⟩ := hc j hj
  by_cases e : j = i
  · subst e
    refine ⟨v', World.cell?_setCell_same _ _ _ hu, ?_⟩
    rw [List.getElem_set_self]
    exact key _ _ hnew
  · refine ⟨u, cell_skip hu e, ?_⟩
    rw [List.getElem_set_ne (by omega)]
    rw [lsF_at hj] at hr
    exact key _ _ hr
theorem row_one {w : World} {B : Nat → Prop} {y : RowV} {j : Nat} {u : Value} (hj : j < 2) (h : Rd w B (dRow y j) u) : u.oneCell' = true := by
  rcases (by omega : j = 0 ∨ j = 1) with rfl | rfl
  · obtain rfl : u = .int .i64 y.id := h
    rfl
  · replace h : Rd w B (dAtomSS y.cells) u := h
    obtain ⟨a, c, rfl⟩ := h.lsSlice
    rfl
structure LdB (w W : World) (v : Value) (n : Int) : Prop where
  bx : W.heap[w.heap.size]? = some (.cells #[v, .int .i64 n] 46)
  rv : W.heap[w.heap.size + 1]? = some (.cells #[.slice none 0 0, .int .i64 0] 46)
  bel : Below w.heap.size w W
theorem LdB.first (w : World) (v : Value) (n : Int) : LdB w ((w.alloc (.cells #[v, .int .i64 n] 46)).alloc (.cells #[.slice none 0 0, .int .i64 0] 46)) v n := by
  refine ⟨heap_keptD (heap_newD _ _) (below_allocD _ _), ?_, (below_allocD _ _).trans ((below_allocD _ _).mono (by simp))⟩
  have h := heap_newD (w.alloc (.cells #[v, .int .i64 n] 46)) (.cells #[.slice none 0 0, .int .i64 0] 46)
  rw [size_allocD] at h
  exact h
theorem LdB.later {w W W' : World} {v : Value} {n : Int} (h : LdB w W v n) (hB : Below W.heap.size W W') : LdB w W' v n := ⟨heap_keptD h.bx hB, heap_keptD h.rv hB, h.bel.trans (hB.mono h.bel.size)⟩
set_option maxRecDepth 100000 in
set_option maxHeartbeats 12800000 in
theorem ldropS (x : StV) (i k : Nat) (hi : i < x.tables.length) (hk : k < x.tables[i].length) (a : Option Addr) (c : Nat) (B : Nat → Prop) (w : World) (ho : (dRowSS x.tables).le 1048576) (hS : Rd w B (dRowSS x.tables) (.slice a x.tables.length c)) :
    Calls Try.prog 22 #[.agg #[.slice a x.tables.length c, .int .i64 x.next], .int .i64 i, .int .i64 k] w fun e w' => ∃ ra rc, e = .returned (.agg #[.slice ra x.tables.length rc, .int .i64 x.next]) ∧ Rd w' (fun d => w.heap.size ≤ d ∧ d < w'.heap.size) (dRowSS (x.tables.set i (x.tables[i].eraseIdx k))) (.slice ra (x.tables.set i (x.tables[i].eraseIdx k)).length rc) ∧ Below w.heap.size w w' := by
  obtain ⟨iS, hiS⟩ := infoRw2
  have HIS := Lib.hid hiS
  have OS : Hid (∀ W, Below w.heap.size w W → Calls Try.prog 18 #[.agg #[.slice a x.tables.length c, .int .i64 x.next]] W _) := fun W h => ownS x a c B W ho (hS.later h)
  have hln : x.tables[i].length ≤ 1048576 := (Ls_le.1 ((Ls_le.1 ho).2.2 i hi 0 (by omega) : (dRowS x.tables[i]).le 1048576)).2.1
  have hb := LdB.first w (.slice a x.tables.length c) x.next
  have x0 := cell_at (o := 0) hb.bx rfl
  have x1 := cell_at (o := 1) hb.bx rfl
  have H0 := Lib.hid hb
  have HI := Lib.hid (And.intro hi hk)
  clear hS ho hb hiS
  go_enter Try.func22, Try.ntmps22
  go_wp2_with fail
  refine (OS.out _ H0.out.bel).mono ?_
  rintro e w1 ⟨ra, rc, rfl, hsq, hB⟩
  have H1 := Lib.hid (H0.out.later hB)
  clear x0 x1
  have x0 := cell_at (o := 0) H1.out.bx rfl
  have x1 := cell_at (o := 1) H1.out.bx rfl
  have f0 := frozen_at 0 H1.out.bx
  have f1 := frozen_at 1 H1.out.bx
  have hws : w.heap.size + 1 < ((w.alloc (.cells #[.slice a x.tables.length c, .int .i64 x.next] 46)).alloc (.cells #[.slice none 0 0, .int .i64 0] 46)).heap.size := by simp
  generalize ((w.alloc (.cells #[.slice a x.tables.length c, .int .i64 x.next] 46)).alloc (.cells #[.slice none 0 0, .int .i64 0] 46)).heap.size = z at *
  -- the box holds the copy
  obtain ⟨V, hV⟩ : ∃ V, V = (w1.setCell ⟨w.heap.size, 0, none⟩ (.slice ra x.tables.length rc)).setCell ⟨w.heap.size, 1, none⟩ (.int .i64 x.next) := ⟨_, rfl⟩
  have hne : ∀ {W : World}, SQ W z (fun b => z ≤ b) 26 1 (lsF cRowS x.tables) (capQ x.tables) x.tables.length (.slice ra x.tables.length rc) → ∀ o u, SQ (W.setCell ⟨w.heap.size, o, none⟩ u) z (fun b => z ≤ b) 26 1 (lsF cRowS x.tables) (capQ x.tables) x.tables.length (.slice ra x.tables.length rc) := fun h o u => h.same (p := w.heap.size) (by simp [World.setCell]) (fun b hb => Below.heap_setCell _ _ _ _ hb) (fun e => by have := (h.low e).1; omega) (fun c hc => by have hc' : z ≤ c := hc; omega)
  have hsV : SQ V z (fun b => z ≤ b) 26 1 (lsF cRowS x.tables) (capQ x.tables) x.tables.length (.slice ra x.tables.length rc) := by rw [hV]; exact hne (hne hsq _ _) _ _
  have hbV : LdB w V (.slice ra x.tables.length rc) x.next := ⟨by rw [hV]; exact heap_set 1 _ (heap_set 0 _ H1.out.bx), by rw [hV, Below.heap_setCell _ _ _ _ (by show w.heap.size + 1 ≠ w.heap.size; omega), Below.heap_setCell _ _ _ _ (by show w.heap.size + 1 ≠ w.heap.size; omega)]; exact H1.out.rv, by rw [hV]; exact (H1.out.bel.setCell (Nat.le_refl _) _).setCell (Nat.le_refl _) _⟩
  clear hne hsq hB
  obtain ⟨g, rfl, hzg, hgV, hcV⟩ := hsV.spot (by omega)
  obtain ⟨u, cu, zu, ⟨ra2, rcap, hu, hcap, -⟩, hru⟩ := hcV i 0 hi (by omega)
  rw [Nat.mul_one, Nat.add_zero] at cu zu
  rw [getD_tab hi] at hu hcap
  subst hu
  rw [lsF_at hi] at hru
  replace hru : Rd V _ (Ls 2 dRow x.tables[i]) (.slice ra2 x.tables[i].length rcap) := hru
  obtain ⟨rb, roff, rfl, -, -⟩ := hru.things k hk
  have hgl : ∀ m, ∃ u, m < x.tables[i].length * 2 → V.cell? ⟨rb, roff + m, none⟩ = some u ∧ Rd V (fun d => (d ≠ g ∧ d < V.heap.size) ∧ z ≤ d) (lsF dRow x.tables[i] (m / 2) (m % 2)) u ∧ u.oneCell' = true := fun m => by
    by_cases hm : m < x.tables[i].length * 2
    · obtain ⟨u, hu, hr⟩ := hru.spotT (i := m / 2) (j := m % 2) (by omega) (by omega)
      rw [Nat.add_assoc, Nat.div_add_mod'] at hu
      exact ⟨u, fun _ => ⟨hu, by rw [lsF_at (by omega)]; exact hr, row_one (by omega) hr⟩⟩
    · exact ⟨undef, fun h => absurd h hm⟩
  obtain ⟨gl, hgl⟩ := Classical.axiomOfChoice hgl
  have hrbV : rb < V.heap.size := World.block_lt_of_cell? V ⟨rb, roff + 0, none⟩ (hgl 0 (by omega)).1
  -- the worlds of the region
  obtain ⟨W1, hW1⟩ : ∃ W1, W1 = (V.alloc (.cells #[] 51)).drew := ⟨_, rfl⟩
  have bW1 : Below V.heap.size V W1 := by rw [hW1]; exact ((Below.refl _ _).alloc (Nat.le_refl _) _).drew
  have hs1 : SG W1 V.heap.size (fun d => d ≠ g ∧ z ≤ d) 51 2 (lsF dRow (x.tables[i].eraseIdx k)) 0 (.slice (some ⟨V.heap.size, 0, none⟩) 0 0) := SG.start (Nat.le_refl _) (by rw [hW1]; exact heap_newD _ _)
  have hle := List.length_eraseIdx_of_lt hk
  obtain ⟨a1, c1, W2, hr11, hs2, hg2, hg2'⟩ := hs1.pushN (P := Try.prog) ⟨_, rfl⟩ 26 26 iS (.agg #[.int .i64 0, .slice none 0 0]) 32 Try.underlying26 HIS.out.1 HIS.out.2.1 HIS.out.2.2.1 HIS.out.2.2.2 rfl (by omega) ⟨rb, roff, none⟩ k rcap ((List.range (k * 2)).map gl) (by simp) (fun j u hj => by
      rw [List.getElem?_map, Option.map_eq_some_iff] at hj
      obtain ⟨m, hm, rfl⟩ := hj
      obtain ⟨hlt, rfl⟩ := List.getElem?_eq_some_iff.1 hm
      simp only [List.length_range] at hlt
      simp only [List.getElem_range]
      rw [Addr.add_mid, bW1.cell (p := ⟨rb, roff + j, none⟩) hrbV]
      exact (hgl j (by omega)).1) (fun u hu => by
      simp only [List.mem_map, List.mem_range] at hu
      obtain ⟨m, hm, rfl⟩ := hu
      exact (hgl m (by omega)).2.2) (by unfold maxLen; omega) (by omega) bW1.size (fun r j hr hj => by
      have hlt : r * 2 + j < k * 2 := by omega
      refine ⟨gl (r * 2 + j), by simp [hlt], ?_⟩
      have h2 := (hgl (r * 2 + j) (by omega)).2.1
      rw [show (r * 2 + j) / 2 = r by omega, show (r * 2 + j) % 2 = j by omega, lsF_at (by omega)] at h2
      rw [Nat.zero_add, lsF_at (by omega), erase_at hk]
      simp only [if_pos hr]
      refine (h2.later bW1).mono (fun d hd => ?_)
      have h3 := hd.1.2; have h4 := bW1.size
      exact ⟨⟨by simp only [Value.ownBlock, ne_eq, Option.some.injEq]; omega, by omega⟩, hd.1.1, hd.2⟩)
  rw [Nat.zero_add] at hr11 hs2 hg2'
  obtain ⟨k1, hk1e⟩ : ∃ k1, k1 = k + 1 := ⟨_, rfl⟩
  have bW2 : Below V.heap.size V W2 := below_grown bW1 hg2 (fun d e => by simp only [Value.ownBlock, Option.some.injEq] at e; omega) bW1.size
  obtain ⟨o1, ho1, ho1'⟩ := hg2'
  have hlo1 := (hs2.low ho1).1
  obtain ⟨a2, c2, W3, hr20, hs3, hg3, hg3'⟩ := hs2.pushN (P := Try.prog) ⟨_, ho1⟩ 26 26 iS (.agg #[.int .i64 0, .slice none 0 0]) 32 Try.underlying26 HIS.out.1 HIS.out.2.1 HIS.out.2.2.1 HIS.out.2.2.2 rfl (by omega) (if rcap = k1 then ⟨rb, roff, none⟩ else ⟨rb, roff + k1 * 2, none⟩) (x.tables[i].length - k1) (rcap - k1) ((List.range ((x.tables[i].length - k1) * 2)).map (fun m => gl (k1 * 2 + m))) (by simp) (fun j u hj => by
      rw [List.getElem?_map, Option.map_eq_some_iff] at hj
      obtain ⟨m, hm, rfl⟩ := hj
      obtain ⟨hlt, rfl⟩ := List.getElem?_eq_some_iff.1 hm
      simp only [List.length_range] at hlt
      simp only [List.getElem_range]
      rw [if_neg (by omega), Addr.add_mid, bW2.cell (p := ⟨rb, roff + k1 * 2 + j, none⟩) hrbV, Nat.add_assoc roff]
      exact (hgl (k1 * 2 + j) (by omega)).1) (fun u hu => by
      simp only [List.mem_map, List.mem_range] at hu
      obtain ⟨m, hm, rfl⟩ := hu
      exact (hgl (k1 * 2 + m) (by omega)).2.2) (by unfold maxLen; omega) (by omega) (by have := bW2.size; omega) (fun r j hr hj => by
      have hlt : r * 2 + j < (x.tables[i].length - k1) * 2 := by omega
      refine ⟨gl (k1 * 2 + (r * 2 + j)), by simp [hlt], ?_⟩
      have h2 := (hgl (k1 * 2 + (r * 2 + j)) (by omega)).2.1
      rw [show (k1 * 2 + (r * 2 + j)) / 2 = k + r + 1 by omega, show (k1 * 2 + (r * 2 + j)) % 2 = j by omega, lsF_at (by omega)] at h2
      rw [lsF_at (by omega), erase_at hk]
      simp only [show ¬ (k + r < k) by omega, if_false]
      refine (h2.later bW2).mono (fun d hd => ?_)
      have h3 := hd.1.2; have h4 := bW2.size
      exact ⟨⟨by rw [ho1]; simp only [ne_eq, Option.some.injEq]; omega, by omega⟩, hd.1.1, hd.2⟩)
  have bW3 : Below V.heap.size V W3 := below_grown bW2 hg3 (fun d e => (hs2.low e).1) bW2.size
  have hnn : k + (x.tables[i].length - k1) = (x.tables[i].eraseIdx k).length := by omega
  rw [hnn] at hr20 hs3 hg3'
  have hnew : Rd W3 (fun d => (d ≠ g ∧ d < W3.heap.size) ∧ z ≤ d) (dRowS (x.tables[i].eraseIdx k)) (.slice a2 (x.tables[i].eraseIdx k).length c2) := (hs3.rd (by omega) (fun d e => by have := (hs3.low e).1; exact ⟨by omega, by omega⟩)).mono (fun d hd => ⟨⟨hd.1.1, hd.2⟩, hd.1.2⟩)
  have hfin := rd_put (c := rc) (G := fun d => z ≤ d) hzg hi (by have := bW3.size; omega) (fun j hj => by
    obtain ⟨u, h1, -, -, h2⟩ := hcV j 0 hj (by omega)
    rw [Nat.mul_one, Nat.add_zero] at h1
    exact ⟨u, (bW3.cell (p := ⟨g, j, none⟩) hgV).trans h1, (h2.later bW3).mono (fun d hd => ⟨⟨hd.1.1, by have := hd.1.2; have := bW3.size; omega⟩, hd.2⟩)⟩) hnew
  have HFIN := Lib.hid (And.intro hfin hws)
  -- what stays
  have hgw : w.heap.size < g := by omega
  have b3 := hbV.later bW3
  have b4 : LdB w (W3.setCell ⟨g, i, none⟩ (.slice a2 (x.tables[i].eraseIdx k).length c2)) (.slice (some ⟨g, 0, none⟩) x.tables.length rc) x.next := ⟨by rw [Below.heap_setCell _ _ _ _ (by show w.heap.size ≠ g; omega)]; exact b3.bx, by rw [Below.heap_setCell _ _ _ _ (by show w.heap.size + 1 ≠ g; omega)]; exact b3.rv, b3.bel.setCell (by show w.heap.size ≤ g; omega) _⟩
  have CE : Hid (∀ W, LdB w W (.slice (some ⟨g, 0, none⟩) x.tables.length rc) x.next → W.cell? ⟨w.heap.size, 0, none⟩ = some (.slice (some ⟨g, 0, none⟩) x.tables.length rc)) := fun W h => cell_at (o := 0) h.bx rfl
  have BW0 : Hid (LdB w V.drew (.slice (some ⟨g, 0, none⟩) x.tables.length rc) x.next) := ⟨hbV.bx, hbV.rv, hbV.bel.drew⟩
  have BW1 := Lib.hid (hbV.later bW1)
  have BW2 := Lib.hid (hbV.later bW2)
  have BW3 := Lib.hid b3
  have BW4 := Lib.hid b4
  have p0 : V.cell? ⟨g, i, none⟩ = some (.slice (some ⟨rb, roff, none⟩) x.tables[i].length rcap) := cu
  have p1 := (bW1.cell (p := ⟨g, i, none⟩) hgV).trans cu
  have p2 := (bW2.cell (p := ⟨g, i, none⟩) hgV).trans cu
  have p3 := (bW3.cell (p := ⟨g, i, none⟩) hgV).trans cu
  have q3 : W3.frozen? ⟨g, i, none⟩ = false := by
    have hbk := bW3.block g hgV
    unfold World.frozen? at zu ⊢
    simp only at zu ⊢
    rw [hbk]; exact zu
  have RUN11 := Lib.hid hr11
  have hiff : (some (if rcap = k1 then (⟨rb, roff, none⟩ : Addr) else ⟨rb, roff + k1 * 2, none⟩)) = (if rcap = k1 then some ⟨rb, roff, none⟩ else some ⟨rb, roff + k1 * 2, none⟩) := by split <;> rfl
  rw [hiff] at hr20
  generalize hif : (if rcap = k1 then some (⟨rb, roff, none⟩ : Addr) else some ⟨rb, roff + k1 * 2, none⟩) = ad2 at hr20
  have RUN20 := Lib.hid hr20
  clear hiff
  have hwr : IntKind.i64.wrap ((k : Int) + 1) = (k1 : Int) := by rw [hk1e, IntKind.wrap_i64]; omega
  have hk1n : (k1 : Int) ≤ (x.tables[i].length : Int) := by omega
  have hk10 : (0 : Int) ≤ (k1 : Int) := by omega
  have HV := Lib.hid hV
  rw [hW1] at p1 RUN11 BW1
  have hi1 : (i : Int) < (x.tables.length : Int) := by omega
  have hi0 : (0 : Int) ≤ (i : Int) := by omega
  have hk1 : (k : Int) ≤ (rcap : Int) := by omega
  have hk0 : (0 : Int) ≤ (k : Int) := by omega
  have hk3 : (x.tables[i].length : Int) ≤ (rcap : Int) := by omega
  have hkl2 : k ≤ 1048576 := by omega
  have hcv : (k : Int) < (x.tables[i].length : Int) := by omega
  clear hr11 hr20 hs1 hs2 hs3 hg2 hg3 hg3' ho1 ho1' hlo1 hgl hru hcV hsV hfin hnew b3 b4 bW1 bW2 bW3 hW1 hV hnn hle hgw hk1e hws hzg hgV hrbV cu zu hbV
  generalize hll : x.tables[i].length = n at *
  generalize hle : (x.tables[i].eraseIdx k).length = n1 at *
  clear hll hle
  go_wp2_with fail
  rw [← HV.out]
  refine wp_region_held_drew (S := (fun W => W.cell? ⟨w.heap.size, 0, none⟩ = some (.slice (some ⟨g, 0, none⟩) x.tables.length rc))) (by kernel_rfl) ?_ (fun hHeld => ?_)
  · (exact CE.out _ (by first | exact BW0.out | exact BW1.out | exact BW2.out | exact BW3.out | exact BW4.out))
  refine wpAnyH_take (i := 0) (v := ?_) rfl (by kernel_rfl) (by kernel_rfl) (by kernel_rfl) (fun _ _ _ h => h) (Or.inl ⟨by kernel_rfl, ?_⟩) (by assumption) ?_
  rotate_left
  · (intro wS hSw; (try dsimp only at hSw); go_simp <;> with_reducible rfl)
  try simp only [Act.put, tkS]
  refine wpAnyH_take (i := 1) (v := ?_) rfl (by kernel_rfl) (by kernel_rfl) (by kernel_rfl) (fun _ _ _ h => h) (Or.inl ⟨by kernel_rfl, ?_⟩) (by assumption) ?_
  rotate_left
  · (intro wS hSw; (try dsimp only at hSw); go_simp <;> with_reducible rfl)
  try simp only [Act.put, tkS]
  refine wpAnyH_take (i := 2) (v := ?_) rfl (by kernel_rfl) (by kernel_rfl) (by kernel_rfl) (fun _ _ _ h => h) (Or.inl ⟨by kernel_rfl, ?_⟩) (by assumption) ?_
  rotate_left
  · (intro wS hSw; (try dsimp only at hSw); go_simp <;> with_reducible rfl)
  try simp only [Act.put, tkS]
  refine wpAnyH_take (i := 4) (v := ?_) rfl (by kernel_rfl) (by kernel_rfl) (by kernel_rfl) (fun _ _ _ h => h) (Or.inl ⟨by kernel_rfl, ?_⟩) (by assumption) ?_
  rotate_left
  · (intro wS hSw; (try dsimp only at hSw); go_simp <;> with_reducible rfl)
  try simp only [Act.put, tkS]
  refine wpAnyH_take (i := 5) (v := ?_) rfl (by kernel_rfl) (by kernel_rfl) (by kernel_rfl) (fun _ _ _ h => h) (Or.inl ⟨by kernel_rfl, ?_⟩) (by assumption) ?_
  rotate_left
  · (intro wS hSw; (try dsimp only at hSw); go_simp <;> with_reducible rfl)
  try simp only [Act.put, tkS]
  refine wpAnyH_take (i := 6) (v := ?_) rfl (by kernel_rfl) (by kernel_rfl) (by kernel_rfl) (fun _ _ _ h => h) (Or.inl ⟨by kernel_rfl, ?_⟩) (by assumption) ?_
  rotate_left
  · (intro wS hSw; (try dsimp only at hSw); go_simp <;> with_reducible rfl)
  try simp only [Act.put, tkS]
  refine wpAnyH_take (i := 7) (v := ?_) rfl (by kernel_rfl) (by kernel_rfl) (by kernel_rfl) (fun _ _ _ h => h) (Or.inl ⟨by kernel_rfl, ?_⟩) (by assumption) ?_
  rotate_left
  · (intro wS hSw; (try dsimp only at hSw); go_simp <;> with_reducible rfl)
  try simp only [Act.put, tkS]
  refine wpAnyH_take (i := 9) (v := ?_) rfl (by kernel_rfl) (by kernel_rfl) (by kernel_rfl) (fun _ _ _ h => h) (Or.inl ⟨by kernel_rfl, ?_⟩) (by assumption) ?_
  rotate_left
  · (intro wS hSw; (try dsimp only at hSw); go_simp <;> with_reducible rfl)
  try simp only [Act.put, tkS]
  refine wpAnyH_take (i := 12) (v := ?_) rfl (by kernel_rfl) (by kernel_rfl) (by kernel_rfl) (fun _ _ _ h => h) (Or.inl ⟨by kernel_rfl, ?_⟩) (by assumption) ?_
  rotate_left
  · (intro wS hSw; (try dsimp only at hSw); go_simp <;> with_reducible rfl)
  try simp only [Act.put, tkS]
  refine wpAnyH_take (i := 13) (v := ?_) rfl (by kernel_rfl) (by kernel_rfl) (by kernel_rfl) (fun _ _ _ h => h) (Or.inl ⟨by kernel_rfl, ?_⟩) (by assumption) ?_
  rotate_left
  · (intro wS hSw; (try dsimp only at hSw); go_simp <;> with_reducible rfl)
  try simp only [Act.put, tkS]
  refine wpAnyH_take (i := 14) (v := ?_) rfl (by kernel_rfl) (by kernel_rfl) (by kernel_rfl) (fun _ _ _ h => h) (Or.inl ⟨by kernel_rfl, ?_⟩) (by assumption) ?_
  rotate_left
  · (intro wS hSw; (try dsimp only at hSw); go_simp <;> with_reducible rfl)
  try simp only [Act.put, tkS]
  refine wpAnyH_take (i := 15) (v := ?_) rfl (by kernel_rfl) (by kernel_rfl) (by kernel_rfl) (fun _ _ _ h => h) (Or.inl ⟨by kernel_rfl, ?_⟩) (by assumption) ?_
  rotate_left
  · (intro wS hSw; (try dsimp only at hSw); go_simp <;> with_reducible rfl)
  try simp only [Act.put, tkS]
  refine wpAnyH_take (i := 17) (v := ?_) rfl (by kernel_rfl) (by kernel_rfl) (by kernel_rfl) (fun _ _ _ h => h) (Or.inl ⟨by kernel_rfl, ?_⟩) (by assumption) ?_
  rotate_left
  · (intro wS hSw; (try dsimp only at hSw); go_simp <;> with_reducible rfl)
  try simp only [Act.put, tkS]
  refine wpAnyH_take (i := 18) (v := ?_) rfl (by kernel_rfl) (by kernel_rfl) (by kernel_rfl) (fun _ _ _ h => h) (Or.inl ⟨by kernel_rfl, ?_⟩) (by assumption) ?_
  rotate_left
  · (intro wS hSw; (try dsimp only at hSw); go_simp <;> with_reducible rfl)
  try simp only [Act.put, tkS]
  refine wpAnyH_ready (rs := [3, 8, 16]) (by kernel_rfl) (by simp) (AllReadyH.cons rfl (fun K hK => ?_) (AllReadyH.cons rfl (fun K hK => ?_) (AllReadyH.cons rfl (fun K hK => ?_) AllReadyH.nil)))
  ·
    go_simp
    refine hK.out _ _ ?_ (fun hHeld => ?_)
    · (exact CE.out _ (by first | exact BW0.out | exact BW1.out | exact BW2.out | exact BW3.out | exact BW4.out))
    clear hK K
    try simp only [Act.put, tkS]
    refine wpAnyH_ready (rs := [8, 16]) (by kernel_rfl) (by simp) (AllReadyH.cons rfl (fun K hK => ?_) (AllReadyH.cons rfl (fun K hK => ?_) AllReadyH.nil))
    ·
      go_simp
      refine hK.out _ _ ?_ (fun hHeld => ?_)
      · (exact CE.out _ (by first | exact BW0.out | exact BW1.out | exact BW2.out | exact BW3.out | exact BW4.out))
      clear hK K
      try simp only [Act.put, tkS]
      refine wpAnyH_take (i := 10) (v := ?_) rfl (by kernel_rfl) (by kernel_rfl) (by kernel_rfl) (fun _ _ _ h => h) (Or.inl ⟨by kernel_rfl, ?_⟩) (by assumption) ?_
      rotate_left
      · (intro wS hSw; (try dsimp only at hSw); go_simp <;> with_reducible rfl)
      try simp only [Act.put, tkS]
      refine wpAnyH_ready (rs := [11, 16]) (by kernel_rfl) (by simp) (AllReadyH.cons rfl (fun K hK => ?_) (AllReadyH.cons rfl (fun K hK => ?_) AllReadyH.nil))
      ·
        refine step_append_is rfl (.tmp 12) (.tmp 19) 26 rfl _ _ (by rfl) (by rfl) _ _ RUN11.out ?_
        refine hK.out _ _ ?_ (fun hHeld => ?_)
        · (exact CE.out _ (by first | exact BW0.out | exact BW1.out | exact BW2.out | exact BW3.out | exact BW4.out))
        clear hK K
        try simp only [Act.put, tkS]
        refine wpAnyH_ready (rs := [16]) (by kernel_rfl) (by simp) (AllReadyH.cons rfl (fun K hK => ?_) AllReadyH.nil)
        go_simp
        refine hK.out _ _ ?_ (fun hHeld => ?_)
        · (exact CE.out _ (by first | exact BW0.out | exact BW1.out | exact BW2.out | exact BW3.out | exact BW4.out))
        clear hK K
        try simp only [Act.put, tkS]
        refine wpAnyH_take (i := 19) (v := ?_) rfl (by kernel_rfl) (by kernel_rfl) (by kernel_rfl) (fun _ _ _ h => h) (Or.inl ⟨by kernel_rfl, ?_⟩) (by assumption) ?_
        rotate_left
        · (intro wS hSw; (try dsimp only at hSw); go_simp <;> with_reducible rfl)
        try simp only [Act.put, tkS]
        refine wpAnyH_ready (rs := [20]) (by kernel_rfl) (by simp) (AllReadyH.cons rfl (fun K hK => ?_) AllReadyH.nil)
        refine step_append_is rfl (.tmp 20) (.tmp 28) 26 rfl _ _ (by rfl) (by rfl) _ _ RUN20.out ?_
        refine hK.out _ _ ?_ (fun hHeld => ?_)
        · (exact CE.out _ (by first | exact BW0.out | exact BW1.out | exact BW2.out | exact BW3.out | exact BW4.out))
        clear hK K
        try simp only [Act.put, tkS]
        refine wpAnyH_take (i := 21) (v := ?_) rfl (by kernel_rfl) (by kernel_rfl) (by kernel_rfl) (fun _ _ _ h => h) (Or.inl ⟨by kernel_rfl, ?_⟩) (by assumption) ?_
        rotate_left
        · (intro wS hSw; (try dsimp only at hSw); go_simp <;> with_reducible rfl)
        try simp only [Act.put, tkS]
        refine wpAnyH_ready (rs := [22]) (by kernel_rfl) (by simp) (AllReadyH.cons rfl (fun K hK => ?_) AllReadyH.nil)
        go_simp
        refine hK.out _ _ ?_ (fun hHeld => ?_)
        · (exact CE.out _ (by first | exact BW0.out | exact BW1.out | exact BW2.out | exact BW3.out | exact BW4.out))
        clear hK K
        try simp only [Act.put, tkS]
        refine wpAnyH_done (by kernel_rfl) ?_ _
        have m0 := cell_at (o := 0) BW4.out.bx rfl
        have m1 := cell_at (o := 1) BW4.out.bx rfl
        have r0 := cell_at (o := 0) BW4.out.rv rfl
        have r1 := cell_at (o := 1) BW4.out.rv rfl
        have g0 := frozen_at 0 BW4.out.rv
        have g1 := frozen_at 1 BW4.out.rv
        clear p0 p1 p2 p3 q3 x0 x1 f0 f1 hif
        go_wp2_with fail
        refine bodyPost_ret (v := .agg #[.slice (some ⟨g, 0, none⟩) x.tables.length rc, .int .i64 x.next]) (by simp [results, Try.results22, go_sem, *]) rfl ?_
        refine ⟨some ⟨g, 0, none⟩, rc, rfl, ?_, (BW4.out.bel.setCell (by simp <;> omega) _).setCell (by simp <;> omega) _⟩
        have hz := HFIN.out.2
        have hfr2 : Frm (· = w.heap.size + 1) (W3.setCell ⟨g, i, none⟩ (.slice a2 n1 c2)) (((W3.setCell ⟨g, i, none⟩ (.slice a2 n1 c2)).setCell ⟨w.heap.size + 1, 0, none⟩ (.slice (some ⟨g, 0, none⟩) x.tables.length rc)).setCell ⟨w.heap.size + 1, 1, none⟩ (.int .i64 x.next)) := (frm_set _ _ _ _).trans (frm_set _ _ _ _)
        have h9 := HFIN.out.1.frm hfr2 (fun b hb e => by have h1 := hb.1; have e' : b = w.heap.size + 1 := e; omega)
        exact h9.mono (fun b hb => ⟨by have h1 : z ≤ b := hb.1; omega, by have := hb.2; simpa using this⟩)
      ·
        go_simp
        refine hK.out _ _ ?_ (fun hHeld => ?_)
        · (exact CE.out _ (by first | exact BW0.out | exact BW1.out | exact BW2.out | exact BW3.out | exact BW4.out))
        clear hK K
        try simp only [Act.put, tkS]
        refine wpAnyH_take (i := 19) (v := ?_) rfl (by kernel_rfl) (by kernel_rfl) (by kernel_rfl) (fun _ _ _ h => h) (Or.inl ⟨by kernel_rfl, ?_⟩) (by assumption) ?_
        rotate_left
        · (intro wS hSw; (try dsimp only at hSw); go_simp <;> with_reducible rfl)
        try simp only [Act.put, tkS]
        refine wpAnyH_ready (rs := [11]) (by kernel_rfl) (by simp) (AllReadyH.cons rfl (fun K hK => ?_) AllReadyH.nil)
        refine step_append_is rfl (.tmp 12) (.tmp 19) 26 rfl _ _ (by rfl) (by rfl) _ _ RUN11.out ?_
        refine hK.out _ _ ?_ (fun hHeld => ?_)
        · (exact CE.out _ (by first | exact BW0.out | exact BW1.out | exact BW2.out | exact BW3.out | exact BW4.out))
        clear hK K
        try simp only [Act.put, tkS]
        refine wpAnyH_ready (rs := [20]) (by kernel_rfl) (by simp) (AllReadyH.cons rfl (fun K hK => ?_) AllReadyH.nil)
        refine step_append_is rfl (.tmp 20) (.tmp 28) 26 rfl _ _ (by rfl) (by rfl) _ _ RUN20.out ?_
        refine hK.out _ _ ?_ (fun hHeld => ?_)
        · (exact CE.out _ (by first | exact BW0.out | exact BW1.out | exact BW2.out | exact BW3.out | exact BW4.out))
        clear hK K
        try simp only [Act.put, tkS]
        refine wpAnyH_take (i := 21) (v := ?_) rfl (by kernel_rfl) (by kernel_rfl) (by kernel_rfl) (fun _ _ _ h => h) (Or.inl ⟨by kernel_rfl, ?_⟩) (by assumption) ?_
        rotate_left
        · (intro wS hSw; (try dsimp only at hSw); go_simp <;> with_reducible rfl)
        try simp only [Act.put, tkS]
        refine wpAnyH_ready (rs := [22]) (by kernel_rfl) (by simp) (AllReadyH.cons rfl (fun K hK => ?_) AllReadyH.nil)
        go_simp
        refine hK.out _ _ ?_ (fun hHeld => ?_)
        · (exact CE.out _ (by first | exact BW0.out | exact BW1.out | exact BW2.out | exact BW3.out | exact BW4.out))
        clear hK K
        try simp only [Act.put, tkS]
        refine wpAnyH_done (by kernel_rfl) ?_ _
        have m0 := cell_at (o := 0) BW4.out.bx rfl
        have m1 := cell_at (o := 1) BW4.out.bx rfl
        have r0 := cell_at (o := 0) BW4.out.rv rfl
        have r1 := cell_at (o := 1) BW4.out.rv rfl
        have g0 := frozen_at 0 BW4.out.rv
        have g1 := frozen_at 1 BW4.out.rv
        clear p0 p1 p2 p3 q3 x0 x1 f0 f1 hif
        go_wp2_with fail
        refine bodyPost_ret (v := .agg #[.slice (some ⟨g, 0, none⟩) x.tables.length rc, .int .i64 x.next]) (by simp [results, Try.results22, go_sem, *]) rfl ?_
        refine ⟨some ⟨g, 0, none⟩, rc, rfl, ?_, (BW4.out.bel.setCell (by simp <;> omega) _).setCell (by simp <;> omega) _⟩
        have hz := HFIN.out.2
        have hfr2 : Frm (· = w.heap.size + 1) (W3.setCell ⟨g, i, none⟩ (.slice a2 n1 c2)) (((W3.setCell ⟨g, i, none⟩ (.slice a2 n1 c2)).setCell ⟨w.heap.size + 1, 0, none⟩ (.slice (some ⟨g, 0, none⟩) x.tables.length rc)).setCell ⟨w.heap.size + 1, 1, none⟩ (.int .i64 x.next)) := (frm_set _ _ _ _).trans (frm_set _ _ _ _)
        have h9 := HFIN.out.1.frm hfr2 (fun b hb e => by have h1 := hb.1; have e' : b = w.heap.size + 1 := e; omega)
        exact h9.mono (fun b hb => ⟨by have h1 : z ≤ b := hb.1; omega, by have := hb.2; simpa using this⟩)
    ·
      go_simp
      refine hK.out _ _ ?_ (fun hHeld => ?_)
      · (exact CE.out _ (by first | exact BW0.out | exact BW1.out | exact BW2.out | exact BW3.out | exact BW4.out))
      clear hK K
      try simp only [Act.put, tkS]
      refine wpAnyH_take (i := 19) (v := ?_) rfl (by kernel_rfl) (by kernel_rfl) (by kernel_rfl) (fun _ _ _ h => h) (Or.inl ⟨by kernel_rfl, ?_⟩) (by assumption) ?_
      rotate_left
      · (intro wS hSw; (try dsimp only at hSw); go_simp <;> with_reducible rfl)
      try simp only [Act.put, tkS]
      refine wpAnyH_ready (rs := [8]) (by kernel_rfl) (by simp) (AllReadyH.cons rfl (fun K hK => ?_) AllReadyH.nil)
      go_simp
      refine hK.out _ _ ?_ (fun hHeld => ?_)
      · (exact CE.out _ (by first | exact BW0.out | exact BW1.out | exact BW2.out | exact BW3.out | exact BW4.out))
      clear hK K
      try simp only [Act.put, tkS]
      refine wpAnyH_take (i := 10) (v := ?_) rfl (by kernel_rfl) (by kernel_rfl) (by kernel_rfl) (fun _ _ _ h => h) (Or.inl ⟨by kernel_rfl, ?_⟩) (by assumption) ?_
      rotate_left
      · (intro wS hSw; (try dsimp only at hSw); go_simp <;> with_reducible rfl)
      try simp only [Act.put, tkS]
      refine wpAnyH_ready (rs := [11]) (by kernel_rfl) (by simp) (AllReadyH.cons rfl (fun K hK => ?_) AllReadyH.nil)
      refine step_append_is rfl (.tmp 12) (.tmp 19) 26 rfl _ _ (by rfl) (by rfl) _ _ RUN11.out ?_
      refine hK.out _ _ ?_ (fun hHeld => ?_)
      · (exact CE.out _ (by first | exact BW0.out | exact BW1.out | exact BW2.out | exact BW3.out | exact BW4.out))
      clear hK K
      try simp only [Act.put, tkS]
      refine wpAnyH_ready (rs := [20]) (by kernel_rfl) (by simp) (AllReadyH.cons rfl (fun K hK => ?_) AllReadyH.nil)
      refine step_append_is rfl (.tmp 20) (.tmp 28) 26 rfl _ _ (by rfl) (by rfl) _ _ RUN20.out ?_
      refine hK.out _ _ ?_ (fun hHeld => ?_)
      · (exact CE.out _ (by first | exact BW0.out | exact BW1.out | exact BW2.out | exact BW3.out | exact BW4.out))
      clear hK K
      try simp only [Act.put, tkS]
      refine wpAnyH_take (i := 21) (v := ?_) rfl (by kernel_rfl) (by kernel_rfl) (by kernel_rfl) (fun _ _ _ h => h) (Or.inl ⟨by kernel_rfl, ?_⟩) (by assumption) ?_
      rotate_left
      · (intro wS hSw; (try dsimp only at hSw); go_simp <;> with_reducible rfl)
      try simp only [Act.put, tkS]
      refine wpAnyH_ready (rs := [22]) (by kernel_rfl) (by simp) (AllReadyH.cons rfl (fun K hK => ?_) AllReadyH.nil)
      go_simp
      refine hK.out _ _ ?_ (fun hHeld => ?_)
      · (exact CE.out _ (by first | exact BW0.out | exact BW1.out | exact BW2.out | exact BW3.out | exact BW4.out))
      clear hK K
      try simp only [Act.put, tkS]
      refine wpAnyH_done (by kernel_rfl) ?_ _
      have m0 := cell_at (o := 0) BW4.out.bx rfl
      have m1 := cell_at (o := 1) BW4.out.bx rfl
      have r0 := cell_at (o := 0) BW4.out.rv rfl
      have r1 := cell_at (o := 1) BW4.out.rv rfl
      have g0 := frozen_at 0 BW4.out.rv
      have g1 := frozen_at 1 BW4.out.rv
      clear p0 p1 p2 p3 q3 x0 x1 f0 f1 hif
      go_wp2_with fail
      refine bodyPost_ret (v := .agg #[.slice (some ⟨g, 0, none⟩) x.tables.length rc, .int .i64 x.next]) (by simp [results, Try.results22, go_sem, *]) rfl ?_
      refine ⟨some ⟨g, 0, none⟩, rc, rfl, ?_, (BW4.out.bel.setCell (by simp <;> omega) _).setCell (by simp <;> omega) _⟩
      have hz := HFIN.out.2
      have hfr2 : Frm (· = w.heap.size + 1) (W3.setCell ⟨g, i, none⟩ (.slice a2 n1 c2)) (((W3.setCell ⟨g, i, none⟩ (.slice a2 n1 c2)).setCell ⟨w.heap.size + 1, 0, none⟩ (.slice (some ⟨g, 0, none⟩) x.tables.length rc)).setCell ⟨w.heap.size + 1, 1, none⟩ (.int .i64 x.next)) := (frm_set _ _ _ _).trans (frm_set _ _ _ _)
      have h9 := HFIN.out.1.frm hfr2 (fun b hb e => by have h1 := hb.1; have e' : b = w.heap.size + 1 := e; omega)
      exact h9.mono (fun b hb => ⟨by have h1 : z ≤ b := hb.1; omega, by have := hb.2; simpa using this⟩)
  ·
    go_simp
    refine hK.out _ _ ?_ (fun hHeld => ?_)
    · (exact CE.out _ (by first | exact BW0.out | exact BW1.out | exact BW2.out | exact BW3.out | exact BW4.out))
    clear hK K
    try simp only [Act.put, tkS]
    refine wpAnyH_take (i := 10) (v := ?_) rfl (by kernel_rfl) (by kernel_rfl) (by kernel_rfl) (fun _ _ _ h => h) (Or.inl ⟨by kernel_rfl, ?_⟩) (by assumption) ?_
    rotate_left
    · (intro wS hSw; (try dsimp only at hSw); go_simp <;> with_reducible rfl)
    try simp only [Act.put, tkS]
    refine wpAnyH_ready (rs := [3, 16]) (by kernel_rfl) (by simp) (AllReadyH.cons rfl (fun K hK => ?_) (AllReadyH.cons rfl (fun K hK => ?_) AllReadyH.nil))
    ·
      go_simp
      refine hK.out _ _ ?_ (fun hHeld => ?_)
      · (exact CE.out _ (by first | exact BW0.out | exact BW1.out | exact BW2.out | exact BW3.out | exact BW4.out))
      clear hK K
      try simp only [Act.put, tkS]
      refine wpAnyH_ready (rs := [11, 16]) (by kernel_rfl) (by simp) (AllReadyH.cons rfl (fun K hK => ?_) (AllReadyH.cons rfl (fun K hK => ?_) AllReadyH.nil))
      ·
        refine step_append_is rfl (.tmp 12) (.tmp 19) 26 rfl _ _ (by rfl) (by rfl) _ _ RUN11.out ?_
        refine hK.out _ _ ?_ (fun hHeld => ?_)
        · (exact CE.out _ (by first | exact BW0.out | exact BW1.out | exact BW2.out | exact BW3.out | exact BW4.out))
        clear hK K
        try simp only [Act.put, tkS]
        refine wpAnyH_ready (rs := [16]) (by kernel_rfl) (by simp) (AllReadyH.cons rfl (fun K hK => ?_) AllReadyH.nil)
        go_simp
        refine hK.out _ _ ?_ (fun hHeld => ?_)
        · (exact CE.out _ (by first | exact BW0.out | exact BW1.out | exact BW2.out | exact BW3.out | exact BW4.out))
        clear hK K
        try simp only [Act.put, tkS]
        refine wpAnyH_take (i := 19) (v := ?_) rfl (by kernel_rfl) (by kernel_rfl) (by kernel_rfl) (fun _ _ _ h => h) (Or.inl ⟨by kernel_rfl, ?_⟩) (by assumption) ?_
        rotate_left
        · (intro wS hSw; (try dsimp only at hSw); go_simp <;> with_reducible rfl)
        try simp only [Act.put, tkS]
        refine wpAnyH_ready (rs := [20]) (by kernel_rfl) (by simp) (AllReadyH.cons rfl (fun K hK => ?_) AllReadyH.nil)
        refine step_append_is rfl (.tmp 20) (.tmp 28) 26 rfl _ _ (by rfl) (by rfl) _ _ RUN20.out ?_
        refine hK.out _ _ ?_ (fun hHeld => ?_)
        · (exact CE.out _ (by first | exact BW0.out | exact BW1.out | exact BW2.out | exact BW3.out | exact BW4.out))
        clear hK K
        try simp only [Act.put, tkS]
        refine wpAnyH_take (i := 21) (v := ?_) rfl (by kernel_rfl) (by kernel_rfl) (by kernel_rfl) (fun _ _ _ h => h) (Or.inl ⟨by kernel_rfl, ?_⟩) (by assumption) ?_
        rotate_left
        · (intro wS hSw; (try dsimp only at hSw); go_simp <;> with_reducible rfl)
        try simp only [Act.put, tkS]
        refine wpAnyH_ready (rs := [22]) (by kernel_rfl) (by simp) (AllReadyH.cons rfl (fun K hK => ?_) AllReadyH.nil)
        go_simp
        refine hK.out _ _ ?_ (fun hHeld => ?_)
        · (exact CE.out _ (by first | exact BW0.out | exact BW1.out | exact BW2.out | exact BW3.out | exact BW4.out))
        clear hK K
        try simp only [Act.put, tkS]
        refine wpAnyH_done (by kernel_rfl) ?_ _
        have m0 := cell_at (o := 0) BW4.out.bx rfl
        have m1 := cell_at (o := 1) BW4.out.bx rfl
        have r0 := cell_at (o := 0) BW4.out.rv rfl
        have r1 := cell_at (o := 1) BW4.out.rv rfl
        have g0 := frozen_at 0 BW4.out.rv
        have g1 := frozen_at 1 BW4.out.rv
        clear p0 p1 p2 p3 q3 x0 x1 f0 f1 hif
        go_wp2_with fail
        refine bodyPost_ret (v := .agg #[.slice (some ⟨g, 0, none⟩) x.tables.length rc, .int .i64 x.next]) (by simp [results, Try.results22, go_sem, *]) rfl ?_
        refine ⟨some ⟨g, 0, none⟩, rc, rfl, ?_, (BW4.out.bel.setCell (by simp <;> omega) _).setCell (by simp <;> omega) _⟩
        have hz := HFIN.out.2
        have hfr2 : Frm (· = w.heap.size + 1) (W3.setCell ⟨g, i, none⟩ (.slice a2 n1 c2)) (((W3.setCell ⟨g, i, none⟩ (.slice a2 n1 c2)).setCell ⟨w.heap.size + 1, 0, none⟩ (.slice (some ⟨g, 0, none⟩) x.tables.length rc)).setCell ⟨w.heap.size + 1, 1, none⟩ (.int .i64 x.next)) := (frm_set _ _ _ _).trans (frm_set _ _ _ _)
        have h9 := HFIN.out.1.frm hfr2 (fun b hb e => by have h1 := hb.1; have e' : b = w.heap.size + 1 := e; omega)
        exact h9.mono (fun b hb => ⟨by have h1 : z ≤ b := hb.1; omega, by have := hb.2; simpa using this⟩)
      ·
        go_simp
        refine hK.out _ _ ?_ (fun hHeld => ?_)
        · (exact CE.out _ (by first | exact BW0.out | exact BW1.out | exact BW2.out | exact BW3.out | exact BW4.out))
        clear hK K
        try simp only [Act.put, tkS]
        refine wpAnyH_take (i := 19) (v := ?_) rfl (by kernel_rfl) (by kernel_rfl) (by kernel_rfl) (fun _ _ _ h => h) (Or.inl ⟨by kernel_rfl, ?_⟩) (by assumption) ?_
        rotate_left
        · (intro wS hSw; (try dsimp only at hSw); go_simp <;> with_reducible rfl)
        try simp only [Act.put, tkS]
        refine wpAnyH_ready (rs := [11]) (by kernel_rfl) (by simp) (AllReadyH.cons rfl (fun K hK => ?_) AllReadyH.nil)
        refine step_append_is rfl (.tmp 12) (.tmp 19) 26 rfl _ _ (by rfl) (by rfl) _ _ RUN11.out ?_
        refine hK.out _ _ ?_ (fun hHeld => ?_)
        · (exact CE.out _ (by first | exact BW0.out | exact BW1.out | exact BW2.out | exact BW3.out | exact BW4.out))
        clear hK K
        try simp only [Act.put, tkS]
        refine wpAnyH_ready (rs := [20]) (by kernel_rfl) (by simp) (AllReadyH.cons rfl (fun K hK => ?_) AllReadyH.nil)
        refine step_append_is rfl (.tmp 20) (.tmp 28) 26 rfl _ _ (by rfl) (by rfl) _ _ RUN20.out ?_
        refine hK.out _ _ ?_ (fun hHeld => ?_)
        · (exact CE.out _ (by first | exact BW0.out | exact BW1.out | exact BW2.out | exact BW3.out | exact BW4.out))
        clear hK K
        try simp only [Act.put, tkS]
        refine wpAnyH_take (i := 21) (v := ?_) rfl (by kernel_rfl) (by kernel_rfl) (by kernel_rfl) (fun _ _ _ h => h) (Or.inl ⟨by kernel_rfl, ?_⟩) (by assumption) ?_
        rotate_left
        · (intro wS hSw; (try dsimp only at hSw); go_simp <;> with_reducible rfl)
        try simp only [Act.put, tkS]
        refine wpAnyH_ready (rs := [22]) (by kernel_rfl) (by simp) (AllReadyH.cons rfl (fun K hK => ?_) AllReadyH.nil)
        go_simp
        refine hK.out _ _ ?_ (fun hHeld => ?_)
        · (exact CE.out _ (by first | exact BW0.out | exact BW1.out | exact BW2.out | exact BW3.out | exact BW4.out))
        clear hK K
        try simp only [Act.put, tkS]
        refine wpAnyH_done (by kernel_rfl) ?_ _
        have m0 := cell_at (o := 0) BW4.out.bx rfl
        have m1 := cell_at (o := 1) BW4.out.bx rfl
        have r0 := cell_at (o := 0) BW4.out.rv rfl
        have r1 := cell_at (o := 1) BW4.out.rv rfl
        have g0 := frozen_at 0 BW4.out.rv
        have g1 := frozen_at 1 BW4.out.rv
        clear p0 p1 p2 p3 q3 x0 x1 f0 f1 hif
        go_wp2_with fail
        refine bodyPost_ret (v := .agg #[.slice (some ⟨g, 0, none⟩) x.tables.length rc, .int .i64 x.next]) (by simp [results, Try.results22, go_sem, *]) rfl ?_
        refine ⟨some ⟨g, 0, none⟩, rc, rfl, ?_, (BW4.out.bel.setCell (by simp <;> omega) _).setCell (by simp <;> omega) _⟩
        have hz := HFIN.out.2
        have hfr2 : Frm (· = w.heap.size + 1) (W3.setCell ⟨g, i, none⟩ (.slice a2 n1 c2)) (((W3.setCell ⟨g, i, none⟩ (.slice a2 n1 c2)).setCell ⟨w.heap.size + 1, 0, none⟩ (.slice (some ⟨g, 0, none⟩) x.tables.length rc)).setCell ⟨w.heap.size + 1, 1, none⟩ (.int .i64 x.next)) := (frm_set _ _ _ _).trans (frm_set _ _ _ _)
        have h9 := HFIN.out.1.frm hfr2 (fun b hb e => by have h1 := hb.1; have e' : b = w.heap.size + 1 := e; omega)
        exact h9.mono (fun b hb => ⟨by have h1 : z ≤ b := hb.1; omega, by have := hb.2; simpa using this⟩)
    ·
      go_simp
      refine hK.out _ _ ?_ (fun hHeld => ?_)
      · (exact CE.out _ (by first | exact BW0.out | exact BW1.out | exact BW2.out | exact BW3.out | exact BW4.out))
      clear hK K
      try simp only [Act.put, tkS]
      refine wpAnyH_take (i := 19) (v := ?_) rfl (by kernel_rfl) (by kernel_rfl) (by kernel_rfl) (fun _ _ _ h => h) (Or.inl ⟨by kernel_rfl, ?_⟩) (by assumption) ?_
      rotate_left
      · (intro wS hSw; (try dsimp only at hSw); go_simp <;> with_reducible rfl)
      try simp only [Act.put, tkS]
      refine wpAnyH_ready (rs := [3]) (by kernel_rfl) (by simp) (AllReadyH.cons rfl (fun K hK => ?_) AllReadyH.nil)
      go_simp
      refine hK.out _ _ ?_ (fun hHeld => ?_)
      · (exact CE.out _ (by first | exact BW0.out | exact BW1.out | exact BW2.out | exact BW3.out | exact BW4.out))
      clear hK K
      try simp only [Act.put, tkS]
      refine wpAnyH_ready (rs := [11]) (by kernel_rfl) (by simp) (AllReadyH.cons rfl (fun K hK => ?_) AllReadyH.nil)
      refine step_append_is rfl (.tmp 12) (.tmp 19) 26 rfl _ _ (by rfl) (by rfl) _ _ RUN11.out ?_
      refine hK.out _ _ ?_ (fun hHeld => ?_)
      · (exact CE.out _ (by first | exact BW0.out | exact BW1.out | exact BW2.out | exact BW3.out | exact BW4.out))
      clear hK K
      try simp only [Act.put, tkS]
      refine wpAnyH_ready (rs := [20]) (by kernel_rfl) (by simp) (AllReadyH.cons rfl (fun K hK => ?_) AllReadyH.nil)
      refine step_append_is rfl (.tmp 20) (.tmp 28) 26 rfl _ _ (by rfl) (by rfl) _ _ RUN20.out ?_
      refine hK.out _ _ ?_ (fun hHeld => ?_)
      · (exact CE.out _ (by first | exact BW0.out | exact BW1.out | exact BW2.out | exact BW3.out | exact BW4.out))
      clear hK K
      try simp only [Act.put, tkS]
      refine wpAnyH_take (i := 21) (v := ?_) rfl (by kernel_rfl) (by kernel_rfl) (by kernel_rfl) (fun _ _ _ h => h) (Or.inl ⟨by kernel_rfl, ?_⟩) (by assumption) ?_
      rotate_left
      · (intro wS hSw; (try dsimp only at hSw); go_simp <;> with_reducible rfl)
      try simp only [Act.put, tkS]
      refine wpAnyH_ready (rs := [22]) (by kernel_rfl) (by simp) (AllReadyH.cons rfl (fun K hK => ?_) AllReadyH.nil)
      go_simp
      refine hK.out _ _ ?_ (fun hHeld => ?_)
      · (exact CE.out _ (by first | exact BW0.out | exact BW1.out | exact BW2.out | exact BW3.out | exact BW4.out))
      clear hK K
      try simp only [Act.put, tkS]
      refine wpAnyH_done (by kernel_rfl) ?_ _
      have m0 := cell_at (o := 0) BW4.out.bx rfl
      have m1 := cell_at (o := 1) BW4.out.bx rfl
      have r0 := cell_at (o := 0) BW4.out.rv rfl
      have r1 := cell_at (o := 1) BW4.out.rv rfl
      have g0 := frozen_at 0 BW4.out.rv
      have g1 := frozen_at 1 BW4.out.rv
      clear p0 p1 p2 p3 q3 x0 x1 f0 f1 hif
      go_wp2_with fail
      refine bodyPost_ret (v := .agg #[.slice (some ⟨g, 0, none⟩) x.tables.length rc, .int .i64 x.next]) (by simp [results, Try.results22, go_sem, *]) rfl ?_
      refine ⟨some ⟨g, 0, none⟩, rc, rfl, ?_, (BW4.out.bel.setCell (by simp <;> omega) _).setCell (by simp <;> omega) _⟩
      have hz := HFIN.out.2
      have hfr2 : Frm (· = w.heap.size + 1) (W3.setCell ⟨g, i, none⟩ (.slice a2 n1 c2)) (((W3.setCell ⟨g, i, none⟩ (.slice a2 n1 c2)).setCell ⟨w.heap.size + 1, 0, none⟩ (.slice (some ⟨g, 0, none⟩) x.tables.length rc)).setCell ⟨w.heap.size + 1, 1, none⟩ (.int .i64 x.next)) := (frm_set _ _ _ _).trans (frm_set _ _ _ _)
      have h9 := HFIN.out.1.frm hfr2 (fun b hb e => by have h1 := hb.1; have e' : b = w.heap.size + 1 := e; omega)
      exact h9.mono (fun b hb => ⟨by have h1 : z ≤ b := hb.1; omega, by have := hb.2; simpa using this⟩)
  ·
    go_simp
    refine hK.out _ _ ?_ (fun hHeld => ?_)
    · (exact CE.out _ (by first | exact BW0.out | exact BW1.out | exact BW2.out | exact BW3.out | exact BW4.out))
    clear hK K
    try simp only [Act.put, tkS]
    refine wpAnyH_take (i := 19) (v := ?_) rfl (by kernel_rfl) (by kernel_rfl) (by kernel_rfl) (fun _ _ _ h => h) (Or.inl ⟨by kernel_rfl, ?_⟩) (by assumption) ?_
    rotate_left
    · (intro wS hSw; (try dsimp only at hSw); go_simp <;> with_reducible rfl)
    try simp only [Act.put, tkS]
    refine wpAnyH_ready (rs := [3, 8]) (by kernel_rfl) (by simp) (AllReadyH.cons rfl (fun K hK => ?_) (AllReadyH.cons rfl (fun K hK => ?_) AllReadyH.nil))
    ·
      go_simp
      refine hK.out _ _ ?_ (fun hHeld => ?_)
      · (exact CE.out _ (by first | exact BW0.out | exact BW1.out | exact BW2.out | exact BW3.out | exact BW4.out))
      clear hK K
      try simp only [Act.put, tkS]
      refine wpAnyH_ready (rs := [8]) (by kernel_rfl) (by simp) (AllReadyH.cons rfl (fun K hK => ?_) AllReadyH.nil)
      go_simp
      refine hK.out _ _ ?_ (fun hHeld => ?_)
      · (exact CE.out _ (by first | exact BW0.out | exact BW1.out | exact BW2.out | exact BW3.out | exact BW4.out))
      clear hK K
      try simp only [Act.put, tkS]
      refine wpAnyH_take (i := 10) (v := ?_) rfl (by kernel_rfl) (by kernel_rfl) (by kernel_rfl) (fun _ _ _ h => h) (Or.inl ⟨by kernel_rfl, ?_⟩) (by assumption) ?_
      rotate_left
      · (intro wS hSw; (try dsimp only at hSw); go_simp <;> with_reducible rfl)
      try simp only [Act.put, tkS]
      refine wpAnyH_ready (rs := [11]) (by kernel_rfl) (by simp) (AllReadyH.cons rfl (fun K hK => ?_) AllReadyH.nil)
      refine step_append_is rfl (.tmp 12) (.tmp 19) 26 rfl _ _ (by rfl) (by rfl) _ _ RUN11.out ?_
      refine hK.out _ _ ?_ (fun hHeld => ?_)
      · (exact CE.out _ (by first | exact BW0.out | exact BW1.out | exact BW2.out | exact BW3.out | exact BW4.out))
      clear hK K
      try simp only [Act.put, tkS]
      refine wpAnyH_ready (rs := [20]) (by kernel_rfl) (by simp) (AllReadyH.cons rfl (fun K hK => ?_) AllReadyH.nil)
      refine step_append_is rfl (.tmp 20) (.tmp 28) 26 rfl _ _ (by rfl) (by rfl) _ _ RUN20.out ?_
      refine hK.out _ _ ?_ (fun hHeld => ?_)
      · (exact CE.out _ (by first | exact BW0.out | exact BW1.out | exact BW2.out | exact BW3.out | exact BW4.out))
      clear hK K
      try simp only [Act.put, tkS]
      refine wpAnyH_take (i := 21) (v := ?_) rfl (by kernel_rfl) (by kernel_rfl) (by kernel_rfl) (fun _ _ _ h => h) (Or.inl ⟨by kernel_rfl, ?_⟩) (by assumption) ?_
      rotate_left
      · (intro wS hSw; (try dsimp only at hSw); go_simp <;> with_reducible rfl)
      try simp only [Act.put, tkS]
      refine wpAnyH_ready (rs := [22]) (by kernel_rfl) (by simp) (AllReadyH.cons rfl (fun K hK => ?_) AllReadyH.nil)
      go_simp
      refine hK.out _ _ ?_ (fun hHeld => ?_)
      · (exact CE.out _ (by first | exact BW0.out | exact BW1.out | exact BW2.out | exact BW3.out | exact BW4.out))
      clear hK K
      try simp only [Act.put, tkS]
      refine wpAnyH_done (by kernel_rfl) ?_ _
      have m0 := cell_at (o := 0) BW4.out.bx rfl
      have m1 := cell_at (o := 1) BW4.out.bx rfl
      have r0 := cell_at (o := 0) BW4.out.rv rfl
      have r1 := cell_at (o := 1) BW4.out.rv rfl
      have g0 := frozen_at 0 BW4.out.rv
      have g1 := frozen_at 1 BW4.out.rv
      clear p0 p1 p2 p3 q3 x0 x1 f0 f1 hif
      go_wp2_with fail
      refine bodyPost_ret (v := .agg #[.slice (some ⟨g, 0, none⟩) x.tables.length rc, .int .i64 x.next]) (by simp [results, Try.results22, go_sem, *]) rfl ?_
      refine ⟨some ⟨g, 0, none⟩, rc, rfl, ?_, (BW4.out.bel.setCell (by simp <;> omega) _).setCell (by simp <;> omega) _⟩
      have hz := HFIN.out.2
      have hfr2 : Frm (· = w.heap.size + 1) (W3.setCell ⟨g, i, none⟩ (.slice a2 n1 c2)) (((W3.setCell ⟨g, i, none⟩ (.slice a2 n1 c2)).setCell ⟨w.heap.size + 1, 0, none⟩ (.slice (some ⟨g, 0, none⟩) x.tables.length rc)).setCell ⟨w.heap.size + 1, 1, none⟩ (.int .i64 x.next)) := (frm_set _ _ _ _).trans (frm_set _ _ _ _)
      have h9 := HFIN.out.1.frm hfr2 (fun b hb e => by have h1 := hb.1; have e' : b = w.heap.size + 1 := e; omega)
      exact h9.mono (fun b hb => ⟨by have h1 : z ≤ b := hb.1; omega, by have := hb.2; simpa using this⟩)
    ·
      go_simp
      refine hK.out _ _ ?_ (fun hHeld => ?_)
      · (exact CE.out _ (by first | exact BW0.out | exact BW1.out | exact BW2.out | exact BW3.out | exact BW4.out))
      clear hK K
      try simp only [Act.put, tkS]
      refine wpAnyH_take (i := 10) (v := ?_) rfl (by kernel_rfl) (by kernel_rfl) (by kernel_rfl) (fun _ _ _ h => h) (Or.inl ⟨by kernel_rfl, ?_⟩) (by assumption) ?_
      rotate_left
      · (intro wS hSw; (try dsimp only at hSw); go_simp <;> with_reducible rfl)
      try simp only [Act.put, tkS]
      refine wpAnyH_ready (rs := [3]) (by kernel_rfl) (by simp) (AllReadyH.cons rfl (fun K hK => ?_) AllReadyH.nil)
      go_simp
      refine hK.out _ _ ?_ (fun hHeld => ?_)
      · (exact CE.out _ (by first | exact BW0.out | exact BW1.out | exact BW2.out | exact BW3.out | exact BW4.out))
      clear hK K
      try simp only [Act.put, tkS]
      refine wpAnyH_ready (rs := [11]) (by kernel_rfl) (by simp) (AllReadyH.cons rfl (fun K hK => ?_) AllReadyH.nil)
      refine step_append_is rfl (.tmp 12) (.tmp 19) 26 rfl _ _ (by rfl) (by rfl) _ _ RUN11.out ?_
      refine hK.out _ _ ?_ (fun hHeld => ?_)
      · (exact CE.out _ (by first | exact BW0.out | exact BW1.out | exact BW2.out | exact BW3.out | exact BW4.out))
      clear hK K
      try simp only [Act.put, tkS]
      refine wpAnyH_ready (rs := [20]) (by kernel_rfl) (by simp) (AllReadyH.cons rfl (fun K hK => ?_) AllReadyH.nil)
      refine step_append_is rfl (.tmp 20) (.tmp 28) 26 rfl _ _ (by rfl) (by rfl) _ _ RUN20.out ?_
      refine hK.out _ _ ?_ (fun hHeld => ?_)
      · (exact CE.out _ (by first | exact BW0.out | exact BW1.out | exact BW2.out | exact BW3.out | exact BW4.out))
      clear hK K
      try simp only [Act.put, tkS]
      refine wpAnyH_take (i := 21) (v := ?_) rfl (by kernel_rfl) (by kernel_rfl) (by kernel_rfl) (fun _ _ _ h => h) (Or.inl ⟨by kernel_rfl, ?_⟩) (by assumption) ?_
      rotate_left
      · (intro wS hSw; (try dsimp only at hSw); go_simp <;> with_reducible rfl)
      try simp only [Act.put, tkS]
      refine wpAnyH_ready (rs := [22]) (by kernel_rfl) (by simp) (AllReadyH.cons rfl (fun K hK => ?_) AllReadyH.nil)
      go_simp
      refine hK.out _ _ ?_ (fun hHeld => ?_)
      · (exact CE.out _ (by first | exact BW0.out | exact BW1.out | exact BW2.out | exact BW3.out | exact BW4.out))
      clear hK K
      try simp only [Act.put, tkS]
      refine wpAnyH_done (by kernel_rfl) ?_ _
      have m0 := cell_at (o := 0) BW4.out.bx rfl
      have m1 := cell_at (o := 1) BW4.out.bx rfl
      have r0 := cell_at (o := 0) BW4.out.rv rfl
      have r1 := cell_at (o := 1) BW4.out.rv rfl
      have g0 := frozen_at 0 BW4.out.rv
      have g1 := frozen_at 1 BW4.out.rv
      clear p0 p1 p2 p3 q3 x0 x1 f0 f1 hif
      go_wp2_with fail
      refine bodyPost_ret (v := .agg #[.slice (some ⟨g, 0, none⟩) x.tables.length rc, .int .i64 x.next]) (by simp [results, Try.results22, go_sem, *]) rfl ?_
      refine ⟨some ⟨g, 0, none⟩, rc, rfl, ?_, (BW4.out.bel.setCell (by simp <;> omega) _).setCell (by simp <;> omega) _⟩
      have hz := HFIN.out.2
      have hfr2 : Frm (· = w.heap.size + 1) (W3.setCell ⟨g, i, none⟩ (.slice a2 n1 c2)) (((W3.setCell ⟨g, i, none⟩ (.slice a2 n1 c2)).setCell ⟨w.heap.size + 1, 0, none⟩ (.slice (some ⟨g, 0, none⟩) x.tables.length rc)).setCell ⟨w.heap.size + 1, 1, none⟩ (.int .i64 x.next)) := (frm_set _ _ _ _).trans (frm_set _ _ _ _)
      have h9 := HFIN.out.1.frm hfr2 (fun b hb e => by have h1 := hb.1; have e' : b = w.heap.size + 1 := e; omega)
      exact h9.mono (fun b hb => ⟨by have h1 : z ≤ b := hb.1; omega, by have := hb.2; simpa using this⟩)
end Go.Proofs.Ytnegmpdllbbnhaa
