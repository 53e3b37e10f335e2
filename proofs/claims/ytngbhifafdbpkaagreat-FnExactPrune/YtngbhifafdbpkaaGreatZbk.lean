import Derived.Test.YtngbhifafdbpkaaGreatZbi
import Derived.Test.YtngbhifafdbpkaaGreatZbj
import Derived.Test.YtngbhifafdbpkaaGreatZTk
namespace Go.Proofs.YtngbhifafdbpkaaGreat
open Go.RowKit
set_option linter.unusedSimpArgs false
theorem OG.spot {base : Nat} {W : World} {T : TypeId} {n : Nat} {d : Nat → Nat → D} {es : List OgE} {a : Option Addr} {m c : Nat} (h : OG base W T n d es (.slice a m c)) (hl : 0 < es.length) : ∃ g, a = some ⟨g, 0, none⟩ ∧ base ≤ g ∧ g < W.heap.size ∧ es.length ≤ c ∧ ∀ i j (hi : i < es.length), j < n → W.cell? ⟨g, i * n + j, none⟩ = some (es[i].vs j) ∧ W.frozen? ⟨g, i * n + j, none⟩ = false := by
  rcases h.ow.2 with ⟨-, h0⟩ | ⟨g, cap, cur, e, hg, hh, r1, r2, r3, r4⟩
  · omega
  simp only [Value.slice.injEq] at e
  refine ⟨g, e.1, hg, (Array.getElem?_eq_some_iff.1 hh).1, by have := e.2.2; omega, fun i j hi hj => ⟨?_, by simp [World.frozen?, hh]⟩⟩
  have hat := ogC_at n es i j hi hj
  have hlt : i * n + j < es.length * n := spot_lt hi hj
  rw [← hat, ← r4, List.getElem?_take_of_lt hlt, Array.getElem?_toList]
  simp [World.cell?, hh]
theorem rowPush {P : Program} {w : World} {base : Nat} {T : TypeId} {n : Nat} {k : Nat} {v : Value} {xs : List Value} (h2 : w.ownsRow base T n v k xs) (hv : ∃ g, v.ownBlock = some g) (t ty : TypeId) (i : TypeInfo) (z : Value) (bytes : Nat) (ht : P.underlying t = some (.slice T)) (hi : P.info? T = some i) (hz : i.zero = some z)
    (hsize : i.size = n) (hby : i.bytes = bytes) (hzs : z.cells.size = n) (hn : 0 < n) (ad : Addr) (m c : Nat) (news : List Value) (hl : news.length = m * n) (hnews : ∀ j u, news[j]? = some u → w.cell? (ad.add j) = some u) (h1 : ∀ u ∈ news, u.oneCell' = true)
    (h63 : k + m ≤ maxLen) (hbytes : (k + m) * bytes ≤ 140737488355328) (hbase : base ≤ w.heap.size) :
    ∃ a' c' w', (Builtin.append_ #[t, t] ty #[v, .slice (some ad) m c]).run P w = .ok (.slice a' (k + m) c') w' ∧ w'.ownsRow base T n (.slice a' (k + m) c') (k + m) (xs ++ news) ∧ w.grownBy w' v.ownBlock ∧ ∃ g, Value.ownBlock (.slice a' (k + m) c') = some g ∧ (v.ownBlock = some g ∨ w.heap.size ≤ g) := by
  by_cases hm : 0 < m
  · obtain ⟨v', w', hr, h4, h5, g, hg, hgg⟩ := run_append_own3 (P := P) w base t ty T i z n bytes ht hi hz hsize hby hzs hn v k xs h2 ad m c news hl hnews h1 h63 hbytes hbase hm
    obtain ⟨a', c', rfl⟩ : ∃ a' c', v' = .slice a' (k + m) c' := by
      rcases h4.2 with ⟨rfl, h0⟩ | ⟨g, cap, cur, rfl, -⟩
      · omega
      · exact ⟨_, _, rfl⟩
    exact ⟨a', c', w', hr, h4, h5, g, hg, hgg⟩
  · obtain rfl : m = 0 := by omega
    obtain rfl : news = [] := List.length_eq_zero_iff.1 (by rw [hl]; simp)
    have h2' := h2
    obtain ⟨gv, hgv⟩ := hv
    rcases h2'.2 with ⟨rfl, -⟩ | ⟨g, cap, cur, rfl, hg, hb, hkc, hcap, hcs, hx⟩
    · cases hgv
    · subst hsize
      have hr2 := run_append_room_cells (P := P) w t ty T i ht hi g 0 k cap ad 0 c [] (by simp) (fun j u hj => by simp at hj) (fun u hu => by simp at hu) (by omega) (fun j hj => by simp at hj) (fun j hj => by simp at hj)
      refine ⟨some ⟨g, 0, none⟩, cap, _, hr2, ?_, ?_, g, rfl, .inl rfl⟩
      · rw [List.append_nil]; exact h2
      · exact ⟨rfl, rfl, rfl, Nat.le_refl _, fun _ _ _ => rfl⟩
set_option maxRecDepth 100000 in
set_option maxHeartbeats 12800000 in
theorem ldropO (x : StV) (i k : Nat) (hi : i < x.tables.length) (hk : k < x.tables[i].length) (a : Option Addr) (c : Nat) (B : Nat → Prop) (w : World) (ho : (dRowSS x.tables).le 1048576) (hS : Rd w B (dRowSS x.tables) (.slice a x.tables.length c)) :
    Calls Tryz.prog 38 #[.agg #[.slice a x.tables.length c, .int .i64 x.next], .int .i64 i, .int .i64 k] w fun e w' => ∃ ra rc, e = .returned (.agg #[.slice ra x.tables.length rc, .int .i64 x.next]) ∧ Own w' (dRowSS (x.tables.set i (x.tables[i].eraseIdx k))) (fun d => w.heap.size ≤ d ∧ d < w'.heap.size) (.slice ra (x.tables.set i (x.tables[i].eraseIdx k)).length rc) ∧ Below w.heap.size w w' := by
  obtain ⟨iS, hiS⟩ := infoRw2
  have HIS := Lib.hid hiS
  have OS : Hid (∀ W, Below w.heap.size w W → Calls Tryz.prog 36 #[.agg #[.slice a x.tables.length c, .int .i64 x.next]] W _) := fun W h => ownO x a c B W ho (hS.later h)
  have hln : x.tables[i].length ≤ 1048576 := (Ls_le.1 ((Ls_le.1 ho).2.2 i hi 0 (by omega) : (dRowS x.tables[i]).le 1048576)).2.1
  have hb := LdB.first w (.slice a x.tables.length c) x.next
  have x0 := cell_at (o := 0) hb.bx rfl
  have x1 := cell_at (o := 1) hb.bx rfl
  have H0 := Lib.hid hb
  have HI := Lib.hid (And.intro hi hk)
  clear hS ho hb hiS
  go_enter Tryz.func38, Tryz.ntmps38
  go_wp2_with fail
  refine (OS.out _ H0.out.bel).mono ?_
  rintro e w1 ⟨es, ra, rc, rfl, hel, hog, hcq, hB⟩
  have H1 := Lib.hid (H0.out.later hB)
  clear x0 x1
  have x0 := cell_at (o := 0) H1.out.bx rfl
  have x1 := cell_at (o := 1) H1.out.bx rfl
  have f0 := frozen_at 0 H1.out.bx
  have f1 := frozen_at 1 H1.out.bx
  have hws : w.heap.size + 1 < ((w.alloc (.cells #[.slice a x.tables.length c, .int .i64 x.next] 32)).alloc (.cells #[.slice none 0 0, .int .i64 0] 32)).heap.size := by simp
  generalize ((w.alloc (.cells #[.slice a x.tables.length c, .int .i64 x.next] 32)).alloc (.cells #[.slice none 0 0, .int .i64 0] 32)).heap.size = z at *
  -- the box holds the copy
  obtain ⟨V, hV⟩ : ∃ V, V = (w1.setCell ⟨w.heap.size, 0, none⟩ (.slice ra x.tables.length rc)).setCell ⟨w.heap.size, 1, none⟩ (.int .i64 x.next) := ⟨_, rfl⟩
  have hneO : ∀ {W : World}, OG z W 74 1 (lsF cRowS x.tables) es (.slice ra x.tables.length rc) → ∀ o u, OG z (W.setCell ⟨w.heap.size, o, none⟩ u) 74 1 (lsF cRowS x.tables) es (.slice ra x.tables.length rc) := fun h o u => h.same (p := w.heap.size) (by simp [World.setCell]) (fun b hb => Below.heap_setCell _ _ _ _ hb) (fun e => by have := (h.low e).1; omega) (fun e he hx => by obtain ⟨q, hq, rfl⟩ := List.mem_iff_getElem.1 he; have := (h.el q hq).2.2.2.1; omega)
  have hoV : OG z V 74 1 (lsF cRowS x.tables) es (.slice ra x.tables.length rc) := by rw [hV]; exact hneO (hneO hog _ _) _ _
  have hbV : LdB w V (.slice ra x.tables.length rc) x.next := ⟨by rw [hV]; exact heap_set 1 _ (heap_set 0 _ H1.out.bx), by rw [hV, Below.heap_setCell _ _ _ _ (by show w.heap.size + 1 ≠ w.heap.size; omega), Below.heap_setCell _ _ _ _ (by show w.heap.size + 1 ≠ w.heap.size; omega)]; exact H1.out.rv, by rw [hV]; exact (H1.out.bel.setCell (Nat.le_refl _) _).setCell (Nat.le_refl _) _⟩
  clear hneO hog hB
  obtain ⟨g, rfl, hzg, hgV, hcpV, hcV⟩ := hoV.spot (by omega)
  have hie : i < es.length := by omega
  obtain ⟨ra2, rcap, hu, hcap, -⟩ := hcq i hie
  rw [getD_tab hi] at hu hcap
  obtain ⟨cu, zu⟩ := hcV i 0 hie (by omega)
  rw [Nat.mul_one, Nat.add_zero, hu] at cu
  rw [Nat.mul_one, Nat.add_zero] at zu
  obtain ⟨hoi, hmi, hsi, hbi, hgi⟩ := hoV.el i hie
  have hru := hoi 0 (by omega)
  rw [lsF_at hi, hu] at hru
  replace hru : Own V (Ls 2 dRow x.tables[i]) (fun d => es[i].s 0 ≤ d ∧ d < es[i].s 1) (.slice ra2 x.tables[i].length rcap) := hru
  obtain ⟨a9, c9, hv9, h9⟩ := hru
  simp only [Value.slice.injEq, true_and] at hv9
  obtain ⟨rfl, rfl⟩ := hv9
  obtain ⟨rb, roff, X, rfl, hXb, -, hXI, hXD, hXC⟩ := h9.2.resolve_left (by omega)
  have hI1 : es[i].s 1 ≤ V.heap.size := by have := hmi 1 1 (by omega) (by omega); exact hsi
  have hgl : ∀ m, ∃ u, m < x.tables[i].length * 2 → V.cell? ⟨rb, roff + m, none⟩ = some u ∧ Own V (lsF dRow x.tables[i] (m / 2) (m % 2)) (X (m / 2) (m % 2)) u ∧ u.oneCell' = true := fun m => by
    by_cases hm : m < x.tables[i].length * 2
    · obtain ⟨u, hu, -, hr⟩ := hXC (m / 2) (m % 2) (by omega) (by omega)
      rw [Nat.add_assoc, Nat.div_add_mod'] at hu
      have hr2 := hr
      rw [lsF_at (by omega)] at hr2
      exact ⟨u, fun _ => ⟨hu, hr, row_one (by omega) hr2.rd'⟩⟩
    · exact ⟨undef, fun h => absurd h hm⟩
  obtain ⟨gl, hgl⟩ := Classical.axiomOfChoice hgl
  have hrbV : rb < V.heap.size := World.block_lt_of_cell? V ⟨rb, roff + 0, none⟩ (hgl 0 (by omega)).1
  -- the worlds of the region
  obtain ⟨W1, hW1⟩ : ∃ W1, W1 = (V.alloc (.cells #[] 77)).drew := ⟨_, rfl⟩
  have bW1 : Below V.heap.size V W1 := by rw [hW1]; exact ((Below.refl _ _).alloc (Nat.le_refl _) _).drew
  have hs1 : W1.ownsRow V.heap.size 77 2 (.slice (some ⟨V.heap.size, 0, none⟩) 0 0) 0 [] := ⟨by simp, .inr ⟨V.heap.size, 0, #[], rfl, Nat.le_refl _, by rw [hW1]; exact heap_newD _ _, by simp, by omega, by simp, by simp⟩⟩
  have hle := List.length_eraseIdx_of_lt hk
  obtain ⟨a1, c1, W2, hr11, hs2, hg2, hg2'⟩ := rowPush (P := Tryz.prog) hs1 ⟨_, rfl⟩ 74 74 iS (.agg #[.int .i64 0, .slice none 0 0]) 32 Tryz.underlying74 HIS.out.1 HIS.out.2.1 HIS.out.2.2.1 HIS.out.2.2.2 rfl (by omega) ⟨rb, roff, none⟩ k rcap ((List.range (k * 2)).map gl) (by simp) (fun j u hj => by
      rw [List.getElem?_map, Option.map_eq_some_iff] at hj
      obtain ⟨m, hm, rfl⟩ := hj
      obtain ⟨hlt, rfl⟩ := List.getElem?_eq_some_iff.1 hm
      simp only [List.length_range] at hlt
      simp only [List.getElem_range]
      rw [Addr.add_mid, bW1.cell (p := ⟨rb, roff + j, none⟩) hrbV]
      exact (hgl j (by omega)).1) (fun u hu => by
      simp only [List.mem_map, List.mem_range] at hu
      obtain ⟨m, hm, rfl⟩ := hu
      exact (hgl m (by omega)).2.2) (by unfold maxLen; omega) (by omega) bW1.size
  rw [Nat.zero_add] at hr11 hs2 hg2'
  obtain ⟨k1, hk1e⟩ : ∃ k1, k1 = k + 1 := ⟨_, rfl⟩
  have bW2 : Below V.heap.size V W2 := below_grown bW1 hg2 (fun d e => by simp only [Value.ownBlock, Option.some.injEq] at e; omega) bW1.size
  obtain ⟨o1, ho1, ho1'⟩ := hg2'
  have hlo1 : V.heap.size ≤ o1 := by
    rcases ho1' with e | e
    · simp only [Value.ownBlock, Option.some.injEq] at e; omega
    · have := bW1.size; omega
  obtain ⟨a2, c2, W3, hr20, hs3, hg3, hg3'⟩ := rowPush (P := Tryz.prog) hs2 ⟨_, ho1⟩ 74 74 iS (.agg #[.int .i64 0, .slice none 0 0]) 32 Tryz.underlying74 HIS.out.1 HIS.out.2.1 HIS.out.2.2.1 HIS.out.2.2.2 rfl (by omega) (if rcap = k1 then ⟨rb, roff, none⟩ else ⟨rb, roff + k1 * 2, none⟩) (x.tables[i].length - k1) (rcap - k1) ((List.range ((x.tables[i].length - k1) * 2)).map (fun m => gl (k1 * 2 + m))) (by simp) (fun j u hj => by
      rw [List.getElem?_map, Option.map_eq_some_iff] at hj
      obtain ⟨m, hm, rfl⟩ := hj
      obtain ⟨hlt, rfl⟩ := List.getElem?_eq_some_iff.1 hm
      simp only [List.length_range] at hlt
      simp only [List.getElem_range]
      rw [if_neg (by omega), Addr.add_mid, bW2.cell (p := ⟨rb, roff + k1 * 2 + j, none⟩) hrbV, Nat.add_assoc roff]
      exact (hgl (k1 * 2 + j) (by omega)).1) (fun u hu => by
      simp only [List.mem_map, List.mem_range] at hu
      obtain ⟨m, hm, rfl⟩ := hu
      exact (hgl (k1 * 2 + m) (by omega)).2.2) (by unfold maxLen; omega) (by omega) (by have := bW2.size; omega)
  have bW3 : Below V.heap.size V W3 := below_grown bW2 hg3 (fun d e => by rw [ho1] at e; simp only [Option.some.injEq] at e; omega) bW2.size
  have hnn : k + (x.tables[i].length - k1) = (x.tables[i].eraseIdx k).length := by omega
  rw [hnn] at hr20 hs3 hg3'
  have hXS : ∀ r j, r < (x.tables[i].eraseIdx k).length → j < 2 → ([] ++ (List.range (k * 2)).map gl ++ (List.range ((x.tables[i].length - k1) * 2)).map (fun m => gl (k1 * 2 + m)))[r * 2 + j]? = some (gl ((if r < k then r else r + 1) * 2 + j)) := fun r j hr hj => by
    rw [List.nil_append]
    by_cases e : r < k
    · rw [if_pos e, List.getElem?_append_left (by simp; omega)]
      simp [show r * 2 + j < k * 2 by omega]
    · rw [if_neg e, List.getElem?_append_right (by simp; omega)]
      simp only [List.length_map, List.length_range]
      rw [List.getElem?_map, List.getElem?_range (by omega)]
      simp only [Option.map_some, Option.some.injEq]
      congr 1
      omega
  have hnew : Own W3 (dRowS (x.tables[i].eraseIdx k)) (fun d => (V.heap.size ≤ d ∧ d < W3.heap.size) ∨ (es[i].s 0 ≤ d ∧ d < es[i].s 1)) (.slice a2 (x.tables[i].eraseIdx k).length c2) := by
    have hcp2 : (x.tables[i].eraseIdx k).length ≤ c2 := by
      rcases hs3.2 with ⟨e, h1⟩ | ⟨g2, cap, cur, e, hg, hh, r1, r2, r3, r4⟩
      · omega
      · simp only [Value.slice.injEq] at e; omega
    refine ⟨a2, c2, rfl, hcp2, ?_⟩
    by_cases h0 : (x.tables[i].eraseIdx k).length = 0
    · exact .inl h0
    rcases hs3.2 with ⟨-, h1⟩ | ⟨g2, cap, cur, e, hg, hh, r1, r2, r3, r4⟩
    · exact absurd h1 h0
    simp only [Value.slice.injEq] at e
    have hg2lt := (Array.getElem?_eq_some_iff.1 hh).1
    refine .inr ⟨g2, 0, fun r j c => r < (x.tables[i].eraseIdx k).length ∧ j < 2 ∧ X (if r < k then r else r + 1) j c, e.1, .inl ⟨hg, hg2lt⟩, by omega, fun r j c hc => ?_, fun r j r' j' c hc hc' => ?_, fun r j hr hj => ?_⟩
    · have h1 := hXI _ _ _ hc.2.2
      have h2 := h1.1.2
      exact ⟨.inr h1.1, by omega⟩
    · have h1 := hXD _ _ _ _ _ hc.2.2 hc'.2.2
      refine ⟨?_, h1.2⟩
      have h2 := h1.1
      split at h2 <;> split at h2 <;> omega
    · rw [Nat.zero_add]
      have hlt : r * 2 + j < (x.tables[i].eraseIdx k).length * 2 := by omega
      have hcell : W3.cell? ⟨g2, r * 2 + j, none⟩ = some (gl ((if r < k then r else r + 1) * 2 + j)) := by
        rw [← hXS r j hr hj, ← r4, List.getElem?_take_of_lt hlt, Array.getElem?_toList]
        simp [World.cell?, hh]
      have hm : (if r < k then r else r + 1) * 2 + j < x.tables[i].length * 2 := by split <;> omega
      have h1 := (hgl _ hm).2.1
      have e1 : ((if r < k then r else r + 1) * 2 + j) / 2 = (if r < k then r else r + 1) := by omega
      have e2 : ((if r < k then r else r + 1) * 2 + j) % 2 = j := by omega
      rw [e1, e2, lsF_at (by omega)] at h1
      refine ⟨_, hcell, by simp [World.frozen?, hh], ?_⟩
      rw [lsF_at hr, erase_at hk]
      exact (h1.later bW3).mono (fun c hc => ⟨hr, hj, hc⟩)
  have hsz4 : (W3.setCell ⟨g, i, none⟩ (.slice a2 (x.tables[i].eraseIdx k).length c2)).heap.size = W3.heap.size := by simp [World.setCell]
  have hds := List.pairwise_iff_getElem.1 hoV.ds
  have hgn : ∀ q (hq : q < es.length) d, es[q].s 0 ≤ d → d < es[q].s 1 → d ≠ g ∧ z ≤ d ∧ d < V.heap.size := fun q hq d h1 h2 => by
    obtain ⟨-, m2, m3, m4, m5⟩ := hoV.el q hq
    have m6 := m2 1 1 (by omega) (by omega)
    refine ⟨fun e => m5 g rfl ⟨by omega, by omega⟩, by omega, by omega⟩
  have hfin : Own (W3.setCell ⟨g, i, none⟩ (.slice a2 (x.tables[i].eraseIdx k).length c2)) (dRowSS (x.tables.set i (x.tables[i].eraseIdx k))) (fun d => z ≤ d ∧ d < (W3.setCell ⟨g, i, none⟩ (.slice a2 (x.tables[i].eraseIdx k).length c2)).heap.size) (.slice (some ⟨g, 0, none⟩) (x.tables.set i (x.tables[i].eraseIdx k)).length rc) := by
    have hb3 := bW3.size
    rw [hsz4]
    refine ⟨_, _, rfl, by rw [List.length_set]; omega, .inr ⟨g, 0, fun q j c => j = 0 ∧ ∃ hq : q < es.length, (q ≠ i ∧ es[q].s 0 ≤ c ∧ c < es[q].s 1) ∨ (q = i ∧ ((V.heap.size ≤ c ∧ c < W3.heap.size) ∨ (es[i].s 0 ≤ c ∧ c < es[i].s 1))), rfl, ⟨hzg, by omega⟩, by omega, fun q j c hc => ?_, fun q j q' j' c hc hc' => ?_, fun q j hq hj => ?_⟩⟩
    · obtain ⟨-, hq, hc⟩ := hc
      rcases hc with ⟨-, h1, h2⟩ | ⟨-, h1 | h1⟩
      · have := hgn q hq c h1 h2; exact ⟨⟨this.2.1, by omega⟩, this.1⟩
      · exact ⟨⟨by omega, h1.2⟩, by omega⟩
      · have := hgn i hie c h1.1 h1.2; exact ⟨⟨this.2.1, by omega⟩, this.1⟩
    · obtain ⟨hj0, hq, hc⟩ := hc
      obtain ⟨hj1, hq', hc'⟩ := hc'
      refine ⟨?_, by omega⟩
      have key : ∀ p (hp : p < es.length) p' (hp' : p' < es.length), es[p].s 0 ≤ c → c < es[p].s 1 → es[p'].s 0 ≤ c → c < es[p'].s 1 → p = p' := fun p hp p' hp' h1 h2 h3 h4 => by
        rcases (by omega : p < p' ∨ p = p' ∨ p' < p) with e | e | e
        · have := hds p p' hp hp' e; omega
        · exact e
        · have := hds p' p hp' hp e; omega
      rcases hc with ⟨n1, h1, h2⟩ | ⟨e1, h1 | h1⟩ <;> rcases hc' with ⟨n2, h3, h4⟩ | ⟨e2, h3 | h3⟩
      · exact key q hq q' hq' h1 h2 h3 h4
      · have := hgn q hq c h1 h2; omega
      · exact absurd (key q hq i hie h1 h2 h3.1 h3.2) n1
      · have := hgn q' hq' c h3 h4; omega
      · omega
      · omega
      · exact absurd (key q' hq' i hie h3 h4 h1.1 h1.2) n2
      · omega
      · omega
    · obtain rfl : j = 0 := by omega
      rw [List.length_set] at hq
      have hqe : q < es.length := by omega
      rw [Nat.zero_add, Nat.mul_one, Nat.add_zero, lsF_at (by rw [List.length_set]; exact hq)]
      obtain ⟨c1, z1⟩ := hcV q 0 hqe (by omega)
      rw [Nat.mul_one, Nat.add_zero] at c1 z1
      have c3 := (bW3.cell (p := ⟨g, q, none⟩) hgV).trans c1
      have z3 : W3.frozen? ⟨g, q, none⟩ = false := by
        have hbk := bW3.block g hgV
        unfold World.frozen? at z1 ⊢
        simp only at z1 ⊢
        rw [hbk]; exact z1
      have z4 : (W3.setCell ⟨g, i, none⟩ (.slice a2 (x.tables[i].eraseIdx k).length c2)).frozen? ⟨g, q, none⟩ = false := by rw [World.frozen?_setCell]; exact z3
      by_cases e : q = i
      · subst e
        refine ⟨_, World.cell?_setCell_same _ _ _ c3, z4, ?_⟩
        rw [List.getElem_set_self]
        refine (hnew.frm (F := (· = g)) (frm_set _ _ _ _) (fun d hd e => ?_)).mono (fun d hd => ⟨rfl, hqe, .inr ⟨rfl, hd⟩⟩)
        have e' : d = g := e
        rcases hd with hd | hd
        · omega
        · exact (hgn q hqe d hd.1 hd.2).1 e'
      · refine ⟨_, cell_skip c3 e, z4, ?_⟩
        rw [List.getElem_set_ne (by omega)]
        have h1 := (hoV.el q hqe).1 0 (by omega)
        rw [lsF_at hq] at h1
        exact ((h1.later bW3).frm (F := (· = g)) (frm_set _ _ _ _) (fun d hd e => (hgn q hqe d hd.1 hd.2).1 e)).mono (fun d hd => ⟨rfl, hqe, .inl ⟨e, hd⟩⟩)
  have HFIN := Lib.hid (And.intro hfin hws)
  -- what stays
  have hgw : w.heap.size < g := by omega
  have b3 := hbV.later bW3
  have b4 : LdB w (W3.setCell ⟨g, i, none⟩ (.slice a2 (x.tables[i].eraseIdx k).length c2)) (.slice (some ⟨g, 0, none⟩) x.tables.length rc) x.next := ⟨by rw [Below.heap_setCell _ _ _ _ (by show w.heap.size ≠ g; omega)]; exact b3.bx, by rw [Below.heap_setCell _ _ _ _ (by show w.heap.size + 1 ≠ g; omega)]; exact b3.rv, b3.bel.setCell (by show w.heap.size ≤ g; omega) _⟩
  have CE : Hid (∀ W, LdB w W (.slice (some ⟨g, 0, none⟩) x.tables.length rc) x.next → W.cell? ⟨w.heap.size, 0, none⟩ = some (.slice (some ⟨g, 0, none⟩) x.tables.length rc)) := fun W h => cell_at (o := 0) h.bx rfl
  have BW0 : Hid (LdB w V.drew (.slice (some ⟨g, 0, none⟩) x.tables.length rc) x.next) := ⟨hbV.bx, hbV.rv, hbV.bel.drew⟩
  have BW1 := Lib.hid (hbV.later bW1)
  have BW2 := Lib.hid (hbV.later bW2)
  have BW3 := Lib.hid b3
  have BW4 := Lib.hid b4
  have p0 : V.cell? ⟨g, i, none⟩ = some (.slice (some ⟨rb, roff, none⟩) x.tables[i].length rcap) := cu
  have p1 := (bW1.cell (p := ⟨g, i, none⟩) hgV).trans cu
  have p2 := (bW2.cell (p := ⟨g, i, none⟩) hgV).trans cu
  have p3 := (bW3.cell (p := ⟨g, i, none⟩) hgV).trans cu
  have q3 : W3.frozen? ⟨g, i, none⟩ = false := by
    have hbk := bW3.block g hgV
    unfold World.frozen? at zu ⊢
    simp only at zu ⊢
    rw [hbk]; exact zu
  have RUN11 := Lib.hid hr11
  have hiff : (some (if rcap = k1 then (⟨rb, roff, none⟩ : Addr) else ⟨rb, roff + k1 * 2, none⟩)) = (if rcap = k1 then some ⟨rb, roff, none⟩ else some ⟨rb, roff + k1 * 2, none⟩) := by split <;> rfl
  rw [hiff] at hr20
  generalize hif : (if rcap = k1 then some (⟨rb, roff, none⟩ : Addr) else some ⟨rb, roff + k1 * 2, none⟩) = ad2 at hr20
  have RUN20 := Lib.hid hr20
  clear hiff
  have hwr : IntKind.i64.wrap ((k : Int) + 1) = (k1 : Int) := by rw [hk1e, IntKind.wrap_i64]; omega
  have hk1n : (k1 : Int) ≤ (x.tables[i].length : Int) := by omega
  have hk10 : (0 : Int) ≤ (k1 : Int) := by omega
  have HV := Lib.hid hV
  rw [hW1] at p1 RUN11 BW1
  have hi1 : (i : Int) < (x.tables.length : Int) := by omega
  have hi0 : (0 : Int) ≤ (i : Int) := by omega
  have hk1 : (k : Int) ≤ (rcap : Int) := by omega
  have hk0 : (0 : Int) ≤ (k : Int) := by omega
  have hk3 : (x.tables[i].length : Int) ≤ (rcap : Int) := by omega
  have hkl2 : k ≤ 1048576 := by omega
  have hcv : (k : Int) < (x.tables[i].length : Int) := by omega
  clear hcpV hr11 hr20 hs1 hs2 hs3 hg2 hg3 hg3' ho1 ho1' hlo1 hgl hoi hmi hsi hbi hgi hXb hXI hXD hXC h9 hI1 hcV hoV hcq hel hie hu hXS hsz4 hds hgn hfin hnew b3 b4 bW1 bW2 bW3 hW1 hV hnn hle hgw hk1e hws hzg hgV hrbV cu zu hbV
  generalize hll : x.tables[i].length = n at *
  generalize hle : (x.tables[i].eraseIdx k).length = n1 at *
  clear hll hle
  go_wp2_with fail
  rw [← HV.out]
  refine wp_region_held_drew (S := (fun W => W.cell? ⟨w.heap.size, 0, none⟩ = some (.slice (some ⟨g, 0, none⟩) x.tables.length rc))) (by kernel_rfl) ?_ (fun hHeld => ?_)
  · (exact CE.out _ (by first | exact BW0.out | exact BW1.out | exact BW2.out | exact BW3.out | exact BW4.out))
  refine tkB (i := 0) ?_
  refine tkB (i := 1) ?_
  refine tkB (i := 2) ?_
  refine tkB (i := 4) ?_
  refine tkB (i := 5) ?_
  refine tkB (i := 6) ?_
  refine tkB (i := 7) ?_
  refine tkB (i := 9) ?_
  refine tkB (i := 12) ?_
  refine tkB (i := 13) ?_
  refine tkB (i := 14) ?_
  refine tkB (i := 15) ?_
  refine tkB (i := 17) ?_
  refine tkB (i := 18) ?_
  refine wpAnyH_ready (rs := [3, 8, 16]) (by kernel_rfl) (by simp) (AllReadyH.cons rfl (fun K hK => ?_) (AllReadyH.cons rfl (fun K hK => ?_) (AllReadyH.cons rfl (fun K hK => ?_) AllReadyH.nil)))
  ·
    go_simp
    refine hK.out _ _ ?_ (fun hHeld => ?_)
    · (exact CE.out _ (by first | exact BW0.out | exact BW1.out | exact BW2.out | exact BW3.out | exact BW4.out))
    clear hK K
    try simp only [Act.put, tkS]
    refine wpAnyH_ready (rs := [8, 16]) (by kernel_rfl) (by simp) (AllReadyH.cons rfl (fun K hK => ?_) (AllReadyH.cons rfl (fun K hK => ?_) AllReadyH.nil))
    ·
      go_simp
      refine hK.out _ _ ?_ (fun hHeld => ?_)
      · (exact CE.out _ (by first | exact BW0.out | exact BW1.out | exact BW2.out | exact BW3.out | exact BW4.out))
      clear hK K
      try simp only [Act.put, tkS]
      refine tkB (i := 10) ?_
      refine wpAnyH_ready (rs := [11, 16]) (by kernel_rfl) (by simp) (AllReadyH.cons rfl (fun K hK => ?_) (AllReadyH.cons rfl (fun K hK => ?_) AllReadyH.nil))
      ·
        refine step_append_is rfl (.tmp 12) (.tmp 19) 74 rfl _ _ (by rfl) (by rfl) _ _ RUN11.out ?_
        refine hK.out _ _ ?_ (fun hHeld => ?_)
        · (exact CE.out _ (by first | exact BW0.out | exact BW1.out | exact BW2.out | exact BW3.out | exact BW4.out))
        clear hK K
        try simp only [Act.put, tkS]
        refine tkR (i := 16) (fun K hK => ?_)
        go_simp
        refine hK.out _ _ ?_ (fun hHeld => ?_)
        · (exact CE.out _ (by first | exact BW0.out | exact BW1.out | exact BW2.out | exact BW3.out | exact BW4.out))
        clear hK K
        try simp only [Act.put, tkS]
        refine tkB (i := 19) ?_
        refine tkR (i := 20) (fun K hK => ?_)
        refine step_append_is rfl (.tmp 20) (.tmp 28) 74 rfl _ _ (by rfl) (by rfl) _ _ RUN20.out ?_
        refine hK.out _ _ ?_ (fun hHeld => ?_)
        · (exact CE.out _ (by first | exact BW0.out | exact BW1.out | exact BW2.out | exact BW3.out | exact BW4.out))
        clear hK K
        try simp only [Act.put, tkS]
        refine tkB (i := 21) ?_
        refine tkR (i := 22) (fun K hK => ?_)
        go_simp
        refine hK.out _ _ ?_ (fun hHeld => ?_)
        · (exact CE.out _ (by first | exact BW0.out | exact BW1.out | exact BW2.out | exact BW3.out | exact BW4.out))
        clear hK K
        try simp only [Act.put, tkS]
        refine wpAnyH_done (by kernel_rfl) ?_ _
        have m0 := cell_at (o := 0) BW4.out.bx rfl
        have m1 := cell_at (o := 1) BW4.out.bx rfl
        have r0 := cell_at (o := 0) BW4.out.rv rfl
        have r1 := cell_at (o := 1) BW4.out.rv rfl
        have g0 := frozen_at 0 BW4.out.rv
        have g1 := frozen_at 1 BW4.out.rv
        clear p0 p1 p2 p3 q3 x0 x1 f0 f1 hif
        go_wp2_with fail
        refine bodyPost_ret (v := .agg #[.slice (some ⟨g, 0, none⟩) x.tables.length rc, .int .i64 x.next]) (by simp [results, Tryz.results38, go_sem, *]) rfl ?_
        refine ⟨some ⟨g, 0, none⟩, rc, rfl, ?_, (BW4.out.bel.setCell (by simp <;> omega) _).setCell (by simp <;> omega) _⟩
        have hz := HFIN.out.2
        have hfr2 : Frm (· = w.heap.size + 1) (W3.setCell ⟨g, i, none⟩ (.slice a2 n1 c2)) (((W3.setCell ⟨g, i, none⟩ (.slice a2 n1 c2)).setCell ⟨w.heap.size + 1, 0, none⟩ (.slice (some ⟨g, 0, none⟩) x.tables.length rc)).setCell ⟨w.heap.size + 1, 1, none⟩ (.int .i64 x.next)) := (frm_set _ _ _ _).trans (frm_set _ _ _ _)
        have h9 := HFIN.out.1.frm hfr2 (fun b hb e => by have h1 := hb.1; have e' : b = w.heap.size + 1 := e; omega)
        exact h9.mono (fun b hb => ⟨by have h1 : z ≤ b := hb.1; omega, by have := hb.2; simpa using this⟩)
      ·
        go_simp
        refine hK.out _ _ ?_ (fun hHeld => ?_)
        · (exact CE.out _ (by first | exact BW0.out | exact BW1.out | exact BW2.out | exact BW3.out | exact BW4.out))
        clear hK K
        try simp only [Act.put, tkS]
        refine tkB (i := 19) ?_
        refine tkR (i := 11) (fun K hK => ?_)
        refine step_append_is rfl (.tmp 12) (.tmp 19) 74 rfl _ _ (by rfl) (by rfl) _ _ RUN11.out ?_
        refine hK.out _ _ ?_ (fun hHeld => ?_)
        · (exact CE.out _ (by first | exact BW0.out | exact BW1.out | exact BW2.out | exact BW3.out | exact BW4.out))
        clear hK K
        try simp only [Act.put, tkS]
        refine tkR (i := 20) (fun K hK => ?_)
        refine step_append_is rfl (.tmp 20) (.tmp 28) 74 rfl _ _ (by rfl) (by rfl) _ _ RUN20.out ?_
        refine hK.out _ _ ?_ (fun hHeld => ?_)
        · (exact CE.out _ (by first | exact BW0.out | exact BW1.out | exact BW2.out | exact BW3.out | exact BW4.out))
        clear hK K
        try simp only [Act.put, tkS]
        refine tkB (i := 21) ?_
        refine tkR (i := 22) (fun K hK => ?_)
        go_simp
        refine hK.out _ _ ?_ (fun hHeld => ?_)
        · (exact CE.out _ (by first | exact BW0.out | exact BW1.out | exact BW2.out | exact BW3.out | exact BW4.out))
        clear hK K
        try simp only [Act.put, tkS]
        refine wpAnyH_done (by kernel_rfl) ?_ _
        have m0 := cell_at (o := 0) BW4.out.bx rfl
        have m1 := cell_at (o := 1) BW4.out.bx rfl
        have r0 := cell_at (o := 0) BW4.out.rv rfl
        have r1 := cell_at (o := 1) BW4.out.rv rfl
        have g0 := frozen_at 0 BW4.out.rv
        have g1 := frozen_at 1 BW4.out.rv
        clear p0 p1 p2 p3 q3 x0 x1 f0 f1 hif
        go_wp2_with fail
        refine bodyPost_ret (v := .agg #[.slice (some ⟨g, 0, none⟩) x.tables.length rc, .int .i64 x.next]) (by simp [results, Tryz.results38, go_sem, *]) rfl ?_
        refine ⟨some ⟨g, 0, none⟩, rc, rfl, ?_, (BW4.out.bel.setCell (by simp <;> omega) _).setCell (by simp <;> omega) _⟩
        have hz := HFIN.out.2
        have hfr2 : Frm (· = w.heap.size + 1) (W3.setCell ⟨g, i, none⟩ (.slice a2 n1 c2)) (((W3.setCell ⟨g, i, none⟩ (.slice a2 n1 c2)).setCell ⟨w.heap.size + 1, 0, none⟩ (.slice (some ⟨g, 0, none⟩) x.tables.length rc)).setCell ⟨w.heap.size + 1, 1, none⟩ (.int .i64 x.next)) := (frm_set _ _ _ _).trans (frm_set _ _ _ _)
        have h9 := HFIN.out.1.frm hfr2 (fun b hb e => by have h1 := hb.1; have e' : b = w.heap.size + 1 := e; omega)
        exact h9.mono (fun b hb => ⟨by have h1 : z ≤ b := hb.1; omega, by have := hb.2; simpa using this⟩)
    ·
      go_simp
      refine hK.out _ _ ?_ (fun hHeld => ?_)
      · (exact CE.out _ (by first | exact BW0.out | exact BW1.out | exact BW2.out | exact BW3.out | exact BW4.out))
      clear hK K
      try simp only [Act.put, tkS]
      refine tkB (i := 19) ?_
      refine tkR (i := 8) (fun K hK => ?_)
      go_simp
      refine hK.out _ _ ?_ (fun hHeld => ?_)
      · (exact CE.out _ (by first | exact BW0.out | exact BW1.out | exact BW2.out | exact BW3.out | exact BW4.out))
      clear hK K
      try simp only [Act.put, tkS]
      refine tkB (i := 10) ?_
      refine tkR (i := 11) (fun K hK => ?_)
      refine step_append_is rfl (.tmp 12) (.tmp 19) 74 rfl _ _ (by rfl) (by rfl) _ _ RUN11.out ?_
      refine hK.out _ _ ?_ (fun hHeld => ?_)
      · (exact CE.out _ (by first | exact BW0.out | exact BW1.out | exact BW2.out | exact BW3.out | exact BW4.out))
      clear hK K
      try simp only [Act.put, tkS]
      refine tkR (i := 20) (fun K hK => ?_)
      refine step_append_is rfl (.tmp 20) (.tmp 28) 74 rfl _ _ (by rfl) (by rfl) _ _ RUN20.out ?_
      refine hK.out _ _ ?_ (fun hHeld => ?_)
      · (exact CE.out _ (by first | exact BW0.out | exact BW1.out | exact BW2.out | exact BW3.out | exact BW4.out))
      clear hK K
      try simp only [Act.put, tkS]
      refine tkB (i := 21) ?_
      refine tkR (i := 22) (fun K hK => ?_)
      go_simp
      refine hK.out _ _ ?_ (fun hHeld => ?_)
      · (exact CE.out _ (by first | exact BW0.out | exact BW1.out | exact BW2.out | exact BW3.out | exact BW4.out))
      clear hK K
      try simp only [Act.put, tkS]
      refine wpAnyH_done (by kernel_rfl) ?_ _
      have m0 := cell_at (o := 0) BW4.out.bx rfl
      have m1 := cell_at (o := 1) BW4.out.bx rfl
      have r0 := cell_at (o := 0) BW4.out.rv rfl
      have r1 := cell_at (o := 1) BW4.out.rv rfl
      have g0 := frozen_at 0 BW4.out.rv
      have g1 := frozen_at 1 BW4.out.rv
      clear p0 p1 p2 p3 q3 x0 x1 f0 f1 hif
      go_wp2_with fail
      refine bodyPost_ret (v := .agg #[.slice (some ⟨g, 0, none⟩) x.tables.length rc, .int .i64 x.next]) (by simp [results, Tryz.results38, go_sem, *]) rfl ?_
      refine ⟨some ⟨g, 0, none⟩, rc, rfl, ?_, (BW4.out.bel.setCell (by simp <;> omega) _).setCell (by simp <;> omega) _⟩
      have hz := HFIN.out.2
      have hfr2 : Frm (· = w.heap.size + 1) (W3.setCell ⟨g, i, none⟩ (.slice a2 n1 c2)) (((W3.setCell ⟨g, i, none⟩ (.slice a2 n1 c2)).setCell ⟨w.heap.size + 1, 0, none⟩ (.slice (some ⟨g, 0, none⟩) x.tables.length rc)).setCell ⟨w.heap.size + 1, 1, none⟩ (.int .i64 x.next)) := (frm_set _ _ _ _).trans (frm_set _ _ _ _)
      have h9 := HFIN.out.1.frm hfr2 (fun b hb e => by have h1 := hb.1; have e' : b = w.heap.size + 1 := e; omega)
      exact h9.mono (fun b hb => ⟨by have h1 : z ≤ b := hb.1; omega, by have := hb.2; simpa using this⟩)
  ·
    go_simp
    refine hK.out _ _ ?_ (fun hHeld => ?_)
    · (exact CE.out _ (by first | exact BW0.out | exact BW1.out | exact BW2.out | exact BW3.out | exact BW4.out))
    clear hK K
    try simp only [Act.put, tkS]
    refine tkB (i := 10) ?_
    refine wpAnyH_ready (rs := [3, 16]) (by kernel_rfl) (by simp) (AllReadyH.cons rfl (fun K hK => ?_) (AllReadyH.cons rfl (fun K hK => ?_) AllReadyH.nil))
    ·
      go_simp
      refine hK.out _ _ ?_ (fun hHeld => ?_)
      · (exact CE.out _ (by first | exact BW0.out | exact BW1.out | exact BW2.out | exact BW3.out | exact BW4.out))
      clear hK K
      try simp only [Act.put, tkS]
      refine wpAnyH_ready (rs := [11, 16]) (by kernel_rfl) (by simp) (AllReadyH.cons rfl (fun K hK => ?_) (AllReadyH.cons rfl (fun K hK => ?_) AllReadyH.nil))
      ·
        refine step_append_is rfl (.tmp 12) (.tmp 19) 74 rfl _ _ (by rfl) (by rfl) _ _ RUN11.out ?_
        refine hK.out _ _ ?_ (fun hHeld => ?_)
        · (exact CE.out _ (by first | exact BW0.out | exact BW1.out | exact BW2.out | exact BW3.out | exact BW4.out))
        clear hK K
        try simp only [Act.put, tkS]
        refine tkR (i := 16) (fun K hK => ?_)
        go_simp
        refine hK.out _ _ ?_ (fun hHeld => ?_)
        · (exact CE.out _ (by first | exact BW0.out | exact BW1.out | exact BW2.out | exact BW3.out | exact BW4.out))
        clear hK K
        try simp only [Act.put, tkS]
        refine tkB (i := 19) ?_
        refine tkR (i := 20) (fun K hK => ?_)
        refine step_append_is rfl (.tmp 20) (.tmp 28) 74 rfl _ _ (by rfl) (by rfl) _ _ RUN20.out ?_
        refine hK.out _ _ ?_ (fun hHeld => ?_)
        · (exact CE.out _ (by first | exact BW0.out | exact BW1.out | exact BW2.out | exact BW3.out | exact BW4.out))
        clear hK K
        try simp only [Act.put, tkS]
        refine tkB (i := 21) ?_
        refine tkR (i := 22) (fun K hK => ?_)
        go_simp
        refine hK.out _ _ ?_ (fun hHeld => ?_)
        · (exact CE.out _ (by first | exact BW0.out | exact BW1.out | exact BW2.out | exact BW3.out | exact BW4.out))
        clear hK K
        try simp only [Act.put, tkS]
        refine wpAnyH_done (by kernel_rfl) ?_ _
        have m0 := cell_at (o := 0) BW4.out.bx rfl
        have m1 := cell_at (o := 1) BW4.out.bx rfl
        have r0 := cell_at (o := 0) BW4.out.rv rfl
        have r1 := cell_at (o := 1) BW4.out.rv rfl
        have g0 := frozen_at 0 BW4.out.rv
        have g1 := frozen_at 1 BW4.out.rv
        clear p0 p1 p2 p3 q3 x0 x1 f0 f1 hif
        go_wp2_with fail
        refine bodyPost_ret (v := .agg #[.slice (some ⟨g, 0, none⟩) x.tables.length rc, .int .i64 x.next]) (by simp [results, Tryz.results38, go_sem, *]) rfl ?_
        refine ⟨some ⟨g, 0, none⟩, rc, rfl, ?_, (BW4.out.bel.setCell (by simp <;> omega) _).setCell (by simp <;> omega) _⟩
        have hz := HFIN.out.2
        have hfr2 : Frm (· = w.heap.size + 1) (W3.setCell ⟨g, i, none⟩ (.slice a2 n1 c2)) (((W3.setCell ⟨g, i, none⟩ (.slice a2 n1 c2)).setCell ⟨w.heap.size + 1, 0, none⟩ (.slice (some ⟨g, 0, none⟩) x.tables.length rc)).setCell ⟨w.heap.size + 1, 1, none⟩ (.int .i64 x.next)) := (frm_set _ _ _ _).trans (frm_set _ _ _ _)
        have h9 := HFIN.out.1.frm hfr2 (fun b hb e => by have h1 := hb.1; have e' : b = w.heap.size + 1 := e; omega)
        exact h9.mono (fun b hb => ⟨by have h1 : z ≤ b := hb.1; omega, by have := hb.2; simpa using this⟩)
      ·
        go_simp
        refine hK.out _ _ ?_ (fun hHeld => ?_)
        · (exact CE.out _ (by first | exact BW0.out | exact BW1.out | exact BW2.out | exact BW3.out | exact BW4.out))
        clear hK K
        try simp only [Act.put, tkS]
        refine tkB (i := 19) ?_
        refine tkR (i := 11) (fun K hK => ?_)
        refine step_append_is rfl (.tmp 12) (.tmp 19) 74 rfl _ _ (by rfl) (by rfl) _ _ RUN11.out ?_
        refine hK.out _ _ ?_ (fun hHeld => ?_)
        · (exact CE.out _ (by first | exact BW0.out | exact BW1.out | exact BW2.out | exact BW3.out | exact BW4.out))
        clear hK K
        try simp only [Act.put, tkS]
        refine tkR (i := 20) (fun K hK => ?_)
        refine step_append_is rfl (.tmp 20) (.tmp 28) 74 rfl _ _ (by rfl) (by rfl) _ _ RUN20.out ?_
        refine hK.out _ _ ?_ (fun hHeld => ?_)
        · (exact CE.out _ (by first | exact BW0.out | exact BW1.out | exact BW2.out | exact BW3.out | exact BW4.out))
        clear hK K
        try simp only [Act.put, tkS]
        refine tkB (i := 21) ?_
        refine tkR (i := 22) (fun K hK => ?_)
        go_simp
        refine hK.out _ _ ?_ (fun hHeld => ?_)
        · (exact CE.out _ (by first | exact BW0.out | exact BW1.out | exact BW2.out | exact BW3.out | exact BW4.out))
        clear hK K
        try simp only [Act.put, tkS]
        refine wpAnyH_done (by kernel_rfl) ?_ _
        have m0 := cell_at (o := 0) BW4.out.bx rfl
        have m1 := cell_at (o := 1) BW4.out.bx rfl
        have r0 := cell_at (o := 0) BW4.out.rv rfl
        have r1 := cell_at (o := 1) BW4.out.rv rfl
        have g0 := frozen_at 0 BW4.out.rv
        have g1 := frozen_at 1 BW4.out.rv
        clear p0 p1 p2 p3 q3 x0 x1 f0 f1 hif
        go_wp2_with fail
        refine bodyPost_ret (v := .agg #[.slice (some ⟨g, 0, none⟩) x.tables.length rc, .int .i64 x.next]) (by simp [results, Tryz.results38, go_sem, *]) rfl ?_
        refine ⟨some ⟨g, 0, none⟩, rc, rfl, ?_, (BW4.out.bel.setCell (by simp <;> omega) _).setCell (by simp <;> omega) _⟩
        have hz := HFIN.out.2
        have hfr2 : Frm (· = w.heap.size + 1) (W3.setCell ⟨g, i, none⟩ (.slice a2 n1 c2)) (((W3.setCell ⟨g, i, none⟩ (.slice a2 n1 c2)).setCell ⟨w.heap.size + 1, 0, none⟩ (.slice (some ⟨g, 0, none⟩) x.tables.length rc)).setCell ⟨w.heap.size + 1, 1, none⟩ (.int .i64 x.next)) := (frm_set _ _ _ _).trans (frm_set _ _ _ _)
        have h9 := HFIN.out.1.frm hfr2 (fun b hb e => by have h1 := hb.1; have e' : b = w.heap.size + 1 := e; omega)
        exact h9.mono (fun b hb => ⟨by have h1 : z ≤ b := hb.1; omega, by have := hb.2; simpa using this⟩)
    ·
      go_simp
      refine hK.out _ _ ?_ (fun hHeld => ?_)
      · (exact CE.out _ (by first | exact BW0.out | exact BW1.out | exact BW2.out | exact BW3.out | exact BW4.out))
      clear hK K
      try simp only [Act.put, tkS]
      refine tkB (i := 19) ?_
      refine tkR (i := 3) (fun K hK => ?_)
      go_simp
      refine hK.out _ _ ?_ (fun hHeld => ?_)
      · (exact CE.out _ (by first | exact BW0.out | exact BW1.out | exact BW2.out | exact BW3.out | exact BW4.out))
      clear hK K
      try simp only [Act.put, tkS]
      refine tkR (i := 11) (fun K hK => ?_)
      refine step_append_is rfl (.tmp 12) (.tmp 19) 74 rfl _ _ (by rfl) (by rfl) _ _ RUN11.out ?_
      refine hK.out _ _ ?_ (fun hHeld => ?_)
      · (exact CE.out _ (by first | exact BW0.out | exact BW1.out | exact BW2.out | exact BW3.out | exact BW4.out))
      clear hK K
      try simp only [Act.put, tkS]
      refine tkR (i := 20) (fun K hK => ?_)
      refine step_append_is rfl (.tmp 20) (.tmp 28) 74 rfl _ _ (by rfl) (by rfl) _ _ RUN20.out ?_
      refine hK.out _ _ ?_ (fun hHeld => ?_)
      · (exact CE.out _ (by first | exact BW0.out | exact BW1.out | exact BW2.out | exact BW3.out | exact BW4.out))
      clear hK K
      try simp only [Act.put, tkS]
      refine tkB (i := 21) ?_
      refine tkR (i := 22) (fun K hK => ?_)
      go_simp
      refine hK.out _ _ ?_ (fun hHeld => ?_)
      · (exact CE.out _ (by first | exact BW0.out | exact BW1.out | exact BW2.out | exact BW3.out | exact BW4.out))
      clear hK K
      try simp only [Act.put, tkS]
      refine wpAnyH_done (by kernel_rfl) ?_ _
      have m0 := cell_at (o := 0) BW4.out.bx rfl
      have m1 := cell_at (o := 1) BW4.out.bx rfl
      have r0 := cell_at (o := 0) BW4.out.rv rfl
      have r1 := cell_at (o := 1) BW4.out.rv rfl
      have g0 := frozen_at 0 BW4.out.rv
      have g1 := frozen_at 1 BW4.out.rv
      clear p0 p1 p2 p3 q3 x0 x1 f0 f1 hif
      go_wp2_with fail
      refine bodyPost_ret (v := .agg #[.slice (some ⟨g, 0, none⟩) x.tables.length rc, .int .i64 x.next]) (by simp [results, Tryz.results38, go_sem, *]) rfl ?_
      refine ⟨some ⟨g, 0, none⟩, rc, rfl, ?_, (BW4.out.bel.setCell (by simp <;> omega) _).setCell (by simp <;> omega) _⟩
      have hz := HFIN.out.2
      have hfr2 : Frm (· = w.heap.size + 1) (W3.setCell ⟨g, i, none⟩ (.slice a2 n1 c2)) (((W3.setCell ⟨g, i, none⟩ (.slice a2 n1 c2)).setCell ⟨w.heap.size + 1, 0, none⟩ (.slice (some ⟨g, 0, none⟩) x.tables.length rc)).setCell ⟨w.heap.size + 1, 1, none⟩ (.int .i64 x.next)) := (frm_set _ _ _ _).trans (frm_set _ _ _ _)
      have h9 := HFIN.out.1.frm hfr2 (fun b hb e => by have h1 := hb.1; have e' : b = w.heap.size + 1 := e; omega)
      exact h9.mono (fun b hb => ⟨by have h1 : z ≤ b := hb.1; omega, by have := hb.2; simpa using this⟩)
  ·
    go_simp
    refine hK.out _ _ ?_ (fun hHeld => ?_)
    · (exact CE.out _ (by first | exact BW0.out | exact BW1.out | exact BW2.out | exact BW3.out | exact BW4.out))
    clear hK K
    try simp only [Act.put, tkS]
    refine tkB (i := 19) ?_
    refine wpAnyH_ready (rs := [3, 8]) (by kernel_rfl) (by simp) (AllReadyH.cons rfl (fun K hK => ?_) (AllReadyH.cons rfl (fun K hK => ?_) AllReadyH.nil))
    ·
      go_simp
      refine hK.out _ _ ?_ (fun hHeld => ?_)
      · (exact CE.out _ (by first | exact BW0.out | exact BW1.out | exact BW2.out | exact BW3.out | exact BW4.out))
      clear hK K
      try simp only [Act.put, tkS]
      refine tkR (i := 8) (fun K hK => ?_)
      go_simp
      refine hK.out _ _ ?_ (fun hHeld => ?_)
      · (exact CE.out _ (by first | exact BW0.out | exact BW1.out | exact BW2.out | exact BW3.out | exact BW4.out))
      clear hK K
      try simp only [Act.put, tkS]
      refine tkB (i := 10) ?_
      refine tkR (i := 11) (fun K hK => ?_)
      refine step_append_is rfl (.tmp 12) (.tmp 19) 74 rfl _ _ (by rfl) (by rfl) _ _ RUN11.out ?_
      refine hK.out _ _ ?_ (fun hHeld => ?_)
      · (exact CE.out _ (by first | exact BW0.out | exact BW1.out | exact BW2.out | exact BW3.out | exact BW4.out))
      clear hK K
      try simp only [Act.put, tkS]
      refine tkR (i := 20) (fun K hK => ?_)
      refine step_append_is rfl (.tmp 20) (.tmp 28) 74 rfl _ _ (by rfl) (by rfl) _ _ RUN20.out ?_
      refine hK.out _ _ ?_ (fun hHeld => ?_)
      · (exact CE.out _ (by first | exact BW0.out | exact BW1.out | exact BW2.out | exact BW3.out | exact BW4.out))
      clear hK K
      try simp only [Act.put, tkS]
      refine tkB (i := 21) ?_
      refine tkR (i := 22) (fun K hK => ?_)
      go_simp
      refine hK.out _ _ ?_ (fun hHeld => ?_)
      · (exact CE.out _ (by first | exact BW0.out | exact BW1.out | exact BW2.out | exact BW3.out | exact BW4.out))
      clear hK K
      try simp only [Act.put, tkS]
      refine wpAnyH_done (by kernel_rfl) ?_ _
      have m0 := cell_at (o := 0) BW4.out.bx rfl
      have m1 := cell_at (o := 1) BW4.out.bx rfl
      have r0 := cell_at (o := 0) BW4.out.rv rfl
      have r1 := cell_at (o := 1) BW4.out.rv rfl
      have g0 := frozen_at 0 BW4.out.rv
      have g1 := frozen_at 1 BW4.out.rv
      clear p0 p1 p2 p3 q3 x0 x1 f0 f1 hif
      go_wp2_with fail
      refine bodyPost_ret (v := .agg #[.slice (some ⟨g, 0, none⟩) x.tables.length rc, .int .i64 x.next]) (by simp [results, Tryz.results38, go_sem, *]) rfl ?_
      refine ⟨some ⟨g, 0, none⟩, rc, rfl, ?_, (BW4.out.bel.setCell (by simp <;> omega) _).setCell (by simp <;> omega) _⟩
      have hz := HFIN.out.2
      have hfr2 : Frm (· = w.heap.size + 1) (W3.setCell ⟨g, i, none⟩ (.slice a2 n1 c2)) (((W3.setCell ⟨g, i, none⟩ (.slice a2 n1 c2)).setCell ⟨w.heap.size + 1, 0, none⟩ (.slice (some ⟨g, 0, none⟩) x.tables.length rc)).setCell ⟨w.heap.size + 1, 1, none⟩ (.int .i64 x.next)) := (frm_set _ _ _ _).trans (frm_set _ _ _ _)
      have h9 := HFIN.out.1.frm hfr2 (fun b hb e => by have h1 := hb.1; have e' : b = w.heap.size + 1 := e; omega)
      exact h9.mono (fun b hb => ⟨by have h1 : z ≤ b := hb.1; omega, by have := hb.2; simpa using this⟩)
    ·
      go_simp
      refine hK.out _ _ ?_ (fun hHeld => ?_)
      · (exact CE.out _ (by first | exact BW0.out | exact BW1.out | exact BW2.out | exact BW3.out | exact BW4.out))
      clear hK K
      try simp only [Act.put, tkS]
      refine tkB (i := 10) ?_
      refine tkR (i := 3) (fun K hK => ?_)
      go_simp
      refine hK.out _ _ ?_ (fun hHeld => ?_)
      · (exact CE.out _ (by first | exact BW0.out | exact BW1.out | exact BW2.out | exact BW3.out | exact BW4.out))
      clear hK K
      try simp only [Act.put, tkS]
      refine tkR (i := 11) (fun K hK => ?_)
      refine step_append_is rfl (.tmp 12) (.tmp 19) 74 rfl _ _ (by rfl) (by rfl) _ _ RUN11.out ?_
      refine hK.out _ _ ?_ (fun hHeld => ?_)
      · (exact CE.out _ (by first | exact BW0.out | exact BW1.out | exact BW2.out | exact BW3.out | exact BW4.out))
      clear hK K
      try simp only [Act.put, tkS]
      refine tkR (i := 20) (fun K hK => ?_)
      refine step_append_is rfl (.tmp 20) (.tmp 28) 74 rfl _ _ (by rfl) (by rfl) _ _ RUN20.out ?_
      refine hK.out _ _ ?_ (fun hHeld => ?_)
      · (exact CE.out _ (by first | exact BW0.out | exact BW1.out | exact BW2.out | exact BW3.out | exact BW4.out))
      clear hK K
      try simp only [Act.put, tkS]
      refine tkB (i := 21) ?_
      refine tkR (i := 22) (fun K hK => ?_)
      go_simp
      refine hK.out _ _ ?_ (fun hHeld => ?_)
      · (exact CE.out _ (by first | exact BW0.out | exact BW1.out | exact BW2.out | exact BW3.out | exact BW4.out))
      clear hK K
      try simp only [Act.put, tkS]
      refine wpAnyH_done (by kernel_rfl) ?_ _
      have m0 := cell_at (o := 0) BW4.out.bx rfl
      have m1 := cell_at (o := 1) BW4.out.bx rfl
      have r0 := cell_at (o := 0) BW4.out.rv rfl
      have r1 := cell_at (o := 1) BW4.out.rv rfl
      have g0 := frozen_at 0 BW4.out.rv
      have g1 := frozen_at 1 BW4.out.rv
      clear p0 p1 p2 p3 q3 x0 x1 f0 f1 hif
      go_wp2_with fail
      refine bodyPost_ret (v := .agg #[.slice (some ⟨g, 0, none⟩) x.tables.length rc, .int .i64 x.next]) (by simp [results, Tryz.results38, go_sem, *]) rfl ?_
      refine ⟨some ⟨g, 0, none⟩, rc, rfl, ?_, (BW4.out.bel.setCell (by simp <;> omega) _).setCell (by simp <;> omega) _⟩
      have hz := HFIN.out.2
      have hfr2 : Frm (· = w.heap.size + 1) (W3.setCell ⟨g, i, none⟩ (.slice a2 n1 c2)) (((W3.setCell ⟨g, i, none⟩ (.slice a2 n1 c2)).setCell ⟨w.heap.size + 1, 0, none⟩ (.slice (some ⟨g, 0, none⟩) x.tables.length rc)).setCell ⟨w.heap.size + 1, 1, none⟩ (.int .i64 x.next)) := (frm_set _ _ _ _).trans (frm_set _ _ _ _)
      have h9 := HFIN.out.1.frm hfr2 (fun b hb e => by have h1 := hb.1; have e' : b = w.heap.size + 1 := e; omega)
      exact h9.mono (fun b hb => ⟨by have h1 : z ≤ b := hb.1; omega, by have := hb.2; simpa using this⟩)
end Go.Proofs.YtngbhifafdbpkaaGreat
