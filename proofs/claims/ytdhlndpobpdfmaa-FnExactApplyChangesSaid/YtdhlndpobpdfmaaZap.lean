import Derived.Test.YtdhlndpobpdfmaaZao
namespace Go.Proofs.Ytdhlndpobpdfmaa
open Go.RowKit
set_option linter.unusedSimpArgs false
def SQ (w : World) (base : Nat) (G : Nat → Prop) (T : TypeId) (n : Nat) (f : Nat → Nat → D) (Q : Nat → Nat → Value → Prop) (k : Nat) (v : Value) : Prop :=
  ∃ xs, w.ownsRow base T n v k xs ∧ ∀ i j, i < k → j < n → ∃ u, xs[i * n + j]? = some u ∧ Q i j u ∧ Rd w (fun c => (v.ownBlock ≠ some c ∧ c < w.heap.size) ∧ G c) (f i j) u
theorem SQ.start {w : World} {base : Nat} {G : Nat → Prop} {T : TypeId} {n : Nat} {f : Nat → Nat → D} {Q : Nat → Nat → Value → Prop} {g : Nat} (hg : base ≤ g) (hh : w.heap[g]? = some (.cells #[] T)) : SQ w base G T n f Q 0 (.slice (some ⟨g, 0, none⟩) 0 0) :=
  ⟨[], ⟨by simp, .inr ⟨g, 0, #[], rfl, hg, hh, Nat.le_refl _, by unfold maxLen; omega, by simp, by simp⟩⟩, fun i j h => absurd h (by omega)⟩
theorem SQ.later {w w' : World} {base : Nat} {G : Nat → Prop} {T : TypeId} {n : Nat} {f : Nat → Nat → D} {Q : Nat → Nat → Value → Prop} {k : Nat} {v : Value} (h : SQ w base G T n f Q k v) (hB : Below w.heap.size w w') : SQ w' base G T n f Q k v := by
  obtain ⟨xs, h1, h2⟩ := h
  refine ⟨xs, ownsRow_later h1 hB, fun i j hi hj => ?_⟩
  obtain ⟨u, hu, hqq, hr⟩ := h2 i j hi hj
  exact ⟨u, hu, hqq, (hr.later hB).mono (fun c hc => ⟨⟨hc.1.1, Nat.lt_of_lt_of_le hc.1.2 hB.size⟩, hc.2⟩)⟩
theorem SQ.same {w w' : World} {base : Nat} {G : Nat → Prop} {T : TypeId} {n : Nat} {f : Nat → Nat → D} {Q : Nat → Nat → Value → Prop} {k : Nat} {v : Value} (h : SQ w base G T n f Q k v) {p : Nat} (hs : w.heap.size ≤ w'.heap.size) (hB : ∀ c, c ≠ p → w'.heap[c]? = w.heap[c]?) (hv : v.ownBlock ≠ some p) (hG : ∀ c, G c → c ≠ p) : SQ w' base G T n f Q k v := by
  obtain ⟨xs, h1, h2⟩ := h
  refine ⟨xs, ownsRow_same h1 (fun g hg => hB g (by intro e; subst e; exact hv hg)), fun i j hi hj => ?_⟩
  obtain ⟨u, hu, hqq, hr⟩ := h2 i j hi hj
  exact ⟨u, hu, hqq, Rd.same (fun c hc => hB c (hG c hc.2)) (fun c hc => ⟨⟨hc.1.1, Nat.lt_of_lt_of_le hc.1.2 hs⟩, hc.2⟩) _ _ hr⟩
theorem SQ.rd {w : World} {base : Nat} {G : Nat → Prop} {T : TypeId} {n : Nat} {f : Nat → Nat → D} {Q : Nat → Nat → Value → Prop} {k : Nat} {v : Value} (h : SQ w base G T n f Q k v) (hn : 0 < n) (hg0 : ∀ g, v.ownBlock = some g → G g) : Rd w (fun c => G c ∧ c < w.heap.size) (.l n k f) v := by
  obtain ⟨xs, h1, h2⟩ := h
  rcases h1.2 with ⟨rfl, rfl⟩ | ⟨g, cap, cur, rfl, hg, hh, r1, r2, r3, r4⟩
  · exact ⟨none, 0, rfl, .inl rfl⟩
  · refine ⟨_, _, rfl, ?_⟩
    by_cases h0 : k = 0
    · exact .inl h0
    · refine .inr ⟨g, 0, rfl, ⟨hg0 g rfl, (Array.getElem?_eq_some_iff.1 hh).1⟩, hn, fun i j hi hj => ?_⟩
      obtain ⟨u, hu, -, hr⟩ := h2 i j hi hj
      have hlt : i * n + j < k * n := spot_lt hi hj
      refine ⟨u, ?_, hr.mono (fun c hc => ⟨hc.2, hc.1.2⟩)⟩
      rw [← r4, List.getElem?_take_of_lt hlt, Array.getElem?_toList] at hu
      rw [Nat.zero_add]
      simp [World.cell?, hh, hu]
theorem SQ.push {P : Program} {w : World} {base : Nat} {G : Nat → Prop} {T : TypeId} {n : Nat} {f : Nat → Nat → D} {Q : Nat → Nat → Value → Prop} {k : Nat} {v : Value} (h : SQ w base G T n f Q k v) (t ty : TypeId) (i : TypeInfo) (z : Value) (bytes : Nat) (ht : P.underlying t = some (.slice T)) (hi : P.info? T = some i) (hz : i.zero = some z)
    (hsize : i.size = n) (hby : i.bytes = bytes) (hzs : z.cells.size = n) (hn : 0 < n) (ad : Addr) (c : Nat) (news : List Value) (hl : news.length = n) (hnews : ∀ j u, news[j]? = some u → w.cell? (ad.add j) = some u) (h1 : ∀ u ∈ news, u.oneCell' = true)
    (h63 : k + 1 ≤ maxLen) (hbytes : (k + 1) * bytes ≤ 140737488355328) (hbase : base ≤ w.heap.size) (hrd : ∀ j, j < n → ∃ u, news[j]? = some u ∧ Q k j u ∧ Rd w (fun c => (v.ownBlock ≠ some c ∧ c < w.heap.size) ∧ G c) (f k j) u) :
    ∃ a' c' w', (Builtin.append_ #[t, t] ty #[v, .slice (some ad) 1 c]).run P w = .ok (.slice a' (k + 1) c') w' ∧ SQ w' base G T n f Q (k + 1) (.slice a' (k + 1) c') ∧ w.grownBy w' v.ownBlock ∧ ∃ g, Value.ownBlock (.slice a' (k + 1) c') = some g ∧ (v.ownBlock = some g ∨ w.heap.size ≤ g) := by
  obtain ⟨xs, h2, h3⟩ := h
  obtain ⟨v', w', hr, h4, h5, g, hg, hgg⟩ := run_append_own3 (P := P) w base t ty T i z n bytes ht hi hz hsize hby hzs hn v k xs h2 ad 1 c news (by rw [hl, Nat.one_mul]) hnews h1 h63 hbytes hbase (by omega)
  obtain ⟨a', c', rfl⟩ : ∃ a' c', v' = .slice a' (k + 1) c' := by
    rcases h4.2 with ⟨rfl, h0⟩ | ⟨g, cap, cur, rfl, -⟩
    · omega
    · exact ⟨_, _, rfl⟩
  refine ⟨a', c', w', hr, ⟨xs ++ news, h4, fun q j hq hj => ?_⟩, h5, g, hg, hgg⟩
  have key : ∀ d u, Rd w (fun c => (v.ownBlock ≠ some c ∧ c < w.heap.size) ∧ G c) d u → Rd w' (fun c => (Value.ownBlock (.slice a' (k + 1) c') ≠ some c ∧ c < w'.heap.size) ∧ G c) d u := fun d u hu =>
    Rd.same (fun b hb => h5.block b hb.1.2 (fun e => hb.1.1 e.symm)) (fun b hb => ⟨⟨by
      rw [hg]
      intro e
      simp only [Option.some.injEq] at e
      subst e
      rcases hgg with e | e
      · exact hb.1.1 e
      · have := hb.1.2; omega, Nat.lt_of_lt_of_le hb.1.2 h5.size⟩, hb.2⟩) d u hu
  have hxl : xs.length = k * n := h2.1
  by_cases e : q = k
  · subst e
    obtain ⟨u, hu, hqq, hru⟩ := hrd j hj
    refine ⟨u, ?_, hqq, key _ _ hru⟩
    rw [List.getElem?_append_right (by omega), hxl, show q * n + j - q * n = j by omega]
    exact hu
  · have hlt : q * n + j < k * n := spot_lt (by omega) hj
    obtain ⟨u, hu, hqq, hru⟩ := h3 q j (by omega) hj
    exact ⟨u, by rw [List.getElem?_append_left (by omega)]; exact hu, hqq, key _ _ hru⟩
theorem SQ.low {w : World} {base : Nat} {G : Nat → Prop} {T : TypeId} {n : Nat} {f : Nat → Nat → D} {Q : Nat → Nat → Value → Prop} {k : Nat} {v : Value} (h : SQ w base G T n f Q k v) {g : Nat} (hg : v.ownBlock = some g) : base ≤ g ∧ g < w.heap.size := by
  obtain ⟨xs, h1, -⟩ := h
  rcases h1.2 with ⟨rfl, -⟩ | ⟨g2, cap, cur, rfl, hb, hh, -⟩
  · cases hg
  · simp only [Value.ownBlock, Option.some.injEq] at hg
    subst hg
    exact ⟨hb, (Array.getElem?_eq_some_iff.1 hh).1⟩
theorem SQ.wide {w : World} {base base' : Nat} {G G' : Nat → Prop} {T : TypeId} {n : Nat} {f : Nat → Nat → D} {Q : Nat → Nat → Value → Prop} {k : Nat} {v : Value} (h : SQ w base G T n f Q k v) (hb : base' ≤ base) (hG : ∀ c, G c → G' c) : SQ w base' G' T n f Q k v := by
  obtain ⟨xs, h1, h2⟩ := h
  refine ⟨xs, ⟨h1.1, ?_⟩, fun i j hi hj => ?_⟩
  · rcases h1.2 with h | ⟨g, cap, cur, hv, hg, r⟩
    · exact .inl h
    · exact .inr ⟨g, cap, cur, hv, Nat.le_trans hb hg, r⟩
  · obtain ⟨u, hu, hqq, hr⟩ := h2 i j hi hj
    exact ⟨u, hu, hqq, hr.mono (fun c hc => ⟨hc.1, hG c hc.2⟩)⟩
structure GSq (w wr : World) (S : TypeId) (cb cr : Array Value) (co : Value → Array Value) (T : TypeId) (n : Nat) (f : Nat → Nat → D) (Q : Nat → Nat → Value → Prop) (k : Nat) (v : Value) : Prop where
  bx : wr.heap[w.heap.size]? = some (.cells cb S)
  rv : wr.heap[w.heap.size + 1]? = some (.cells cr S)
  ot : wr.heap[w.heap.size + 1 + 1 + 1]? = some (.cells (co v) S)
  gr : SQ wr (w.heap.size + 1 + 1) (fun c => w.heap.size + 1 + 1 ≤ c ∧ c ≠ w.heap.size + 1 + 1 + 1) T n f Q k v
  ne : v.ownBlock ≠ some (w.heap.size + 1 + 1 + 1)
  bel : Below w.heap.size w wr
theorem GSq.first (w : World) (S : TypeId) (cb cr : Array Value) (co : Value → Array Value) (T : TypeId) (n : Nat) (f : Nat → Nat → D) (Q : Nat → Nat → Value → Prop) : GSq w ((((w.alloc (.cells cb S)).alloc (.cells cr S)).alloc (.cells #[] T)).alloc (.cells (co (.slice (some ⟨w.heap.size + 1 + 1, 0, none⟩) 0 0)) S)) S cb cr co T n f Q 0 (.slice (some ⟨w.heap.size + 1 + 1, 0, none⟩) 0 0) := by
  have h3 : ∀ (V : World) (o : Obj) (b : Nat) (x : Obj), V.heap[b]? = some x → (V.alloc o).heap[b]? = some x := fun V o b x h => heap_keptD h (below_allocD _ _)
  have s1 := size_allocD w (.cells cb S)
  have e1 := heap_newD (w.alloc (.cells cb S)) (.cells cr S)
  have s2 := size_allocD (w.alloc (.cells cb S)) (.cells cr S)
  have e2 := heap_newD ((w.alloc (.cells cb S)).alloc (.cells cr S)) (.cells #[] T)
  have s3 := size_allocD ((w.alloc (.cells cb S)).alloc (.cells cr S)) (.cells #[] T)
  have e3 := heap_newD (((w.alloc (.cells cb S)).alloc (.cells cr S)).alloc (.cells #[] T)) (.cells (co (.slice (some ⟨w.heap.size + 1 + 1, 0, none⟩) 0 0)) S)
  rw [s1] at e1 s2
  rw [s2] at e2 s3
  rw [s3] at e3
  refine ⟨h3 _ _ _ _ (h3 _ _ _ _ (h3 _ _ _ _ (heap_newD _ _))), h3 _ _ _ _ (h3 _ _ _ _ e1), e3, SQ.start (Nat.le_refl _) (h3 _ _ _ _ e2), ?_, ?_⟩
  · simp [Value.ownBlock]
  · exact ((((Below.refl _ _).alloc (Nat.le_refl _) _).alloc (by simp) _).alloc (by simp; omega) _).alloc (by simp; omega) _
theorem GSq.step {w wr V w3 : World} {S : TypeId} {cb cr : Array Value} {co : Value → Array Value} {T : TypeId} {n : Nat} {f : Nat → Nat → D} {Q : Nat → Nat → Value → Prop} {k k' : Nat} {v v' : Value} (h : GSq w wr S cb cr co T n f Q k v) (s : Nat) (hco : (co v).setIfInBounds s v' = co v') (hB2 : Below wr.heap.size wr V) (hs : SQ w3 (w.heap.size + 1 + 1) (fun c => w.heap.size + 1 + 1 ≤ c ∧ c ≠ w.heap.size + 1 + 1 + 1) T n f Q k' v') (hg : V.grownBy w3 v.ownBlock) (hl : ∃ g, v'.ownBlock = some g ∧ (v.ownBlock = some g ∨ V.heap.size ≤ g)) :
    GSq w (w3.setCell ⟨w.heap.size + 1 + 1 + 1, s, none⟩ v') S cb cr co T n f Q k' v' ∧ w3.heap[w.heap.size + 1 + 1 + 1]? = some (.cells (co v) S) := by
  have keep : ∀ b y, wr.heap[b]? = some y → v.ownBlock ≠ some b → w3.heap[b]? = some y := fun b y hx hn => by
    have hlt := (Array.getElem?_eq_some_iff.1 hx).1
    rw [hg.block b (Nat.lt_of_lt_of_le hlt hB2.size) (fun e => hn e.symm), hB2.block b hlt]; exact hx
  have lo : ∀ g, v.ownBlock = some g → w.heap.size + 1 + 1 ≤ g := fun g e => (h.gr.low e).1
  have n0 : v.ownBlock ≠ some w.heap.size := fun e => by have := lo _ e; omega
  have n1 : v.ownBlock ≠ some (w.heap.size + 1) := fun e => by have := lo _ e; omega
  obtain ⟨g, hgv, hgg⟩ := hl
  have hp := (Array.getElem?_eq_some_iff.1 h.ot).1
  have hgp : g ≠ w.heap.size + 1 + 1 + 1 := by
    rcases hgg with e | e
    · intro e'; subst e'; exact h.ne e
    · have := hB2.size; omega
  have o3 := keep _ _ h.ot h.ne
  refine ⟨⟨?_, ?_, by rw [← hco]; exact heap_set s v' o3, ?_, ?_, ?_⟩, o3⟩
  · rw [Below.heap_setCell _ ⟨w.heap.size + 1 + 1 + 1, s, none⟩ v' _ (by show w.heap.size ≠ w.heap.size + 1 + 1 + 1; omega)]; exact keep _ _ h.bx n0
  · rw [Below.heap_setCell _ ⟨w.heap.size + 1 + 1 + 1, s, none⟩ v' _ (by show w.heap.size + 1 ≠ w.heap.size + 1 + 1 + 1; omega)]; exact keep _ _ h.rv n1
  · exact hs.same (p := w.heap.size + 1 + 1 + 1) (by simp [World.setCell]) (fun b hb => Below.heap_setCell _ _ _ _ hb) (by rw [hgv]; intro e; simp at e; exact hgp e) (fun c hc => hc.2)
  · rw [hgv]; intro e; simp at e; exact hgp e
  · have hb3 : Below w.heap.size w w3 := below_grown (h.bel.trans (hB2.mono h.bel.size)) hg (fun g e => by have := lo g e; omega) (Nat.le_trans h.bel.size hB2.size)
    exact hb3.setCell (by show w.heap.size ≤ w.heap.size + 1 + 1 + 1; omega) _
theorem SG.cap {w : World} {base : Nat} {G : Nat → Prop} {T : TypeId} {n : Nat} {f : Nat → Nat → D} {k : Nat} {a : Option Addr} {c : Nat} (h : SG w base G T n f k (.slice a k c)) : k ≤ c := by
  obtain ⟨xs, h1, -⟩ := h
  rcases h1.2 with ⟨e, h0⟩ | ⟨g2, cap, cur, e, hb, hh, hn, -⟩
  · omega
  · simp only [Value.slice.injEq, true_and] at e
    obtain ⟨-, rfl⟩ := e
    exact hn
theorem SG.blk {w : World} {base : Nat} {G : Nat → Prop} {T : TypeId} {n : Nat} {f : Nat → Nat → D} {k : Nat} {a : Option Addr} {c : Nat} (h : SG w base G T n f k (.slice a k c)) (hb : ∃ g, Value.ownBlock (.slice a k c) = some g) : ∃ g, a = some ⟨g, 0, none⟩ := by
  obtain ⟨xs, h1, -⟩ := h
  obtain ⟨g, hg⟩ := hb
  rcases h1.2 with ⟨e, -⟩ | ⟨g2, cap, cur, e, -⟩
  · rw [e] at hg; cases hg
  · simp only [Value.slice.injEq, true_and] at e
    exact ⟨g2, e.1⟩
theorem SG.pushN {P : Program} {w : World} {base : Nat} {G : Nat → Prop} {T : TypeId} {n : Nat} {f : Nat → Nat → D} {k : Nat} {v : Value} (h : SG w base G T n f k v) (hv : ∃ g, v.ownBlock = some g) (t ty : TypeId) (i : TypeInfo) (z : Value) (bytes : Nat) (ht : P.underlying t = some (.slice T)) (hi : P.info? T = some i) (hz : i.zero = some z)
    (hsize : i.size = n) (hby : i.bytes = bytes) (hzs : z.cells.size = n) (hn : 0 < n) (ad : Addr) (m c : Nat) (news : List Value) (hl : news.length = m * n) (hnews : ∀ j u, news[j]? = some u → w.cell? (ad.add j) = some u) (h1 : ∀ u ∈ news, u.oneCell' = true)
    (h63 : k + m ≤ maxLen) (hbytes : (k + m) * bytes ≤ 140737488355328) (hbase : base ≤ w.heap.size) (hrd : ∀ i j, i < m → j < n → ∃ u, news[i * n + j]? = some u ∧ Rd w (fun c => (v.ownBlock ≠ some c ∧ c < w.heap.size) ∧ G c) (f (k + i) j) u) :
    ∃ a' c' w', (Builtin.append_ #[t, t] ty #[v, .slice (some ad) m c]).run P w = .ok (.slice a' (k + m) c') w' ∧ SG w' base G T n f (k + m) (.slice a' (k + m) c') ∧ w.grownBy w' v.ownBlock ∧ ∃ g, Value.ownBlock (.slice a' (k + m) c') = some g ∧ (v.ownBlock = some g ∨ w.heap.size ≤ g) := by
  obtain ⟨xs, h2, h3⟩ := h
  by_cases hm : 0 < m
  · obtain ⟨v', w', hr, h4, h5, g, hg, hgg⟩ := run_append_own3 (P := P) w base t ty T i z n bytes ht hi hz hsize hby hzs hn v k xs h2 ad m c news hl hnews h1 h63 hbytes hbase hm
    obtain ⟨a', c', rfl⟩ : ∃ a' c', v' = .slice a' (k + m) c' := by
      rcases h4.2 with ⟨rfl, h0⟩ | ⟨g, cap, cur, rfl, -⟩
      · omega
      · exact ⟨_, _, rfl⟩
    refine ⟨a', c', w', hr, ⟨xs ++ news, h4, fun q j hq hj => ?_⟩, h5, g, hg, hgg⟩
    have key : ∀ d u, Rd w (fun c => (v.ownBlock ≠ some c ∧ c < w.heap.size) ∧ G c) d u → Rd w' (fun c => (Value.ownBlock (.slice a' (k + m) c') ≠ some c ∧ c < w'.heap.size) ∧ G c) d u := fun d u hu =>
      Rd.same (fun b hb => h5.block b hb.1.2 (fun e => hb.1.1 e.symm)) (fun b hb => ⟨⟨by
        rw [hg]
        intro e
        simp only [Option.some.injEq] at e
        subst e
        rcases hgg with e | e
        · exact hb.1.1 e
        · have := hb.1.2; omega, Nat.lt_of_lt_of_le hb.1.2 h5.size⟩, hb.2⟩) d u hu
    have hxl : xs.length = k * n := h2.1
    by_cases e : q < k
    · have hlt : q * n + j < k * n := spot_lt e hj
      obtain ⟨u, hu, hru⟩ := h3 q j e hj
      exact ⟨u, by rw [List.getElem?_append_left (by omega)]; exact hu, key _ _ hru⟩
    · obtain ⟨r, rfl⟩ : ∃ r, q = k + r := ⟨q - k, by omega⟩
      obtain ⟨u, hu, hru⟩ := hrd r j (by omega) hj
      refine ⟨u, ?_, key _ _ hru⟩
      rw [Nat.add_mul, List.getElem?_append_right (by omega), hxl, show k * n + r * n + j - k * n = r * n + j by omega]
      exact hu
  · obtain rfl : m = 0 := by omega
    obtain rfl : news = [] := List.length_eq_zero_iff.1 (by rw [hl]; simp)
    have h2' := h2
    obtain ⟨gv, hgv⟩ := hv
    rcases h2'.2 with ⟨rfl, -⟩ | ⟨g, cap, cur, rfl, hg, hb, hkc, hcap, hcs, hx⟩
    · cases hgv
    · subst hsize
      have hr2 := run_append_room_cells (P := P) w t ty T i ht hi g 0 k cap ad 0 c [] (by simp) (fun j u hj => by simp at hj) (fun u hu => by simp at hu) (by omega) (fun j hj => by simp at hj) (fun j hj => by simp at hj)
      refine ⟨some ⟨g, 0, none⟩, cap, _, hr2, ?_, ?_, g, rfl, .inl rfl⟩
      · exact ⟨xs, h2, h3⟩
      · exact ⟨rfl, rfl, rfl, Nat.le_refl _, fun _ _ _ => rfl⟩
end Go.Proofs.Ytdhlndpobpdfmaa
