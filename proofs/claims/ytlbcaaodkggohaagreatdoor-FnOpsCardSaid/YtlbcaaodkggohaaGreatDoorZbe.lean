import Derived.Test.YtlbcaaodkggohaaGreatDoorZah
import Derived.Test.YtlbcaaodkggohaaGreatDoorZbd
namespace Go.Proofs.YtlbcaaodkggohaaGreatDoor
open Go.RowKit
set_option linter.unusedSimpArgs false
def SQ (w : World) (base : Nat) (G : Nat → Prop) (T : TypeId) (n : Nat) (f : Nat → Nat → D) (Q : Nat → Nat → Value → Prop) (k : Nat) (v : Value) : Prop :=
 ∃ xs, w.ownsRow base T n v k xs ∧ ∀ i j, i < k → j < n → ∃ u, xs[i * n + j]? = some u ∧ Q i j u ∧ Rd w (fun c => (v.ownBlock ≠ some c ∧ c < w.heap.size) ∧ G c) (f i j) u
theorem SQ.start {w : World} {base : Nat} {G : Nat → Prop} {T : TypeId} {n : Nat} {f : Nat → Nat → D} {Q : Nat → Nat → Value → Prop} {g : Nat} (hg : base ≤ g) (hh : w.heap[g]? = some (.cells #[] T)) : SQ w base G T n f Q 0 (.slice (some ⟨g, 0, none⟩) 0 0) :=
 ⟨[], ⟨by simp, .inr ⟨g, 0, #[], rfl, hg, hh, Nat.le_refl _, by unfold maxLen; omega, by simp, by simp⟩⟩, fun i j h => absurd h (by omega)⟩
theorem SQ.later {w w' : World} {base : Nat} {G : Nat → Prop} {T : TypeId} {n : Nat} {f : Nat → Nat → D} {Q : Nat → Nat → Value → Prop} {k : Nat} {v : Value} (h : SQ w base G T n f Q k v) (hB : Below w.heap.size w w') : SQ w' base G T n f Q k v := by
 obtain ⟨xs, h1, h2⟩ := h; refine ⟨xs, ownsRow_later h1 hB, fun i j hi hj => ?_⟩; obtain ⟨u, hu, hqq, hr⟩ := h2 i j hi hj; exact ⟨u, hu, hqq, (hr.later hB).mono (fun c hc => ⟨⟨hc.1.1, Nat.lt_of_lt_of_le hc.1.2 hB.size⟩, hc.2⟩)⟩
theorem SQ.push {P : Program} {w : World} {base : Nat} {G : Nat → Prop} {T : TypeId} {n : Nat} {f : Nat → Nat → D} {Q : Nat → Nat → Value → Prop} {k : Nat} {v : Value} (h : SQ w base G T n f Q k v) (t ty : TypeId) (i : TypeInfo) (z : Value) (bytes : Nat) (ht : P.underlying t = some (.slice T)) (hi : P.info? T = some i) (hz : i.zero = some z)
  (hsize : i.size = n) (hby : i.bytes = bytes) (hzs : z.cells.size = n) (hn : 0 < n) (ad : Addr) (c : Nat) (news : List Value) (hl : news.length = n) (hnews : ∀ j u, news[j]? = some u → w.cell? (ad.add j) = some u) (h1 : ∀ u ∈ news, u.oneCell' = true)
  (h63 : k + 1 ≤ maxLen) (hbytes : (k + 1) * bytes ≤ 140737488355328) (hbase : base ≤ w.heap.size) (hrd : ∀ j, j < n → ∃ u, news[j]? = some u ∧ Q k j u ∧ Rd w (fun c => (v.ownBlock ≠ some c ∧ c < w.heap.size) ∧ G c) (f k j) u) :
  ∃ a' c' w', (Builtin.append_ #[t, t] ty #[v, .slice (some ad) 1 c]).run P w = .ok (.slice a' (k + 1) c') w' ∧ SQ w' base G T n f Q (k + 1) (.slice a' (k + 1) c') ∧ w.grownBy w' v.ownBlock ∧ ∃ g, Value.ownBlock (.slice a' (k + 1) c') = some g ∧ (v.ownBlock = some g ∨ w.heap.size ≤ g) := by
 obtain ⟨xs, h2, h3⟩ := h; obtain ⟨v', w', hr, h4, h5, g, hg, hgg⟩ := run_append_own3 (P := P) w base t ty T i z n bytes ht hi hz hsize hby hzs hn v k xs h2 ad 1 c news (by rw [hl, Nat.one_mul]) hnews h1 h63 hbytes hbase (by omega)
 obtain ⟨a', c', rfl⟩ : ∃ a' c', v' = .slice a' (k + 1) c' := by
  rcases h4.2 with ⟨rfl, h0⟩ | ⟨g, cap, cur, rfl, -⟩
  ·
   omega
  ·
   exact ⟨_, _, rfl⟩
 refine ⟨a', c', w', hr, ⟨xs ++ news, h4, fun q j hq hj => ?_⟩, h5, g, hg, hgg⟩
 have key : ∀ d u, Rd w (fun c => (v.ownBlock ≠ some c ∧ c < w.heap.size) ∧ G c) d u → Rd w' (fun c => (Value.ownBlock (.slice a' (k + 1) c') ≠ some c ∧ c < w'.heap.size) ∧ G c) d u := fun d u hu =>
  Rd.same (fun b hb => h5.block b hb.1.2 (fun e => hb.1.1 e.symm)) (fun b hb => ⟨⟨by
   rw [hg]; intro e; simp only [Option.some.injEq] at e; subst e; rcases hgg with e | e
   ·
    exact hb.1.1 e
   ·
    have := hb.1.2; omega, Nat.lt_of_lt_of_le hb.1.2 h5.size⟩, hb.2⟩) d u hu
 have hxl : xs.length = k * n := h2.1
 by_cases e : q = k
 ·
  subst e; obtain ⟨u, hu, hqq, hru⟩ := hrd j hj; refine ⟨u, ?_, hqq, key _ _ hru⟩; rw [List.getElem?_append_right (by omega), hxl, show q * n + j - q * n = j by omega]; exact hu
 ·
  have hlt : q * n + j < k * n := spot_lt (by omega) hj; obtain ⟨u, hu, hqq, hru⟩ := h3 q j (by omega) hj; exact ⟨u, by rw [List.getElem?_append_left (by omega)]; exact hu, hqq, key _ _ hru⟩
theorem SQ.low {w : World} {base : Nat} {G : Nat → Prop} {T : TypeId} {n : Nat} {f : Nat → Nat → D} {Q : Nat → Nat → Value → Prop} {k : Nat} {v : Value} (h : SQ w base G T n f Q k v) {g : Nat} (hg : v.ownBlock = some g) : base ≤ g ∧ g < w.heap.size := by
 obtain ⟨xs, h1, -⟩ := h; rcases h1.2 with ⟨rfl, -⟩ | ⟨g2, cap, cur, rfl, hb, hh, -⟩
 ·
  cases hg
 ·
  simp only [Value.ownBlock, Option.some.injEq] at hg; subst hg; exact ⟨hb, (Array.getElem?_eq_some_iff.1 hh).1⟩
theorem SQ.wide {w : World} {base base' : Nat} {G G' : Nat → Prop} {T : TypeId} {n : Nat} {f : Nat → Nat → D} {Q : Nat → Nat → Value → Prop} {k : Nat} {v : Value} (h : SQ w base G T n f Q k v) (hb : base' ≤ base) (hG : ∀ c, G c → G' c) : SQ w base' G' T n f Q k v := by
  obtain ⟨xs, h1, h2⟩ := h; refine ⟨xs, ⟨h1.1, ?_⟩, fun i j hi hj => ?_⟩
  · rcases h1.2 with h | ⟨g, cap, cur, hv, hg, r⟩
    · exact .inl h
    · exact .inr ⟨g, cap, cur, hv, Nat.le_trans hb hg, r⟩
  · obtain ⟨u, hu, hqq, hr⟩ := h2 i j hi hj
    exact ⟨u, hu, hqq, hr.mono (fun c hc => ⟨hc.1, hG c hc.2⟩)⟩
variable {V W W' : World} {p S : Nat} {a : Option Addr} {l : List UInt8} {c m m' s : Nat}
theorem SG.cut {w : World} {base : Nat} {G : Nat → Prop} {T : TypeId} {n : Nat} {f : Nat → Nat → D} {k k' : Nat} {a : Option Addr} {c : Nat} (h : SG w base G T n f k (.slice a k c)) (hk : k' ≤ k) : SG w base G T n f k' (.slice a k' c) := by
 obtain ⟨xs, ⟨hl, h2⟩, h3⟩ := h; have hkn : k' * n ≤ k * n := Nat.mul_le_mul_right n hk; refine ⟨xs.take (k' * n), ⟨by rw [List.length_take, hl]; omega, ?_⟩, fun i j hi hj => ?_⟩
 ·
  rcases h2 with ⟨e, h0⟩ | ⟨g, cap, cur, e, hb, hh, r1, r2, r3, r4⟩
  ·
   simp only [Value.slice.injEq] at e; obtain ⟨rfl, -, rfl⟩ := e; obtain rfl : k' = 0 := by omega
   exact .inl ⟨rfl, rfl⟩
  ·
   simp only [Value.slice.injEq, true_and] at e; obtain ⟨rfl, rfl⟩ := e; exact .inr ⟨g, c, cur, rfl, hb, hh, by omega, r2, r3, by rw [← r4, List.take_take, Nat.min_eq_left hkn]⟩
 ·
  obtain ⟨u, hu, hr⟩ := h3 i j (by omega) hj; have e : Value.ownBlock (.slice a k' c) = Value.ownBlock (.slice a k c) := by cases a <;> rfl
  exact ⟨u, by rw [List.getElem?_take_of_lt (spot_lt hi hj)]; exact hu, by rw [e]; exact hr⟩
theorem infoOpD : ∃ i, Tryz.prog.info? 36 = some i ∧ i.zero = some (.agg #[.int .i64 0, .string ⟨#[]⟩, .string ⟨#[]⟩, .slice none 0 0, .slice none 0 0, .slice none 0 0, .slice none 0 0, .bool false]) ∧ i.size = 8 ∧ i.bytes = 144 := by
 have h : (Tryz.prog.info? 36).map (fun i => (i.zero, i.size, i.bytes)) = some (some (.agg #[.int .i64 0, .string ⟨#[]⟩, .string ⟨#[]⟩, .slice none 0 0, .slice none 0 0, .slice none 0 0, .slice none 0 0, .bool false]), 8, 144) := by kernel_rfl
 obtain ⟨i, hi, hzz⟩ := Option.map_eq_some_iff.1 h; simp only [Prod.mk.injEq] at hzz; exact ⟨i, hi, hzz⟩
theorem SQ.conv {w : World} {base : Nat} {G G' : Nat → Prop} {T : TypeId} {n : Nat} {f f' : Nat → Nat → D} {Q : Nat → Nat → Value → Prop} {k : Nat} {v : Value} (h : SQ w base G T n f Q k v) (hf : ∀ i j, i < k → f' i j = f i j) (hG : ∀ c, c < w.heap.size → G c → G' c) : SQ w base G' T n f' Q k v := by
 obtain ⟨xs, h1, h2⟩ := h; refine ⟨xs, h1, fun i j hi hj => ?_⟩; obtain ⟨u, hu, hq, hr⟩ := h2 i j hi hj; exact ⟨u, hu, hq, by rw [hf i j hi]; exact hr.mono (fun c hc => ⟨hc.1, hG c hc.1.2 hc.2⟩)⟩
theorem SQ.frmP {w w' : World} {base : Nat} {G : Nat → Prop} {T : TypeId} {n : Nat} {f : Nat → Nat → D} {Q : Nat → Nat → Value → Prop} {k : Nat} {v : Value} {p : Nat} (h : SQ w base G T n f Q k v) (hF : Frm (· = p) w w') (hv : ∀ g, v.ownBlock = some g → g ≠ p) (hG : ∀ c, G c → c ≠ p) : SQ w' base G T n f Q k v := by
 obtain ⟨xs, h1, h2⟩ := h; refine ⟨xs, ?_, fun i j hi hj => ?_⟩
 ·
  obtain ⟨h3, h4⟩ := h1; refine ⟨h3, ?_⟩; rcases h4 with h4 | ⟨g, cap, cur, hv', hg, hh, r⟩
  ·
   exact .inl h4
  ·
   exact .inr ⟨g, cap, cur, hv', hg, by rw [hF.block g (Array.getElem?_eq_some_iff.1 hh).1 (hv g (by rw [hv']; rfl))]; exact hh, r⟩
 ·
  obtain ⟨u, hu, hq, hr⟩ := h2 i j hi hj; exact ⟨u, hu, hq, Rd.same (fun c hc => hF.block c hc.1.2 (hG c hc.2)) (fun c hc => ⟨⟨hc.1.1, Nat.lt_of_lt_of_le hc.1.2 hF.size⟩, hc.2⟩) _ _ hr⟩
def CapQ (_ j : Nat) (u : Value) : Prop := j = 4 → ∃ (a : Option Addr) (n c : Nat), u = .slice a n c ∧ n ≤ c
structure DQ (V W : World) (p S : Nat) (a : Option Addr) (l : List UInt8) (c m : Nat) (T : TypeId) (n : Nat) (f : Nat → Nat → D) (k : Nat) (v : Value) : Prop where
 src : ∃ s, Src W p S a l c m s
 fr : Frm (· = p) V W
 pl : p < V.heap.size
 sg : SQ W V.heap.size (V.heap.size ≤ ·) T n f CapQ k v
section
variable {V W W' : World} {p S : Nat} {a : Option Addr} {l : List UInt8} {c m m' s : Nat} {T : TypeId} {n : Nat} {f f' : Nat → Nat → D} {k : Nat} {v : Value}
theorem DQ.draw (h : DQ V W p S a l c m T n f k v) (hF : Frm (· = p) W W') (hS : ∃ s', Src W' p S a l c m' s') : DQ V W' p S a l c m' T n f k v :=
 ⟨hS, h.fr.trans hF, h.pl, h.sg.frmP hF (fun g hg => by have := h.sg.low hg; have := h.pl; omega) (fun b hb => by have := h.pl; omega)⟩
theorem DQ.later (h : DQ V W p S a l c m T n f k v) (hB : Below W.heap.size W W') : DQ V W' p S a l c m T n f k v := by
 obtain ⟨s, hs⟩ := h.src; exact h.draw (Frm.of_below hB) ⟨s, hs.on hB⟩
theorem DQ.push {P : Program} (h : DQ V W p S a l c m T n f k v) (hf : ∀ i j, i < k → f' i j = f i j) (t ty : TypeId) (i : TypeInfo) (z : Value) (bytes : Nat) (ht : P.underlying t = some (.slice T)) (hi : P.info? T = some i) (hz : i.zero = some z)
  (hsize : i.size = n) (hby : i.bytes = bytes) (hzs : z.cells.size = n) (hn : 0 < n) (ad : Addr) (cc : Nat) (news : List Value) (hl : news.length = n) (hnews : ∀ j u, news[j]? = some u → W.cell? (ad.add j) = some u) (h1 : ∀ u ∈ news, u.oneCell' = true)
  (h63 : k + 1 ≤ maxLen) (hbytes : (k + 1) * bytes ≤ 140737488355328) (hrd : ∀ j, j < n → ∃ u, news[j]? = some u ∧ CapQ k j u ∧ Rd W (fun b => (v.ownBlock ≠ some b ∧ b < W.heap.size) ∧ V.heap.size ≤ b) (f' k j) u) :
  ∃ a' c' W', (Builtin.append_ #[t, t] ty #[v, .slice (some ad) 1 cc]).run P W = .ok (.slice a' (k + 1) c') W' ∧ DQ V W' p S a l c m T n f' (k + 1) (.slice a' (k + 1) c') := by
 obtain ⟨s, hs⟩ := h.src; have hp := h.pl; have hsg : SQ W V.heap.size (V.heap.size ≤ ·) T n f' CapQ k v := h.sg.conv hf (fun _ _ hx => hx); obtain ⟨a', c', w', hr, h2, h3, -⟩ := hsg.push (P := P) t ty i z bytes ht hi hz hsize hby hzs hn ad cc news hl hnews h1 h63 hbytes h.fr.size hrd; have hFg : Frm (fun b => v.ownBlock = some b) W w' := ⟨h3.os, h3.tape, h3.output, h3.size, fun b hb hn => h3.block b hb (fun e => hn e.symm)⟩; refine ⟨a', c', w', hr, ⟨s, hs.frm hFg (fun e => by have := h.sg.low e; omega) (fun b hb e => by have := h.sg.low e; have := hs.le; omega)⟩, ?_, hp, h2⟩; exact ⟨h3.os.trans h.fr.os, h3.tape.trans h.fr.tape, h3.output.trans h.fr.output, Nat.le_trans h.fr.size h3.size, fun b hb hn => (hFg.block b (Nat.lt_of_lt_of_le hb h.fr.size) (fun e => by have := h.sg.low e; omega)).trans (h.fr.block b hb hn)⟩
end
theorem DQ.op {W1 : World} {L : List OpV} {v : Value} {o : OpV} {a3 : Option Addr} {c3 : Nat} {a4 : Option Addr} {c4 : Nat} {a5 : Option Addr} {c5 : Nat} {a6 : Option Addr} {c6 : Nat} (h : DQ V W p S a l c m 36 8 (lsF dOp L) L.length v) (hF : Frm (· = p) W W1) (hs : ∃ s, Src W1 p S a l c m' s)
  (r3 : Rd W1 (fun b => W.heap.size ≤ b ∧ b < W1.heap.size) (dCondS o.wh) (.slice a3 o.wh.length c3)) (r4 : Rd W1 (fun b => W.heap.size ≤ b ∧ b < W1.heap.size) (dSetS o.row) (.slice a4 o.row.length c4)) (r5 : Rd W1 (fun b => W.heap.size ≤ b ∧ b < W1.heap.size) (dMutS o.mu) (.slice a5 o.mu.length c5)) (r6 : Rd W1 (fun b => W.heap.size ≤ b ∧ b < W1.heap.size) (dStringS o.cs) (.slice a6 o.cs.length c6)) (hcap : o.row.length ≤ c4) (hL : L.length ≤ 1000) :
  ∃ a' c' W2, (Builtin.append_ #[27, 27] 27 #[v, .slice (some ⟨W1.heap.size, 0, none⟩) 1 1]).run Tryz.prog (W1.alloc (.cells #[.int .i64 o.kd, .string ⟨o.tb.toArray⟩, .string ⟨o.nm.toArray⟩, .slice a3 o.wh.length c3, .slice a4 o.row.length c4, .slice a5 o.mu.length c5, .slice a6 o.cs.length c6, .bool o.un] 36)) = .ok (.slice a' (L.length + 1) c') W2 ∧ DQ V W2 p S a l c m' 36 8 (lsF dOp (L ++ [o])) (L.length + 1) (.slice a' (L.length + 1) c') := by
 obtain ⟨i, hi, hz, hsz, hby⟩ := infoOpD; have hA := below_allocD W1 (.cells #[.int .i64 o.kd, .string ⟨o.tb.toArray⟩, .string ⟨o.nm.toArray⟩, .slice a3 o.wh.length c3, .slice a4 o.row.length c4, .slice a5 o.mu.length c5, .slice a6 o.cs.length c6, .bool o.un] 36); have hn := heap_newD W1 (.cells #[.int .i64 o.kd, .string ⟨o.tb.toArray⟩, .string ⟨o.nm.toArray⟩, .slice a3 o.wh.length c3, .slice a4 o.row.length c4, .slice a5 o.mu.length c5, .slice a6 o.cs.length c6, .bool o.un] 36); have hlow : ∀ g, v.ownBlock = some g → g < W.heap.size := fun g hg => (h.sg.low hg).2
 have hV := h.fr.size; have h2 := (h.draw hF hs).later hA; have k : ∀ d u, Rd W1 (fun b => W.heap.size ≤ b ∧ b < W1.heap.size) d u → Rd (W1.alloc (.cells #[.int .i64 o.kd, .string ⟨o.tb.toArray⟩, .string ⟨o.nm.toArray⟩, .slice a3 o.wh.length c3, .slice a4 o.row.length c4, .slice a5 o.mu.length c5, .slice a6 o.cs.length c6, .bool o.un] 36)) (fun b => (v.ownBlock ≠ some b ∧ b < (W1.alloc (.cells #[.int .i64 o.kd, .string ⟨o.tb.toArray⟩, .string ⟨o.nm.toArray⟩, .slice a3 o.wh.length c3, .slice a4 o.row.length c4, .slice a5 o.mu.length c5, .slice a6 o.cs.length c6, .bool o.un] 36)).heap.size) ∧ V.heap.size ≤ b) d u := fun d u hr => (hr.later hA).mono (fun b hb => ⟨⟨fun e => by have := hlow b e; omega, Nat.lt_of_lt_of_le hb.2 hA.size⟩, by omega⟩)
 refine h2.push (P := Tryz.prog) (f' := lsF dOp (L ++ [o])) lsF_snoc.1 _ _ i _ 144 Tryz.underlying27 hi hz hsz hby rfl (by omega) _ _ [.int .i64 o.kd, .string ⟨o.tb.toArray⟩, .string ⟨o.nm.toArray⟩, .slice a3 o.wh.length c3, .slice a4 o.row.length c4, .slice a5 o.mu.length c5, .slice a6 o.cs.length c6, .bool o.un] rfl ?_ ?_ (by unfold maxLen; omega) (by omega) ?_
 ·
  intro j u hj; have hj3 := (List.getElem?_eq_some_iff.1 hj).1
  match j, hj3 with
  | 0, _ => cases hj; exact cell_at (o := 0) hn rfl
  | 1, _ => cases hj; exact cell_at (o := 1) hn rfl
  | 2, _ => cases hj; exact cell_at (o := 2) hn rfl
  | 3, _ => cases hj; exact cell_at (o := 3) hn rfl
  | 4, _ => cases hj; exact cell_at (o := 4) hn rfl
  | 5, _ => cases hj; exact cell_at (o := 5) hn rfl
  | 6, _ => cases hj; exact cell_at (o := 6) hn rfl
  | 7, _ => cases hj; exact cell_at (o := 7) hn rfl
 ·
  intro u hu; simp only [List.mem_cons, List.not_mem_nil, or_false] at hu; rcases hu with rfl | rfl | rfl | rfl | rfl | rfl | rfl | rfl <;> rfl
 ·
  intro j hj; rw [lsF_snoc.2]
  match j, hj with
  | 0, _ => exact ⟨_, rfl, fun h => absurd h (by omega), rfl⟩
  | 1, _ => exact ⟨_, rfl, fun h => absurd h (by omega), rfl⟩
  | 2, _ => exact ⟨_, rfl, fun h => absurd h (by omega), rfl⟩
  | 3, _ => exact ⟨_, rfl, fun h => absurd h (by omega), k _ _ r3⟩
  | 4, _ => exact ⟨_, rfl, fun _ => ⟨_, _, _, rfl, hcap⟩, k _ _ r4⟩
  | 5, _ => exact ⟨_, rfl, fun h => absurd h (by omega), k _ _ r5⟩
  | 6, _ => exact ⟨_, rfl, fun h => absurd h (by omega), k _ _ r6⟩
  | 7, _ => exact ⟨_, rfl, fun h => absurd h (by omega), rfl⟩
def OpsA (W : World) (p S : Nat) (a : Option Addr) (l : List UInt8) (c m : Nat) (e : Ending) (W' : World) : Prop := ∃ (L : List OpV) (va : Option Addr) (vc m' s' : Nat), e = .returned (.slice va L.length vc) ∧ L.length ≤ 5 ∧ (∀ x ∈ L, OpR x) ∧ SQ W' W.heap.size (W.heap.size ≤ ·) 36 8 (lsF dOp L) CapQ L.length (.slice va L.length vc) ∧ m' ≤ m + 1200 ∧ Src W' p S a l c m' s' ∧ Frm (· = p) W W'
end Go.Proofs.YtlbcaaodkggohaaGreatDoor
