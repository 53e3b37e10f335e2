import Derived.Test.YtlbcaaodkggohaaGreatDoorZag
import Derived.ArgAppend
import Derived.Deep.RegionLaw
import Derived.Test.YtlbcaaodkggohaaGreatDoorZab
import Derived.Test.YtlbcaaodkggohaaGreatDoorZaa
import Derived.Lib.Hide
import Derived.Deep.RegionWith
import Derived.BigQuiet
namespace Go.Proofs.YtlbcaaodkggohaaGreatDoor
open Go.RowKit
set_option linter.unusedSimpArgs false
theorem run_append_own3 {P : Program} (w : World) (base : Nat) (t ty e : TypeId) (i : TypeInfo) (z : Value) (size bytes : Nat) (ht : P.underlying t = some (.slice e)) (hi : P.info? e = some i) (hz : i.zero = some z)
  (hsize : i.size = size) (hby : i.bytes = bytes) (hzs : z.cells.size = size) (hsz : 0 < size)
  (v : Value) (n : Nat) (xs : List Value) (hown : w.ownsRow base e size v n xs)
  (a : Addr) (m c : Nat) (news : List Value) (hl : news.length = m * size) (hnews : ∀ j u, news[j]? = some u → w.cell? (a.add j) = some u) (h1 : ∀ u ∈ news, u.oneCell' = true)
  (h63 : n + m ≤ maxLen) (hbytes : (n + m) * bytes ≤ 140737488355328) (hbase : base ≤ w.heap.size) (hm : 0 < m) :
  ∃ v' w', (Builtin.append_ #[t, t] ty #[v, .slice (some a) m c]).run P w = .ok v' w' ∧ w'.ownsRow base e size v' (n + m) (xs ++ news) ∧ w.grownBy w' v.ownBlock ∧
   ∃ g, v'.ownBlock = some g ∧ (v.ownBlock = some g ∨ w.heap.size ≤ g) := by
 subst hsize; obtain ⟨v', w', hr, h2, h3, -⟩ := run_append_own (P := P) w base t ty e i z i.size bytes ht hi hz rfl hby hzs hsz v n xs hown a m c news hl hnews h1 h63 hbytes hbase; refine ⟨v', w', hr, h2, h3, ?_⟩
 have fresh : ∀ {v'' : Value} {w'' : World} {ys : List Value}, w''.ownsRow w.heap.size e i.size v'' (n + m) ys → ∃ g, v''.ownBlock = some g ∧ w.heap.size ≤ g := by
  intro v'' w'' ys h; rcases h.2 with ⟨-, h0⟩ | ⟨g, cap, cur, rfl, hg, -⟩
  ·
   omega
  ·
   exact ⟨g, rfl, hg⟩
 have hown' := hown; rcases hown'.2 with ⟨rfl, rfl⟩ | ⟨g, cap, cur, rfl, hg, hb, hn, hcap, hcs, hx⟩
 ·
  obtain ⟨v2, w2, hr2, h22, -, -⟩ := run_append_own (P := P) w w.heap.size t ty e i z i.size bytes ht hi hz rfl hby hzs hsz (.slice none 0 0) 0 xs ⟨hown.1, .inl ⟨rfl, rfl⟩⟩ a m c news hl hnews h1 h63 hbytes (Nat.le_refl _); rw [hr] at hr2
  injection hr2 with e1 e2
  subst e1; obtain ⟨g, h4, h5⟩ := fresh h22; exact ⟨g, h4, .inr h5⟩
 ·
  by_cases hroom : n + m ≤ cap
  ·
   have hr2 := run_append_room_cells (P := P) w t ty e i ht hi g 0 n cap a m c news hl hnews h1 hroom (fun j hj => by
    have hlt : n * i.size + j < cur.size := by
     have := Nat.mul_le_mul_right i.size hroom; rw [Nat.add_mul] at this; rw [hl] at hj
     omega
    simp [World.cell?, hb, hlt]) (fun j hj => by simp [World.frozen?, hb])
   rw [hr] at hr2
   injection hr2 with e1 e2
   subst e1; exact ⟨g, rfl, .inl rfl⟩
  ·
   obtain ⟨v2, w2, hr2, h22, -⟩ := run_append_arg_grows (P := P) w t ty e i z i.size bytes ht hi hz rfl hby hzs hsz ⟨g, 0, none⟩ n cap xs hown.1 (fun j u hj => by
    rw [Addr.add_mid, Nat.zero_add]; have hj' : j < n * i.size := by have := (List.getElem?_eq_some_iff.1 hj).1; rw [hown.1] at this; exact this
    rw [← hx, List.getElem?_take_of_lt hj', Array.getElem?_toList] at hj; simp [World.cell?, hb, hj]) a m c news hl hnews (by omega) h63 hbytes
   rw [hr] at hr2
   injection hr2 with e1 e2
   subst e1; obtain ⟨g', h4, h5⟩ := fresh h22; exact ⟨g', h4, .inr h5⟩
theorem ownsRow_later {w w' : World} {base : Nat} {e : TypeId} {size : Nat} {v : Value} {n : Nat} {xs : List Value} (h : w.ownsRow base e size v n xs) (hB : Below w.heap.size w w') : w'.ownsRow base e size v n xs := by
 obtain ⟨h1, h2⟩ := h; refine ⟨h1, ?_⟩; rcases h2 with h2 | ⟨g, cap, cur, hv, hg, hh, r⟩
 ·
  exact .inl h2
 ·
  exact .inr ⟨g, cap, cur, hv, hg, by rw [hB.block g (Array.getElem?_eq_some_iff.1 hh).1]; exact hh, r⟩
def SG (w : World) (base : Nat) (G : Nat → Prop) (T : TypeId) (n : Nat) (f : Nat → Nat → D) (k : Nat) (v : Value) : Prop :=
 ∃ xs, w.ownsRow base T n v k xs ∧ ∀ i j, i < k → j < n → ∃ u, xs[i * n + j]? = some u ∧ Rd w (fun c => (v.ownBlock ≠ some c ∧ c < w.heap.size) ∧ G c) (f i j) u
theorem SG.start {w : World} {base : Nat} {G : Nat → Prop} {T : TypeId} {n : Nat} {f : Nat → Nat → D} {g : Nat} (hg : base ≤ g) (hh : w.heap[g]? = some (.cells #[] T)) : SG w base G T n f 0 (.slice (some ⟨g, 0, none⟩) 0 0) :=
 ⟨[], ⟨by simp, .inr ⟨g, 0, #[], rfl, hg, hh, Nat.le_refl _, by unfold maxLen; omega, by simp, by simp⟩⟩, fun i j h => absurd h (by omega)⟩
theorem SG.later {w w' : World} {base : Nat} {G : Nat → Prop} {T : TypeId} {n : Nat} {f : Nat → Nat → D} {k : Nat} {v : Value} (h : SG w base G T n f k v) (hB : Below w.heap.size w w') : SG w' base G T n f k v := by
 obtain ⟨xs, h1, h2⟩ := h; refine ⟨xs, ownsRow_later h1 hB, fun i j hi hj => ?_⟩; obtain ⟨u, hu, hr⟩ := h2 i j hi hj; exact ⟨u, hu, (hr.later hB).mono (fun c hc => ⟨⟨hc.1.1, Nat.lt_of_lt_of_le hc.1.2 hB.size⟩, hc.2⟩)⟩
theorem SG.rd {w : World} {base : Nat} {G : Nat → Prop} {T : TypeId} {n : Nat} {f : Nat → Nat → D} {k : Nat} {v : Value} (h : SG w base G T n f k v) (hn : 0 < n) (hg0 : ∀ g, v.ownBlock = some g → G g) : Rd w (fun c => G c ∧ c < w.heap.size) (.l n k f) v := by
 obtain ⟨xs, h1, h2⟩ := h; rcases h1.2 with ⟨rfl, rfl⟩ | ⟨g, cap, cur, rfl, hg, hh, r1, r2, r3, r4⟩
 ·
  exact ⟨none, 0, rfl, .inl rfl⟩
 ·
  refine ⟨_, _, rfl, ?_⟩
  by_cases h0 : k = 0
  ·
   exact .inl h0
  ·
   refine .inr ⟨g, 0, rfl, ⟨hg0 g rfl, (Array.getElem?_eq_some_iff.1 hh).1⟩, hn, fun i j hi hj => ?_⟩; obtain ⟨u, hu, hr⟩ := h2 i j hi hj; have hlt : i * n + j < k * n := spot_lt hi hj; refine ⟨u, ?_, hr.mono (fun c hc => ⟨hc.2, hc.1.2⟩)⟩; rw [← r4, List.getElem?_take_of_lt hlt, Array.getElem?_toList] at hu; rw [Nat.zero_add]; simp [World.cell?, hh, hu]
theorem SG.push {P : Program} {w : World} {base : Nat} {G : Nat → Prop} {T : TypeId} {n : Nat} {f : Nat → Nat → D} {k : Nat} {v : Value} (h : SG w base G T n f k v) (t ty : TypeId) (i : TypeInfo) (z : Value) (bytes : Nat) (ht : P.underlying t = some (.slice T)) (hi : P.info? T = some i) (hz : i.zero = some z)
  (hsize : i.size = n) (hby : i.bytes = bytes) (hzs : z.cells.size = n) (hn : 0 < n) (ad : Addr) (c : Nat) (news : List Value) (hl : news.length = n) (hnews : ∀ j u, news[j]? = some u → w.cell? (ad.add j) = some u) (h1 : ∀ u ∈ news, u.oneCell' = true)
  (h63 : k + 1 ≤ maxLen) (hbytes : (k + 1) * bytes ≤ 140737488355328) (hbase : base ≤ w.heap.size) (hrd : ∀ j, j < n → ∃ u, news[j]? = some u ∧ Rd w (fun c => (v.ownBlock ≠ some c ∧ c < w.heap.size) ∧ G c) (f k j) u) :
  ∃ a' c' w', (Builtin.append_ #[t, t] ty #[v, .slice (some ad) 1 c]).run P w = .ok (.slice a' (k + 1) c') w' ∧ SG w' base G T n f (k + 1) (.slice a' (k + 1) c') ∧ w.grownBy w' v.ownBlock ∧ ∃ g, Value.ownBlock (.slice a' (k + 1) c') = some g ∧ (v.ownBlock = some g ∨ w.heap.size ≤ g) := by
 obtain ⟨xs, h2, h3⟩ := h; obtain ⟨v', w', hr, h4, h5, g, hg, hgg⟩ := run_append_own3 (P := P) w base t ty T i z n bytes ht hi hz hsize hby hzs hn v k xs h2 ad 1 c news (by rw [hl, Nat.one_mul]) hnews h1 h63 hbytes hbase (by omega)
 obtain ⟨a', c', rfl⟩ : ∃ a' c', v' = .slice a' (k + 1) c' := by
  rcases h4.2 with ⟨rfl, h0⟩ | ⟨g, cap, cur, rfl, -⟩
  ·
   omega
  ·
   exact ⟨_, _, rfl⟩
 refine ⟨a', c', w', hr, ⟨xs ++ news, h4, fun q j hq hj => ?_⟩, h5, g, hg, hgg⟩
 have key : ∀ d u, Rd w (fun c => (v.ownBlock ≠ some c ∧ c < w.heap.size) ∧ G c) d u → Rd w' (fun c => (Value.ownBlock (.slice a' (k + 1) c') ≠ some c ∧ c < w'.heap.size) ∧ G c) d u := fun d u hu =>
  Rd.same (fun b hb => h5.block b hb.1.2 (fun e => hb.1.1 e.symm)) (fun b hb => ⟨⟨by
   rw [hg]; intro e; simp only [Option.some.injEq] at e; subst e; rcases hgg with e | e
   ·
    exact hb.1.1 e
   ·
    have := hb.1.2; omega, Nat.lt_of_lt_of_le hb.1.2 h5.size⟩, hb.2⟩) d u hu
 have hxl : xs.length = k * n := h2.1
 by_cases e : q = k
 ·
  subst e; obtain ⟨u, hu, hru⟩ := hrd j hj; refine ⟨u, ?_, key _ _ hru⟩; rw [List.getElem?_append_right (by omega), hxl, show q * n + j - q * n = j by omega]; exact hu
 ·
  have hlt : q * n + j < k * n := spot_lt (by omega) hj; obtain ⟨u, hu, hru⟩ := h3 q j (by omega) hj; exact ⟨u, by rw [List.getElem?_append_left (by omega)]; exact hu, key _ _ hru⟩
theorem SG.conv {w : World} {base : Nat} {G G' : Nat → Prop} {T : TypeId} {n : Nat} {f f' : Nat → Nat → D} {k : Nat} {v : Value} (h : SG w base G T n f k v) (hf : ∀ i j, i < k → f' i j = f i j) (hG : ∀ c, c < w.heap.size → G c → G' c) : SG w base G' T n f' k v := by
 obtain ⟨xs, h1, h2⟩ := h; refine ⟨xs, h1, fun i j hi hj => ?_⟩; obtain ⟨u, hu, hr⟩ := h2 i j hi hj; exact ⟨u, hu, by rw [hf i j hi]; exact hr.mono (fun c hc => ⟨hc.1, hG c hc.1.2 hc.2⟩)⟩
theorem SG.frmP {w w' : World} {base : Nat} {G : Nat → Prop} {T : TypeId} {n : Nat} {f : Nat → Nat → D} {k : Nat} {v : Value} {p : Nat} (h : SG w base G T n f k v) (hF : Frm (· = p) w w') (hv : ∀ g, v.ownBlock = some g → g ≠ p) (hG : ∀ c, G c → c ≠ p) : SG w' base G T n f k v := by
 obtain ⟨xs, h1, h2⟩ := h; refine ⟨xs, ?_, fun i j hi hj => ?_⟩
 ·
  obtain ⟨h3, h4⟩ := h1; refine ⟨h3, ?_⟩; rcases h4 with h4 | ⟨g, cap, cur, hv', hg, hh, r⟩
  ·
   exact .inl h4
  ·
   exact .inr ⟨g, cap, cur, hv', hg, by rw [hF.block g (Array.getElem?_eq_some_iff.1 hh).1 (hv g (by rw [hv']; rfl))]; exact hh, r⟩
 ·
  obtain ⟨u, hu, hr⟩ := h2 i j hi hj; exact ⟨u, hu, Rd.same (fun c hc => hF.block c hc.1.2 (hG c hc.2)) (fun c hc => ⟨⟨hc.1.1, Nat.lt_of_lt_of_le hc.1.2 hF.size⟩, hc.2⟩) _ _ hr⟩
theorem heap_keptD {w w' : World} {b : Nat} {o : Obj} (h : w.heap[b]? = some o) (hB : Below w.heap.size w w') : w'.heap[b]? = some o := by
 rw [hB.block b (Array.getElem?_eq_some_iff.1 h).1]; exact h
theorem heap_newD (w : World) (o : Obj) : (w.alloc o).heap[w.heap.size]? = some o := by
 show (w.heap.push o)[w.heap.size]? = _
 simp
theorem below_allocD (w : World) (o : Obj) : Below w.heap.size w (w.alloc o) := (Below.refl _ _).alloc (Nat.le_refl _) _
theorem size_allocD (w : World) (o : Obj) : (w.alloc o).heap.size = w.heap.size + 1 := by simp
def BoxD (ty : TypeId) (w W : World) (cs : Array Value) : Prop := W.heap[w.heap.size]? = some (.cells cs ty) ∧ Below w.heap.size w W
theorem boxD (ty : TypeId) (w : World) (cs : Array Value) : BoxD ty w (w.alloc (.cells cs ty)) cs := ⟨heap_newD _ _, below_allocD _ _⟩
theorem BoxD.later {ty : TypeId} {w W W' : World} {cs : Array Value} (h : BoxD ty w W cs) (hB : Below W.heap.size W W') : BoxD ty w W' cs := ⟨heap_keptD h.1 hB, h.2.trans (hB.mono h.2.size)⟩
theorem BoxD.drew {ty : TypeId} {w W : World} {cs : Array Value} (h : BoxD ty w W cs) : BoxD ty w W.drew cs := h.later (Below.refl _ _).drew
structure Box2D (ty : TypeId) (w W : World) (cs ds : Array Value) : Prop where
 a : W.heap[w.heap.size]? = some (.cells cs ty)
 b : W.heap[w.heap.size + 1]? = some (.cells ds ty)
 bel : Below w.heap.size w W
theorem box2D (ty : TypeId) (w : World) (cs ds : Array Value) : Box2D ty w ((w.alloc (.cells cs ty)).alloc (.cells ds ty)) cs ds := by
 refine ⟨heap_keptD (heap_newD _ _) (below_allocD _ _), ?_, (below_allocD _ _).trans ((below_allocD _ _).mono (by simp))⟩; have h := heap_newD (w.alloc (.cells cs ty)) (.cells ds ty); rw [size_allocD] at h; exact h
theorem SG.low {w : World} {base : Nat} {G : Nat → Prop} {T : TypeId} {n : Nat} {f : Nat → Nat → D} {k : Nat} {v : Value} (h : SG w base G T n f k v) {g : Nat} (hg : v.ownBlock = some g) : base ≤ g ∧ g < w.heap.size := by
 obtain ⟨xs, h1, -⟩ := h; rcases h1.2 with ⟨rfl, -⟩ | ⟨g2, cap, cur, rfl, hb, hh, -⟩
 ·
  cases hg
 ·
  simp only [Value.ownBlock, Option.some.injEq] at hg; subst hg; exact ⟨hb, (Array.getElem?_eq_some_iff.1 hh).1⟩
theorem SG.wide {w : World} {base base' : Nat} {G G' : Nat → Prop} {T : TypeId} {n : Nat} {f : Nat → Nat → D} {k : Nat} {v : Value} (h : SG w base G T n f k v) (hb : base' ≤ base) (hG : ∀ c, G c → G' c) : SG w base' G' T n f k v := by
  obtain ⟨xs, h1, h2⟩ := h; refine ⟨xs, ⟨h1.1, ?_⟩, fun i j hi hj => ?_⟩
  · rcases h1.2 with h | ⟨g, cap, cur, hv, hg, r⟩
    · exact .inl h
    · exact .inr ⟨g, cap, cur, hv, Nat.le_trans hb hg, r⟩
  · obtain ⟨u, hu, hr⟩ := h2 i j hi hj
    exact ⟨u, hu, hr.mono (fun c hc => ⟨hc.1, hG c hc.2⟩)⟩
end Go.Proofs.YtlbcaaodkggohaaGreatDoor
