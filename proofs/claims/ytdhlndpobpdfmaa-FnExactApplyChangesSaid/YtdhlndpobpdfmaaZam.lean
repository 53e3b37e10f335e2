import Derived.Test.YtdhlndpobpdfmaaZad
import Derived.ArgAppend
import Derived.Deep.RegionLaw
namespace Go.Proofs.Ytdhlndpobpdfmaa
open Go.RowKit
set_option linter.unusedSimpArgs false
theorem run_append_own3 {P : Program} (w : World) (base : Nat) (t ty e : TypeId) (i : TypeInfo) (z : Value) (size bytes : Nat) (ht : P.underlying t = some (.slice e)) (hi : P.info? e = some i) (hz : i.zero = some z)
    (hsize : i.size = size) (hby : i.bytes = bytes) (hzs : z.cells.size = size) (hsz : 0 < size)
    (v : Value) (n : Nat) (xs : List Value) (hown : w.ownsRow base e size v n xs)
    (a : Addr) (m c : Nat) (news : List Value) (hl : news.length = m * size) (hnews : ∀ j u, news[j]? = some u → w.cell? (a.add j) = some u) (h1 : ∀ u ∈ news, u.oneCell' = true)
    (h63 : n + m ≤ maxLen) (hbytes : (n + m) * bytes ≤ 140737488355328) (hbase : base ≤ w.heap.size) (hm : 0 < m) :
    ∃ v' w', (Builtin.append_ #[t, t] ty #[v, .slice (some a) m c]).run P w = .ok v' w' ∧ w'.ownsRow base e size v' (n + m) (xs ++ news) ∧ w.grownBy w' v.ownBlock ∧
      ∃ g, v'.ownBlock = some g ∧ (v.ownBlock = some g ∨ w.heap.size ≤ g) := by
  subst hsize
  obtain ⟨v', w', hr, h2, h3, -⟩ := run_append_own (P := P) w base t ty e i z i.size bytes ht hi hz rfl hby hzs hsz v n xs hown a m c news hl hnews h1 h63 hbytes hbase
  refine ⟨v', w', hr, h2, h3, ?_⟩
  have fresh : ∀ {v'' : Value} {w'' : World} {ys : List Value}, w''.ownsRow w.heap.size e i.size v'' (n + m) ys → ∃ g, v''.ownBlock = some g ∧ w.heap.size ≤ g := by
    intro v'' w'' ys h
    rcases h.2 with ⟨-, h0⟩ | ⟨g, cap, cur, rfl, hg, -⟩
    · omega
    · exact ⟨g, rfl, hg⟩
  have hown' := hown
  rcases hown'.2 with ⟨rfl, rfl⟩ | ⟨g, cap, cur, rfl, hg, hb, hn, hcap, hcs, hx⟩
  · obtain ⟨v2, w2, hr2, h22, -, -⟩ := run_append_own (P := P) w w.heap.size t ty e i z i.size bytes ht hi hz rfl hby hzs hsz (.slice none 0 0) 0 xs ⟨hown.1, .inl ⟨rfl, rfl⟩⟩ a m c news hl hnews h1 h63 hbytes (Nat.le_refl _)
    rw [hr] at hr2
    injection hr2 with e1 e2
    subst e1
    obtain ⟨g, h4, h5⟩ := fresh h22
    exact ⟨g, h4, .inr h5⟩
  · by_cases hroom : n + m ≤ cap
    · have hr2 := run_append_room_cells (P := P) w t ty e i ht hi g 0 n cap a m c news hl hnews h1 hroom (fun j hj => by
        have hlt : n * i.size + j < cur.size := by
          have := Nat.mul_le_mul_right i.size hroom
          rw [Nat.add_mul] at this
          rw [hl] at hj
          omega
        simp [World.cell?, hb, hlt]) (fun j hj => by simp [World.frozen?, hb])
      rw [hr] at hr2
      injection hr2 with e1 e2
      subst e1
      exact ⟨g, rfl, .inl rfl⟩
    · obtain ⟨v2, w2, hr2, h22, -⟩ := run_append_arg_grows (P := P) w t ty e i z i.size bytes ht hi hz rfl hby hzs hsz ⟨g, 0, none⟩ n cap xs hown.1 (fun j u hj => by
        rw [Addr.add_mid, Nat.zero_add]
        have hj' : j < n * i.size := by have := (List.getElem?_eq_some_iff.1 hj).1; rw [hown.1] at this; exact this
        rw [← hx, List.getElem?_take_of_lt hj', Array.getElem?_toList] at hj
        simp [World.cell?, hb, hj]) a m c news hl hnews (by omega) h63 hbytes
      rw [hr] at hr2
      injection hr2 with e1 e2
      subst e1
      obtain ⟨g', h4, h5⟩ := fresh h22
      exact ⟨g', h4, .inr h5⟩
theorem ownsRow_later {w w' : World} {base : Nat} {e : TypeId} {size : Nat} {v : Value} {n : Nat} {xs : List Value} (h : w.ownsRow base e size v n xs) (hB : Below w.heap.size w w') : w'.ownsRow base e size v n xs := by
  obtain ⟨h1, h2⟩ := h
  refine ⟨h1, ?_⟩
  rcases h2 with h2 | ⟨g, cap, cur, hv, hg, hh, r⟩
  · exact .inl h2
  · exact .inr ⟨g, cap, cur, hv, hg, by rw [hB.block g (Array.getElem?_eq_some_iff.1 hh).1]; exact hh, r⟩
theorem ownsRow_same {w w' : World} {base : Nat} {e : TypeId} {size : Nat} {v : Value} {n : Nat} {xs : List Value} (h : w.ownsRow base e size v n xs) (hB : ∀ g, v.ownBlock = some g → w'.heap[g]? = w.heap[g]?) : w'.ownsRow base e size v n xs := by
  obtain ⟨h1, h2⟩ := h
  refine ⟨h1, ?_⟩
  rcases h2 with h2 | ⟨g, cap, cur, hv, hg, hh, r⟩
  · exact .inl h2
  · exact .inr ⟨g, cap, cur, hv, hg, by rw [hB g (by rw [hv]; rfl)]; exact hh, r⟩
def SG (w : World) (base : Nat) (G : Nat → Prop) (T : TypeId) (n : Nat) (f : Nat → Nat → D) (k : Nat) (v : Value) : Prop :=
  ∃ xs, w.ownsRow base T n v k xs ∧ ∀ i j, i < k → j < n → ∃ u, xs[i * n + j]? = some u ∧ Rd w (fun c => (v.ownBlock ≠ some c ∧ c < w.heap.size) ∧ G c) (f i j) u
theorem SG.start {w : World} {base : Nat} {G : Nat → Prop} {T : TypeId} {n : Nat} {f : Nat → Nat → D} {g : Nat} (hg : base ≤ g) (hh : w.heap[g]? = some (.cells #[] T)) : SG w base G T n f 0 (.slice (some ⟨g, 0, none⟩) 0 0) :=
  ⟨[], ⟨by simp, .inr ⟨g, 0, #[], rfl, hg, hh, Nat.le_refl _, by unfold maxLen; omega, by simp, by simp⟩⟩, fun i j h => absurd h (by omega)⟩
theorem SG.later {w w' : World} {base : Nat} {G : Nat → Prop} {T : TypeId} {n : Nat} {f : Nat → Nat → D} {k : Nat} {v : Value} (h : SG w base G T n f k v) (hB : Below w.heap.size w w') : SG w' base G T n f k v := by
  obtain ⟨xs, h1, h2⟩ := h
  refine ⟨xs, ownsRow_later h1 hB, fun i j hi hj => ?_⟩
  obtain ⟨u, hu, hr⟩ := h2 i j hi hj
  exact ⟨u, hu, (hr.later hB).mono (fun c hc => ⟨⟨hc.1.1, Nat.lt_of_lt_of_le hc.1.2 hB.size⟩, hc.2⟩)⟩
theorem SG.same {w w' : World} {base : Nat} {G : Nat → Prop} {T : TypeId} {n : Nat} {f : Nat → Nat → D} {k : Nat} {v : Value} (h : SG w base G T n f k v) {p : Nat} (hs : w.heap.size ≤ w'.heap.size) (hB : ∀ c, c ≠ p → w'.heap[c]? = w.heap[c]?) (hv : v.ownBlock ≠ some p) (hG : ∀ c, G c → c ≠ p) : SG w' base G T n f k v := by
  obtain ⟨xs, h1, h2⟩ := h
  refine ⟨xs, ownsRow_same h1 (fun g hg => hB g (by intro e; subst e; exact hv hg)), fun i j hi hj => ?_⟩
  obtain ⟨u, hu, hr⟩ := h2 i j hi hj
  exact ⟨u, hu, Rd.same (fun c hc => hB c (hG c hc.2)) (fun c hc => ⟨⟨hc.1.1, Nat.lt_of_lt_of_le hc.1.2 hs⟩, hc.2⟩) _ _ hr⟩
theorem SG.rd {w : World} {base : Nat} {G : Nat → Prop} {T : TypeId} {n : Nat} {f : Nat → Nat → D} {k : Nat} {v : Value} (h : SG w base G T n f k v) (hn : 0 < n) (hg0 : ∀ g, v.ownBlock = some g → G g) : Rd w (fun c => G c ∧ c < w.heap.size) (.l n k f) v := by
  obtain ⟨xs, h1, h2⟩ := h
  rcases h1.2 with ⟨rfl, rfl⟩ | ⟨g, cap, cur, rfl, hg, hh, r1, r2, r3, r4⟩
  · exact ⟨none, 0, rfl, .inl rfl⟩
  · refine ⟨_, _, rfl, ?_⟩
    by_cases h0 : k = 0
    · exact .inl h0
    · refine .inr ⟨g, 0, rfl, ⟨hg0 g rfl, (Array.getElem?_eq_some_iff.1 hh).1⟩, hn, fun i j hi hj => ?_⟩
      obtain ⟨u, hu, hr⟩ := h2 i j hi hj
      have hlt : i * n + j < k * n := spot_lt hi hj
      refine ⟨u, ?_, hr.mono (fun c hc => ⟨hc.2, hc.1.2⟩)⟩
      rw [← r4, List.getElem?_take_of_lt hlt, Array.getElem?_toList] at hu
      rw [Nat.zero_add]
      simp [World.cell?, hh, hu]
theorem SG.push {P : Program} {w : World} {base : Nat} {G : Nat → Prop} {T : TypeId} {n : Nat} {f : Nat → Nat → D} {k : Nat} {v : Value} (h : SG w base G T n f k v) (t ty : TypeId) (i : TypeInfo) (z : Value) (bytes : Nat) (ht : P.underlying t = some (.slice T)) (hi : P.info? T = some i) (hz : i.zero = some z)
    (hsize : i.size = n) (hby : i.bytes = bytes) (hzs : z.cells.size = n) (hn : 0 < n) (ad : Addr) (c : Nat) (news : List Value) (hl : news.length = n) (hnews : ∀ j u, news[j]? = some u → w.cell? (ad.add j) = some u) (h1 : ∀ u ∈ news, u.oneCell' = true)
    (h63 : k + 1 ≤ maxLen) (hbytes : (k + 1) * bytes ≤ 140737488355328) (hbase : base ≤ w.heap.size) (hrd : ∀ j, j < n → ∃ u, news[j]? = some u ∧ Rd w (fun c => (v.ownBlock ≠ some c ∧ c < w.heap.size) ∧ G c) (f k j) u) :
    ∃ a' c' w', (Builtin.append_ #[t, t] ty #[v, .slice (some ad) 1 c]).run P w = .ok (.slice a' (k + 1) c') w' ∧ SG w' base G T n f (k + 1) (.slice a' (k + 1) c') ∧ w.grownBy w' v.ownBlock ∧ ∃ g, Value.ownBlock (.slice a' (k + 1) c') = some g ∧ (v.ownBlock = some g ∨ w.heap.size ≤ g) := by
  obtain ⟨xs, h2, h3⟩ := h
  obtain ⟨v', w', hr, h4, h5, g, hg, hgg⟩ := run_append_own3 (P := P) w base t ty T i z n bytes ht hi hz hsize hby hzs hn v k xs h2 ad 1 c news (by rw [hl, Nat.one_mul]) hnews h1 h63 hbytes hbase (by omega)
  obtain ⟨a', c', rfl⟩ : ∃ a' c', v' = .slice a' (k + 1) c' := by
    rcases h4.2 with ⟨rfl, h0⟩ | ⟨g, cap, cur, rfl, -⟩
    · omega
    · exact ⟨_, _, rfl⟩
  refine ⟨a', c', w', hr, ⟨xs ++ news, h4, fun q j hq hj => ?_⟩, h5, g, hg, hgg⟩
  have key : ∀ d u, Rd w (fun c => (v.ownBlock ≠ some c ∧ c < w.heap.size) ∧ G c) d u → Rd w' (fun c => (Value.ownBlock (.slice a' (k + 1) c') ≠ some c ∧ c < w'.heap.size) ∧ G c) d u := fun d u hu =>
    Rd.same (fun b hb => h5.block b hb.1.2 (fun e => hb.1.1 e.symm)) (fun b hb => ⟨⟨by
      rw [hg]
      intro e
      simp only [Option.some.injEq] at e
      subst e
      rcases hgg with e | e
      · exact hb.1.1 e
      · have := hb.1.2; omega, Nat.lt_of_lt_of_le hb.1.2 h5.size⟩, hb.2⟩) d u hu
  have hxl : xs.length = k * n := h2.1
  by_cases e : q = k
  · subst e
    obtain ⟨u, hu, hru⟩ := hrd j hj
    refine ⟨u, ?_, key _ _ hru⟩
    rw [List.getElem?_append_right (by omega), hxl, show q * n + j - q * n = j by omega]
    exact hu
  · have hlt : q * n + j < k * n := spot_lt (by omega) hj
    obtain ⟨u, hu, hru⟩ := h3 q j (by omega) hj
    exact ⟨u, by rw [List.getElem?_append_left (by omega)]; exact hu, key _ _ hru⟩
end Go.Proofs.Ytdhlndpobpdfmaa
