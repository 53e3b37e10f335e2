import Derived.Test.YtnkgojjgiemgmaaZas
namespace Go.Proofs.Ytnkgojjgiemgmaa
open Go.RowKit
set_option linter.unusedSimpArgs false
theorem SG.cap {w : World} {base : Nat} {G : Nat → Prop} {T : TypeId} {n : Nat} {f : Nat → Nat → D} {k : Nat} {a : Option Addr} {c : Nat} (h : SG w base G T n f k (.slice a k c)) : k ≤ c := by
  obtain ⟨xs, h1, -⟩ := h
  rcases h1.2 with ⟨e, h0⟩ | ⟨g2, cap, cur, e, hb, hh, hn, -⟩
  · omega
  · simp only [Value.slice.injEq, true_and] at e
    obtain ⟨-, rfl⟩ := e
    exact hn
theorem SG.blk {w : World} {base : Nat} {G : Nat → Prop} {T : TypeId} {n : Nat} {f : Nat → Nat → D} {k : Nat} {a : Option Addr} {c : Nat} (h : SG w base G T n f k (.slice a k c)) (hb : ∃ g, Value.ownBlock (.slice a k c) = some g) : ∃ g, a = some ⟨g, 0, none⟩ := by
  obtain ⟨xs, h1, -⟩ := h
  obtain ⟨g, hg⟩ := hb
  rcases h1.2 with ⟨e, -⟩ | ⟨g2, cap, cur, e, -⟩
  · rw [e] at hg; cases hg
  · simp only [Value.slice.injEq, true_and] at e
    exact ⟨g2, e.1⟩
theorem SG.pushN {P : Program} {w : World} {base : Nat} {G : Nat → Prop} {T : TypeId} {n : Nat} {f : Nat → Nat → D} {k : Nat} {v : Value} (h : SG w base G T n f k v) (hv : ∃ g, v.ownBlock = some g) (t ty : TypeId) (i : TypeInfo) (z : Value) (bytes : Nat) (ht : P.underlying t = some (.slice T)) (hi : P.info? T = some i) (hz : i.zero = some z)
    (hsize : i.size = n) (hby : i.bytes = bytes) (hzs : z.cells.size = n) (hn : 0 < n) (ad : Addr) (m c : Nat) (news : List Value) (hl : news.length = m * n) (hnews : ∀ j u, news[j]? = some u → w.cell? (ad.add j) = some u) (h1 : ∀ u ∈ news, u.oneCell' = true)
    (h63 : k + m ≤ maxLen) (hbytes : (k + m) * bytes ≤ 140737488355328) (hbase : base ≤ w.heap.size) (hrd : ∀ i j, i < m → j < n → ∃ u, news[i * n + j]? = some u ∧ Rd w (fun c => (v.ownBlock ≠ some c ∧ c < w.heap.size) ∧ G c) (f (k + i) j) u) :
    ∃ a' c' w', (Builtin.append_ #[t, t] ty #[v, .slice (some ad) m c]).run P w = .ok (.slice a' (k + m) c') w' ∧ SG w' base G T n f (k + m) (.slice a' (k + m) c') ∧ w.grownBy w' v.ownBlock ∧ ∃ g, Value.ownBlock (.slice a' (k + m) c') = some g ∧ (v.ownBlock = some g ∨ w.heap.size ≤ g) := by
  obtain ⟨xs, h2, h3⟩ := h
  by_cases hm : 0 < m
  · obtain ⟨v', w', hr, h4, h5, g, hg, hgg⟩ := run_append_own3 (P := P) w base t ty T i z n bytes ht hi hz hsize hby hzs hn v k xs h2 ad m c news hl hnews h1 h63 hbytes hbase hm
    obtain ⟨a', c', rfl⟩ : ∃ a' c', v' = .slice a' (k + m) c' := by
      rcases h4.2 with ⟨rfl, h0⟩ | ⟨g, cap, cur, rfl, -⟩
      · omega
      · exact ⟨_, _, rfl⟩
    refine ⟨a', c', w', hr, ⟨xs ++ news, h4, fun q j hq hj => ?_⟩, h5, g, hg, hgg⟩
    have key : ∀ d u, Rd w (fun c => (v.ownBlock ≠ some c ∧ c < w.heap.size) ∧ G c) d u → Rd w' (fun c => (Value.ownBlock (.slice a' (k + m) c') ≠ some c ∧ c < w'.heap.size) ∧ G c) d u := fun d u hu =>
      Rd.same (fun b hb => h5.block b hb.1.2 (fun e => hb.1.1 e.symm)) (fun b hb => ⟨⟨by
        rw [hg]
        intro e
        simp only [Option.some.injEq] at e
        subst e
        rcases hgg with e | e
        · exact hb.1.1 e
        · have := hb.1.2; omega, Nat.lt_of_lt_of_le hb.1.2 h5.size⟩, hb.2⟩) d u hu
    have hxl : xs.length = k * n := h2.1
    by_cases e : q < k
    · have hlt : q * n + j < k * n := spot_lt e hj
      obtain ⟨u, hu, hru⟩ := h3 q j e hj
      exact ⟨u, by rw [List.getElem?_append_left (by omega)]; exact hu, key _ _ hru⟩
    · obtain ⟨r, rfl⟩ : ∃ r, q = k + r := ⟨q - k, by omega⟩
      obtain ⟨u, hu, hru⟩ := hrd r j (by omega) hj
      refine ⟨u, ?_, key _ _ hru⟩
      rw [Nat.add_mul, List.getElem?_append_right (by omega), hxl, show k * n + r * n + j - k * n = r * n + j by omega]
      exact hu
  · obtain rfl : m = 0 := by omega
    obtain rfl : news = [] := List.length_eq_zero_iff.1 (by rw [hl]; simp)
    have h2' := h2
    obtain ⟨gv, hgv⟩ := hv
    rcases h2'.2 with ⟨rfl, -⟩ | ⟨g, cap, cur, rfl, hg, hb, hkc, hcap, hcs, hx⟩
    · cases hgv
    · subst hsize
      have hr2 := run_append_room_cells (P := P) w t ty T i ht hi g 0 k cap ad 0 c [] (by simp) (fun j u hj => by simp at hj) (fun u hu => by simp at hu) (by omega) (fun j hj => by simp at hj) (fun j hj => by simp at hj)
      refine ⟨some ⟨g, 0, none⟩, cap, _, hr2, ?_, ?_, g, rfl, .inl rfl⟩
      · exact ⟨xs, h2, h3⟩
      · exact ⟨rfl, rfl, rfl, Nat.le_refl _, fun _ _ _ => rfl⟩
end Go.Proofs.Ytnkgojjgiemgmaa
