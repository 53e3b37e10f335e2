import Derived.Test.YtnkgojjgiemgmaaZau
import Derived.Test.YtnkgojjgiemgmaaZaw
import Derived.Test.YtnkgojjgiemgmaaZax
namespace Go.Proofs.Ytnkgojjgiemgmaa
open Go.RowKit
set_option linter.unusedSimpArgs false
theorem SG.convI {w : World} {base : Nat} {G G' : Nat → Prop} {T : TypeId} {n : Nat} {f f' : Nat → Nat → D} {k : Nat} {v : Value} (h : SG w base G T n f k v) (hf : ∀ i j, i < k → f' i j = f i j) (hG : ∀ c, c < w.heap.size → G c → G' c) : SG w base G' T n f' k v := by
  obtain ⟨xs, h1, h2⟩ := h
  refine ⟨xs, h1, fun i j hi hj => ?_⟩
  obtain ⟨u, hu, hr⟩ := h2 i j hi hj
  exact ⟨u, hu, by rw [hf i j hi]; exact hr.mono (fun c hc => ⟨hc.1, hG c hc.1.2 hc.2⟩)⟩
structure IH (w W : World) (F : List Int) (v : Value) : Prop where
  gr : SG W w.heap.size (fun _ => True) 3 1 (fun i _ => .i (F.getD i 0)) F.length v
  bel : Below w.heap.size w W
  own : ∃ g, v.ownBlock = some g ∧ w.heap.size ≤ g
theorem IH.later {w W W' : World} {F : List Int} {v : Value} (h : IH w W F v) (hB : Below W.heap.size W W') : IH w W' F v := ⟨h.gr.later hB, h.bel.trans (hB.mono h.bel.size), h.own⟩
theorem IH.new {w W : World} (h : Below w.heap.size w W) : IH w (W.alloc (.cells #[] 3)) [] (.slice (some ⟨W.heap.size, 0, none⟩) 0 0) :=
  ⟨SG.start h.size (heap_newD _ _), h.alloc h.size _, ⟨W.heap.size, rfl, h.size⟩⟩
theorem getD_app {F G : List Int} {i : Nat} (h : i < F.length) : (F ++ G).getD i 0 = F.getD i 0 := by
  rw [List.getD_eq_getElem?_getD, List.getD_eq_getElem?_getD, List.getElem?_append_left h]
theorem getD_app2 {F G : List Int} {i : Nat} : (F ++ G).getD (F.length + i) 0 = G.getD i 0 := by
  rw [List.getD_eq_getElem?_getD, List.getD_eq_getElem?_getD, List.getElem?_append_right (by omega)]
  congr 2
  omega
theorem IH.app {w W : World} {F : List Int} {v : Value} (h : IH w W F v) (ty : TypeId) (G : List Int) (ad : Addr) (c : Nat) (hc : ∀ j, j < G.length → W.cell? (ad.add j) = some (.int .i64 (G.getD j 0))) (hl : (F ++ G).length ≤ 8000000) :
    ∃ a' c' W', (Builtin.append_ #[46, 46] ty #[v, .slice (some ad) G.length c]).run Try.prog W = .ok (.slice a' (F ++ G).length c') W' ∧ IH w W' (F ++ G) (.slice a' (F ++ G).length c') ∧ (∀ b o, W.heap[b]? = some o → v.ownBlock ≠ some b → W'.heap[b]? = some o) := by
  obtain ⟨iI, hi1, hi2, hi3, hi4⟩ := infoIntN
  rw [List.length_append] at hl
  have hgr : SG W w.heap.size (fun _ => True) 3 1 (fun i _ => .i ((F ++ G).getD i 0)) F.length v := SG.convI h.gr (fun i j hi => by rw [getD_app hi]) (fun _ _ h => h)
  obtain ⟨g, hg, hgl⟩ := h.own
  obtain ⟨a', c', W', hr, hs, hgb, g', hg', hgg⟩ := hgr.pushN (P := Try.prog) ⟨g, hg⟩ 46 ty iI (.int .i64 0) 8 Try.underlying46 hi1 hi2 hi3 hi4 rfl (by omega) ad G.length c ((List.range G.length).map (fun j => .int .i64 (G.getD j 0))) (by simp) (fun j u hj => by
      rw [List.getElem?_map, Option.map_eq_some_iff] at hj
      obtain ⟨m, hm, rfl⟩ := hj
      obtain ⟨hlt, rfl⟩ := List.getElem?_eq_some_iff.1 hm
      simp only [List.length_range] at hlt
      simp only [List.getElem_range]
      exact hc j hlt) (fun u hu => by
      simp only [List.mem_map, List.mem_range] at hu
      obtain ⟨m, -, rfl⟩ := hu
      rfl) (by unfold maxLen; omega) (by omega) h.bel.size (fun i j hi hj => by
      obtain rfl : j = 0 := by omega
      refine ⟨.int .i64 (G.getD i 0), by simp [hi], ?_⟩
      show Rd _ _ (.i ((F ++ G).getD (F.length + i) 0)) _
      rw [getD_app2]; rfl)
  rw [← List.length_append] at hr hs hg'
  refine ⟨a', c', W', hr, ⟨hs, below_grown h.bel hgb (fun d e => by rw [hg] at e; cases e; exact hgl) h.bel.size, ⟨g', hg', ?_⟩⟩, fun b o hb hne => ?_⟩
  · rcases hgg with e | e
    · rw [hg] at e; cases e; exact hgl
    · exact Nat.le_trans h.bel.size e
  · rw [hgb.block b (Array.getElem?_eq_some_iff.1 hb).1 (fun e => hne e.symm)]; exact hb
end Go.Proofs.Ytnkgojjgiemgmaa
