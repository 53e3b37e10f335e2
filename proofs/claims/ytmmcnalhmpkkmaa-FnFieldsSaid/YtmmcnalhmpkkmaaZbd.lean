import Derived.Test.YtmmcnalhmpkkmaaZad
import Derived.Test.YtmmcnalhmpkkmaaZbc
import Derived.Deep.RegionLaw
import Derived.Lib.LazyBuf
namespace Go.Proofs.Ytmmcnalhmpkkmaa
open Go.RowKit
set_option linter.unusedSimpArgs false
theorem info9' : ∃ i, Try.prog.info? 9 = some i ∧ i.zero = some (.string ⟨#[]⟩) ∧ i.size = 1 ∧ i.bytes = 16 := by
  obtain ⟨i, hi, hzz⟩ := Option.map_eq_some_iff.1 info9
  simp only [Prod.mk.injEq] at hzz
  exact ⟨i, hi, hzz⟩
theorem infoJ : ∃ i, Try.prog.info? 26 = some i ∧ i.zero = some (.agg zero5) ∧ i.size = 5 ∧ i.bytes = 80 := by
  obtain ⟨i, hi, hzz⟩ := Option.map_eq_some_iff.1 info30
  simp only [Prod.mk.injEq] at hzz
  exact ⟨i, hi, hzz⟩
theorem eql_nil (w : World) (b off l c : Nat) : (binOp .eql 23 (.slice (some ⟨b, off, none⟩) l c) (.slice none 0 0)).run Try.prog w = .ok (.bool false) w := by
  have h : ∀ d : Nat, (Op.equalIn (d + 1) 23 (.slice (some ⟨b, off, none⟩) l c) (.slice none 0 0)).run Try.prog w = .ok false w := fun d => by
    simp [Op.equalIn, run_underlying Try.underlying23]
  simp only [binOp]
  simp [Op.equal, Op.maxDepth, h 9999]
theorem own_empty (w : World) (e : TypeId) (size : Nat) : (w.alloc (.cells #[] e)).ownsRow w.heap.size e size (.slice (some ⟨w.heap.size, 0, none⟩) 0 0) 0 [] :=
  ⟨by simp, .inr ⟨w.heap.size, 0, #[], rfl, Nat.le_refl _, by show (w.heap.push _)[w.heap.size]? = _; simp, Nat.le_refl _, by unfold maxLen; omega, by simp, by simp⟩⟩
theorem news_of {w : World} {keys : List (List UInt8)} {b off : Nat} {o : Obj} (hc : ∀ i (h : i < keys.length), w.cell? ⟨b, off + i, none⟩ = some (.string ⟨keys[i].toArray⟩)) :
    ∀ j u, (keys.map fun x => Value.string ⟨x.toArray⟩)[j]? = some u → (w.alloc o).cell? ((⟨b, off, none⟩ : Addr).add j) = some u := fun j u hj => by
  rw [List.getElem?_map, Option.map_eq_some_iff] at hj
  obtain ⟨x, hx, rfl⟩ := hj
  obtain ⟨hlt, rfl⟩ := List.getElem?_eq_some_iff.1 hx
  rw [Addr.add_mid, World.cell?_of_block (w := w) (a := ⟨b, off + j, none⟩) (Below.heap_alloc _ _ _ (World.block_lt_of_cell? _ _ (hc j hlt)))]
  exact hc j hlt
theorem own_strs {w : World} {base : Nat} {v : Value} {keys : List (List UInt8)} (h : w.ownsRow base 9 1 v keys.length (keys.map fun x => .string ⟨x.toArray⟩)) :
    ∃ a' c', v = .slice a' keys.length c' ∧ OwnStrs w (fun b => base ≤ b ∧ b < w.heap.size) a' keys := by
  obtain ⟨-, h⟩ := h
  rcases h with ⟨rfl, h0⟩ | ⟨g, cap, cur, rfl, hg, hb, hn, -, hsz, hx⟩
  · exact ⟨none, 0, by rw [h0], .inl h0⟩
  · refine ⟨_, _, rfl, .inr ⟨g, 0, rfl, ⟨hg, (Array.getElem?_eq_some_iff.1 hb).1⟩, fun i hi => ⟨?_, ?_⟩⟩⟩
    · have e : cur[0 + i]? = some (.string ⟨keys[i].toArray⟩) := by
        rw [Nat.zero_add, ← Array.getElem?_toList]
        have h1 := congrArg (·[i]?) hx
        simp only [List.getElem?_map, List.getElem?_eq_getElem hi, Option.map_some] at h1
        rw [List.getElem?_take_of_lt (by omega)] at h1
        exact h1
      rw [Nat.zero_add] at e
      simp [World.cell?, hb, e]
    · simp [World.frozen?, hb]
set_option maxHeartbeats 800000 in
theorem clone (keys : List (List UInt8)) (b off c : Nat) (w : World) (hl : keys.length ≤ 1048576) (h0 : 0 < keys.length) (hc : ∀ i (h : i < keys.length), w.cell? ⟨b, off + i, none⟩ = some (.string ⟨keys[i].toArray⟩)) :
    Calls Try.prog 21 #[.slice (some ⟨b, off, none⟩) keys.length c] w fun e w' => ∃ a' c', e = .returned (.slice a' keys.length c') ∧ OwnStrs w' (fun b => w.heap.size ≤ b ∧ b < w'.heap.size) a' keys ∧ Below w.heap.size w w' := by
  obtain ⟨i9, hi9, hz9, hs9, hb9⟩ := info9'
  have HI9 : Hid (Try.prog.info? 9 = some i9 ∧ i9.zero = some (.string ⟨#[]⟩) ∧ i9.size = 1 ∧ i9.bytes = 16) := ⟨hi9, hz9, hs9, hb9⟩
  have HC : Hid (∀ i (h : i < keys.length), w.cell? ⟨b, off + i, none⟩ = some (.string ⟨keys[i].toArray⟩)) := hc
  clear hi9 hz9 hs9 hb9 hc
  have hnil := fun wx => eql_nil wx b off keys.length c
  go_enter Try.func21, Try.ntmps21
  go_wp2_with (at_builtin; go_must (refine wpList_append_own _ rfl (.tmp 5) (.tmp 6) 23 rfl w.heap.size 9 i9 (.string ⟨#[]⟩) 1 16 Try.underlying23 HI9.out.1 HI9.out.2.1 HI9.out.2.2.1 HI9.out.2.2.2 rfl (Nat.lt_succ_self 0) (.slice (some ⟨w.heap.size, 0, none⟩) 0 0) 0 [] rfl ?own ⟨b, off, none⟩ keys.length c (keys.map fun x => .string ⟨x.toArray⟩) rfl ?len ?news ?one ?h63 ?hby ?hba ?go))
  case own => exact own_empty w 9 1
  case len => simp
  case news => exact news_of HC.out
  case one => intro u hu; obtain ⟨x, -, rfl⟩ := List.mem_map.1 hu; rfl
  case h63 => unfold maxLen; omega
  case hby => omega
  case hba => simp
  case go =>
    intro v' w1 hown hgr _
    obtain ⟨a', c', rfl, hO⟩ := own_strs hown
    have hB : Below w.heap.size w w1 := ((Below.refl _ _).alloc (Nat.le_refl _) _).trans ⟨hgr.os, hgr.tape, hgr.output, hgr.size, fun k hk => hgr.block k (by simp; omega) (by simp [Value.ownBlock]; omega)⟩
    clear hown hgr hnil
    have HO : Hid (OwnStrs w1 (fun b => w.heap.size ≤ b ∧ b < w1.heap.size) a' keys) := hO
    clear hO
    go_wp2_with fail
    go_ret
    exact ⟨a', c', rfl, HO.out, hB⟩
end Go.Proofs.Ytmmcnalhmpkkmaa
