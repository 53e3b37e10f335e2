import Derived.Test.YtdhlndpobpdfmaaZbn
import Derived.Test.YtdhlndpobpdfmaaZbp
namespace Go.Proofs.Ytdhlndpobpdfmaa
open Go.RowKit
set_option linter.unusedSimpArgs false
theorem choose_tabs {n : Nat} {P : Nat → Tab3 → Prop} (h : ∀ j, j < n → ∃ T, P j T) : ∃ F : Nat → Tab3, ∀ j, j < n → P j (F j) :=
  ⟨fun j => if h' : j < n then (h j h').choose else ⟨0, 0, []⟩, fun j h' => by simp only [dif_pos h']; exact (h j h').choose_spec⟩
theorem MSt.of {W : World} {x : StV} {q lo : Nat} (ho : (dRowSS x.tables).le 1048576) (hT : TS W 73 1 x.tables.length (lsF cRowS x.tables) q x.tables.length) (hx : ∀ j (h : j < x.tables.length), ∃ p g, q < p ∧ W.cell? ⟨q, j, none⟩ = some (.slice (some ⟨p, 0, none⟩) x.tables[j].length x.tables[j].length) ∧ W.rowIs p 53 (x.tables[j].length * 2) g) (hq : lo ≤ q) :
    ∃ Ts, stOf Ts x.next = x ∧ MSt (W.alloc (.cells #[.slice (some ⟨q, 0, none⟩) x.tables.length x.tables.length, .int .i64 x.next] 30)) lo W.heap.size q Ts x.next ∧ Ts.length = x.tables.length := by
  obtain ⟨g, hrow⟩ := hT.row
  rw [Nat.mul_one] at hrow
  have hql : q < W.heap.size := by obtain ⟨c, h1, -⟩ := hrow; exact (Array.getElem?_eq_some_iff.1 h1).1
  have hO := TS.done (by omega) hT
  obtain ⟨X, hXB, hXd, hXo⟩ : ∃ X : Nat → Nat → Prop, (∀ i c, X i c → (q ≤ c ∧ c < W.heap.size) ∧ c ≠ q) ∧ (∀ i j c, X i c → X j c → i = j) ∧ ∀ i (h : i < x.tables.length), ∃ u, W.cell? ⟨q, i, none⟩ = some u ∧ Own W (dRowS x.tables[i]) (X i) u := by
    obtain ⟨a, c, e, h⟩ := hO
    rcases h with h | ⟨b, off, X, ha, hB, hn, hX, hd, hc⟩
    · exact ⟨fun _ _ => False, fun _ _ h => h.elim, fun _ _ _ h => h.elim, fun i hi => absurd hi (by omega)⟩
    · simp only [Value.slice.injEq, true_and] at e
      obtain ⟨rfl, rfl⟩ := e
      simp only [Option.some.injEq, Addr.mk.injEq, and_true] at ha
      obtain ⟨rfl, rfl⟩ := ha
      refine ⟨fun i c => X i 0 c, fun i c h => hX _ _ _ h, fun i j c h h' => (hd _ _ _ _ _ h h').1, fun i hi => ?_⟩
      obtain ⟨u, h1, -, h3⟩ := hc i 0 hi (by omega)
      rw [Nat.zero_add, Nat.mul_one, Nat.add_zero] at h1
      rw [lsF_at hi] at h3
      exact ⟨u, h1, h3⟩
  obtain ⟨F, hF⟩ := choose_tabs (n := x.tables.length) (P := fun j T => ∃ h : j < x.tables.length, W.cell? ⟨q, j, none⟩ = some T.v ∧ T.rows = x.tables[j] ∧ TabW W T ∧ ∀ c, T.bl c → X j c) (fun j hj => by
    obtain ⟨p, g', -, hc, hr⟩ := hx j hj
    obtain ⟨u, hu, hou⟩ := hXo j hj
    rw [hc] at hu
    simp only [Option.some.injEq] at hu
    subst hu
    have hl : x.tables[j].length ≤ maxLen := by have := (Ls_le.1 ((Ls_le.1 ho).2.2 j hj 0 (by omega))).2.1; unfold maxLen; omega
    obtain ⟨T, h1, h2, h3, h4⟩ := tab_of hou hr hl (fun c hc => (hXB j c hc).1.2)
    exact ⟨T, hj, by rw [h1]; exact hc, h2, h3, h4⟩)
  obtain ⟨Ts, hTs⟩ : ∃ Ts, Ts = (List.range x.tables.length).map F := ⟨_, rfl⟩
  have hlen : Ts.length = x.tables.length := by rw [hTs]; simp
  have hat : ∀ i (h : i < Ts.length), Ts[i] = F i := fun i h => by simp [hTs]
  have hB := below_allocD W (.cells #[.slice (some ⟨q, 0, none⟩) x.tables.length x.tables.length, .int .i64 x.next] 30)
  refine ⟨Ts, ?_, ⟨?_, ?_, fun i hi => ?_, fun i j hi hj hne c h1 h2 => ?_, fun i hi => ⟨fun h => ?_, fun h => ?_⟩, by omega, by omega, hq, fun i hi c h => ?_⟩, hlen⟩
  · obtain ⟨tables, next⟩ := x
    unfold stOf
    congr 1
    refine List.ext_getElem (by simpa using hlen) (fun i h1 h2 => ?_)
    rw [List.getElem_map, hat]
    obtain ⟨_, -, h, -⟩ := hF i (by simpa using h2)
    exact h
  · rw [hlen]; exact heap_newD _ _
  · rw [hB.block q hql]
    obtain ⟨c, h1, h2, h3⟩ := hrow
    rw [h1]
    congr 2
    apply Array.ext'
    refine List.ext_getElem? (fun i => ?_)
    rw [List.toList_toArray, Array.getElem?_toList]
    by_cases hi : i < x.tables.length
    · rw [h3 i hi, List.getElem?_map, List.getElem?_eq_getElem (by omega)]
      obtain ⟨_, h4, -⟩ := hF i hi
      have h5 : W.cell? ⟨q, i, none⟩ = c[i]? := by simp [World.cell?, h1]
      rw [h5, h3 i hi] at h4
      simp only [Option.some.injEq] at h4
      rw [Option.map_some, hat, h4]
    · rw [List.getElem?_eq_none (by rw [List.length_map]; omega), Array.getElem?_eq_none (by omega)]
  · rw [hat]
    obtain ⟨_, -, -, h3, -⟩ := hF i (by omega)
    exact h3.same hB.size (fun c hc => hB.block c (h3.lt c hc))
  · rw [hat] at h1 h2
    obtain ⟨_, -, -, -, h5⟩ := hF i (by omega)
    obtain ⟨_, -, -, -, h6⟩ := hF j (by omega)
    exact hne (hXd i j c (h5 c h1) (h6 c h2))
  · rw [hat] at h
    obtain ⟨_, -, -, -, h5⟩ := hF i (by omega)
    exact (hXB i _ (h5 _ h)).2 rfl
  · rw [hat] at h
    obtain ⟨_, -, -, -, h5⟩ := hF i (by omega)
    have := (hXB i _ (h5 _ h)).1.2
    omega
  · rw [hat] at h
    obtain ⟨_, -, -, -, h5⟩ := hF i (by omega)
    have := (hXB i _ (h5 _ h)).1.1
    omega
set_option maxRecDepth 100000 in
set_option maxHeartbeats 6400000 in
theorem chCodeI (x : StV) (list : List ChV) (a : Option Addr) (c : Nat) (la : Option Addr) (lc : Nat) (B : Nat → Prop) (w : World) (hl : list.length ≤ 1048576) (hx : (dRowSS x.tables).le maxLen) (rx : Rd w B (dRowSS x.tables) (.slice a x.tables.length c)) :
    Calls Try.prog 24 #[.agg #[.slice a x.tables.length c, .int .i64 x.next], .slice la list.length lc] w fun e w' => e = .returned (.int .i64 (acC x list)) ∧ Below w.heap.size w w' := by
  have K0 : Hid (∀ W, BoxD 30 w W #[.slice a x.tables.length c, .int .i64 x.next] → Calls Try.prog 46 #[.agg #[.slice a x.tables.length c, .int .i64 x.next]] W fun e w' => e = .returned (.bool (plainB x)) ∧ BoxD 30 w w' #[.slice a x.tables.length c, .int .i64 x.next]) := fun W h => (idsRiseI x a c B W hx (rx.later h.2)).mono (fun e w' ⟨he, hB⟩ => ⟨he, h.later hB⟩)
  have HB0 := Lib.hid (boxD 30 w #[.slice a x.tables.length c, .int .i64 x.next])
  clear hx rx
  have x0 := cell_at (o := 0) HB0.out.1 rfl
  have x1 := cell_at (o := 1) HB0.out.1 rfl
  by_cases h : 4096 < list.length
  case pos =>
    have HR := Lib.hid (ac_long (x := x) h)
    have hg : decide ((list.length : Int) > 4096) = true := by simp; omega
    clear h
    go_enter Try.func24, Try.ntmps24
    go_wp2_with fail
    go_ret
    exact ⟨ret_i HR.out.symm, HB0.out.2⟩
  have hg : decide ((list.length : Int) > 4096) = false := by simp; omega
  cases h2 : plainB x
  case false =>
    have HR := Lib.hid (ac_bad h h2)
    rw [h2] at K0
    clear h h2
    go_enter Try.func24, Try.ntmps24
    go_wp2_with fail
    refine (K0.out _ HB0.out).mono ?_
    rintro e w1 ⟨rfl, hb⟩
    have HB1 := Lib.hid hb
    clear hb x0 x1
    go_wp2_with fail
    go_ret
    exact ⟨ret_i HR.out.symm, HB1.out.2⟩
  have HR := Lib.hid (ac_ok h h2)
  rw [h2] at K0
  clear h h2
  go_enter Try.func24, Try.ntmps24
  go_wp2_with fail
  refine (K0.out _ HB0.out).mono ?_
  rintro e w1 ⟨rfl, hb⟩
  have HB1 := Lib.hid hb
  clear hb x0 x1
  go_wp2_with fail
  go_ret
  exact ⟨ret_i HR.out.symm, HB1.out.2⟩
end Go.Proofs.Ytdhlndpobpdfmaa
