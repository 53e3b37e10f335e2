import Derived.Test.YtlkkmafnjdbofaaDNew
import Derived.Test.YtlkkmafnjdbofaaDBr
import Derived.Test.YtlkkmafnjdbofaaSLaw
namespace Go.Proofs.Ytlkkmafnjdbofaa
open Go.RowKit
set_option linter.unusedSimpArgs false
theorem Rd.tabs {w : World} {B : Nat → Prop} {l : List Tb} {a : Option Addr} {c : Nat} (h : Rd w B (dTableS l) (.slice a l.length c)) : ∃ A, Tabs w B a l A := by
  have hp : ∀ i, ∃ ad : Ad, ∀ hi : i < l.length, ∀ b off, a = some ⟨b, off, none⟩ → (∀ j, j < 4 → w.cell? ⟨b, off + i * 4 + j, none⟩ = some ((tbC l[i] ad).getD j undef)) ∧ l[i].Has w B ad.ca ad.ua := fun i => by
    by_cases hi : i < l.length
    · obtain ⟨b, off, ha, -, hc⟩ := Rd.things (d := dTable) (n := 4) h i hi
      obtain ⟨u0, c0, r0⟩ := hc 0 (by omega)
      obtain rfl : u0 = .string ⟨l[i].nm.toArray⟩ := r0
      obtain ⟨u1, c1, r1⟩ := hc 1 (by omega)
      replace r1 : Rd w B (dColumnS l[i].cols) u1 := r1
      obtain ⟨a1, q1, rfl⟩ := r1.lsSlice
      obtain ⟨u2, c2, r2⟩ := hc 2 (by omega)
      replace r2 : Rd w B (dIntS l[i].uq) u2 := r2
      obtain ⟨a2, q2, rfl⟩ := r2.lsSlice
      obtain ⟨u3, c3, r3⟩ := hc 3 (by omega)
      obtain rfl : u3 = .bool l[i].rt := r3
      refine ⟨⟨a1, q1, a2, q2⟩, fun _ b' off' ha' => ?_⟩
      rw [ha] at ha'
      simp only [Option.some.injEq, Addr.mk.injEq, and_true] at ha'
      obtain ⟨rfl, rfl⟩ := ha'
      refine ⟨fun j hj => ?_, Rd.hasT r1 r2⟩
      rcases (by omega : j = 0 ∨ j = 1 ∨ j = 2 ∨ j = 3) with rfl | rfl | rfl | rfl
      · exact c0
      · exact c1
      · exact c2
      · exact c3
    · exact ⟨⟨none, 0, none, 0⟩, fun hi' => absurd hi' hi⟩
  obtain ⟨A, hA⟩ := Classical.axiomOfChoice hp
  refine ⟨A, ?_, fun i hi => ?_⟩
  · by_cases h0 : l.length = 0
    · exact .inl (by rw [h0])
    obtain ⟨b, off, ha, hb, -⟩ := Rd.things (d := dTable) (n := 4) h 0 (by omega)
    refine .inr ⟨b, off, ha, hb, fun m hm => ?_⟩
    have hi : m / 4 < l.length := by omega
    have h1 := (hA (m / 4) hi b off ha).1 (m % 4) (by omega)
    rw [Nat.add_assoc, Nat.div_add_mod'] at h1
    rw [h1]
    have h2 := tbF_at (l := l) (A := A) hi (show m % 4 < 4 by omega)
    rw [Nat.div_add_mod'] at h2
    rw [h2]
  · obtain ⟨b, off, ha, -, -⟩ := Rd.things (d := dTable) (n := 4) h i hi
    exact (hA i hi b off ha).2
theorem le_tables {l : List Tb} (h : (dTableS l).le maxLen) : TbsOk l := by
  refine ⟨(Ls_le.1 h).2.1, fun t ht => ?_⟩
  obtain ⟨i, hi, rfl⟩ := List.mem_iff_getElem.1 ht
  have hx := (Ls_le.1 h).2.2 i hi
  exact le_table (hx 0 (by omega)) (hx 1 (by omega)) (hx 2 (by omega))
noncomputable def newP (l : List Tb) : Int × StV := if schB l = true then (0, ⟨noRows l.length, 1⟩) else (1, ⟨[], 0⟩)
def NwAns (w : World) (l : List Tb) (e : Ending) (w' : World) : Prop := ∃ (ra : Option Addr) (rc : Nat), e = .returned (.tuple #[.agg #[.slice ra (newP l).2.tables.length rc, .int .i64 (newP l).2.next], .int .i64 (newP l).1]) ∧ Rd w' (· < w'.heap.size) (dRowSS (newP l).2.tables) (.slice ra (newP l).2.tables.length rc) ∧ Below w.heap.size w w'
theorem new_le {l : List Tb} (hl : l.length ≤ 1048576) : (∀ j, j < 2 → (dStore (newP l).2 j).le maxLen) ∧ (dRowSS (newP l).2.tables).sz ≤ 100000000 := by
  have key : ∀ m, m ≤ 1048576 → (dRowSS (noRows m)).le maxLen ∧ (dRowSS (noRows m)).sz ≤ 100000000 := fun m hm => by
    have h0 : ∀ i (h : i < (noRows m).length), (noRows m)[i] = [] := fun i h => by simp [noRows]
    constructor
    · refine Ls_le.2 ⟨by omega, by rw [noRows_len]; unfold maxLen; omega, fun i hi j _ => ?_⟩
      rw [h0 i hi]
      exact Ls_le.2 ⟨by omega, by simp, fun i h => absurd h (by simp)⟩
    · show (Ls 1 cRowS (noRows m)).sz ≤ _
      rw [Ls_sz, noRows_len]
      have : szL 1 cRowS (noRows m) m = 0 := by
        unfold szL
        rw [sumN_congr (h := fun _ => 0) (fun i hi => by rw [lsF_at (by rw [noRows_len]; exact hi), h0 i (by rw [noRows_len]; exact hi)]; rfl)]
        have := sumN_lin 0 0 (fun _ => 0) m
        simpa using this
      omega
  have two : ∀ (x : StV), (dRowSS x.tables).le maxLen → iOK x.next → ∀ j, j < 2 → (dStore x j).le maxLen := fun x h1 h2 j hj => by
    rcases (by omega : j = 0 ∨ j = 1) with rfl | rfl
    · exact h1
    · exact h2
  unfold newP
  split
  · exact ⟨two _ (key _ hl).1 (by decide : (Lit.int .i64 1).wf = true), (key _ hl).2⟩
  · exact ⟨two _ (key 0 (by omega)).1 (by decide : (Lit.int .i64 0).wf = true), (key 0 (by omega)).2⟩
def NiAns (w : World) (l : List Tb) (e : Ending) (w' : World) : Prop := ∃ (ra : Option Addr) (rc : Nat), e = .returned (.tuple #[.agg #[.slice ra (newP l).2.tables.length rc, .int .i64 (newP l).2.next], .int .i64 (newP l).1]) ∧ Own w' (dRowSS (newP l).2.tables) (fun c => w.heap.size ≤ c ∧ c < w'.heap.size) (.slice ra (newP l).2.tables.length rc) ∧ Below w.heap.size w w'
theorem own_made (w : World) (m : Nat) : Own (w.alloc (.cells (madeCells #[.slice none 0 0] m) 49)) (dRowSS (noRows m)) (fun c => w.heap.size ≤ c ∧ c < w.heap.size + 1) (.slice (some ⟨w.heap.size, 0, none⟩) m m) := by
  have e : dRowSS (noRows m) = .l 1 m (lsF cRowS (noRows m)) := by unfold dRowSS Ls; rw [noRows_len]
  rw [e]
  have hr := World.rowIs_made w (.slice none 0 0) m 49
  refine OwnR.own (off := 0) (X := fun _ _ _ => False) ⟨⟨Nat.le_refl _, by omega⟩, by omega, fun _ _ _ h => h.elim, fun _ _ _ _ _ h => h.elim, fun i j hi hj => ?_⟩ m
  obtain rfl : j = 0 := by omega
  refine ⟨.slice none 0 0, by rw [Nat.mul_one, Nat.zero_add, Nat.add_zero]; exact hr.cell hi, by rw [Nat.mul_one, Nat.zero_add, Nat.add_zero]; exact hr.frozen _, ?_⟩
  rw [lsF_at (by rw [noRows_len]; exact hi)]
  have h0 : (noRows m)[i]'(by rw [noRows_len]; exact hi) = [] := by simp [noRows]
  rw [h0]
  exact ⟨none, 0, rfl, .inl rfl⟩
end Go.Proofs.Ytlkkmafnjdbofaa
