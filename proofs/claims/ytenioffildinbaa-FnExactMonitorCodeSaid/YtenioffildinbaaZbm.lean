import Derived.Test.YtenioffildinbaaZbc
import Derived.Test.YtenioffildinbaaZbi
namespace Go.Proofs.Ytenioffildinbaa
open Go.RowKit
set_option linter.unusedSimpArgs false
theorem Rd.tabs {w : World} {B : Nat → Prop} {l : List Tb} {a : Option Addr} {c : Nat} (h : Rd w B (dTableS l) (.slice a l.length c)) : ∃ A, Tabs w B a l A := by
  have hp : ∀ i, ∃ ad : Ad, ∀ hi : i < l.length, ∀ b off, a = some ⟨b, off, none⟩ → (∀ j, j < 4 → w.cell? ⟨b, off + i * 4 + j, none⟩ = some ((tbC l[i] ad).getD j undef)) ∧ l[i].Has w B ad.ca ad.ua := fun i => by
    by_cases hi : i < l.length
    · obtain ⟨b, off, ha, -, hc⟩ := Rd.things (d := dTable) (n := 4) h i hi
      obtain ⟨u0, c0, r0⟩ := hc 0 (by omega)
      obtain rfl : u0 = .string ⟨l[i].nm.toArray⟩ := r0
      obtain ⟨u1, c1, r1⟩ := hc 1 (by omega)
      replace r1 : Rd w B (dColumnS l[i].cols) u1 := r1
      obtain ⟨a1, q1, rfl⟩ := r1.lsSlice
      obtain ⟨u2, c2, r2⟩ := hc 2 (by omega)
      replace r2 : Rd w B (dIntS l[i].uq) u2 := r2
      obtain ⟨a2, q2, rfl⟩ := r2.lsSlice
      obtain ⟨u3, c3, r3⟩ := hc 3 (by omega)
      obtain rfl : u3 = .bool l[i].rt := r3
      refine ⟨⟨a1, q1, a2, q2⟩, fun _ b' off' ha' => ?_⟩
      rw [ha] at ha'
      simp only [Option.some.injEq, Addr.mk.injEq, and_true] at ha'
      obtain ⟨rfl, rfl⟩ := ha'
      refine ⟨fun j hj => ?_, Rd.hasT r1 r2⟩
      rcases (by omega : j = 0 ∨ j = 1 ∨ j = 2 ∨ j = 3) with rfl | rfl | rfl | rfl
      · exact c0
      · exact c1
      · exact c2
      · exact c3
    · exact ⟨⟨none, 0, none, 0⟩, fun hi' => absurd hi' hi⟩
  obtain ⟨A, hA⟩ := Classical.axiomOfChoice hp
  refine ⟨A, ?_, fun i hi => ?_⟩
  · by_cases h0 : l.length = 0
    · exact .inl (by rw [h0])
    obtain ⟨b, off, ha, hb, -⟩ := Rd.things (d := dTable) (n := 4) h 0 (by omega)
    refine .inr ⟨b, off, ha, hb, fun m hm => ?_⟩
    have hi : m / 4 < l.length := by omega
    have h1 := (hA (m / 4) hi b off ha).1 (m % 4) (by omega)
    rw [Nat.add_assoc, Nat.div_add_mod'] at h1
    rw [h1]
    have h2 := tbF_at (l := l) (A := A) hi (show m % 4 < 4 by omega)
    rw [Nat.div_add_mod'] at h2
    rw [h2]
  · obtain ⟨b, off, ha, -, -⟩ := Rd.things (d := dTable) (n := 4) h i hi
    exact (hA i hi b off ha).2
theorem le_tables {l : List Tb} (h : (dTableS l).le maxLen) : TbsOk l := by
  refine ⟨(Ls_le.1 h).2.1, fun t ht => ?_⟩
  obtain ⟨i, hi, rfl⟩ := List.mem_iff_getElem.1 ht
  have hx := (Ls_le.1 h).2.2 i hi
  exact le_table (hx 0 (by omega)) (hx 1 (by omega)) (hx 2 (by omega))
end Go.Proofs.Ytenioffildinbaa
