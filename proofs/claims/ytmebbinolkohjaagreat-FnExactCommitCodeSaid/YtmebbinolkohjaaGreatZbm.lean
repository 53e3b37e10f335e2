import Derived.Test.YtmebbinolkohjaaGreatZbc
import Derived.Test.YtmebbinolkohjaaGreatZbd
import Derived.Test.YtmebbinolkohjaaGreatZbl
namespace Go.Proofs.YtmebbinolkohjaaGreat
open Go.RowKit
set_option linter.unusedSimpArgs false
theorem cell_keptS {w w' : World} {b o : Nat} {v : Value} (h : w.cell? ⟨b, o, none⟩ = some v) (hB : Below w.heap.size w w') : w'.cell? ⟨b, o, none⟩ = some v := (hB.cell (p := ⟨b, o, none⟩) (World.block_lt_of_cell? _ _ h)).trans h
theorem tabsAt {w : World} {B : Nat → Prop} {l : List (List RowV)} {xa : Option Addr} {xc i : Nat} (h : Rd w B (dRowSS l) (.slice xa l.length xc)) (hi : i < l.length) : ∃ xb xo ra rq, xa = some ⟨xb, xo, none⟩ ∧ ∀ W, Below w.heap.size w W → W.cell? ⟨xb, xo + i, none⟩ = some (.slice ra l[i].length rq) ∧ Rd W B (dRowS l[i]) (.slice ra l[i].length rq) := by
  obtain ⟨b, off, rfl, -, hd⟩ := Rd.things (d := cRowS) (n := 1) h i hi
  obtain ⟨u, q0, r0⟩ := hd 0 (by omega)
  replace r0 : Rd w B (dRowS l[i]) u := r0
  obtain ⟨ra, rq, rfl⟩ := r0.lsSlice
  rw [Nat.mul_one, Nat.add_zero] at q0
  exact ⟨b, off, ra, rq, rfl, fun W hB => ⟨cell_keptS q0 hB, r0.later hB⟩⟩
theorem rowsAt {w : World} {B : Nat → Prop} {l : List RowV} {ra : Option Addr} {rq k : Nat} (h : Rd w B (dRowS l) (.slice ra l.length rq)) (hk : k < l.length) : ∃ rb ro ca cq, ra = some ⟨rb, ro, none⟩ ∧ ∀ W, Below w.heap.size w W → W.cell? ⟨rb, ro + k * 2, none⟩ = some (.int .i64 l[k].id) ∧ W.cell? ⟨rb, ro + k * 2 + 1, none⟩ = some (.slice ca l[k].cells.length cq) ∧ Rd W B (dAtomSS l[k].cells) (.slice ca l[k].cells.length cq) := by
  obtain ⟨b, off, rfl, -, hd⟩ := Rd.things (d := dRow) (n := 2) h k hk
  obtain ⟨u0, q0, r0⟩ := hd 0 (by omega)
  obtain rfl : u0 = .int .i64 l[k].id := r0
  rw [Nat.add_zero] at q0
  obtain ⟨u1, q1, r1⟩ := hd 1 (by omega)
  replace r1 : Rd w B (dAtomSS l[k].cells) u1 := r1
  obtain ⟨ca, cq, rfl⟩ := r1.lsSlice
  exact ⟨b, off, ca, cq, rfl, fun W hB => ⟨cell_keptS q0 hB, cell_keptS q1 hB, r1.later hB⟩⟩
theorem cellsAt {w : World} {B : Nat → Prop} {l : List (List At)} {ca : Option Addr} {cq c : Nat} (h : Rd w B (dAtomSS l) (.slice ca l.length cq)) (hc : c < l.length) : ∃ cb co da dq, ca = some ⟨cb, co, none⟩ ∧ ∀ W, Below w.heap.size w W → W.cell? ⟨cb, co + c, none⟩ = some (.slice da l[c].length dq) ∧ Rd W B (dAtomS l[c]) (.slice da l[c].length dq) := by
  obtain ⟨b, off, rfl, -, hd⟩ := Rd.things (d := cAtomS) (n := 1) h c hc
  obtain ⟨u, q0, r0⟩ := hd 0 (by omega)
  replace r0 : Rd w B (dAtomS l[c]) u := r0
  obtain ⟨da, dq, rfl⟩ := r0.lsSlice
  rw [Nat.mul_one, Nat.add_zero] at q0
  exact ⟨b, off, da, dq, rfl, fun W hB => ⟨cell_keptS q0 hB, r0.later hB⟩⟩
theorem tblAt {w : World} {A : Nat → Prop} {l : List Tb} {sa : Option Addr} {sc i : Nat} (h : Rd w A (dTableS l) (.slice sa l.length sc)) (hi : i < l.length) : ∃ tq tf ca cc ua uc, sa = some ⟨tq, tf, none⟩ ∧ ∀ W, Below w.heap.size w W → W.cell? ⟨tq, tf + i * 4, none⟩ = some (.string ⟨l[i].nm.toArray⟩) ∧ W.cell? ⟨tq, tf + i * 4 + 1, none⟩ = some (.slice ca l[i].cols.length cc) ∧ W.cell? ⟨tq, tf + i * 4 + 2, none⟩ = some (.slice ua l[i].uq.length uc) ∧ W.cell? ⟨tq, tf + i * 4 + 3, none⟩ = some (.bool l[i].rt) ∧ Rd W A (dColumnS l[i].cols) (.slice ca l[i].cols.length cc) ∧ Rd W A (dIntS l[i].uq) (.slice ua l[i].uq.length uc) := by
  obtain ⟨b, off, rfl, -, hd⟩ := Rd.things (d := dTable) (n := 4) h i hi
  obtain ⟨u0, q0, r0⟩ := hd 0 (by omega)
  obtain rfl : u0 = .string ⟨l[i].nm.toArray⟩ := r0
  rw [Nat.add_zero] at q0
  obtain ⟨u1, q1, r1⟩ := hd 1 (by omega)
  replace r1 : Rd w A (dColumnS l[i].cols) u1 := r1
  obtain ⟨ca, cc, rfl⟩ := r1.lsSlice
  obtain ⟨u2, q2, r2⟩ := hd 2 (by omega)
  replace r2 : Rd w A (dIntS l[i].uq) u2 := r2
  obtain ⟨ua, uc, rfl⟩ := r2.lsSlice
  obtain ⟨u3, q3, r3⟩ := hd 3 (by omega)
  obtain rfl : u3 = .bool l[i].rt := r3
  exact ⟨b, off, ca, cc, ua, uc, rfl, fun W hB => ⟨cell_keptS q0 hB, cell_keptS q1 hB, cell_keptS q2 hB, cell_keptS q3 hB, r1.later hB, r2.later hB⟩⟩
end Go.Proofs.YtmebbinolkohjaaGreat
