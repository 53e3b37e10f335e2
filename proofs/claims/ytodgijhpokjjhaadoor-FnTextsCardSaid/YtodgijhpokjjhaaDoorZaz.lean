import Derived.Test.YtodgijhpokjjhaaDoorZar
namespace Go.Proofs.YtodgijhpokjjhaaDoor
open Go.RowKit
set_option linter.unusedSimpArgs false
def DrawnV (w : World) (e : Ending) (w' : World) : Prop := ∃ (j : J) (ka : Option Addr) (kc : Nat) (ia : Option Addr) (ic n : Nat), e = .returned (.agg #[.int .i64 j.k, .int .i64 j.n, .string ⟨j.t.toArray⟩, .slice ka j.keys.length kc, .slice ia j.items.length ic]) ∧ cnt 4 j = some n ∧ n ≤ 85 ∧ Small j ∧
    RJ w' (· < w'.heap.size) j [.int .i64 j.k, .int .i64 j.n, .string ⟨j.t.toArray⟩, .slice ka j.keys.length kc, .slice ia j.items.length ic] ∧ Below w.heap.size w w'
theorem srcJson3 {p S : Nat} {a : Option Addr} {l : List UInt8} {c : Nat} : SrcJ p S a l c 3 := srcJsonS 2 (srcJsonS 1 (srcJsonS 0 srcJson0))
set_option maxRecDepth 100000 in
set_option maxHeartbeats 1600000 in
theorem jsonDrawnS (l : List UInt8) (a : Option Addr) (c S : Nat) (w : World) (hS : S ≤ w.heap.size) (hb : Byts w (· < S) a l) :
    Calls Tryd.prog 5 #[.slice a l.length c] w (DrawnV w) := by
  have hA : Below w.heap.size w (w.alloc (.cells #[.int .i64 0, .int .i64 0, .string ⟨#[]⟩, .slice none 0 0, .slice none 0 0] 28)) := below_allocD _ _
  have hsz : (w.alloc (.cells #[.int .i64 0, .int .i64 0, .string ⟨#[]⟩, .slice none 0 0, .slice none 0 0] 28)).heap.size = w.heap.size + 1 := size_allocD _ _
  have NW0 := (srcNew (c := c) (S := S) (l := l) (a := a) (w.alloc (.cells #[.int .i64 0, .int .i64 0, .string ⟨#[]⟩, .slice none 0 0, .slice none 0 0] 28)) (Nat.le_trans hS hA.size) (hb.same (fun b hb' => hA.block b (by omega)) (fun _ h => h)))
  rw [hsz] at NW0
  have NW := Lib.hid NW0
  have HA := Lib.hid hA
  have HX : Hid ((w.alloc (.cells #[.int .i64 0, .int .i64 0, .string ⟨#[]⟩, .slice none 0 0, .slice none 0 0] 28)).heap[w.heap.size]? = some (.cells #[.int .i64 0, .int .i64 0, .string ⟨#[]⟩, .slice none 0 0, .slice none 0 0] 28)) := heap_newD _ _
  have HSZ := Lib.hid hsz
  clear hA hS hb hsz NW0
  go_enter Tryd.func5, Tryd.ntmps5
  go_wp2_with fail
  refine NW.out.mono ?_
  rintro e w1 ⟨s, rfl, hs, hB1⟩
  have JS : Hid (Calls Tryd.prog 11 #[.pointer (some ⟨w.heap.size + 1, 0, none⟩), .int .i64 3] w1 (JsonV w1 (w.heap.size + 1) S a l c 0 3)) := srcJson3 w1 0 s hs (by simp [kd])
  have HB1 := Lib.hid hB1
  have HX1 := Lib.hid (show w1.heap[w.heap.size]? = some (.cells #[.int .i64 0, .int .i64 0, .string ⟨#[]⟩, .slice none 0 0, .slice none 0 0] 28) from by rw [hB1.block w.heap.size (by omega)]; exact HX.out)
  clear hs hB1 NW
  go_wp2_with fail
  refine JS.out.mono ?_
  rintro e w2 ⟨j, ka, kc, ia, ic, n, m', s', rfl, h1, h2, hsm, h3, h4, -, -, hF⟩
  have hb2 : Below (w.heap.size + 1) w1 w2 := hF.below (by have := HB1.out.size; rw [HSZ.out] at this; exact this) (fun b hb e => by have e' : b = w.heap.size + 1 := e; omega)
  have hbx : w2.heap[w.heap.size]? = some (.cells #[.int .i64 0, .int .i64 0, .string ⟨#[]⟩, .slice none 0 0, .slice none 0 0] 28) := by rw [hb2.block w.heap.size (by omega)]; exact HX1.out
  have HN : Hid (cnt 4 j = some n ∧ n ≤ 85) := ⟨h1, h2⟩
  have HSM := Lib.hid hsm
  have HR3 := Lib.hid (And.intro h3 h4)
  have HB2 := Lib.hid hb2
  have HW1 : Hid (w.heap.size + 1 ≤ w1.heap.size) := by have := HB1.out.size; rw [HSZ.out] at this; exact this
  have z0 := frozen_at 0 hbx
  have c0 : w2.cell? ⟨w.heap.size, 0, none⟩ = some (.int .i64 0) := cell_at (o := 0) hbx rfl
  have z1 := frozen_at 1 hbx
  have c1 : w2.cell? ⟨w.heap.size, 1, none⟩ = some (.int .i64 0) := cell_at (o := 1) hbx rfl
  have z2 := frozen_at 2 hbx
  have c2 : w2.cell? ⟨w.heap.size, 2, none⟩ = some (.string ⟨#[]⟩) := cell_at (o := 2) hbx rfl
  have z3 := frozen_at 3 hbx
  have c3 : w2.cell? ⟨w.heap.size, 3, none⟩ = some (.slice none 0 0) := cell_at (o := 3) hbx rfl
  have z4 := frozen_at 4 hbx
  have c4 : w2.cell? ⟨w.heap.size, 4, none⟩ = some (.slice none 0 0) := cell_at (o := 4) hbx rfl
  clear h1 h2 h3 h4 hF hb2 hbx JS hsm
  go_wp2_with fail
  refine bodyPost_ret (v := .agg #[.int .i64 j.k, .int .i64 j.n, .string ⟨j.t.toArray⟩, .slice ka j.keys.length kc, .slice ia j.items.length ic]) (by simp [results, Tryd.results5, go_sem, c0, c1, c2, c3, c4]) rfl ?_
  have hF5 := frm5 w2 w.heap.size (.int .i64 j.k) (.int .i64 j.n) (.string ⟨j.t.toArray⟩) (.slice ka j.keys.length kc) (.slice ia j.items.length ic)
  have hBw : Below w.heap.size w w2 := (HA.out.trans (HB1.out.mono (by omega))).trans (HB2.out.mono (by omega))
  have hlo : ∀ b, w1.heap.size ≤ b ∧ b < w2.heap.size → ¬ b = w.heap.size := fun b hb e => by have := HW1.out; omega
  refine ⟨j, ka, kc, ia, ic, n, rfl, HN.out.1, HN.out.2, HSM.out, rj_of j 4 n _ HN.out.1 (by have := HN.out.2; omega) rfl (fun o ho => ?_), hBw.trans (hF5.below hBw.size (fun b hb e => by have e' : b = w.heap.size := e; omega))⟩
  rcases (by omega : o = 0 ∨ o = 1 ∨ o = 2 ∨ o = 3 ∨ o = 4) with rfl | rfl | rfl | rfl | rfl
  · exact ⟨_, rfl, by rw [dJ_0]; rfl⟩
  · exact ⟨_, rfl, by rw [dJ_1]; rfl⟩
  · exact ⟨_, rfl, by rw [dJ_2]; rfl⟩
  · exact ⟨_, rfl, by rw [dJ_3]; exact (HR3.out.1.frm hF5 (fun b hb e => hlo b hb e)).lt⟩
  · exact ⟨_, rfl, by rw [dJ_4]; exact (HR3.out.2.frm hF5 (fun b hb e => hlo b hb e)).lt⟩
end Go.Proofs.YtodgijhpokjjhaaDoor
