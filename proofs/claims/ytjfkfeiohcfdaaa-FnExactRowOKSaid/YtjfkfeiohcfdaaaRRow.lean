import Derived.Test.YtjfkfeiohcfdaaaRCp
namespace Go.Proofs.Ytjfkfeiohcfdaaa
open Go.RowKit
set_option linter.unusedSimpArgs false
set_option maxRecDepth 100000 in
set_option maxHeartbeats 3200000 in
theorem toRow (id : Int) (l : List (List At)) (a : Option Addr) (c : Nat) (X0 : Nat → AdS) (S : Nat) (w : World) (hw : S ≤ w.heap.size) (hl : l.length ≤ 1048576) (hx : ∀ s ∈ l, s.length ≤ 1048576) (hS : Sets w (· < S) a l X0) :
    Calls Try.prog 18 #[.agg #[.int .i64 id, .slice a l.length c]] w fun e w' => ∃ q X, e = .returned (.agg #[.int .i64 id, .slice (some ⟨q, 0, none⟩) l.length l.length]) ∧ w.heap.size ≤ q ∧ Sets w' (fun b => q ≤ b ∧ b < w'.heap.size) (some ⟨q, 0, none⟩) l X ∧ Below w.heap.size w w' := by
  have al : ∀ (V : World) (o : Obj), Below V.heap.size V (V.alloc o) := fun V o => (Below.refl _ _).alloc (Nat.le_refl _) _
  have sz : ∀ (V : World) (o : Obj), (V.alloc o).heap.size = V.heap.size + 1 := fun V o => by simp
  obtain ⟨V, hV⟩ : ∃ V, V = ((w.alloc (.cells #[.int .i64 id, .slice a l.length c] 46)).alloc (.cells #[.int .i64 0, .slice none 0 0] 56)).alloc (.cells #[.int .i64 id, .slice none 0 0] 56) := ⟨_, rfl⟩
  have hb : Below w.heap.size w V := by rw [hV]; exact (((al _ _).trans ((al _ _).mono (by rw [sz]; omega))).trans ((al _ _).mono (by rw [sz, sz]; omega)))
  have hvs : V.heap.size = w.heap.size + 1 + 1 + 1 := by rw [hV, sz, sz, sz]
  have h1 : V.heap[w.heap.size + 1]? = some (.cells #[.int .i64 0, .slice none 0 0] 56) := by
    have h := heap_keptC (heap_newC (w.alloc (.cells #[.int .i64 id, .slice a l.length c] 46)) (.cells #[.int .i64 0, .slice none 0 0] 56)) (al _ (.cells #[.int .i64 id, .slice none 0 0] 56))
    rw [sz] at h
    rw [hV]; exact h
  have h2 : V.heap[w.heap.size + 1 + 1]? = some (.cells #[.int .i64 id, .slice none 0 0] 56) := by
    have h := heap_newC ((w.alloc (.cells #[.int .i64 id, .slice a l.length c] 46)).alloc (.cells #[.int .i64 0, .slice none 0 0] 56)) (.cells #[.int .i64 id, .slice none 0 0] 56)
    rw [sz, sz] at h
    rw [hV]; exact h
  have TT := Lib.hid (toSets l a c X0 S V (by omega) hl hx (hS.same (fun b hb' => hb.block b (by omega)) (fun _ h => h)))
  have HV := Lib.hid hV
  have M0 := Lib.hid (And.intro hb (And.intro hvs (And.intro h1 h2)))
  clear hl hx hS hb h1 h2 al sz hvs hV hw
  go_enter Try.func18, Try.ntmps18
  go_wp2_with fail
  rw [← HV.out]
  refine TT.out.mono ?_
  rintro e w1 ⟨X, rfl, hT, hB1⟩
  have r0 := cell_at (o := 0) (heap_keptC M0.out.2.2.1 hB1) rfl
  have r1 := cell_at (o := 1) (heap_keptC M0.out.2.2.1 hB1) rfl
  have g0 := frozen_at 0 (heap_keptC M0.out.2.2.1 hB1)
  have g1 := frozen_at 1 (heap_keptC M0.out.2.2.1 hB1)
  have x0 := cell_at (o := 0) (heap_keptC M0.out.2.2.2 hB1) rfl
  have x1 := cell_at (o := 1) (heap_keptC M0.out.2.2.2 hB1) rfl
  have z1 := frozen_at 1 (heap_keptC M0.out.2.2.2 hB1)
  have HT := Lib.hid hT
  have HB := Lib.hid (And.intro (M0.out.1.trans (hB1.mono M0.out.1.size)) hB1.size)
  clear hT hB1 TT
  generalize V.heap.size = q at *
  go_wp2_with fail
  refine bodyPost_ret (v := .agg #[.int .i64 id, .slice (some ⟨q, 0, none⟩) l.length l.length]) (by simp [results, Try.results18, go_sem, *]) rfl ?_
  have hq := M0.out.2.1
  refine ⟨q, X, rfl, by omega, ?_, ?_⟩
  · refine HT.out.same (fun b hb => ?_) (fun b hb => by simpa using hb)
    iterate 3 rw [Below.heap_setCell _ _ _ _ (by simp; omega)]
  · exact ((HB.out.1.setCell (by simp <;> omega) _).setCell (by simp <;> omega) _).setCell (by simp <;> omega) _
end Go.Proofs.Ytjfkfeiohcfdaaa
