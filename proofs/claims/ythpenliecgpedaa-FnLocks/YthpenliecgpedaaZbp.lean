import Derived.Test.YthpenliecgpedaaZbo
namespace Go.Proofs.Ythpenliecgpedaa
open Go.RowKit
set_option linter.unusedSimpArgs false
variable {W W' : World} {p S : Nat} {a : Option Addr} {l : List UInt8} {c m s : Nat}
set_option maxHeartbeats 800000 in
theorem srcNew (W : World) (hS : S ≤ W.heap.size) (hb : Byts W (· < S) a l) :
    Calls Try.prog 20 #[.slice a l.length c] W fun e W' => ∃ s, e = .returned (.pointer (some ⟨W.heap.size, 0, none⟩)) ∧ Src W' W.heap.size S a l c 0 s ∧ Below W.heap.size W W' := by
  obtain ⟨s, hs⟩ : ∃ s : Nat, s = l.length % 1000 := ⟨_, rfl⟩
  have t1 : (l.length : Int).tmod 1000 = (s : Int) := by rw [Int.tmod_eq_emod_of_nonneg (by omega)]; omega
  have t2 : IntKind.i64.wrap (s : Int) = (s : Int) := by rw [IntKind.wrap_i64]; omega
  have t3 : IntKind.i64.wrap ((l.length : Int) % 1000) = (s : Int) := by rw [IntKind.wrap_i64]; omega
  have hB : Below W.heap.size W (W.alloc (.cells #[.slice a l.length c, .int .i64 0, .int .i64 (s : Int)] 65)) := (Below.refl _ _).alloc (Nat.le_refl _) _
  have H : Hid (Src (W.alloc (.cells #[.slice a l.length c, .int .i64 0, .int .i64 (s : Int)] 65)) W.heap.size S a l c 0 s ∧ Below W.heap.size W (W.alloc (.cells #[.slice a l.length c, .int .i64 0, .int .i64 (s : Int)] 65))) := by
    refine ⟨⟨?_, by omega, hb.same (fun b h => hB.block b (by omega)) (fun _ h => h), hS⟩, hB⟩
    show (W.heap.push _)[W.heap.size]? = _
    simp
  clear hs hb hS hB
  go_enter Try.func20, Try.ntmps20
  go_wp2_with fail
  go_ret
  exact ⟨s, rfl, H.out.1, H.out.2⟩
def PickAns (W : World) (p S : Nat) (a : Option Addr) (l : List UInt8) (c m : Nat) (ks : List (List UInt8)) (e : Ending) (W' : World) : Prop := ∃ t s', e = .returned (.string ⟨t.toArray⟩) ∧ t ∈ ks ∧ Src W' p S a l c (m + 1) s' ∧ Frm (· = p) W W'
set_option maxHeartbeats 1600000 in
theorem srcPick (h : Src W p S a l c m s) (hm : m < 1000000) (ks : List (List UInt8)) (B : Nat → Prop) (pk : Option Addr) (ck : Nat) (hk : Strs W B pk ks) (hB : ∀ b, B b → b ≠ p ∧ b < W.heap.size) (h1 : 1 < ks.length) (h2 : ks.length ≤ 256) :
    Calls Try.prog 40 #[.pointer (some ⟨p, 0, none⟩), .slice pk ks.length ck] W (PickAns W p S a l c m ks) := by
  rcases hk with hk | ⟨b, off, rfl, hb, hc⟩
  · omega
  have NX := Lib.hid (srcNext h hm ks.length h1 h2)
  have d1 : ((ks.length : Int) == 0) = false := by rw [beq_eq_false_iff_ne]; omega
  have d2 : (ks.length == 0) = false := by rw [beq_eq_false_iff_ne]; omega
  have HC : Hid (∀ i (hi : i < ks.length), W.cell? ⟨b, off + i, none⟩ = some (.string ⟨ks[i].toArray⟩)) := hc
  have HB := Lib.hid (hB b hb)
  have hne : ks ≠ [] := fun e => by rw [e] at h1; exact absurd h1 (by simp)
  clear h hm h1 h2 hc hB hb
  go_enter Try.func40, Try.ntmps40
  go_wp2_with fail
  refine NX.out.mono ?_
  rintro e w1 ⟨r, s', rfl, hr, hS, hF⟩
  have HS := Lib.hid hS
  have HF := Lib.hid hF
  have hcell : w1.cell? ⟨b, off + r, none⟩ = some (.string ⟨ks[r].toArray⟩) := by
    rw [← HC.out r hr]
    simp [World.cell?, hF.block b HB.out.2 HB.out.1]
  have HM : Hid (ks[r] ∈ ks) := List.getElem_mem hr
  clear hS hF
  generalize ks[r] = t at *
  go_wp2_with fail
  go_ret
  exact ⟨t, s', rfl, HM.out, HS.out, HF.out⟩
end Go.Proofs.Ythpenliecgpedaa
