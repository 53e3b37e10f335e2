import Derived.Test.YtkncpfhblciplaaYbk
namespace Go.Proofs.Ytkncpfhblciplaa
open Go.RowKit
set_option linter.unusedSimpArgs false
def mkT (j : J) (k : Nat) : J := ⟨j.k, j.n, j.t, marks j.keys.length k, mkL j.items (k + j.keys.length)⟩
def mnT (j : J) : Nat := j.keys.length + (j.items.map mn).sum
set_option maxHeartbeats 1600000 in
theorem markJson (j : J) (cs : List Value) (k : Nat) (B : Nat → Prop) (w : World) (h0 : 0 < k) (h1 : k + mnT j < 1000000000000) (hB : ∀ b, B b → b < w.heap.size) (hr : OwnJ w j B cs) :
    Calls Try.prog 13 #[.agg cs.toArray, .int .i64 k] w fun e w' => e = .returned (.int .i64 (k + mnT j : Nat)) ∧ OwnJ w' (mkT j k) B cs ∧ Frm B w w' := by
  unfold mnT at *
  rw [OwnJ_eq] at hr
  obtain ⟨ka, kc, ia, ic, K, I, rfl, ht, hkl, hil, hkx, hks, hK, hI, hjs⟩ := hr
  have HK : Hid (∀ b, K b → B b ∧ ¬ I b) := hK
  have HI : Hid (∀ b, I b → B b) := hI
  have HKS : Hid (OwnStrs w K ka j.keys) := hks
  have HJS : Hid (OwnJsons w I ia j.items) := hjs
  have HT : Hid (j.t.length ≤ maxLen) := ht
  have HB : Hid (∀ b, B b → b < w.heap.size) := hB
  have hkl' : j.keys.length ≤ 9223372036854775807 := hkl
  have hil' : j.items.length ≤ 9223372036854775807 := hil
  clear hK hI hks hjs hkx ht hkl hil hB
  go_enter Try.func13, Try.ntmps13
  go_wp2_with fail
  refine (markStrs j.keys ka kc k K _ hkl' h0 (by omega) (HKS.out.same (fun b hb => Below.heap_alloc _ _ _ (HB.out b (HK.out b hb).1)) (fun _ h => h))).mono ?_
  rintro e w1 ⟨rfl, hO1, hF1⟩
  have hz1 : w.heap.size + 1 ≤ w1.heap.size := by have := hF1.size; simpa using this
  have g1 : w1.heap[w.heap.size]? = some (.cells #[.int .i64 j.k, .int .i64 j.n, .string ⟨j.t.toArray⟩, .slice ka j.keys.length kc, .slice ia j.items.length ic] 28) := by
    rw [hF1.block w.heap.size (by simp) (fun h => Nat.lt_irrefl _ (HB.out _ (HK.out _ h).1))]
    show (w.heap.push _)[w.heap.size]? = _
    simp
  have x4 : w1.cell? ⟨w.heap.size, 4, none⟩ = some (.slice ia j.items.length ic) := by unfold World.cell?; rw [g1]; rfl
  have hsame : ∀ c, c < w.heap.size → ¬ K c → w1.heap[c]? = w.heap[c]? := fun c hc hk => by
    rw [hF1.block c (by simp; omega) hk, Below.heap_alloc _ _ _ hc]
  have hFr : Frm B w w1 := (Frm.of_below ((Below.refl _ _).alloc (Nat.le_refl _) _)).trans (hF1.mono (fun c h => (HK.out c h).1))
  have HO1 : Hid (OwnStrs w1 K ka (marks j.keys.length k)) := hO1
  clear hO1 hF1 g1
  go_wp2_with fail
  refine (markJsons j ia ic (k + j.keys.length) I _ hil' (by omega) (by omega) (HJS.out.same (fun b hb => hsame b (HB.out b (HI.out b hb)) (fun hk => (HK.out b hk).2 hb)) (fun _ h => h))).mono ?_
  rintro e w2 ⟨rfl, hO2, hF2⟩
  have HO2 : Hid (OwnJsons w2 I ia (mkL j.items (k + j.keys.length))) := hO2
  have hFr2 : Frm B w w2 := hFr.trans (hF2.mono (fun c h => HI.out c h))
  have HO3 : Hid (OwnStrs w2 K ka (marks j.keys.length k)) := HO1.out.same (fun c hc => hF2.block c (by have := HB.out c (HK.out c hc).1; omega) (HK.out c hc).2) (fun _ h => h)
  clear hO2 hF2 x4 hsame
  have HE : Hid (k + j.keys.length + (j.items.map mn).sum = k + (j.keys.length + (j.items.map mn).sum)) := by show _ = _; omega
  generalize k + j.keys.length + (j.items.map mn).sum = kn at *
  go_wp2_with fail
  go_ret
  refine ⟨ret_i (by rw [HE.out]), ?_, hFr2⟩
  rw [OwnJ_eq]
  refine ⟨ka, kc, ia, ic, K, I, by simp only [mkT, marks_len, mkL_len], HT.out, by simp only [mkT, marks_len]; exact hkl', by simp only [mkT, mkL_len]; exact hil', fun y hy => ?_, HO3.out, HK.out, HI.out, HO2.out⟩
  simp only [mkT, marks, List.mem_map] at hy
  obtain ⟨i, -, rfl⟩ := hy
  exact mt_len _
end Go.Proofs.Ytkncpfhblciplaa
