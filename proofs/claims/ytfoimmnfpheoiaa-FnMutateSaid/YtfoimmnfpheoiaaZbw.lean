import Derived.Test.YtfoimmnfpheoiaaZbq
import Derived.Test.YtfoimmnfpheoiaaZbv
namespace Go.Proofs.Ytfoimmnfpheoiaa
open Go.RowKit
set_option linter.unusedSimpArgs false
def colT : Cl := ⟨[99], 2, 0, 8, 0, 0, [], false⟩
def colN : Cl := ⟨[110], 1, 0, 1, -5000, 5000, [], false⟩
theorem colT_ok : colB colT = true := by decide
theorem colN_ok : colB colN = true := by decide
theorem Drn.dk {L : List At} (h : Drn 2 L) : Dk 2 L := h
theorem fitT {L : List At} (h : Dk 2 L) (h8 : L.length ≤ 8) : fitC colT L = 0 := by
  refine fit0 h.first ?_ (fun k hk => rfl)
  show inB 0 L.length 8 = true
  unfold inB
  exact decide_eq_true (by omega)
theorem fitN {n : Int} (h : -5000 ≤ n ∧ n ≤ 5000) : fitC colN [⟨1, n, []⟩] = 0 := by
  refine fit0 (fun h => h.2 rfl) rfl (fun k hk => ?_)
  have : k = 0 := by simpa using hk
  subst this
  show ((1 : Int) == 1 && !(inB (-5000) n 5000)) = false
  unfold inB
  rw [decide_eq_true h]; rfl
theorem dkN {n : Int} (h : -1000000000 ≤ n ∧ n ≤ 1000000000) : Dk 1 [⟨1, n, []⟩] := by
  refine ⟨List.pairwise_singleton _ _, fun y hy => ?_⟩
  obtain rfl := List.mem_singleton.1 hy
  refine ⟨rfl, ?_⟩
  rw [atOK1 rfl]
  unfold inB
  rw [decide_eq_true h]; rfl
theorem kindT {B : List At} (h : Dk 2 B) : kindNo 2 B = false := by
  cases B with
  | nil => rfl
  | cons x l =>
    show (x.k != 2) = false
    rw [(h.2 x (by simp)).1]; rfl
theorem mutB_of {f : Int} {k : Int} {B : List At} (hf : 1 ≤ f ∧ f ≤ 7) (h : Dk k B) (h8 : B.length ≤ 8) : mutB ⟨[], f, B⟩ = true := by
  unfold mutB inB
  simp only [Bool.and_eq_true, decide_eq_true_eq]
  exact ⟨hf, h.datum h8, by simp⟩
theorem mtB_T {X B : List At} {f : Int} (hf : 1 ≤ f ∧ f ≤ 7) (hX : Dk 2 X) (h8 : X.length ≤ 8) (hB : Dk 2 B) (hb8 : B.length ≤ 8) : mtB colT X ⟨[], f, B⟩ :=
  ⟨colT_ok, hX.datum h8, fitT hX h8, mutB_of hf hB hb8⟩
theorem mt_ins {A B : List At} (hA : Drn 2 A) (hB : Drn 2 B) (h1 : A.length ≤ 4) (h2 : B.length ≤ 4) : mtL colT A ⟨[], 6, B⟩ = joinR A B ∧ mtC colT A ⟨[], 6, B⟩ = 0 := by
  obtain ⟨e1, -, e8⟩ := join_drn hA hB h1 h2
  have h := mt_ok (x := colT) (d := A) (c := ⟨[], 6, B⟩) (by omega) (mtB_T (by omega) hA.dk (by omega) hB.dk (by omega)) (mutK_ok (kindT hB.dk) (by show ¬ (6 : Int) ≤ 5; omega))
  have hm : mutP colT A ⟨[], 6, B⟩ = (0, joinL A B) := mutP_fit (by unfold mutL; rw [if_pos rfl]) (fitT (hA.join hB).dk e8)
  rw [h.1, h.2, hm, e1]
  exact ⟨rfl, rfl⟩
theorem mt_del {A B : List At} (hA : Drn 2 A) (hB : Drn 2 B) (h1 : A.length ≤ 4) (h2 : B.length ≤ 4) : mtL colT (joinR A B) ⟨[], 7, B⟩ = lessL A B ∧ mtC colT (joinR A B) ⟨[], 7, B⟩ = 0 := by
  obtain ⟨e1, -, e8⟩ := join_drn hA hB h1 h2
  obtain ⟨e4, -⟩ := less_drn hA hB (by omega) (by omega)
  rw [e1, e4]
  have hJ := hA.join hB
  have h := mt_ok (x := colT) (d := joinL A B) (c := ⟨[], 7, B⟩) (by omega) (mtB_T (by omega) hJ.dk e8 hB.dk (by omega)) (mutK_ok (kindT hB.dk) (by show ¬ (7 : Int) ≤ 5; omega))
  have hl := minus_len' (joinL A B) B
  have hm : mutP colT (joinL A B) ⟨[], 7, B⟩ = (0, minusA (joinL A B) B) := mutP_fit (by unfold mutL; rw [if_neg (by show ¬ (7 : Int) = 6; omega), if_pos rfl]) (fitT (hJ.minus B).dk (by omega))
  rw [h.1, h.2, hm, minus_join hA.1 B]
  exact ⟨rfl, rfl⟩
theorem numA_one (f b a : Int) : numA f b [⟨1, a, []⟩] = [⟨1, numR f a b, []⟩] := by
  show putL [] ⟨1, numR f a b, []⟩ = _
  unfold putL
  rw [if_neg (by simp [hasB])]
  simp
theorem mtB_N {a b f : Int} (hf : 1 ≤ f ∧ f ≤ 7) (ha : -5000 ≤ a ∧ a ≤ 5000) (hb : -1000000000 ≤ b ∧ b ≤ 1000000000) : mtB colN [⟨1, a, []⟩] ⟨[], f, [⟨1, b, []⟩]⟩ :=
  ⟨colN_ok, (dkN (by omega)).datum (by simp), fitN ha, mutB_of hf (dkN hb) (by simp)⟩
theorem mt_num {a b f : Int} (hf : 1 ≤ f ∧ f ≤ 5) (ha : -5000 ≤ a ∧ a ≤ 5000) (hb : 1 ≤ b ∧ b ≤ 5000) (hr : -5000 ≤ numR f a b ∧ numR f a b ≤ 5000) : mtL colN [⟨1, a, []⟩] ⟨[], f, [⟨1, b, []⟩]⟩ = [⟨1, numR f a b, []⟩] ∧ mtC colN [⟨1, a, []⟩] ⟨[], f, [⟨1, b, []⟩]⟩ = 0 := by
  have h := mt_ok (x := colN) (d := [⟨1, a, []⟩]) (c := ⟨[], f, [⟨1, b, []⟩]⟩) (by simp) (mtB_N (by omega) ha (by omega)) (mutK_yes rfl rfl rfl)
  have hk : numK f a b = true := by
    unfold numK cantB inB
    rw [show (b == 0) = false by rw [beq_eq_false_iff_ne]; omega, Bool.and_false, decide_eq_true (by omega)]; rfl
  have hm : mutP colN [⟨1, a, []⟩] ⟨[], f, [⟨1, b, []⟩]⟩ = (0, [⟨1, numR f a b, []⟩]) := by
    refine mutP_fit ?_ (fitN hr)
    unfold mutL
    rw [if_neg (by show ¬ f = 6; omega), if_neg (by show ¬ f = 7; omega)]
    show (if numO f b [⟨1, a, []⟩] = true then some (numA f b [⟨1, a, []⟩]) else none) = _
    rw [if_pos (by unfold numO; simp [hk]), numA_one]
  rw [h.1, h.2, hm]
  exact ⟨rfl, rfl⟩
theorem mt_zero {a : Int} (ha : -5000 ≤ a ∧ a ≤ 5000) : mtL colN [⟨1, a, []⟩] ⟨[], 4, [⟨1, 0, []⟩]⟩ = [] ∧ mtC colN [⟨1, a, []⟩] ⟨[], 4, [⟨1, 0, []⟩]⟩ = 4 := by
  have h := mt_ok (x := colN) (d := [⟨1, a, []⟩]) (c := ⟨[], 4, [⟨1, 0, []⟩]⟩) (by simp) (mtB_N (by omega) ha (by omega)) (mutK_yes rfl rfl rfl)
  have hm : mutP colN [⟨1, a, []⟩] ⟨[], 4, [⟨1, 0, []⟩]⟩ = (4, []) := by
    refine mutP_none ?_
    unfold mutL
    rw [if_neg (by show ¬ (4 : Int) = 6; omega), if_neg (by show ¬ (4 : Int) = 7; omega)]
    show (if numO 4 0 [⟨1, a, []⟩] = true then some (numA 4 0 [⟨1, a, []⟩]) else none) = _
    rw [if_neg (by unfold numO numK cantB; simp)]
  rw [h.1, h.2, hm]
  exact ⟨rfl, rfl⟩
theorem quo_rest {a b : Int} (ha : -1000 ≤ a ∧ a ≤ 1000) (hb : 1 ≤ b ∧ b ≤ 900) : (-1000 ≤ a.tdiv b ∧ a.tdiv b ≤ 1000) ∧ (-900 < a.tmod b ∧ a.tmod b < 900) ∧ a.tdiv b * b + a.tmod b = a ∧ (-2000 ≤ a.tdiv b * b ∧ a.tdiv b * b ≤ 2000) := by
  have e : a.tdiv b * b + a.tmod b = a := by rw [Int.mul_comm]; exact Int.mul_tdiv_add_tmod a b
  have hm : -900 < a.tmod b ∧ a.tmod b < 900 := by
    rcases Int.le_total 0 a with h | h
    · rw [Int.tmod_eq_emod_of_nonneg h]
      have h1 := Int.emod_nonneg a (show b ≠ 0 by omega)
      have h2 := Int.emod_lt_of_pos a (show 0 < b by omega)
      omega
    · have : a.tmod b = -((-a).tmod b) := by rw [Int.neg_tmod]; omega
      rw [this, Int.tmod_eq_emod_of_nonneg (by omega)]
      have h1 := Int.emod_nonneg (-a) (show b ≠ 0 by omega)
      have h2 := Int.emod_lt_of_pos (-a) (show 0 < b by omega)
      omega
  have hd : -1000 ≤ a.tdiv b ∧ a.tdiv b ≤ 1000 := by
    rcases Int.le_total 0 a with h | h
    · rw [Int.tdiv_eq_ediv_of_nonneg h]
      have h1 := Int.ediv_nonneg h (show 0 ≤ b by omega)
      have h2 := Int.ediv_le_self b h
      omega
    · have : a.tdiv b = -((-a).tdiv b) := by rw [Int.neg_tdiv]; omega
      rw [this, Int.tdiv_eq_ediv_of_nonneg (by omega)]
      have h1 := Int.ediv_nonneg (show 0 ≤ -a by omega) (show 0 ≤ b by omega)
      have h2 := Int.ediv_le_self b (show 0 ≤ -a by omega)
      omega
  exact ⟨hd, hm, e, by omega⟩
theorem ats_one {W : World} {b : Nat} {n : Int} {ty : TypeId} (h : W.heap[b]? = some (.cells #[.int .i64 1, .int .i64 n, .string ⟨#[]⟩] ty)) : Ats W (· < W.heap.size) (some ⟨b, 0, none⟩) [⟨1, n, []⟩] := by
  refine .inr ⟨b, 0, rfl, (Array.getElem?_eq_some_iff.1 h).1, fun m hm => ?_⟩
  have hm : m < 3 := by simpa using hm
  rw [Nat.zero_add]
  rcases (by omega : m = 0 ∨ m = 1 ∨ m = 2) with rfl | rfl | rfl
  · exact cell_at (o := 0) h rfl
  · exact cell_at (o := 1) h rfl
  · exact cell_at (o := 2) h rfl
theorem one_ats {W : World} {B : Nat → Prop} {q : Option Addr} {x : At} (h : Ats W B q [x]) : ∃ b off, q = some ⟨b, off, none⟩ ∧ W.cell? ⟨b, off + 1, none⟩ = some (.int .i64 x.n) := by
  obtain ⟨b, off, e, -, -, h1, -⟩ := h.item 0 (by simp)
  exact ⟨b, off, e, by simpa using h1⟩
end Go.Proofs.Ytfoimmnfpheoiaa
