import Derived.Test.YthdppchlnjnloaaQai
import Derived.Test.YthdppchlnjnloaaQaa
import Derived.Deep.RegionLaw
import Derived.Deep.RegionWith
import Derived.BigQuiet
import Derived.Lib.Hide
import Derived.Test.YthdppchlnjnloaaQab
namespace Go.Proofs.Ythdppchlnjnloaa
open Go.RowKit
set_option linter.unusedSimpArgs false
/-- what the law holds in memory: the specification's answer A, the argument's copy X, the answer G -/
structure MemA (w W : World) (l A X G : List At) (pa pw px pg : Option Addr) (s1 s2 s3 : Nat) : Prop where
  arg : Ats w (· < w.heap.size) pa l
  bel : Below w.heap.size w W
  rw_ : Ats W (· < s1) pw A
  ox : OwnAts W (fun b => s1 ≤ b ∧ b < s2) px X
  og : OwnAts W (fun b => s2 ≤ b ∧ b < s3) pg G
  ord : w.heap.size ≤ s1 ∧ s1 ≤ s2 ∧ s2 ≤ s3 ∧ s3 ≤ W.heap.size
variable {w W W' : World} {l A X G : List At} {pa pw px pg : Option Addr} {s1 s2 s3 : Nat}
theorem MemA.now (h : MemA w W l A X G pa pw px pg s1 s2 s3) : Ats W (· < w.heap.size) pa l := h.arg.below h.bel
theorem MemA.later (h : MemA w W l A X G pa pw px pg s1 s2 s3) (hB : Below W.heap.size W W') : MemA w W' l A X G pa pw px pg s1 s2 s3 := by
  have ho := h.ord
  have hs := hB.size
  exact ⟨h.arg, h.bel.trans (hB.mono h.bel.size), h.rw_.same (fun b hb => hB.block b (by omega)) (fun _ h => h), h.ox.same (fun b hb => hB.block b (by omega)) (fun _ h => h), h.og.same (fun b hb => hB.block b (by omega)) (fun _ h => h), by omega⟩
theorem MemA.markx {X' : List At} (h : MemA w W l A X G pa pw px pg s1 s2 s3) (hF : Frm (fun b => s1 ≤ b ∧ b < s2) W W') (hX : OwnAts W' (fun b => s1 ≤ b ∧ b < s2) px X') : MemA w W' l A X' G pa pw px pg s1 s2 s3 := by
  have ho := h.ord
  have hs := hF.size
  exact ⟨h.arg, h.bel.trans (hF.below h.bel.size (fun b hb => by omega)), h.rw_.same (fun b hb => hF.block b (by omega) (by omega)) (fun _ h => h), hX, h.og.same (fun b hb => hF.block b (by omega) (by omega)) (fun _ h => h), by omega⟩
theorem MemA.markg {G' : List At} (h : MemA w W l A X G pa pw px pg s1 s2 s3) (hF : Frm (fun b => s2 ≤ b ∧ b < s3) W W') (hG : OwnAts W' (fun b => s2 ≤ b ∧ b < s3) pg G') : MemA w W' l A X G' pa pw px pg s1 s2 s3 := by
  have ho := h.ord
  have hs := hF.size
  exact ⟨h.arg, h.bel.trans (hF.below h.bel.size (fun b hb => by omega)), h.rw_.same (fun b hb => hF.block b (by omega) (by omega)) (fun _ h => h), h.ox.same (fun b hb => hF.block b (by omega) (by omega)) (fun _ h => h), hG, by omega⟩
theorem ofR_len (l : List At) : (ofR l).length ≤ 8 := by
  unfold ofR
  split
  · omega
  · simp
end Go.Proofs.Ythdppchlnjnloaa
namespace Go.Proofs.Ythdppchlnjnloaa
open Go.RowKit
set_option linter.unusedSimpArgs false
/-- what the law of two sets holds in memory: the specification's answer A, the arguments' copies X and Y, the answer G -/
structure MemB (w W : World) (a b A X Y G : List At) (pa pb pw px py pg : Option Addr) (s1 s2 s3 s4 : Nat) : Prop where
  arga : Ats w (· < w.heap.size) pa a
  argb : Ats w (· < w.heap.size) pb b
  bel : Below w.heap.size w W
  rw_ : Ats W (· < s1) pw A
  ox : OwnAts W (fun b => s1 ≤ b ∧ b < s2) px X
  oy : OwnAts W (fun b => s2 ≤ b ∧ b < s3) py Y
  og : OwnAts W (fun b => s3 ≤ b ∧ b < s4) pg G
  ord : w.heap.size ≤ s1 ∧ s1 ≤ s2 ∧ s2 ≤ s3 ∧ s3 ≤ s4 ∧ s4 ≤ W.heap.size
variable {w W W' : World} {a b A X Y G : List At} {pa pb pw px py pg : Option Addr} {s1 s2 s3 s4 : Nat}
theorem MemB.nowa (h : MemB w W a b A X Y G pa pb pw px py pg s1 s2 s3 s4) : Ats W (· < w.heap.size) pa a := h.arga.below h.bel
theorem MemB.nowb (h : MemB w W a b A X Y G pa pb pw px py pg s1 s2 s3 s4) : Ats W (· < w.heap.size) pb b := h.argb.below h.bel
theorem MemB.later (h : MemB w W a b A X Y G pa pb pw px py pg s1 s2 s3 s4) (hB : Below W.heap.size W W') : MemB w W' a b A X Y G pa pb pw px py pg s1 s2 s3 s4 := by
  have ho := h.ord
  have hs := hB.size
  exact ⟨h.arga, h.argb, h.bel.trans (hB.mono h.bel.size), h.rw_.same (fun b hb => hB.block b (by omega)) (fun _ h => h), h.ox.same (fun b hb => hB.block b (by omega)) (fun _ h => h), h.oy.same (fun b hb => hB.block b (by omega)) (fun _ h => h), h.og.same (fun b hb => hB.block b (by omega)) (fun _ h => h), by omega⟩
theorem MemB.markx {X' : List At} (h : MemB w W a b A X Y G pa pb pw px py pg s1 s2 s3 s4) (hF : Frm (fun b => s1 ≤ b ∧ b < s2) W W') (hX : OwnAts W' (fun b => s1 ≤ b ∧ b < s2) px X') : MemB w W' a b A X' Y G pa pb pw px py pg s1 s2 s3 s4 := by
  have ho := h.ord
  have hs := hF.size
  exact ⟨h.arga, h.argb, h.bel.trans (hF.below h.bel.size (fun b hb => by omega)), h.rw_.same (fun b hb => hF.block b (by omega) (by omega)) (fun _ h => h), hX, h.oy.same (fun b hb => hF.block b (by omega) (by omega)) (fun _ h => h), h.og.same (fun b hb => hF.block b (by omega) (by omega)) (fun _ h => h), by omega⟩
theorem MemB.marky {Y' : List At} (h : MemB w W a b A X Y G pa pb pw px py pg s1 s2 s3 s4) (hF : Frm (fun b => s2 ≤ b ∧ b < s3) W W') (hY : OwnAts W' (fun b => s2 ≤ b ∧ b < s3) py Y') : MemB w W' a b A X Y' G pa pb pw px py pg s1 s2 s3 s4 := by
  have ho := h.ord
  have hs := hF.size
  exact ⟨h.arga, h.argb, h.bel.trans (hF.below h.bel.size (fun b hb => by omega)), h.rw_.same (fun b hb => hF.block b (by omega) (by omega)) (fun _ h => h), h.ox.same (fun b hb => hF.block b (by omega) (by omega)) (fun _ h => h), hY, h.og.same (fun b hb => hF.block b (by omega) (by omega)) (fun _ h => h), by omega⟩
theorem MemB.markg {G' : List At} (h : MemB w W a b A X Y G pa pb pw px py pg s1 s2 s3 s4) (hF : Frm (fun b => s3 ≤ b ∧ b < s4) W W') (hG : OwnAts W' (fun b => s3 ≤ b ∧ b < s4) pg G') : MemB w W' a b A X Y G' pa pb pw px py pg s1 s2 s3 s4 := by
  have ho := h.ord
  have hs := hF.size
  exact ⟨h.arga, h.argb, h.bel.trans (hF.below h.bel.size (fun b hb => by omega)), h.rw_.same (fun b hb => hF.block b (by omega) (by omega)) (fun _ h => h), h.ox.same (fun b hb => hF.block b (by omega) (by omega)) (fun _ h => h), h.oy.same (fun b hb => hF.block b (by omega) (by omega)) (fun _ h => h), hG, by omega⟩
end Go.Proofs.Ythdppchlnjnloaa
namespace Go.Proofs.Ythdppchlnjnloaa
open Go.RowKit
set_option linter.unusedSimpArgs false
/-- what impl.DatumJoin is to answer -/
def JoinSaid : Prop := ∀ (a b : List At) (b1 o1 b2 o2 ca cb : Nat) (S : Nat) (w : World), a.length ≤ 1048576 → b.length ≤ 1048576 → (∀ x ∈ a, x.t.length ≤ maxLen) → (∀ x ∈ b, x.t.length ≤ maxLen) → S ≤ w.heap.size → Ats w (· < S) (some ⟨b1, o1, none⟩) a → Ats w (· < S) (some ⟨b2, o2, none⟩) b →
    Calls Try.prog 6 #[.slice (some ⟨b1, o1, none⟩) a.length ca, .slice (some ⟨b2, o2, none⟩) b.length cb] w (AAns2 w (joinR a b) (joinC a b))
theorem Join_len (a b : List At) : (joinR a b).length ≤ 4096 := by
  unfold joinR
  split
  · rename_i h
    omega
  · simp
end Go.Proofs.Ythdppchlnjnloaa
namespace Go.Proofs.Ythdppchlnjnloaa
open Go.RowKit
set_option linter.unusedSimpArgs false
theorem AAns2.base {w W w' : World} {l : List At} {c : Int} {e : Ending} (h : AAns2 W l c e w') (hb : Below w.heap.size w W) : AAns2 w l c e w' := by
  obtain ⟨a, cp, he, ho, hB⟩ := h
  exact ⟨a, cp, he, ho.same (fun _ _ => rfl) (fun b hb' => ⟨Nat.le_trans hb.size hb'.1, hb'.2⟩), hb.trans (hB.mono hb.size)⟩
theorem two_rise {a b : List At} (h : twoC a b = 0) : Rise a := by
  unfold twoC at h
  split at h
  · omega
  · split at h
    · omega
    · rename_i h2
      have ha : datumB a = true := by cases e : datumB a <;> simp [e] at h2 ⊢
      rw [datumB_eq] at ha
      simp at ha
      exact rise_of ha.2.2
set_option maxRecDepth 100000 in
set_option maxHeartbeats 3200000 in
theorem datumJoinI : JoinSaid := by
  intro a b b1 o1 b2 o2 ca cb S w hla hlb hxa hxb hw hA hB
  have TW : Hid (∀ W, Below w.heap.size w W → Calls Try.prog 12 #[.slice (some ⟨b1, o1, none⟩) a.length ca, .slice (some ⟨b2, o2, none⟩) b.length cb] W fun e w' => e = .returned (.int .i64 (twoC a b)) ∧ Below w.heap.size w w') := fun W h =>
    (pairI a b _ _ ca cb S W (by unfold maxLen; omega) (by unfold maxLen; omega) hxa hxb (Nat.le_trans hw h.size) (hA.below (h.mono hw)) (hB.below (h.mono hw))).mono (fun e w' ⟨he, hb⟩ => ⟨he, h.trans (hb.mono h.size)⟩)
  have SE : Hid (∀ W, Below w.heap.size w W → Calls Try.prog 13 #[.slice (some ⟨W.heap.size, 0, none⟩) 2 2] (W.alloc (.cells #[.slice (some ⟨b1, o1, none⟩) a.length ca, .slice (some ⟨b2, o2, none⟩) b.length cb] 24)) (fun e w' => ∃ p cp, e = .returned (.tuple #[.slice p (setR (a ++ b)).length cp, .int .i64 (setC (a ++ b))]) ∧ AAns2 w (setR (a ++ b)) (setC (a ++ b)) (.returned (.tuple #[.slice p (setR (a ++ b)).length cp, .int .i64 (setC (a ++ b))])) w')) := fun W h => by
    have hb : Below w.heap.size w (W.alloc (.cells #[.slice (some ⟨b1, o1, none⟩) a.length ca, .slice (some ⟨b2, o2, none⟩) b.length cb] 24)) := h.alloc h.size _
    have hs := h.size
    have hfl : flat [⟨a, some ⟨b1, o1, none⟩, ca⟩, ⟨b, some ⟨b2, o2, none⟩, cb⟩] = a ++ b := by simp [flat]
    have := setOfI [⟨a, some ⟨b1, o1, none⟩, ca⟩, ⟨b, some ⟨b2, o2, none⟩, cb⟩] W.heap.size 2 S (W.alloc (.cells #[.slice (some ⟨b1, o1, none⟩) a.length ca, .slice (some ⟨b2, o2, none⟩) b.length cb] 24)) (by simp) (by have := hb.size; omega) (by simp) ⟨fun m hm => by
        rcases (by simp at hm; omega : m = 0 ∨ m = 1) with rfl | rfl
        · exact cell_at (o := 0) (heap_newA _ _) rfl
        · exact cell_at (o := 1) (heap_newA _ _) rfl, fun m hm => by
        rcases (by simp at hm; omega : m = 0 ∨ m = 1) with rfl | rfl
        · exact hA.below (hb.mono hw)
        · exact hB.below (hb.mono hw), fun m hm => by
        rcases (by simp at hm; omega : m = 0 ∨ m = 1) with rfl | rfl
        · exact hla
        · exact hlb⟩
    rw [hfl] at this
    refine this.mono (fun e w' h2 => ?_)
    have h3 := h2.base hb
    obtain ⟨a, cp, rfl, -⟩ := h2
    exact ⟨a, cp, rfl, h3⟩
  clear hA hB hxa hxb
  have hr := Below.refl w.heap.size w
  by_cases h0 : twoC a b = 0
  · have HC : Hid (joinC a b = setC (a ++ b) ∧ joinR a b = setR (a ++ b)) := by
      have e : joinL [] (a ++ b) = joinL a b := by rw [join_app, join_self (two_rise h0)]
      unfold joinC joinR setC setR
      rw [e, if_pos h0]
      refine ⟨rfl, ?_⟩
      by_cases h8 : 8 < (joinL a b).length
      · rw [if_pos h8, if_neg (fun h => h.2 h8)]
      · rw [if_neg h8, if_pos ⟨h0, h8⟩]
    rw [h0] at TW
    clear h0
    generalize setC (a ++ b) = q at *
    go_enter Try.func6, Try.ntmps6
    go_wp2_with (first | (go_at_call 12; refine (TW.out _ hr).mono ?_; rintro e w1 ⟨rfl, hr⟩) | (go_at_call 13; refine (SE.out _ hr).mono ?_; rintro e w2 ⟨a2, c2, rfl, H2⟩))
    go_ret2
    rw [HC.out.1, HC.out.2]
    exact H2
  · have HC : Hid (joinC a b = twoC a b ∧ joinR a b = []) := ⟨by unfold joinC; rw [if_neg h0], by unfold joinR; rw [if_neg (fun h => h0 h.1)]⟩
    have hn : (twoC a b != 0) = true := by simpa using h0
    clear h0
    generalize twoC a b = q at *
    go_enter Try.func6, Try.ntmps6
    go_wp2_with (go_at_call 12; refine (TW.out _ hr).mono ?_; rintro e w1 ⟨rfl, hr⟩)
    go_ret2
    rw [HC.out.1]
    exact AAns2.none HC.out.2 hr
end Go.Proofs.Ythdppchlnjnloaa
namespace Go.Proofs.Ythdppchlnjnloaa
open Go.RowKit
set_option linter.unusedSimpArgs false
set_option maxRecDepth 100000 in
set_option maxHeartbeats 3200000 in
/-- impl.DatumJoin at any two rows, also those that lie nowhere -/
theorem datumJoinO (a b : List At) (pa pb : Option Addr) (ca cb : Nat) (S : Nat) (w : World) (hla : a.length ≤ 1048576) (hlb : b.length ≤ 1048576) (hxa : ∀ x ∈ a, x.t.length ≤ maxLen) (hxb : ∀ x ∈ b, x.t.length ≤ maxLen) (hw : S ≤ w.heap.size) (hA : Ats w (· < S) pa a) (hB : Ats w (· < S) pb b) :
    Calls Try.prog 6 #[.slice pa a.length ca, .slice pb b.length cb] w (AAns2 w (joinR a b) (joinC a b)) := by
  have TW : Hid (∀ W, Below w.heap.size w W → Calls Try.prog 12 #[.slice pa a.length ca, .slice pb b.length cb] W fun e w' => e = .returned (.int .i64 (twoC a b)) ∧ Below w.heap.size w w') := fun W h =>
    (pairI a b _ _ ca cb S W (by unfold maxLen; omega) (by unfold maxLen; omega) hxa hxb (Nat.le_trans hw h.size) (hA.below (h.mono hw)) (hB.below (h.mono hw))).mono (fun e w' ⟨he, hb⟩ => ⟨he, h.trans (hb.mono h.size)⟩)
  have SE : Hid (∀ W, Below w.heap.size w W → Calls Try.prog 13 #[.slice (some ⟨W.heap.size, 0, none⟩) 2 2] (W.alloc (.cells #[.slice pa a.length ca, .slice pb b.length cb] 24)) (fun e w' => ∃ p cp, e = .returned (.tuple #[.slice p (setR (a ++ b)).length cp, .int .i64 (setC (a ++ b))]) ∧ AAns2 w (setR (a ++ b)) (setC (a ++ b)) (.returned (.tuple #[.slice p (setR (a ++ b)).length cp, .int .i64 (setC (a ++ b))])) w')) := fun W h => by
    have hb : Below w.heap.size w (W.alloc (.cells #[.slice pa a.length ca, .slice pb b.length cb] 24)) := h.alloc h.size _
    have hs := h.size
    have hfl : flat [⟨a, pa, ca⟩, ⟨b, pb, cb⟩] = a ++ b := by simp [flat]
    have := setOfI [⟨a, pa, ca⟩, ⟨b, pb, cb⟩] W.heap.size 2 S (W.alloc (.cells #[.slice pa a.length ca, .slice pb b.length cb] 24)) (by simp) (by have := hb.size; omega) (by simp) ⟨fun m hm => by
        rcases (by simp at hm; omega : m = 0 ∨ m = 1) with rfl | rfl
        · exact cell_at (o := 0) (heap_newA _ _) rfl
        · exact cell_at (o := 1) (heap_newA _ _) rfl, fun m hm => by
        rcases (by simp at hm; omega : m = 0 ∨ m = 1) with rfl | rfl
        · exact hA.below (hb.mono hw)
        · exact hB.below (hb.mono hw), fun m hm => by
        rcases (by simp at hm; omega : m = 0 ∨ m = 1) with rfl | rfl
        · exact hla
        · exact hlb⟩
    rw [hfl] at this
    refine this.mono (fun e w' h2 => ?_)
    have h3 := h2.base hb
    obtain ⟨a, cp, rfl, -⟩ := h2
    exact ⟨a, cp, rfl, h3⟩
  clear hA hB hxa hxb
  have hr := Below.refl w.heap.size w
  by_cases h0 : twoC a b = 0
  · have HC : Hid (joinC a b = setC (a ++ b) ∧ joinR a b = setR (a ++ b)) := by
      have e : joinL [] (a ++ b) = joinL a b := by rw [join_app, join_self (two_rise h0)]
      unfold joinC joinR setC setR
      rw [e, if_pos h0]
      refine ⟨rfl, ?_⟩
      by_cases h8 : 8 < (joinL a b).length
      · rw [if_pos h8, if_neg (fun h => h.2 h8)]
      · rw [if_neg h8, if_pos ⟨h0, h8⟩]
    rw [h0] at TW
    clear h0
    generalize setC (a ++ b) = q at *
    go_enter Try.func6, Try.ntmps6
    go_wp2_with (first | (go_at_call 12; refine (TW.out _ hr).mono ?_; rintro e w1 ⟨rfl, hr⟩) | (go_at_call 13; refine (SE.out _ hr).mono ?_; rintro e w2 ⟨a2, c2, rfl, H2⟩))
    go_ret2
    rw [HC.out.1, HC.out.2]
    exact H2
  · have HC : Hid (joinC a b = twoC a b ∧ joinR a b = []) := ⟨by unfold joinC; rw [if_neg h0], by unfold joinR; rw [if_neg (fun h => h0 h.1)]⟩
    have hn : (twoC a b != 0) = true := by simpa using h0
    clear h0
    generalize twoC a b = q at *
    go_enter Try.func6, Try.ntmps6
    go_wp2_with (go_at_call 12; refine (TW.out _ hr).mono ?_; rintro e w1 ⟨rfl, hr⟩)
    go_ret2
    rw [HC.out.1]
    exact AAns2.none HC.out.2 hr
end Go.Proofs.Ythdppchlnjnloaa
namespace Go.Proofs.Ythdppchlnjnloaa
open Go.RowKit
set_option linter.unusedSimpArgs false
/-- bytes as they lie in memory -/
def Byts (w : World) (B : Nat → Prop) (a : Option Addr) (l : List UInt8) : Prop :=
  l.length = 0 ∨ ∃ b off, a = some ⟨b, off, none⟩ ∧ B b ∧ ∀ i (h : i < l.length), w.cell? ⟨b, off + i, none⟩ = some (.int .u8 (l[i].toNat : Nat))
theorem Byts.same {w w' : World} {B B' : Nat → Prop} {a : Option Addr} {l : List UInt8} (h : Byts w B a l) (hk : ∀ b, B b → w'.heap[b]? = w.heap[b]?) (hB : ∀ b, B b → B' b) : Byts w' B' a l := by
  rcases h with h | ⟨b, off, e, hb, hc⟩
  · exact .inl h
  · exact .inr ⟨b, off, e, hB b hb, fun i hi => by rw [← hc i hi]; simp [World.cell?, hk b hb]⟩
/-- a source of choices in block p: the code's bytes l, m of them taken, the seed s -/
structure Src (W : World) (p S : Nat) (a : Option Addr) (l : List UInt8) (c m s : Nat) : Prop where
  box : W.heap[p]? = some (.cells #[.slice a l.length c, .int .i64 (m : Int), .int .i64 (s : Int)] 40)
  sd : s < 2147483648
  byt : Byts W (· < S) a l
  le : S ≤ p
variable {W W' : World} {p S : Nat} {a : Option Addr} {l : List UInt8} {c m s : Nat}
theorem Src.cell (h : Src W p S a l c m s) : W.cell? ⟨p, 0, none⟩ = some (.slice a l.length c) ∧ W.cell? ⟨p, 1, none⟩ = some (.int .i64 (m : Int)) ∧ W.cell? ⟨p, 2, none⟩ = some (.int .i64 (s : Int)) :=
  ⟨cell_at (o := 0) h.box rfl, cell_at (o := 1) h.box rfl, cell_at (o := 2) h.box rfl⟩
theorem Src.on (h : Src W p S a l c m s) (hB : Below W.heap.size W W') : Src W' p S a l c m s := by
  have hp := (Array.getElem?_eq_some_iff.1 h.box).1
  exact ⟨by rw [hB.block p hp]; exact h.box, h.sd, h.byt.same (fun b hb => hB.block b (by have := h.le; omega)) (fun _ h => h), h.le⟩
theorem Src.frm (h : Src W p S a l c m s) {B : Nat → Prop} (hF : Frm B W W') (hp : ¬ B p) (hS : ∀ b, b < S → ¬ B b) : Src W' p S a l c m s := by
  have h0 := (Array.getElem?_eq_some_iff.1 h.box).1
  exact ⟨by rw [hF.block p h0 hp]; exact h.box, h.sd, h.byt.same (fun b hb => hF.block b (by have := h.le; omega) (hS b hb)) (fun _ h => h), h.le⟩
theorem Src.setAt (h : Src W p S a l c m s) (k : Nat) : Src (W.setCell ⟨p, 1, none⟩ (.int .i64 (k : Int))) p S a l c k s :=
  ⟨by rw [heap_set 1 _ h.box]; rfl, h.sd, h.byt.same (fun b hb => Below.heap_setCell W ⟨p, 1, none⟩ _ b (by have := h.le; show b ≠ p; omega)) (fun _ h => h), h.le⟩
theorem Src.setSeed (h : Src W p S a l c m s) (k : Nat) (hk : k < 2147483648) : Src (W.setCell ⟨p, 2, none⟩ (.int .i64 (k : Int))) p S a l c m k :=
  ⟨by rw [heap_set 2 _ h.box]; rfl, hk, h.byt.same (fun b hb => Below.heap_setCell W ⟨p, 2, none⟩ _ b (by have := h.le; show b ≠ p; omega)) (fun _ h => h), h.le⟩
theorem Frm.put1 (W : World) (p o : Nat) (v : Value) : Frm (· = p) W (W.setCell ⟨p, o, none⟩ v) := ⟨rfl, rfl, rfl, by simp, fun b _ hb => Below.heap_setCell W ⟨p, o, none⟩ v b hb⟩
theorem Frm.put2 (W : World) (p o o' : Nat) (v v' : Value) : Frm (· = p) W ((W.setCell ⟨p, o, none⟩ v).setCell ⟨p, o', none⟩ v') :=
  ⟨rfl, rfl, rfl, by simp, fun b _ hb => by rw [Below.heap_setCell _ ⟨p, o', none⟩ v' b hb, Below.heap_setCell W ⟨p, o, none⟩ v b hb]⟩
theorem Src.drew1 (h : Src W p S a l c m s) : Src W.drew p S a l c m s := h.on (Below.refl _ _).drew
theorem Frm.drew1 {B : Nat → Prop} (h : Frm B W W') : Frm B W W'.drew := by
  have hb := (Below.refl W'.heap.size W').drew
  exact ⟨hb.os.trans h.os, hb.tape.trans h.tape, hb.output.trans h.output, Nat.le_trans h.size hb.size, fun b h1 h2 => (hb.block b (Nat.lt_of_lt_of_le h1 h.size)).trans (h.block b h1 h2)⟩
/-- what a byte of the source answers -/
def ByteAns (W : World) (p S : Nat) (a : Option Addr) (l : List UInt8) (c m : Nat) (e : Ending) (W' : World) : Prop := ∃ b s' : Nat, e = .returned (.int .i64 (b : Int)) ∧ b < 256 ∧ Src W' p S a l c (m + 1) s' ∧ Frm (· = p) W W'
set_option maxRecDepth 100000 in
set_option maxHeartbeats 3200000 in
theorem srcByte (h : Src W p S a l c m s) (hm : m < 1000000) :
    Calls Try.prog 25 #[.pointer (some ⟨p, 0, none⟩)] W (ByteAns W p S a l c m) := by
  obtain ⟨k, hk⟩ : ∃ k, k = m + 1 := ⟨_, rfl⟩
  have w1 : IntKind.i64.wrap ((m : Int) + 1) = (k : Int) := by rw [IntKind.wrap_i64]; omega
  obtain ⟨x0, x1, x2⟩ := h.cell
  have z1 := frozen_at 1 h.box
  have H1 := Lib.hid (h.setAt k)
  obtain ⟨y0, y1, y2⟩ := H1.out.cell
  have z2 := frozen_at 2 H1.out.box
  have HK : Hid (k = m + 1) := hk
  by_cases hl : k ≤ l.length
  · have d1 : decide ((k : Int) ≤ (l.length : Int)) = true := decide_eq_true (by omega)
    have d2 : decide (k ≤ l.length) = true := decide_eq_true hl
    have w2 : IntKind.i64.wrap ((k : Int) - 1) = (m : Int) := by rw [IntKind.wrap_i64]; omega
    have hml : m < l.length := by omega
    rcases H1.out.byt with h0 | ⟨b, off, rfl, hb, hc⟩
    · omega
    have hcm := hc m hml
    obtain ⟨v, hv⟩ : ∃ v : Nat, v = l[m].toNat := ⟨_, rfl⟩
    have hv2 : v < 256 := by rw [hv]; exact UInt8.toNat_lt _
    rw [← hv] at hcm
    have hs := h.sd
    obtain ⟨u1, e1⟩ : ∃ u : Nat, u = s * 31 := ⟨_, rfl⟩
    obtain ⟨u2, e2⟩ : ∃ u : Nat, u = u1 + v := ⟨_, rfl⟩
    obtain ⟨u3, e3⟩ : ∃ u : Nat, u = u2 + 7 := ⟨_, rfl⟩
    obtain ⟨s', e4⟩ : ∃ u : Nat, u = u3 % 2147483648 := ⟨_, rfl⟩
    have f1 : IntKind.i64.wrap ((s : Int) * 31) = (u1 : Int) := by rw [IntKind.wrap_i64]; omega
    have f2 : IntKind.i64.wrap ((u1 : Int) + (v : Int)) = (u2 : Int) := by rw [IntKind.wrap_i64]; omega
    have f3 : IntKind.i64.wrap ((u2 : Int) + 7) = (u3 : Int) := by rw [IntKind.wrap_i64]; omega
    have f4 : (u3 : Int).tmod 2147483648 = (s' : Int) := by rw [Int.tmod_eq_emod_of_nonneg (by omega)]; omega
    have f5 : IntKind.i64.wrap (s' : Int) = (s' : Int) := by rw [IntKind.wrap_i64]; omega
    have f6 : IntKind.i64.wrap (v : Int) = (v : Int) := by rw [IntKind.wrap_i64]; omega
    have f7 : IntKind.i64.wrap ((u3 : Int) % 2147483648) = (s' : Int) := by rw [IntKind.wrap_i64]; omega
    have H2 := Lib.hid (H1.out.setSeed s' (by omega))
    obtain ⟨t0, t1, t2⟩ := H2.out.cell
    have hcm2 : ((W.setCell ⟨p, 1, none⟩ (.int .i64 (k : Int))).setCell ⟨p, 2, none⟩ (.int .i64 (s' : Int))).cell? ⟨b, off + m, none⟩ = some (.int .u8 (v : Int)) := by
      rcases H2.out.byt with h0 | ⟨b', off', e', hb', hc'⟩
      · omega
      · cases e'
        rw [hv]
        exact hc' m hml
    have HV := Lib.hid hv2
    have HF := Lib.hid (Frm.put2 W p 1 2 (.int .i64 (k : Int)) (.int .i64 (s' : Int)))
    clear h hk e1 e2 e3 e4 hv hv2 hs hc hb hl hm
    go_enter Try.func25, Try.ntmps25
    go_wp2_with fail
    go_region
    go_wp2_with fail
    go_region
    go_wp2_with fail
    go_region
    go_wp2_with fail
    go_ret
    exact ⟨v, s', rfl, HV.out, HK.out ▸ H2.out.drew1.drew1.drew1, HF.out.drew1.drew1.drew1⟩
  · have d1 : decide ((k : Int) ≤ (l.length : Int)) = false := decide_eq_false (by omega)
    have d2 : decide (k ≤ l.length) = false := decide_eq_false hl
    by_cases h3 : 3000 < k
    · have d3 : decide (3000 < (k : Int)) = true := decide_eq_true (by omega)
      have d4 : decide (3000 < k) = true := decide_eq_true h3
      have HF := Lib.hid (Frm.put1 W p 1 (.int .i64 (k : Int)))
      clear h hk hl h3 hm
      go_enter Try.func25, Try.ntmps25
      go_wp2_with fail
      go_region
      go_wp2_with fail
      go_ret
      exact ⟨0, s, rfl, by omega, HK.out ▸ H1.out.drew1, HF.out.drew1⟩
    · have d3 : decide (3000 < (k : Int)) = false := decide_eq_false (by omega)
      have d4 : decide (3000 < k) = false := decide_eq_false h3
      have hs := h.sd
      obtain ⟨u1, e1⟩ : ∃ u : Nat, u = s * 1103515245 := ⟨_, rfl⟩
      obtain ⟨u2, e2⟩ : ∃ u : Nat, u = u1 + 12345 := ⟨_, rfl⟩
      obtain ⟨s', e4⟩ : ∃ u : Nat, u = u2 % 2147483648 := ⟨_, rfl⟩
      obtain ⟨q, e5⟩ : ∃ u : Nat, u = s' / 65536 := ⟨_, rfl⟩
      obtain ⟨v, e6⟩ : ∃ u : Nat, u = q % 256 := ⟨_, rfl⟩
      have f1 : IntKind.i64.wrap ((s : Int) * 1103515245) = (u1 : Int) := by rw [IntKind.wrap_i64]; omega
      have f2 : IntKind.i64.wrap ((u1 : Int) + 12345) = (u2 : Int) := by rw [IntKind.wrap_i64]; omega
      have f4 : (u2 : Int).tmod 2147483648 = (s' : Int) := by rw [Int.tmod_eq_emod_of_nonneg (by omega)]; omega
      have f5 : IntKind.i64.wrap (s' : Int) = (s' : Int) := by rw [IntKind.wrap_i64]; omega
      have f7 : IntKind.i64.wrap ((u2 : Int) % 2147483648) = (s' : Int) := by rw [IntKind.wrap_i64]; omega
      have f8 : (s' : Int).tdiv 65536 = (q : Int) := by rw [Int.tdiv_eq_ediv_of_nonneg (by omega)]; omega
      have f9 : IntKind.i64.wrap ((s' : Int) / 65536) = (q : Int) := by rw [IntKind.wrap_i64]; omega
      have g1 : IntKind.i64.wrap (q : Int) = (q : Int) := by rw [IntKind.wrap_i64]; omega
      have g2 : (q : Int).tmod 256 = (v : Int) := by rw [Int.tmod_eq_emod_of_nonneg (by omega)]; omega
      have g3 : IntKind.i64.wrap ((q : Int) % 256) = (v : Int) := by rw [IntKind.wrap_i64]; omega
      have g4 : IntKind.i64.wrap (v : Int) = (v : Int) := by rw [IntKind.wrap_i64]; omega
      have H2 := Lib.hid (H1.out.setSeed s' (by omega))
      obtain ⟨t0, t1, t2⟩ := H2.out.cell
      have HV : Hid (v < 256) := by show v < 256; omega
      have HF := Lib.hid (Frm.put2 W p 1 2 (.int .i64 (k : Int)) (.int .i64 (s' : Int)))
      clear h hk e1 e2 e4 e5 e6 hs hl h3 hm
      go_enter Try.func25, Try.ntmps25
      go_wp2_with fail
      go_region
      go_wp2_with fail
      go_ret
      exact ⟨v, s', rfl, HV.out, HK.out ▸ H2.out.drew1, HF.out.drew1⟩
/-- one of 0 to n - 1, and the source goes on -/
def NextAns (W : World) (p S : Nat) (a : Option Addr) (l : List UInt8) (c m n : Nat) (e : Ending) (W' : World) : Prop := ∃ b s' : Nat, e = .returned (.int .i64 (b : Int)) ∧ b < n ∧ Src W' p S a l c (m + 1) s' ∧ Frm (· = p) W W'
set_option maxRecDepth 100000 in
set_option maxHeartbeats 1600000 in
theorem srcNext (h : Src W p S a l c m s) (hm : m < 1000000) (n : Nat) (h1 : 1 < n) (h2 : n ≤ 256) :
    Calls Try.prog 17 #[.pointer (some ⟨p, 0, none⟩), .int .i64 (n : Int)] W (NextAns W p S a l c m n) := by
  have BY := Lib.hid (srcByte h hm)
  have d1 : decide ((n : Int) ≤ 1) = false := decide_eq_false (by omega)
  have d2 : decide (n ≤ 1) = false := decide_eq_false (by omega)
  have d3 : decide ((n : Int) ≤ 256) = true := decide_eq_true (by omega)
  have d4 : decide (n ≤ 256) = true := decide_eq_true h2
  have d5 : ((n : Int) == 0) = false := by rw [beq_eq_false_iff_ne]; omega
  have HN : Hid (1 < n ∧ n ≤ 256) := ⟨h1, h2⟩
  have hn0 : n ≠ 0 := by omega
  clear h h1 h2 hm
  go_enter Try.func17, Try.ntmps17
  go_wp2_with fail
  refine BY.out.mono ?_
  rintro e w1 ⟨b, s', rfl, hb, hS, hF⟩
  have HS := Lib.hid hS
  have HF := Lib.hid hF
  obtain ⟨r, hr⟩ : ∃ r : Nat, r = b % n := ⟨_, rfl⟩
  have HR : Hid (r < n) := by show r < n; rw [hr]; exact Nat.mod_lt _ (by have := HN.out; omega)
  have t1 : (b : Int).tmod (n : Int) = (r : Int) := by rw [Int.tmod_eq_emod_of_nonneg (by omega), hr, Int.natCast_emod]
  have t3 : ((b : Int) % (n : Int)) = (r : Int) := by rw [hr, Int.natCast_emod]
  have t2 : IntKind.i64.wrap (r : Int) = (r : Int) := by have := HR.out; have := HN.out; rw [IntKind.wrap_i64]; omega
  clear hS hF hr hb
  go_wp2_with fail
  go_ret
  exact ⟨r, s', rfl, HR.out, HS.out, HF.out⟩
end Go.Proofs.Ythdppchlnjnloaa
namespace Go.Proofs.Ythdppchlnjnloaa
open Go.RowKit
set_option linter.unusedSimpArgs false
variable {W W' : World} {p S : Nat} {a : Option Addr} {l : List UInt8} {c m s : Nat}
set_option maxHeartbeats 800000 in
theorem srcNew (W : World) (hS : S ≤ W.heap.size) (hb : Byts W (· < S) a l) :
    Calls Try.prog 10 #[.slice a l.length c] W fun e W' => ∃ s, e = .returned (.pointer (some ⟨W.heap.size, 0, none⟩)) ∧ Src W' W.heap.size S a l c 0 s ∧ Below W.heap.size W W' := by
  obtain ⟨s, hs⟩ : ∃ s : Nat, s = l.length % 1000 := ⟨_, rfl⟩
  have t1 : (l.length : Int).tmod 1000 = (s : Int) := by rw [Int.tmod_eq_emod_of_nonneg (by omega)]; omega
  have t2 : IntKind.i64.wrap (s : Int) = (s : Int) := by rw [IntKind.wrap_i64]; omega
  have t3 : IntKind.i64.wrap ((l.length : Int) % 1000) = (s : Int) := by rw [IntKind.wrap_i64]; omega
  have hB : Below W.heap.size W (W.alloc (.cells #[.slice a l.length c, .int .i64 0, .int .i64 (s : Int)] 40)) := (Below.refl _ _).alloc (Nat.le_refl _) _
  have H : Hid (Src (W.alloc (.cells #[.slice a l.length c, .int .i64 0, .int .i64 (s : Int)] 40)) W.heap.size S a l c 0 s ∧ Below W.heap.size W (W.alloc (.cells #[.slice a l.length c, .int .i64 0, .int .i64 (s : Int)] 40))) := by
    refine ⟨⟨?_, by omega, hb.same (fun b h => hB.block b (by omega)) (fun _ h => h), hS⟩, hB⟩
    show (W.heap.push _)[W.heap.size]? = _
    simp
  clear hs hb hS hB
  go_enter Try.func10, Try.ntmps10
  go_wp2_with fail
  go_ret
  exact ⟨s, rfl, H.out.1, H.out.2⟩
/-- one of some texts, and the source goes on -/
def PickAns (W : World) (p S : Nat) (a : Option Addr) (l : List UInt8) (c m : Nat) (ks : List (List UInt8)) (e : Ending) (W' : World) : Prop := ∃ t s', e = .returned (.string ⟨t.toArray⟩) ∧ t ∈ ks ∧ Src W' p S a l c (m + 1) s' ∧ Frm (· = p) W W'
set_option maxHeartbeats 1600000 in
theorem srcPick (h : Src W p S a l c m s) (hm : m < 1000000) (ks : List (List UInt8)) (B : Nat → Prop) (pk : Option Addr) (ck : Nat) (hk : Strs W B pk ks) (hB : ∀ b, B b → b ≠ p ∧ b < W.heap.size) (h1 : 1 < ks.length) (h2 : ks.length ≤ 256) :
    Calls Try.prog 28 #[.pointer (some ⟨p, 0, none⟩), .slice pk ks.length ck] W (PickAns W p S a l c m ks) := by
  rcases hk with hk | ⟨b, off, rfl, hb, hc⟩
  · omega
  have NX := Lib.hid (srcNext h hm ks.length h1 h2)
  have d1 : ((ks.length : Int) == 0) = false := by rw [beq_eq_false_iff_ne]; omega
  have d2 : (ks.length == 0) = false := by rw [beq_eq_false_iff_ne]; omega
  have HC : Hid (∀ i (hi : i < ks.length), W.cell? ⟨b, off + i, none⟩ = some (.string ⟨ks[i].toArray⟩)) := hc
  have HB := Lib.hid (hB b hb)
  have hne : ks ≠ [] := fun e => by rw [e] at h1; exact absurd h1 (by simp)
  clear h hm h1 h2 hc hB hb
  go_enter Try.func28, Try.ntmps28
  go_wp2_with fail
  refine NX.out.mono ?_
  rintro e w1 ⟨r, s', rfl, hr, hS, hF⟩
  have HS := Lib.hid hS
  have HF := Lib.hid hF
  have hcell : w1.cell? ⟨b, off + r, none⟩ = some (.string ⟨ks[r].toArray⟩) := by
    rw [← HC.out r hr]
    simp [World.cell?, hF.block b HB.out.2 HB.out.1]
  have HM : Hid (ks[r] ∈ ks) := List.getElem_mem hr
  clear hS hF
  generalize ks[r] = t at *
  go_wp2_with fail
  go_ret
  exact ⟨t, s', rfl, HM.out, HS.out, HF.out⟩
end Go.Proofs.Ythdppchlnjnloaa
namespace Go.Proofs.Ythdppchlnjnloaa
open Go.RowKit
set_option linter.unusedSimpArgs false
variable {W W' : World} {p S : Nat} {a : Option Addr} {l : List UInt8} {c m s : Nat}
/-- three cells of a new block are written -/
theorem fin3 {w1 : World} (hp : p < W.heap.size) (hF : Frm (· = p) W w1) (h : Src w1 p S a l c m s) (y0 y1 y2 : Value) : Src (((w1.setCell ⟨W.heap.size, 0, none⟩ y0).setCell ⟨W.heap.size, 1, none⟩ y1).setCell ⟨W.heap.size, 2, none⟩ y2) p S a l c m s ∧ Frm (· = p) W (((w1.setCell ⟨W.heap.size, 0, none⟩ y0).setCell ⟨W.heap.size, 1, none⟩ y1).setCell ⟨W.heap.size, 2, none⟩ y2) := by
  have hF3 : Frm (· = W.heap.size) w1 (((w1.setCell ⟨W.heap.size, 0, none⟩ y0).setCell ⟨W.heap.size, 1, none⟩ y1).setCell ⟨W.heap.size, 2, none⟩ y2) := (((Frm.refl (· = W.heap.size) w1).set (B := (· = W.heap.size)) (b := W.heap.size) (o := 0) rfl y0).set (B := (· = W.heap.size)) (b := W.heap.size) (o := 1) rfl y1).set (B := (· = W.heap.size)) (b := W.heap.size) (o := 2) rfl y2
  have hle := h.le
  refine ⟨h.frm hF3 (by omega) (fun b hb => by omega), ?_⟩
  exact ⟨hF3.os.trans hF.os, hF3.tape.trans hF.tape, hF3.output.trans hF.output, Nat.le_trans hF.size hF3.size, fun b hb hn => (hF3.block b (Nat.lt_of_lt_of_le hb hF.size) (by omega)).trans (hF.block b hb hn)⟩
/-- a right atom of a kind, and the source goes on -/
def AtomAns (W : World) (p S : Nat) (a : Option Addr) (l : List UInt8) (c m k : Nat) (e : Ending) (W' : World) : Prop := ∃ (x : At) (s' : Nat), e = .returned (.agg #[.int .i64 x.k, .int .i64 x.n, .string ⟨x.t.toArray⟩]) ∧ x.k = (k : Int) ∧ atOK x = true ∧ Src W' p S a l c (m + 1) s' ∧ Frm (· = p) W W'
def atZero : Obj := .cells #[.int .i64 0, .int .i64 0, .string ⟨#[]⟩] 37
theorem atN_ok {k n : Int} (h : (k = 1 ∧ -4 ≤ n ∧ n ≤ 8) ∨ (k = 3 ∧ 0 ≤ n ∧ n ≤ 1) ∨ (k = 4 ∧ 1 ≤ n ∧ n ≤ 6)) : atOK ⟨k, n, []⟩ = true := by
  rcases h with ⟨rfl, h1, h2⟩ | ⟨rfl, h1, h2⟩ | ⟨rfl, h1, h2⟩
  · rw [atOK1 rfl]; simp [inB]; omega
  · rw [atOK3 rfl]; simp [inB]; omega
  · rw [atOK4 rfl]; simp [inB]; omega
set_option maxRecDepth 100000 in
set_option maxHeartbeats 3200000 in
theorem srcAtomN (h : Src W p S a l c m s) (hm : m < 1000000) (k : Nat) (hk : k = 1 ∨ k = 3 ∨ k = 4) :
    Calls Try.prog 19 #[.pointer (some ⟨p, 0, none⟩), .int .i64 (k : Int)] W (AtomAns W p S a l c m k) := by
  have HP : Hid (p < W.heap.size) := (Array.getElem?_eq_some_iff.1 h.box).1
  have hA : Below W.heap.size W (W.alloc atZero) := (Below.refl _ _).alloc (Nat.le_refl _) _
  have NX : Hid (∀ n : Nat, 1 < n → n ≤ 256 → Calls Try.prog 17 #[.pointer (some ⟨p, 0, none⟩), .int .i64 (n : Int)] (W.alloc atZero) (NextAns (W.alloc atZero) p S a l c m n)) := fun n h1 h2 => srcNext (h.on hA) hm n h1 h2
  have HA := Lib.hid hA
  have HX : Hid (∀ w1, Frm (· = p) (W.alloc atZero) w1 → w1.heap[W.heap.size]? = some atZero) := fun w1 hF => by
    have e : (W.alloc atZero).heap.size = W.heap.size + 1 := by simp
    rw [hF.block W.heap.size (by omega) (by have := HP.out; omega)]
    show (W.heap.push _)[W.heap.size]? = _
    simp
  clear h hm hA
  rcases hk with rfl | rfl | rfl
  · go_enter Try.func19, Try.ntmps19
    go_wp2_with fail
    refine (NX.out 12 (by omega) (by omega)).mono ?_
    rintro e w1 ⟨r, s', rfl, hr, hS, hF⟩
    have HS := Lib.hid hS
    have HF := Lib.hid hF
    have HR := Lib.hid hr
    obtain ⟨n, hn⟩ : ∃ n : Int, n = (r : Int) - 4 := ⟨_, rfl⟩
    have w0 : IntKind.i64.wrap ((r : Int) - 4) = n := by rw [IntKind.wrap_i64]; omega
    have HN : Hid (-4 ≤ n ∧ n ≤ 8) := by show _ ∧ _; omega
    have hb := HX.out w1 hF
    have z0 := frozen_at 0 hb
    have z1 := frozen_at 1 hb
    have z2 := frozen_at 2 hb
    have c0 : w1.cell? ⟨W.heap.size, 0, none⟩ = some (.int .i64 0) := cell_at (o := 0) hb rfl
    have c1 : w1.cell? ⟨W.heap.size, 1, none⟩ = some (.int .i64 0) := cell_at (o := 1) hb rfl
    have c2 : w1.cell? ⟨W.heap.size, 2, none⟩ = some (.string ⟨#[]⟩) := cell_at (o := 2) hb rfl
    clear hS hF hr hb hn
    go_wp2_with fail
    refine bodyPost_ret (v := .agg #[.int .i64 1, .int .i64 n, .string ⟨#[]⟩]) (by simp [results, Try.results19, go_sem, c0, c1, c2]) rfl ?_
    have hf := fin3 HP.out ((Frm.of_below HA.out).trans HF.out) HS.out
    exact ⟨⟨1, n, []⟩, s', rfl, rfl, atN_ok (.inl ⟨rfl, HN.out⟩), (hf _ _ _).1, (hf _ _ _).2⟩
  · go_enter Try.func19, Try.ntmps19
    go_wp2_with fail
    refine (NX.out 2 (by omega) (by omega)).mono ?_
    rintro e w1 ⟨r, s', rfl, hr, hS, hF⟩
    have HS := Lib.hid hS
    have HF := Lib.hid hF
    have HR := Lib.hid hr
    have hb := HX.out w1 hF
    have z0 := frozen_at 0 hb
    have z1 := frozen_at 1 hb
    have z2 := frozen_at 2 hb
    have c0 : w1.cell? ⟨W.heap.size, 0, none⟩ = some (.int .i64 0) := cell_at (o := 0) hb rfl
    have c1 : w1.cell? ⟨W.heap.size, 1, none⟩ = some (.int .i64 0) := cell_at (o := 1) hb rfl
    have c2 : w1.cell? ⟨W.heap.size, 2, none⟩ = some (.string ⟨#[]⟩) := cell_at (o := 2) hb rfl
    clear hS hF hr hb
    go_wp2_with fail
    refine bodyPost_ret (v := .agg #[.int .i64 3, .int .i64 r, .string ⟨#[]⟩]) (by simp [results, Try.results19, go_sem, c0, c1, c2]) rfl ?_
    have hf := fin3 HP.out ((Frm.of_below HA.out).trans HF.out) HS.out
    exact ⟨⟨3, r, []⟩, s', rfl, rfl, atN_ok (.inr (.inl ⟨rfl, by have := HR.out; omega⟩)), (hf _ _ _).1, (hf _ _ _).2⟩
  · go_enter Try.func19, Try.ntmps19
    go_wp2_with fail
    refine (NX.out 6 (by omega) (by omega)).mono ?_
    rintro e w1 ⟨r, s', rfl, hr, hS, hF⟩
    have HS := Lib.hid hS
    have HF := Lib.hid hF
    have HR := Lib.hid hr
    obtain ⟨n, hn⟩ : ∃ n : Int, n = 1 + (r : Int) := ⟨_, rfl⟩
    have w0 : IntKind.i64.wrap (1 + (r : Int)) = n := by rw [IntKind.wrap_i64]; omega
    have HN : Hid (1 ≤ n ∧ n ≤ 6) := by show _ ∧ _; omega
    have hb := HX.out w1 hF
    have z0 := frozen_at 0 hb
    have z1 := frozen_at 1 hb
    have z2 := frozen_at 2 hb
    have c0 : w1.cell? ⟨W.heap.size, 0, none⟩ = some (.int .i64 0) := cell_at (o := 0) hb rfl
    have c1 : w1.cell? ⟨W.heap.size, 1, none⟩ = some (.int .i64 0) := cell_at (o := 1) hb rfl
    have c2 : w1.cell? ⟨W.heap.size, 2, none⟩ = some (.string ⟨#[]⟩) := cell_at (o := 2) hb rfl
    clear hS hF hr hb hn
    go_wp2_with fail
    refine bodyPost_ret (v := .agg #[.int .i64 4, .int .i64 n, .string ⟨#[]⟩]) (by simp [results, Try.results19, go_sem, c0, c1, c2]) rfl ?_
    have hf := fin3 HP.out ((Frm.of_below HA.out).trans HF.out) HS.out
    exact ⟨⟨4, n, []⟩, s', rfl, rfl, atN_ok (.inr (.inr ⟨rfl, HN.out⟩)), (hf _ _ _).1, (hf _ _ _).2⟩
def fiveT : List (List UInt8) := [[], [97], [98], [99], [110, 101, 116]]
theorem five_ok : ∀ t ∈ fiveT, atOK ⟨2, 0, t⟩ = true := by
  intro t ht
  rw [atOK2 rfl]
  simp only [fiveT, List.mem_cons, List.not_mem_nil, or_false] at ht
  rcases ht with rfl | rfl | rfl | rfl | rfl <;> decide
def rowFive : Obj := .cells #[.string ⟨#[]⟩, .string ⟨#[97]⟩, .string ⟨#[98]⟩, .string ⟨#[99]⟩, .string ⟨#[110, 101, 116]⟩] 9
set_option maxRecDepth 100000 in
set_option maxHeartbeats 3200000 in
theorem srcAtomT (h : Src W p S a l c m s) (hm : m < 1000000) :
    Calls Try.prog 19 #[.pointer (some ⟨p, 0, none⟩), .int .i64 2] W (AtomAns W p S a l c m 2) := by
  have HP : Hid (p < W.heap.size) := (Array.getElem?_eq_some_iff.1 h.box).1
  have hA : Below W.heap.size W (W.alloc atZero) := (Below.refl _ _).alloc (Nat.le_refl _) _
  have hA2 : Below W.heap.size W ((W.alloc atZero).alloc rowFive) := hA.alloc (by simp) _
  have e1 : (W.alloc atZero).heap.size = W.heap.size + 1 := by simp
  have e2 : ((W.alloc atZero).alloc rowFive).heap.size = W.heap.size + 2 := by simp
  have hrow : ((W.alloc atZero).alloc rowFive).heap[W.heap.size + 1]? = some rowFive := by
    have hn : ∀ (V : World) (o : Obj), (V.alloc o).heap[V.heap.size]? = some o := fun V o => by
      show (V.heap.push o)[V.heap.size]? = _
      simp
    have := hn (W.alloc atZero) rowFive
    rwa [e1] at this
  have hbox : ((W.alloc atZero).alloc rowFive).heap[W.heap.size]? = some atZero := by
    show ((W.heap.push atZero).push rowFive)[W.heap.size]? = _
    simp [Array.getElem?_push]
  have hst : Strs ((W.alloc atZero).alloc rowFive) (· = W.heap.size + 1) (some ⟨W.heap.size + 1, 0, none⟩) fiveT := by
    refine .inr ⟨_, 0, rfl, rfl, fun i hi => ?_⟩
    match i, hi with
    | 0, _ => exact cell_at (o := 0) hrow rfl
    | 1, _ => exact cell_at (o := 1) hrow rfl
    | 2, _ => exact cell_at (o := 2) hrow rfl
    | 3, _ => exact cell_at (o := 3) hrow rfl
    | 4, _ => exact cell_at (o := 4) hrow rfl
  have PK : Hid (Calls Try.prog 28 #[.pointer (some ⟨p, 0, none⟩), .slice (some ⟨W.heap.size + 1, 0, none⟩) 5 5] ((W.alloc atZero).alloc rowFive) (PickAns ((W.alloc atZero).alloc rowFive) p S a l c m fiveT)) :=
    srcPick (h.on hA2) hm fiveT (· = W.heap.size + 1) _ 5 hst (fun b hb => by have := HP.out; omega) (by decide) (by decide)
  have HA := Lib.hid hA2
  have HX : Hid (∀ w1, Frm (· = p) ((W.alloc atZero).alloc rowFive) w1 → w1.heap[W.heap.size]? = some atZero) := fun w1 hF => by
    rw [hF.block W.heap.size (by omega) (by have := HP.out; omega)]
    exact hbox
  clear h hm hA hA2 e1 e2 hrow hbox hst
  go_enter Try.func19, Try.ntmps19
  go_wp2_with fail
  refine PK.out.mono ?_
  rintro e w1 ⟨t, s', rfl, ht, hS, hF⟩
  have HS := Lib.hid hS
  have HF := Lib.hid hF
  have HT := Lib.hid ht
  have hb := HX.out w1 hF
  have z0 := frozen_at 0 hb
  have z1 := frozen_at 1 hb
  have z2 := frozen_at 2 hb
  have c0 : w1.cell? ⟨W.heap.size, 0, none⟩ = some (.int .i64 0) := cell_at (o := 0) hb rfl
  have c1 : w1.cell? ⟨W.heap.size, 1, none⟩ = some (.int .i64 0) := cell_at (o := 1) hb rfl
  have c2 : w1.cell? ⟨W.heap.size, 2, none⟩ = some (.string ⟨#[]⟩) := cell_at (o := 2) hb rfl
  clear hS hF ht hb
  go_wp2_with fail
  refine bodyPost_ret (v := .agg #[.int .i64 2, .int .i64 0, .string ⟨t.toArray⟩]) (by simp [results, Try.results19, go_sem, c0, c1, c2]) rfl ?_
  have hf := fin3 HP.out ((Frm.of_below HA.out).trans HF.out) HS.out
  exact ⟨⟨2, 0, t⟩, s', rfl, rfl, five_ok t HT.out, (hf _ _ _).1, (hf _ _ _).2⟩
theorem srcAtom (h : Src W p S a l c m s) (hm : m < 1000000) (k : Nat) (h1 : 1 ≤ k) (h2 : k ≤ 4) :
    Calls Try.prog 19 #[.pointer (some ⟨p, 0, none⟩), .int .i64 (k : Int)] W (AtomAns W p S a l c m k) := by
  by_cases e : k = 2
  · subst e
    exact srcAtomT h hm
  · exact srcAtomN h hm k (by omega)
end Go.Proofs.Ythdppchlnjnloaa
