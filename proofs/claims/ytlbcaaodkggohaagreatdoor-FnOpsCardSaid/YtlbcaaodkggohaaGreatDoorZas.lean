import Derived.Test.YtlbcaaodkggohaaGreatDoorZag
import Derived.Test.YtlbcaaodkggohaaGreatDoorZae
import Derived.Test.YtlbcaaodkggohaaGreatDoorZad
import Derived.Test.YtlbcaaodkggohaaGreatDoorZam
import Derived.Test.YtlbcaaodkggohaaGreatDoorZar
import Derived.Test.YtlbcaaodkggohaaGreatDoorZak
import Derived.Test.YtlbcaaodkggohaaGreatDoorZah
import Derived.Deep.RegionHeld3
import Derived.Test.YtlbcaaodkggohaaGreatDoorZaj
import Derived.Test.YtlbcaaodkggohaaGreatDoorZab
import Derived.Test.YtlbcaaodkggohaaGreatDoorZal
import Derived.Test.YtlbcaaodkggohaaGreatDoorZan
import Derived.Test.YtlbcaaodkggohaaGreatDoorZao
namespace Go.Proofs.YtlbcaaodkggohaaGreatDoor
open Go.RowKit
set_option linter.unusedSimpArgs false
def Dk (k : Int) (L : List At) : Prop := Rise L ∧ ∀ y ∈ L, y.k = k ∧ atOK y = true
theorem Dk.datum {k : Int} {L : List At} (h : Dk k L) (hl : L.length ≤ 8) : datumB L = true := by
 rw [datumB_yes, decide_eq_true hl]; intro i hi; unfold stepB; have hi' := h.2 _ (List.getElem_mem hi); have h0 := h.2 _ (List.getElem_mem (show 0 < L.length by omega)); rw [at_getD hi, at_getD (show 0 < L.length by omega), hi'.2, hi'.1, h0.1]
 cases i with
 | zero => simp
 | succ m =>
  have := h.1.get (show m < L.length by omega) hi (by omega); rw [Nat.add_sub_cancel, at_getD (show m < L.length by omega)]; simp [this]
theorem iOK_small {n : Int} (h : -9223372036854775808 ≤ n ∧ n ≤ 9223372036854775807) : iOK n := by
 show (decide (IntKind.i64.min ≤ n) && decide (n ≤ IntKind.i64.max)) = true
 rw [show IntKind.i64.min = -9223372036854775808 from by decide, show IntKind.i64.max = 9223372036854775807 from by decide, decide_eq_true h.1, decide_eq_true h.2]; rfl
theorem dk_le {k : Int} {L : List At} (hk : 1 ≤ k ∧ k ≤ 4) (h : Dk k L) (h8 : L.length ≤ 8) : (dAtomS L).le maxLen ∧ (dAtomS L).sz ≤ 2000 := by
 have ht : ∀ i (hi : i < L.length), L[i].t.length ≤ 200 := fun i hi => atOK_text (h.2 _ (List.getElem_mem hi)).2
 refine ⟨Ls_le.2 ⟨by omega, by unfold maxLen; omega, fun i hi j hj => ?_⟩, ?_⟩
 ·
  have hx := h.2 _ (List.getElem_mem hi); rcases (by omega : j = 0 ∨ j = 1 ∨ j = 2) with rfl | rfl | rfl
  ·
   exact iOK_small (by rw [hx.1]; omega)
  ·
   refine iOK_small ?_; have ho := hx.2; rw [show L[i] = L[i] from rfl] at ho; unfold atOK at ho; unfold inB at ho
   split at ho
   ·
    simp at ho; omega
   ·
    split at ho
    ·
     simp at ho; omega
    ·
     split at ho
     ·
      simp at ho; omega
     ·
      split at ho
      ·
       simp at ho; omega
      ·
       cases ho
  ·
   show L[i].t.length ≤ maxLen
   have := ht i hi; unfold maxLen; omega
 ·
  show L.length + szL 3 dAtom L L.length ≤ 2000
  have : szL 3 dAtom L L.length ≤ L.length * 200 := by
   unfold szL
   have h1 := sumN_bound (g := fun i => szT 3 (lsF dAtom L i)) (h := fun _ => 200 + 0 * 0) (n := L.length) (fun i hi => by
    rw [lsF_at hi]; have := ht i hi; simp [szT, sumN, dAtom, D.sz]
    omega)
   have h2 := sumN_lin 200 0 (fun _ => 0) L.length
   omega
  omega
variable {V W1 W W' : World} {p S : Nat} {a : Option Addr} {l : List UInt8} {c m m' s : Nat}
def ChanceW (W : World) (p S : Nat) (a : Option Addr) (l : List UInt8) (c m : Nat) (e : Ending) (W' : World) : Prop := ∃ (b : Bool) (s' : Nat), e = .returned (.bool b) ∧ Src W' p S a l c (m + 1) s' ∧ Frm (· = p) W W'
set_option maxHeartbeats 1600000 in
theorem srcChanceW (h : Src W p S a l c m s) (hm : m < 1000000) (n : Nat) (h1 : 1 < n) (h2 : n ≤ 256) :
  Calls Tryz.prog 26 #[.pointer (some ⟨p, 0, none⟩), .int .i64 (n : Int)] W (ChanceW W p S a l c m) := by
 have NX := Lib.hid (srcNext h hm n h1 h2); have hw : IntKind.i64.wrap ((n : Int) - 1) = (n : Int) - 1 := by rw [IntKind.wrap_i64]; omega
 clear h hm; (go_enter Tryz.func26, Tryz.ntmps26); (go_wp2_with fail); refine NX.out.mono ?_; rintro e w1 ⟨b, s', rfl, hb, hS, hF⟩; have HS := Lib.hid hS; have HF := Lib.hid hF; clear hS hF hb; (go_wp2_with fail); go_ret; exact ⟨_, s', rfl, HS.out, HF.out⟩
def PlT (w : World) (e : Ending) (w' : World) : Prop := ∃ (A : Nat → Ad) (rb off : Nat), e = .returned (.agg #[.slice (some ⟨rb, off, none⟩) 3 3]) ∧ (∀ t, t < 3 → TabAt w' rb (off + t * 4) (plT t) (A t) ∧ (plT t).Has w' (fun b => w.heap.size ≤ b ∧ b < w'.heap.size) (A t).ca (A t).ua) ∧ Below w.heap.size w w'
theorem plainT (w : World) : Calls Tryz.prog 4 #[] w (PlT w) := (plainS w).mono (fun e w' ⟨A, rb, cb, ub, he, ho, _, hin, hB⟩ => by
 refine ⟨A, rb, 0, he, fun t ht => ⟨?_, ?_⟩, hB⟩
 ·
  obtain ⟨b, off, e, hb, hc⟩ := Rw.at (OwnRw.rw ho.row) (t * 4) (by omega)
  cases e
  have g : ∀ j, j < 4 → w'.cell? ⟨rb, 0 + t * 4 + j, none⟩ = some ((tbC (plT t) (A t)).getD j undef) := fun j hj => by
   rw [Nat.add_assoc, hc _ (by omega), tF_at _ _ _ _ hj]
  exact ⟨g 0 (by omega), g 1 (by omega), g 2 (by omega), g 3 (by omega)⟩
 ·
  exact ⟨Rw.same (OwnRw.rw (ho.cols t ht)) (fun _ _ => rfl) (fun b hb => hin b (.inr ⟨t, ht, .inl hb⟩)), Rw.same (OwnRw.rw (ho.ints t ht)) (fun _ _ => rfl) (fun b hb => hin b (.inr ⟨t, ht, .inr hb⟩))⟩)
theorem ats_rd {w : World} {B : Nat → Prop} {q : Option Addr} {L : List At} (h : Ats w B q L) (cp : Nat) : Rd w B (dAtomS L) (.slice q L.length cp) := by
 refine ⟨q, cp, rfl, ?_⟩; rcases h with h | ⟨b, off, e, hb, hc⟩
 ·
  exact .inl h
 ·
  refine .inr ⟨b, off, e, hb, by omega, fun i j hi hj => ?_⟩; rw [lsF_at hi]; rcases (by omega : j = 0 ∨ j = 1 ∨ j = 2) with rfl | rfl | rfl
  ·
   exact ⟨_, by rw [Nat.add_assoc]; exact hc (i * 3 + 0) (by omega), by rw [Nat.add_zero, atF0 hi]; rfl⟩
  ·
   exact ⟨_, by rw [Nat.add_assoc]; exact hc (i * 3 + 1) (by omega), by rw [atF1 hi]; rfl⟩
  ·
   exact ⟨_, by rw [Nat.add_assoc]; exact hc (i * 3 + 2) (by omega), by rw [atF2 hi]; rfl⟩
theorem keepF {b : Nat} {o : Obj} (h : W.heap[b]? = some o) (hF : Frm (· = p) W W') (hb : b ≠ p) : W'.heap[b]? = some o := by rw [hF.block b (Array.getElem?_eq_some_iff.1 h).1 hb]; exact h
theorem frm_over {A W1 W2 : World} (hF : Frm (· = p) A W1) {b : Nat} (hb : A.heap.size ≤ b) (hG : Frm (· = b) W1 W2) : Frm (· = p) A W2 :=
 ⟨hG.os.trans hF.os, hG.tape.trans hF.tape, hG.output.trans hF.output, Nat.le_trans hF.size hG.size, fun x hx hn => (hG.block x (Nat.lt_of_lt_of_le hx hF.size) (show ¬ x = b by omega)).trans (hF.block x hx hn)⟩
structure DL (V W : World) (p S : Nat) (a : Option Addr) (l : List UInt8) (c m : Nat) (T : TypeId) (n : Nat) (f : Nat → Nat → D) (k : Nat) (v : Value) : Prop where
 src : ∃ s, Src W p S a l c m s
 fr : Frm (· = p) V W
 pl : p < V.heap.size
 sg : SG W V.heap.size (V.heap.size ≤ ·) T n f k v
variable {T : TypeId} {n : Nat} {f f' : Nat → Nat → D} {k : Nat} {v : Value}
theorem DL.draw (h : DL V W p S a l c m T n f k v) (hF : Frm (· = p) W W') (hS : ∃ s', Src W' p S a l c m' s') : DL V W' p S a l c m' T n f k v :=
 ⟨hS, h.fr.trans hF, h.pl, h.sg.frmP hF (fun g hg => by have := h.sg.low hg; have := h.pl; omega) (fun b hb => by have := h.pl; omega)⟩
theorem DL.later (h : DL V W p S a l c m T n f k v) (hB : Below W.heap.size W W') : DL V W' p S a l c m T n f k v := by
 obtain ⟨s, hs⟩ := h.src; exact h.draw (Frm.of_below hB) ⟨s, hs.on hB⟩
theorem DL.push {P : Program} (h : DL V W p S a l c m T n f k v) (hf : ∀ i j, i < k → f' i j = f i j) (t ty : TypeId) (i : TypeInfo) (z : Value) (bytes : Nat) (ht : P.underlying t = some (.slice T)) (hi : P.info? T = some i) (hz : i.zero = some z)
  (hsize : i.size = n) (hby : i.bytes = bytes) (hzs : z.cells.size = n) (hn : 0 < n) (ad : Addr) (cc : Nat) (news : List Value) (hl : news.length = n) (hnews : ∀ j u, news[j]? = some u → W.cell? (ad.add j) = some u) (h1 : ∀ u ∈ news, u.oneCell' = true)
  (h63 : k + 1 ≤ maxLen) (hbytes : (k + 1) * bytes ≤ 140737488355328) (hrd : ∀ j, j < n → ∃ u, news[j]? = some u ∧ Rd W (fun b => (v.ownBlock ≠ some b ∧ b < W.heap.size) ∧ V.heap.size ≤ b) (f' k j) u) :
  ∃ a' c' W', (Builtin.append_ #[t, t] ty #[v, .slice (some ad) 1 cc]).run P W = .ok (.slice a' (k + 1) c') W' ∧ DL V W' p S a l c m T n f' (k + 1) (.slice a' (k + 1) c') := by
 obtain ⟨s, hs⟩ := h.src; have hp := h.pl; have hsg : SG W V.heap.size (V.heap.size ≤ ·) T n f' k v := h.sg.conv hf (fun _ _ hx => hx); obtain ⟨a', c', w', hr, h2, h3, -⟩ := hsg.push (P := P) t ty i z bytes ht hi hz hsize hby hzs hn ad cc news hl hnews h1 h63 hbytes h.fr.size hrd; have hFg : Frm (fun b => v.ownBlock = some b) W w' := ⟨h3.os, h3.tape, h3.output, h3.size, fun b hb hn => h3.block b hb (fun e => hn e.symm)⟩; refine ⟨a', c', w', hr, ⟨s, hs.frm hFg (fun e => by have := h.sg.low e; omega) (fun b hb e => by have := h.sg.low e; have := hs.le; omega)⟩, ?_, hp, h2⟩; exact ⟨h3.os.trans h.fr.os, h3.tape.trans h.fr.tape, h3.output.trans h.fr.output, Nat.le_trans h.fr.size h3.size, fun b hb hn => (hFg.block b (Nat.lt_of_lt_of_le hb h.fr.size) (fun e => by have := h.sg.low e; omega)).trans (h.fr.block b hb hn)⟩
theorem at_leK {x : At} (hk : 1 ≤ x.k ∧ x.k ≤ 4) (h : atOK x = true) : ∀ j, j < 3 → (dAtom x j).le 1048576 := fun j hj => by
  rcases (by omega : j = 0 ∨ j = 1 ∨ j = 2) with rfl | rfl | rfl
  · exact (dk_le (L := [x]) hk ⟨by first | exact rise_one x | exact ⟨by intro i j hi hj; simp at hj; omega⟩ | simp [Rise], fun y hy => by rw [List.mem_singleton.1 hy]; exact ⟨rfl, h⟩⟩ (by simp)).1.2.2 0 0 (by simp) (by omega)
  · exact (dk_le (L := [x]) hk ⟨by first | exact rise_one x | exact ⟨by intro i j hi hj; simp at hj; omega⟩ | simp [Rise], fun y hy => by rw [List.mem_singleton.1 hy]; exact ⟨rfl, h⟩⟩ (by simp)).1.2.2 0 1 (by simp) (by omega)
  · have := atOK_text h; show x.t.length ≤ 1048576; omega
theorem ats_leK {L : List At} (hl : L.length ≤ 1048576) (h : ∀ x ∈ L, (1 ≤ x.k ∧ x.k ≤ 4) ∧ atOK x = true) : (dAtomS L).le 1048576 := Ls_le.2 ⟨by omega, hl, fun i hi j hj => by
 have hx := h _ (List.getElem_mem hi); exact at_leK hx.1 hx.2 j hj⟩
end Go.Proofs.YtlbcaaodkggohaaGreatDoor
namespace Go.Proofs.YtlbcaaodkggohaaGreatDoor
open Go.RowKit
set_option linter.unusedSimpArgs false
def allocs (w : World) : List Obj → World
 | [] => w
 | o :: l => allocs (w.alloc o) l
theorem allocs_size : ∀ (bs : List Obj) (w : World), (allocs w bs).heap.size = w.heap.size + bs.length
 | [], _ => rfl
 | o :: l, w => by
  have h := allocs_size l (w.alloc o); rw [size_allocD] at h; show (allocs (w.alloc o) l).heap.size = _
  rw [h, List.length_cons]; omega
theorem allocs_below : ∀ (bs : List Obj) (w : World), Below w.heap.size w (allocs w bs)
 | [], _ => Below.refl _ _
 | o :: l, w => (below_allocD w o).trans ((allocs_below l (w.alloc o)).mono (by simp))
theorem allocs_at : ∀ (bs : List Obj) (w : World) (i : Nat) (o : Obj), bs[i]? = some o → (allocs w bs).heap[w.heap.size + i]? = some o
 | [], _, i, o, h => by simp at h
 | x :: l, w, 0, o, h => by
  simp only [List.getElem?_cons_zero, Option.some.injEq] at h; subst h; exact heap_keptD (heap_newD w x) (allocs_below l (w.alloc x))
 | x :: l, w, i + 1, o, h => by
  rw [List.getElem?_cons_succ] at h; have h2 := allocs_at l (w.alloc x) i o h; rw [size_allocD] at h2; rw [show w.heap.size + (i + 1) = w.heap.size + 1 + i by omega]; exact h2
end Go.Proofs.YtlbcaaodkggohaaGreatDoor
