import Derived.Test.YtajhjjpanjpfoaaZam
import Derived.Test.YtajhjjpanjpfoaaZap
import Derived.Test.YtajhjjpanjpfoaaZat
import Derived.Test.YtajhjjpanjpfoaaZau
import Derived.Test.YtajhjjpanjpfoaaZbg
namespace Go.Proofs.Ytajhjjpanjpfoaa
open Go.RowKit
set_option linter.unusedSimpArgs false
variable {V W1 W W' : World} {p S : Nat} {a : Option Addr} {l : List UInt8} {c m m' s : Nat}
def ChanceW (W : World) (p S : Nat) (a : Option Addr) (l : List UInt8) (c m : Nat) (e : Ending) (W' : World) : Prop := ∃ (b : Bool) (s' : Nat), e = .returned (.bool b) ∧ Src W' p S a l c (m + 1) s' ∧ Frm (· = p) W W'
set_option maxHeartbeats 1600000 in
theorem srcChanceW (h : Src W p S a l c m s) (hm : m < 1000000) (n : Nat) (h1 : 1 < n) (h2 : n ≤ 256) :
    Calls Try.prog 36 #[.pointer (some ⟨p, 0, none⟩), .int .i64 (n : Int)] W (ChanceW W p S a l c m) := by
  have NX := Lib.hid (srcNext h hm n h1 h2)
  have hw : IntKind.i64.wrap ((n : Int) - 1) = (n : Int) - 1 := by rw [IntKind.wrap_i64]; omega
  clear h hm
  go_enter Try.func36, Try.ntmps36
  go_wp2_with fail
  refine NX.out.mono ?_
  rintro e w1 ⟨b, s', rfl, hb, hS, hF⟩
  have HS := Lib.hid hS
  have HF := Lib.hid hF
  clear hS hF hb
  go_wp2_with fail
  go_ret
  exact ⟨_, s', rfl, HS.out, HF.out⟩
def PlT (w : World) (e : Ending) (w' : World) : Prop := ∃ (A : Nat → Ad) (rb off : Nat), e = .returned (.agg #[.slice (some ⟨rb, off, none⟩) 3 3]) ∧ (∀ t, t < 3 → TabAt w' rb (off + t * 4) (plT t) (A t) ∧ (plT t).Has w' (fun b => w.heap.size ≤ b ∧ b < w'.heap.size) (A t).ca (A t).ua) ∧ Below w.heap.size w w'
theorem plainT (w : World) : Calls Try.prog 5 #[] w (PlT w) := (plainS w).mono (fun e w' ⟨A, rb, cb, ub, he, ho, _, hin, hB⟩ => by
  refine ⟨A, rb, 0, he, fun t ht => ⟨?_, ?_⟩, hB⟩
  · obtain ⟨b, off, e, hb, hc⟩ := Rw.at (OwnRw.rw ho.row) (t * 4) (by omega)
    cases e
    have g : ∀ j, j < 4 → w'.cell? ⟨rb, 0 + t * 4 + j, none⟩ = some ((tbC (plT t) (A t)).getD j undef) := fun j hj => by
      rw [Nat.add_assoc, hc _ (by omega), tF_at _ _ _ _ hj]
    exact ⟨g 0 (by omega), g 1 (by omega), g 2 (by omega), g 3 (by omega)⟩
  · exact ⟨Rw.same (OwnRw.rw (ho.cols t ht)) (fun _ _ => rfl) (fun b hb => hin b (.inr ⟨t, ht, .inl hb⟩)), Rw.same (OwnRw.rw (ho.ints t ht)) (fun _ _ => rfl) (fun b hb => hin b (.inr ⟨t, ht, .inr hb⟩))⟩)
theorem ats_rd {w : World} {B : Nat → Prop} {q : Option Addr} {L : List At} (h : Ats w B q L) (cp : Nat) : Rd w B (dAtomS L) (.slice q L.length cp) := by
  refine ⟨q, cp, rfl, ?_⟩
  rcases h with h | ⟨b, off, e, hb, hc⟩
  · exact .inl h
  · refine .inr ⟨b, off, e, hb, by omega, fun i j hi hj => ?_⟩
    rw [lsF_at hi]
    rcases (by omega : j = 0 ∨ j = 1 ∨ j = 2) with rfl | rfl | rfl
    · exact ⟨_, by rw [Nat.add_assoc]; exact hc (i * 3 + 0) (by omega), by rw [Nat.add_zero, atF0 hi]; rfl⟩
    · exact ⟨_, by rw [Nat.add_assoc]; exact hc (i * 3 + 1) (by omega), by rw [atF1 hi]; rfl⟩
    · exact ⟨_, by rw [Nat.add_assoc]; exact hc (i * 3 + 2) (by omega), by rw [atF2 hi]; rfl⟩
theorem keepF {b : Nat} {o : Obj} (h : W.heap[b]? = some o) (hF : Frm (· = p) W W') (hb : b ≠ p) : W'.heap[b]? = some o := by rw [hF.block b (Array.getElem?_eq_some_iff.1 h).1 hb]; exact h
theorem frm_over {A W1 W2 : World} (hF : Frm (· = p) A W1) {b : Nat} (hb : A.heap.size ≤ b) (hG : Frm (· = b) W1 W2) : Frm (· = p) A W2 :=
  ⟨hG.os.trans hF.os, hG.tape.trans hF.tape, hG.output.trans hF.output, Nat.le_trans hF.size hG.size, fun x hx hn => (hG.block x (Nat.lt_of_lt_of_le hx hF.size) (show ¬ x = b by omega)).trans (hF.block x hx hn)⟩
structure DL (V W : World) (p S : Nat) (a : Option Addr) (l : List UInt8) (c m : Nat) (T : TypeId) (n : Nat) (f : Nat → Nat → D) (k : Nat) (v : Value) : Prop where
  src : ∃ s, Src W p S a l c m s
  fr : Frm (· = p) V W
  pl : p < V.heap.size
  sg : SG W V.heap.size (V.heap.size ≤ ·) T n f k v
variable {T : TypeId} {n : Nat} {f f' : Nat → Nat → D} {k : Nat} {v : Value}
theorem DL.draw (h : DL V W p S a l c m T n f k v) (hF : Frm (· = p) W W') (hS : ∃ s', Src W' p S a l c m' s') : DL V W' p S a l c m' T n f k v :=
  ⟨hS, h.fr.trans hF, h.pl, h.sg.frmP hF (fun g hg => by have := h.sg.low hg; have := h.pl; omega) (fun b hb => by have := h.pl; omega)⟩
theorem DL.later (h : DL V W p S a l c m T n f k v) (hB : Below W.heap.size W W') : DL V W' p S a l c m T n f k v := by
  obtain ⟨s, hs⟩ := h.src
  exact h.draw (Frm.of_below hB) ⟨s, hs.on hB⟩
theorem DL.push {P : Program} (h : DL V W p S a l c m T n f k v) (hf : ∀ i j, i < k → f' i j = f i j) (t ty : TypeId) (i : TypeInfo) (z : Value) (bytes : Nat) (ht : P.underlying t = some (.slice T)) (hi : P.info? T = some i) (hz : i.zero = some z)
    (hsize : i.size = n) (hby : i.bytes = bytes) (hzs : z.cells.size = n) (hn : 0 < n) (ad : Addr) (cc : Nat) (news : List Value) (hl : news.length = n) (hnews : ∀ j u, news[j]? = some u → W.cell? (ad.add j) = some u) (h1 : ∀ u ∈ news, u.oneCell' = true)
    (h63 : k + 1 ≤ maxLen) (hbytes : (k + 1) * bytes ≤ 140737488355328) (hrd : ∀ j, j < n → ∃ u, news[j]? = some u ∧ Rd W (fun b => (v.ownBlock ≠ some b ∧ b < W.heap.size) ∧ V.heap.size ≤ b) (f' k j) u) :
    ∃ a' c' W', (Builtin.append_ #[t, t] ty #[v, .slice (some ad) 1 cc]).run P W = .ok (.slice a' (k + 1) c') W' ∧ DL V W' p S a l c m T n f' (k + 1) (.slice a' (k + 1) c') := by
  obtain ⟨s, hs⟩ := h.src
  have hp := h.pl
  have hsg : SG W V.heap.size (V.heap.size ≤ ·) T n f' k v := h.sg.conv hf (fun _ _ hx => hx)
  obtain ⟨a', c', w', hr, h2, h3, -⟩ := hsg.push (P := P) t ty i z bytes ht hi hz hsize hby hzs hn ad cc news hl hnews h1 h63 hbytes h.fr.size hrd
  have hFg : Frm (fun b => v.ownBlock = some b) W w' := ⟨h3.os, h3.tape, h3.output, h3.size, fun b hb hn => h3.block b hb (fun e => hn e.symm)⟩
  refine ⟨a', c', w', hr, ⟨s, hs.frm hFg (fun e => by have := h.sg.low e; omega) (fun b hb e => by have := h.sg.low e; have := hs.le; omega)⟩, ?_, hp, h2⟩
  exact ⟨h3.os.trans h.fr.os, h3.tape.trans h.fr.tape, h3.output.trans h.fr.output, Nat.le_trans h.fr.size h3.size, fun b hb hn => (hFg.block b (Nat.lt_of_lt_of_le hb h.fr.size) (fun e => by have := h.sg.low e; omega)).trans (h.fr.block b hb hn)⟩
theorem at_leK {x : At} (hk : 1 ≤ x.k ∧ x.k ≤ 4) (h : atOK x = true) : ∀ j, j < 3 → (dAtom x j).le 1048576 := fun j hj => by
  rcases (by omega : j = 0 ∨ j = 1 ∨ j = 2) with rfl | rfl | rfl
  · exact (dk_le (L := [x]) hk ⟨by first | exact rise_one x | exact ⟨by intro i j hi hj; simp at hj; omega⟩ | simp [Rise], fun y hy => by rw [List.mem_singleton.1 hy]; exact ⟨rfl, h⟩⟩ (by simp)).1.2.2 0 0 (by simp) (by omega)
  · exact (dk_le (L := [x]) hk ⟨by first | exact rise_one x | exact ⟨by intro i j hi hj; simp at hj; omega⟩ | simp [Rise], fun y hy => by rw [List.mem_singleton.1 hy]; exact ⟨rfl, h⟩⟩ (by simp)).1.2.2 0 1 (by simp) (by omega)
  · have := atOK_text h; show x.t.length ≤ 1048576; omega
theorem ats_leK {L : List At} (hl : L.length ≤ 1048576) (h : ∀ x ∈ L, (1 ≤ x.k ∧ x.k ≤ 4) ∧ atOK x = true) : (dAtomS L).le 1048576 := Ls_le.2 ⟨by omega, hl, fun i hi j hj => by
  have hx := h _ (List.getElem_mem hi)
  exact at_leK hx.1 hx.2 j hj⟩
end Go.Proofs.Ytajhjjpanjpfoaa
