import Derived.Test.YtgpoigkfoliflaaGreatDoorZab
import Derived.Test.YtgpoigkfoliflaaGreatDoorZbt
import Derived.Test.YtgpoigkfoliflaaGreatDoorZac
namespace Go.Proofs.YtgpoigkfoliflaaGreatDoor
open Go.RowKit
theorem lsF_snocM {α : Type} {d : α → Nat → D} {L : List α} {x : α} : (∀ i j, i < L.length → lsF d (L ++ [x]) i j = lsF d L i j) ∧ ∀ j, lsF d (L ++ [x]) L.length j = d x j := by
  refine ⟨fun i j hi => ?_, fun j => ?_⟩
  · rw [lsF_at (by simp; omega), lsF_at hi, List.getElem_append_left hi]
  · rw [lsF_at (by simp)]; simp
end Go.Proofs.YtgpoigkfoliflaaGreatDoor
namespace Go.Proofs.YtgpoigkfoliflaaGreatDoor
open Go.RowKit
set_option linter.unusedSimpArgs false
theorem infoMut : ∃ i, Tryz.prog.info? 49 = some i ∧ i.zero = some (.agg #[.string ⟨#[]⟩, .int .i64 0, .slice none 0 0]) ∧ i.size = 3 ∧ i.bytes = 48 := by
  have h : (Tryz.prog.info? 49).map (fun i => (i.zero, i.size, i.bytes)) = some (some (.agg #[.string ⟨#[]⟩, .int .i64 0, .slice none 0 0]), 3, 48) := by kernel_rfl
  obtain ⟨i, hi, hzz⟩ := Option.map_eq_some_iff.1 h
  simp only [Prod.mk.injEq] at hzz
  exact ⟨i, hi, hzz⟩
variable {V W W' : World} {p S : Nat} {a : Option Addr} {l : List UInt8} {c m m' s : Nat} {v : Value} {L : List MutV}
theorem DL.mut {x : MutV} {va : Option Addr} {vc : Nat} (h : DL V W p S a l c m 49 3 (lsF dMut L) L.length v) (hF : Frm (· = p) W W') (hS : ∃ s', Src W' p S a l c m' s') (hr : Rd W' (fun b => W.heap.size ≤ b ∧ b < W'.heap.size) (dAtomS x.val) (.slice va x.val.length vc)) (hL : L.length ≤ 1000) :
    ∃ a' c' W2, (Builtin.append_ #[40, 40] 40 #[v, .slice (some ⟨W'.heap.size, 0, none⟩) 1 1]).run Tryz.prog (W'.alloc (.cells #[.string ⟨x.col.toArray⟩, .int .i64 x.fn, .slice va x.val.length vc] 49)) = .ok (.slice a' (L.length + 1) c') W2 ∧ DL V W2 p S a l c m' 49 3 (lsF dMut (L ++ [x])) (L.length + 1) (.slice a' (L.length + 1) c') := by
  obtain ⟨i, hi, hz, hsz, hby⟩ := infoMut
  have hA := below_allocD W' (.cells #[.string ⟨x.col.toArray⟩, .int .i64 x.fn, .slice va x.val.length vc] 49)
  have hn := heap_newD W' (.cells #[.string ⟨x.col.toArray⟩, .int .i64 x.fn, .slice va x.val.length vc] 49)
  have h2 := (h.draw hF hS).later hA
  refine h2.push (P := Tryz.prog) (f' := lsF dMut (L ++ [x])) lsF_snocM.1 _ _ i _ 48 Tryz.underlying40 hi hz hsz hby rfl (by omega) _ _ [.string ⟨x.col.toArray⟩, .int .i64 x.fn, .slice va x.val.length vc] rfl ?_ ?_ (by unfold maxLen; omega) (by omega) ?_
  · intro j u hj
    have hj3 := (List.getElem?_eq_some_iff.1 hj).1
    rcases (by simp at hj3; omega : j = 0 ∨ j = 1 ∨ j = 2) with rfl | rfl | rfl
    · cases hj; exact cell_at (o := 0) hn rfl
    · cases hj; exact cell_at (o := 1) hn rfl
    · cases hj; exact cell_at (o := 2) hn rfl
  · intro u hu
    simp only [List.mem_cons, List.not_mem_nil, or_false] at hu
    rcases hu with rfl | rfl | rfl <;> rfl
  · intro j hj
    rw [lsF_snocM.2]
    rcases (by omega : j = 0 ∨ j = 1 ∨ j = 2) with rfl | rfl | rfl
    · exact ⟨_, rfl, rfl⟩
    · exact ⟨_, rfl, rfl⟩
    · refine ⟨_, rfl, (hr.later hA).mono (fun b hb => ⟨⟨fun e => by have := (h.sg.low e).2; omega, Nat.lt_of_lt_of_le hb.2 hA.size⟩, ?_⟩)⟩
      have := h.fr.size
      omega
def MutsW (w : World) (e : Ending) (w' : World) : Prop := ∃ (L : List MutV) (va : Option Addr) (vc : Nat), e = .returned (.slice va L.length vc) ∧ L.length ≤ 3 ∧ (∀ x ∈ L, mutB x = true) ∧ (dMutS L).le 1048576 ∧ Rd w' (fun b => w.heap.size ≤ b ∧ b < w'.heap.size) (dMutS L) (.slice va L.length vc) ∧ Below w.heap.size w w'
set_option maxRecDepth 100000 in
set_option maxHeartbeats 6400000 in
theorem mutsOfS (l : List UInt8) (a : Option Addr) (c t S : Nat) (w : World) (ht : t < 3) (hS : S ≤ w.heap.size) (hb : Byts w (· < S) a l) :
    Calls Tryz.prog 7 #[.slice a l.length c, .int .i64 (t : Int)] w (MutsW w) := by
  have NW := Lib.hid (srcNew (c := c) w hS hb)
  have MV : Hid (∀ W mm, (∃ s, Src W w.heap.size S a l c mm s) → mm < 900000 → Calls Tryz.prog 19 #[.pointer (some ⟨w.heap.size, 0, none⟩), .int .i64 (t : Int)] W (MutA W w.heap.size S a l c mm)) := fun W mm ⟨s, h⟩ hm => srcMut t ht h hm
  clear hb hS ht
  go_enter Tryz.func7, Tryz.ntmps7
  go_wp2_with fail
  refine NW.out.mono ?_
  rintro e w1 ⟨s1, rfl, hs1, hB1⟩
  have hw1 : w.heap.size < w1.heap.size := (Array.getElem?_eq_some_iff.1 hs1.box).1
  have HA := Lib.hid (below_allocD w1 (.cells #[] 49))
  have N4 : Hid (Calls Tryz.prog 18 #[.pointer (some ⟨w.heap.size, 0, none⟩), .int .i64 4] (w1.alloc (.cells #[] 49)) (NextAns (w1.alloc (.cells #[] 49)) w.heap.size S a l c 0 4)) := srcNext (hs1.on HA.out) (by omega) 4 (by omega) (by omega)
  have D0 : Hid (∀ w2, Frm (· = w.heap.size) (w1.alloc (.cells #[] 49)) w2 → (∃ s, Src w2 w.heap.size S a l c 1 s) → DL w1 w2 w.heap.size S a l c 1 49 3 (lsF dMut []) 0 (.slice (some ⟨w1.heap.size, 0, none⟩) 0 0)) := fun w2 hF hS2 => by
    have h0 : DL w1 (w1.alloc (.cells #[] 49)) w.heap.size S a l c 0 49 3 (lsF dMut []) 0 (.slice (some ⟨w1.heap.size, 0, none⟩) 0 0) := ⟨⟨s1, hs1.on HA.out⟩, Frm.of_below HA.out, hw1, SG.start (Nat.le_refl _) (heap_newD _ _)⟩
    exact h0.draw hF hS2
  have HB := Lib.hid (And.intro hB1 hw1)
  clear hs1 NW hB1 hw1
  go_wp2_with fail
  refine N4.out.mono ?_
  rintro e w2 ⟨r, s2, rfl, hr, hS2, hF2⟩
  have D1 := Lib.hid (D0.out w2 hF2 ⟨s2, hS2⟩)
  have HR := Lib.hid hr
  clear hS2 hF2 hr D0 N4 HA
  go_wp2_with fail
  go_loopg [6, 7] r (fun g o i wr => ∃ (j mm : Nat) (L : List MutV) (va : Option Addr) (vc : Nat), j + g = r ∧ i = .int .i64 (g : Int) ∧ o = .slice va L.length vc ∧ Hid (DL w1 wr w.heap.size S a l c mm 49 3 (lsF dMut L) L.length (.slice va L.length vc) ∧ mm ≤ 1 + j * 20 ∧ L.length ≤ j ∧ ∀ x ∈ L, mutB x = true ∧ ∀ j, j < 3 → (dMut x j).le 1048576))
  case atStart => exact ⟨0, 1, [], _, _, by omega, rfl, rfl, D1.out, by omega, by simp, fun _ h => absurd h List.not_mem_nil⟩
  case round =>
    obtain ⟨j, mm, L, va, vc, hjg, rfl, rfl, HJ⟩ := hrel
    have HJG := Lib.hid hjg
    by_cases hg0 : gk = 0
    case pos =>
      subst hg0
      clear hjg
      go_wp2_with fail
      go_ret
      have h1 := HJ.out.1
      have hb := HB.out
      have hlen : L.length ≤ 3 := by have := HJ.out.2.2.1; have := HJG.out; have := HR.out; omega
      refine ⟨L, va, vc, rfl, hlen, fun x hx => (HJ.out.2.2.2 x hx).1, Ls_le.2 ⟨by omega, by omega, fun i hi j hj => (HJ.out.2.2.2 _ (List.getElem_mem hi)).2 j hj⟩, (h1.sg.rd (by omega) (fun g hg => (h1.sg.low hg).1)).mono (fun b hb2 => ⟨by have h5 : w1.heap.size ≤ b := hb2.1; omega, hb2.2⟩), ?_⟩
      exact hb.1.trans (h1.fr.below hb.1.size (fun b hb2 e => by have e' : b = w.heap.size := e; omega))
    obtain ⟨g', rfl⟩ : ∃ g', gk = g' + 1 := ⟨gk - 1, by omega⟩
    obtain ⟨i2, hi2⟩ : ∃ i2, i2 = g' + 1 := ⟨_, rfl⟩
    have d1 : decide (0 < (i2 : Int)) = true := decide_eq_true (by omega)
    have d2 : decide (0 < i2) = true := decide_eq_true (by omega)
    have f1 : IntKind.i64.wrap ((i2 : Int) - 1) = (g' : Int) := by have := HR.out; rw [IntKind.wrap_i64]; omega
    have HI2 := Lib.hid hi2
    have hmm : mm < 900000 := by have := HJ.out.2.1; have := HR.out; omega
    have M1 := Lib.hid (MV.out wr mm HJ.out.1.src hmm)
    rw [← hi2]
    clear hi2 hg0 hjg hmm
    go_wp2_with fail
    refine M1.out.mono ?_
    rintro e w3 ⟨x, xa, xc, m3, s3, rfl, hx1, hx2, hxr, hm3, hS3, hF3⟩
    obtain ⟨a9, c9, w9, hrun, hdl⟩ := HJ.out.1.mut hF3 ⟨s3, hS3⟩ hxr (by have := HJ.out.2.2.1; have := HJG.out; have := HR.out; omega)
    have HRUN := Lib.hid hrun
    have HDL : Hid (DL w1 w9 w.heap.size S a l c m3 49 3 (lsF dMut (L ++ [x])) (L ++ [x]).length (.slice a9 (L ++ [x]).length c9)) := by have := hdl; rw [List.length_append]; exact this
    have HXX : Hid ((mutB x = true ∧ ∀ j, j < 3 → (dMut x j).le 1048576) ∧ m3 ≤ mm + 20) := ⟨⟨hx1, hx2⟩, hm3⟩
    clear hrun hdl hx1 hx2 hxr hm3 hS3 hF3 M1
    go_wp2_with (at_builtin; go_must (refine wpList_append_is rfl (.tmp 17) (.tmp 21) 40 rfl _ _ rfl rfl _ _ HRUN.out ?_))
    go_roundg g'
    case measure => omega
    case rel => exact ⟨j + 1, m3, L ++ [x], a9, c9, by have := HJG.out; omega, by go_num, by rw [List.length_append]; rfl, HDL.out, by have := HJ.out.2.1; have := HXX.out.2; omega, by have := HJ.out.2.2.1; rw [List.length_append]; simp; omega, fun z hz => by rcases List.mem_append.1 hz with h1 | h1; exact HJ.out.2.2.2 z h1; rw [List.mem_singleton.1 h1]; exact HXX.out.1⟩
end Go.Proofs.YtgpoigkfoliflaaGreatDoor
