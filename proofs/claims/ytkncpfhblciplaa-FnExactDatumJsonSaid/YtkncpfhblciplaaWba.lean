import Derived.Test.YtkncpfhblciplaaWaz
import Derived.Test.YtkncpfhblciplaaWax
import Derived.Deep.CutRange
namespace Go.Proofs.Ytkncpfhblciplaa
open Go.RowKit
set_option linter.unusedSimpArgs false
theorem heap_new' (w : World) (o : Obj) {g : Nat} (h : g = w.heap.size) : (w.alloc o).heap[g]? = some o := by
  subst h
  show (w.heap.push o)[w.heap.size]? = some o
  simp
theorem run_append_keys0 (wx : World) (g : Nat) (ka : Option Addr) (kc : Nat) (ty : TypeId) :
    (Builtin.append_ #[25, 25] ty #[.slice (some ⟨g, 0, none⟩) 0 0, .slice ka 0 kc]).run Try.prog wx = .ok (.slice (some ⟨g, 0, none⟩) 0 0) wx := by
  obtain ⟨i9, hi9, hz9, hs9, hb9⟩ := info9'
  cases ka with
  | none => simp [Builtin.append_, run_underlying Try.underlying25, sizeOf, typeInfo, zeroValue, hi9, hz9, Builtin.lenOf, run_firstCells_none, storeCells]
  | some ad =>
    have hf := run_firstCells_some (P := Try.prog) wx 1 0 ad 0 kc [] rfl (fun j u h => by simp at h)
    simp [Builtin.append_, run_underlying Try.underlying25, sizeOf, typeInfo, zeroValue, hi9, hz9, hs9, Builtin.lenOf, storeCells, hf]
theorem step_append_keys0 {ops : Array Oper} {o : Oper} {a : Act} {w : World} {K : Act → World → Prop} {Q : Exit → Act → World → Prop} {E : Prop} (hgd : o.guard = none) (s x : Operand)
    (ho : o.op = .call { callee := .builtin .append, args := #[s, x], argTypes := #[25, 25] })
    (g : Nat) (ka : Option Addr) (kc : Nat) (hs : a.eval s = .slice (some ⟨g, 0, none⟩) 0 0) (hx : a.eval x = .slice ka 0 kc)
    (h : K (a.put o.dst (.slice (some ⟨g, 0, none⟩) 0 0)) w) :
    if Region.wanted o (yielded ops a.tmps) = true then Oper.wp Try.prog o a w K Q else E := by
  rw [if_pos (by simp [Region.wanted, hgd])]
  have hr := run_append_keys0 w g ka kc o.type
  unfold Oper.wp execOp
  simp only [ho, resolve, invoke, builtin, Sem.run_bind, Sem.run_pure, Result.andThen_ok, List.map_toArray, List.map_cons, List.map_nil, hs, hx, hr]
  exact h
theorem run_append_keys1 (wx : World) (g b off kc : Nat) (keys : List (List UInt8)) (ty : TypeId) (h0 : 0 < keys.length) (hl : keys.length ≤ 1048576) (hc : ∀ i (h : i < keys.length), wx.cell? ⟨b, off + i, none⟩ = some (.string ⟨keys[i].toArray⟩)) :
    ∃ arr cap, (Builtin.append_ #[25, 25] ty #[.slice (some ⟨g, 0, none⟩) 0 0, .slice (some ⟨b, off, none⟩) keys.length kc]).run Try.prog wx = .ok (.slice (some ⟨wx.heap.size, 0, none⟩) keys.length cap) (wx.drew.alloc (.cells arr 9)) ∧
      ∀ i (h : i < keys.length), arr[i]? = some (.string ⟨keys[i].toArray⟩) := by
  obtain ⟨i9, hi9, hz9, hs9, hb9⟩ := info9'
  have hr := run_append_grow (P := Try.prog) (w := wx) 25 ty 9 i9 _ Try.underlying25 hi9 hz9 ⟨g, 0, none⟩ 0 0 [] (by simp) (fun j u h => by simp at h) ⟨b, off, none⟩ keys.length kc (keys.map fun x => .string ⟨x.toArray⟩) (by simp [hs9]) (fun j u hj => by
        rw [List.getElem?_map, Option.map_eq_some_iff] at hj
        obtain ⟨x, hx, rfl⟩ := hj
        obtain ⟨hlt, rfl⟩ := List.getElem?_eq_some_iff.1 hx
        rw [Addr.add_mid]
        exact hc j hlt) (by omega) (by omega) (growslice_fits (by omega) (by rw [hb9]; omega))
  rw [Nat.zero_add] at hr
  refine ⟨_, _, hr, fun i hi => ?_⟩
  rw [Array.getElem?_append_left (by simp; omega)]
  simp [List.getElem?_map, List.getElem?_eq_getElem hi]
theorem step_append_keys1 {ops : Array Oper} {o : Oper} {a : Act} {w : World} {K : Act → World → Prop} {Q : Exit → Act → World → Prop} {E : Prop} (hgd : o.guard = none) (s x : Operand)
    (ho : o.op = .call { callee := .builtin .append, args := #[s, x], argTypes := #[25, 25] })
    (g b off kc : Nat) (keys : List (List UInt8)) (hs : a.eval s = .slice (some ⟨g, 0, none⟩) 0 0) (hx : a.eval x = .slice (some ⟨b, off, none⟩) keys.length kc)
    (h0 : 0 < keys.length) (hl : keys.length ≤ 1048576) (hc : ∀ i (h : i < keys.length), w.cell? ⟨b, off + i, none⟩ = some (.string ⟨keys[i].toArray⟩))
    (h : ∀ arr cap, Hid (∀ i (h : i < keys.length), arr[i]? = some (.string ⟨keys[i].toArray⟩)) → K (a.put o.dst (.slice (some ⟨w.heap.size, 0, none⟩) keys.length cap)) (w.drew.alloc (.cells arr 9))) :
    if Region.wanted o (yielded ops a.tmps) = true then Oper.wp Try.prog o a w K Q else E := by
  rw [if_pos (by simp [Region.wanted, hgd])]
  obtain ⟨arr, cap, hr, h2⟩ := run_append_keys1 w g b off kc keys o.type h0 hl hc
  unfold Oper.wp execOp
  simp only [ho, resolve, invoke, builtin, Sem.run_bind, Sem.run_pure, Result.andThen_ok, List.map_toArray, List.map_cons, List.map_nil, hs, hx, hr]
  exact h arr cap h2
theorem RJ.cells {w : World} {j : J} {B : Nat → Prop} {cs : List Value} (h : RJ w B j cs) : ∃ ka kc ia ic, cs = [.int .i64 j.k, .int .i64 j.n, .string ⟨j.t.toArray⟩, .slice ka j.keys.length kc, .slice ia j.items.length ic] := by
  rw [RJ_eq] at h
  obtain ⟨ka, kc, ia, ic, e, -⟩ := h
  exact ⟨ka, kc, ia, ic, e⟩
theorem keep4 {W0 W : World} {S t : Nat} {v0 v1 v2 v3 v4 : Value} (h0 : W0.heap[S]? = some (.cells #[v0, v1, v2, v3, v4] t)) (h : W.heap[S]? = W0.heap[S]?) :
    W.cell? ⟨S, 0, none⟩ = some v0 ∧ W.cell? ⟨S, 1, none⟩ = some v1 ∧ W.cell? ⟨S, 2, none⟩ = some v2 ∧ W.cell? ⟨S, 3, none⟩ = some v3 := by
  rw [h0] at h
  exact ⟨cell_at (o := 0) h rfl, cell_at (o := 1) h rfl, cell_at (o := 2) h rfl, cell_at (o := 3) h rfl⟩
variable {w W : World} {j : J} {S p g2 gk c' cap : Nat} {box : Array Value} {a' : Option Addr} {vi : Value} {arr : Array Value}
theorem rel0 (hk0 : j.keys.length = 0) (b2 : W.heap[p]? = some (.cells #[.int .i64 j.k, .int .i64 j.n, .string ⟨j.t.toArray⟩, .slice a' 0 c', .slice (some ⟨g2, 0, none⟩) 0 0] 28))
    (b0 : W.heap[S]? = some (.cells box 28)) (b1 : W.heap[S + 1]? = some (.cells zero5 28)) (bg : W.heap[g2]? = some (.cells #[] 28)) (hb : Below S w W) (hp : S + 1 + 1 ≤ p) (hg2 : S + 1 + 1 ≤ g2) (h4 : box[4]? = some vi) :
    ∃ box a' c' v X, box[4]? = some vi ∧ OwnInv w W j S p 0 box (.slice a' j.keys.length c') v a' [] X :=
  ⟨box, a', c', _, fun _ => False, h4, OwnInv.start b0 b1 (by rw [hk0]; exact b2) bg hp hg2 (fun e => by subst e; rw [bg] at b2; simp at b2) (fun _ h => h.elim) (.inl hk0) hb⟩
theorem rel1 (harr : ∀ i (h : i < j.keys.length), arr[i]? = some (.string ⟨j.keys[i].toArray⟩)) (b2 : W.heap[p]? = some (.cells #[.int .i64 j.k, .int .i64 j.n, .string ⟨j.t.toArray⟩, .slice (some ⟨gk, 0, none⟩) j.keys.length cap, .slice (some ⟨g2, 0, none⟩) 0 0] 28))
    (b0 : W.heap[S]? = some (.cells box 28)) (b1 : W.heap[S + 1]? = some (.cells zero5 28)) (bg : W.heap[g2]? = some (.cells #[] 28)) (bk : W.heap[gk]? = some (.cells arr 9)) (hb : Below S w W) (hp : S + 1 + 1 ≤ p) (hg2 : S + 1 + 1 ≤ g2) (hgk : S + 1 + 1 ≤ gk) (h4 : box[4]? = some vi) :
    ∃ box a' c' v X, box[4]? = some vi ∧ OwnInv w W j S p 0 box (.slice a' j.keys.length c') v a' [] X :=
  ⟨box, _, cap, _, fun c => c = gk, h4, OwnInv.start b0 b1 b2 bg hp hg2 (fun e => by subst e; rw [bg] at b2; simp at b2) (fun c h => by
      subst h
      exact ⟨hgk, (Array.getElem?_eq_some_iff.1 bk).1, fun e => by subst e; rw [bk] at b2; simp at b2, fun e => by subst e; rw [bk] at bg; simp at bg⟩)
    (.inr ⟨gk, 0, rfl, rfl, fun i hi => by rw [Nat.zero_add]; simp [World.cell?, bk, harr i hi]⟩) hb⟩
set_option maxRecDepth 100000 in
set_option maxHeartbeats 6400000 in
theorem ownS (j : J) : OwnSaid j := by
  induction j using J.induct with
  | h j ih =>
    intro cs B w hz hr
    rw [RJ_eq] at hr
    obtain ⟨ka, kc, ia, ic, rfl, ht, hkl, hil, hkx, hk, hi⟩ := hr
    have hsz := J.sz_eq j
    have hk20 : j.keys.length ≤ 1048576 := by unfold szK at hsz; omega
    have hi20 : j.items.length ≤ 1048576 := by omega
    obtain ⟨iJ, hiJ⟩ := infoJ
    have HIJ : Hid (Try.prog.info? 28 = some iJ ∧ iJ.zero = some (.agg zero5) ∧ iJ.size = 5 ∧ iJ.bytes = 80) := hiJ
    have HZ : Hid (∀ x ∈ j.items, x.sz ≤ 1048576) := fun x hx => Nat.le_trans (J.sz_item j x hx) hz
    have HI : Hid (Jsons w B ia j.items) := hi
    have HK : Hid (Strs w B ka j.keys) := hk
    have HT : Hid (j.t.length ≤ maxLen) := ht
    have HKX : Hid (∀ x ∈ j.keys, x.length ≤ maxLen) := hkx
    have IH : Hid (∀ x ∈ j.items, OwnSaid x) := ih
    clear hi hk hkl hil hkx ih hsz ht hz hiJ
    obtain ⟨W0, hW0⟩ : ∃ W0, W0 = ((w.alloc (.cells #[.int .i64 j.k, .int .i64 j.n, .string ⟨j.t.toArray⟩, .slice ka j.keys.length kc, .slice ia j.items.length ic] 28)).alloc (.cells #[.int .i64 0, .int .i64 0, .string ⟨#[]⟩, .slice none 0 0, .slice none 0 0] 28)) := ⟨_, rfl⟩
    obtain ⟨b0, b1, -, hBW⟩ := two (w := w) (w4 := W0) (by rw [hW0]; exact Below.refl _ _)
    have hS0 : W0.heap.size = w.heap.size + 1 + 1 := by rw [hW0]; simp
    have x0 := cell_at (o := 0) b0 rfl
    have x1 := cell_at (o := 1) b0 rfl
    have x2 := cell_at (o := 2) b0 rfl
    have x3 := cell_at (o := 3) b0 rfl
    have HB0 : Hid (W0.heap[w.heap.size]? = _) := b0
    have HB1 : Hid (W0.heap[w.heap.size + 1]? = _) := b1
    have HBW : Hid (Below w.heap.size w W0) := hBW
    clear b0 b1 hBW
    go_enter Try.func40, Try.ntmps40
    go_upto_region 1 with fail
    rw [← hW0]
    clear hW0
    have hHK : Hid (∀ W, Below w.heap.size W0 W → Strs W B ka j.keys) := fun W h => HK.out.later (HBW.out.trans h)
    go_cut [3] from 3 to 16 (fun s wx => ∃ p : Nat, s = .pointer (some ⟨p, 0, none⟩) ∧ Hid (∃ box a' c' v X, box[4]? = some (.slice ia j.items.length ic) ∧ OwnInv w wx j w.heap.size p 0 box (.slice a' j.keys.length c') v a' [] X))
    case first =>
      by_cases hk0 : j.keys.length = 0
      · have HK0 : Hid (j.keys.length = 0) := hk0
        rw [hk0] at x3
        rw [hk0] at HB0
        clear hk0
        go_region_held3 (fun w' => w'.cell? ⟨w.heap.size, 0, none⟩ = some (.int .i64 j.k) ∧ w'.cell? ⟨w.heap.size, 1, none⟩ = some (.int .i64 j.n) ∧ w'.cell? ⟨w.heap.size, 2, none⟩ = some (.string ⟨j.t.toArray⟩) ∧ w'.cell? ⟨w.heap.size, 3, none⟩ = some (.slice ka 0 kc))
        (first
          | (refine keep4 HB0.out ?_
             repeat (first
               | rfl
               | refine (Below.heap_alloc _ _ _ (by first | omega | (simp [hS0]; done) | (simp [hS0]; omega))).trans ?_
               | refine (Below.heap_setCell _ _ _ _ (by first | omega | (simp [hS0]; done) | (simp [hS0]; omega))).trans ?_)))
          ((refine step_append_keys0 rfl (.tmp 11) (.tmp 13) rfl _ ka kc (by rfl) (by rfl) ?_))
        all_goals go_wp2_with fail
        all_goals go_meet
        all_goals
          exact ⟨_, rfl, rel0 HK0.out (by
              repeat (first
                | exact HB0.out
                | exact HB1.out
                | exact heap_new' _ _ (by first | omega | (simp [hS0]; done) | (simp [hS0]; omega))
                | refine (Below.heap_alloc _ _ _ (by first | omega | (simp [hS0]; done) | (simp [hS0]; omega))).trans ?_)) (by
              repeat (first
                | exact HB0.out
                | exact HB1.out
                | exact heap_new' _ _ (by first | omega | (simp [hS0]; done) | (simp [hS0]; omega))
                | refine (Below.heap_alloc _ _ _ (by first | omega | (simp [hS0]; done) | (simp [hS0]; omega))).trans ?_)) (by
              repeat (first
                | exact HB0.out
                | exact HB1.out
                | exact heap_new' _ _ (by first | omega | (simp [hS0]; done) | (simp [hS0]; omega))
                | refine (Below.heap_alloc _ _ _ (by first | omega | (simp [hS0]; done) | (simp [hS0]; omega))).trans ?_)) (by
              repeat (first
                | exact HB0.out
                | exact HB1.out
                | exact heap_new' _ _ (by first | omega | (simp [hS0]; done) | (simp [hS0]; omega))
                | refine (Below.heap_alloc _ _ _ (by first | omega | (simp [hS0]; done) | (simp [hS0]; omega))).trans ?_)) (by
              repeat (first
                | exact HBW.out
                | refine Below.alloc ?_ (by first | omega | (simp [hS0]; done) | (simp [hS0]; omega)) _
                | refine Below.drew ?_)) (by omega) (by omega) rfl⟩
      · obtain ⟨bk, ok, rfl, hkc⟩ : ∃ b off, ka = some ⟨b, off, none⟩ ∧ ∀ i (h : i < j.keys.length), W0.cell? ⟨b, off + i, none⟩ = some (.string ⟨j.keys[i].toArray⟩) := by
          rcases hHK.out _ (Below.refl _ _) with h | ⟨b, off, ha, _, hc⟩
          · exact absurd h hk0
          · exact ⟨b, off, ha, hc⟩
        have HKC : Hid (∀ i (h : i < j.keys.length), W0.cell? ⟨bk, ok + i, none⟩ = some (.string ⟨j.keys[i].toArray⟩)) := hkc
        clear hkc
        go_region_held3 (fun w' => w'.cell? ⟨w.heap.size, 0, none⟩ = some (.int .i64 j.k) ∧ w'.cell? ⟨w.heap.size, 1, none⟩ = some (.int .i64 j.n) ∧ w'.cell? ⟨w.heap.size, 2, none⟩ = some (.string ⟨j.t.toArray⟩) ∧ w'.cell? ⟨w.heap.size, 3, none⟩ = some (.slice (some ⟨bk, ok, none⟩) j.keys.length kc))
        (first
          | (refine keep4 HB0.out ?_
             repeat (first
               | rfl
               | refine (Below.heap_alloc _ _ _ (by first | omega | (simp [hS0]; done) | (simp [hS0]; omega))).trans ?_
               | refine (Below.heap_setCell _ _ _ _ (by first | omega | (simp [hS0]; done) | (simp [hS0]; omega))).trans ?_)))
          ((refine step_append_keys1 rfl (.tmp 11) (.tmp 13) rfl _ bk ok kc j.keys (by rfl) (by rfl) (by omega) hk20 (fun i hi => (World.cell?_of_block (by
              repeat (first
                | rfl
                | refine (Below.heap_alloc _ _ _ (Nat.lt_of_lt_of_le (World.block_lt_of_cell? _ _ (HKC.out i hi)) (by first | omega | (simp; done) | (simp; omega)))).trans ?_))).trans (HKC.out i hi)) ?_; intro arr cap HARR))
        all_goals go_wp2_with fail
        all_goals go_meet
        all_goals
          exact ⟨_, rfl, rel1 HARR.out (by
              repeat (first
                | exact HB0.out
                | exact HB1.out
                | exact heap_new' _ _ (by first | omega | (simp [hS0]; done) | (simp [hS0]; omega))
                | refine (Below.heap_alloc _ _ _ (by first | omega | (simp [hS0]; done) | (simp [hS0]; omega))).trans ?_)) (by
              repeat (first
                | exact HB0.out
                | exact HB1.out
                | exact heap_new' _ _ (by first | omega | (simp [hS0]; done) | (simp [hS0]; omega))
                | refine (Below.heap_alloc _ _ _ (by first | omega | (simp [hS0]; done) | (simp [hS0]; omega))).trans ?_)) (by
              repeat (first
                | exact HB0.out
                | exact HB1.out
                | exact heap_new' _ _ (by first | omega | (simp [hS0]; done) | (simp [hS0]; omega))
                | refine (Below.heap_alloc _ _ _ (by first | omega | (simp [hS0]; done) | (simp [hS0]; omega))).trans ?_)) (by
              repeat (first
                | exact HB0.out
                | exact HB1.out
                | exact heap_new' _ _ (by first | omega | (simp [hS0]; done) | (simp [hS0]; omega))
                | refine (Below.heap_alloc _ _ _ (by first | omega | (simp [hS0]; done) | (simp [hS0]; omega))).trans ?_)) (by
              repeat (first
                | exact HB0.out
                | exact HB1.out
                | exact heap_new' _ _ (by first | omega | (simp [hS0]; done) | (simp [hS0]; omega))
                | refine (Below.heap_alloc _ _ _ (by first | omega | (simp [hS0]; done) | (simp [hS0]; omega))).trans ?_)) (by
              repeat (first
                | exact HBW.out
                | refine Below.alloc ?_ (by first | omega | (simp [hS0]; done) | (simp [hS0]; omega)) _
                | refine Below.drew ?_)) (by omega) (by omega) (by omega) rfl⟩
    case rest =>
      obtain ⟨p, rfl, HC0⟩ := hcut
      have hp2 : w.heap.size + 1 + 1 ≤ p := by
        obtain ⟨box, a', c', v, X, -, hv⟩ := HC0.out
        exact hv.lo
      obtain ⟨box, a', c', v, X, hbox, hv⟩ := HC0.out
      have HINV : Hid (∃ box v X, box[4]? = some (.slice ia j.items.length ic) ∧ OwnInv w wc j w.heap.size p 0 box (.slice a' j.keys.length c') v a' [] X) := ⟨box, v, X, hbox, hv⟩
      clear hbox hv HC0 hHK HB0 HB1 HBW x0 x1 x2 x3 hS0
      clear v box X
      go_wp2_with fail
      go_loopw [4] (fun i wr => ∃ m : Nat, m ≤ j.items.length ∧ i = .int .i64 m ∧ Hid (∃ box v xs X, box[4]? = some (.slice ia j.items.length ic) ∧ OwnInv w wr j w.heap.size p m box (.slice a' j.keys.length c') v a' xs X)) (fun i _ => j.items.length - (intOf i).toNat)
      case atStart =>
        obtain ⟨box, v, X, hbox, hv⟩ := HINV.out
        exact ⟨0, Nat.zero_le _, rfl, box, v, [], X, hbox, hv⟩
      case round =>
        obtain ⟨m, hm, rfl, HC⟩ := hrel
        by_cases hlt : m < j.items.length
        · obtain ⟨box, v, xs, X, hbox, hv⟩ := HC.out
          obtain ⟨va, vc, rfl⟩ := own_shape hv.row
          obtain ⟨b, off, kx, kcx, ix, icx, rfl, _, c0, c1, c2, c3, c4, hr⟩ := (HI.out.later hv.bel).item m hlt
          have HR : Hid (RJ wr B j.items[m] _) := hr
          have HV : Hid (OwnInv w wr j w.heap.size p m box (.slice a' j.keys.length c') (.slice va m vc) a' xs X) := hv
          have HIX : Hid (OwnSaid j.items[m]) := IH.out _ (List.getElem_mem hlt)
          have HZX : Hid (j.items[m].sz ≤ 1048576) := HZ.out _ (List.getElem_mem hlt)
          have x4 : wr.cell? ⟨w.heap.size, 4, none⟩ = some (.slice (some ⟨b, off, none⟩) j.items.length ic) := cell_at (o := 4) hv.b0 hbox
          have t4 : wr.cell? ⟨p, 4, none⟩ = some (.slice va m vc) := cell_at (o := 4) hv.b2 rfl
          have z4 : wr.frozen? ⟨p, 4, none⟩ = false := frozen_at 4 hv.b2
          have hki : (m : Int) < (j.items.length : Int) := by omega
          have HBX : Hid (box[4]? = some (.slice (some ⟨b, off, none⟩) j.items.length ic)) := hbox
          clear hr hv hbox
          generalize hX : j.items[m] = x at *
          have HX : Hid (j.items[m] = x) := hX
          clear hX
          have H63 : Hid (m + 1 ≤ maxLen) := by show m + 1 ≤ maxLen; unfold maxLen; omega
          have HBY : Hid ((m + 1) * 80 ≤ 140737488355328) := by show (m + 1) * 80 ≤ 140737488355328; omega
          go_wp2_with fail
          go_region_law (first
            | (refine step_append_own2 rfl (.tmp 25) (.tmp 32) 26 rfl (w.heap.size + 1 + 1) 28 iJ (.agg zero5) 5 80 Try.underlying26 HIJ.out.1 HIJ.out.2.1 HIJ.out.2.2.1 HIJ.out.2.2.2 rfl (Nat.lt_of_sub_eq_succ rfl) (.slice va m vc) m xs rfl ?_ ⟨w1.heap.size, 0, none⟩ 1 1 [.int .i64 x.k, .int .i64 x.n, .string ⟨x.t.toArray⟩, .slice kx2 x.keys.length kcx2, .slice ix2 x.items.length icx2] rfl rfl ?_ ?_ ?_ ?_ ?_ Nat.one_pos ?_
               exact HV.out.row1 HB1.out _
               exact news5 _ _ _ _ _ _ _
               exact ONE.out
               exact H63.out
               exact HBY.out
               exact HBA.out
               intro v' w2 hrow2 hgr2 hg2
               obtain ⟨va2, vc2, rfl⟩ := own_shape hrow2
               have t5 := cell_at (o := 4) (HV.out.t2 HB1.out hgr2) rfl
               have z5 := frozen_at 4 (HV.out.t2 HB1.out hgr2))
            | (go_simp; go_at_call 40; refine (HIX.out _ B _ HZX.out ?_).mono ?_; exact HR.out.later (by first | exact (Below.refl _ _).drew | exact Below.refl _ _); rintro e w1 ⟨cs', rfl, hJ, hB1⟩
               obtain ⟨kx2, kcx2, ix2, icx2, rfl⟩ := hJ.cells
               have HJ : Hid (RJ w1 (fun b => wr.heap.size ≤ b ∧ b < w1.heap.size) x _) := hJ
               have HB1 : Hid (Below wr.heap.size wr w1) := (Below.refl _ _).drew.trans hB1
               have t4' := cell_at (o := 4) (HV.out.t1 HB1.out) rfl
               have z4' := frozen_at 4 (HV.out.t1 HB1.out)
               have hlt1 : p < w1.heap.size := (Array.getElem?_eq_some_iff.1 (HV.out.t1 HB1.out)).1
               have HBA : Hid (w.heap.size + 1 + 1 ≤ (w1.alloc (.cells #[.int .i64 x.k, .int .i64 x.n, .string ⟨x.t.toArray⟩, .slice kx2 x.keys.length kcx2, .slice ix2 x.items.length icx2] 28)).heap.size) := by
                 show _ ≤ _
                 simp; omega
               have t4a : (w1.alloc (.cells #[.int .i64 x.k, .int .i64 x.n, .string ⟨x.t.toArray⟩, .slice kx2 x.keys.length kcx2, .slice ix2 x.items.length icx2] 28)).cell? ⟨p, 4, none⟩ = some (.slice va m vc) := cell_at (o := 4) (by rw [Below.heap_alloc _ _ _ hlt1]; exact HV.out.t1 HB1.out) rfl
               have ONE : Hid (∀ u ∈ [Value.int .i64 x.k, .int .i64 x.n, .string ⟨x.t.toArray⟩, .slice kx2 x.keys.length kcx2, .slice ix2 x.items.length icx2], u.oneCell' = true) := by
                 intro u hu
                 simp only [List.mem_cons, List.not_mem_nil, or_false] at hu
                 rcases hu with rfl | rfl | rfl | rfl | rfl <;> rfl
               clear hJ hB1))
          all_goals
            have HNX : Hid (∃ box v xs X, box[4]? = some (.slice (some ⟨b, off, none⟩) j.items.length ic) ∧ OwnInv w (w2.setCell ⟨p, 4, none⟩ (.slice va2 (m + 1) vc2)) j w.heap.size p (m + 1) box (.slice a' j.keys.length c') v a' xs X) := by
              exact ⟨box, _, _, _, HBX.out, HV.out.step hlt HB1.out hgr2 hrow2 hg2 rfl (by rw [HX.out]; exact HJ.out)⟩
            clear x4 t4 z4 c0 c1 c2 c3 c4 t4' z4' t4a t5 z5 hrow2 hgr2 hg2 hlt1
            go_wp2_with fail
            go_roundw
            case rel => exact ⟨m + 1, by omega, by go_num, HNX.out⟩
            case measure => simp [intOf]; omega
        · obtain ⟨box, v, xs, X, hbox, hv⟩ := HC.out
          have hmn : m = j.items.length := by omega
          obtain ⟨va, vc, rfl⟩ := own_shape hv.row
          have HV : Hid (OwnInv w wr j w.heap.size p m box (.slice a' j.keys.length c') (.slice va m vc) a' xs X) := hv
          have x4 : wr.cell? ⟨w.heap.size, 4, none⟩ = some (.slice ia j.items.length ic) := cell_at (o := 4) hv.b0 hbox
          have e0 := cell_at (o := 0) hv.b2 rfl
          have e1 := cell_at (o := 1) hv.b2 rfl
          have e2 := cell_at (o := 2) hv.b2 rfl
          have e3 := cell_at (o := 3) hv.b2 rfl
          have e4 := cell_at (o := 4) hv.b2 rfl
          have g0 := cell_at (o := 0) hv.b1 rfl
          have g1 := cell_at (o := 1) hv.b1 rfl
          have g2 := cell_at (o := 2) hv.b1 rfl
          have g3 := cell_at (o := 3) hv.b1 rfl
          have g4 := cell_at (o := 4) hv.b1 rfl
          have y0 := frozen_at 0 hv.b1
          have y1 := frozen_at 1 hv.b1
          have y2 := frozen_at 2 hv.b1
          have y3 := frozen_at 3 hv.b1
          have y4 := frozen_at 4 hv.b1
          have hki : decide ((m : Int) < (j.items.length : Int)) = false := by simp; omega
          clear hv hbox
          have HMN : Hid (m = j.items.length) := hmn
          clear hmn
          go_wp2_with fail
          refine bodyPost_ret (v := .agg #[.int .i64 j.k, .int .i64 j.n, .string ⟨j.t.toArray⟩, .slice a' j.keys.length c', .slice va m vc])
            (by simp [results, Try.results40, go_sem, g0, g1, g2, g3, g4]) rfl ⟨_, rfl, ?_, five_below HV.out.bel _ _ _ _ _⟩
          clear g0 g1 g2 g3 g4 y0 y1 y2 y3 y4 e0 e1 e2 e3 e4
          have hfin := HV.out
          have hmn := HMN.out
          subst hmn
          exact hfin.fin HT.out HKX.out (by unfold maxLen; omega) (by unfold maxLen; omega) (fun c hc => five_heap _ _ _ _ _ _ _ _ hc) (by simp [fiveSet, World.setCell])
end Go.Proofs.Ytkncpfhblciplaa
