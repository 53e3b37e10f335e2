import Derived.Test.YtooiejlbnddfmaaFSt2
namespace Go.Proofs.Ytooiejlbnddfmaa
open Go.RowKit
set_option linter.unusedSimpArgs false
/-- the specification's feed at work -/
structure SF (w : World) (W : World) (f : Fr) (out : List (List UInt8)) (v : Value) : Prop where
  bel : Below w.heap.size w W
  box : W.heap[w.heap.size]? = some (frB f)
  res : W.heap[w.heap.size + 1]? = some (frB fr0)
  ob : OB W (w.heap.size + 2) 9 v (sc out)
  sz : w.heap.size + 2 ≤ W.heap.size
variable {w W W' : World} {f g : Fr} {out out' : List (List UInt8)} {v v' : Value}
theorem SF.on (h : SF w W f out v) (hB : Below W.heap.size W W') : SF w W' f out v :=
  ⟨h.bel.trans (hB.mono h.bel.size), kept h.box hB, kept h.res hB, h.ob.same (fun g hg => hB.block g (h.ob.lt hg).2), Nat.le_trans h.sz hB.size⟩
/-- the framer is written -/
theorem SF.re (h : SF w W f out v) (hs : W'.heap.size = W.heap.size) (h1 : W'.os = W.os) (h2 : W'.tape = W.tape) (h3 : W'.output = W.output) (hk : ∀ k, k ≠ w.heap.size → W'.heap[k]? = W.heap[k]?) (hbox : W'.heap[w.heap.size]? = some (frB g)) : SF w W' g out v :=
  ⟨h.bel.trans ⟨h1, h2, h3, by rw [hs]; exact Nat.le_refl _, fun k hk' => hk k (by omega)⟩, hbox, by rw [hk _ (by omega)]; exact h.res, h.ob.same (fun q hq => hk q (by have := (h.ob.lt hq).1; omega)), by rw [hs]; exact h.sz⟩
def frCs (f : Fr) : Array Value := #[.string ⟨f.buf.toArray⟩, .int .i64 f.d, .bool f.q, .bool f.s, .bool f.c]
theorem SF.put1 (h : SF w W f out v) (o : Nat) (x : Value) (g : Fr) (hc : (frCs f).setIfInBounds o x = frCs g) : SF w (W.setCell ⟨w.heap.size, o, none⟩ x) g out v :=
  h.re (size_setO _ _ _ _) rfl rfl rfl (fun k hk => heap_setO _ _ _ _ _ hk) (by
    have := heap_setCell_same W w.heap.size o _ _ x h.box
    rw [this]
    exact congrArg (fun c => some (Obj.cells c 26)) hc)
theorem SF.put (h : SF w W f out v) (g : Fr) : SF w (((((W.setCell ⟨w.heap.size, 0, none⟩ (.string ⟨g.buf.toArray⟩)).setCell ⟨w.heap.size, 1, none⟩ (.int .i64 g.d)).setCell ⟨w.heap.size, 2, none⟩ (.bool g.q)).setCell ⟨w.heap.size, 3, none⟩ (.bool g.s)).setCell ⟨w.heap.size, 4, none⟩ (.bool g.c)) g out v :=
  ((((h.put1 0 _ ⟨g.buf, f.d, f.q, f.s, f.c⟩ rfl).put1 1 _ ⟨g.buf, g.d, f.q, f.s, f.c⟩ rfl).put1 2 _ ⟨g.buf, g.d, g.q, f.s, f.c⟩ rfl).put1 3 _ ⟨g.buf, g.d, g.q, g.s, f.c⟩ rfl).put1 4 _ g rfl
/-- a text more -/
theorem SF.push (h : SF w W f out v) (hb : OB W' (w.heap.size + 2) 9 v' (sc out')) (hg : Gr W v W' v') : SF w W' f out' v' := by
  have hne : ∀ k, k < w.heap.size + 2 → W'.heap[k]? = W.heap[k]? := fun k hk => hg.block k (by have := h.sz; omega) (fun e => by have := (h.ob.lt e).1; omega)
  exact ⟨h.bel.trans ⟨hg.os, hg.tape, hg.output, hg.size, fun k hk => hne k (by omega)⟩, by rw [hne _ (by omega)]; exact h.box, by rw [hne _ (by omega)]; exact h.res, hb, Nat.le_trans h.sz hg.size⟩
theorem SF.first (w : World) (f : Fr) : SF w (((w.alloc (frB f)).alloc (frB fr0)).alloc (.cells #[] 9)) f [] (.slice (some ⟨w.heap.size + 2, 0, none⟩) 0 0) := by
  have hb1 : Below w.heap.size w (w.alloc (frB f)) := (Below.refl _ _).alloc (Nat.le_refl _) _
  have hb2 : Below (w.alloc (frB f)).heap.size (w.alloc (frB f)) ((w.alloc (frB f)).alloc (frB fr0)) := (Below.refl _ _).alloc (Nat.le_refl _) _
  have hb3 : Below ((w.alloc (frB f)).alloc (frB fr0)).heap.size ((w.alloc (frB f)).alloc (frB fr0)) (((w.alloc (frB f)).alloc (frB fr0)).alloc (.cells #[] 9)) := (Below.refl _ _).alloc (Nat.le_refl _) _
  have e1 : (w.alloc (frB f)).heap.size = w.heap.size + 1 := by simp
  have e2 : ((w.alloc (frB f)).alloc (frB fr0)).heap.size = w.heap.size + 2 := by simp
  refine ⟨(hb1.trans (hb2.mono (by omega))).trans (hb3.mono (by omega)), kept (kept (heap_new' _ _) hb2) hb3, kept (by rw [← e1]; exact heap_new' _ _) hb3, ?_, by simp⟩
  have := OB.empty ((w.alloc (frB f)).alloc (frB fr0)) 9 (w.heap.size + 2) (by omega)
  rw [e2] at this
  exact this
theorem SF.fz (h : SF w W f out v) (o : Nat) : W.frozen? ⟨w.heap.size, o, none⟩ = false := frozen_at o h.box
theorem SF.fzr (h : SF w W f out v) (o : Nat) : W.frozen? ⟨w.heap.size + 1, o, none⟩ = false := frozen_at o h.res
/-- what a feed answers: the framer and the texts -/
def FdAns (w : World) (R : Fr × List (List UInt8)) (e : Ending) (w' : World) : Prop := ∃ a c, e = .returned (.tuple #[.agg #[.string ⟨R.1.buf.toArray⟩, .int .i64 R.1.d, .bool R.1.q, .bool R.1.s, .bool R.1.c], .slice a R.2.length c]) ∧ Below w.heap.size w w' ∧ OB w' w.heap.size 9 (.slice a R.2.length c) (sc R.2)
theorem SF.fin (h : SF w W f out v) (y0 y1 y2 y3 y4 : Value) : Below w.heap.size w (((((W.setCell ⟨w.heap.size + 1, 0, none⟩ y0).setCell ⟨w.heap.size + 1, 1, none⟩ y1).setCell ⟨w.heap.size + 1, 2, none⟩ y2).setCell ⟨w.heap.size + 1, 3, none⟩ y3).setCell ⟨w.heap.size + 1, 4, none⟩ y4) ∧ OB (((((W.setCell ⟨w.heap.size + 1, 0, none⟩ y0).setCell ⟨w.heap.size + 1, 1, none⟩ y1).setCell ⟨w.heap.size + 1, 2, none⟩ y2).setCell ⟨w.heap.size + 1, 3, none⟩ y3).setCell ⟨w.heap.size + 1, 4, none⟩ y4) w.heap.size 9 v (sc out) := by
  have hn : w.heap.size ≤ w.heap.size + 1 := Nat.le_succ _
  refine ⟨((((h.bel.setCell hn y0).setCell hn y1).setCell hn y2).setCell hn y3).setCell hn y4, (h.ob.mono (by omega)).same (fun q hq => ?_)⟩
  have hk : q ≠ w.heap.size + 1 := by have := (h.ob.lt hq).1; omega
  rw [heap_setO _ _ _ _ _ hk, heap_setO _ _ _ _ _ hk, heap_setO _ _ _ _ _ hk, heap_setO _ _ _ _ _ hk, heap_setO _ _ _ _ _ hk]
theorem zf_cell {W : World} {k : Nat} (h : W.heap[k]? = some (.cells #[.string ⟨#[]⟩, .int .i64 0, .bool false, .bool false, .bool false] 26)) : W.cell? ⟨k, 0, none⟩ = some (.string ⟨#[]⟩) ∧ W.cell? ⟨k, 1, none⟩ = some (.int .i64 0) ∧ W.cell? ⟨k, 2, none⟩ = some (.bool false) ∧ W.cell? ⟨k, 3, none⟩ = some (.bool false) ∧ W.cell? ⟨k, 4, none⟩ = some (.bool false) ∧ W.frozen? ⟨k, 0, none⟩ = false ∧ W.frozen? ⟨k, 1, none⟩ = false ∧ W.frozen? ⟨k, 2, none⟩ = false ∧ W.frozen? ⟨k, 3, none⟩ = false ∧ W.frozen? ⟨k, 4, none⟩ = false :=
  ⟨cell_at (o := 0) h rfl, cell_at (o := 1) h rfl, cell_at (o := 2) h rfl, cell_at (o := 3) h rfl, cell_at (o := 4) h rfl, frozen_at 0 h, frozen_at 1 h, frozen_at 2 h, frozen_at 3 h, frozen_at 4 h⟩
set_option maxRecDepth 100000 in
set_option maxHeartbeats 6400000 in
theorem feedS (s : ByteArray) (f : Fr) (w : World) (hI : Inv f) (hl : s.size ≤ 10000000) :
    Calls Try.prog 20 #[.agg #[.string ⟨f.buf.toArray⟩, .int .i64 f.d, .bool f.q, .bool f.s, .bool f.c], .string s] w (FdAns w (feedL f s.data.toList)) := by
  have HIv := Lib.hid hI
  have H0 := Lib.hid (SF.first w f)
  have HL : Hid (∀ k, (feedL f (s.data.toList.take k)).2.length ≤ 100000000) := fun k => by
    have h1 := out_len f (s.data.toList.take k)
    have h2 : (s.data.toList.take k).length ≤ s.size := by rw [List.length_take]; exact Nat.le_trans (Nat.min_le_right _ _) (by simp)
    have := hI.len
    omega
  clear hI
  go_enter Try.func20, Try.ntmps20
  go_wp2_with fail
  go_loopw [6, 7] (fun o i wr => ∃ k : Nat, ∃ a c n, k ≤ s.size ∧ i = .int .i64 k ∧ o = .slice a n c ∧ Hid (n = (feedL f (s.data.toList.take k)).2.length ∧ SF w wr (feedL f (s.data.toList.take k)).1 (feedL f (s.data.toList.take k)).2 (.slice a n c))) (fun _ i _ => s.size - (intOf i).toNat)
  case atStart => exact ⟨0, _, _, _, Nat.zero_le _, rfl, rfl, by simp [feedL], by rw [List.take_zero]; exact H0.out⟩
  case round =>
    obtain ⟨k, a, c, n, hk, rfl, rfl, HS⟩ := hrel
    obtain ⟨g, hg⟩ : ∃ g, g = (feedL f (s.data.toList.take k)).1 := ⟨_, rfl⟩
    obtain ⟨o, ho⟩ : ∃ o, o = (feedL f (s.data.toList.take k)).2 := ⟨_, rfl⟩
    rw [← hg, ← ho] at HS
    obtain ⟨r0, r1, r2, r3, r4⟩ := frB_cell HS.out.2.res
    obtain ⟨x0, x1, x2, x3, x4⟩ := frB_cell HS.out.2.box
    have zr0 := HS.out.2.fzr 0; have zr1 := HS.out.2.fzr 1; have zr2 := HS.out.2.fzr 2; have zr3 := HS.out.2.fzr 3; have zr4 := HS.out.2.fzr 4
    have FIN : Hid (feedL f s.data.toList = (g, o) → ∀ W, Below w.heap.size w W → OB W w.heap.size 9 (.slice a n c) (sc o) → FdAns w (feedL f s.data.toList) (.returned (.tuple #[.agg #[.string ⟨g.buf.toArray⟩, .int .i64 g.d, .bool g.q, .bool g.s, .bool g.c], .slice a n c])) W) := fun he W hB hO => by
      rw [he]
      have e := HS.out.1
      refine ⟨a, c, ?_, hB, ?_⟩
      · dsimp only; rw [← e]
      · dsimp only; rw [← e]; exact hO
    by_cases hlt : k < s.size
    · have hki : (k : Int) < (s.size : Int) := by omega
      cases hc : g.c
      case true =>
        have HE : Hid (feedL f s.data.toList = (g, o)) := by
          show _ = _
          rw [feed_stop f s.data.toList k (by rw [← hg]; exact hc), hg, ho]
        rw [hc] at x4
        clear hg ho
        go_wp2_with fail
        rw [← hc] at x4 ⊢
        exact bodyPost_ret (v := .tuple #[.agg #[.string ⟨g.buf.toArray⟩, .int .i64 g.d, .bool g.q, .bool g.s, .bool g.c], .slice a n c]) (by simp [results, Try.results20, go_sem, r0, r1, r2, r3, r4]) rfl (FIN.out HE.out _ (HS.out.2.fin _ _ _ _ _).1 (HS.out.2.fin _ _ _ _ _).2)
      have HI2 : Hid (Inv g) := by show Inv g; rw [hg]; exact inv_feed HIv.out _
      have HN : Hid (feedL f (s.data.toList.take (k + 1)) = ((stepF g s[k]).1, o ++ (stepF g s[k]).2.toList)) := by
        have := feed_snoc f s.data.toList k (by simpa using hlt) (by rw [← hg]; exact hc)
        show _ = _
        rw [this, ← hg, ← ho]
        rfl
      have HO : Hid (o.length ≤ 100000000) := by show _ ≤ _; rw [ho]; exact HL.out k
      have HSS := Lib.hid (step_same HI2.out hc s[k])
      have HC : Hid (g.c = false) := hc
      rw [← HSS.out] at HN
      clear hg ho HSS
      unfold stepS at HN
      obtain ⟨G, hG⟩ : ∃ G, G = byteS g s[k] := ⟨_, rfl⟩
      have BY : Hid (∀ W, Calls Try.prog 24 #[.agg #[.string ⟨g.buf.toArray⟩, .int .i64 g.d, .bool g.q, .bool g.s, .bool false], .int .u8 (s[k].toNat : Int)] W (ByAns W G.1 G.2)) := fun W => by
        have := byteSI (w := W) s[k] HI2.out hc
        rw [hc, ← hG] at this
        exact this
      rw [← hG] at HN
      rw [hc] at x4
      clear hG hc FIN
      obtain ⟨⟨gb, gd, gq, gs, gc⟩, ge⟩ := G
      dsimp only at *
      have HN0 : Hid ((World.drew (wr.alloc (.cells #[.string ⟨#[]⟩, .int .i64 0, .bool false, .bool false, .bool false] 26))).heap[wr.heap.size]? = some (.cells #[.string ⟨#[]⟩, .int .i64 0, .bool false, .bool false, .bool false] 26)) := heap_new' wr _
      have HLE : Hid (wr.heap.size ≤ (World.drew (wr.alloc (.cells #[.string ⟨#[]⟩, .int .i64 0, .bool false, .bool false, .bool false] 26))).heap.size) := by show wr.heap.size ≤ (wr.alloc (.cells #[.string ⟨#[]⟩, .int .i64 0, .bool false, .bool false, .bool false] 26)).heap.size; simp
      obtain ⟨xz0, xz1, xz2, xz3, xz4⟩ := frB_cell (show SF w (wr.alloc (.cells #[.string ⟨#[]⟩, .int .i64 0, .bool false, .bool false, .bool false] 26)) g o (.slice a n c) from HS.out.2.on ((Below.refl _ _).alloc (Nat.le_refl _) _)).box
      rw [HC.out] at xz4
      have hnew : ¬ wr.heap.size = w.heap.size := by have := HS.out.2.sz; omega
      have hnew' : ¬ w.heap.size = wr.heap.size := by have := HS.out.2.sz; omega
      have HNL : Hid ((o ++ [gb]).length = n + 1) := by show _ = _; rw [HS.out.1]; simp
      have HOL : Hid (o.length + [gb].length ≤ 1000000000) := by have := HO.out; show _ ≤ _; simp; omega
      cases ge
      · go_wp2_with fail
        go_region_with (go_at_call 24; refine (BY.out _).mono ?_; rintro e w4 ⟨rfl, hB4⟩; have HB4 := Lib.hid hB4; (first | ((with_reducible have hb4 := kept HN0.out hB4); obtain ⟨p0, p1, p2, p3, p4, q0, q1, q2, q3, q4⟩ := zf_cell hb4; clear hB4) | clear hB4))
        all_goals first
          | (have H4 : SF w w4 g o (.slice a n c) := HS.out.2.on ((Below.refl wr.heap.size wr).drew.trans (show Below wr.heap.size (World.drew wr) w4 from HB4.out))
             have H5 : SF w (w4.alloc (.cells #[.string ⟨gb.toArray⟩, .int .i64 gd, .bool gq, .bool gs, .bool gc] 26)) g o (.slice a n c) := HS.out.2.on (((Below.refl wr.heap.size wr).drew.trans (show Below wr.heap.size (World.drew wr) w4 from HB4.out)).alloc (Nat.le_trans (Nat.le_refl _) HB4.out.size) _)
             obtain ⟨t0, t1, t2, t3, t4⟩ := frB_cell H4.box
             have u0 := H4.fz 0; have u1 := H4.fz 1; have u2 := H4.fz 2; have u3 := H4.fz 3; have u4 := H4.fz 4
             obtain ⟨y0, y1, y2, y3, y4⟩ := frB_cell H5.box
             have z0 := H5.fz 0; have z1 := H5.fz 1; have z2 := H5.fz 2; have z3 := H5.fz 3; have z4 := H5.fz 4
             have H6 : Hid (SF w ((((((w4.alloc (.cells #[.string ⟨gb.toArray⟩, .int .i64 gd, .bool gq, .bool gs, .bool gc] 26)).setCell ⟨w.heap.size, 0, none⟩ (.string ⟨gb.toArray⟩)).setCell ⟨w.heap.size, 1, none⟩ (.int .i64 gd)).setCell ⟨w.heap.size, 2, none⟩ (.bool gq)).setCell ⟨w.heap.size, 3, none⟩ (.bool gs)).setCell ⟨w.heap.size, 4, none⟩ (.bool gc)) ⟨gb, gd, gq, gs, gc⟩ o (.slice a n c)) := H5.put ⟨gb, gd, gq, gs, gc⟩
             clear H5 H4 HB4
             go_wp2_with fail
             go_roundw
             case rel => exact ⟨k + 1, a, c, n, by omega, by go_num, rfl, by rw [HN.out]; simpa using HS.out.1, by rw [HN.out]; simpa using H6.out⟩
             case measure => simp [intOf]; omega)
          | (have H4 : SF w w4 g o (.slice a n c) := HS.out.2.on (((Below.refl wr.heap.size wr).alloc (Nat.le_refl _) (.cells #[.string ⟨#[]⟩, .int .i64 0, .bool false, .bool false, .bool false] 26)).drew.trans ((show Below (World.drew (wr.alloc (.cells #[.string ⟨#[]⟩, .int .i64 0, .bool false, .bool false, .bool false] 26))).heap.size (World.drew (wr.alloc (.cells #[.string ⟨#[]⟩, .int .i64 0, .bool false, .bool false, .bool false] 26))) w4 from HB4.out).mono HLE.out))
             have H5 : SF w (((((w4.setCell ⟨wr.heap.size, 0, none⟩ (.string ⟨gb.toArray⟩)).setCell ⟨wr.heap.size, 1, none⟩ (.int .i64 gd)).setCell ⟨wr.heap.size, 2, none⟩ (.bool gq)).setCell ⟨wr.heap.size, 3, none⟩ (.bool gs)).setCell ⟨wr.heap.size, 4, none⟩ (.bool gc)) g o (.slice a n c) := HS.out.2.on ((((((((Below.refl wr.heap.size wr).alloc (Nat.le_refl _) (.cells #[.string ⟨#[]⟩, .int .i64 0, .bool false, .bool false, .bool false] 26)).drew.trans ((show Below (World.drew (wr.alloc (.cells #[.string ⟨#[]⟩, .int .i64 0, .bool false, .bool false, .bool false] 26))).heap.size (World.drew (wr.alloc (.cells #[.string ⟨#[]⟩, .int .i64 0, .bool false, .bool false, .bool false] 26))) w4 from HB4.out).mono HLE.out)).setCell (Nat.le_refl _) _).setCell (Nat.le_refl _) _).setCell (Nat.le_refl _) _).setCell (Nat.le_refl _) _).setCell (Nat.le_refl _) _)
             obtain ⟨t0, t1, t2, t3, t4⟩ := frB_cell H4.box
             have u0 := H4.fz 0; have u1 := H4.fz 1; have u2 := H4.fz 2; have u3 := H4.fz 3; have u4 := H4.fz 4
             obtain ⟨y0, y1, y2, y3, y4⟩ := frB_cell H5.box
             have z0 := H5.fz 0; have z1 := H5.fz 1; have z2 := H5.fz 2; have z3 := H5.fz 3; have z4 := H5.fz 4
             have H6 : Hid (SF w ((((((((((w4.setCell ⟨wr.heap.size, 0, none⟩ (.string ⟨gb.toArray⟩)).setCell ⟨wr.heap.size, 1, none⟩ (.int .i64 gd)).setCell ⟨wr.heap.size, 2, none⟩ (.bool gq)).setCell ⟨wr.heap.size, 3, none⟩ (.bool gs)).setCell ⟨wr.heap.size, 4, none⟩ (.bool gc)).setCell ⟨w.heap.size, 0, none⟩ (.string ⟨gb.toArray⟩)).setCell ⟨w.heap.size, 1, none⟩ (.int .i64 gd)).setCell ⟨w.heap.size, 2, none⟩ (.bool gq)).setCell ⟨w.heap.size, 3, none⟩ (.bool gs)).setCell ⟨w.heap.size, 4, none⟩ (.bool gc)) ⟨gb, gd, gq, gs, gc⟩ o (.slice a n c)) := H5.put ⟨gb, gd, gq, gs, gc⟩
             clear H5 H4 HB4
             go_wp2_with fail
             go_roundw
             case rel => exact ⟨k + 1, a, c, n, by omega, by go_num, rfl, by rw [HN.out]; simpa using HS.out.1, by rw [HN.out]; simpa using H6.out⟩
             case measure => simp [intOf]; omega)
      · go_wp2_with fail
        go_region_with (go_at_call 24; refine (BY.out _).mono ?_; rintro e w4 ⟨rfl, hB4⟩; have HB4 := Lib.hid hB4; (first | ((with_reducible have hb4 := kept HN0.out hB4); obtain ⟨p0, p1, p2, p3, p4, q0, q1, q2, q3, q4⟩ := zf_cell hb4; clear hB4) | clear hB4))
        all_goals first
          | (have H4 : SF w w4 g o (.slice a n c) := HS.out.2.on ((Below.refl wr.heap.size wr).drew.trans (show Below wr.heap.size (World.drew wr) w4 from HB4.out))
             have H5 : SF w (w4.alloc (.cells #[.string ⟨gb.toArray⟩, .int .i64 gd, .bool gq, .bool gs, .bool gc] 26)) g o (.slice a n c) := HS.out.2.on (((Below.refl wr.heap.size wr).drew.trans (show Below wr.heap.size (World.drew wr) w4 from HB4.out)).alloc (Nat.le_trans (Nat.le_refl _) HB4.out.size) _)
             obtain ⟨t0, t1, t2, t3, t4⟩ := frB_cell H4.box
             have u0 := H4.fz 0; have u1 := H4.fz 1; have u2 := H4.fz 2; have u3 := H4.fz 3; have u4 := H4.fz 4
             obtain ⟨y0, y1, y2, y3, y4⟩ := frB_cell H5.box
             have z0 := H5.fz 0; have z1 := H5.fz 1; have z2 := H5.fz 2; have z3 := H5.fz 3; have z4 := H5.fz 4
             have H6 : Hid (SF w ((((((w4.alloc (.cells #[.string ⟨gb.toArray⟩, .int .i64 gd, .bool gq, .bool gs, .bool gc] 26)).setCell ⟨w.heap.size, 0, none⟩ (.string ⟨gb.toArray⟩)).setCell ⟨w.heap.size, 1, none⟩ (.int .i64 gd)).setCell ⟨w.heap.size, 2, none⟩ (.bool gq)).setCell ⟨w.heap.size, 3, none⟩ (.bool gs)).setCell ⟨w.heap.size, 4, none⟩ (.bool gc)) ⟨gb, gd, gq, gs, gc⟩ o (.slice a n c)) := H5.put ⟨gb, gd, gq, gs, gc⟩
             clear H5 H4 HB4
             have H7 := Lib.hid (H6.out.on ((Below.refl _ _).alloc (Nat.le_refl _) (.cells #[.string ⟨gb.toArray⟩] 9)))
             have NS := Lib.hid (news_str ((((((w4.alloc (.cells #[.string ⟨gb.toArray⟩, .int .i64 gd, .bool gq, .bool gs, .bool gc] 26)).setCell ⟨w.heap.size, 0, none⟩ (.string ⟨gb.toArray⟩)).setCell ⟨w.heap.size, 1, none⟩ (.int .i64 gd)).setCell ⟨w.heap.size, 2, none⟩ (.bool gq)).setCell ⟨w.heap.size, 3, none⟩ (.bool gs)).setCell ⟨w.heap.size, 4, none⟩ (.bool gc)) gb 9)
             rw [show ((((((w4.alloc (.cells #[.string ⟨gb.toArray⟩, .int .i64 gd, .bool gq, .bool gs, .bool gc] 26)).setCell ⟨w.heap.size, 0, none⟩ (.string ⟨gb.toArray⟩)).setCell ⟨w.heap.size, 1, none⟩ (.int .i64 gd)).setCell ⟨w.heap.size, 2, none⟩ (.bool gq)).setCell ⟨w.heap.size, 3, none⟩ (.bool gs)).setCell ⟨w.heap.size, 4, none⟩ (.bool gc)).heap.size = w4.heap.size + 1 by simp] at NS
             go_wp2_with (at_builtin; refine wpList_pushS rfl (.tmp 32) (.tmp 35) rfl (w.heap.size + 2) (.slice a n c) o [gb] ⟨w4.heap.size + 1, 0, none⟩ 1 1 rfl rfl rfl (n + 1) HNL.out H7.out.ob H7.out.sz HOL.out (Nat.zero_lt_one) NS.out ?_; intro a2 c2 w7 hb7 hg7; have H8 := Lib.hid (H7.out.push hb7 hg7); obtain ⟨v0, v1, v2, v3, v4⟩ := frB_cell H8.out.box; have m0 := H8.out.fz 0; have m1 := H8.out.fz 1; have m2 := H8.out.fz 2; have m3 := H8.out.fz 3; have m4 := H8.out.fz 4; clear hb7 hg7)
             go_roundw
             case rel => exact ⟨k + 1, a2, c2, n + 1, by omega, by go_num, rfl, by rw [HN.out]; exact HNL.out.symm, by rw [HN.out]; exact H8.out.put fr0⟩
             case measure => simp [intOf]; omega)
          | (have H4 : SF w w4 g o (.slice a n c) := HS.out.2.on (((Below.refl wr.heap.size wr).alloc (Nat.le_refl _) (.cells #[.string ⟨#[]⟩, .int .i64 0, .bool false, .bool false, .bool false] 26)).drew.trans ((show Below (World.drew (wr.alloc (.cells #[.string ⟨#[]⟩, .int .i64 0, .bool false, .bool false, .bool false] 26))).heap.size (World.drew (wr.alloc (.cells #[.string ⟨#[]⟩, .int .i64 0, .bool false, .bool false, .bool false] 26))) w4 from HB4.out).mono HLE.out))
             have H5 : SF w (((((w4.setCell ⟨wr.heap.size, 0, none⟩ (.string ⟨gb.toArray⟩)).setCell ⟨wr.heap.size, 1, none⟩ (.int .i64 gd)).setCell ⟨wr.heap.size, 2, none⟩ (.bool gq)).setCell ⟨wr.heap.size, 3, none⟩ (.bool gs)).setCell ⟨wr.heap.size, 4, none⟩ (.bool gc)) g o (.slice a n c) := HS.out.2.on ((((((((Below.refl wr.heap.size wr).alloc (Nat.le_refl _) (.cells #[.string ⟨#[]⟩, .int .i64 0, .bool false, .bool false, .bool false] 26)).drew.trans ((show Below (World.drew (wr.alloc (.cells #[.string ⟨#[]⟩, .int .i64 0, .bool false, .bool false, .bool false] 26))).heap.size (World.drew (wr.alloc (.cells #[.string ⟨#[]⟩, .int .i64 0, .bool false, .bool false, .bool false] 26))) w4 from HB4.out).mono HLE.out)).setCell (Nat.le_refl _) _).setCell (Nat.le_refl _) _).setCell (Nat.le_refl _) _).setCell (Nat.le_refl _) _).setCell (Nat.le_refl _) _)
             obtain ⟨t0, t1, t2, t3, t4⟩ := frB_cell H4.box
             have u0 := H4.fz 0; have u1 := H4.fz 1; have u2 := H4.fz 2; have u3 := H4.fz 3; have u4 := H4.fz 4
             obtain ⟨y0, y1, y2, y3, y4⟩ := frB_cell H5.box
             have z0 := H5.fz 0; have z1 := H5.fz 1; have z2 := H5.fz 2; have z3 := H5.fz 3; have z4 := H5.fz 4
             have H6 : Hid (SF w ((((((((((w4.setCell ⟨wr.heap.size, 0, none⟩ (.string ⟨gb.toArray⟩)).setCell ⟨wr.heap.size, 1, none⟩ (.int .i64 gd)).setCell ⟨wr.heap.size, 2, none⟩ (.bool gq)).setCell ⟨wr.heap.size, 3, none⟩ (.bool gs)).setCell ⟨wr.heap.size, 4, none⟩ (.bool gc)).setCell ⟨w.heap.size, 0, none⟩ (.string ⟨gb.toArray⟩)).setCell ⟨w.heap.size, 1, none⟩ (.int .i64 gd)).setCell ⟨w.heap.size, 2, none⟩ (.bool gq)).setCell ⟨w.heap.size, 3, none⟩ (.bool gs)).setCell ⟨w.heap.size, 4, none⟩ (.bool gc)) ⟨gb, gd, gq, gs, gc⟩ o (.slice a n c)) := H5.put ⟨gb, gd, gq, gs, gc⟩
             clear H5 H4 HB4
             have H7 := Lib.hid (H6.out.on ((Below.refl _ _).alloc (Nat.le_refl _) (.cells #[.string ⟨gb.toArray⟩] 9)))
             have NS := Lib.hid (news_str ((((((((((w4.setCell ⟨wr.heap.size, 0, none⟩ (.string ⟨gb.toArray⟩)).setCell ⟨wr.heap.size, 1, none⟩ (.int .i64 gd)).setCell ⟨wr.heap.size, 2, none⟩ (.bool gq)).setCell ⟨wr.heap.size, 3, none⟩ (.bool gs)).setCell ⟨wr.heap.size, 4, none⟩ (.bool gc)).setCell ⟨w.heap.size, 0, none⟩ (.string ⟨gb.toArray⟩)).setCell ⟨w.heap.size, 1, none⟩ (.int .i64 gd)).setCell ⟨w.heap.size, 2, none⟩ (.bool gq)).setCell ⟨w.heap.size, 3, none⟩ (.bool gs)).setCell ⟨w.heap.size, 4, none⟩ (.bool gc)) gb 9)
             rw [show ((((((((((w4.setCell ⟨wr.heap.size, 0, none⟩ (.string ⟨gb.toArray⟩)).setCell ⟨wr.heap.size, 1, none⟩ (.int .i64 gd)).setCell ⟨wr.heap.size, 2, none⟩ (.bool gq)).setCell ⟨wr.heap.size, 3, none⟩ (.bool gs)).setCell ⟨wr.heap.size, 4, none⟩ (.bool gc)).setCell ⟨w.heap.size, 0, none⟩ (.string ⟨gb.toArray⟩)).setCell ⟨w.heap.size, 1, none⟩ (.int .i64 gd)).setCell ⟨w.heap.size, 2, none⟩ (.bool gq)).setCell ⟨w.heap.size, 3, none⟩ (.bool gs)).setCell ⟨w.heap.size, 4, none⟩ (.bool gc)).heap.size = w4.heap.size by simp] at NS
             go_wp2_with (at_builtin; refine wpList_pushS rfl (.tmp 32) (.tmp 35) rfl (w.heap.size + 2) (.slice a n c) o [gb] ⟨w4.heap.size, 0, none⟩ 1 1 rfl rfl rfl (n + 1) HNL.out H7.out.ob H7.out.sz HOL.out (Nat.zero_lt_one) NS.out ?_; intro a2 c2 w7 hb7 hg7; have H8 := Lib.hid (H7.out.push hb7 hg7); obtain ⟨v0, v1, v2, v3, v4⟩ := frB_cell H8.out.box; have m0 := H8.out.fz 0; have m1 := H8.out.fz 1; have m2 := H8.out.fz 2; have m3 := H8.out.fz 3; have m4 := H8.out.fz 4; clear hb7 hg7)
             go_roundw
             case rel => exact ⟨k + 1, a2, c2, n + 1, by omega, by go_num, rfl, by rw [HN.out]; exact HNL.out.symm, by rw [HN.out]; exact H8.out.put fr0⟩
             case measure => simp [intOf]; omega)
    · have hmi : decide ((k : Int) < (s.size : Int)) = false := by simp; omega
      have HE : Hid (feedL f s.data.toList = (g, o)) := by
        show _ = _
        rw [hg, ho, List.take_of_length_le (by simp; exact Nat.le_of_not_lt hlt)]
      clear hg ho
      go_wp2_with fail
      exact bodyPost_ret (v := .tuple #[.agg #[.string ⟨g.buf.toArray⟩, .int .i64 g.d, .bool g.q, .bool g.s, .bool g.c], .slice a n c]) (by simp [results, Try.results20, go_sem, r0, r1, r2, r3, r4]) rfl (FIN.out HE.out _ (HS.out.2.fin _ _ _ _ _).1 (HS.out.2.fin _ _ _ _ _).2)
end Go.Proofs.Ytooiejlbnddfmaa
