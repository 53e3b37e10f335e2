import Derived.Test.YtgpoigkfoliflaaGreatDoorZab
import Derived.Test.YtgpoigkfoliflaaGreatDoorZah
import Derived.Test.YtgpoigkfoliflaaGreatDoorZae
import Derived.Test.YtgpoigkfoliflaaGreatDoorZas
namespace Go.Proofs.YtgpoigkfoliflaaGreatDoor
open Go.RowKit
set_option linter.unusedSimpArgs false
def dColumn (x : Cl) : Nat → D
  | 0 => .s x.nm
  | 1 => .i x.k
  | 2 => .i x.mn
  | 3 => .i x.mx
  | 4 => .i x.lo
  | 5 => .i x.hi
  | 6 => .s x.rf
  | _ => .b x.st
def dColumnS (l : List Cl) : D := Ls 8 dColumn l
def cInt (x : Int) : Nat → D := fun _ => .i x
def dIntS (l : List Int) : D := Ls 1 cInt l
end Go.Proofs.YtgpoigkfoliflaaGreatDoor
namespace Go.Proofs.YtgpoigkfoliflaaGreatDoor
open Go.RowKit
set_option linter.unusedSimpArgs false
theorem Rd.toRw {α : Type} {w : World} {B : Nat → Prop} {n : Nat} {d : α → Nat → D} {l : List α} {a : Option Addr} {c : Nat} (h : Rd w B (Ls n d l) (.slice a l.length c)) (hn : 0 < n) (F : Nat → Value) (hF : ∀ i (hi : i < l.length) j u, j < n → Rd w B (d l[i] j) u → u = F (i * n + j)) : Rw w B a (l.length * n) F := by
  by_cases h0 : l.length = 0
  · exact .inl (by rw [h0]; simp)
  obtain ⟨b, off, ha, hb, -⟩ := h.things 0 (by omega)
  subst ha
  refine .inr ⟨b, off, rfl, hb, fun m hm => ?_⟩
  have hi : m / n < l.length := by rw [Nat.div_lt_iff_lt_mul hn]; exact hm
  have hj : m % n < n := Nat.mod_lt _ hn
  obtain ⟨u, hu, hr⟩ := h.spotT hi hj
  rw [Nat.add_assoc, Nat.div_add_mod'] at hu
  rw [hu, hF _ hi _ u hj hr, Nat.div_add_mod']
theorem Rd.ats {w : World} {B : Nat → Prop} {l : List At} {a : Option Addr} {c : Nat} (h : Rd w B (dAtomS l) (.slice a l.length c)) : Ats w B a l := by
  have hr := Rd.toRw (d := dAtom) (n := 3) h (by omega) (atF l) (fun i hi j u hj hr => by
    rcases (by omega : j = 0 ∨ j = 1 ∨ j = 2) with rfl | rfl | rfl
    · rw [Nat.add_zero, atF0 hi]; exact hr
    · rw [atF1 hi]; exact hr
    · rw [atF2 hi]; exact hr)
  rcases hr with h0 | ⟨b, off, ha, hb, hc⟩
  · exact .inl (by omega)
  · exact .inr ⟨b, off, ha, hb, hc⟩
theorem Rd.cols {w : World} {B : Nat → Prop} {l : List Cl} {a : Option Addr} {c : Nat} (h : Rd w B (dColumnS l) (.slice a l.length c)) : Cols w B a l :=
  Rd.toRw (d := dColumn) (n := 8) h (by omega) (clF l) (fun i hi j u hj hr => by
    rw [clF_at hi hj]
    rcases (by omega : j = 0 ∨ j = 1 ∨ j = 2 ∨ j = 3 ∨ j = 4 ∨ j = 5 ∨ j = 6 ∨ j = 7) with rfl | rfl | rfl | rfl | rfl | rfl | rfl | rfl <;> exact hr)
theorem Rd.ints {w : World} {B : Nat → Prop} {l : List Int} {a : Option Addr} {c : Nat} (h : Rd w B (dIntS l) (.slice a l.length c)) : Ints w B a l := by
  have hr := Rd.toRw (d := cInt) (n := 1) h (by omega) (fun m => .int .i64 (l.getD m 0)) (fun i hi j u hj hr => by
    obtain rfl : j = 0 := by omega
    rw [Nat.mul_one, Nat.add_zero, List.getD_eq_getElem?_getD, List.getElem?_eq_getElem hi]; exact hr)
  rwa [Nat.mul_one] at hr
theorem Rd.sets {w : World} {B : Nat → Prop} {l : List (List At)} {a : Option Addr} {c : Nat} (h : Rd w B (dAtomSS l) (.slice a l.length c)) : ∃ X, Sets w B a l X := by
  have hp : ∀ i, ∃ ad : AdS, ∀ hi : i < l.length, ∀ u, Rd w B (cAtomS l[i] 0) u → (∀ b off, a = some ⟨b, off, none⟩ → w.cell? ⟨b, off + i, none⟩ = some u → u = .slice ad.a l[i].length ad.c ∧ Rd w B (dAtomS l[i]) (.slice ad.a l[i].length ad.c)) := fun i => by
    by_cases hi : i < l.length
    · obtain ⟨b, off, ha, -, hc⟩ := Rd.things (d := cAtomS) (n := 1) h i hi
      obtain ⟨u, hu, hr⟩ := hc 0 (by omega)
      replace hr : Rd w B (dAtomS l[i]) u := hr
      obtain ⟨a1, c1, rfl⟩ := hr.lsSlice
      rw [Nat.mul_one, Nat.add_zero] at hu
      refine ⟨⟨a1, c1⟩, fun _ u' _ b' off' ha' hu' => ?_⟩
      rw [ha] at ha'
      simp only [Option.some.injEq, Addr.mk.injEq, and_true] at ha'
      obtain ⟨rfl, rfl⟩ := ha'
      rw [hu] at hu'
      simp only [Option.some.injEq] at hu'
      exact ⟨hu'.symm, hr⟩
    · exact ⟨⟨none, 0⟩, fun hi' => absurd hi' hi⟩
  obtain ⟨X, hX⟩ := Classical.axiomOfChoice hp
  refine ⟨X, ?_, fun i hi => ?_⟩
  · by_cases h0 : l.length = 0
    · exact .inl h0
    obtain ⟨b, off, ha, hb, -⟩ := Rd.things (d := cAtomS) (n := 1) h 0 (by omega)
    refine .inr ⟨b, off, ha, hb, fun m hm => ?_⟩
    subst ha
    obtain ⟨u, hu, hr⟩ := Rd.spotT (d := cAtomS) (n := 1) h hm (j := 0) (by omega)
    rw [Nat.mul_one, Nat.add_zero] at hu
    rw [hu, (hX m hm u hr b off rfl hu).1]
    unfold setF
    rw [set_getD hm]
  · obtain ⟨b, off, ha, hb, hc⟩ := Rd.things (d := cAtomS) (n := 1) h i hi
    obtain ⟨u, hu, hr⟩ := hc 0 (by omega)
    rw [Nat.mul_one, Nat.add_zero] at hu
    exact (hX i hi u hr b off ha hu).2.ats
theorem le_atoms {l : List At} (h : (dAtomS l).le maxLen) : l.length ≤ maxLen ∧ ∀ x ∈ l, x.t.length ≤ maxLen := by
  refine ⟨(Ls_le.1 h).2.1, fun x hx => ?_⟩
  obtain ⟨i, hi, rfl⟩ := List.mem_iff_getElem.1 hx
  exact (Ls_le.1 h).2.2 i hi 2 (by omega)
theorem le_sets {l : List (List At)} (h : (dAtomSS l).le maxLen) : SetsOk l := by
  refine ⟨(Ls_le.1 h).2.1, fun s hs => ?_⟩
  obtain ⟨i, hi, rfl⟩ := List.mem_iff_getElem.1 hs
  exact le_atoms ((Ls_le.1 h).2.2 i hi 0 (by omega))
end Go.Proofs.YtgpoigkfoliflaaGreatDoor
namespace Go.Proofs.YtgpoigkfoliflaaGreatDoor
open Go.RowKit
set_option linter.unusedSimpArgs false
theorem set_at {α : Type} {l : List α} {k : Nat} {o : α} (h : k < l.length) : (l.set k o)[k]'(by simpa using h) = o := List.getElem_set_self _
theorem set_other {α : Type} {l : List α} {k i : Nat} {o : α} (h : i < l.length) (hn : i ≠ k) : (l.set k o)[i]'(by simpa using h) = l[i] := List.getElem_set_ne (fun e => hn e.symm) _
theorem lsF_set {cs : List (List At)} {k : Nat} {o : List At} (hk : k < cs.length) : lsF cAtomS (cs.set k o) k = cAtomS o := by rw [lsF_at (by simpa using hk), set_at hk]
theorem lsF_set_ne {cs : List (List At)} {k i : Nat} {o : List At} (hi : i < cs.length) (hn : i ≠ k) : lsF cAtomS (cs.set k o) i = lsF cAtomS cs i := by rw [lsF_at (by simpa using hi), lsF_at hi, set_other hi hn]
theorem SG.setA {w W : World} {base : Nat} {G : Nat → Prop} {T : TypeId} {cs : List (List At)} {g cap k : Nat} {o : List At} {a : Option Addr} {cp : Nat} (h : SG w base G T 1 (lsF cAtomS cs) cs.length (.slice (some ⟨g, 0, none⟩) cs.length cap)) (hB : Below w.heap.size w W) (hk : k < cs.length) (ho : Rd W (fun c => (c ≠ g ∧ c < W.heap.size) ∧ G c) (dAtomS o) (.slice a o.length cp)) :
    SG (W.setCell ⟨g, k, none⟩ (.slice a o.length cp)) base G T 1 (lsF cAtomS (cs.set k o)) (cs.set k o).length (.slice (some ⟨g, 0, none⟩) (cs.set k o).length cap) := by
  rw [List.length_set]
  obtain ⟨xs, h1, h2⟩ := h.later hB
  rcases h1.2 with ⟨e, -⟩ | ⟨g', cap', cur, e, hg, hh, r1, r2, r3, r4⟩
  · cases e
  simp only [Value.slice.injEq, Option.some.injEq, Addr.mk.injEq, and_true, true_and] at e
  obtain ⟨rfl, rfl⟩ := e
  have hs : (W.setCell ⟨g, k, none⟩ (.slice a o.length cp)).heap.size = W.heap.size := by simp [World.setCell]
  refine ⟨xs.set k (.slice a o.length cp), ⟨by simpa using h1.1, .inr ⟨g, cap, cur.setIfInBounds k (.slice a o.length cp), rfl, hg, heap_set k _ hh, r1, r2, by simpa using r3, ?_⟩⟩, fun i j hi hj => ?_⟩
  · rw [Array.toList_setIfInBounds, List.take_set, r4]
  obtain rfl : j = 0 := by omega
  have hxl : xs.length = cs.length := by simpa using h1.1
  rw [Nat.mul_one, Nat.add_zero]
  by_cases e : i = k
  · subst e
    refine ⟨_, by rw [List.getElem?_set_self (by omega)], ?_⟩
    rw [lsF_set hk]
    refine Rd.mono (ho.frm (frm_set _ _ _ _) (fun b hb e => hb.1.1 e)) (fun c hc => ⟨⟨?_, by rw [hs]; exact hc.1.2⟩, hc.2⟩)
    intro e2
    simp only [Value.ownBlock, Option.some.injEq] at e2
    exact hc.1.1 e2.symm
  · obtain ⟨u, hu, hr⟩ := h2 i 0 hi hj
    rw [Nat.mul_one, Nat.add_zero] at hu
    refine ⟨u, by rw [List.getElem?_set_ne (fun h => e h.symm)]; exact hu, ?_⟩
    rw [lsF_set_ne hi e]
    exact Rd.mono (hr.frm (frm_set _ _ _ _) (fun b hb e2 => by
      have e3 : b = g := e2
      subst e3
      exact hb.1.1 rfl)) (fun c hc => ⟨⟨hc.1.1, by rw [hs]; exact hc.1.2⟩, hc.2⟩)
theorem own_setA {w W : World} {cs : List (List At)} {q k c : Nat} {B N : Nat → Prop} {o : List At} {a : Option Addr} {cp : Nat} (h : Own w (dAtomSS cs) B (.slice (some ⟨q, 0, none⟩) cs.length c)) (hlt : ∀ b, B b → b < w.heap.size) (hB : Below w.heap.size w W) (hk : k < cs.length) (ho : Own W (dAtomS o) N (.slice a o.length cp)) (hN : ∀ b, N b → w.heap.size ≤ b) :
    Own (W.setCell ⟨q, k, none⟩ (.slice a o.length cp)) (dAtomSS (cs.set k o)) (fun b => B b ∨ N b) (.slice (some ⟨q, 0, none⟩) (cs.set k o).length c) := by
  obtain ⟨a0, c0, e, h⟩ := h.later hB
  rcases h with h | ⟨b, off, X, ha, hb, hn, hX, hd, hc⟩
  · omega
  simp only [Value.slice.injEq, true_and] at e
  obtain ⟨rfl, rfl⟩ := e
  simp only [Option.some.injEq, Addr.mk.injEq, and_true] at ha
  obtain ⟨rfl, rfl⟩ := ha
  have hNq : ∀ b, N b → ¬ B b := fun b h1 h2 => by have := hlt b h2; have := hN b h1; omega
  refine ⟨_, c, rfl, .inr ⟨q, 0, fun i j b => if i = k then j = 0 ∧ N b else X i j b, rfl, .inl hb, hn, ?_, ?_, fun i j hi hj => ?_⟩⟩
  · intro i j b h
    split at h
    · exact ⟨.inr h.2, fun e => hNq b h.2 (by rw [e]; exact hb)⟩
    · exact ⟨.inl (hX i j b h).1, (hX i j b h).2⟩
  · intro i j i' j' b h h'
    split at h
    · rename_i e1
      split at h'
      · rename_i e2; exact ⟨e1.trans e2.symm, h.1.trans h'.1.symm⟩
      · exact absurd (hX _ _ _ h').1 (hNq b h.2)
    · split at h'
      · exact absurd (hX _ _ _ h).1 (hNq b h'.2)
      · exact hd i j i' j' b h h'
  obtain rfl : j = 0 := by omega
  rw [List.length_set] at hi
  obtain ⟨u, hu, hz, hr⟩ := hc i 0 hi (by omega)
  rw [Nat.mul_one, Nat.zero_add, Nat.add_zero] at hu hz ⊢
  by_cases e : i = k
  · subst e
    refine ⟨.slice a o.length cp, by simp [World.cell?_setCell_same, hu], by simpa using hz, ?_⟩
    rw [lsF_set hk]
    exact Own.mono (B := N) (ho.frm (frm_set _ _ _ _) (fun b hb2 e => hNq b hb2 (by rw [show b = q from e]; exact hb))) (fun b hb2 => by show (if i = i then _ else _); rw [if_pos rfl]; exact ⟨rfl, hb2⟩)
  · refine ⟨u, ?_, by simpa using hz, ?_⟩
    · rw [World.cell?_setCell_other]
      · exact hu
      · simp <;> omega
    · rw [lsF_set_ne hi e]
      exact Own.mono (B := X i 0) (hr.frm (frm_set _ _ _ _) (fun b hb2 => (hX i 0 b hb2).2)) (fun b hb2 => by show (if i = k then _ else _); rw [if_neg e]; exact hb2)
theorem OwnAts.own {w : World} {B : Nat → Prop} {a : Option Addr} {l : List At} (h : OwnAts w B a l) (c : Nat) : Own w (dAtomS l) B (.slice a l.length c) := by
  refine ⟨a, c, rfl, ?_⟩
  rcases h with h | ⟨b, off, ha, hb, hc⟩
  · exact .inl h
  refine .inr ⟨b, off, fun _ _ _ => False, ha, hb, by omega, fun _ _ _ h => h.elim, fun _ _ _ _ _ h => h.elim, fun i j hi hj => ?_⟩
  obtain ⟨h1, h2⟩ := hc (i * 3 + j) (by omega)
  rw [← Nat.add_assoc] at h1 h2
  refine ⟨_, h1, h2, ?_⟩
  rw [lsF_at hi]
  rcases (by omega : j = 0 ∨ j = 1 ∨ j = 2) with rfl | rfl | rfl
  · rw [Nat.add_zero, atF0 hi]; rfl
  · rw [atF1 hi]; rfl
  · rw [atF2 hi]; rfl
theorem SG.at {wr : World} {base : Nat} {G : Nat → Prop} {T : TypeId} {cs : List (List At)} {v : Value} {k : Nat} (h : SG wr base G T 1 (lsF cAtomS cs) cs.length v) (hk : k < cs.length) : ∃ g cap da dc, v = .slice (some ⟨g, 0, none⟩) cs.length cap ∧ (base ≤ g ∧ g < wr.heap.size) ∧ wr.cell? ⟨g, k, none⟩ = some (.slice da cs[k].length dc) ∧ wr.frozen? ⟨g, k, none⟩ = false ∧ Rd wr (fun c => (c ≠ g ∧ c < wr.heap.size) ∧ G c) (dAtomS cs[k]) (.slice da cs[k].length dc) := by
  obtain ⟨xs, h1, h2⟩ := h
  rcases h1.2 with ⟨-, h0⟩ | ⟨g, cap, cur, rfl, hg, hh, r1, r2, r3, r4⟩
  · omega
  obtain ⟨u, hu, hr⟩ := h2 k 0 hk (by omega)
  rw [Nat.mul_one, Nat.add_zero, ← r4, Nat.mul_one, List.getElem?_take_of_lt hk, Array.getElem?_toList] at hu
  rw [lsF_at hk] at hr
  replace hr : Rd wr _ (dAtomS cs[k]) u := hr
  obtain ⟨da, dc, rfl⟩ := hr.lsSlice
  refine ⟨g, cap, da, dc, rfl, ⟨hg, (Array.getElem?_eq_some_iff.1 hh).1⟩, by simp [World.cell?, hh, hu], by simp [World.frozen?, hh], hr.mono (fun c hc => ⟨⟨fun e => hc.1.1 (by rw [e]; rfl), hc.1.2⟩, hc.2⟩)⟩
def RowAns (w : World) (x : RowV) (n : Int) (e : Ending) (w' : World) : Prop := ∃ ra rc, e = .returned (.tuple #[.agg #[.int .i64 x.id, .slice ra x.cells.length rc], .int .i64 n]) ∧ Rd w' (fun b => w.heap.size ≤ b ∧ b < w'.heap.size) (dAtomSS x.cells) (.slice ra x.cells.length rc) ∧ Below w.heap.size w w'
noncomputable def rokM (t : Tb) (r : RowV) : Bool := tabB t && rowB t r.id r.cells
theorem Rd.rowX {w : World} {B : Nat → Prop} {l : List (List At)} {a : Option Addr} {c : Nat} (h : Rd w B (dAtomSS l) (.slice a l.length c)) : ∃ X, Sets w (· < w.heap.size) a l X := h.lt.sets
structure MB3 (w W : World) (tc rc zc : Array Value) : Prop where
  tb : W.heap[w.heap.size]? = some (.cells tc 27)
  rb : W.heap[w.heap.size + 1]? = some (.cells rc 34)
  zr : W.heap[w.heap.size + 1 + 1]? = some (.cells zc 34)
  bel : Below w.heap.size w W
theorem MB3.later {w W W' : World} {tc rc zc : Array Value} (h : MB3 w W tc rc zc) (hB : Below W.heap.size W W') : MB3 w W' tc rc zc := ⟨heap_keptD h.tb hB, heap_keptD h.rb hB, heap_keptD h.zr hB, h.bel.trans (hB.mono h.bel.size)⟩
theorem mb3 (w : World) (tc rc zc : Array Value) : MB3 w (((w.alloc (.cells tc 27)).alloc (.cells rc 34)).alloc (.cells zc 34)) tc rc zc := by
  refine ⟨heap_keptD (heap_keptD (heap_newD _ _) (below_allocD _ _)) (below_allocD _ _), ?_, ?_, (((Below.refl _ _).alloc (Nat.le_refl _) _).alloc (by simp) _).alloc (by simp; omega) _⟩
  · have h := heap_newD (w.alloc (.cells tc 27)) (.cells rc 34)
    rw [size_allocD] at h
    exact heap_keptD h (below_allocD _ _)
  · have h := heap_newD ((w.alloc (.cells tc 27)).alloc (.cells rc 34)) (.cells zc 34)
    rw [size_allocD, size_allocD] at h
    exact h
def RowAnsO (w : World) (x : RowV) (n : Int) (e : Ending) (w' : World) : Prop := ∃ ra rc, e = .returned (.tuple #[.agg #[.int .i64 x.id, .slice ra x.cells.length rc], .int .i64 n]) ∧ Own w' (dAtomSS x.cells) (fun b => w.heap.size ≤ b ∧ b < w'.heap.size) (.slice ra x.cells.length rc) ∧ Below w.heap.size w w'
theorem own_atA {wr : World} {B : Nat → Prop} {cs : List (List At)} {q n k : Nat} (h : Own wr (dAtomSS cs) B (.slice (some ⟨q, 0, none⟩) cs.length n)) (hk : k < cs.length) : B q ∧ ∃ da dc, wr.cell? ⟨q, k, none⟩ = some (.slice da cs[k].length dc) ∧ wr.frozen? ⟨q, k, none⟩ = false ∧ Rd wr B (dAtomS cs[k]) (.slice da cs[k].length dc) := by
  obtain ⟨a0, c0, e, h⟩ := h
  rcases h with h | ⟨b, off, X, ha, hb, hn, hX, hd, hc⟩
  · omega
  simp only [Value.slice.injEq, true_and] at e
  obtain ⟨rfl, rfl⟩ := e
  simp only [Option.some.injEq, Addr.mk.injEq, and_true] at ha
  obtain ⟨rfl, rfl⟩ := ha
  obtain ⟨u, hu, hz, hr⟩ := hc k 0 hk (by omega)
  rw [Nat.mul_one, Nat.zero_add, Nat.add_zero] at hu hz
  rw [lsF_at hk] at hr
  replace hr : Own wr (dAtomS cs[k]) (X k 0) u := hr
  obtain ⟨da, dc, rfl⟩ := hr.rd'.lsSlice
  exact ⟨hb, da, dc, hu, hz, hr.rd'.mono (fun c h => (hX k 0 c h).1)⟩
end Go.Proofs.YtgpoigkfoliflaaGreatDoor
