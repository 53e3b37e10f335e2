import Derived.Test.YtngbhifafdbpkaaGreatZac
import Derived.Test.YtngbhifafdbpkaaGreatZaf
import Derived.Test.YtngbhifafdbpkaaGreatZan
import Derived.Test.YtngbhifafdbpkaaGreatZao
import Derived.Test.YtngbhifafdbpkaaGreatZad
import Derived.Test.YtngbhifafdbpkaaGreatZai
import Derived.Test.YtngbhifafdbpkaaGreatZaj
import Derived.Test.YtngbhifafdbpkaaGreatZam
import Derived.Test.YtngbhifafdbpkaaGreatZal
import Derived.ArgAppend
import Derived.Deep.RegionLaw
namespace Go.Proofs.YtngbhifafdbpkaaGreat
open Go.RowKit
set_option linter.unusedSimpArgs false
structure AdS where
  a : Option Addr
  c : Nat
def setF (l : List (List At)) (X : Nat → AdS) (m : Nat) : Value := .slice (X m).a (l.getD m []).length (X m).c
theorem set_getD {l : List (List At)} {i : Nat} (h : i < l.length) : l.getD i [] = l[i] := by rw [List.getD_eq_getElem?_getD, List.getElem?_eq_getElem h]; rfl
structure Sets (w : World) (B : Nat → Prop) (a : Option Addr) (l : List (List At)) (X : Nat → AdS) : Prop where
  row : Rw w B a l.length (setF l X)
  has : ∀ i (h : i < l.length), Ats w B (X i).a l[i]
theorem Sets.at {w : World} {B : Nat → Prop} {a : Option Addr} {l : List (List At)} {X : Nat → AdS} (h : Sets w B a l X) (k : Nat) (hk : k < l.length) : ∃ b off, a = some ⟨b, off, none⟩ ∧ B b ∧ ∀ i (h : i < l.length), w.cell? ⟨b, off + i, none⟩ = some (.slice (X i).a l[i].length (X i).c) := by
  obtain ⟨b, off, e, hb, hc⟩ := Rw.at h.row k hk
  refine ⟨b, off, e, hb, fun i hi => ?_⟩
  rw [hc i hi]
  unfold setF
  rw [set_getD hi]
theorem Sets.same {w w' : World} {B B' : Nat → Prop} {a : Option Addr} {l : List (List At)} {X : Nat → AdS} (h : Sets w B a l X) (hs : ∀ b, B b → w'.heap[b]? = w.heap[b]?) (hB : ∀ b, B b → B' b) : Sets w' B' a l X := ⟨h.row.same hs hB, fun i hi => (h.has i hi).same hs hB⟩
theorem Sets.later {w w' : World} {B : Nat → Prop} {a : Option Addr} {l : List (List At)} {X : Nat → AdS} (h : Sets w B a l X) (hb : Below w.heap.size w w') : Sets w' B a l X := ⟨h.row.inside.same (fun b hb' => hb.block b hb'.2) (fun _ h => h.1), fun i hi => (h.has i hi).later hb⟩
theorem Sets.spot {w : World} {B : Nat → Prop} {b off : Nat} {l : List (List At)} {X : Nat → AdS} (h : Sets w B (some ⟨b, off, none⟩) l X) (i : Nat) (hi : i < l.length) : w.cell? ⟨b, off + i, none⟩ = some (.slice (X i).a l[i].length (X i).c) := by
  obtain ⟨b', off', e, -, hc⟩ := h.at i hi
  simp only [Option.some.injEq, Addr.mk.injEq, and_true] at e
  obtain ⟨rfl, rfl⟩ := e
  exact hc i hi
def SetsOk (l : List (List At)) : Prop := l.length ≤ maxLen ∧ ∀ s ∈ l, s.length ≤ maxLen ∧ ∀ x ∈ s, x.t.length ≤ maxLen
end Go.Proofs.YtngbhifafdbpkaaGreat
namespace Go.Proofs.YtngbhifafdbpkaaGreat
open Go.RowKit
set_option linter.unusedSimpArgs false
theorem Rd.toRw {α : Type} {w : World} {B : Nat → Prop} {n : Nat} {d : α → Nat → D} {l : List α} {a : Option Addr} {c : Nat} (h : Rd w B (Ls n d l) (.slice a l.length c)) (hn : 0 < n) (F : Nat → Value) (hF : ∀ i (hi : i < l.length) j u, j < n → Rd w B (d l[i] j) u → u = F (i * n + j)) : Rw w B a (l.length * n) F := by
  by_cases h0 : l.length = 0
  · exact .inl (by rw [h0]; simp)
  obtain ⟨b, off, ha, hb, -⟩ := h.things 0 (by omega)
  subst ha
  refine .inr ⟨b, off, rfl, hb, fun m hm => ?_⟩
  have hi : m / n < l.length := by rw [Nat.div_lt_iff_lt_mul hn]; exact hm
  have hj : m % n < n := Nat.mod_lt _ hn
  obtain ⟨u, hu, hr⟩ := h.spotT hi hj
  rw [Nat.add_assoc, Nat.div_add_mod'] at hu
  rw [hu, hF _ hi _ u hj hr, Nat.div_add_mod']
theorem Rd.ats {w : World} {B : Nat → Prop} {l : List At} {a : Option Addr} {c : Nat} (h : Rd w B (dAtomS l) (.slice a l.length c)) : Ats w B a l := by
  have hr := Rd.toRw (d := dAtom) (n := 3) h (by omega) (atF l) (fun i hi j u hj hr => by
    rcases (by omega : j = 0 ∨ j = 1 ∨ j = 2) with rfl | rfl | rfl
    · rw [Nat.add_zero, atF0 hi]; exact hr
    · rw [atF1 hi]; exact hr
    · rw [atF2 hi]; exact hr)
  rcases hr with h0 | ⟨b, off, ha, hb, hc⟩
  · exact .inl (by omega)
  · exact .inr ⟨b, off, ha, hb, hc⟩
theorem Rd.cols {w : World} {B : Nat → Prop} {l : List Cl} {a : Option Addr} {c : Nat} (h : Rd w B (dColumnS l) (.slice a l.length c)) : Cols w B a l :=
  Rd.toRw (d := dColumn) (n := 8) h (by omega) (clF l) (fun i hi j u hj hr => by
    rw [clF_at hi hj]
    rcases (by omega : j = 0 ∨ j = 1 ∨ j = 2 ∨ j = 3 ∨ j = 4 ∨ j = 5 ∨ j = 6 ∨ j = 7) with rfl | rfl | rfl | rfl | rfl | rfl | rfl | rfl <;> exact hr)
theorem Rd.ints {w : World} {B : Nat → Prop} {l : List Int} {a : Option Addr} {c : Nat} (h : Rd w B (dIntS l) (.slice a l.length c)) : Ints w B a l := by
  have hr := Rd.toRw (d := cInt) (n := 1) h (by omega) (fun m => .int .i64 (l.getD m 0)) (fun i hi j u hj hr => by
    obtain rfl : j = 0 := by omega
    rw [Nat.mul_one, Nat.add_zero, List.getD_eq_getElem?_getD, List.getElem?_eq_getElem hi]; exact hr)
  rwa [Nat.mul_one] at hr
theorem Rd.sets {w : World} {B : Nat → Prop} {l : List (List At)} {a : Option Addr} {c : Nat} (h : Rd w B (dAtomSS l) (.slice a l.length c)) : ∃ X, Sets w B a l X := by
  have hp : ∀ i, ∃ ad : AdS, ∀ hi : i < l.length, ∀ u, Rd w B (cAtomS l[i] 0) u → (∀ b off, a = some ⟨b, off, none⟩ → w.cell? ⟨b, off + i, none⟩ = some u → u = .slice ad.a l[i].length ad.c ∧ Rd w B (dAtomS l[i]) (.slice ad.a l[i].length ad.c)) := fun i => by
    by_cases hi : i < l.length
    · obtain ⟨b, off, ha, -, hc⟩ := Rd.things (d := cAtomS) (n := 1) h i hi
      obtain ⟨u, hu, hr⟩ := hc 0 (by omega)
      replace hr : Rd w B (dAtomS l[i]) u := hr
      obtain ⟨a1, c1, rfl⟩ := hr.lsSlice
      rw [Nat.mul_one, Nat.add_zero] at hu
      refine ⟨⟨a1, c1⟩, fun _ u' _ b' off' ha' hu' => ?_⟩
      rw [ha] at ha'
      simp only [Option.some.injEq, Addr.mk.injEq, and_true] at ha'
      obtain ⟨rfl, rfl⟩ := ha'
      rw [hu] at hu'
      simp only [Option.some.injEq] at hu'
      exact ⟨hu'.symm, hr⟩
    · exact ⟨⟨none, 0⟩, fun hi' => absurd hi' hi⟩
  obtain ⟨X, hX⟩ := Classical.axiomOfChoice hp
  refine ⟨X, ?_, fun i hi => ?_⟩
  · by_cases h0 : l.length = 0
    · exact .inl h0
    obtain ⟨b, off, ha, hb, -⟩ := Rd.things (d := cAtomS) (n := 1) h 0 (by omega)
    refine .inr ⟨b, off, ha, hb, fun m hm => ?_⟩
    subst ha
    obtain ⟨u, hu, hr⟩ := Rd.spotT (d := cAtomS) (n := 1) h hm (j := 0) (by omega)
    rw [Nat.mul_one, Nat.add_zero] at hu
    rw [hu, (hX m hm u hr b off rfl hu).1]
    unfold setF
    rw [set_getD hm]
  · obtain ⟨b, off, ha, hb, hc⟩ := Rd.things (d := cAtomS) (n := 1) h i hi
    obtain ⟨u, hu, hr⟩ := hc 0 (by omega)
    rw [Nat.mul_one, Nat.add_zero] at hu
    exact (hX i hi u hr b off ha hu).2.ats
theorem le_atoms {l : List At} (h : (dAtomS l).le maxLen) : l.length ≤ maxLen ∧ ∀ x ∈ l, x.t.length ≤ maxLen := by
  refine ⟨(Ls_le.1 h).2.1, fun x hx => ?_⟩
  obtain ⟨i, hi, rfl⟩ := List.mem_iff_getElem.1 hx
  exact (Ls_le.1 h).2.2 i hi 2 (by omega)
theorem le_sets {l : List (List At)} (h : (dAtomSS l).le maxLen) : SetsOk l := by
  refine ⟨(Ls_le.1 h).2.1, fun s hs => ?_⟩
  obtain ⟨i, hi, rfl⟩ := List.mem_iff_getElem.1 hs
  exact le_atoms ((Ls_le.1 h).2.2 i hi 0 (by omega))
theorem le_table {t : Tb} (hn : t.nm.length ≤ maxLen) (hc : (dColumnS t.cols).le maxLen) (hu : (dIntS t.uq).le maxLen) : t.ok := by
  refine ⟨hn, (Ls_le.1 hc).2.1, fun x hx => ?_, (Ls_le.1 hu).2.1⟩
  obtain ⟨i, hi, rfl⟩ := List.mem_iff_getElem.1 hx
  exact ⟨(Ls_le.1 hc).2.2 i hi 0 (by omega), (Ls_le.1 hc).2.2 i hi 6 (by omega)⟩
theorem Rd.hasT {w : World} {B : Nat → Prop} {t : Tb} {ca ua : Option Addr} {cc uc : Nat} (hc : Rd w B (dColumnS t.cols) (.slice ca t.cols.length cc)) (hu : Rd w B (dIntS t.uq) (.slice ua t.uq.length uc)) : t.Has w B ca ua := ⟨hc.cols, hu.ints⟩
end Go.Proofs.YtngbhifafdbpkaaGreat
namespace Go.Proofs.YtngbhifafdbpkaaGreat
open Go.RowKit
set_option linter.unusedSimpArgs false
structure BoxE (ty ty' : TypeId) (w W : World) (cs ds : Array Value) : Prop where
  a : W.heap[w.heap.size]? = some (.cells cs ty)
  b : W.heap[w.heap.size + 1]? = some (.cells ds ty')
  bel : Below w.heap.size w W
theorem boxE (ty ty' : TypeId) (w : World) (cs ds : Array Value) : BoxE ty ty' w ((w.alloc (.cells cs ty)).alloc (.cells ds ty')) cs ds := by
  refine ⟨heap_keptD (heap_newD _ _) (below_allocD _ _), ?_, (below_allocD _ _).trans ((below_allocD _ _).mono (by simp))⟩
  have h := heap_newD (w.alloc (.cells cs ty)) (.cells ds ty')
  rw [size_allocD] at h
  exact h
theorem BoxE.later {ty ty' : TypeId} {w W W' : World} {cs ds : Array Value} (h : BoxE ty ty' w W cs ds) (hB : Below W.heap.size W W') : BoxE ty ty' w W' cs ds := ⟨heap_keptD h.a hB, heap_keptD h.b hB, h.bel.trans (hB.mono h.bel.size)⟩
theorem BoxE.drew {ty ty' : TypeId} {w W : World} {cs ds : Array Value} (h : BoxE ty ty' w W cs ds) : BoxE ty ty' w W.drew cs ds := h.later (Below.refl _ _).drew
end Go.Proofs.YtngbhifafdbpkaaGreat
namespace Go.Proofs.YtngbhifafdbpkaaGreat
open Go.RowKit
set_option linter.unusedSimpArgs false
structure Ad where
  ca : Option Addr
  cc : Nat
  ua : Option Addr
  uc : Nat
def tbZ : Tb := ⟨[], [], [], false⟩
def tbF (l : List Tb) (A : Nat → Ad) (m : Nat) : Value :=
  if m % 4 = 0 then .string ⟨(l.getD (m / 4) tbZ).nm.toArray⟩ else if m % 4 = 1 then .slice (A (m / 4)).ca (l.getD (m / 4) tbZ).cols.length (A (m / 4)).cc
  else if m % 4 = 2 then .slice (A (m / 4)).ua (l.getD (m / 4) tbZ).uq.length (A (m / 4)).uc else .bool (l.getD (m / 4) tbZ).rt
theorem tb_getD {l : List Tb} {i : Nat} (h : i < l.length) : l.getD i tbZ = l[i] := by rw [List.getD_eq_getElem?_getD, List.getElem?_eq_getElem h]; rfl
def tbC (t : Tb) (a : Ad) : List Value := [.string ⟨t.nm.toArray⟩, .slice a.ca t.cols.length a.cc, .slice a.ua t.uq.length a.uc, .bool t.rt]
theorem tbF_at {l : List Tb} {A : Nat → Ad} {i j : Nat} (h : i < l.length) (hj : j < 4) : tbF l A (i * 4 + j) = (tbC l[i] (A i)).getD j undef := by
  unfold tbF
  rw [show (i * 4 + j) % 4 = j by omega, show (i * 4 + j) / 4 = i by omega, tb_getD h]
  match j, hj with
  | 0, _ => rfl
  | 1, _ => rfl
  | 2, _ => rfl
  | 3, _ => rfl
structure Tabs (w : World) (B : Nat → Prop) (a : Option Addr) (l : List Tb) (A : Nat → Ad) : Prop where
  row : Rw w B a (l.length * 4) (tbF l A)
  has : ∀ i (h : i < l.length), l[i].Has w B (A i).ca (A i).ua
def TabAt (w : World) (b o : Nat) (t : Tb) (a : Ad) : Prop := w.cell? ⟨b, o, none⟩ = some (.string ⟨t.nm.toArray⟩) ∧ w.cell? ⟨b, o + 1, none⟩ = some (.slice a.ca t.cols.length a.cc) ∧ w.cell? ⟨b, o + 2, none⟩ = some (.slice a.ua t.uq.length a.uc) ∧ w.cell? ⟨b, o + 3, none⟩ = some (.bool t.rt)
theorem Tabs.at {w : World} {B : Nat → Prop} {a : Option Addr} {l : List Tb} {A : Nat → Ad} (h : Tabs w B a l A) (k : Nat) (hk : k < l.length) : ∃ b off, a = some ⟨b, off, none⟩ ∧ B b ∧ ∀ i (h : i < l.length), TabAt w b (off + i * 4) l[i] (A i) := by
  obtain ⟨b, off, e, hb, hc⟩ := Rw.at h.row (k * 4) (by omega)
  refine ⟨b, off, e, hb, fun i hi => ?_⟩
  have g : ∀ j, j < 4 → w.cell? ⟨b, off + i * 4 + j, none⟩ = _ := fun j hj => by rw [Nat.add_assoc, hc _ (by omega), tbF_at hi hj]
  exact ⟨g 0 (by omega), g 1 (by omega), g 2 (by omega), g 3 (by omega)⟩
theorem Tabs.same {w w' : World} {B B' : Nat → Prop} {a : Option Addr} {l : List Tb} {A : Nat → Ad} (h : Tabs w B a l A) (hs : ∀ b, B b → w'.heap[b]? = w.heap[b]?) (hB : ∀ b, B b → B' b) : Tabs w' B' a l A := ⟨h.row.same hs hB, fun i hi => (h.has i hi).same hs hB⟩
theorem Tabs.later {w w' : World} {B : Nat → Prop} {a : Option Addr} {l : List Tb} {A : Nat → Ad} (h : Tabs w B a l A) (hb : Below w.heap.size w w') : Tabs w' B a l A := ⟨h.row.inside.same (fun b hb' => hb.block b hb'.2) (fun _ h => h.1), fun i hi => (h.has i hi).later hb⟩
theorem Tabs.spot {w : World} {B : Nat → Prop} {b off : Nat} {l : List Tb} {A : Nat → Ad} (h : Tabs w B (some ⟨b, off, none⟩) l A) (i : Nat) (hi : i < l.length) : TabAt w b (off + i * 4) l[i] (A i) := by
  obtain ⟨b', off', e, -, hc⟩ := h.at i hi
  simp only [Option.some.injEq, Addr.mk.injEq, and_true] at e
  obtain ⟨rfl, rfl⟩ := e
  exact hc i hi
def TbsOk (l : List Tb) : Prop := l.length ≤ maxLen ∧ ∀ t ∈ l, t.ok
end Go.Proofs.YtngbhifafdbpkaaGreat
namespace Go.Proofs.YtngbhifafdbpkaaGreat
open Go.RowKit
set_option linter.unusedSimpArgs false
theorem Rd.tabs {w : World} {B : Nat → Prop} {l : List Tb} {a : Option Addr} {c : Nat} (h : Rd w B (dTableS l) (.slice a l.length c)) : ∃ A, Tabs w B a l A := by
  have hp : ∀ i, ∃ ad : Ad, ∀ hi : i < l.length, ∀ b off, a = some ⟨b, off, none⟩ → (∀ j, j < 4 → w.cell? ⟨b, off + i * 4 + j, none⟩ = some ((tbC l[i] ad).getD j undef)) ∧ l[i].Has w B ad.ca ad.ua := fun i => by
    by_cases hi : i < l.length
    · obtain ⟨b, off, ha, -, hc⟩ := Rd.things (d := dTable) (n := 4) h i hi
      obtain ⟨u0, c0, r0⟩ := hc 0 (by omega)
      obtain rfl : u0 = .string ⟨l[i].nm.toArray⟩ := r0
      obtain ⟨u1, c1, r1⟩ := hc 1 (by omega)
      replace r1 : Rd w B (dColumnS l[i].cols) u1 := r1
      obtain ⟨a1, q1, rfl⟩ := r1.lsSlice
      obtain ⟨u2, c2, r2⟩ := hc 2 (by omega)
      replace r2 : Rd w B (dIntS l[i].uq) u2 := r2
      obtain ⟨a2, q2, rfl⟩ := r2.lsSlice
      obtain ⟨u3, c3, r3⟩ := hc 3 (by omega)
      obtain rfl : u3 = .bool l[i].rt := r3
      refine ⟨⟨a1, q1, a2, q2⟩, fun _ b' off' ha' => ?_⟩
      rw [ha] at ha'
      simp only [Option.some.injEq, Addr.mk.injEq, and_true] at ha'
      obtain ⟨rfl, rfl⟩ := ha'
      refine ⟨fun j hj => ?_, Rd.hasT r1 r2⟩
      rcases (by omega : j = 0 ∨ j = 1 ∨ j = 2 ∨ j = 3) with rfl | rfl | rfl | rfl
      · exact c0
      · exact c1
      · exact c2
      · exact c3
    · exact ⟨⟨none, 0, none, 0⟩, fun hi' => absurd hi' hi⟩
  obtain ⟨A, hA⟩ := Classical.axiomOfChoice hp
  refine ⟨A, ?_, fun i hi => ?_⟩
  · by_cases h0 : l.length = 0
    · exact .inl (by rw [h0])
    obtain ⟨b, off, ha, hb, -⟩ := Rd.things (d := dTable) (n := 4) h 0 (by omega)
    refine .inr ⟨b, off, ha, hb, fun m hm => ?_⟩
    have hi : m / 4 < l.length := by omega
    have h1 := (hA (m / 4) hi b off ha).1 (m % 4) (by omega)
    rw [Nat.add_assoc, Nat.div_add_mod'] at h1
    rw [h1]
    have h2 := tbF_at (l := l) (A := A) hi (show m % 4 < 4 by omega)
    rw [Nat.div_add_mod'] at h2
    rw [h2]
  · obtain ⟨b, off, ha, -, -⟩ := Rd.things (d := dTable) (n := 4) h i hi
    exact (hA i hi b off ha).2
theorem le_tables {l : List Tb} (h : (dTableS l).le maxLen) : TbsOk l := by
  refine ⟨(Ls_le.1 h).2.1, fun t ht => ?_⟩
  obtain ⟨i, hi, rfl⟩ := List.mem_iff_getElem.1 ht
  have hx := (Ls_le.1 h).2.2 i hi
  exact le_table (hx 0 (by omega)) (hx 1 (by omega)) (hx 2 (by omega))
end Go.Proofs.YtngbhifafdbpkaaGreat
namespace Go.Proofs.YtngbhifafdbpkaaGreat
open Go.RowKit
set_option linter.unusedSimpArgs false
theorem run_append_own3 {P : Program} (w : World) (base : Nat) (t ty e : TypeId) (i : TypeInfo) (z : Value) (size bytes : Nat) (ht : P.underlying t = some (.slice e)) (hi : P.info? e = some i) (hz : i.zero = some z)
    (hsize : i.size = size) (hby : i.bytes = bytes) (hzs : z.cells.size = size) (hsz : 0 < size)
    (v : Value) (n : Nat) (xs : List Value) (hown : w.ownsRow base e size v n xs)
    (a : Addr) (m c : Nat) (news : List Value) (hl : news.length = m * size) (hnews : ∀ j u, news[j]? = some u → w.cell? (a.add j) = some u) (h1 : ∀ u ∈ news, u.oneCell' = true)
    (h63 : n + m ≤ maxLen) (hbytes : (n + m) * bytes ≤ 140737488355328) (hbase : base ≤ w.heap.size) (hm : 0 < m) :
    ∃ v' w', (Builtin.append_ #[t, t] ty #[v, .slice (some a) m c]).run P w = .ok v' w' ∧ w'.ownsRow base e size v' (n + m) (xs ++ news) ∧ w.grownBy w' v.ownBlock ∧
      ∃ g, v'.ownBlock = some g ∧ (v.ownBlock = some g ∨ w.heap.size ≤ g) := by
  subst hsize
  obtain ⟨v', w', hr, h2, h3, -⟩ := run_append_own (P := P) w base t ty e i z i.size bytes ht hi hz rfl hby hzs hsz v n xs hown a m c news hl hnews h1 h63 hbytes hbase
  refine ⟨v', w', hr, h2, h3, ?_⟩
  have fresh : ∀ {v'' : Value} {w'' : World} {ys : List Value}, w''.ownsRow w.heap.size e i.size v'' (n + m) ys → ∃ g, v''.ownBlock = some g ∧ w.heap.size ≤ g := by
    intro v'' w'' ys h
    rcases h.2 with ⟨-, h0⟩ | ⟨g, cap, cur, rfl, hg, -⟩
    · omega
    · exact ⟨g, rfl, hg⟩
  have hown' := hown
  rcases hown'.2 with ⟨rfl, rfl⟩ | ⟨g, cap, cur, rfl, hg, hb, hn, hcap, hcs, hx⟩
  · obtain ⟨v2, w2, hr2, h22, -, -⟩ := run_append_own (P := P) w w.heap.size t ty e i z i.size bytes ht hi hz rfl hby hzs hsz (.slice none 0 0) 0 xs ⟨hown.1, .inl ⟨rfl, rfl⟩⟩ a m c news hl hnews h1 h63 hbytes (Nat.le_refl _)
    rw [hr] at hr2
    injection hr2 with e1 e2
    subst e1
    obtain ⟨g, h4, h5⟩ := fresh h22
    exact ⟨g, h4, .inr h5⟩
  · by_cases hroom : n + m ≤ cap
    · have hr2 := run_append_room_cells (P := P) w t ty e i ht hi g 0 n cap a m c news hl hnews h1 hroom (fun j hj => by
        have hlt : n * i.size + j < cur.size := by
          have := Nat.mul_le_mul_right i.size hroom
          rw [Nat.add_mul] at this
          rw [hl] at hj
          omega
        simp [World.cell?, hb, hlt]) (fun j hj => by simp [World.frozen?, hb])
      rw [hr] at hr2
      injection hr2 with e1 e2
      subst e1
      exact ⟨g, rfl, .inl rfl⟩
    · obtain ⟨v2, w2, hr2, h22, -⟩ := run_append_arg_grows (P := P) w t ty e i z i.size bytes ht hi hz rfl hby hzs hsz ⟨g, 0, none⟩ n cap xs hown.1 (fun j u hj => by
        rw [Addr.add_mid, Nat.zero_add]
        have hj' : j < n * i.size := by have := (List.getElem?_eq_some_iff.1 hj).1; rw [hown.1] at this; exact this
        rw [← hx, List.getElem?_take_of_lt hj', Array.getElem?_toList] at hj
        simp [World.cell?, hb, hj]) a m c news hl hnews (by omega) h63 hbytes
      rw [hr] at hr2
      injection hr2 with e1 e2
      subst e1
      obtain ⟨g', h4, h5⟩ := fresh h22
      exact ⟨g', h4, .inr h5⟩
theorem ownsRow_later {w w' : World} {base : Nat} {e : TypeId} {size : Nat} {v : Value} {n : Nat} {xs : List Value} (h : w.ownsRow base e size v n xs) (hB : Below w.heap.size w w') : w'.ownsRow base e size v n xs := by
  obtain ⟨h1, h2⟩ := h
  refine ⟨h1, ?_⟩
  rcases h2 with h2 | ⟨g, cap, cur, hv, hg, hh, r⟩
  · exact .inl h2
  · exact .inr ⟨g, cap, cur, hv, hg, by rw [hB.block g (Array.getElem?_eq_some_iff.1 hh).1]; exact hh, r⟩
end Go.Proofs.YtngbhifafdbpkaaGreat
