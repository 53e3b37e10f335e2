import Derived.Test.YtaepgahejelkaaaGreatZaf
import Derived.Test.YtaepgahejelkaaaGreatZat
import Derived.Test.YtaepgahejelkaaaGreatZav
import Derived.Test.YtaepgahejelkaaaGreatZaw
import Derived.Test.YtaepgahejelkaaaGreatZba
namespace Go.Proofs.YtaepgahejelkaaaGreat
open Go.RowKit
set_option linter.unusedSimpArgs false
structure Ad where
  ca : Option Addr
  cc : Nat
  ua : Option Addr
  uc : Nat
def tbZ : Tb := ⟨[], [], [], false⟩
def tbF (l : List Tb) (A : Nat → Ad) (m : Nat) : Value :=
  if m % 4 = 0 then .string ⟨(l.getD (m / 4) tbZ).nm.toArray⟩ else if m % 4 = 1 then .slice (A (m / 4)).ca (l.getD (m / 4) tbZ).cols.length (A (m / 4)).cc
  else if m % 4 = 2 then .slice (A (m / 4)).ua (l.getD (m / 4) tbZ).uq.length (A (m / 4)).uc else .bool (l.getD (m / 4) tbZ).rt
theorem tb_getD {l : List Tb} {i : Nat} (h : i < l.length) : l.getD i tbZ = l[i] := by rw [List.getD_eq_getElem?_getD, List.getElem?_eq_getElem h]; rfl
def tbC (t : Tb) (a : Ad) : List Value := [.string ⟨t.nm.toArray⟩, .slice a.ca t.cols.length a.cc, .slice a.ua t.uq.length a.uc, .bool t.rt]
theorem tbF_at {l : List Tb} {A : Nat → Ad} {i j : Nat} (h : i < l.length) (hj : j < 4) : tbF l A (i * 4 + j) = (tbC l[i] (A i)).getD j undef := by
  unfold tbF
  rw [show (i * 4 + j) % 4 = j by omega, show (i * 4 + j) / 4 = i by omega, tb_getD h]
  match j, hj with
  | 0, _ => rfl
  | 1, _ => rfl
  | 2, _ => rfl
  | 3, _ => rfl
structure Tabs (w : World) (B : Nat → Prop) (a : Option Addr) (l : List Tb) (A : Nat → Ad) : Prop where
  row : Rw w B a (l.length * 4) (tbF l A)
  has : ∀ i (h : i < l.length), l[i].Has w B (A i).ca (A i).ua
def TabAt (w : World) (b o : Nat) (t : Tb) (a : Ad) : Prop := w.cell? ⟨b, o, none⟩ = some (.string ⟨t.nm.toArray⟩) ∧ w.cell? ⟨b, o + 1, none⟩ = some (.slice a.ca t.cols.length a.cc) ∧ w.cell? ⟨b, o + 2, none⟩ = some (.slice a.ua t.uq.length a.uc) ∧ w.cell? ⟨b, o + 3, none⟩ = some (.bool t.rt)
theorem Tabs.at {w : World} {B : Nat → Prop} {a : Option Addr} {l : List Tb} {A : Nat → Ad} (h : Tabs w B a l A) (k : Nat) (hk : k < l.length) : ∃ b off, a = some ⟨b, off, none⟩ ∧ B b ∧ ∀ i (h : i < l.length), TabAt w b (off + i * 4) l[i] (A i) := by
  obtain ⟨b, off, e, hb, hc⟩ := Rw.at h.row (k * 4) (by omega)
  refine ⟨b, off, e, hb, fun i hi => ?_⟩
  have g : ∀ j, j < 4 → w.cell? ⟨b, off + i * 4 + j, none⟩ = _ := fun j hj => by rw [Nat.add_assoc, hc _ (by omega), tbF_at hi hj]
  exact ⟨g 0 (by omega), g 1 (by omega), g 2 (by omega), g 3 (by omega)⟩
theorem Tabs.same {w w' : World} {B B' : Nat → Prop} {a : Option Addr} {l : List Tb} {A : Nat → Ad} (h : Tabs w B a l A) (hs : ∀ b, B b → w'.heap[b]? = w.heap[b]?) (hB : ∀ b, B b → B' b) : Tabs w' B' a l A := ⟨h.row.same hs hB, fun i hi => (h.has i hi).same hs hB⟩
theorem Tabs.later {w w' : World} {B : Nat → Prop} {a : Option Addr} {l : List Tb} {A : Nat → Ad} (h : Tabs w B a l A) (hb : Below w.heap.size w w') : Tabs w' B a l A := ⟨h.row.inside.same (fun b hb' => hb.block b hb'.2) (fun _ h => h.1), fun i hi => (h.has i hi).later hb⟩
theorem Tabs.spot {w : World} {B : Nat → Prop} {b off : Nat} {l : List Tb} {A : Nat → Ad} (h : Tabs w B (some ⟨b, off, none⟩) l A) (i : Nat) (hi : i < l.length) : TabAt w b (off + i * 4) l[i] (A i) := by
  obtain ⟨b', off', e, -, hc⟩ := h.at i hi
  simp only [Option.some.injEq, Addr.mk.injEq, and_true] at e
  obtain ⟨rfl, rfl⟩ := e
  exact hc i hi
def TbsOk (l : List Tb) : Prop := l.length ≤ maxLen ∧ ∀ t ∈ l, t.ok
end Go.Proofs.YtaepgahejelkaaaGreat
namespace Go.Proofs.YtaepgahejelkaaaGreat
open Go.RowKit
set_option linter.unusedSimpArgs false
def tplC : List Tb → List UInt8 → Int
  | [], _ => -1
  | t :: l, s => if t.nm = s then 0 else if tplC l s < 0 then -1 else tplC l s + 1
theorem tpl_at {s : List UInt8} : ∀ {l : List Tb} {k : Nat} (h : k < l.length), l[k].nm = s → (∀ m (h : m < l.length), m < k → l[m].nm ≠ s) → tplC l s = k
  | r :: l, 0, _, e, _ => by
    have e' : r.nm = s := e
    simp [tplC, e']
  | r :: l, k + 1, h, e, hn => by
    have h0 : r.nm ≠ s := hn 0 (by simp) (by omega)
    have ih := tpl_at (l := l) (k := k) (by simpa using h) (by simpa using e) (fun m hm hk => by have := hn (m + 1) (by simpa using hm) (by omega); simpa using this)
    simp only [tplC, if_neg h0, ih]
    rw [if_neg (by omega)]; omega
theorem tpl_none {s : List UInt8} : ∀ {l : List Tb}, (∀ m (h : m < l.length), l[m].nm ≠ s) → tplC l s = -1
  | [], _ => rfl
  | r :: l, hn => by
    have h0 : r.nm ≠ s := hn 0 (by simp)
    have ih := tpl_none (l := l) (fun m hm => by have := hn (m + 1) (by simpa using hm); simpa using this)
    simp [tplC, if_neg h0, ih]
theorem tpl_rng (s : List UInt8) : ∀ l : List Tb, tplC l s = -1 ∨ ∃ k : Nat, ∃ h : k < l.length, tplC l s = k ∧ l[k].nm = s
  | [] => .inl rfl
  | r :: l => by
    by_cases h0 : r.nm = s
    · exact .inr ⟨0, by simp, by simp [tplC, h0], h0⟩
    · rcases tpl_rng s l with h | ⟨k, hk, h, e⟩
      · exact .inl (by simp [tplC, if_neg h0, h])
      · refine .inr ⟨k + 1, by simpa using hk, ?_, by simpa using e⟩
        simp only [tplC, if_neg h0, h]
        rw [if_neg (by omega)]; omega
set_option maxRecDepth 100000 in
set_option maxHeartbeats 3200000 in
theorem findTS (l : List Tb) (s : List UInt8) (sa : Option Addr) (sc : Nat) (A : Nat → Prop) (w : World) (hlo : (dTableS l).le maxLen) (hT : Rd w A (dTableS l) (.slice sa l.length sc)) :
    Calls Tryz.prog 40 #[.agg #[.slice sa l.length sc], .string ⟨s.toArray⟩] w fun e w' => e = .returned (.int .i64 (tplC l s)) ∧ Below w.heap.size w w' := by
  have hll : l.length ≤ maxLen := (Ls_le.1 hlo).2.1
  unfold maxLen at hll
  have HT : Hid (∀ W, Below w.heap.size w W → Rd W A (Ls 4 dTable l) (.slice sa l.length sc)) := fun W h => Rd.later hT h
  have HX := Lib.hid (boxD 37 w #[.slice sa l.length sc])
  clear hlo hT
  go_enter Tryz.func40, Tryz.ntmps40
  have x0 := cell_at (o := 0) HX.out.1 rfl
  go_wp2_with fail
  clear x0
  go_loopw [5] (fun i wr => ∃ k : Nat, k ≤ l.length ∧ i = .int .i64 k ∧ Hid ((∀ m (h : m < l.length), m < k → l[m].nm ≠ s) ∧ BoxD 37 w wr #[.slice sa l.length sc])) (fun i _ => l.length - (intOf i).toNat)
  case atStart => exact ⟨0, Nat.zero_le _, rfl, fun m _ h => absurd h (by omega), HX.out⟩
  case round =>
    obtain ⟨k, hk, rfl, HW⟩ := hrel
    have x0 := cell_at (o := 0) HW.out.2.1 rfl
    by_cases hlt : k < l.length
    · have hki : (k : Int) < (l.length : Int) := by omega
      obtain ⟨b, off, rfl, -, hc⟩ := (HT.out _ HW.out.2.2).things k hlt
      obtain ⟨u0, c0, r0⟩ := hc 0 (by omega)
      obtain rfl : u0 = .string ⟨l[k].nm.toArray⟩ := r0
      rw [Nat.add_zero] at c0
      clear hc
      by_cases he : l[k].nm = s
      · have HP : Hid (tplC l s = k) := tpl_at hlt he (fun j h hj => HW.out.1 j h hj)
        rw [he] at c0
        clear he
        go_wp2_with fail
        go_ret
        exact ⟨ret_i HP.out.symm, HW.out.2.2⟩
      · have HN : Hid (∀ m (h : m < l.length), m < k + 1 → l[m].nm ≠ s) := fun m h hm => by
          by_cases e : m = k
          · subst e; exact he
          · exact HW.out.1 m h (by omega)
        have hne : (l[k].nm == s) = false := by simpa using he
        clear he
        generalize l[k] = x at *
        go_wp2_with fail
        go_roundw
        case rel => exact ⟨k + 1, by omega, by go_num, HN.out, HW.out.2⟩
        case measure => simp [intOf]; omega
    · have HP : Hid (tplC l s = -1) := tpl_none (fun m h => HW.out.1 m h (by omega))
      have hki : decide ((k : Int) < (l.length : Int)) = false := by simp; omega
      go_wp2_with fail
      go_ret
      exact ⟨ret_i HP.out.symm, HW.out.2.2⟩
set_option maxRecDepth 100000 in
set_option maxHeartbeats 3200000 in
theorem findTI (l : List Tb) (s : List UInt8) (sa : Option Addr) (sc : Nat) (A : Nat → Prop) (w : World) (hlo : (dTableS l).le maxLen) (hT : Rd w A (dTableS l) (.slice sa l.length sc)) :
    Calls Tryz.prog 102 #[.agg #[.slice sa l.length sc], .string ⟨s.toArray⟩] w fun e w' => e = .returned (.int .i64 (tplC l s)) ∧ Below w.heap.size w w' := by
  have hll : l.length ≤ maxLen := (Ls_le.1 hlo).2.1
  unfold maxLen at hll
  have HT : Hid (∀ W, Below w.heap.size w W → Rd W A (Ls 4 dTable l) (.slice sa l.length sc)) := fun W h => Rd.later hT h
  have HX := Lib.hid (boxD 37 w #[.slice sa l.length sc])
  clear hlo hT
  go_enter Tryz.func102, Tryz.ntmps102
  have x0 := cell_at (o := 0) HX.out.1 rfl
  go_wp2_with fail
  clear x0
  go_loopw [9] (fun i wr => ∃ k : Nat, k ≤ l.length ∧ i = .int .i64 k ∧ Hid ((∀ m (h : m < l.length), m < k → l[m].nm ≠ s) ∧ BoxD 37 w wr #[.slice sa l.length sc])) (fun i _ => l.length - (intOf i).toNat)
  case atStart => exact ⟨0, Nat.zero_le _, rfl, fun m _ h => absurd h (by omega), HX.out⟩
  case round =>
    obtain ⟨k, hk, rfl, HW⟩ := hrel
    have x0 := cell_at (o := 0) HW.out.2.1 rfl
    by_cases hlt : k < l.length
    · have hki : (k : Int) < (l.length : Int) := by omega
      obtain ⟨b, off, rfl, -, hc⟩ := (HT.out _ HW.out.2.2).things k hlt
      obtain ⟨u0, c0, r0⟩ := hc 0 (by omega)
      obtain rfl : u0 = .string ⟨l[k].nm.toArray⟩ := r0
      rw [Nat.add_zero] at c0
      clear hc
      by_cases he : l[k].nm = s
      · have HP : Hid (tplC l s = k) := tpl_at hlt he (fun j h hj => HW.out.1 j h hj)
        rw [he] at c0
        clear he
        go_wp2_with fail
        go_ret
        exact ⟨ret_i HP.out.symm, HW.out.2.2⟩
      · have HN : Hid (∀ m (h : m < l.length), m < k + 1 → l[m].nm ≠ s) := fun m h hm => by
          by_cases e : m = k
          · subst e; exact he
          · exact HW.out.1 m h (by omega)
        have hne : (l[k].nm == s) = false := by simpa using he
        clear he
        generalize l[k] = x at *
        go_wp2_with fail
        go_roundw
        case rel => exact ⟨k + 1, by omega, by go_num, HN.out, HW.out.2⟩
        case measure => simp [intOf]; omega
    · have HP : Hid (tplC l s = -1) := tpl_none (fun m h => HW.out.1 m h (by omega))
      have hki : decide ((k : Int) < (l.length : Int)) = false := by simp; omega
      go_wp2_with fail
      go_ret
      exact ⟨ret_i HP.out.symm, HW.out.2.2⟩
def tabN (l : List Tb) (s : List UInt8) : Tb := if tplC l s < 0 then tbZ else l.getD (tplC l s).toNat tbZ
def tabK (l : List Tb) (s : List UInt8) : Int := if tplC l s < 0 then 10 else 0
theorem tabN_none {l : List Tb} {s : List UInt8} (h : tplC l s = -1) : tabN l s = tbZ ∧ tabK l s = 10 := ⟨by unfold tabN; rw [h, if_pos (by omega)], by unfold tabK; rw [h, if_pos (by omega)]⟩
theorem tabN_at {l : List Tb} {s : List UInt8} {k : Nat} (hk : k < l.length) (h : tplC l s = k) : tabN l s = l[k] ∧ tabK l s = 0 := ⟨by
  unfold tabN; rw [h, if_neg (by omega), Int.toNat_natCast, List.getD_eq_getElem?_getD, List.getElem?_eq_getElem hk]; rfl, by unfold tabK; rw [h, if_neg (by omega)]⟩
theorem tbZ_has {w : World} {A : Nat → Prop} : tbZ.Has w A none none := Rd.hasT (uc := 0) (cc := 0) (Rd.lsNil (α := Cl) (n := 8) (d := dColumn) none 0) (Rd.lsNil (α := Int) (n := 1) (d := cInt) none 0)
theorem tbZ_ok : tbZ.ok := le_table (Nat.zero_le _) (Ls_le.2 ⟨by omega, Nat.zero_le _, fun i hi => absurd hi (by simp [tbZ])⟩) (Ls_le.2 ⟨by omega, Nat.zero_le _, fun i hi => absurd hi (by simp [tbZ])⟩)
theorem tabN_ok {l : List Tb} {s : List UInt8} (h : (dTableS l).le maxLen) : (tabN l s).ok := by
  rcases tpl_rng s l with e | ⟨k, hk, e, -⟩
  · rw [(tabN_none e).1]; exact tbZ_ok
  · rw [(tabN_at hk e).1]; exact le_table ((Ls_le.1 h).2.2 k hk 0 (by omega)) ((Ls_le.1 h).2.2 k hk 1 (by omega)) ((Ls_le.1 h).2.2 k hk 2 (by omega))
theorem below4 {w W : World} (b : Nat) (h : Below w.heap.size w W) (hb : w.heap.size ≤ b) (v0 v1 v2 v3 : Value) : Below w.heap.size w ((((W.setCell ⟨b, 0, none⟩ v0).setCell ⟨b, 1, none⟩ v1).setCell ⟨b, 2, none⟩ v2).setCell ⟨b, 3, none⟩ v3) :=
  (((h.setCell hb _).setCell hb _).setCell hb _).setCell hb _
def TcAns (l : List Tb) (s : List UInt8) (A : Nat → Prop) (w0 w : World) (e : Ending) (w' : World) : Prop := ∃ ca cc ua uc, e = .returned (.tuple #[.agg #[.string ⟨(tabN l s).nm.toArray⟩, .slice ca (tabN l s).cols.length cc, .slice ua (tabN l s).uq.length uc, .bool (tabN l s).rt], .int .i64 (tabK l s)]) ∧ (tabN l s).Has w0 A ca ua ∧ Below w.heap.size w w'
set_option maxRecDepth 100000 in
set_option maxHeartbeats 3200000 in
theorem tabCalledI (l : List Tb) (s : List UInt8) (sa : Option Addr) (sc : Nat) (A : Nat → Prop) (w0 w : World) (hB0 : Below w0.heap.size w0 w) (hlo : (dTableS l).le maxLen) (hT : Rd w0 A (dTableS l) (.slice sa l.length sc)) :
    Calls Tryz.prog 59 #[.agg #[.slice sa l.length sc], .string ⟨s.toArray⟩] w (TcAns l s A w0 w) := by
  have PL : Hid (∀ W, BoxE 37 89 w W #[.slice sa l.length sc] #[.string ⟨#[]⟩, .slice none 0 0, .slice none 0 0, .bool false] → Calls Tryz.prog 102 #[.agg #[.slice sa l.length sc], .string ⟨s.toArray⟩] W fun e w' => e = .returned (.int .i64 (tplC l s)) ∧ BoxE 37 89 w w' #[.slice sa l.length sc] #[.string ⟨#[]⟩, .slice none 0 0, .slice none 0 0, .bool false]) := fun W h => (findTI l s sa sc A W hlo (hT.later (hB0.trans (h.bel.mono hB0.size)))).mono (fun e w' ⟨he, hB⟩ => ⟨he, h.later hB⟩)
  have HT : Hid (Rd w0 A (Ls 4 dTable l) (.slice sa l.length sc)) := hT
  have HB0 := Lib.hid hB0
  have hll : l.length ≤ maxLen := (Ls_le.1 hlo).2.1
  unfold maxLen at hll
  have hb := boxE 37 89 w #[.slice sa l.length sc] #[.string ⟨#[]⟩, .slice none 0 0, .slice none 0 0, .bool false]
  have x0 := cell_at (o := 0) hb.a rfl
  have HB := Lib.hid hb
  clear hlo hT hb hB0
  rcases tpl_rng s l with hp | ⟨k, hk, hp, -⟩
  · have HE := Lib.hid (tabN_none hp)
    have HZ : Hid (tbZ.Has w0 A none none) := tbZ_has
    rw [hp] at PL
    clear hp
    go_enter Tryz.func59, Tryz.ntmps59
    go_wp2_with fail
    refine (PL.out _ HB.out).mono ?_
    rintro e w1 ⟨rfl, hb⟩
    clear x0
    have r0 := cell_at (o := 0) hb.b rfl
    have g0 := frozen_at 0 hb.b
    have r1 := cell_at (o := 1) hb.b rfl
    have g1 := frozen_at 1 hb.b
    have r2 := cell_at (o := 2) hb.b rfl
    have g2 := frozen_at 2 hb.b
    have r3 := cell_at (o := 3) hb.b rfl
    have g3 := frozen_at 3 hb.b
    have HB1 := Lib.hid hb.bel
    clear hb
    go_wp2_with fail
    refine bodyPost_ret (v := .tuple #[.agg #[.string ⟨#[]⟩, .slice none 0 0, .slice none 0 0, .bool false], .int .i64 10]) (by simp [results, Tryz.results59, go_sem, *]) rfl ?_
    exact ⟨none, 0, none, 0, by rw [HE.out.1, HE.out.2]; rfl, by rw [HE.out.1]; exact HZ.out, below4 _ HB1.out (by omega) _ _ _ _⟩
  have HE := Lib.hid (tabN_at hk hp)
  have hki : (k : Int) < (l.length : Int) := by omega
  rw [hp] at PL
  clear hp
  obtain ⟨tq, tf, rfl, -, tc⟩ := HT.out.things k hk
  obtain ⟨u0, t0, q0⟩ := tc 0 (by omega)
  obtain rfl : u0 = .string ⟨l[k].nm.toArray⟩ := q0
  rw [Nat.add_zero] at t0
  obtain ⟨u1, t1, q1⟩ := tc 1 (by omega)
  replace q1 : Rd w0 A (dColumnS l[k].cols) u1 := q1
  obtain ⟨ca, cc, rfl⟩ := q1.lsSlice
  obtain ⟨u2, t2, q2⟩ := tc 2 (by omega)
  replace q2 : Rd w0 A (dIntS l[k].uq) u2 := q2
  obtain ⟨ua, uc, rfl⟩ := q2.lsSlice
  obtain ⟨u3, t3, q3⟩ := tc 3 (by omega)
  obtain rfl : u3 = .bool l[k].rt := q3
  have HH : Hid (l[k].Has w0 A ca ua) := Rd.hasT q1 q2
  have TCE : Hid (∀ W, Below w0.heap.size w0 W → W.cell? ⟨tq, tf + k * 4, none⟩ = some (.string ⟨l[k].nm.toArray⟩) ∧ W.cell? ⟨tq, tf + k * 4 + 1, none⟩ = some (.slice ca l[k].cols.length cc) ∧ W.cell? ⟨tq, tf + k * 4 + 2, none⟩ = some (.slice ua l[k].uq.length uc) ∧ W.cell? ⟨tq, tf + k * 4 + 3, none⟩ = some (.bool l[k].rt)) := fun W h => ⟨(h.cell (p := ⟨tq, tf + k * 4, none⟩) (World.block_lt_of_cell? _ _ t0)).trans t0, (h.cell (p := ⟨tq, tf + k * 4 + 1, none⟩) (World.block_lt_of_cell? _ _ t1)).trans t1, (h.cell (p := ⟨tq, tf + k * 4 + 2, none⟩) (World.block_lt_of_cell? _ _ t2)).trans t2, (h.cell (p := ⟨tq, tf + k * 4 + 3, none⟩) (World.block_lt_of_cell? _ _ t3)).trans t3⟩
  clear tc t0 t1 t2 t3 q1 q2 HT
  generalize l[k] = t at *
  go_enter Tryz.func59, Tryz.ntmps59
  go_wp2_with fail
  refine (PL.out _ HB.out).mono ?_
  rintro e w1 ⟨rfl, hb⟩
  clear x0
  have x0 := cell_at (o := 0) hb.a rfl
  obtain ⟨t0, t1, t2, t3⟩ := TCE.out _ (HB0.out.trans (hb.bel.mono HB0.out.size))
  have r0 := cell_at (o := 0) hb.b rfl
  have g0 := frozen_at 0 hb.b
  have r1 := cell_at (o := 1) hb.b rfl
  have g1 := frozen_at 1 hb.b
  have r2 := cell_at (o := 2) hb.b rfl
  have g2 := frozen_at 2 hb.b
  have r3 := cell_at (o := 3) hb.b rfl
  have g3 := frozen_at 3 hb.b
  have HB1 := Lib.hid hb.bel
  clear hb
  go_wp2_with fail
  refine bodyPost_ret (v := .tuple #[.agg #[.string ⟨t.nm.toArray⟩, .slice ca t.cols.length cc, .slice ua t.uq.length uc, .bool t.rt], .int .i64 0]) (by simp [results, Tryz.results59, go_sem, *]) rfl ?_
  exact ⟨ca, cc, ua, uc, by rw [HE.out.1, HE.out.2], by rw [HE.out.1]; exact HH.out, below4 _ HB1.out (by omega) _ _ _ _⟩
def orL : List Int → Int
  | [] => 0
  | n :: l => if n = 0 then orL l else n
theorem orL_at : ∀ {l : List Int} {k : Nat} (h : k < l.length), l[k] ≠ 0 → (∀ m (h : m < l.length), m < k → l[m] = 0) → orL l = l[k]
  | n :: l, 0, _, e, _ => by
    have e' : n ≠ 0 := e
    simp [orL, e']
  | n :: l, k + 1, h, e, hn => by
    have h0 : n = 0 := hn 0 (by simp) (by omega)
    have ih := orL_at (l := l) (k := k) (by simpa using h) (by simpa using e) (fun m hm hk => by have := hn (m + 1) (by simpa using hm) (by omega); simpa using this)
    simp [orL, h0, ih]
theorem orL_none : ∀ {l : List Int}, (∀ m (h : m < l.length), l[m] = 0) → orL l = 0
  | [], _ => rfl
  | n :: l, hn => by
    have h0 : n = 0 := hn 0 (by simp)
    have ih := orL_none (l := l) (fun m hm => by have := hn (m + 1) (by simpa using hm); simpa using this)
    simp [orL, h0, ih]
set_option maxRecDepth 100000 in
set_option maxHeartbeats 3200000 in
theorem orI (l : List Int) (b : Nat) (w : World) (hl : l.length ≤ 1000) (hc : ∀ k (h : k < l.length), w.cell? ⟨b, k, none⟩ = some (.int .i64 l[k])) :
    Calls Tryz.prog 60 #[.slice (some ⟨b, 0, none⟩) l.length l.length] w fun e w' => e = .returned (.int .i64 (orL l)) ∧ w' = w := by
  have HC := Lib.hid hc
  clear hc
  go_enter Tryz.func60, Tryz.ntmps60
  go_wp2_with fail
  go_loopw [8] (fun i wr => ∃ k : Nat, k ≤ l.length ∧ i = .int .i64 k ∧ Hid ((∀ m (h : m < l.length), m < k → l[m] = 0) ∧ wr = w)) (fun i _ => l.length - (intOf i).toNat)
  case atStart => exact ⟨0, Nat.zero_le _, rfl, fun m _ h => absurd h (by omega), rfl⟩
  case round =>
    obtain ⟨k, hk, rfl, HW⟩ := hrel
    by_cases hlt : k < l.length
    case neg =>
      have HP : Hid (orL l = 0) := orL_none (fun m h => HW.out.1 m h (by omega))
      have hki : decide ((k : Int) < (l.length : Int)) = false := by simp; omega
      go_wp2_with fail
      go_ret
      exact ⟨ret_i HP.out.symm, HW.out.2⟩
    have hki : (k : Int) < (l.length : Int) := by omega
    have c0 : wr.cell? ⟨b, k, none⟩ = some (.int .i64 l[k]) := by rw [HW.out.2]; exact HC.out k hlt
    by_cases he : l[k] = 0
    case neg =>
      have HP : Hid (orL l = l[k]) := orL_at hlt he (fun j h hj => HW.out.1 j h hj)
      have hne : (l[k] != 0) = true := by simpa using he
      clear he
      generalize l[k] = x at *
      go_wp2_with fail
      go_ret
      exact ⟨ret_i HP.out.symm, HW.out.2⟩
    have HN : Hid (∀ m (h : m < l.length), m < k + 1 → l[m] = 0) := fun m h hm => by
      by_cases e : m = k
      · subst e; exact he
      · exact HW.out.1 m h (by omega)
    rw [he] at c0
    clear he
    go_wp2_with fail
    go_roundw
    case rel => exact ⟨k + 1, by omega, by go_num, HN.out, HW.out.2⟩
    case measure => simp [intOf]; omega
def nmK (s : List UInt8) : Int := if s ≠ [] ∧ nameB s = false then 3 else 0
def lkK (s : List UInt8) : Int := if nameB s = false then 3 else 0
set_option maxRecDepth 100000 in
set_option maxHeartbeats 3200000 in
theorem rowNameI (s : List UInt8) (w : World) (hs : s.length ≤ maxLen) : Calls Tryz.prog 61 #[.string ⟨s.toArray⟩] w fun e w' => e = .returned (.int .i64 (nmK s)) ∧ w' = w := by
  have NI := Lib.hid (nameI s w hs)
  clear hs
  by_cases h0 : s = []
  · subst h0
    have HR : Hid (nmK [] = 0) := by show nmK [] = 0; simp [nmK]
    go_enter Tryz.func61, Tryz.ntmps61
    go_wp2_with fail
    go_ret
    exact ⟨ret_i HR.out.symm, rfl⟩
  have hz : (s == []) = false := by simpa using h0
  cases hn : nameB s
  · have HR : Hid (nmK s = 3) := by show nmK s = 3; unfold nmK; rw [if_pos ⟨h0, hn⟩]
    rw [hn] at NI
    clear h0 hn
    go_enter Tryz.func61, Tryz.ntmps61
    go_wp2_with fail
    refine NI.out.mono ?_
    rintro e w1 ⟨rfl, rfl⟩
    go_wp2_with fail
    go_ret
    exact ⟨ret_i HR.out.symm, rfl⟩
  · have HR : Hid (nmK s = 0) := by show nmK s = 0; unfold nmK; rw [if_neg (by simp [hn])]
    rw [hn] at NI
    clear h0 hn
    go_enter Tryz.func61, Tryz.ntmps61
    go_wp2_with fail
    refine NI.out.mono ?_
    rintro e w1 ⟨rfl, rfl⟩
    go_wp2_with fail
    go_ret
    exact ⟨ret_i HR.out.symm, rfl⟩
set_option maxRecDepth 100000 in
set_option maxHeartbeats 3200000 in
theorem lockI (s : List UInt8) (w : World) (hs : s.length ≤ maxLen) : Calls Tryz.prog 69 #[.string ⟨s.toArray⟩] w fun e w' => e = .returned (.int .i64 (lkK s)) ∧ w' = w := by
  have NI := Lib.hid (nameI s w hs)
  clear hs
  cases hn : nameB s
  · have HR : Hid (lkK s = 3) := by show lkK s = 3; unfold lkK; rw [if_pos hn]
    rw [hn] at NI
    clear hn
    go_enter Tryz.func69, Tryz.ntmps69
    go_wp2_with fail
    refine NI.out.mono ?_
    rintro e w1 ⟨rfl, rfl⟩
    go_wp2_with fail
    go_ret
    exact ⟨ret_i HR.out.symm, rfl⟩
  · have HR : Hid (lkK s = 0) := by show lkK s = 0; unfold lkK; rw [if_neg (by simp [hn])]
    rw [hn] at NI
    clear hn
    go_enter Tryz.func69, Tryz.ntmps69
    go_wp2_with fail
    refine NI.out.mono ?_
    rintro e w1 ⟨rfl, rfl⟩
    go_wp2_with fail
    go_ret
    exact ⟨ret_i HR.out.symm, rfl⟩
end Go.Proofs.YtaepgahejelkaaaGreat
