import Derived.Test.YtodgijhpokjjhaaDoorZag
import Derived.Test.YtodgijhpokjjhaaDoorZaj
import Derived.Test.YtodgijhpokjjhaaDoorZak
import Derived.Test.YtodgijhpokjjhaaDoorZan
namespace Go.Proofs.YtodgijhpokjjhaaDoor
open Go.RowKit
set_option linter.unusedSimpArgs false
def dJ : J → Nat → D
  | ⟨k, n, t, keys, items⟩ => fun o => match o with
    | 0 => .i k
    | 1 => .i n
    | 2 => .s t
    | 3 => .l 1 keys.length (fun i _ => .s (keys.getD i []))
    | _ => .l 5 items.length (fun i j => ((items.map fun x => dJ x).getD i (fun _ => .i 0)) j)
def dJs (l : List J) (i j : Nat) : D := ((l.map dJ).getD i (fun _ => .i 0)) j
def dKs (keys : List (List UInt8)) (i : Nat) (_ : Nat) : D := .s (keys.getD i [])
theorem dJ_0 (j : J) : dJ j 0 = .i j.k := by cases j; rw [dJ]; rfl
theorem dJ_1 (j : J) : dJ j 1 = .i j.n := by cases j; rw [dJ]; rfl
theorem dJ_2 (j : J) : dJ j 2 = .s j.t := by cases j; rw [dJ]; rfl
theorem dJ_3 (j : J) : dJ j 3 = .l 1 j.keys.length (dKs j.keys) := by cases j; rw [dJ]; rfl
theorem dJ_4 (j : J) : dJ j 4 = .l 5 j.items.length (dJs j.items) := by cases j; rw [dJ]; rfl
theorem dJs_at {l : List J} {i : Nat} (h : i < l.length) (o : Nat) : dJs l i o = dJ l[i] o := by
  unfold dJs
  rw [List.getD_eq_getElem?_getD, List.getElem?_map, List.getElem?_eq_getElem h]; rfl
theorem dJs_old {l : List J} {x : J} {i : Nat} (h : i < l.length) (o : Nat) : dJs (l ++ [x]) i o = dJs l i o := by
  rw [dJs_at (by simp; omega), dJs_at h, List.getElem_append_left h]
theorem dJs_new (l : List J) (x : J) (o : Nat) : dJs (l ++ [x]) l.length o = dJ x o := by
  rw [dJs_at (by simp)]; simp
theorem dKs_old {l : List (List UInt8)} {x : List UInt8} {i : Nat} (h : i < l.length) (o : Nat) : dKs (l ++ [x]) i o = dKs l i o := by
  unfold dKs
  rw [List.getD_eq_getElem?_getD, List.getD_eq_getElem?_getD, List.getElem?_append_left h]
theorem dKs_new (l : List (List UInt8)) (x : List UInt8) (o : Nat) : dKs (l ++ [x]) l.length o = .s x := by
  unfold dKs; simp
theorem cnt_open {d n : Nat} {j : J} (h : cnt d j = some n) : ∃ d' m, d = d' + 1 ∧ partB j = true ∧ sumO (j.items.map (cnt d')) = some m ∧ n = m + 1 := by
  cases d with
  | zero => simp [cnt] at h
  | succ d =>
    unfold cnt at h
    split at h
    · rename_i hp
      cases e : sumO (j.items.map (cnt d)) with
      | none => rw [e] at h; simp [addO] at h
      | some m => rw [e] at h; simp [addO] at h; exact ⟨d, m, rfl, hp, e, by omega⟩
    · cases h
theorem sumO_le : ∀ (l : List (Option Nat)) (n : Nat), sumO l = some n → ∀ x ∈ l, ∃ m, x = some m ∧ m ≤ n
  | [], _, _, x, hx => absurd hx (List.not_mem_nil)
  | y :: l, n, h, x, hx => by
    unfold sumO at h
    cases y with
    | none => simp [addO] at h
    | some a =>
      cases e : sumO l with
      | none => rw [e] at h; simp [addO] at h
      | some b =>
        rw [e] at h
        simp [addO] at h
        rcases List.mem_cons.1 hx with rfl | hx
        · exact ⟨a, rfl, by omega⟩
        · obtain ⟨m, hm, hle⟩ := sumO_le l b e x hx
          exact ⟨m, hm, by omega⟩
theorem text_len {t : List UInt8} (h : textB t = true) : t.length ≤ 200 := by
  unfold textB at h
  simp only [Bool.and_eq_true, decide_eq_true_eq] at h
  exact h.1
theorem keys_len {keys : List (List UInt8)} (h : keysB keys = true) : ∀ x ∈ keys, x.length ≤ 200 := fun x hx => by
  obtain ⟨i, hi, rfl⟩ := List.mem_iff_getElem.1 hx
  unfold keysB keysTo at h
  have := List.all_eq_true.1 h i (List.mem_range.2 hi)
  unfold keyB at this
  simp only [Bool.and_eq_true] at this
  have h1 := text_len this.1
  rwa [List.getD_eq_getElem?_getD, List.getElem?_eq_getElem hi] at h1
theorem part_len {j : J} (h : partB j = true) : j.t.length ≤ 200 ∧ j.keys.length ≤ j.items.length ∧ ∀ x ∈ j.keys, x.length ≤ 200 := by
  have hn : ∀ {j : J}, noKeys j = true → j.keys = [] := fun {j} h => by
    unfold noKeys at h
    have : j.keys.length = 0 := by simpa using h
    exact List.length_eq_zero_iff.1 this
  have he : ∀ {t : List UInt8}, t.isEmpty = true → t.length ≤ 200 := fun {t} h => by
    rw [List.isEmpty_iff] at h; rw [h]; simp
  unfold partB at h
  split at h
  · simp only [Bool.and_eq_true] at h
    rw [hn h.2.2.1]; exact ⟨he h.2.1, by simp, by simp⟩
  split at h
  · simp only [Bool.and_eq_true] at h
    rw [hn h.2.2.1]; exact ⟨he h.2.1, by simp, by simp⟩
  split at h
  · simp only [Bool.and_eq_true] at h
    rw [hn h.2.2.1]; exact ⟨he h.2.1, by simp, by simp⟩
  split at h
  · simp only [Bool.and_eq_true] at h
    rw [hn h.2.2.1]; exact ⟨text_len h.2.1, by simp, by simp⟩
  split at h
  · simp only [Bool.and_eq_true] at h
    rw [hn h.2.2]; exact ⟨he h.2.1, by simp, by simp⟩
  split at h
  · simp only [Bool.and_eq_true] at h
    refine ⟨he h.2.1, ?_, keys_len h.2.2.2⟩
    have : (j.keys.length : Int) = (j.items.length : Int) := by simpa using h.2.2.1
    omega
  · cases h
theorem sum_bound (f : J → Nat) (d : Nat) : ∀ (l : List J) (m : Nat), sumO (l.map (cnt d)) = some m → (∀ x ∈ l, ∀ n, cnt d x = some n → f x + 202 ≤ 402 * n) → (l.map f).sum + 202 * l.length ≤ 402 * m
  | [], _, _, _ => by simp
  | x :: l, m, h, hf => by
    simp only [List.map_cons, sumO] at h
    cases e1 : cnt d x with
    | none => rw [e1] at h; simp [addO] at h
    | some a =>
      cases e2 : sumO (l.map (cnt d)) with
      | none => rw [e1, e2] at h; simp [addO] at h
      | some b =>
        rw [e1, e2] at h
        simp [addO] at h
        have h1 := hf x (by simp) a e1
        have h2 := sum_bound f d l b e2 (fun y hy => hf y (by simp [hy]))
        simp only [List.map_cons, List.sum_cons, List.length_cons]
        omega
theorem szK_bound : ∀ keys : List (List UInt8), (∀ x ∈ keys, x.length ≤ 200) → szK keys ≤ 201 * keys.length
  | [], _ => by simp [szK]
  | x :: l, h => by
    have h1 := h x (by simp)
    have h2 := szK_bound l (fun y hy => h y (by simp [hy]))
    unfold szK at h2 ⊢
    simp only [List.map_cons, List.sum_cons, List.length_cons]
    omega
theorem cnt_sz (j : J) : ∀ d n, cnt d j = some n → j.sz + 202 ≤ 402 * n := by
  induction j using J.induct with
  | h j ih =>
    intro d n h
    obtain ⟨d', m, rfl, hp, hs, rfl⟩ := cnt_open h
    obtain ⟨h1, h2, h3⟩ := part_len hp
    have h4 := sum_bound J.sz d' j.items m hs (fun x hx n hn => ih x hx d' n hn)
    have h5 := szK_bound j.keys h3
    rw [J.sz_eq]
    omega
inductive Small : J → Prop
  | mk {j : J} : j.t.length ≤ 9 → (∀ x ∈ j.keys, x.length ≤ 2) → (∀ x ∈ j.items, Small x) → Small j
theorem Small.t {j : J} (h : Small j) : j.t.length ≤ 9 := by cases h; assumption
theorem Small.k {j : J} (h : Small j) : ∀ x ∈ j.keys, x.length ≤ 2 := by cases h; assumption
theorem Small.i {j : J} (h : Small j) : ∀ x ∈ j.items, Small x := by cases h; assumption
theorem rj_of {w : World} {B : Nat → Prop} (j : J) : ∀ (d n : Nat) (cs : List Value), cnt d j = some n → n ≤ 1000000 → cs.length = 5 → (∀ o, o < 5 → ∃ u, cs[o]? = some u ∧ Rd w B (dJ j o) u) → RJ w B j cs := by
  induction j using J.induct with
  | h j ih =>
    intro d n cs hc hn hl hr
    obtain ⟨d', m, rfl, hp, hs, rfl⟩ := cnt_open hc
    have hlen := cnt_len hc
    obtain ⟨h1, h2, h3⟩ := part_len hp
    obtain ⟨u0, e0, r0⟩ := hr 0 (by omega)
    obtain ⟨u1, e1, r1⟩ := hr 1 (by omega)
    obtain ⟨u2, e2, r2⟩ := hr 2 (by omega)
    obtain ⟨u3, e3, r3⟩ := hr 3 (by omega)
    obtain ⟨u4, e4, r4⟩ := hr 4 (by omega)
    rw [dJ_0] at r0
    rw [dJ_1] at r1
    rw [dJ_2] at r2
    rw [dJ_3] at r3
    rw [dJ_4] at r4
    obtain ⟨ka, kc, rfl⟩ := r3.slice
    obtain ⟨ia, ic, rfl⟩ := r4.slice
    replace r0 : u0 = .int .i64 j.k := r0
    replace r1 : u1 = .int .i64 j.n := r1
    replace r2 : u2 = .string ⟨j.t.toArray⟩ := r2
    subst r0 r1 r2
    rw [RJ_eq]
    have hcs : cs = [.int .i64 j.k, .int .i64 j.n, .string ⟨j.t.toArray⟩, .slice ka j.keys.length kc, .slice ia j.items.length ic] := by
      apply List.ext_getElem?
      intro q
      by_cases hq : q < 5
      · rcases (by omega : q = 0 ∨ q = 1 ∨ q = 2 ∨ q = 3 ∨ q = 4) with rfl | rfl | rfl | rfl | rfl
        · exact e0
        · exact e1
        · exact e2
        · exact e3
        · exact e4
      · rw [List.getElem?_eq_none (by omega), List.getElem?_eq_none (by simp; omega)]
    refine ⟨ka, kc, ia, ic, hcs, by unfold maxLen; omega, by unfold maxLen; omega, by unfold maxLen; omega, fun x hx => by have := h3 x hx; unfold maxLen; omega, ?_, ?_⟩
    · by_cases h0 : j.keys.length = 0
      · exact .inl h0
      · obtain ⟨b, off, rfl, hb, -⟩ := r3.cells (i := 0) (by omega)
        refine .inr ⟨b, off, rfl, hb, fun i hi => ?_⟩
        obtain ⟨u, hu, hr⟩ := r3.spot (j := 0) hi (by omega)
        replace hr : u = .string ⟨(j.keys.getD i []).toArray⟩ := hr
        rw [hr, List.getD_eq_getElem?_getD, List.getElem?_eq_getElem hi] at hu
        simpa using hu
    · by_cases h0 : j.items.length = 0
      · exact .inl h0
      · obtain ⟨b, off, rfl, hb, -⟩ := r4.cells (i := 0) (by omega)
        refine .inr ⟨b, off, rfl, hb, fun i hi => ?_⟩
        have hx := List.getElem_mem hi
        obtain ⟨q, hq, hqm⟩ := sumO_le _ m hs (cnt d' j.items[i]) (List.mem_map_of_mem hx)
        have hc : ∀ o, ∃ u, o < 5 → w.cell? ⟨b, off + i * 5 + o, none⟩ = some u ∧ Rd w B (dJ j.items[i] o) u := fun o => by
          by_cases ho : o < 5
          · obtain ⟨u, hu, hr⟩ := r4.spot (i := i) (j := o) hi ho
            exact ⟨u, fun _ => ⟨hu, by rw [dJs_at hi] at hr; exact hr⟩⟩
          · exact ⟨undef, fun h => absurd h ho⟩
        obtain ⟨g, hg⟩ := Classical.axiomOfChoice hc
        refine ⟨[g 0, g 1, g 2, g 3, g 4], fun o v hv => ?_, ih _ hx d' q _ hq (by omega) rfl (fun o ho => ?_)⟩
        · have ho : o < 5 := (List.getElem?_eq_some_iff.1 hv).1
          have e : [g 0, g 1, g 2, g 3, g 4][o]? = some (g o) := by
            rcases (by omega : o = 0 ∨ o = 1 ∨ o = 2 ∨ o = 3 ∨ o = 4) with rfl | rfl | rfl | rfl | rfl <;> rfl
          rw [e] at hv
          obtain rfl := Option.some.inj hv
          exact (hg o ho).1
        · refine ⟨g o, ?_, (hg o ho).2⟩
          rcases (by omega : o = 0 ∨ o = 1 ∨ o = 2 ∨ o = 3 ∨ o = 4) with rfl | rfl | rfl | rfl | rfl <;> rfl
theorem SG.nil {w : World} {base : Nat} {G : Nat → Prop} {T : TypeId} {n : Nat} {f : Nat → Nat → D} : SG w base G T n f 0 (.slice none 0 0) := ⟨[], ⟨by simp, .inl ⟨rfl, rfl⟩⟩, fun i j h => absurd h (by omega)⟩
theorem SG.conv {w : World} {base : Nat} {G G' : Nat → Prop} {T : TypeId} {n : Nat} {f f' : Nat → Nat → D} {k : Nat} {v : Value} (h : SG w base G T n f k v) (hf : ∀ i j, i < k → f' i j = f i j) (hG : ∀ c, c < w.heap.size → G c → G' c) : SG w base G' T n f' k v := by
  obtain ⟨xs, h1, h2⟩ := h
  refine ⟨xs, h1, fun i j hi hj => ?_⟩
  obtain ⟨u, hu, hr⟩ := h2 i j hi hj
  exact ⟨u, hu, by rw [hf i j hi]; exact hr.mono (fun c hc => ⟨hc.1, hG c hc.1.2 hc.2⟩)⟩
theorem SG.frmP {w w' : World} {base : Nat} {G : Nat → Prop} {T : TypeId} {n : Nat} {f : Nat → Nat → D} {k : Nat} {v : Value} {p : Nat} (h : SG w base G T n f k v) (hF : Frm (· = p) w w') (hv : ∀ g, v.ownBlock = some g → g ≠ p) (hG : ∀ c, G c → c ≠ p) : SG w' base G T n f k v := by
  obtain ⟨xs, h1, h2⟩ := h
  refine ⟨xs, ?_, fun i j hi hj => ?_⟩
  · obtain ⟨h3, h4⟩ := h1
    refine ⟨h3, ?_⟩
    rcases h4 with h4 | ⟨g, cap, cur, hv', hg, hh, r⟩
    · exact .inl h4
    · exact .inr ⟨g, cap, cur, hv', hg, by rw [hF.block g (Array.getElem?_eq_some_iff.1 hh).1 (hv g (by rw [hv']; rfl))]; exact hh, r⟩
  · obtain ⟨u, hu, hr⟩ := h2 i j hi hj
    exact ⟨u, hu, Rd.same (fun c hc => hF.block c hc.1.2 (hG c hc.2)) (fun c hc => ⟨⟨hc.1.1, Nat.lt_of_lt_of_le hc.1.2 hF.size⟩, hc.2⟩) _ _ hr⟩
theorem SG.grown {w w' : World} {base : Nat} {G : Nat → Prop} {T : TypeId} {n : Nat} {f : Nat → Nat → D} {k : Nat} {v : Value} {o : Option Nat} (h : SG w base G T n f k v) (hg : w.grownBy w' o) (hv : ∀ g, v.ownBlock = some g → o ≠ some g) (hG : ∀ c, G c → o ≠ some c) : SG w' base G T n f k v := by
  obtain ⟨xs, h1, h2⟩ := h
  refine ⟨xs, ?_, fun i j hi hj => ?_⟩
  · obtain ⟨h3, h4⟩ := h1
    refine ⟨h3, ?_⟩
    rcases h4 with h4 | ⟨g, cap, cur, hv', hg', hh, r⟩
    · exact .inl h4
    · exact .inr ⟨g, cap, cur, hv', hg', by rw [hg.block g (Array.getElem?_eq_some_iff.1 hh).1 (fun e => hv g (by rw [hv']; rfl) e.symm)]; exact hh, r⟩
  · obtain ⟨u, hu, hr⟩ := h2 i j hi hj
    exact ⟨u, hu, Rd.same (fun c hc => hg.block c hc.1.2 (fun e => hG c hc.2 e.symm)) (fun c hc => ⟨⟨hc.1.1, Nat.lt_of_lt_of_le hc.1.2 hg.size⟩, hc.2⟩) _ _ hr⟩
end Go.Proofs.YtodgijhpokjjhaaDoor
