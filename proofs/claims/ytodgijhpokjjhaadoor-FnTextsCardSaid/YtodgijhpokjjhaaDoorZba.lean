import Derived.Test.YtodgijhpokjjhaaDoorZat
namespace Go.Proofs.YtodgijhpokjjhaaDoor
open Go.RowKit
set_option linter.unusedSimpArgs false
structure Fr where
  buf : List UInt8
  d : Int
  q : Bool
  s : Bool
  c : Bool
def fr0 : Fr := ⟨[], 0, false, false, false⟩
def frC : Fr := ⟨[], 0, false, false, true⟩
def doesB (b : UInt8) : Nat :=
  if b = 32 ∨ b = 9 ∨ b = 10 ∨ b = 13 then 1
  else if b = 91 ∨ b = 123 then 2
  else if b = 93 ∨ b = 125 then 3
  else if b = 34 then 4
  else if b = 92 then 5
  else 0
def stepF (f : Fr) (b : UInt8) : Fr × Option (List UInt8) :=
  if f.buf = [] ∧ doesB b = 1 then (f, none)
  else if (f.buf = [] ∧ doesB b ≠ 2) ∨ f.buf.length = 3000 then (frC, none)
  else if f.s = true then ({ f with buf := f.buf ++ [b], s := false }, none)
  else if doesB b = 4 then ({ f with buf := f.buf ++ [b], q := !f.q }, none)
  else if f.q = true then ({ f with buf := f.buf ++ [b], s := decide (doesB b = 5) }, none)
  else if doesB b = 2 then (if 12 < f.d + 1 then (frC, none) else ({ f with buf := f.buf ++ [b], d := f.d + 1 }, none))
  else if doesB b = 3 then (if f.d - 1 = 0 then ({ f with buf := [], d := 0 }, some (f.buf ++ [b])) else ({ f with buf := f.buf ++ [b], d := f.d - 1 }, none))
  else ({ f with buf := f.buf ++ [b] }, none)
structure Inv (f : Fr) : Prop where
  dz : f.d = 0 ↔ f.buf = []
  len : f.buf.length ≤ 3000
  d0 : 0 ≤ f.d
  d12 : f.d ≤ 12
  nq : f.buf = [] → f.q = false ∧ f.s = false
  cl : f.c = true → f = frC
theorem inv0 : Inv fr0 := ⟨by simp [fr0], by simp [fr0], by simp [fr0], by simp [fr0], fun _ => ⟨rfl, rfl⟩, fun h => by cases h⟩
theorem invC : Inv frC := ⟨by simp [frC], by simp [frC], by simp [frC], by simp [frC], fun _ => ⟨rfl, rfl⟩, fun _ => rfl⟩
theorem inv_step {f : Fr} (h : Inv f) (hc : f.c = false) (b : UInt8) : Inv (stepF f b).1 := by
  unfold stepF
  split
  · exact h
  split
  · exact invC
  rename_i h1 h2
  have hl : f.buf.length + 1 ≤ 3000 := by have := h.len; omega
  have hd : f.buf = [] → doesB b = 2 := fun e => by
    apply Classical.byContradiction
    intro hn
    exact h2 (.inl ⟨e, hn⟩)
  have hb : f.buf ≠ [] → f.d ≠ 0 := fun e e' => e (h.dz.1 e')
  split
  · rename_i hs
    have hne : f.buf ≠ [] := fun e => by rw [(h.nq e).2] at hs; cases hs
    exact ⟨by simp [hb hne], by simp; omega, h.d0, h.d12, fun e => by simp at e, fun e => by rw [hc] at e; cases e⟩
  split
  · rename_i hs h4
    have hne : f.buf ≠ [] := fun e => by have := hd e; omega
    exact ⟨by simp [hb hne], by simp; omega, h.d0, h.d12, fun e => by simp at e, fun e => by rw [hc] at e; cases e⟩
  split
  · rename_i hs h4 hq
    have hne : f.buf ≠ [] := fun e => by rw [(h.nq e).1] at hq; cases hq
    exact ⟨by simp [hb hne], by simp; omega, h.d0, h.d12, fun e => by simp at e, fun e => by rw [hc] at e; cases e⟩
  split
  · split
    · exact invC
    · have h0 := h.d0
      exact ⟨by simp; omega, by simp; omega, by show 0 ≤ f.d + 1; omega, by show f.d + 1 ≤ 12; omega, fun e => by simp at e, fun e => by rw [hc] at e; cases e⟩
  rename_i hs h4 hq h2'
  have hne : f.buf ≠ [] := fun e => h2' (hd e)
  split
  · split
    · exact ⟨by simp, by simp, by simp, by simp, fun _ => ⟨by simpa using hq, by simpa using hs⟩, fun e => by rw [hc] at e; cases e⟩
    · rename_i hn
      have h0 := h.d0
      have := hb hne
      exact ⟨by simp; omega, by simp; omega, by show 0 ≤ f.d - 1; omega, by show f.d - 1 ≤ 12; have := h.d12; omega, fun e => by simp at e, fun e => by rw [hc] at e; cases e⟩
  · exact ⟨by simp [hb hne], by simp; omega, h.d0, h.d12, fun e => by simp at e, fun e => by rw [hc] at e; cases e⟩
def feedL (f : Fr) : List UInt8 → Fr × List (List UInt8)
  | [] => (f, [])
  | b :: r => if f.c = true then (f, []) else ((feedL (stepF f b).1 r).1, (stepF f b).2.toList ++ (feedL (stepF f b).1 r).2)
theorem feed_closed {f : Fr} (h : f.c = true) (l : List UInt8) : feedL f l = (f, []) := by
  cases l with
  | nil => rfl
  | cons b r => rw [feedL, if_pos h]
theorem feed_app (f : Fr) (a b : List UInt8) : feedL f (a ++ b) = ((feedL (feedL f a).1 b).1, (feedL f a).2 ++ (feedL (feedL f a).1 b).2) := by
  induction a generalizing f with
  | nil => simp [feedL]
  | cons x a ih =>
    rw [List.cons_append, feedL, feedL]
    by_cases hc : f.c = true
    · rw [if_pos hc, if_pos hc]
      simp [feed_closed hc]
    · rw [if_neg hc, if_neg hc, ih]
      simp
theorem feed_snoc (f : Fr) (t : List UInt8) (k : Nat) (hk : k < t.length) (hc : (feedL f (t.take k)).1.c = false) :
    feedL f (t.take (k + 1)) = ((stepF (feedL f (t.take k)).1 t[k]).1, (feedL f (t.take k)).2 ++ (stepF (feedL f (t.take k)).1 t[k]).2.toList) := by
  rw [List.take_succ_eq_append_getElem hk, feed_app, feedL, if_neg (by simp [hc])]
  simp [feedL]
theorem feed_stop (f : Fr) (t : List UInt8) (k : Nat) (hc : (feedL f (t.take k)).1.c = true) : feedL f t = feedL f (t.take k) := by
  conv => lhs; rw [← List.take_append_drop k t, feed_app, feed_closed hc]
  simp
theorem inv_feed {f : Fr} (h : Inv f) (t : List UInt8) : Inv (feedL f t).1 := by
  induction t generalizing f with
  | nil => exact h
  | cons b r ih =>
    rw [feedL]
    by_cases hc : f.c = true
    · rw [if_pos hc]; exact h
    · rw [if_neg hc]
      exact ih (inv_step h (by simpa using hc) b)
theorem step_len (f : Fr) (b : UInt8) : (stepF f b).1.buf.length + ((stepF f b).2.toList.map (·.length)).sum ≤ f.buf.length + 1 ∧ ∀ x ∈ (stepF f b).2.toList, 0 < x.length := by
  unfold stepF
  repeat' split
  all_goals simp [frC]
theorem feed_len (f : Fr) (t : List UInt8) : (feedL f t).1.buf.length + ((feedL f t).2.map (·.length)).sum ≤ f.buf.length + t.length ∧ ∀ x ∈ (feedL f t).2, 0 < x.length := by
  induction t generalizing f with
  | nil => simp [feedL]
  | cons b r ih =>
    rw [feedL]
    by_cases hc : f.c = true
    · rw [if_pos hc]; simp
    · rw [if_neg hc]
      have h1 := step_len f b
      have h2 := ih (stepF f b).1
      refine ⟨?_, fun x hx => ?_⟩
      · simp only [List.map_append, List.sum_append, List.length_cons]
        omega
      · rcases List.mem_append.1 hx with hx | hx
        · exact h1.2 x hx
        · exact h2.2 x hx
theorem out_len (f : Fr) (t : List UInt8) : (feedL f t).2.length ≤ f.buf.length + t.length := by
  have h1 := feed_len f t
  have h2 : ∀ l : List (List UInt8), (∀ x ∈ l, 0 < x.length) → l.length ≤ (l.map (·.length)).sum := by
    intro l
    induction l with
    | nil => simp
    | cons x r ih =>
      intro h
      have := h x (by simp)
      have := ih (fun y hy => h y (by simp [hy]))
      simp only [List.map_cons, List.sum_cons, List.length_cons]
      omega
  have := h2 _ h1.2
  omega
end Go.Proofs.YtodgijhpokjjhaaDoor
