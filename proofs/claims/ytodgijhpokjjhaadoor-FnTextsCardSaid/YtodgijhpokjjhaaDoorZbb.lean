import Derived.Test.YtodgijhpokjjhaaDoorZav
import Derived.Test.YtodgijhpokjjhaaDoorZba
import Derived.Test.YtodgijhpokjjhaaDoorZao
namespace Go.Proofs.YtodgijhpokjjhaaDoor
open Go.RowKit
set_option linter.unusedSimpArgs false
theorem sum_bound2 (f : J → Nat) (d A B : Nat) : ∀ (l : List J) (m : Nat), sumO (l.map (cnt d)) = some m → (∀ x ∈ l, ∀ n, cnt d x = some n → f x + A ≤ B * n) → (l.map f).sum + A * l.length ≤ B * m
  | [], _, _, _ => by simp
  | x :: l, m, h, hf => by
    simp only [List.map_cons, sumO] at h
    cases e1 : cnt d x with
    | none => rw [e1] at h; simp [addO] at h
    | some a =>
      cases e2 : sumO (l.map (cnt d)) with
      | none => rw [e1, e2] at h; simp [addO] at h
      | some b =>
        rw [e1, e2] at h
        simp [addO] at h
        have h1 := hf x (by simp) a e1
        have h2 := sum_bound2 f d A B l b e2 (fun y hy => hf y (by simp [hy]))
        subst h
        simp only [List.map_cons, List.sum_cons, List.length_cons]
        rw [Nat.mul_add B, Nat.mul_succ]
        omega
theorem keys_sum : ∀ keys : List (List UInt8), (∀ x ∈ keys, x.length ≤ 2) → (keys.map List.length).sum ≤ 2 * keys.length
  | [], _ => by simp
  | x :: l, h => by
    have h1 := h x (by simp)
    have h2 := keys_sum l (fun y hy => h y (by simp [hy]))
    simp only [List.map_cons, List.sum_cons, List.length_cons]
    omega
theorem pr_small (j : J) : ∀ d n, cnt d j = some n → Small j → (pr j).length + 8 ≤ 28 * n := by
  induction j using J.induct with
  | h j ih =>
    intro d n hc hs
    have g : Good j := ⟨d, n, hc⟩
    obtain ⟨d', m, rfl, hp, hsum, rfl⟩ := cnt_open hc
    have hk := g.kind
    rw [pr_eq]
    rcases (by omega : j.k = 0 ∨ j.k = 1 ∨ j.k = 2 ∨ j.k = 3 ∨ 4 ≤ j.k) with k | k | k | k | k
    · rw [if_pos k]; simp; omega
    · rw [if_neg (by omega), if_pos k]; split <;> simp <;> omega
    · rw [if_neg (by omega), if_neg (by omega), if_pos k]
      rw [part2 k] at hp
      simp [inB] at hp
      unfold num
      have := dig_len9 j.n.natAbs (by omega)
      split <;> simp <;> omega
    · rw [if_neg (by omega), if_neg (by omega), if_neg (by omega), if_pos k]
      have := quo_len j.t
      have := hs.t
      omega
    · rw [if_neg (by omega), if_neg (by omega), if_neg (by omega), if_neg (by omega)]
      have h1 := joinF_len true (pieces j.k j.keys (j.items.map pr))
      have h2 := pieces_len j.k j.keys (j.items.map pr)
      have h3 := sum_bound2 (fun x => (pr x).length) d' 8 28 j.items m hsum (fun x hx n hn => ih x hx d' n hn (hs.i x hx))
      have h4 := keys_sum j.keys hs.k
      have h5 := (part_len hp).2.1
      have h6 : ((j.items.map pr).map List.length).sum = (j.items.map (fun x => (pr x).length)).sum := by rw [List.map_map]; rfl
      simp only [List.length_cons, List.length_append, List.length_nil, List.length_map] at h1 h2 h3 ⊢
      omega
def frT (B : List UInt8) (D : Int) (q : Bool) : Fr := ⟨B, D, q, false, false⟩
def Fd (q : Bool) (D : Int) (l : List UInt8) : Prop := ∀ B, B ≠ [] → B.length + l.length ≤ 3000 → feedL (frT B D q) l = (frT (B ++ l) D q, [])
theorem fd_nil (q : Bool) (D : Int) : Fd q D [] := fun B _ _ => by simp [feedL]
theorem fd_app {q : Bool} {D : Int} {a b : List UInt8} (ha : Fd q D a) (hb : Fd q D b) : Fd q D (a ++ b) := fun B hB hl => by
  rw [List.length_append] at hl
  rw [feed_app, ha B hB (by omega)]
  show ((feedL (frT (B ++ a) D q) b).1, [] ++ (feedL (frT (B ++ a) D q) b).2) = _
  rw [hb (B ++ a) (by simp [hB]) (by simp; omega), List.append_assoc]
  rfl
theorem stepv_one {f g : Fr} {b : UInt8} (hc : f.c = false) (h : stepF f b = (g, none)) : feedL f [b] = (g, []) := by
  rw [feedL, if_neg (by simp [hc]), h]; rfl
theorem not_full {f : Fr} {b : UInt8} (hB : f.buf ≠ []) (hl : f.buf.length < 3000) : ¬ ((f.buf = [] ∧ doesB b ≠ 2) ∨ f.buf.length = 3000) := fun h => h.elim (fun h => hB h.1) (fun h => by omega)
theorem st_plain (f : Fr) (b : UInt8) (hB : f.buf ≠ []) (hl : f.buf.length < 3000) (hs : f.s = false) (hq : f.q = false) (h2 : doesB b ≠ 2) (h3 : doesB b ≠ 3) (h4 : doesB b ≠ 4) : stepF f b = ({ f with buf := f.buf ++ [b] }, none) := by
  unfold stepF
  rw [if_neg (fun h => hB h.1), if_neg (not_full hB hl), if_neg (by simp [hs]), if_neg h4, if_neg (by simp [hq]), if_neg h2, if_neg h3]
theorem st_in (f : Fr) (b : UInt8) (hB : f.buf ≠ []) (hl : f.buf.length < 3000) (hs : f.s = false) (hq : f.q = true) (h4 : doesB b ≠ 4) : stepF f b = ({ f with buf := f.buf ++ [b], s := decide (doesB b = 5) }, none) := by
  unfold stepF
  rw [if_neg (fun h => hB h.1), if_neg (not_full hB hl), if_neg (by simp [hs]), if_neg h4, if_pos hq]
theorem st_skip (f : Fr) (b : UInt8) (hB : f.buf ≠ []) (hl : f.buf.length < 3000) (hs : f.s = true) : stepF f b = ({ f with buf := f.buf ++ [b], s := false }, none) := by
  unfold stepF
  rw [if_neg (fun h => hB h.1), if_neg (not_full hB hl), if_pos hs]
theorem st_quote (f : Fr) (hB : f.buf ≠ []) (hl : f.buf.length < 3000) (hs : f.s = false) : stepF f 34 = ({ f with buf := f.buf ++ [34], q := !f.q }, none) := by
  unfold stepF
  rw [if_neg (fun h => hB h.1), if_neg (not_full hB hl), if_neg (by simp [hs]), if_pos (by decide)]
theorem st_open (f : Fr) (b : UInt8) (hB : f.buf ≠ []) (hl : f.buf.length < 3000) (hs : f.s = false) (hq : f.q = false) (h2 : doesB b = 2) (hd : ¬ 12 < f.d + 1) : stepF f b = ({ f with buf := f.buf ++ [b], d := f.d + 1 }, none) := by
  unfold stepF
  rw [if_neg (fun h => hB h.1), if_neg (not_full hB hl), if_neg (by simp [hs]), if_neg (by omega), if_neg (by simp [hq]), if_pos h2, if_neg hd]
theorem st_shut (f : Fr) (b : UInt8) (hB : f.buf ≠ []) (hl : f.buf.length < 3000) (hs : f.s = false) (hq : f.q = false) (h3 : doesB b = 3) (hd : ¬ f.d - 1 = 0) : stepF f b = ({ f with buf := f.buf ++ [b], d := f.d - 1 }, none) := by
  unfold stepF
  rw [if_neg (fun h => hB h.1), if_neg (not_full hB hl), if_neg (by simp [hs]), if_neg (by omega), if_neg (by simp [hq]), if_neg (by omega), if_pos h3, if_neg hd]
theorem st_last (f : Fr) (b : UInt8) (hB : f.buf ≠ []) (hl : f.buf.length < 3000) (hs : f.s = false) (hq : f.q = false) (h3 : doesB b = 3) (hd : f.d - 1 = 0) : stepF f b = ({ f with buf := [], d := 0 }, some (f.buf ++ [b])) := by
  unfold stepF
  rw [if_neg (fun h => hB h.1), if_neg (not_full hB hl), if_neg (by simp [hs]), if_neg (by omega), if_neg (by simp [hq]), if_neg (by omega), if_pos h3, if_pos hd]
theorem fd_byte {D : Int} {b : UInt8} (h2 : doesB b ≠ 2) (h3 : doesB b ≠ 3) (h4 : doesB b ≠ 4) : Fd false D [b] := fun B hB hl =>
  stepv_one rfl (st_plain (frT B D false) b hB (show B.length < 3000 by have h : B.length + 1 ≤ 3000 := hl; omega) rfl rfl h2 h3 h4)
theorem fd_in {D : Int} {b : UInt8} (h4 : doesB b ≠ 4) (h5 : doesB b ≠ 5) : Fd true D [b] := fun B hB hl => by
  have h := st_in (frT B D true) b hB (show B.length < 3000 by have h : B.length + 1 ≤ 3000 := hl; omega) rfl rfl h4
  rw [decide_eq_false h5] at h
  exact stepv_one rfl h
theorem fd_esc {D : Int} (b : UInt8) : Fd true D [92, b] := fun B hB hl => by
  have hl : B.length + 2 ≤ 3000 := hl
  have h1 : stepF (frT B D true) 92 = (⟨B ++ [92], D, true, true, false⟩, none) := st_in (frT B D true) 92 hB (show B.length < 3000 by omega) rfl rfl (by decide)
  have h2 : stepF ⟨B ++ [92], D, true, true, false⟩ b = (frT (B ++ [92, b]) D true, none) := by
    rw [st_skip ⟨B ++ [92], D, true, true, false⟩ b (by simp) (by simp; omega) rfl]
    simp [frT]
  rw [feedL, if_neg (by simp [frT]), h1]
  show ((feedL ⟨B ++ [92], D, true, true, false⟩ [b]).1, [] ++ (feedL ⟨B ++ [92], D, true, true, false⟩ [b]).2) = _
  rw [stepv_one rfl h2]; rfl
theorem fd_text {D : Int} : ∀ t : List UInt8, Fd true D (t.flatMap esc)
  | [] => fd_nil _ _
  | c :: t => by
    rw [List.flatMap_cons]
    refine fd_app ?_ (fd_text t)
    unfold esc
    by_cases hs : special c = true
    · rw [if_pos hs]; exact fd_esc c
    · rw [if_neg hs]
      simp only [special, Bool.or_eq_true, beq_iff_eq, not_or] at hs
      refine fd_in ?_ ?_
      · unfold doesB; split <;> (try split) <;> (try split) <;> (try split) <;> (try split) <;> simp_all
      · unfold doesB; split <;> (try split) <;> (try split) <;> (try split) <;> (try split) <;> simp_all
theorem fd_quo {D : Int} (t : List UInt8) : Fd false D (quo t) := fun B hB hl => by
  have hT := fd_text (D := D) t
  unfold quo at hl ⊢
  generalize t.flatMap esc = u at hT hl ⊢
  have hl' : B.length + (u.length + 2) ≤ 3000 := by simp at hl; omega
  have h1 : stepF (frT B D false) 34 = (frT (B ++ [34]) D true, none) := st_quote (frT B D false) hB (show B.length < 3000 by omega) rfl
  have h2 : ∀ C : List UInt8, C ≠ [] → C.length < 3000 → stepF (frT C D true) 34 = (frT (C ++ [34]) D false, none) := fun C hC hl => st_quote (frT C D true) hC hl rfl
  rw [feedL, if_neg (by simp [frT]), h1]
  show ((feedL (frT (B ++ [34]) D true) (u ++ [34])).1, [] ++ (feedL (frT (B ++ [34]) D true) (u ++ [34])).2) = _
  rw [feed_app, hT (B ++ [34]) (by simp) (by simp; omega)]
  show ((feedL (frT (B ++ [34] ++ u) D true) [34]).1, [] ++ ([] ++ (feedL (frT (B ++ [34] ++ u) D true) [34]).2)) = _
  rw [stepv_one rfl (h2 _ (by simp) (by simp; omega))]
  simp
theorem fd_plain {D : Int} : ∀ l : List UInt8, (∀ b ∈ l, doesB b = 0) → Fd false D l
  | [], _ => fd_nil _ _
  | b :: l, h => by
    have h0 := h b (by simp)
    exact fd_app (a := [b]) (fd_byte (by omega) (by omega) (by omega)) (fd_plain l (fun c hc => h c (by simp [hc])))
theorem dig_does {b : UInt8} (h : isDig b = true) : doesB b = 0 := by
  unfold isDig at h
  simp at h
  unfold doesB
  have h1 : ∀ v : UInt8, v.toNat < 48 ∨ 57 < v.toNat → b ≠ v := fun v hv e => by subst e; have := h; omega
  split
  · rename_i e; rcases e with e | e | e | e <;> exact absurd e (h1 _ (by decide))
  split
  · rename_i e; rcases e with e | e <;> exact absurd e (h1 _ (by decide))
  split
  · rename_i e; rcases e with e | e <;> exact absurd e (h1 _ (by decide))
  split
  · rename_i e; exact absurd e (h1 _ (by decide))
  split
  · rename_i e; exact absurd e (h1 _ (by decide))
  · rfl
theorem fd_join {D : Int} : ∀ (f : Bool) (l : List (List UInt8)), (∀ s ∈ l, Fd false D s) → Fd false D (joinF f l)
  | _, [], _ => fd_nil _ _
  | f, s :: l, h => by
    unfold joinF
    refine fd_app ?_ (fd_app (h s (by simp)) (fd_join false l (fun x hx => h x (by simp [hx]))))
    cases f
    · exact fd_byte (by decide) (by decide) (by decide)
    · exact fd_nil _ _
theorem fd_pieces {D : Int} (k : Int) : ∀ (keys ss : List (List UInt8)), (∀ s ∈ ss, Fd false D s) → ∀ s ∈ pieces k keys ss, Fd false D s := fun keys ss h s hs => by
  unfold pieces at hs
  split at hs
  · obtain ⟨i, hi, rfl⟩ := List.mem_iff_getElem.1 hs
    rw [List.getElem_zipWith]
    exact fd_app (fd_quo _) (fd_app (a := [58]) (fd_byte (by decide) (by decide) (by decide)) (h _ (List.getElem_mem _)))
  · exact h s hs
theorem fd_pr (j : J) : ∀ (d n : Nat) (D : Int), cnt d j = some n → 1 ≤ D → D + d ≤ 12 → Fd false D (pr j) := by
  induction j using J.induct with
  | h j ih =>
    intro d n D hc h1 h12
    have g : Good j := ⟨d, n, hc⟩
    obtain ⟨d', m, rfl, hp, hsum, rfl⟩ := cnt_open hc
    have hk := g.kind
    rw [pr_eq]
    rcases (by omega : j.k = 0 ∨ j.k = 1 ∨ j.k = 2 ∨ j.k = 3 ∨ 4 ≤ j.k) with k | k | k | k | k
    · rw [if_pos k]; exact fd_plain _ (by decide)
    · rw [if_neg (by omega), if_pos k]; split <;> exact fd_plain _ (by decide)
    · rw [if_neg (by omega), if_neg (by omega), if_pos k]
      have hd : ∀ n, ∀ b ∈ dig n, doesB b = 0 := fun n b hb => dig_does (List.all_eq_true.1 (dig_all n) b hb)
      unfold num
      split
      · exact fd_plain _ (fun b hb => (List.mem_cons.1 hb).elim (fun e => by rw [e]; decide) (fun hb => hd _ b hb))
      · exact fd_plain _ (hd _)
    · rw [if_neg (by omega), if_neg (by omega), if_neg (by omega), if_pos k]; exact fd_quo _
    · rw [if_neg (by omega), if_neg (by omega), if_neg (by omega), if_neg (by omega)]
      have hJ : Fd false (D + 1) (joinF true (pieces j.k j.keys (j.items.map pr))) := fd_join _ _ (fd_pieces _ _ _ (fun s hs => by
        obtain ⟨x, hx, rfl⟩ := List.mem_map.1 hs
        obtain ⟨q, hq⟩ := sumO_some _ m hsum (cnt d' x) (List.mem_map_of_mem hx)
        exact ih x hx d' q (D + 1) hq (by omega) (by omega)))
      generalize joinF true (pieces j.k j.keys (j.items.map pr)) = l at hJ
      intro B hB hl
      have hl' : B.length + (l.length + 2) ≤ 3000 := by simp at hl; omega
      have ho : ∀ b : UInt8, doesB b = 2 → stepF (frT B D false) b = (frT (B ++ [b]) (D + 1) false, none) := fun b h2 => st_open (frT B D false) b hB (show B.length < 3000 by omega) rfl rfl h2 (by show ¬ 12 < D + 1; omega)
      have hcl : ∀ (C : List UInt8) (b : UInt8), C ≠ [] → C.length < 3000 → doesB b = 3 → stepF (frT C (D + 1) false) b = (frT (C ++ [b]) D false, none) := fun C b hC hl h3 => by
        rw [st_shut (frT C (D + 1) false) b hC hl rfl rfl h3 (by show ¬ D + 1 - 1 = 0; omega)]
        simp [frT]
      have key : ∀ b c : UInt8, doesB b = 2 → doesB c = 3 → feedL (frT B D false) (b :: (l ++ [c])) = (frT (B ++ (b :: (l ++ [c]))) D false, []) := fun b c hb hc => by
        rw [feedL, if_neg (by simp [frT]), ho b hb]
        show ((feedL (frT (B ++ [b]) (D + 1) false) (l ++ [c])).1, [] ++ (feedL (frT (B ++ [b]) (D + 1) false) (l ++ [c])).2) = _
        rw [feed_app, hJ (B ++ [b]) (by simp) (by simp; omega)]
        show ((feedL (frT (B ++ [b] ++ l) (D + 1) false) [c]).1, [] ++ ([] ++ (feedL (frT (B ++ [b] ++ l) (D + 1) false) [c]).2)) = _
        rw [stepv_one rfl (hcl _ c (by simp) (by simp; omega) hc)]
        simp
      split
      · exact key 123 125 (by decide) (by decide)
      · exact key 91 93 (by decide) (by decide)
theorem feed_whole {x : J} {d n : Nat} (hc : cnt d x = some n) (hd : d ≤ 11) (hl : (pr x).length ≤ 2998) : feedL fr0 (91 :: (pr x ++ [93])) = (fr0, [91 :: (pr x ++ [93])]) := by
  have h1 : stepF fr0 91 = (frT [91] 1 false, none) := by rfl
  have hF := fd_pr x d n 1 hc (by omega) (by omega) [91] (by simp) (by simp; omega)
  rw [feedL, if_neg (by simp [fr0]), h1]
  show ((feedL (frT [91] 1 false) (pr x ++ [93])).1, [] ++ (feedL (frT [91] 1 false) (pr x ++ [93])).2) = _
  rw [feed_app, hF]
  have h2 : stepF (frT ([91] ++ pr x) 1 false) 93 = (fr0, some ([91] ++ pr x ++ [93])) := st_last (frT ([91] ++ pr x) 1 false) 93 (by simp [frT]) (by simp [frT]; omega) rfl rfl (by decide) (by show (1 : Int) - 1 = 0; omega)
  show ((feedL (frT ([91] ++ pr x) 1 false) [93]).1, [] ++ ([] ++ (feedL (frT ([91] ++ pr x) 1 false) [93]).2)) = _
  rw [feedL, if_neg (by simp [frT]), h2]
  simp [feedL]
theorem feed_three {a c : List UInt8} (ha : feedL fr0 a = (fr0, [a])) (hc : feedL fr0 c = (fr0, [c])) : feedL fr0 [a ++ c, [32], a].flatten = (fr0, [a, c, a]) := by
  have hs : feedL fr0 [32] = (fr0, []) := by rfl
  show feedL fr0 ((a ++ c) ++ ([32] ++ (a ++ []))) = _
  rw [List.append_nil, feed_app, feed_app fr0 a c, ha]
  simp only
  rw [hc]
  simp only
  rw [feed_app, hs]
  simp only
  rw [ha]
  rfl
end Go.Proofs.YtodgijhpokjjhaaDoor
