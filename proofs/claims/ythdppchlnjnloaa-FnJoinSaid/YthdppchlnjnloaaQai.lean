import Derived.Test.YthdppchlnjnloaaQah
import Derived.Deep.RegionHeld3
import Derived.Test.YthdppchlnjnloaaQag
import Derived.Test.YthdppchlnjnloaaQad
import Derived.Test.YthdppchlnjnloaaQab
namespace Go.Proofs.Ythdppchlnjnloaa
open Go.RowKit
set_option linter.unusedSimpArgs false
/-- the answer of putOnce: l with x, rising -/
def PutAns (w : World) (B : Nat) (v : Value) (l : List At) (e : Ending) (w' : World) : Prop := ∃ v', e = .returned v' ∧ ABuf w' B v' l ∧ AppA w v w' v'
theorem AppA.after {w w1 w2 : World} {v v' : Value} (h : Below w.heap.size w w1) (k : AppA w1 v w2 v') : AppA w v w2 v' := (AppA.of_below h).trans k
theorem one_new (w : World) (x : At) (v : Value) {B : Nat} {l : List At} (hb : ABuf w B v l) : OneA (w.alloc (.cells #[.int .i64 x.k, .int .i64 x.n, .string ⟨x.t.toArray⟩] 37)) v w.heap.size x :=
  ⟨heap_newA _ _, fun e => by have := (hb.lt e).2; omega⟩
set_option maxRecDepth 100000 in
set_option maxHeartbeats 6400000 in
theorem putI (l : List At) (x : At) (v : Value) (B : Nat) (w : World) (hl : l.length ≤ 100) (hR : Rise l) (hb : ABuf w B v l) (hB : B ≤ w.heap.size) :
    Calls Try.prog 21 #[v, .agg #[.int .i64 x.k, .int .i64 x.n, .string ⟨x.t.toArray⟩], .func (.func 22) #[] #[]] w (PutAns w B v (putL l x)) := by
  have HB : Hid (ABuf w B v l) := hb
  obtain ⟨a, c, rfl, ho⟩ := hb.own
  have HA : Hid (Ats w (fun b => B ≤ b ∧ b < w.heap.size) a l) := ho.ats
  have IN : Hid (∀ (i : Nat) (W : World), i ≤ l.length → Below w.heap.size w W → Calls Try.prog 31 #[.slice a l.length c, .int .i64 i, .slice (some ⟨W.heap.size, 0, none⟩) 1 1] (W.alloc (.cells #[.int .i64 x.k, .int .i64 x.n, .string ⟨x.t.toArray⟩] 37)) (fun e w' => ∃ v', e = .returned v' ∧ ABuf w' B v' (insA l i x) ∧ AppA w (.slice a l.length c) w' v')) := fun i W hi h => by
    have hb' : ABuf W B (.slice a l.length c) l := hb.on h
    have hal : Below W.heap.size W (W.alloc (.cells #[.int .i64 x.k, .int .i64 x.n, .string ⟨x.t.toArray⟩] 37)) := (Below.refl _ _).alloc (Nat.le_refl _) _
    refine (insertI l x i W.heap.size B _ _ (by omega) hi (by have := h.size; have := hal.size; omega) (hb'.on hal) (one_new W x _ hb')).mono (fun e w' ⟨v', he, hb2, ha2⟩ => ⟨v', he, hb2, AppA.after (h.trans (hal.mono h.size)) ha2⟩)
  have CP : Hid (∀ (y : At) W, BoxA w W x → Calls Try.prog 22 #[.agg #[.int .i64 y.k, .int .i64 y.n, .string ⟨y.t.toArray⟩], .agg #[.int .i64 x.k, .int .i64 x.n, .string ⟨x.t.toArray⟩]] W fun e w' => e = .returned (.int .i64 (cmpA y x)) ∧ BoxA w w' x) := fun y W h => (compareI y x W).mono (fun e w' ⟨he, hB⟩ => ⟨he, h.later hB⟩)
  have RS : Hid (Rise l) := hR
  clear hb ho hR
  go_enter Try.func21, Try.ntmps21
  go_wp2_with fail
  go_loopw [7] (fun i wr => ∃ k : Nat, k ≤ l.length ∧ i = .int .i64 k ∧ Hid ((∀ q (h : q < l.length), q < k → cmpA l[q] x < 0) ∧ BoxA w wr x)) (fun i _ => l.length - (intOf i).toNat)
  case atStart => exact ⟨0, Nat.zero_le _, rfl, fun m _ h => absurd h (by omega), heap_newA _ _, (Below.refl _ _).alloc (Nat.le_refl _) _⟩
  case round =>
    obtain ⟨k, hk, rfl, HW⟩ := hrel
    have x0 := cell_at (o := 0) HW.out.2.1 rfl
    have x1 := cell_at (o := 1) HW.out.2.1 rfl
    have x2 := cell_at (o := 2) HW.out.2.1 rfl
    by_cases hlt : k < l.length
    · obtain ⟨b, off, rfl, -, c0, c1, c2⟩ := (HA.out.later HW.out.2.2).item k hlt
      have hki : (k : Int) < (l.length : Int) := by omega
      have hkd : decide ((k : Int) < (l.length : Int)) = true := decide_eq_true hki
      have CE : Hid (∀ W, BoxA w W x → W.cell? ⟨b, off + k * 3, none⟩ = some (.int .i64 l[k].k) ∧ W.cell? ⟨b, off + k * 3 + 1, none⟩ = some (.int .i64 l[k].n) ∧ W.cell? ⟨b, off + k * 3 + 2, none⟩ = some (.string ⟨l[k].t.toArray⟩) ∧ W.cell? ⟨w.heap.size, 0, none⟩ = some (.int .i64 x.k) ∧ W.cell? ⟨w.heap.size, 1, none⟩ = some (.int .i64 x.n) ∧ W.cell? ⟨w.heap.size, 2, none⟩ = some (.string ⟨x.t.toArray⟩)) := fun W h => by
        obtain ⟨h1, h2, h3⟩ := (HA.out.later h.2).three k hlt
        exact ⟨h1, h2, h3, cell_at (o := 0) h.1 rfl, cell_at (o := 1) h.1 rfl, cell_at (o := 2) h.1 rfl⟩
      have CP' : Hid (∀ W, BoxA w W x → Calls Try.prog 22 #[.agg #[.int .i64 l[k].k, .int .i64 l[k].n, .string ⟨l[k].t.toArray⟩], .agg #[.int .i64 x.k, .int .i64 x.n, .string ⟨x.t.toArray⟩]] W fun e w' => e = .returned (.int .i64 (cmpA l[k] x)) ∧ BoxA w w' x) := CP.out l[k]
      have HX := Lib.hid HW.out.2
      by_cases hc : cmpA l[k] x < 0
      · have HN : Hid (∀ q (h : q < l.length), q < k + 1 → cmpA l[q] x < 0) := fun q h hq => by
          by_cases e : q = k
          · subst e; exact hc
          · exact HW.out.1 q h (by omega)
        have hcd : decide (cmpA l[k] x < 0) = true := decide_eq_true hc
        clear hc HW
        generalize cmpA l[k] x = z at *
        generalize l[k] = y at *
        go_wp2_with fail
        refine wp_region_held_drew (S := (fun W => W.cell? ⟨b, off + k * 3, none⟩ = some (.int .i64 y.k) ∧ W.cell? ⟨b, off + k * 3 + 1, none⟩ = some (.int .i64 y.n) ∧ W.cell? ⟨b, off + k * 3 + 2, none⟩ = some (.string ⟨y.t.toArray⟩) ∧ W.cell? ⟨w.heap.size, 0, none⟩ = some (.int .i64 x.k) ∧ W.cell? ⟨w.heap.size, 1, none⟩ = some (.int .i64 x.n) ∧ W.cell? ⟨w.heap.size, 2, none⟩ = some (.string ⟨x.t.toArray⟩))) (by kernel_rfl) ?_ (fun hHeld => ?_)
        · (first | exact CE.out _ HX.out | exact CE.out _ (HX.out.drewN 1) | exact CE.out _ hx1)
        refine wpAnyH_take (i := 0) (v := ?_) rfl (by kernel_rfl) (by kernel_rfl) (by kernel_rfl) (fun _ _ _ h => h) (Or.inl ⟨by kernel_rfl, ?_⟩) (by assumption) ?_
        rotate_left
        · (intro wS hSw; (try dsimp only at hSw); go_simp <;> with_reducible rfl)
        try simp only [Act.put, List.getElem_toArray, List.getElem_cons_succ, List.getElem_cons_zero, List.setIfInBounds_toArray, List.set_cons_zero, List.set_cons_succ]
        refine wpAnyH_take (i := 1) (v := ?_) rfl (by kernel_rfl) (by kernel_rfl) (by kernel_rfl) (fun _ _ _ h => h) (Or.inl ⟨by kernel_rfl, ?_⟩) (by assumption) ?_
        rotate_left
        · (intro wS hSw; (try dsimp only at hSw); go_simp <;> with_reducible rfl)
        try simp only [Act.put, List.getElem_toArray, List.getElem_cons_succ, List.getElem_cons_zero, List.setIfInBounds_toArray, List.set_cons_zero, List.set_cons_succ]
        refine wpAnyH_take (i := 2) (v := ?_) rfl (by kernel_rfl) (by kernel_rfl) (by kernel_rfl) (fun _ _ _ h => h) (Or.inl ⟨by kernel_rfl, ?_⟩) (by assumption) ?_
        rotate_left
        · (intro wS hSw; (try dsimp only at hSw); go_simp <;> with_reducible rfl)
        try simp only [Act.put, List.getElem_toArray, List.getElem_cons_succ, List.getElem_cons_zero, List.setIfInBounds_toArray, List.set_cons_zero, List.set_cons_succ]
        refine wpAnyH_take (i := 3) (v := ?_) rfl (by kernel_rfl) (by kernel_rfl) (by kernel_rfl) (fun _ _ _ h => h) (Or.inl ⟨by kernel_rfl, ?_⟩) (by assumption) ?_
        rotate_left
        · (intro wS hSw; (try dsimp only at hSw); go_simp <;> with_reducible rfl)
        try simp only [Act.put, List.getElem_toArray, List.getElem_cons_succ, List.getElem_cons_zero, List.setIfInBounds_toArray, List.set_cons_zero, List.set_cons_succ]
        refine wpAnyH_take (i := 4) (v := ?_) rfl (by kernel_rfl) (by kernel_rfl) (by kernel_rfl) (fun _ _ _ h => h) (Or.inl ⟨by kernel_rfl, ?_⟩) (by assumption) ?_
        rotate_left
        · (intro wS hSw; (try dsimp only at hSw); go_simp <;> with_reducible rfl)
        try simp only [Act.put, List.getElem_toArray, List.getElem_cons_succ, List.getElem_cons_zero, List.setIfInBounds_toArray, List.set_cons_zero, List.set_cons_succ]
        refine wpAnyH_take (i := 5) (v := ?_) rfl (by kernel_rfl) (by kernel_rfl) (by kernel_rfl) (fun _ _ _ h => h) (Or.inl ⟨by kernel_rfl, ?_⟩) (by assumption) ?_
        rotate_left
        · (intro wS hSw; (try dsimp only at hSw); go_simp <;> with_reducible rfl)
        try simp only [Act.put, List.getElem_toArray, List.getElem_cons_succ, List.getElem_cons_zero, List.setIfInBounds_toArray, List.set_cons_zero, List.set_cons_succ]
        refine wpAnyH_take (i := 6) (v := ?_) rfl (by kernel_rfl) (by kernel_rfl) (by kernel_rfl) (fun _ _ _ h => h) (Or.inl ⟨by kernel_rfl, ?_⟩) (by assumption) ?_
        rotate_left
        · (intro wS hSw; (try dsimp only at hSw); go_simp <;> with_reducible rfl)
        try simp only [Act.put, List.getElem_toArray, List.getElem_cons_succ, List.getElem_cons_zero, List.setIfInBounds_toArray, List.set_cons_zero, List.set_cons_succ]
        refine wpAnyH_take (i := 7) (v := ?_) rfl (by kernel_rfl) (by kernel_rfl) (by kernel_rfl) (fun _ _ _ h => h) (Or.inl ⟨by kernel_rfl, ?_⟩) (by assumption) ?_
        rotate_left
        · (intro wS hSw; (try dsimp only at hSw); go_simp <;> with_reducible rfl)
        try simp only [Act.put, List.getElem_toArray, List.getElem_cons_succ, List.getElem_cons_zero, List.setIfInBounds_toArray, List.set_cons_zero, List.set_cons_succ]
        refine wpAnyH_take (i := 8) (v := ?_) rfl (by kernel_rfl) (by kernel_rfl) (by kernel_rfl) (fun _ _ _ h => h) (Or.inl ⟨by kernel_rfl, ?_⟩) (by assumption) ?_
        rotate_left
        · (intro wS hSw; (try dsimp only at hSw); go_simp <;> with_reducible rfl)
        try simp only [Act.put, List.getElem_toArray, List.getElem_cons_succ, List.getElem_cons_zero, List.setIfInBounds_toArray, List.set_cons_zero, List.set_cons_succ]
        refine wpAnyH_take (i := 9) (v := ?_) rfl (by kernel_rfl) (by kernel_rfl) (by kernel_rfl) (fun _ _ _ h => h) (Or.inl ⟨by kernel_rfl, ?_⟩) (by assumption) ?_
        rotate_left
        · (intro wS hSw; (try dsimp only at hSw); go_simp <;> with_reducible rfl)
        try simp only [Act.put, List.getElem_toArray, List.getElem_cons_succ, List.getElem_cons_zero, List.setIfInBounds_toArray, List.set_cons_zero, List.set_cons_succ]
        refine wpAnyH_take (i := 10) (v := ?_) rfl (by kernel_rfl) (by kernel_rfl) (by kernel_rfl) (fun _ _ _ h => h) (Or.inl ⟨by kernel_rfl, ?_⟩) (by assumption) ?_
        rotate_left
        · (intro wS hSw; (try dsimp only at hSw); go_simp <;> with_reducible rfl)
        try simp only [Act.put, List.getElem_toArray, List.getElem_cons_succ, List.getElem_cons_zero, List.setIfInBounds_toArray, List.set_cons_zero, List.set_cons_succ]
        refine wpAnyH_ready (rs := [11]) (by kernel_rfl) (by simp) (AllReadyH.cons rfl (fun K hK => ?_) AllReadyH.nil)
        go_simp
        (go_at_call 22; (with_reducible refine (CP'.out _ ?_).mono ?_); (first | exact HX.out | exact HX.out.drewN 1); rintro e w1 ⟨rfl, hx1⟩)
        refine hK.out _ _ ?_ (fun hHeld => ?_)
        · (first | exact CE.out _ HX.out | exact CE.out _ (HX.out.drewN 1) | exact CE.out _ hx1)
        clear hK K
        try simp only [Act.put, List.getElem_toArray, List.getElem_cons_succ, List.getElem_cons_zero, List.setIfInBounds_toArray, List.set_cons_zero, List.set_cons_succ]
        refine wpAnyH_take (i := 12) (v := ?_) rfl (by kernel_rfl) (by kernel_rfl) (by kernel_rfl) (fun _ _ _ h => h) (Or.inl ⟨by kernel_rfl, ?_⟩) (by assumption) ?_
        rotate_left
        · (intro wS hSw; (try dsimp only at hSw); go_simp <;> with_reducible rfl)
        try simp only [Act.put, List.getElem_toArray, List.getElem_cons_succ, List.getElem_cons_zero, List.setIfInBounds_toArray, List.set_cons_zero, List.set_cons_succ]
        refine wpAnyH_take (i := 13) (v := ?_) rfl (by kernel_rfl) (by kernel_rfl) (by kernel_rfl) (fun _ _ _ h => h) (Or.inl ⟨by kernel_rfl, ?_⟩) (by assumption) ?_
        rotate_left
        · (intro wS hSw; (try dsimp only at hSw); go_simp <;> with_reducible rfl)
        try simp only [Act.put, List.getElem_toArray, List.getElem_cons_succ, List.getElem_cons_zero, List.setIfInBounds_toArray, List.set_cons_zero, List.set_cons_succ]
        refine wpAnyH_done (by kernel_rfl) ?_ _
        go_wp2_with fail
        go_roundw
        case rel => exact ⟨k + 1, by omega, by go_num, HN.out, hx1⟩
        case measure => simp [intOf]; omega
      · have hcd : decide (cmpA l[k] x < 0) = false := decide_eq_false hc
        have FI : Hid (¬ l[k] = x → putL l x = insA l k x) := fun he => (put_ins RS.out hk HW.out.1 (fun _ => ⟨hc, he⟩)).1
        have FH : Hid (l[k] = x → putL l x = l) := fun he => put_has hlt he
        clear hc HW
        generalize cmpA l[k] x = z at *
        generalize l[k] = y at *
        go_wp2_with fail
        refine wp_region_held_drew (S := (fun W => W.cell? ⟨b, off + k * 3, none⟩ = some (.int .i64 y.k) ∧ W.cell? ⟨b, off + k * 3 + 1, none⟩ = some (.int .i64 y.n) ∧ W.cell? ⟨b, off + k * 3 + 2, none⟩ = some (.string ⟨y.t.toArray⟩) ∧ W.cell? ⟨w.heap.size, 0, none⟩ = some (.int .i64 x.k) ∧ W.cell? ⟨w.heap.size, 1, none⟩ = some (.int .i64 x.n) ∧ W.cell? ⟨w.heap.size, 2, none⟩ = some (.string ⟨x.t.toArray⟩))) (by kernel_rfl) ?_ (fun hHeld => ?_)
        · (first | exact CE.out _ HX.out | exact CE.out _ (HX.out.drewN 1) | exact CE.out _ hx1)
        refine wpAnyH_take (i := 0) (v := ?_) rfl (by kernel_rfl) (by kernel_rfl) (by kernel_rfl) (fun _ _ _ h => h) (Or.inl ⟨by kernel_rfl, ?_⟩) (by assumption) ?_
        rotate_left
        · (intro wS hSw; (try dsimp only at hSw); go_simp <;> with_reducible rfl)
        try simp only [Act.put, List.getElem_toArray, List.getElem_cons_succ, List.getElem_cons_zero, List.setIfInBounds_toArray, List.set_cons_zero, List.set_cons_succ]
        refine wpAnyH_take (i := 1) (v := ?_) rfl (by kernel_rfl) (by kernel_rfl) (by kernel_rfl) (fun _ _ _ h => h) (Or.inl ⟨by kernel_rfl, ?_⟩) (by assumption) ?_
        rotate_left
        · (intro wS hSw; (try dsimp only at hSw); go_simp <;> with_reducible rfl)
        try simp only [Act.put, List.getElem_toArray, List.getElem_cons_succ, List.getElem_cons_zero, List.setIfInBounds_toArray, List.set_cons_zero, List.set_cons_succ]
        refine wpAnyH_take (i := 2) (v := ?_) rfl (by kernel_rfl) (by kernel_rfl) (by kernel_rfl) (fun _ _ _ h => h) (Or.inl ⟨by kernel_rfl, ?_⟩) (by assumption) ?_
        rotate_left
        · (intro wS hSw; (try dsimp only at hSw); go_simp <;> with_reducible rfl)
        try simp only [Act.put, List.getElem_toArray, List.getElem_cons_succ, List.getElem_cons_zero, List.setIfInBounds_toArray, List.set_cons_zero, List.set_cons_succ]
        refine wpAnyH_take (i := 3) (v := ?_) rfl (by kernel_rfl) (by kernel_rfl) (by kernel_rfl) (fun _ _ _ h => h) (Or.inl ⟨by kernel_rfl, ?_⟩) (by assumption) ?_
        rotate_left
        · (intro wS hSw; (try dsimp only at hSw); go_simp <;> with_reducible rfl)
        try simp only [Act.put, List.getElem_toArray, List.getElem_cons_succ, List.getElem_cons_zero, List.setIfInBounds_toArray, List.set_cons_zero, List.set_cons_succ]
        refine wpAnyH_take (i := 4) (v := ?_) rfl (by kernel_rfl) (by kernel_rfl) (by kernel_rfl) (fun _ _ _ h => h) (Or.inl ⟨by kernel_rfl, ?_⟩) (by assumption) ?_
        rotate_left
        · (intro wS hSw; (try dsimp only at hSw); go_simp <;> with_reducible rfl)
        try simp only [Act.put, List.getElem_toArray, List.getElem_cons_succ, List.getElem_cons_zero, List.setIfInBounds_toArray, List.set_cons_zero, List.set_cons_succ]
        refine wpAnyH_take (i := 5) (v := ?_) rfl (by kernel_rfl) (by kernel_rfl) (by kernel_rfl) (fun _ _ _ h => h) (Or.inl ⟨by kernel_rfl, ?_⟩) (by assumption) ?_
        rotate_left
        · (intro wS hSw; (try dsimp only at hSw); go_simp <;> with_reducible rfl)
        try simp only [Act.put, List.getElem_toArray, List.getElem_cons_succ, List.getElem_cons_zero, List.setIfInBounds_toArray, List.set_cons_zero, List.set_cons_succ]
        refine wpAnyH_take (i := 6) (v := ?_) rfl (by kernel_rfl) (by kernel_rfl) (by kernel_rfl) (fun _ _ _ h => h) (Or.inl ⟨by kernel_rfl, ?_⟩) (by assumption) ?_
        rotate_left
        · (intro wS hSw; (try dsimp only at hSw); go_simp <;> with_reducible rfl)
        try simp only [Act.put, List.getElem_toArray, List.getElem_cons_succ, List.getElem_cons_zero, List.setIfInBounds_toArray, List.set_cons_zero, List.set_cons_succ]
        refine wpAnyH_take (i := 7) (v := ?_) rfl (by kernel_rfl) (by kernel_rfl) (by kernel_rfl) (fun _ _ _ h => h) (Or.inl ⟨by kernel_rfl, ?_⟩) (by assumption) ?_
        rotate_left
        · (intro wS hSw; (try dsimp only at hSw); go_simp <;> with_reducible rfl)
        try simp only [Act.put, List.getElem_toArray, List.getElem_cons_succ, List.getElem_cons_zero, List.setIfInBounds_toArray, List.set_cons_zero, List.set_cons_succ]
        refine wpAnyH_take (i := 8) (v := ?_) rfl (by kernel_rfl) (by kernel_rfl) (by kernel_rfl) (fun _ _ _ h => h) (Or.inl ⟨by kernel_rfl, ?_⟩) (by assumption) ?_
        rotate_left
        · (intro wS hSw; (try dsimp only at hSw); go_simp <;> with_reducible rfl)
        try simp only [Act.put, List.getElem_toArray, List.getElem_cons_succ, List.getElem_cons_zero, List.setIfInBounds_toArray, List.set_cons_zero, List.set_cons_succ]
        refine wpAnyH_take (i := 9) (v := ?_) rfl (by kernel_rfl) (by kernel_rfl) (by kernel_rfl) (fun _ _ _ h => h) (Or.inl ⟨by kernel_rfl, ?_⟩) (by assumption) ?_
        rotate_left
        · (intro wS hSw; (try dsimp only at hSw); go_simp <;> with_reducible rfl)
        try simp only [Act.put, List.getElem_toArray, List.getElem_cons_succ, List.getElem_cons_zero, List.setIfInBounds_toArray, List.set_cons_zero, List.set_cons_succ]
        refine wpAnyH_take (i := 10) (v := ?_) rfl (by kernel_rfl) (by kernel_rfl) (by kernel_rfl) (fun _ _ _ h => h) (Or.inl ⟨by kernel_rfl, ?_⟩) (by assumption) ?_
        rotate_left
        · (intro wS hSw; (try dsimp only at hSw); go_simp <;> with_reducible rfl)
        try simp only [Act.put, List.getElem_toArray, List.getElem_cons_succ, List.getElem_cons_zero, List.setIfInBounds_toArray, List.set_cons_zero, List.set_cons_succ]
        refine wpAnyH_ready (rs := [11]) (by kernel_rfl) (by simp) (AllReadyH.cons rfl (fun K hK => ?_) AllReadyH.nil)
        go_simp
        (go_at_call 22; (with_reducible refine (CP'.out _ ?_).mono ?_); (first | exact HX.out | exact HX.out.drewN 1); rintro e w1 ⟨rfl, hx1⟩)
        refine hK.out _ _ ?_ (fun hHeld => ?_)
        · (first | exact CE.out _ HX.out | exact CE.out _ (HX.out.drewN 1) | exact CE.out _ hx1)
        clear hK K
        try simp only [Act.put, List.getElem_toArray, List.getElem_cons_succ, List.getElem_cons_zero, List.setIfInBounds_toArray, List.set_cons_zero, List.set_cons_succ]
        refine wpAnyH_take (i := 12) (v := ?_) rfl (by kernel_rfl) (by kernel_rfl) (by kernel_rfl) (fun _ _ _ h => h) (Or.inl ⟨by kernel_rfl, ?_⟩) (by assumption) ?_
        rotate_left
        · (intro wS hSw; (try dsimp only at hSw); go_simp <;> with_reducible rfl)
        try simp only [Act.put, List.getElem_toArray, List.getElem_cons_succ, List.getElem_cons_zero, List.setIfInBounds_toArray, List.set_cons_zero, List.set_cons_succ]
        refine wpAnyH_take (i := 13) (v := ?_) rfl (by kernel_rfl) (by kernel_rfl) (by kernel_rfl) (fun _ _ _ h => h) (Or.inl ⟨by kernel_rfl, ?_⟩) (by assumption) ?_
        rotate_left
        · (intro wS hSw; (try dsimp only at hSw); go_simp <;> with_reducible rfl)
        try simp only [Act.put, List.getElem_toArray, List.getElem_cons_succ, List.getElem_cons_zero, List.setIfInBounds_toArray, List.set_cons_zero, List.set_cons_succ]
        refine wpAnyH_done (by kernel_rfl) ?_ _
        go_wp2_with fail
        have y0 := (CE.out _ hx1).1
        have y1 := (CE.out _ hx1).2.1
        have y2 := (CE.out _ hx1).2.2.1
        have z0 := (CE.out _ hx1).2.2.2.1
        have z1 := (CE.out _ hx1).2.2.2.2.1
        have z2 := (CE.out _ hx1).2.2.2.2.2
        clear hHeld x0 x1 x2 c0 c1 c2 CE CP' CP
        by_cases he : y = x
        · have HP : Hid (putL l x = l) := FH.out he
          subst he
          clear FH FI
          go_quiet (fail)
          go_wp2_with fail
          go_ret
          have hBn := below_drewN hx1.2 4
          rw [HP.out]
          exact ⟨_, rfl, HB.out.on (below_drewN hx1.2 _), AppA.of_below (below_drewN hx1.2 _)⟩
        · have HP : Hid (putL l x = insA l k x) := FI.out he
          have FIN : Hid (∀ v' w', ABuf w' B v' (insA l k x) → AppA w (.slice (some ⟨b, off, none⟩) l.length c) w' v' → PutAns w B (.slice (some ⟨b, off, none⟩) l.length c) (putL l x) (.returned v') w') := fun v' w' h1 h2 => by rw [HP.out]; exact ⟨v', rfl, h1, h2⟩
          clear FH FI HP
          rcases differ he with hd | ⟨hd, hd2⟩ | ⟨hd, hd2, hd3⟩
          · clear he
            go_quiet (fail)
            go_wp2_with (go_at_call 31; refine (IN.out k _ hk ?_).mono ?_; exact (below_drewN hx1.2 _); rintro e w2 ⟨v2, rfl, hb2, ha2⟩)
            go_ret
            exact FIN.out _ _ hb2 ha2
          · rw [hd] at y0
            clear he hd
            go_quiet (fail)
            go_wp2_with (go_at_call 31; refine (IN.out k _ hk ?_).mono ?_; exact (below_drewN hx1.2 _); rintro e w2 ⟨v2, rfl, hb2, ha2⟩)
            go_ret
            exact FIN.out _ _ hb2 ha2
          · rw [hd] at y0
            rw [hd2] at y1
            clear he hd hd2
            go_quiet (fail)
            go_wp2_with (go_at_call 31; refine (IN.out k _ hk ?_).mono ?_; exact (below_drewN hx1.2 _); rintro e w2 ⟨v2, rfl, hb2, ha2⟩)
            go_ret
            exact FIN.out _ _ hb2 ha2
    · have HX := Lib.hid HW.out.2
      have hkd : decide ((k : Int) < (l.length : Int)) = false := decide_eq_false (by omega)
      have HP : Hid (putL l x = insA l k x) := (put_ins RS.out hk HW.out.1 (fun h => absurd h hlt)).1
      have FIN : Hid (∀ v' w', ABuf w' B v' (insA l k x) → AppA w (.slice a l.length c) w' v' → PutAns w B (.slice a l.length c) (putL l x) (.returned v') w') := fun v' w' h1 h2 => by rw [HP.out]; exact ⟨v', rfl, h1, h2⟩
      clear HW HP
      go_wp2_with fail
      refine wp_region_held_drew (S := (fun _ => True)) (by kernel_rfl) ?_ (fun hHeld => ?_)
      · (trivial)
      refine wpAnyH_take (i := 0) (v := ?_) rfl (by kernel_rfl) (by kernel_rfl) (by kernel_rfl) (fun _ _ _ h => h) (Or.inl ⟨by kernel_rfl, ?_⟩) (by assumption) ?_
      rotate_left
      · (intro wS hSw; (try dsimp only at hSw); go_simp <;> with_reducible rfl)
      try simp only [Act.put, List.getElem_toArray, List.getElem_cons_succ, List.getElem_cons_zero, List.setIfInBounds_toArray, List.set_cons_zero, List.set_cons_succ]
      refine wpAnyH_take (i := 1) (v := ?_) rfl (by kernel_rfl) (by kernel_rfl) (by kernel_rfl) (fun _ _ _ h => h) (Or.inl ⟨by kernel_rfl, ?_⟩) (by assumption) ?_
      rotate_left
      · (intro wS hSw; (try dsimp only at hSw); go_simp <;> with_reducible rfl)
      try simp only [Act.put, List.getElem_toArray, List.getElem_cons_succ, List.getElem_cons_zero, List.setIfInBounds_toArray, List.set_cons_zero, List.set_cons_succ]
      refine wpAnyH_take (i := 2) (v := ?_) rfl (by kernel_rfl) (by kernel_rfl) (by kernel_rfl) (fun _ _ _ h => h) (Or.inl ⟨by kernel_rfl, ?_⟩) (by assumption) ?_
      rotate_left
      · (intro wS hSw; (try dsimp only at hSw); go_simp <;> with_reducible rfl)
      try simp only [Act.put, List.getElem_toArray, List.getElem_cons_succ, List.getElem_cons_zero, List.setIfInBounds_toArray, List.set_cons_zero, List.set_cons_succ]
      refine wpAnyH_take (i := 3) (v := ?_) rfl (by kernel_rfl) (by kernel_rfl) (by kernel_rfl) (fun _ _ _ h => h) (Or.inl ⟨by kernel_rfl, ?_⟩) (by assumption) ?_
      rotate_left
      · (intro wS hSw; (try dsimp only at hSw); go_simp <;> with_reducible rfl)
      try simp only [Act.put, List.getElem_toArray, List.getElem_cons_succ, List.getElem_cons_zero, List.setIfInBounds_toArray, List.set_cons_zero, List.set_cons_succ]
      refine wpAnyH_take (i := 4) (v := ?_) rfl (by kernel_rfl) (by kernel_rfl) (by kernel_rfl) (fun _ _ _ h => h) (Or.inl ⟨by kernel_rfl, ?_⟩) (by assumption) ?_
      rotate_left
      · (intro wS hSw; (try dsimp only at hSw); go_simp <;> with_reducible rfl)
      try simp only [Act.put, List.getElem_toArray, List.getElem_cons_succ, List.getElem_cons_zero, List.setIfInBounds_toArray, List.set_cons_zero, List.set_cons_succ]
      refine wpAnyH_take (i := 5) (v := undef) rfl (by kernel_rfl) (by kernel_rfl) (by kernel_rfl) (fun _ _ _ h => h) (Or.inr ⟨by kernel_rfl, rfl⟩) (by assumption) ?_
      try simp only [Act.put, List.getElem_toArray, List.getElem_cons_succ, List.getElem_cons_zero, List.setIfInBounds_toArray, List.set_cons_zero, List.set_cons_succ]
      refine wpAnyH_take (i := 6) (v := undef) rfl (by kernel_rfl) (by kernel_rfl) (by kernel_rfl) (fun _ _ _ h => h) (Or.inr ⟨by kernel_rfl, rfl⟩) (by assumption) ?_
      try simp only [Act.put, List.getElem_toArray, List.getElem_cons_succ, List.getElem_cons_zero, List.setIfInBounds_toArray, List.set_cons_zero, List.set_cons_succ]
      refine wpAnyH_take (i := 7) (v := undef) rfl (by kernel_rfl) (by kernel_rfl) (by kernel_rfl) (fun _ _ _ h => h) (Or.inr ⟨by kernel_rfl, rfl⟩) (by assumption) ?_
      try simp only [Act.put, List.getElem_toArray, List.getElem_cons_succ, List.getElem_cons_zero, List.setIfInBounds_toArray, List.set_cons_zero, List.set_cons_succ]
      refine wpAnyH_take (i := 8) (v := undef) rfl (by kernel_rfl) (by kernel_rfl) (by kernel_rfl) (fun _ _ _ h => h) (Or.inr ⟨by kernel_rfl, rfl⟩) (by assumption) ?_
      try simp only [Act.put, List.getElem_toArray, List.getElem_cons_succ, List.getElem_cons_zero, List.setIfInBounds_toArray, List.set_cons_zero, List.set_cons_succ]
      refine wpAnyH_take (i := 9) (v := undef) rfl (by kernel_rfl) (by kernel_rfl) (by kernel_rfl) (fun _ _ _ h => h) (Or.inr ⟨by kernel_rfl, rfl⟩) (by assumption) ?_
      try simp only [Act.put, List.getElem_toArray, List.getElem_cons_succ, List.getElem_cons_zero, List.setIfInBounds_toArray, List.set_cons_zero, List.set_cons_succ]
      refine wpAnyH_take (i := 10) (v := undef) rfl (by kernel_rfl) (by kernel_rfl) (by kernel_rfl) (fun _ _ _ h => h) (Or.inr ⟨by kernel_rfl, rfl⟩) (by assumption) ?_
      try simp only [Act.put, List.getElem_toArray, List.getElem_cons_succ, List.getElem_cons_zero, List.setIfInBounds_toArray, List.set_cons_zero, List.set_cons_succ]
      refine wpAnyH_take (i := 11) (v := undef) rfl (by kernel_rfl) (by kernel_rfl) (by kernel_rfl) (fun _ _ _ h => h) (Or.inr ⟨by kernel_rfl, rfl⟩) (by assumption) ?_
      try simp only [Act.put, List.getElem_toArray, List.getElem_cons_succ, List.getElem_cons_zero, List.setIfInBounds_toArray, List.set_cons_zero, List.set_cons_succ]
      refine wpAnyH_take (i := 12) (v := undef) rfl (by kernel_rfl) (by kernel_rfl) (by kernel_rfl) (fun _ _ _ h => h) (Or.inr ⟨by kernel_rfl, rfl⟩) (by assumption) ?_
      try simp only [Act.put, List.getElem_toArray, List.getElem_cons_succ, List.getElem_cons_zero, List.setIfInBounds_toArray, List.set_cons_zero, List.set_cons_succ]
      refine wpAnyH_take (i := 13) (v := ?_) rfl (by kernel_rfl) (by kernel_rfl) (by kernel_rfl) (fun _ _ _ h => h) (Or.inl ⟨by kernel_rfl, ?_⟩) (by assumption) ?_
      rotate_left
      · (intro wS hSw; (try dsimp only at hSw); go_simp <;> with_reducible rfl)
      try simp only [Act.put, List.getElem_toArray, List.getElem_cons_succ, List.getElem_cons_zero, List.setIfInBounds_toArray, List.set_cons_zero, List.set_cons_succ]
      refine wpAnyH_done (by kernel_rfl) ?_ _
      go_wp2_with fail
      go_quiet (fail)
      go_wp2_with (go_at_call 31; refine (IN.out k _ hk ?_).mono ?_; exact (below_drewN HX.out.2 _); rintro e w2 ⟨v2, rfl, hb2, ha2⟩)
      go_ret
      exact FIN.out _ _ hb2 ha2
end Go.Proofs.Ythdppchlnjnloaa
namespace Go.Proofs.Ythdppchlnjnloaa
open Go.RowKit
set_option linter.unusedSimpArgs false
theorem place_ex (l : List At) (x : At) : ∃ m, m ≤ l.length ∧ (∀ q (h : q < l.length), q < m → cmpA l[q] x < 0) ∧ ∀ h : m < l.length, ¬ cmpA l[m] x < 0 := by
  refine ⟨l.findIdx (fun y => !decide (cmpA y x < 0)), List.findIdx_le_length, fun q h hq => ?_, fun h => ?_⟩
  · have := List.not_of_lt_findIdx hq
    simpa using this
  · have := List.findIdx_getElem (w := h)
    simpa using this
theorem rise_put {l : List At} (hR : Rise l) (x : At) : Rise (putL l x) := by
  obtain ⟨m, hm, h1, h2⟩ := place_ex l x
  by_cases h : ∃ h : m < l.length, l[m] = x
  · obtain ⟨h, he⟩ := h
    rw [put_has h he]; exact hR
  · obtain ⟨e, hr⟩ := put_ins hR hm h1 (fun h' => ⟨h2 h', fun e => h ⟨h', e⟩⟩)
    rw [e]; exact hr
theorem put_more (l : List At) (x : At) : l.length ≤ (putL l x).length := by
  unfold putL
  split
  · omega
  · have := posTo_le l x l.length
    unfold posA
    simp; omega
theorem join_app (a b c : List At) : joinL a (b ++ c) = joinL (joinL a b) c := by unfold joinL; rw [List.foldl_append]
theorem rise_join {a : List At} (hR : Rise a) : ∀ b : List At, Rise (joinL a b) := by
  intro b
  induction b generalizing a with
  | nil => exact hR
  | cons x b ih => exact ih (rise_put hR x)
theorem join_more (a : List At) : ∀ b : List At, a.length ≤ (joinL a b).length := by
  intro b
  induction b generalizing a with
  | nil => exact Nat.le_refl _
  | cons x b ih => exact Nat.le_trans (put_more a x) (ih (putL a x))
/-- what rises is put together again -/
theorem join_rise {a : List At} (hR : Rise a) : ∀ m, m ≤ a.length → joinL [] (a.take m) = a.take m
  | 0, _ => by simp [joinL]
  | m + 1, h => by
    rw [join_snoc [] a m (by omega), join_rise hR m (by omega)]
    have hl : (a.take m).length = m := by rw [List.length_take]; omega
    have hT : Rise (a.take m) := List.Pairwise.sublist (List.take_sublist m a) hR
    have e := (put_ins (x := a[m]) hT (Nat.le_of_eq rfl : (a.take m).length ≤ (a.take m).length) (fun q hq _ => by
      rw [List.getElem_take]
      exact hR.get (by omega) (by omega) (by omega)) (fun h => absurd h (by omega))).1
    rw [e]
    unfold insA
    simp only [List.take_length, List.drop_length, List.append_nil]
    exact (List.take_succ_eq_append_getElem (by omega)).symm
theorem join_self {a : List At} (hR : Rise a) : joinL [] a = a := by
  have := join_rise hR a.length (Nat.le_refl _)
  rwa [List.take_length] at this
/-- a list of atoms, and where it lies -/
structure Sl where
  l : List At
  a : Option Addr
  c : Nat
def flat (s : List Sl) : List At := s.flatMap (·.l)
theorem flat_snoc (s : List Sl) (m : Nat) (h : m < s.length) : flat (s.take (m + 1)) = flat (s.take m) ++ s[m].l := by
  unfold flat
  rw [List.take_succ_eq_append_getElem h, List.flatMap_append]
  simp
noncomputable def setR (l : List At) : List At := if 8 < (joinL [] l).length then [] else joinL [] l
noncomputable def setC (l : List At) : Int := if 8 < (joinL [] l).length then 6 else 0
structure Lists (w : World) (S p : Nat) (s : List Sl) : Prop where
  cell : ∀ m (h : m < s.length), w.cell? ⟨p, m, none⟩ = some (.slice s[m].a s[m].l.length s[m].c)
  ats : ∀ m (h : m < s.length), Ats w (· < S) s[m].a s[m].l
  len : ∀ m (h : m < s.length), s[m].l.length ≤ 1048576
theorem Lists.cells {w W : World} {S p : Nat} {s : List Sl} (h : Lists w S p s) (hp : p < w.heap.size) (hB : Below w.heap.size w W) (m : Nat) (hm : m < s.length) : W.cell? ⟨p, m, none⟩ = some (.slice s[m].a s[m].l.length s[m].c) := by
  rw [World.cell?_of_block (w := w) (a := ⟨p, m, none⟩) (hB.block p hp)]
  exact h.cell m hm
/-- the state of the work: the set so far -/
def SetI (w : World) (W : World) (v : Value) (l : List At) : Prop := AN w w.heap.size W v (joinL [] l) ∧ (joinL [] l).length ≤ 8
theorem set_over {l l' : List At} (h : 8 < (joinL [] l).length) : 8 < (joinL [] (l ++ l')).length := by
  rw [join_app]
  exact Nat.lt_of_lt_of_le h (join_more _ _)
theorem rise_nil : Rise [] := List.Pairwise.nil
end Go.Proofs.Ythdppchlnjnloaa
namespace Go.Proofs.Ythdppchlnjnloaa
open Go.RowKit
set_option linter.unusedSimpArgs false
set_option maxRecDepth 100000 in
set_option maxHeartbeats 6400000 in
theorem setOfI (s : List Sl) (p cp S : Nat) (w : World) (hs : s.length ≤ 1000) (hw : S ≤ w.heap.size) (hp : p < w.heap.size) (hL : Lists w S p s) :
    Calls Try.prog 13 #[.slice (some ⟨p, 0, none⟩) s.length cp] w (AAns2 w (setR (flat s)) (setC (flat s))) := by
  have HL : Hid (Lists w S p s) := hL
  have PU : Hid (∀ (x : At) (l : List At) (v : Value) (W : World), SetI w W v l → Calls Try.prog 21 #[v, .agg #[.int .i64 x.k, .int .i64 x.n, .string ⟨x.t.toArray⟩], .func (.func 22) #[] #[]] W (fun e w' => ∃ a cc, e = .returned (.slice a (joinL [] (l ++ [x])).length cc) ∧ AN w w.heap.size w' (.slice a (joinL [] (l ++ [x])).length cc) (joinL [] (l ++ [x])))) := fun x l v W h =>
    (putI (joinL [] l) x v w.heap.size W (by have := h.2; omega) (rise_join rise_nil l) h.1.buf h.1.le).mono (fun e w' ⟨v', he, hb, ha⟩ => by
      rw [show putL (joinL [] l) x = joinL [] (l ++ [x]) by rw [join_app]; rfl] at hb
      have han := h.1.push hb ha
      obtain ⟨a, cc, e2, -⟩ := hb.own
      subst e2
      exact ⟨a, cc, he, han⟩)
  have H0 : Hid (SetI w w (.slice none 0 0) (flat (s.take 0))) := by
    refine ⟨(AN.first (Below.refl _ _)).cast (by simp [flat, joinL]), by simp [flat, joinL]⟩
  clear hL
  go_enter Try.func13, Try.ntmps13
  go_wp2_with fail
  go_loopw [4, 11] (fun o i wr => ∃ m : Nat, ∃ vo, m ≤ s.length ∧ i = .int .i64 m ∧ vo = o ∧ Hid (SetI w wr vo (flat (s.take m)))) (fun _ i _ => s.length - (intOf i).toNat)
  case atStart => exact ⟨0, _, Nat.zero_le _, rfl, rfl, H0.out⟩
  case round =>
    obtain ⟨m, vo, hm, rfl, rfl, HI⟩ := hrel
    by_cases hlt : m < s.length
    · have hmi : (m : Int) < (s.length : Int) := by omega
      have c0 := HL.out.cells hp HI.out.1.bel m hlt
      have HF : Hid (flat (s.take (m + 1)) = flat (s.take m) ++ s[m].l) := flat_snoc s m hlt
      have HT : Hid (flat s = flat (s.take m) ++ (s[m].l ++ flat (s.drop (m + 1)))) := by
        show flat s = _
        conv => lhs; rw [← List.take_append_drop (m + 1) s]
        rw [← List.append_assoc, ← HF.out]
        unfold flat
        rw [List.flatMap_append]
      have HA : Hid (∀ W, Below w.heap.size w W → Ats W (· < S) s[m].a s[m].l) := fun W h => (HL.out.ats m hlt).below (h.mono hw)
      have hll := HL.out.len m hlt
      have HX : Hid (flat s = flat s) := rfl
      generalize s[m] = sl at *
      obtain ⟨l, a, c⟩ := sl
      dsimp only at *
      generalize flat (s.take m) = f at *
      generalize flat (s.drop (m + 1)) = f' at *
      go_wp2_with fail
      go_loopw [4, 17] (fun o j wr => ∃ q : Nat, ∃ vq, q ≤ l.length ∧ j = .int .i64 q ∧ vq = o ∧ Hid (SetI w wr vq (f ++ l.take q))) (fun _ j _ => l.length - (intOf j).toNat)
      case atStart => exact ⟨0, _, Nat.zero_le _, rfl, rfl, by show SetI _ _ _ _; rw [List.take_zero, List.append_nil]; exact HI.out⟩
      case round =>
        obtain ⟨q, vq, hq, rfl, rfl, HJ⟩ := hrel
        by_cases hqlt : q < l.length
        · have hqi : (q : Int) < (l.length : Int) := by omega
          obtain ⟨b, off, rfl, -, d0, d1, d2⟩ := (HA.out _ HJ.out.1.bel).item q hqlt
          have HN : Hid (f ++ l.take (q + 1) = (f ++ l.take q) ++ [l[q]]) := by
            show f ++ l.take (q + 1) = _
            rw [List.take_succ_eq_append_getElem hqlt, List.append_assoc]
          have HT2 : Hid (flat s = (f ++ l.take (q + 1)) ++ (l.drop (q + 1) ++ f')) := by
            show flat s = _
            rw [HT.out]
            conv => lhs; rw [← List.take_append_drop (q + 1) l]
            simp only [List.append_assoc]
          rw [HN.out] at HT2
          generalize l[q] = x at *
          generalize f ++ l.take q = g at *
          have hA1 : Below wr.heap.size wr (wr.alloc (.cells #[.int .i64 x.k, .int .i64 x.n, .string ⟨x.t.toArray⟩] 37)) := (Below.refl _ _).alloc (Nat.le_refl _) _
          have HJ1 : Hid (SetI w (wr.alloc (.cells #[.int .i64 x.k, .int .i64 x.n, .string ⟨x.t.toArray⟩] 37)) vq g) := ⟨HJ.out.1.on hA1, HJ.out.2⟩
          clear hA1
          by_cases h8 : 8 < (joinL [] (g ++ [x])).length
          · have HC : Hid (setC (flat s) = 6 ∧ setR (flat s) = []) := by
              have h9 : 8 < (joinL [] (flat s)).length := by rw [HT2.out]; exact set_over h8
              exact ⟨by unfold setC; rw [if_pos h9], by unfold setR; rw [if_pos h9]⟩
            have d8 : decide (8 < ((joinL [] (g ++ [x])).length : Int)) = true := decide_eq_true (by omega)
            have PU' := Lib.hid (PU.out x g)
            clear h8 HN HT2 HT
            generalize (joinL [] (g ++ [x])).length = n at *
            go_wp2_with (go_at_call 21; refine (PU'.out _ _ HJ1.out).mono ?_; rintro e w2 ⟨a2, c2, rfl, H2⟩)
            go_ret2
            rw [HC.out.1]
            exact AAns2.none HC.out.2 H2.bel
          · have d8 : decide (8 < ((joinL [] (g ++ [x])).length : Int)) = false := decide_eq_false (by omega)
            have HE : Hid (∀ W v, AN w w.heap.size W v (joinL [] (g ++ [x])) → SetI w W v (f ++ l.take (q + 1))) := fun W v h => by rw [HN.out]; exact ⟨h, by omega⟩
            have PU' := Lib.hid (PU.out x g)
            clear h8 HT2
            generalize (joinL [] (g ++ [x])).length = n at *
            go_wp2_with (go_at_call 21; refine (PU'.out _ _ HJ1.out).mono ?_; rintro e w2 ⟨a2, c2, rfl, H2⟩)
            go_roundw
            case rel => exact ⟨q + 1, _, by omega, by go_num, rfl, HE.out _ _ H2⟩
            case measure => simp [intOf]; omega
        · have hqi : decide ((q : Int) < (l.length : Int)) = false := by simp; omega
          have HE : Hid (SetI w wr vq (flat (s.take (m + 1)))) := by
            show SetI _ _ _ _
            rw [HF.out, ← List.take_of_length_le (show l.length ≤ q by omega)]
            exact HJ.out
          go_wp2_with fail
          go_roundw
          case rel => exact ⟨m + 1, _, by omega, by go_num, rfl, HE.out⟩
          case measure => simp [intOf]; omega
    · have hmi : decide ((m : Int) < (s.length : Int)) = false := by simp; omega
      have HE : Hid (setC (flat s) = 0 ∧ setR (flat s) = joinL [] (flat s) ∧ SetI w wr vo (flat s)) := by
        have h := HI.out
        rw [List.take_of_length_le (by omega)] at h
        have h9 : ¬ 8 < (joinL [] (flat s)).length := by have := h.2; omega
        exact ⟨by unfold setC; rw [if_neg h9], by unfold setR; rw [if_neg h9], h⟩
      go_wp2_with fail
      go_ret2
      rw [HE.out.1, HE.out.2.1]
      exact HE.out.2.2.1.ans2
end Go.Proofs.Ythdppchlnjnloaa
namespace Go.Proofs.Ythdppchlnjnloaa
open Go.RowKit
set_option linter.unusedSimpArgs false
noncomputable def ofC (l : List At) : Int := if 4096 < l.length then 2 else if errOf l = 0 then (if 8 < (joinL [] l).length then 6 else 0) else errOf l
noncomputable def ofR (l : List At) : List At := if ¬ 4096 < l.length ∧ errOf l = 0 ∧ ¬ 8 < (joinL [] l).length then joinL [] l else []
end Go.Proofs.Ythdppchlnjnloaa
namespace Go.Proofs.Ythdppchlnjnloaa
open Go.RowKit
set_option linter.unusedSimpArgs false
/-- places in a row that may be written, and what they hold -/
def Row (w : World) (b off n : Nat) (f : Nat → Value) : Prop := ∀ m, m < n → w.cell? ⟨b, off + m, none⟩ = some (f m) ∧ w.frozen? ⟨b, off + m, none⟩ = false
theorem Row.later {w w' : World} {b off n : Nat} {f : Nat → Value} (h : Row w b off n f) (hB : Below w.heap.size w w') : Row w' b off n f := fun m hm => by
  have hlt := World.block_lt_of_cell? _ _ (h m hm).1
  exact ⟨by rw [hB.cell (p := ⟨b, off + m, none⟩) hlt]; exact (h m hm).1, by rw [hB.frozen (p := ⟨b, off + m, none⟩) hlt]; exact (h m hm).2⟩
theorem Row.same {w w' : World} {b off n : Nat} {f : Nat → Value} (h : Row w b off n f) (hs : w'.heap[b]? = w.heap[b]?) : Row w' b off n f := fun m hm =>
  ⟨by rw [World.cell?_of_block (w := w) (a := ⟨b, off + m, none⟩) hs]; exact (h m hm).1, by rw [World.frozen?_of_block (w := w) (a := ⟨b, off + m, none⟩) hs]; exact (h m hm).2⟩
theorem Row.set {w : World} {b off n : Nat} {f : Nat → Value} (h : Row w b off n f) (i : Nat) (hi : i < n) (v : Value) : Row (w.setCell ⟨b, off + i, none⟩ v) b off n (fun m => if m = i then v else f m) := fun m hm => by
  have h1 := (h m hm).1
  have h2 := (h m hm).2
  refine ⟨?_, by simpa using h2⟩
  show (w.setCell ⟨b, off + i, none⟩ v).cell? ⟨b, off + m, none⟩ = some (if m = i then v else f m)
  by_cases e : m = i
  · subst e
    simp [World.cell?_setCell_same, h1]
  · rw [if_neg e]
    rw [World.cell?_setCell_other]
    · exact h1
    · simp; try omega
theorem Row.congr {w : World} {b off n : Nat} {f g : Nat → Value} (h : Row w b off n f) (e : ∀ m, m < n → f m = g m) : Row w b off n g := fun m hm => ⟨by rw [← e m hm]; exact (h m hm).1, (h m hm).2⟩
theorem OwnStrs.row {w : World} {B : Nat → Prop} {a : Option Addr} {keys : List (List UInt8)} (h : OwnStrs w B a keys) :
    ∃ b off, (0 < keys.length → a = some ⟨b, off, none⟩ ∧ B b) ∧ Row w b off keys.length (fun m => .string ⟨(keys.getD m []).toArray⟩) := by
  rcases h with h | ⟨b, off, ha, hb, hc⟩
  · exact ⟨0, 0, fun h' => absurd h (by omega), fun m hm => absurd h (by omega)⟩
  · exact ⟨b, off, fun _ => ⟨ha, hb⟩, fun m hm => by show w.cell? _ = some (.string ⟨(keys.getD m []).toArray⟩) ∧ _; rw [List.getD_eq_getElem?_getD, List.getElem?_eq_getElem hm]; exact hc m hm⟩
theorem OwnStrs.of_row {w : World} {B : Nat → Prop} {a : Option Addr} {keys : List (List UInt8)} {b off : Nat} (ha : 0 < keys.length → a = some ⟨b, off, none⟩ ∧ B b) (h : Row w b off keys.length (fun m => .string ⟨(keys.getD m []).toArray⟩)) : OwnStrs w B a keys := by
  by_cases h0 : keys.length = 0
  · exact .inl h0
  · obtain ⟨h1, h2⟩ := ha (by omega)
    exact .inr ⟨b, off, h1, h2, fun i hi => by have : w.cell? _ = some (.string ⟨(keys.getD i []).toArray⟩) ∧ _ := h i hi; rw [List.getD_eq_getElem?_getD, List.getElem?_eq_getElem hi] at this; exact this⟩
/-- n marks from k on -/
def marks (n k : Nat) : List (List UInt8) := (List.range n).map fun i => mt (k + i)
theorem marks_len (n k : Nat) : (marks n k).length = n := by simp [marks]
theorem marks_at {n k m : Nat} (h : m < n) : (marks n k).getD m [] = mt (k + m) := by
  rw [List.getD_eq_getElem?_getD]; simp [marks, h]

end Go.Proofs.Ythdppchlnjnloaa
namespace Go.Proofs.Ythdppchlnjnloaa
open Go.RowKit
set_option linter.unusedSimpArgs false
def markAt (k i : Nat) : At := ⟨((k + 3 * i : Nat) : Int), ((k + 3 * i + 1 : Nat) : Int), mt (k + 3 * i + 2)⟩
def marksA (n k : Nat) : List At := (List.range n).map (markAt k)
theorem marksA_len (n k : Nat) : (marksA n k).length = n := by simp [marksA]
theorem marksA_at {n k i : Nat} (h : i < n) : (marksA n k)[i]'(by rw [marksA_len]; exact h) = markAt k i := by simp [marksA]
theorem OwnAts.row {w : World} {B : Nat → Prop} {a : Option Addr} {l : List At} (h : OwnAts w B a l) : ∃ b off, (0 < l.length → a = some ⟨b, off, none⟩ ∧ B b) ∧ Row w b off (l.length * 3) (atF l) := by
  rcases h with h | ⟨b, off, ha, hb, hc⟩
  · exact ⟨0, 0, fun h' => absurd h (by omega), fun m hm => absurd hm (by omega)⟩
  · exact ⟨b, off, fun _ => ⟨ha, hb⟩, hc⟩
theorem OwnAts.of_row {w : World} {B : Nat → Prop} {a : Option Addr} {l : List At} {b off : Nat} (ha : 0 < l.length → a = some ⟨b, off, none⟩ ∧ B b) (h : Row w b off (l.length * 3) (atF l)) : OwnAts w B a l := by
  by_cases h0 : l.length = 0
  · exact .inl h0
  · exact .inr ⟨b, off, (ha (by omega)).1, (ha (by omega)).2, h⟩
end Go.Proofs.Ythdppchlnjnloaa
