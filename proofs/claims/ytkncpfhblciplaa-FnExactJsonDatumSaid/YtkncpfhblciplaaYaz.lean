import Derived.Test.YtkncpfhblciplaaYay
import Derived.Deep.RegionHeld3
import Derived.Test.YtkncpfhblciplaaYTk
namespace Go.Proofs.Ytkncpfhblciplaa
open Go.RowKit
set_option linter.unusedSimpArgs false
def PutAns (w : World) (B : Nat) (v : Value) (l : List At) (e : Ending) (w' : World) : Prop := ∃ v', e = .returned v' ∧ ABuf w' B v' l ∧ AppA w v w' v'
theorem AppA.after {w w1 w2 : World} {v v' : Value} (h : Below w.heap.size w w1) (k : AppA w1 v w2 v') : AppA w v w2 v' := (AppA.of_below h).trans k
theorem one_new (w : World) (x : At) (v : Value) {B : Nat} {l : List At} (hb : ABuf w B v l) : OneA (w.alloc (.cells #[.int .i64 x.k, .int .i64 x.n, .string ⟨x.t.toArray⟩] 31)) v w.heap.size x :=
  ⟨heap_newA _ _, fun e => by have := (hb.lt e).2; omega⟩
set_option maxRecDepth 100000 in
set_option maxHeartbeats 6400000 in
theorem putI (l : List At) (x : At) (v : Value) (B : Nat) (w : World) (hl : l.length ≤ 100) (hR : Rise l) (hb : ABuf w B v l) (hB : B ≤ w.heap.size) :
    Calls Try.prog 127 #[v, .agg #[.int .i64 x.k, .int .i64 x.n, .string ⟨x.t.toArray⟩], .func (.func 90) #[] #[]] w (PutAns w B v (putL l x)) := by
  have HB : Hid (ABuf w B v l) := hb
  obtain ⟨a, c, rfl, ho⟩ := hb.own
  have HA : Hid (Ats w (fun b => B ≤ b ∧ b < w.heap.size) a l) := ho.ats
  have IN : Hid (∀ (i : Nat) (W : World), i ≤ l.length → Below w.heap.size w W → Calls Try.prog 130 #[.slice a l.length c, .int .i64 i, .slice (some ⟨W.heap.size, 0, none⟩) 1 1] (W.alloc (.cells #[.int .i64 x.k, .int .i64 x.n, .string ⟨x.t.toArray⟩] 31)) (fun e w' => ∃ v', e = .returned v' ∧ ABuf w' B v' (insA l i x) ∧ AppA w (.slice a l.length c) w' v')) := fun i W hi h => by
    have hb' : ABuf W B (.slice a l.length c) l := hb.on h
    have hal : Below W.heap.size W (W.alloc (.cells #[.int .i64 x.k, .int .i64 x.n, .string ⟨x.t.toArray⟩] 31)) := (Below.refl _ _).alloc (Nat.le_refl _) _
    refine (insertI l x i W.heap.size B _ _ (by omega) hi (by have := h.size; have := hal.size; omega) (hb'.on hal) (one_new W x _ hb')).mono (fun e w' ⟨v', he, hb2, ha2⟩ => ⟨v', he, hb2, AppA.after (h.trans (hal.mono h.size)) ha2⟩)
  have CP : Hid (∀ (y : At) W, BoxA w W x → Calls Try.prog 90 #[.agg #[.int .i64 y.k, .int .i64 y.n, .string ⟨y.t.toArray⟩], .agg #[.int .i64 x.k, .int .i64 x.n, .string ⟨x.t.toArray⟩]] W fun e w' => e = .returned (.int .i64 (cmpA y x)) ∧ BoxA w w' x) := fun y W h => (compareI y x W).mono (fun e w' ⟨he, hB⟩ => ⟨he, h.later hB⟩)
  have RS : Hid (Rise l) := hR
  clear hb ho hR
  go_enter Try.func127, Try.ntmps127
  go_wp2_with fail
  go_loopw [7] (fun i wr => ∃ k : Nat, k ≤ l.length ∧ i = .int .i64 k ∧ Hid ((∀ q (h : q < l.length), q < k → cmpA l[q] x < 0) ∧ BoxA w wr x)) (fun i _ => l.length - (intOf i).toNat)
  case atStart => exact ⟨0, Nat.zero_le _, rfl, fun m _ h => absurd h (by omega), heap_newA _ _, (Below.refl _ _).alloc (Nat.le_refl _) _⟩
  case round =>
    obtain ⟨k, hk, rfl, HW⟩ := hrel
    have x0 := cell_at (o := 0) HW.out.2.1 rfl
    have x1 := cell_at (o := 1) HW.out.2.1 rfl
    have x2 := cell_at (o := 2) HW.out.2.1 rfl
    by_cases hlt : k < l.length
    · obtain ⟨b, off, rfl, -, c0, c1, c2⟩ := (HA.out.later HW.out.2.2).item k hlt
      have hki : (k : Int) < (l.length : Int) := by omega
      have hkd : decide ((k : Int) < (l.length : Int)) = true := decide_eq_true hki
      have CE : Hid (∀ W, BoxA w W x → W.cell? ⟨b, off + k * 3, none⟩ = some (.int .i64 l[k].k) ∧ W.cell? ⟨b, off + k * 3 + 1, none⟩ = some (.int .i64 l[k].n) ∧ W.cell? ⟨b, off + k * 3 + 2, none⟩ = some (.string ⟨l[k].t.toArray⟩) ∧ W.cell? ⟨w.heap.size, 0, none⟩ = some (.int .i64 x.k) ∧ W.cell? ⟨w.heap.size, 1, none⟩ = some (.int .i64 x.n) ∧ W.cell? ⟨w.heap.size, 2, none⟩ = some (.string ⟨x.t.toArray⟩)) := fun W h => by
        obtain ⟨h1, h2, h3⟩ := (HA.out.later h.2).three k hlt
        exact ⟨h1, h2, h3, cell_at (o := 0) h.1 rfl, cell_at (o := 1) h.1 rfl, cell_at (o := 2) h.1 rfl⟩
      have CP' : Hid (∀ W, BoxA w W x → Calls Try.prog 90 #[.agg #[.int .i64 l[k].k, .int .i64 l[k].n, .string ⟨l[k].t.toArray⟩], .agg #[.int .i64 x.k, .int .i64 x.n, .string ⟨x.t.toArray⟩]] W fun e w' => e = .returned (.int .i64 (cmpA l[k] x)) ∧ BoxA w w' x) := CP.out l[k]
      have HX := Lib.hid HW.out.2
      by_cases hc : cmpA l[k] x < 0
      · have HN : Hid (∀ q (h : q < l.length), q < k + 1 → cmpA l[q] x < 0) := fun q h hq => by
          by_cases e : q = k
          · subst e; exact hc
          · exact HW.out.1 q h (by omega)
        have hcd : decide (cmpA l[k] x < 0) = true := decide_eq_true hc
        clear hc HW
        generalize cmpA l[k] x = z at *
        generalize l[k] = y at *
        go_wp2_with fail
        refine wp_region_held_drew (S := (fun W => W.cell? ⟨b, off + k * 3, none⟩ = some (.int .i64 y.k) ∧ W.cell? ⟨b, off + k * 3 + 1, none⟩ = some (.int .i64 y.n) ∧ W.cell? ⟨b, off + k * 3 + 2, none⟩ = some (.string ⟨y.t.toArray⟩) ∧ W.cell? ⟨w.heap.size, 0, none⟩ = some (.int .i64 x.k) ∧ W.cell? ⟨w.heap.size, 1, none⟩ = some (.int .i64 x.n) ∧ W.cell? ⟨w.heap.size, 2, none⟩ = some (.string ⟨x.t.toArray⟩))) (by kernel_rfl) ?_ (fun hHeld => ?_)
        · (first | exact CE.out _ HX.out | exact CE.out _ (HX.out.drewN 1) | exact CE.out _ hx1)
        refine tkB (i := 0) ?_
        refine tkB (i := 1) ?_
        refine tkB (i := 2) ?_
        refine tkB (i := 3) ?_
        refine tkB (i := 4) ?_
        refine tkB (i := 5) ?_
        refine tkB (i := 6) ?_
        refine tkB (i := 7) ?_
        refine tkB (i := 8) ?_
        refine tkB (i := 9) ?_
        refine tkB (i := 10) ?_
        refine tkR (i := 11) (fun K hK => ?_)
        go_simp
        (go_at_call 90; (with_reducible refine (CP'.out _ ?_).mono ?_); (first | exact HX.out | exact HX.out.drewN 1); rintro e w1 ⟨rfl, hx1⟩)
        refine hK.out _ _ ?_ (fun hHeld => ?_)
        · (first | exact CE.out _ HX.out | exact CE.out _ (HX.out.drewN 1) | exact CE.out _ hx1)
        clear hK K
        try simp only [Act.put, tkS]
        refine tkB (i := 12) ?_
        refine tkB (i := 13) ?_
        refine wpAnyH_done (by kernel_rfl) ?_ _
        go_wp2_with fail
        go_roundw
        case rel => exact ⟨k + 1, by omega, by go_num, HN.out, hx1⟩
        case measure => simp [intOf]; omega
      · have hcd : decide (cmpA l[k] x < 0) = false := decide_eq_false hc
        have FI : Hid (¬ l[k] = x → putL l x = insA l k x) := fun he => (put_ins RS.out hk HW.out.1 (fun _ => ⟨hc, he⟩)).1
        have FH : Hid (l[k] = x → putL l x = l) := fun he => put_has hlt he
        clear hc HW
        generalize cmpA l[k] x = z at *
        generalize l[k] = y at *
        go_wp2_with fail
        refine wp_region_held_drew (S := (fun W => W.cell? ⟨b, off + k * 3, none⟩ = some (.int .i64 y.k) ∧ W.cell? ⟨b, off + k * 3 + 1, none⟩ = some (.int .i64 y.n) ∧ W.cell? ⟨b, off + k * 3 + 2, none⟩ = some (.string ⟨y.t.toArray⟩) ∧ W.cell? ⟨w.heap.size, 0, none⟩ = some (.int .i64 x.k) ∧ W.cell? ⟨w.heap.size, 1, none⟩ = some (.int .i64 x.n) ∧ W.cell? ⟨w.heap.size, 2, none⟩ = some (.string ⟨x.t.toArray⟩))) (by kernel_rfl) ?_ (fun hHeld => ?_)
        · (first | exact CE.out _ HX.out | exact CE.out _ (HX.out.drewN 1) | exact CE.out _ hx1)
        refine tkB (i := 0) ?_
        refine tkB (i := 1) ?_
        refine tkB (i := 2) ?_
        refine tkB (i := 3) ?_
        refine tkB (i := 4) ?_
        refine tkB (i := 5) ?_
        refine tkB (i := 6) ?_
        refine tkB (i := 7) ?_
        refine tkB (i := 8) ?_
        refine tkB (i := 9) ?_
        refine tkB (i := 10) ?_
        refine tkR (i := 11) (fun K hK => ?_)
        go_simp
        (go_at_call 90; (with_reducible refine (CP'.out _ ?_).mono ?_); (first | exact HX.out | exact HX.out.drewN 1); rintro e w1 ⟨rfl, hx1⟩)
        refine hK.out _ _ ?_ (fun hHeld => ?_)
        · (first | exact CE.out _ HX.out | exact CE.out _ (HX.out.drewN 1) | exact CE.out _ hx1)
        clear hK K
        try simp only [Act.put, tkS]
        refine tkB (i := 12) ?_
        refine tkB (i := 13) ?_
        refine wpAnyH_done (by kernel_rfl) ?_ _
        go_wp2_with fail
        have y0 := (CE.out _ hx1).1
        have y1 := (CE.out _ hx1).2.1
        have y2 := (CE.out _ hx1).2.2.1
        have z0 := (CE.out _ hx1).2.2.2.1
        have z1 := (CE.out _ hx1).2.2.2.2.1
        have z2 := (CE.out _ hx1).2.2.2.2.2
        clear hHeld x0 x1 x2 c0 c1 c2 CE CP' CP
        by_cases he : y = x
        · have HP : Hid (putL l x = l) := FH.out he
          subst he
          clear FH FI
          go_quiet (fail)
          go_wp2_with fail
          go_ret
          have hBn := below_drewN hx1.2 4
          rw [HP.out]
          exact ⟨_, rfl, HB.out.on (below_drewN hx1.2 _), AppA.of_below (below_drewN hx1.2 _)⟩
        · have HP : Hid (putL l x = insA l k x) := FI.out he
          have FIN : Hid (∀ v' w', ABuf w' B v' (insA l k x) → AppA w (.slice (some ⟨b, off, none⟩) l.length c) w' v' → PutAns w B (.slice (some ⟨b, off, none⟩) l.length c) (putL l x) (.returned v') w') := fun v' w' h1 h2 => by rw [HP.out]; exact ⟨v', rfl, h1, h2⟩
          clear FH FI HP
          rcases differ he with hd | ⟨hd, hd2⟩ | ⟨hd, hd2, hd3⟩
          · clear he
            go_quiet (fail)
            go_wp2_with (go_at_call 130; refine (IN.out k _ hk ?_).mono ?_; exact (below_drewN hx1.2 _); rintro e w2 ⟨v2, rfl, hb2, ha2⟩)
            go_ret
            exact FIN.out _ _ hb2 ha2
          · rw [hd] at y0
            clear he hd
            go_quiet (fail)
            go_wp2_with (go_at_call 130; refine (IN.out k _ hk ?_).mono ?_; exact (below_drewN hx1.2 _); rintro e w2 ⟨v2, rfl, hb2, ha2⟩)
            go_ret
            exact FIN.out _ _ hb2 ha2
          · rw [hd] at y0
            rw [hd2] at y1
            clear he hd hd2
            go_quiet (fail)
            go_wp2_with (go_at_call 130; refine (IN.out k _ hk ?_).mono ?_; exact (below_drewN hx1.2 _); rintro e w2 ⟨v2, rfl, hb2, ha2⟩)
            go_ret
            exact FIN.out _ _ hb2 ha2
    · have HX := Lib.hid HW.out.2
      have hkd : decide ((k : Int) < (l.length : Int)) = false := decide_eq_false (by omega)
      have HP : Hid (putL l x = insA l k x) := (put_ins RS.out hk HW.out.1 (fun h => absurd h hlt)).1
      have FIN : Hid (∀ v' w', ABuf w' B v' (insA l k x) → AppA w (.slice a l.length c) w' v' → PutAns w B (.slice a l.length c) (putL l x) (.returned v') w') := fun v' w' h1 h2 => by rw [HP.out]; exact ⟨v', rfl, h1, h2⟩
      clear HW HP
      go_wp2_with fail
      refine wp_region_held_drew (S := (fun _ => True)) (by kernel_rfl) ?_ (fun hHeld => ?_)
      · (trivial)
      refine tkB (i := 0) ?_
      refine tkB (i := 1) ?_
      refine tkB (i := 2) ?_
      refine tkB (i := 3) ?_
      refine tkB (i := 4) ?_
      refine tkV (i := 5) ?_
      refine tkV (i := 6) ?_
      refine tkV (i := 7) ?_
      refine tkV (i := 8) ?_
      refine tkV (i := 9) ?_
      refine tkV (i := 10) ?_
      refine tkV (i := 11) ?_
      refine tkV (i := 12) ?_
      refine tkB (i := 13) ?_
      refine wpAnyH_done (by kernel_rfl) ?_ _
      go_wp2_with fail
      go_quiet (fail)
      go_wp2_with (go_at_call 130; refine (IN.out k _ hk ?_).mono ?_; exact (below_drewN HX.out.2 _); rintro e w2 ⟨v2, rfl, hb2, ha2⟩)
      go_ret
      exact FIN.out _ _ hb2 ha2
end Go.Proofs.Ytkncpfhblciplaa
