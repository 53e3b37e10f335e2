import Derived.Test.YthpenliecgpedaaZav
import Derived.Test.YthpenliecgpedaaZTk
namespace Go.Proofs.Ythpenliecgpedaa
open Go.RowKit
set_option linter.unusedSimpArgs false
def atL (l : List LkV) (k : Nat) : LkV := l.getD k ⟨[], []⟩
theorem atL_at {l : List LkV} {k : Nat} (h : k < l.length) : atL l k = l[k] := by unfold atL; rw [List.getD_eq_getElem?_getD, List.getElem?_eq_getElem h]; rfl
def tkX (l : List LkV) (s : List UInt8) : LkV := atL (roomL l s) (roomK l s)
def tkIn (l : List LkV) (n : Int) (s : List UInt8) : Bool := inK (tkX l s).qu (tkX l s).qu.length n
def takeL (l : List LkV) (n : Int) (s : List UInt8) : List LkV := if roomB l s then (if tkIn l n s then roomL l s else (roomL l s).set (roomK l s) ⟨(tkX l s).nm, (tkX l s).qu ++ [n]⟩) else roomL l s
def takeB (l : List LkV) (n : Int) (s : List UInt8) : Bool := if roomB l s then (if tkIn l n s then false else decide ((tkX l s).qu.length = 0)) else false
def takeC (l : List LkV) (n : Int) (s : List UInt8) : Int := if roomB l s then (if tkIn l n s then 8 else 0) else 7
theorem take_full {l : List LkV} {n : Int} {s : List UInt8} (h : roomB l s = false) : takeL l n s = roomL l s ∧ takeB l n s = false ∧ takeC l n s = 7 := by unfold takeL takeB takeC; simp [h]
theorem take_in {l : List LkV} {n : Int} {s : List UInt8} (h : roomB l s = true) (h2 : tkIn l n s = true) : takeL l n s = roomL l s ∧ takeB l n s = false ∧ takeC l n s = 8 := by unfold takeL takeB takeC; simp [h, h2]
theorem take_ok {l : List LkV} {n : Int} {s : List UInt8} (h : roomB l s = true) (h2 : tkIn l n s = false) : takeL l n s = (roomL l s).set (roomK l s) ⟨(tkX l s).nm, (tkX l s).qu ++ [n]⟩ ∧ takeB l n s = decide ((tkX l s).qu.length = 0) ∧ takeC l n s = 0 := by unfold takeL takeB takeC; simp [h, h2]
theorem lks_set (es : List LE) (k : Nat) (x : LkV) (u : Value) : lks (es.set k ⟨x, u⟩) = (lks es).set k x := by unfold lks; rw [List.map_set]
theorem queI {base : Nat} {W : World} {q : List Int} {u : Value} (h : QOw base W q u) (n : Int) (a : Option Addr) (c : Nat) (e : u = .slice a q.length c) (hl : q.length ≤ maxLen) : Calls Try.prog 55 #[.slice a q.length c, .int .i64 n] W fun e w' => e = .returned (.bool (inK q q.length n)) ∧ w' = W := by
  subst e
  exact inIntS q q.length n a c _ W hl (Nat.le_refl _) h.own.rd'
set_option maxRecDepth 100000 in
set_option maxHeartbeats 6400000 in
theorem takeS (l : List LkV) (n : Int) (s : List UInt8) (a : Option Addr) (c : Nat) (B : Nat → Prop) (w : World) (hl : l.length ≤ 6) (hq : ∀ k (h : k < l.length), 0 < l[k].qu.length ∧ l[k].qu.length ≤ 1000) (hS : Rd w B (dLockS l) (.slice a l.length c)) :
    Calls Try.prog 28 #[.slice a l.length c, .int .i64 n, .string ⟨s.toArray⟩] w fun e w' => ∃ es ra rc, e = .returned (.tuple #[.slice ra (takeL l n s).length rc, .bool (takeB l n s), .int .i64 (takeC l n s)]) ∧ lks es = takeL l n s ∧ LTab w.heap.size w' es (.slice ra (takeL l n s).length rc) ∧ Below w.heap.size w w' := by
  have CR := Lib.hid (roomS l s a c B w hl hq hS)
  have HXQ : Hid ((tkX l s).qu.length ≤ 1000) := by
    show (tkX l s).qu.length ≤ 1000
    have hz : ∀ L : List LkV, (∀ k (h : k < L.length), L[k].qu.length ≤ 1000) → ∀ k, (atL L k).qu.length ≤ 1000 := fun L hL k => by
      by_cases hk : k < L.length
      · rw [atL_at hk]; exact hL k hk
      · unfold atL; rw [List.getD_eq_getElem?_getD, List.getElem?_eq_none (by omega)]; simp
    refine hz _ (fun k hk => ?_) _
    have hi : ∀ x ∈ roomL l s, x.qu.length ≤ 1000 := fun x hx => by
      have hll : ∀ x ∈ l, x.qu.length ≤ 1000 := fun x hx => by obtain ⟨k, hk, rfl⟩ := List.mem_iff_getElem.1 hx; exact (hq k hk).2
      unfold roomL at hx
      split at hx
      · exact hll x hx
      · split at hx
        · exact hll x hx
        · unfold insL at hx
          rcases List.mem_append.1 hx with hx | hx
          · rcases List.mem_append.1 hx with hx | hx
            · exact hll x (List.mem_of_mem_take hx)
            · simp only [List.mem_cons, List.not_mem_nil, or_false] at hx; rw [hx]; simp
          · exact hll x (List.mem_of_mem_drop hx)
    exact hi _ (List.getElem_mem hk)
  clear hS hq
  cases hb : roomB l s
  case false =>
    obtain ⟨h1, h2, h3⟩ := take_full (n := n) hb
    rw [h1, h2, h3]
    rw [hb] at CR
    clear h1 h2 h3
    go_enter Try.func28, Try.ntmps28
    go_wp2_with (go_at_call 54; refine CR.out.mono ?_; rintro e w1 ⟨es, ra, rc, rfl, hes, hT, hB⟩; have FIN := Lib.hid (And.intro hes (And.intro hT hB)); clear hes hT hB)
    go_ret3
    exact ⟨es, ra, rc, rfl, FIN.out⟩
  have hkl := room_in hb
  rw [hb] at CR
  have HX : Hid (tkX l s = (roomL l s)[roomK l s]) := atL_at hkl
  have HIN : Hid (tkIn l n s = inK (tkX l s).qu (tkX l s).qu.length n) := rfl
  cases hin : tkIn l n s
  case true =>
    obtain ⟨h1, h2, h3⟩ := take_in hb hin
    rw [h1, h2, h3]
    clear h1 h2 h3 hb
    rw [hin] at HIN
    generalize tkX l s = X at *
    generalize roomK l s = K at *
    generalize roomL l s = L at *
    have hkc : (K : Int) < (L.length : Int) := by omega
    have hk0 : (0 : Int) ≤ (K : Int) := by omega
    go_enter Try.func28, Try.ntmps28
    go_wp2_with (go_at_call 54; refine CR.out.mono ?_; rintro e w1 ⟨es, ra, rc, rfl, hes, hT, hB⟩; have hel := lks_len es; rw [hes] at hel; have hK : K < es.length := (by omega); obtain ⟨g, c2, ev, hc2, c0, c1, z0, z1⟩ := hT.at hK; simp only [Value.slice.injEq] at ev; obtain ⟨rfl, -, rfl⟩ := ev; have hq := hT.el.qs K hK; obtain ⟨ua, uc, eu⟩ := hq.shape; have hxe : es[K].x = X := (by rw [HX.out]; have h9 := lks_at es (k := K) (by rw [lks_len]; exact hK); simp only [hes] at h9; exact h9.symm); rw [hxe] at hq eu; have CI := Lib.hid (queI hq n ua uc eu (by have := HXQ.out; unfold maxLen; omega)); rw [eu] at c1; have FIN := Lib.hid (And.intro hes (And.intro hT hB)); clear hes hT hB hq eu hxe hel hK z0 z1 c0)
    refine CI.out.mono ?_
    rintro e w2 ⟨rfl, hw2⟩
    rw [hw2, ← HIN.out]
    clear hw2 w2 CI
    go_wp2_with fail
    go_ret3
    exact ⟨es, _, _, rfl, FIN.out⟩
  obtain ⟨h1, h2, h3⟩ := take_ok hb hin
  rw [h1, h2, h3, List.length_set]
  clear h1 h2 h3 hb
  rw [hin] at HIN
  generalize tkX l s = X at *
  generalize roomK l s = K at *
  generalize roomL l s = L at *
  have hkc : (K : Int) < (L.length : Int) := by omega
  have hk0 : (0 : Int) ≤ (K : Int) := by omega
  obtain ⟨m, hm⟩ : ∃ m, m = X.qu.length + 1 := ⟨_, rfl⟩
  obtain ⟨tb, htb⟩ : ∃ tb, tb = ((m : Int) == 1) := ⟨_, rfl⟩
  have HTB : Hid (decide (X.qu.length = 0) = ((m : Int) == 1)) := by
    show decide (X.qu.length = 0) = ((m : Int) == 1)
    by_cases h : X.qu.length = 0
    · rw [decide_eq_true h]; symm; simp; omega
    · rw [decide_eq_false h]; symm; simp; omega
  rw [HTB.out, ← htb]
  have htb2 : ((m : Int) == 1) = tb := htb.symm
  have HM := Lib.hid hm
  clear HTB htb hm
  go_enter Try.func28, Try.ntmps28
  go_wp2_with (go_at_call 54; refine CR.out.mono ?_; rintro e w1 ⟨es, ra, rc, rfl, hes, hT, hB⟩; have hel := lks_len es; rw [hes] at hel; have HK : Hid (K < es.length) := (by show K < es.length; omega); obtain ⟨g, c2, ev, hc2, c0, c1, z0, z1⟩ := hT.at HK.out; simp only [Value.slice.injEq] at ev; obtain ⟨rfl, -, rfl⟩ := ev; have hq := hT.el.qs K HK.out; obtain ⟨ua, uc, eu⟩ := hq.shape; have hxe : (es[K]'(HK.out)).x = X := (by rw [HX.out]; have h9 := lks_at es (k := K) (by rw [lks_len]; exact HK.out); simp only [hes] at h9; exact h9.symm); rw [hxe] at hq eu; have CI := Lib.hid (queI hq n ua uc eu (by have := HXQ.out; unfold maxLen; omega)); have HEU := Lib.hid eu; rw [eu] at c1; have HES := Lib.hid hes; have HT := Lib.hid hT; have HB := Lib.hid hB; have HQ := Lib.hid hq; have HXE := Lib.hid hxe; have HEL := Lib.hid hel; clear hes hT hB hq eu hxe hel z0 z1 c0)
  refine CI.out.mono ?_
  rintro e w2 ⟨rfl, hw2⟩
  rw [hw2, ← HIN.out]
  clear hw2 w2 CI
  have hV : Below w1.heap.size w1 (w1.alloc (.cells #[.int .i64 n] 3)) := below_allocD _ _
  have hT2 : LTab w.heap.size (w1.alloc (.cells #[.int .i64 n] 3)) es (.slice (some ⟨g, 0, none⟩) es.length rc) := by have h1 := HT.out.later hV; rw [HEL.out] at h1; exact h1
  have hq2 := hT2.el.qs K HK.out
  rw [HXE.out] at hq2
  have hsV : (w1.alloc (.cells #[.int .i64 n] 3)).heap.size = w1.heap.size + 1 := size_allocD _ _
  have hwl := HB.out.size
  obtain ⟨a', c', W3, r3, hu3, hF3, hn3⟩ := hq2.app [n] ⟨w1.heap.size, 0, none⟩ 1 (fun j hj => by
    obtain rfl : j = 0 := by simpa using hj
    rw [Addr.add_mid]
    exact cell_at (o := 0) (heap_newD w1 (.cells #[.int .i64 n] 3)) rfl) (by omega) (by have := HXQ.out; simp; omega)
  have hgu : es[K].u.ownBlock ≠ some g := fun h => hT2.dv K HK.out g h rfl
  have hgl := hT2.low (g := g) (.inl rfl)
  have hT4 := hT2.setQ HK.out hF3 (X.qu ++ [n]) (.slice a' (X.qu.length + 1) c') (by
    have h1 := hu3
    simp only [List.length_cons, List.length_nil, Nat.zero_add] at h1
    exact h1) (fun b hb => by
    have h1 := hn3
    simp only [List.length_cons, List.length_nil, Nat.zero_add] at h1
    exact h1 b hb)
  simp only [List.length_cons, List.length_nil, Nat.zero_add] at r3
  rw [← HM.out] at r3 hT4
  rw [HEU.out] at r3
  have RUN := Lib.hid r3
  have C3 : Hid (W3.cell? ⟨g, K * 2 + 1, none⟩ = some (.slice ua X.qu.length uc) ∧ W3.frozen? ⟨g, K * 2 + 1, none⟩ = false) := by
    obtain ⟨g', c3, ev, -, -, e1, -, f1⟩ := hT2.at HK.out
    simp only [Value.slice.injEq, Option.some.injEq, Addr.mk.injEq, and_true, true_and] at ev
    obtain ⟨rfl, rfl⟩ := ev
    have hblk := hF3.block g hgl.2 hgu
    refine ⟨?_, ?_⟩
    · rw [World.cell?_of_block (a := ⟨g, K * 2 + 1, none⟩) hblk, e1, HEU.out]
    · rw [World.frozen?_of_block (a := ⟨g, K * 2 + 1, none⟩) hblk]; exact f1
  have HT4 : Hid (LTab w.heap.size (W3.setCell ⟨g, K * 2 + 1, none⟩ (.slice a' m c')) (es.set K ⟨⟨es[K].x.nm, X.qu ++ [n]⟩, .slice a' m c'⟩) (.slice (some ⟨g, 0, none⟩) L.length rc)) := by rw [HEL.out]; exact hT4
  have HB4 : Hid (Below w.heap.size w (W3.setCell ⟨g, K * 2 + 1, none⟩ (.slice a' m c'))) := by
    have h1 := below_frm (HB.out.trans (hV.mono hwl)) hF3 (fun b hb => (hq2.low hb).1) (Nat.le_refl _)
    exact h1.setCell hgl.1 _
  have HL4 : Hid (lks (es.set K ⟨⟨es[K].x.nm, X.qu ++ [n]⟩, .slice a' m c'⟩) = L.set K ⟨X.nm, X.qu ++ [n]⟩) := by
    show _ = _
    rw [lks_set, HES.out]
    exact congrArg (fun z : LkV => L.set K ⟨z.nm, X.qu ++ [n]⟩) HXE.out
  have CE : Hid (∀ W, Below (W3.setCell ⟨g, K * 2 + 1, none⟩ (.slice a' m c')).heap.size (W3.setCell ⟨g, K * 2 + 1, none⟩ (.slice a' m c')) W → W.cell? ⟨g, K * 2 + 1, none⟩ = some (.slice a' m c')) := fun W hW => by
    obtain ⟨g', c3, ev, -, -, e1, -, -⟩ := (HT4.out.later hW).at (i := K) (by rw [List.length_set]; exact HK.out)
    simp only [Value.slice.injEq, Option.some.injEq, Addr.mk.injEq, and_true, true_and] at ev
    obtain ⟨rfl, -, -⟩ := ev
    rw [e1, List.getElem_set_self]
  have f1 := C3.out.1
  have y1 := C3.out.2
  clear hV hT2 hq2 hsV hwl r3 hu3 hF3 hn3 hgu hgl hT4
  go_wp2_with (at_builtin; go_must (refine wpList_appIs rfl (.tmp 36) (.tmp 38) 52 rfl _ _ rfl rfl _ _ RUN.out ?_))
  clear f1 y1
  refine wp_region_held_drew (S := (fun W => W.cell? ⟨g, K * 2 + 1, none⟩ = some (.slice a' m c'))) (by kernel_rfl) ?_ (fun hHeld => ?_)
  · (first | exact CE.out _ (Below.refl _ _) | exact CE.out _ (Below.refl _ _).drew)
  refine tkB (i := 0) ?_
  refine tkB (i := 1) ?_
  refine tkB (i := 2) ?_
  refine tkB (i := 3) ?_
  refine tkB (i := 4) ?_
  refine tkB (i := 5) ?_
  refine tkB (i := 6) ?_
  refine tkB (i := 7) ?_
  refine tkB (i := 8) ?_
  refine tkB (i := 9) ?_
  refine tkB (i := 10) ?_
  refine wpAnyH_done (by kernel_rfl) ?_ _
  go_wp2_with fail
  go_ret3
  exact ⟨_, _, _, rfl, HL4.out, by first | exact HT4.out | exact HT4.out.later (Below.refl _ _).drew, by first | exact HB4.out | exact HB4.out.drew⟩
noncomputable def tloC (l : List LkV) (n : Int) (s : List UInt8) : Int := if askC l n s = 0 then takeC l n s else askC l n s
noncomputable def tloR (l : List LkV) (n : Int) (s : List UInt8) : List LkV := if askC l n s = 0 then takeL l n s else []
noncomputable def tloB (l : List LkV) (n : Int) (s : List UInt8) : Bool := if askC l n s = 0 then takeB l n s else false
theorem tk_no {l : List LkV} {n : Int} {s : List UInt8} (h : ¬ askC l n s = 0) : tloR l n s = [] ∧ tloB l n s = false ∧ tloC l n s = askC l n s := by unfold tloR tloB tloC; simp [h]
theorem tk_ok {l : List LkV} {n : Int} {s : List UInt8} (h : askC l n s = 0) : tloR l n s = takeL l n s ∧ tloB l n s = takeB l n s ∧ tloC l n s = takeC l n s := by unfold tloR tloB tloC; simp [h]
theorem ask_longS {l : List LkV} {n : Int} {s : List UInt8} (h : 65536 < s.length) : askC l n s = 2 := by unfold askC askK; rw [decide_eq_true (p := 65536 < s.length) h, Bool.or_true]; rfl
theorem lks_que {l : List LkV} (h : LksP l) : ∀ k (hk : k < l.length), 0 < l[k].qu.length ∧ l[k].qu.length ≤ 1000 := fun k hk => by have := (h.que k hk).len; omega
set_option maxRecDepth 100000 in
set_option maxHeartbeats 6400000 in
theorem takeLockS (l : List LkV) (n : Int) (s : List UInt8) (a : Option Addr) (c : Nat) (B : Nat → Prop) (w : World) (ho : (dLockS l).le maxLen) (hs : s.length ≤ maxLen) (hS : Rd w B (dLockS l) (.slice a l.length c)) :
    Calls Try.prog 9 #[.slice a l.length c, .int .i64 n, .string ⟨s.toArray⟩] w fun e w' => ∃ (ra : Option Addr) (rc : Nat), e = .returned (.tuple #[.slice ra (tloR l n s).length rc, .bool (tloB l n s), .int .i64 (tloC l n s)]) ∧ Rd w' (· < w'.heap.size) (dLockS (tloR l n s)) (.slice ra (tloR l n s).length rc) ∧ Below w.heap.size w w' := by
  have hl : l.length ≤ maxLen := (Ls_le.1 ho).2.1
  have CA := Lib.hid (askS l n s a c B w ho hs hS)
  unfold maxLen at hl hs
  by_cases h1 : 4096 < l.length
  case pos =>
    have HC : Hid (askC l n s = 2) := ask_long h1
    obtain ⟨r1, r2, r3⟩ := tk_no (l := l) (n := n) (s := s) (by rw [HC.out]; omega)
    have d1 : decide (4096 < (l.length : Int)) = true := decide_eq_true (by omega)
    rw [r1, r2, r3, HC.out]
    clear h1 hS ho r1 r2 r3
    go_enter Try.func9, Try.ntmps9
    go_wp2_with fail
    go_ret3
    exact ⟨_, _, rfl, Rd.lsNil _ _, below_allocD _ _⟩
  have d1 : decide (4096 < (l.length : Int)) = false := decide_eq_false (by omega)
  clear h1
  by_cases h2 : 65536 < s.length
  case pos =>
    have HC : Hid (askC l n s = 2) := ask_longS h2
    obtain ⟨r1, r2, r3⟩ := tk_no (l := l) (n := n) (s := s) (by rw [HC.out]; omega)
    have d2 : decide (65536 < (s.length : Int)) = true := decide_eq_true (by omega)
    rw [r1, r2, r3, HC.out]
    clear h2 hS ho r1 r2 r3
    go_enter Try.func9, Try.ntmps9
    go_wp2_with fail
    go_ret3
    exact ⟨_, _, rfl, Rd.lsNil _ _, below_allocD _ _⟩
  have d2 : decide (65536 < (s.length : Int)) = false := decide_eq_false (by omega)
  clear h2
  by_cases h0 : askC l n s = 0
  case neg =>
    obtain ⟨r1, r2, r3⟩ := tk_no h0
    rw [r1, r2, r3]
    have hne : (askC l n s != 0) = true := by simpa using h0
    clear hS ho h0 r1 r2 r3
    generalize askC l n s = r at *
    go_enter Try.func9, Try.ntmps9
    go_wp2_with (go_at_call 27; refine CA.out.mono ?_; rintro e w1 ⟨rfl, hB⟩)
    go_ret3
    exact ⟨_, _, rfl, Rd.lsNil _ _, hB.trans ((below_allocD _ _).mono hB.size)⟩
  have hp := (ask_zero h0).1
  obtain ⟨r1, r2, r3⟩ := tk_ok h0
  rw [r1, r2, r3]
  have CO : Hid (∀ W, Below w.heap.size w W → Calls Try.prog 28 #[.slice a l.length c, .int .i64 n, .string ⟨s.toArray⟩] W fun e w' => ∃ es ra rc, e = .returned (.tuple #[.slice ra (takeL l n s).length rc, .bool (takeB l n s), .int .i64 (takeC l n s)]) ∧ lks es = takeL l n s ∧ LTab W.heap.size w' es (.slice ra (takeL l n s).length rc) ∧ Below W.heap.size W w') := fun W h => takeS l n s a c B W hp.len (lks_que hp) (Rd.later hS h)
  rw [h0] at CA
  clear hS ho h0 r1 r2 r3 hp
  generalize takeL l n s = R at *
  generalize takeB l n s = R1 at *
  generalize takeC l n s = R2 at *
  go_enter Try.func9, Try.ntmps9
  go_wp2_with (first | (go_at_call 27; refine CA.out.mono ?_; rintro e w1 ⟨rfl, hB⟩) | (go_at_call 28; refine (CO.out _ hB).mono ?_; rintro e w2 ⟨es, ra, rc, rfl, hes, hT, hB2⟩))
  go_ret3
  refine ⟨ra, rc, rfl, ?_, hB.trans (hB2.mono hB.size)⟩
  have h9 := hT.own.rd'
  rw [hes] at h9
  exact h9.mono (fun _ h => h.2)
end Go.Proofs.Ythpenliecgpedaa
