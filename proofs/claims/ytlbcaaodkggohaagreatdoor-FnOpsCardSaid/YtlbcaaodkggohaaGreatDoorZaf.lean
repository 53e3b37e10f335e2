import Derived.Test.YtlbcaaodkggohaaGreatDoorZae
import Derived.Test.YtlbcaaodkggohaaGreatDoorZad
import Derived.Deep.RegionLaw
import Derived.Deep.RegionHeld3
import Derived.Lib.Hide
import Derived.Test.YtlbcaaodkggohaaGreatDoorZTk
namespace Go.Proofs.YtlbcaaodkggohaaGreatDoor
open Go.RowKit
set_option linter.unusedSimpArgs false
def posTo (l : List At) (x : At) : Nat → Nat
 | 0 => 0
 | k + 1 => if 0 < cmpA (l.getD k atZ) x then posTo l x k else k + 1
def posA (l : List At) (x : At) : Nat := posTo l x l.length
theorem posTo_le (l : List At) (x : At) : ∀ k, posTo l x k ≤ k
 | 0 => Nat.le_refl _
 | k + 1 => by
  unfold posTo
  split
  ·
   exact Nat.le_trans (posTo_le l x k) (Nat.le_succ k)
  ·
   exact Nat.le_refl _
noncomputable def putL (l : List At) (x : At) : List At := if hasB l x then l else l.take (posA l x) ++ [x] ++ l.drop (posA l x)
theorem step_apush {ops : Array Oper} {o : Oper} {a : Act} {w : World} {K : Act → World → Prop} {Q : Exit → Act → World → Prop} {E : Prop} (hgd : o.guard = none) (s x : Operand)
  (ho : o.op = .call { callee := .builtin .append, args := #[s, x], argTypes := #[74, 74] })
  (B : Nat) (v : Value) (l l' : List At) (ad : Addr) (m cp : Nat) (hs : a.eval s = v) (hx : a.eval x = .slice (some ad) m cp) (hm : l'.length = m)
  (hb : ABuf w B v l) (hB : B ≤ w.heap.size) (hl : l.length + l'.length ≤ 1000000000) (hv : v ≠ .slice none 0 0) (hc : ∀ j u, (atCs l')[j]? = some u → w.cell? (ad.add j) = some u)
  (h : ∀ v' w', ABuf w' B v' (l ++ l') → AppA w v w' v' → v' ≠ .slice none 0 0 → K (a.put o.dst v') w') :
  if Region.wanted o (yielded ops a.tmps) = true then Oper.wp Tryz.prog o a w K Q else E := by
 rw [if_pos (by simp [Region.wanted, hgd])]; subst hm; obtain ⟨v', w', hr, h2, h3, h4⟩ := run_apush hb hB l' hl ad cp o.type hv hc; unfold Oper.wp execOp; simp only [ho, resolve, invoke, builtin, Sem.run_bind, Sem.run_pure, Result.andThen_ok, List.map_toArray, List.map_cons, List.map_nil, hs, hx, hr]; exact h v' w' h2 h3 h4
theorem news_part {w : World} {B : Nat → Prop} {b off : Nat} {l : List At} (h : Ats w B (some ⟨b, off, none⟩) l) (i n : Nat) (hn : i + n ≤ l.length) :
  ∀ j u, (atCs ((l.drop i).take n))[j]? = some u → w.cell? ((⟨b, off + i * 3, none⟩ : Addr).add j) = some u := fun j u hj => by
 have hlen : ((l.drop i).take n).length = n := by simp; omega
 have hjl := (List.getElem?_eq_some_iff.1 hj).1; rw [atCs_len, hlen] at hjl; rw [atCs_at (by rw [hlen]; exact hjl)] at hj
 injection hj with hj
 subst hj; rw [Addr.add_mid]; rcases h with h | ⟨b', off', e, -, hc⟩
 ·
  omega
 ·
  injection e with e
  injection e with e1 e2
  subst e1 e2; rw [Nat.add_assoc, hc _ (by omega)]
  congr 1
  have hi : j / 3 < n := by omega
  have e3 : (i * 3 + j) / 3 = i + j / 3 := by omega
  have e4 : (i * 3 + j) % 3 = j % 3 := by omega
  unfold atF; rw [e3, e4, at_getD (l := l) (by omega), at_getD (l := (l.drop i).take n) (by rw [hlen]; exact hi)]; simp
def OneA (W : World) (v : Value) (g : Nat) (x : At) : Prop := W.heap[g]? = some (.cells #[.int .i64 x.k, .int .i64 x.n, .string ⟨x.t.toArray⟩] 132) ∧ v.ownBlock ≠ some g
theorem OneA.push {W W' : World} {v v' : Value} {g : Nat} {x : At} (h : OneA W v g x) (ha : AppA W v W' v') : OneA W' v' g x := by
 have hlt := (Array.getElem?_eq_some_iff.1 h.1).1; refine ⟨by rw [ha.block g hlt h.2]; exact h.1, fun e => ?_⟩; rcases ha.place g e with e' | e'
 ·
  exact h.2 e'
 ·
  omega
theorem OneA.news {W : World} {v : Value} {g : Nat} {x : At} (h : OneA W v g x) : ∀ j u, (atCs [x])[j]? = some u → W.cell? ((⟨g, 0, none⟩ : Addr).add j) = some u := fun j u hj => by
 have hl := (List.getElem?_eq_some_iff.1 hj).1; rw [atCs_len] at hl; simp only [List.length_singleton, Nat.one_mul] at hl; rw [atCs_at (by simpa using hl)] at hj
 injection hj with hj
 subst hj; rw [Addr.add_mid, Nat.zero_add]; rcases (by omega : j = 0 ∨ j = 1 ∨ j = 2) with rfl | rfl | rfl
 ·
  exact cell_at (o := 0) h.1 rfl
 ·
  exact cell_at (o := 1) h.1 rfl
 ·
  exact cell_at (o := 2) h.1 rfl
theorem ABuf.mono {w : World} {B B' : Nat} {v : Value} {l : List At} (h : ABuf w B v l) (hB : B' ≤ B) : ABuf w B' v l := by
  refine ⟨h.1, ?_⟩; rcases h.2 with h0 | ⟨g, cap, cur, e1, hg1, rest⟩
  · exact .inl h0
  · exact .inr ⟨g, cap, cur, e1, Nat.le_trans hB hg1, rest⟩
theorem BoxA.drew {w W : World} {x : At} (h : BoxA w W x) : BoxA w W.drew x := h.later (Below.refl _ _).drew
theorem BoxA.al {w W : World} {x : At} (h : BoxA w W x) (o : Obj) : BoxA w (W.alloc o) x := h.later ((Below.refl _ _).alloc (Nat.le_refl _) _)
theorem begin1 {w W : World} (h : Below w.heap.size w W) : AI w W.heap.size (W.alloc (.cells #[] 132)).drew (.slice (some ⟨W.heap.size, 0, none⟩) 0 0) [] :=
 ⟨(ABuf.empty W).on (Below.refl _ _).drew, (h.alloc h.size _).drew, by show W.heap.size ≤ (W.alloc (.cells #[] 132)).heap.size; simp, h.size, by simp⟩
theorem begin2 {w W : World} (x : At) (h : Below w.heap.size w W) : AI w W.heap.size ((W.alloc (.cells #[] 132)).alloc (.cells #[.int .i64 x.k, .int .i64 x.n, .string ⟨x.t.toArray⟩] 132)).drew (.slice (some ⟨W.heap.size, 0, none⟩) 0 0) [] ∧
  OneA ((W.alloc (.cells #[] 132)).alloc (.cells #[.int .i64 x.k, .int .i64 x.n, .string ⟨x.t.toArray⟩] 132)).drew (.slice (some ⟨W.heap.size, 0, none⟩) 0 0) (W.heap.size + 1) x := by
 refine ⟨⟨((ABuf.empty W).on ((Below.refl _ _).alloc (Nat.le_refl _) _)).on (Below.refl _ _).drew, ((h.alloc h.size _).alloc (by have := h.size; simp; omega) _).drew, ?_, h.size, by simp⟩, ?_, ?_⟩
 ·
  show W.heap.size ≤ ((W.alloc (.cells #[] 132)).alloc _).heap.size
  simp; omega
 ·
  have := heap_newA (W.alloc (.cells #[] 132)) (.cells #[.int .i64 x.k, .int .i64 x.n, .string ⟨x.t.toArray⟩] 132); rw [show (W.alloc (.cells #[] 132)).heap.size = W.heap.size + 1 by simp] at this; exact this
 ·
  simp [Value.ownBlock]
theorem begin3 {w W : World} (x : At) (h : Below w.heap.size w W) : AI w W.heap.size ((W.alloc (.cells #[.int .i64 x.k, .int .i64 x.n, .string ⟨x.t.toArray⟩] 132)).alloc (.cells #[] 132)).drew (.slice (some ⟨W.heap.size + 1, 0, none⟩) 0 0) [] ∧
  OneA ((W.alloc (.cells #[.int .i64 x.k, .int .i64 x.n, .string ⟨x.t.toArray⟩] 132)).alloc (.cells #[] 132)).drew (.slice (some ⟨W.heap.size + 1, 0, none⟩) 0 0) W.heap.size x := by
 have e : (W.alloc (.cells #[.int .i64 x.k, .int .i64 x.n, .string ⟨x.t.toArray⟩] 132)).heap.size = W.heap.size + 1 := by simp
 have hb := ABuf.empty (W.alloc (.cells #[.int .i64 x.k, .int .i64 x.n, .string ⟨x.t.toArray⟩] 132)); rw [e] at hb; refine ⟨⟨(hb.mono (by omega)).on (Below.refl _ _).drew, ((h.alloc h.size _).alloc (by have := h.size; simp; omega) _).drew, ?_, h.size, by simp⟩, ?_, ?_⟩
 ·
  show W.heap.size ≤ ((W.alloc _).alloc (.cells #[] 132)).heap.size
  simp; omega
 ·
  show ((W.alloc _).alloc (.cells #[] 132)).heap[W.heap.size]? = _
  rw [Below.heap_alloc _ _ _ (by simp)]; exact heap_newA _ _
 ·
  simp [Value.ownBlock]
theorem boxed {W w1 : World} {v0 v1 : Value} {b : Nat} {o r : Obj} (ha : AppA (W.alloc r).drew v0 w1 v1) (hv : v0.ownBlock = some W.heap.size) (h : W.heap[b]? = some o) : w1.heap[b]? = some o := by
 have hlt := (Array.getElem?_eq_some_iff.1 h).1; rw [ha.block b (by show b < (W.alloc r).heap.size; simp; omega) (by rw [hv]; intro e; injection e with e; omega)]; show (W.alloc r).heap[b]? = some o
 rw [Below.heap_alloc _ _ _ hlt]; exact h
theorem AI.oneAl {w W : World} {B : Nat} {v : Value} {l : List At} (h : AI w B W v l) (x : At) : OneA (W.alloc (.cells #[.int .i64 x.k, .int .i64 x.n, .string ⟨x.t.toArray⟩] 132)) v W.heap.size x :=
 ⟨heap_newA _ _, fun e => by have := (h.buf.lt e).2; omega⟩
theorem AI.al {w W : World} {B : Nat} {v : Value} {l : List At} (h : AI w B W v l) (o : Obj) : AI w B (W.alloc o) v l := h.on ((Below.refl _ _).alloc (Nat.le_refl _) _)
set_option maxRecDepth 100000 in
set_option maxHeartbeats 6400000 in
theorem putS (l : List At) (x : At) (b off c : Nat) (S : Nat) (w : World) (hl : l.length ≤ 1048576) (hw : S ≤ w.heap.size) (hA : Ats w (· < S) (some ⟨b, off, none⟩) l) (hcap : l.length ≤ c) (hh : hasB l x = false) :
  Calls Tryz.prog 95 #[.slice (some ⟨b, off, none⟩) l.length c, .agg #[.int .i64 x.k, .int .i64 x.n, .string ⟨x.t.toArray⟩]] w fun e w' => ∃ v B, e = .returned v ∧ AI w B w' v (l.take (posA l x) ++ [x] ++ l.drop (posA l x)) := by
 have HA : Hid (Ats w (· < S) (some ⟨b, off, none⟩) l) := hA
 have HS : Hid (∀ W, Below w.heap.size w W → Calls Tryz.prog 109 #[.slice (some ⟨b, off, none⟩) l.length c, .agg #[.int .i64 x.k, .int .i64 x.n, .string ⟨x.t.toArray⟩]] W fun e w' => e = .returned (.bool false) ∧ Below W.heap.size W w') := fun W h => by
  have h1 := hasS l x (some ⟨b, off, none⟩) c _ W (by unfold maxLen; omega) (hA.below (h.mono hw)); rw [hh] at h1; exact h1
 have hx0 : BoxA w (w.alloc (.cells #[.int .i64 x.k, .int .i64 x.n, .string ⟨x.t.toArray⟩] 132)) x := ⟨heap_newA _ _, (Below.refl _ _).alloc (Nat.le_refl _) _⟩; have HX0 : Hid (BoxA w (w.alloc (.cells #[.int .i64 x.k, .int .i64 x.n, .string ⟨x.t.toArray⟩] 132)) x) := hx0; clear hA hh hx0; (go_enter Tryz.func95, Tryz.ntmps95); (go_wp2_with (go_at_call 109; refine (HS.out _ HX0.out.2).mono ?_; rintro e w1 ⟨rfl, hB1⟩; have HX1 : Hid (BoxA w w1 x) := HX0.out.later hB1; clear hB1)); go_loopw [5] (fun i wr => ∃ k : Nat, k ≤ l.length ∧ i = .int .i64 k ∧ Hid (posTo l x k = posA l x ∧ BoxA w wr x)) (fun i _ => (intOf i).toNat)
 case atStart => exact ⟨l.length, Nat.le_refl _, rfl, rfl, HX1.out⟩
 case round =>
  obtain ⟨k, hk, rfl, HW⟩ := hrel; have hx := HW.out.2
  by_cases h0 : k = 0
  case pos =>
   have HP : Hid (posA l x = k) := by show posA l x = k; rw [← HW.out.1, h0]; rfl
   have CE : Hid (∀ W, BoxA w W x → W.cell? ⟨w.heap.size, 0, none⟩ = some (.int .i64 x.k) ∧ W.cell? ⟨w.heap.size, 1, none⟩ = some (.int .i64 x.n) ∧ W.cell? ⟨w.heap.size, 2, none⟩ = some (.string ⟨x.t.toArray⟩)) := fun W h => ⟨cell_at (o := 0) h.1 rfl, cell_at (o := 1) h.1 rfl, cell_at (o := 2) h.1 rfl⟩
   have g1 : decide (0 < (k : Int)) = false := decide_eq_false (by omega); have g1' : decide (0 < k) = false := decide_eq_false (by omega); clear h0; (go_wp2_with fail); refine wp_region_held_drew (S := (fun W => W.cell? ⟨w.heap.size, 0, none⟩ = some (.int .i64 x.k) ∧ W.cell? ⟨w.heap.size, 1, none⟩ = some (.int .i64 x.n) ∧ W.cell? ⟨w.heap.size, 2, none⟩ = some (.string ⟨x.t.toArray⟩))) (by kernel_rfl) ?_ (fun hHeld => ?_)
   ·
    (first | exact CE.out _ hx | exact CE.out _ hx.drew)
   refine tkB (i := 0) ?_; refine tkB (i := 1) ?_; refine tkB (i := 2) ?_; refine tkV (i := 3) ?_; refine tkV (i := 4) ?_; refine tkV (i := 5) ?_; refine tkV (i := 6) ?_; refine tkV (i := 7) ?_; refine tkV (i := 8) ?_; refine tkV (i := 9) ?_; refine tkV (i := 10) ?_; refine tkB (i := 11) ?_; refine wpAnyH_done (by kernel_rfl) ?_ _; have hx := hx.drew; clear CE HW g1 g1'; generalize wr.drew = W at *; have K1 := Lib.hid (begin1 hx.2); have K2 := Lib.hid (begin2 x hx.2); have K3 := Lib.hid (begin3 x hx.2); obtain ⟨x0, x1, x2⟩ := ck3 0 1 2 hx.1; have y0 := fun o => cell_at (o := 0) (hx.al o).1 rfl
   have y1 := fun o => cell_at (o := 1) (hx.al o).1 rfl
   have y2 := fun o => cell_at (o := 2) (hx.al o).1 rfl
   have NT : Hid (∀ W', Below w.heap.size w W' → ∀ j u, (atCs (l.take k))[j]? = some u → W'.cell? ((⟨b, off, none⟩ : Addr).add j) = some u) := fun W' h => by
    have := news_part (HA.out.below (h.mono hw)) 0 k (by omega)
    simpa using this
   have ND : Hid (∀ W', Below w.heap.size w W' → ∀ j u, (atCs (l.drop k))[j]? = some u → W'.cell? ((⟨b, off + k * 3, none⟩ : Addr).add j) = some u) := fun W' h => by
    have := news_part (HA.out.below (h.mono hw)) k (l.length - k) (by omega); rw [List.take_of_length_le (by simp)] at this; exact this
   have BX : Hid (∀ W', Below W.heap.size W W' → BoxA w W' x) := fun W' h => hx.later h
   have lt1 : (l.take k).length = k := by simp; omega
   have lt2 : (l.drop k).length = l.length - k := by simp
   have LT : Hid ((l.take k).length = k ∧ (l.drop k).length = l.length - k ∧ l.length ≤ 1048576 ∧ k ≤ l.length) := ⟨lt1, lt2, hl, hk⟩; clear lt1 lt2; generalize hlt' : l.take k = lT at *; generalize hld' : l.drop k = lD at *; have HE : Hid (l.take (posA l x) ++ [x] ++ l.drop (posA l x) = lT ++ [x] ++ lD) := by show _ = _; rw [HP.out, hlt', hld']
   clear hlt' hld'
   have HCK : Hid (c = k → lD = []) := fun e => by
    have h1 := LT.out; exact List.eq_nil_of_length_eq_zero (by omega)
   have hkc : (k : Int) ≤ (c : Int) := by omega
   have hkl : (k : Int) ≤ (l.length : Int) := by omega
   have hlc : (l.length : Int) ≤ (c : Int) := by omega
   by_cases hck : c = k
   case pos =>
    have HLD := HCK.out hck; subst hck; go_wp2_with fail
    go_region_law (first
     | (refine step_apush rfl (.tmp 26) (.tmp 29) rfl W.heap.size _ [] lT ⟨b, off, none⟩ c c rfl rfl LT.out.1 K1.out.buf K1.out.le ?_ K1.out.no (NT.out _ K1.out.bel) ?_; (have hq := LT.out; simp; omega); intro v1 w1 hbq haq hnq; have H1 := K1.out.push hbq haq hnq; rw [List.nil_append] at H1; have bb := boxed haq rfl hx.1; obtain ⟨z0, z1, z2⟩ := ck3 0 1 2 bb; clear hbq haq hnq)
     | (refine step_apush rfl (.tmp 26) (.tmp 29) rfl W.heap.size _ [] lT ⟨b, off, none⟩ c c rfl rfl LT.out.1 K2.out.1.buf K2.out.1.le ?_ K2.out.1.no (NT.out _ K2.out.1.bel) ?_; (have hq := LT.out; simp; omega); intro v1 w1 hbq haq hnq; have H1 := K2.out.1.push hbq haq hnq; rw [List.nil_append] at H1; have hO := K2.out.2.push haq; clear hbq haq hnq)
     | (refine step_apush rfl (.tmp 26) (.tmp 29) rfl W.heap.size _ [] lT ⟨b, off, none⟩ c c rfl rfl LT.out.1 K3.out.1.buf K3.out.1.le ?_ K3.out.1.no (NT.out _ K3.out.1.bel) ?_; (have hq := LT.out; simp; omega); intro v1 w1 hbq haq hnq; have H1 := K3.out.1.push hbq haq hnq; rw [List.nil_append] at H1; have hO := K3.out.2.push haq; clear hbq haq hnq)
     | (refine step_apush rfl (.tmp 30) (.tmp 32) rfl W.heap.size v1 lT [x] ⟨_, 0, none⟩ 1 1 rfl rfl rfl H1.buf H1.le ?_ H1.no hO.news ?_; (have hq := LT.out; simp; omega); intro v2 w2 hbq haq hnq; have H2 := H1.push hbq haq hnq; clear hbq haq hnq)
     | (refine step_apush rfl (.tmp 30) (.tmp 32) rfl W.heap.size v1 lT [x] ⟨w1.heap.size, 0, none⟩ 1 1 rfl rfl rfl (H1.al _).buf (H1.al _).le ?_ H1.no (H1.oneAl x).news ?_; (have hq := LT.out; simp; omega); intro v2 w2 hbq haq hnq; have H2 := (H1.al _).push hbq haq hnq; clear hbq haq hnq)
     | (refine step_apush rfl (.tmp 33) (.tmp 36) rfl W.heap.size v2 (lT ++ [x]) lD ⟨b, off, none⟩ 0 _ rfl rfl (by rw [HLD]; rfl) H2.buf H2.le ?_ H2.no ?_ ?_; (have hq := LT.out; simp; omega); (rw [HLD]; intro j u hj; simp [atCs] at hj); intro v3 w3 hbq haq hnq; have H3 := H2.push hbq haq hnq; clear hbq haq hnq))
    all_goals
     (go_wp2_with fail); go_ret; exact ⟨v3, _, rfl, by rw [HE.out]; exact H3⟩
   case neg =>
    go_wp2_with fail
    go_region_law (first
     | (refine step_apush rfl (.tmp 26) (.tmp 29) rfl W.heap.size _ [] lT ⟨b, off, none⟩ k c rfl rfl LT.out.1 K1.out.buf K1.out.le ?_ K1.out.no (NT.out _ K1.out.bel) ?_; (have hq := LT.out; simp; omega); intro v1 w1 hbq haq hnq; have H1 := K1.out.push hbq haq hnq; rw [List.nil_append] at H1; have bb := boxed haq rfl hx.1; obtain ⟨z0, z1, z2⟩ := ck3 0 1 2 bb; clear hbq haq hnq)
     | (refine step_apush rfl (.tmp 26) (.tmp 29) rfl W.heap.size _ [] lT ⟨b, off, none⟩ k c rfl rfl LT.out.1 K2.out.1.buf K2.out.1.le ?_ K2.out.1.no (NT.out _ K2.out.1.bel) ?_; (have hq := LT.out; simp; omega); intro v1 w1 hbq haq hnq; have H1 := K2.out.1.push hbq haq hnq; rw [List.nil_append] at H1; have hO := K2.out.2.push haq; clear hbq haq hnq)
     | (refine step_apush rfl (.tmp 26) (.tmp 29) rfl W.heap.size _ [] lT ⟨b, off, none⟩ k c rfl rfl LT.out.1 K3.out.1.buf K3.out.1.le ?_ K3.out.1.no (NT.out _ K3.out.1.bel) ?_; (have hq := LT.out; simp; omega); intro v1 w1 hbq haq hnq; have H1 := K3.out.1.push hbq haq hnq; rw [List.nil_append] at H1; have hO := K3.out.2.push haq; clear hbq haq hnq)
     | (refine step_apush rfl (.tmp 30) (.tmp 32) rfl W.heap.size v1 lT [x] ⟨_, 0, none⟩ 1 1 rfl rfl rfl H1.buf H1.le ?_ H1.no hO.news ?_; (have hq := LT.out; simp; omega); intro v2 w2 hbq haq hnq; have H2 := H1.push hbq haq hnq; clear hbq haq hnq)
     | (refine step_apush rfl (.tmp 30) (.tmp 32) rfl W.heap.size v1 lT [x] ⟨w1.heap.size, 0, none⟩ 1 1 rfl rfl rfl (H1.al _).buf (H1.al _).le ?_ H1.no (H1.oneAl x).news ?_; (have hq := LT.out; simp; omega); intro v2 w2 hbq haq hnq; have H2 := (H1.al _).push hbq haq hnq; clear hbq haq hnq)
     | (refine step_apush rfl (.tmp 33) (.tmp 36) rfl W.heap.size v2 (lT ++ [x]) lD ⟨b, off + k * 3, none⟩ (l.length - k) _ rfl rfl LT.out.2.1 H2.buf H2.le ?_ H2.no ?_ ?_; (have hq := LT.out; simp; omega); exact ND.out _ H2.bel; intro v3 w3 hbq haq hnq; have H3 := H2.push hbq haq hnq; clear hbq haq hnq))
    all_goals
     (go_wp2_with fail); go_ret; exact ⟨v3, _, rfl, by rw [HE.out]; exact H3⟩
  obtain ⟨m, hkm'⟩ : ∃ m, k = m + 1 := ⟨k - 1, by omega⟩; have hkm : (k : Int) - 1 = (m : Int) := by omega
  have hmlt : m < l.length := by omega
  have HK : Hid (k = m + 1) := hkm'; have hm1 : (m : Int) < (l.length : Int) := by omega
  have hwm : IntKind.i64.wrap (m : Int) = (m : Int) := by rw [IntKind.wrap_i64]; omega
  have g1 : decide (0 < (k : Int)) = true := decide_eq_true (by omega); have g1' : decide (0 < k) = true := decide_eq_true (by omega)
  have HPT : Hid (posTo l x k = if 0 < cmpA l[m] x then posTo l x m else k) := by
   show posTo l x k = _
   rw [hkm', posTo, at_getD hmlt]
  have CE : Hid (∀ W, BoxA w W x → W.cell? ⟨w.heap.size, 0, none⟩ = some (.int .i64 x.k) ∧ W.cell? ⟨w.heap.size, 1, none⟩ = some (.int .i64 x.n) ∧ W.cell? ⟨w.heap.size, 2, none⟩ = some (.string ⟨x.t.toArray⟩) ∧ W.cell? ⟨b, off + m * 3, none⟩ = some (.int .i64 l[m].k) ∧ W.cell? ⟨b, off + m * 3 + 1, none⟩ = some (.int .i64 l[m].n) ∧ W.cell? ⟨b, off + m * 3 + 2, none⟩ = some (.string ⟨l[m].t.toArray⟩)) := fun W h => ⟨cell_at (o := 0) h.1 rfl, cell_at (o := 1) h.1 rfl, cell_at (o := 2) h.1 rfl, (HA.out.below (h.2.mono hw)).three m hmlt⟩
  have OR : Hid (∀ W, BoxA w W x → Calls Tryz.prog 105 #[.agg #[.int .i64 l[m].k, .int .i64 l[m].n, .string ⟨l[m].t.toArray⟩], .agg #[.int .i64 x.k, .int .i64 x.n, .string ⟨x.t.toArray⟩]] W fun e w' => e = .returned (.int .i64 (cmpA l[m] x)) ∧ BoxA w w' x) := fun W h => (orderS _ _ W).mono (fun e w' ⟨he, hB⟩ => ⟨he, h.later hB⟩)
  generalize l[m] = y at *; clear h0 hkm'
  by_cases hc : 0 < cmpA y x
  case pos =>
   have HN : Hid (posTo l x m = posA l x) := by
    have h1 := HPT.out; rw [if_pos hc, HW.out.1] at h1; exact h1.symm
   have hq : decide (0 < cmpA y x) = true := decide_eq_true hc; clear hc HPT HW; generalize cmpA y x = q at *; (go_wp2_with fail); refine wp_region_held_drew (S := (fun W => W.cell? ⟨w.heap.size, 0, none⟩ = some (.int .i64 x.k) ∧ W.cell? ⟨w.heap.size, 1, none⟩ = some (.int .i64 x.n) ∧ W.cell? ⟨w.heap.size, 2, none⟩ = some (.string ⟨x.t.toArray⟩) ∧ W.cell? ⟨b, off + m * 3, none⟩ = some (.int .i64 y.k) ∧ W.cell? ⟨b, off + m * 3 + 1, none⟩ = some (.int .i64 y.n) ∧ W.cell? ⟨b, off + m * 3 + 2, none⟩ = some (.string ⟨y.t.toArray⟩))) (by kernel_rfl) ?_ (fun hHeld => ?_)
   ·
    (first | exact CE.out _ hx | exact CE.out _ hx.drew)
   refine tkB (i := 0) ?_; refine tkB (i := 1) ?_; refine tkB (i := 2) ?_; refine tkB (i := 3) ?_; refine tkB (i := 4) ?_; refine tkB (i := 5) ?_; refine tkB (i := 6) ?_; refine tkB (i := 7) ?_; refine tkB (i := 8) ?_; refine tkR (i := 9) (fun K hK => ?_); go_simp
   (go_at_call 105; (with_reducible refine (OR.out _ ?_).mono ?_); (first | exact hx | exact hx.drew); rintro e w2 ⟨rfl, hx⟩)
   refine hK.out _ _ ?_ (fun hHeld => ?_)
   ·
    (first | exact CE.out _ hx | exact CE.out _ hx.drew)
   clear hK K; (try simp only [Act.put, tkS]); refine tkB (i := 10) ?_; refine tkB (i := 11) ?_; refine wpAnyH_done (by kernel_rfl) ?_ _; (go_wp2_with fail); go_roundw
   case rel => exact ⟨m, by omega, by first | rfl | go_num, HN.out, hx⟩
   case measure => have h1 := HK.out; simp [intOf]; omega
  case neg =>
   have HP : Hid (posA l x = k) := by
    have h1 := HPT.out; rw [if_neg hc, HW.out.1] at h1; exact h1
   have hq : decide (0 < cmpA y x) = false := decide_eq_false hc; clear hc HPT HW; generalize cmpA y x = q at *; (go_wp2_with fail); refine wp_region_held_drew (S := (fun W => W.cell? ⟨w.heap.size, 0, none⟩ = some (.int .i64 x.k) ∧ W.cell? ⟨w.heap.size, 1, none⟩ = some (.int .i64 x.n) ∧ W.cell? ⟨w.heap.size, 2, none⟩ = some (.string ⟨x.t.toArray⟩) ∧ W.cell? ⟨b, off + m * 3, none⟩ = some (.int .i64 y.k) ∧ W.cell? ⟨b, off + m * 3 + 1, none⟩ = some (.int .i64 y.n) ∧ W.cell? ⟨b, off + m * 3 + 2, none⟩ = some (.string ⟨y.t.toArray⟩))) (by kernel_rfl) ?_ (fun hHeld => ?_)
   ·
    (first | exact CE.out _ hx | exact CE.out _ hx.drew)
   refine tkB (i := 0) ?_; refine tkB (i := 1) ?_; refine tkB (i := 2) ?_; refine tkB (i := 3) ?_; refine tkB (i := 4) ?_; refine tkB (i := 5) ?_; refine tkB (i := 6) ?_; refine tkB (i := 7) ?_; refine tkB (i := 8) ?_; refine tkR (i := 9) (fun K hK => ?_); go_simp
   (go_at_call 105; (with_reducible refine (OR.out _ ?_).mono ?_); (first | exact hx | exact hx.drew); rintro e w2 ⟨rfl, hx⟩)
   refine hK.out _ _ ?_ (fun hHeld => ?_)
   ·
    (first | exact CE.out _ hx | exact CE.out _ hx.drew)
   clear hK K; (try simp only [Act.put, tkS]); refine tkB (i := 10) ?_; refine tkB (i := 11) ?_; refine wpAnyH_done (by kernel_rfl) ?_ _; clear CE OR g1 g1' hq hkm hm1 hwm; generalize w2 = W at *; have K1 := Lib.hid (begin1 hx.2); have K2 := Lib.hid (begin2 x hx.2); have K3 := Lib.hid (begin3 x hx.2); obtain ⟨x0, x1, x2⟩ := ck3 0 1 2 hx.1; have y0 := fun o => cell_at (o := 0) (hx.al o).1 rfl
   have y1 := fun o => cell_at (o := 1) (hx.al o).1 rfl
   have y2 := fun o => cell_at (o := 2) (hx.al o).1 rfl
   have NT : Hid (∀ W', Below w.heap.size w W' → ∀ j u, (atCs (l.take k))[j]? = some u → W'.cell? ((⟨b, off, none⟩ : Addr).add j) = some u) := fun W' h => by
    have := news_part (HA.out.below (h.mono hw)) 0 k (by omega)
    simpa using this
   have ND : Hid (∀ W', Below w.heap.size w W' → ∀ j u, (atCs (l.drop k))[j]? = some u → W'.cell? ((⟨b, off + k * 3, none⟩ : Addr).add j) = some u) := fun W' h => by
    have := news_part (HA.out.below (h.mono hw)) k (l.length - k) (by omega); rw [List.take_of_length_le (by simp)] at this; exact this
   have BX : Hid (∀ W', Below W.heap.size W W' → BoxA w W' x) := fun W' h => hx.later h
   have lt1 : (l.take k).length = k := by simp; omega
   have lt2 : (l.drop k).length = l.length - k := by simp
   have LT : Hid ((l.take k).length = k ∧ (l.drop k).length = l.length - k ∧ l.length ≤ 1048576 ∧ k ≤ l.length) := ⟨lt1, lt2, hl, hk⟩; clear lt1 lt2; generalize hlt' : l.take k = lT at *; generalize hld' : l.drop k = lD at *; have HE : Hid (l.take (posA l x) ++ [x] ++ l.drop (posA l x) = lT ++ [x] ++ lD) := by show _ = _; rw [HP.out, hlt', hld']
   clear hlt' hld'
   have HCK : Hid (c = k → lD = []) := fun e => by
    have h1 := LT.out; exact List.eq_nil_of_length_eq_zero (by omega)
   have hkc : (k : Int) ≤ (c : Int) := by omega
   have hkl : (k : Int) ≤ (l.length : Int) := by omega
   have hlc : (l.length : Int) ≤ (c : Int) := by omega
   by_cases hck : c = k
   case pos =>
    have HLD := HCK.out hck; subst hck; go_wp2_with fail
    go_region_law (first
     | (refine step_apush rfl (.tmp 26) (.tmp 29) rfl W.heap.size _ [] lT ⟨b, off, none⟩ c c rfl rfl LT.out.1 K1.out.buf K1.out.le ?_ K1.out.no (NT.out _ K1.out.bel) ?_; (have hq := LT.out; simp; omega); intro v1 w1 hbq haq hnq; have H1 := K1.out.push hbq haq hnq; rw [List.nil_append] at H1; have bb := boxed haq rfl hx.1; obtain ⟨z0, z1, z2⟩ := ck3 0 1 2 bb; clear hbq haq hnq)
     | (refine step_apush rfl (.tmp 26) (.tmp 29) rfl W.heap.size _ [] lT ⟨b, off, none⟩ c c rfl rfl LT.out.1 K2.out.1.buf K2.out.1.le ?_ K2.out.1.no (NT.out _ K2.out.1.bel) ?_; (have hq := LT.out; simp; omega); intro v1 w1 hbq haq hnq; have H1 := K2.out.1.push hbq haq hnq; rw [List.nil_append] at H1; have hO := K2.out.2.push haq; clear hbq haq hnq)
     | (refine step_apush rfl (.tmp 26) (.tmp 29) rfl W.heap.size _ [] lT ⟨b, off, none⟩ c c rfl rfl LT.out.1 K3.out.1.buf K3.out.1.le ?_ K3.out.1.no (NT.out _ K3.out.1.bel) ?_; (have hq := LT.out; simp; omega); intro v1 w1 hbq haq hnq; have H1 := K3.out.1.push hbq haq hnq; rw [List.nil_append] at H1; have hO := K3.out.2.push haq; clear hbq haq hnq)
     | (refine step_apush rfl (.tmp 30) (.tmp 32) rfl W.heap.size v1 lT [x] ⟨_, 0, none⟩ 1 1 rfl rfl rfl H1.buf H1.le ?_ H1.no hO.news ?_; (have hq := LT.out; simp; omega); intro v2 w2 hbq haq hnq; have H2 := H1.push hbq haq hnq; clear hbq haq hnq)
     | (refine step_apush rfl (.tmp 30) (.tmp 32) rfl W.heap.size v1 lT [x] ⟨w1.heap.size, 0, none⟩ 1 1 rfl rfl rfl (H1.al _).buf (H1.al _).le ?_ H1.no (H1.oneAl x).news ?_; (have hq := LT.out; simp; omega); intro v2 w2 hbq haq hnq; have H2 := (H1.al _).push hbq haq hnq; clear hbq haq hnq)
     | (refine step_apush rfl (.tmp 33) (.tmp 36) rfl W.heap.size v2 (lT ++ [x]) lD ⟨b, off, none⟩ 0 _ rfl rfl (by rw [HLD]; rfl) H2.buf H2.le ?_ H2.no ?_ ?_; (have hq := LT.out; simp; omega); (rw [HLD]; intro j u hj; simp [atCs] at hj); intro v3 w3 hbq haq hnq; have H3 := H2.push hbq haq hnq; clear hbq haq hnq))
    all_goals
     (go_wp2_with fail); go_ret; exact ⟨v3, _, rfl, by rw [HE.out]; exact H3⟩
   case neg =>
    go_wp2_with fail
    go_region_law (first
     | (refine step_apush rfl (.tmp 26) (.tmp 29) rfl W.heap.size _ [] lT ⟨b, off, none⟩ k c rfl rfl LT.out.1 K1.out.buf K1.out.le ?_ K1.out.no (NT.out _ K1.out.bel) ?_; (have hq := LT.out; simp; omega); intro v1 w1 hbq haq hnq; have H1 := K1.out.push hbq haq hnq; rw [List.nil_append] at H1; have bb := boxed haq rfl hx.1; obtain ⟨z0, z1, z2⟩ := ck3 0 1 2 bb; clear hbq haq hnq)
     | (refine step_apush rfl (.tmp 26) (.tmp 29) rfl W.heap.size _ [] lT ⟨b, off, none⟩ k c rfl rfl LT.out.1 K2.out.1.buf K2.out.1.le ?_ K2.out.1.no (NT.out _ K2.out.1.bel) ?_; (have hq := LT.out; simp; omega); intro v1 w1 hbq haq hnq; have H1 := K2.out.1.push hbq haq hnq; rw [List.nil_append] at H1; have hO := K2.out.2.push haq; clear hbq haq hnq)
     | (refine step_apush rfl (.tmp 26) (.tmp 29) rfl W.heap.size _ [] lT ⟨b, off, none⟩ k c rfl rfl LT.out.1 K3.out.1.buf K3.out.1.le ?_ K3.out.1.no (NT.out _ K3.out.1.bel) ?_; (have hq := LT.out; simp; omega); intro v1 w1 hbq haq hnq; have H1 := K3.out.1.push hbq haq hnq; rw [List.nil_append] at H1; have hO := K3.out.2.push haq; clear hbq haq hnq)
     | (refine step_apush rfl (.tmp 30) (.tmp 32) rfl W.heap.size v1 lT [x] ⟨_, 0, none⟩ 1 1 rfl rfl rfl H1.buf H1.le ?_ H1.no hO.news ?_; (have hq := LT.out; simp; omega); intro v2 w2 hbq haq hnq; have H2 := H1.push hbq haq hnq; clear hbq haq hnq)
     | (refine step_apush rfl (.tmp 30) (.tmp 32) rfl W.heap.size v1 lT [x] ⟨w1.heap.size, 0, none⟩ 1 1 rfl rfl rfl (H1.al _).buf (H1.al _).le ?_ H1.no (H1.oneAl x).news ?_; (have hq := LT.out; simp; omega); intro v2 w2 hbq haq hnq; have H2 := (H1.al _).push hbq haq hnq; clear hbq haq hnq)
     | (refine step_apush rfl (.tmp 33) (.tmp 36) rfl W.heap.size v2 (lT ++ [x]) lD ⟨b, off + k * 3, none⟩ (l.length - k) _ rfl rfl LT.out.2.1 H2.buf H2.le ?_ H2.no ?_ ?_; (have hq := LT.out; simp; omega); exact ND.out _ H2.bel; intro v3 w3 hbq haq hnq; have H3 := H2.push hbq haq hnq; clear hbq haq hnq))
    all_goals
     (go_wp2_with fail); go_ret; exact ⟨v3, _, rfl, by rw [HE.out]; exact H3⟩
end Go.Proofs.YtlbcaaodkggohaaGreatDoor
