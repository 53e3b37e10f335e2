import Derived.Test.YtngbhifafdbpkaaGreatZbo
import Derived.Test.YtngbhifafdbpkaaGreatZbm
import Derived.Test.YtngbhifafdbpkaaGreatZbj
import Derived.Test.YtngbhifafdbpkaaGreatZap
import Derived.Test.YtngbhifafdbpkaaGreatZao
import Derived.Test.YtngbhifafdbpkaaGreatZal
namespace Go.Proofs.YtngbhifafdbpkaaGreat
open Go.RowKit Go.Deep
set_option linter.unusedSimpArgs false
def thP (dst : List RowV) (x : At) : Bool := decide (0 ≤ rplI dst x.n)
theorem rpl_ge (l : List RowV) (id : Int) : rplI l id = -1 ∨ 0 ≤ rplI l id := by
  rcases rpl_cases l id with ⟨h, -⟩ | ⟨k, hk, h, -⟩
  · exact .inl h
  · exact .inr (by omega)
structure KMap (dst : List RowV) (W : World) (pb m mn : Nat) (D : DataW Value) (rb roff : Nat) : Prop where
  bx : W.heap[pb]? = some (.cells #[.map (some m)] 95)
  mp : W.ownsMap Tryz.prog 3 ptrR m mn D
  sh : ShM D dst rb roff dst.length
variable {dst : List RowV} {pb m mn rb roff : Nat} {D : DataW Value}
theorem KMap.frm {W W' : World} {F : Nat → Prop} (h : KMap dst W pb m mn D rb roff) (hF : Frm F W W') (h1 : ¬ F pb) (h2 : ¬ F m) : KMap dst W' pb m mn D rb roff := by
  have hp := (Array.getElem?_eq_some_iff.1 h.bx).1
  have hm := h.mp.lt
  obtain ⟨es, clock, hb, F2, hs, hD⟩ := h.mp
  exact ⟨(hF.block pb hp h1).trans h.bx, ⟨es, clock, (hF.block m hm h2).trans hb, F2, hs, hD⟩, h.sh⟩
theorem KMap.later {W W' : World} (h : KMap dst W pb m mn D rb roff) (hB : Below W.heap.size W W') : KMap dst W' pb m mn D rb roff := h.frm (F := fun _ => False) (frm_below hB) (fun h => h) (fun h => h)
set_option maxHeartbeats 1600000 in
theorem fnK (x : At) (w : World) (h : KMap dst w pb m mn D rb roff) (hid : iOK x.n) :
    Calls Tryz.prog 80 #[.agg #[.int .i64 x.k, .int .i64 x.n, .string ⟨x.t.toArray⟩], .pointer (some ⟨pb, 0, none⟩)] w fun e w' => e = .returned (.bool (!thP dst x)) ∧ Below w.heap.size w w' := by
  have HLK := Lib.hid (look_there h.mp h.sh hid)
  obtain ⟨xk, xn, xt⟩ := x
  dsimp only at *
  have hB := below_allocD w (.cells #[.int .i64 xk, .int .i64 xn, .string ⟨xt.toArray⟩] 84)
  have b1 := cell_at (o := 1) (heap_newD w (.cells #[.int .i64 xk, .int .i64 xn, .string ⟨xt.toArray⟩] 84)) rfl
  have m0 := cell_at (o := 0) (heap_keptD h.bx hB) rfl
  have HBA := Lib.hid hB
  rcases HLK.out with ⟨hr, hlk⟩ | ⟨hr, pp, hlk⟩
  · have hl := hlk _ HBA.out
    have HE : Hid (thP dst ⟨xk, xn, xt⟩ = false) := decide_eq_false (by show ¬ 0 ≤ rplI dst xn; omega)
    clear hr hlk HLK h hB hid
    go_enter Tryz.func80, Tryz.ntmps80
    go_wp2_with fail
    go_ret
    exact ⟨by rw [HE.out]; rfl, HBA.out⟩
  · have hl := hlk _ HBA.out
    have HE : Hid (thP dst ⟨xk, xn, xt⟩ = true) := decide_eq_true (by show 0 ≤ rplI dst xn; rcases rpl_ge dst xn with h9 | h9 <;> omega)
    clear hr hlk HLK h hB hid
    go_enter Tryz.func80, Tryz.ntmps80
    go_wp2_with fail
    go_ret
    exact ⟨by rw [HE.out]; rfl, HBA.out⟩
def ixN (dst : List RowV) (L : List At) : Nat := L.findIdx (fun x => !thP dst x)
def ixI (dst : List RowV) (L : List At) : Int := if ixN dst L < L.length then (ixN dst L : Int) else -1
theorem ix_le (dst : List RowV) (L : List At) : ixN dst L ≤ L.length := List.findIdx_le_length
theorem ix_at {L : List At} (h : ixN dst L < L.length) : thP dst L[ixN dst L] = false := by
  have h' : List.findIdx (fun x : At => !thP dst x) L < L.length := h
  have key : ∀ y : At, (!thP dst y) = true → thP dst y = false := fun y h => by simpa using h
  exact key _ (List.findIdx_getElem (p := fun x : At => !thP dst x) (w := h'))
theorem ix_lt {L : List At} {k : Nat} (h : k < ixN dst L) : thP dst (L[k]'(Nat.lt_of_lt_of_le h (ix_le dst L))) = true := by
  have := List.not_of_lt_findIdx (p := fun x : At => !thP dst x) h
  simpa using this
theorem ix_eq {L : List At} {k : Nat} (hk : k < L.length) (h : thP dst L[k] = false) (hn : ∀ q (hq : q < L.length), q < k → thP dst L[q] = true) : ixN dst L = k := by
  rcases Nat.lt_trichotomy (ixN dst L) k with h1 | h1 | h1
  · have h2 := ix_at (dst := dst) (L := L) (by omega); rw [hn _ (by omega) h1] at h2; cases h2
  · exact h1
  · rw [ix_lt h1] at h; cases h
theorem ix_none {L : List At} (hn : ∀ q (hq : q < L.length), thP dst L[q] = true) : ixN dst L = L.length := by
  have h1 := ix_le dst L
  by_cases h : ixN dst L < L.length
  · have h2 := ix_at h; rw [hn _ h] at h2; cases h2
  · omega
set_option maxRecDepth 1048576 in
set_option maxHeartbeats 3200000 in
theorem indexK (L : List At) (a : Option Addr) (c : Nat) (B : Nat → Prop) (w : World) (hl : L.length ≤ 1048576) (hio : ∀ x ∈ L, iOK x.n) (hA : Rd w B (dAtomS L) (.slice a L.length c)) (hM : KMap dst w pb m mn D rb roff) :
    Calls Tryz.prog 102 #[.slice a L.length c, .func (.func 80) #[] #[.pointer (some ⟨pb, 0, none⟩)]] w fun e w' => e = .returned (.int .i64 (ixI dst L)) ∧ Below w.heap.size w w' := by
  have HA := Lib.hid hA
  have HM := Lib.hid hM
  have HI := Lib.hid hio
  clear hA hM hio
  go_enter Tryz.func102, Tryz.ntmps102
  go_wp2_with fail
  go_loopw [8] (fun t wr => ∃ k : Nat, k ≤ L.length ∧ t = .int .i64 k ∧ Hid ((∀ q (h : q < L.length), q < k → thP dst L[q] = true) ∧ Below w.heap.size w wr)) (fun t _ => L.length - (intOf t).toNat)
  case atStart => exact ⟨0, Nat.zero_le _, rfl, fun q _ h => absurd h (by omega), Below.refl _ _⟩
  case round =>
    obtain ⟨k, hk, rfl, HW⟩ := hrel
    by_cases hlt : k < L.length
    case neg =>
      have hkd : decide ((k : Int) < (L.length : Int)) = false := by simp; omega
      have HR : Hid (ixI dst L = -1) := by
        have h1 : ixN dst L = L.length := ix_none (fun q h => HW.out.1 q h (by omega))
        show _ = _
        unfold ixI; rw [if_neg (by omega)]
      go_wp2_with fail
      go_ret
      exact ⟨by rw [HR.out]; rfl, HW.out.2⟩
    have hki : (k : Int) < (L.length : Int) := by omega
    obtain ⟨b, off, rfl, hat⟩ := atomsAt HA.out hlt
    obtain ⟨c0, c1, c2⟩ := hat _ HW.out.2
    have CC := Lib.hid (fnK L[k] wr (HM.out.later HW.out.2) (HI.out _ (List.getElem_mem hlt)))
    clear hat
    cases he : thP dst L[k]
    · have HR : Hid (ixI dst L = (k : Int)) := by
        have h1 : ixN dst L = k := ix_eq hlt he (fun q h1 h2 => HW.out.1 q h1 h2)
        show _ = _
        unfold ixI; rw [if_pos (by omega), h1]
      rw [he] at CC
      clear he
      generalize L[k] = y at *
      go_wp2_with (go_at_call 80; refine CC.out.mono ?_; rintro e w1 ⟨rfl, hB⟩; have HB := Lib.hid (HW.out.2.trans (hB.mono HW.out.2.size)); clear hB)
      go_ret
      exact ⟨by rw [HR.out]; rfl, HB.out⟩
    · rw [he] at CC
      have HN : Hid (∀ q (h : q < L.length), q < k + 1 → thP dst L[q] = true) := fun q h hq => by
        by_cases e : q = k
        · subst e; exact he
        · exact HW.out.1 q h (by omega)
      clear he
      generalize L[k] = y at *
      go_wp2_with (go_at_call 80; refine CC.out.mono ?_; rintro e w1 ⟨rfl, hB⟩; have HB := Lib.hid (HW.out.2.trans (hB.mono HW.out.2.size)); clear hB)
      go_roundw
      case rel => exact ⟨k + 1, by omega, by go_num, HN.out, HB.out⟩
      case measure => simp [intOf]; omega
structure Row3 (W : World) (b off n : Nat) (g : Nat → Value) : Prop where
  c : ∀ o, o < n → W.cell? ⟨b, off + o, none⟩ = some (g o)
  z : ∀ o, o < n → W.frozen? ⟨b, off + o, none⟩ = false
theorem Row3.set {W : World} {b off n : Nat} {g : Nat → Value} (h : Row3 W b off n g) {o : Nat} (ho : o < n) (v : Value) : Row3 (W.setCell ⟨b, off + o, none⟩ v) b off n (fun p => if p = o then v else g p) :=
  ⟨fun p hp => by
    by_cases e : p = o
    · subst e; rw [if_pos rfl]; exact World.cell?_setCell_same _ _ _ (h.c p ho)
    · rw [if_neg e]; exact cell_skip (h.c p hp) (by omega), fun p hp => by rw [frz_set]; exact h.z p hp⟩
theorem Row3.block {W W' : World} {b off n : Nat} {g : Nat → Value} (h : Row3 W b off n g) (hb : W'.heap[b]? = W.heap[b]?) : Row3 W' b off n g :=
  ⟨fun p hp => by have := h.c p hp; simp only [World.cell?, hb] at this ⊢; exact this, fun p hp => by have := h.z p hp; simp only [World.frozen?, hb] at this ⊢; exact this⟩
theorem frm_setCells (b : Nat) : ∀ (vs : List Value) (o : Nat) (W : World), Frm (· = b) W (W.setCells b o vs)
  | [], _, _ => Frm.refl _ _
  | v :: r, o, W => (frm_set W b o v).trans (frm_setCells b r (o + 1) _)
theorem zeroAtm (w : World) : (zeroValue 84).run Tryz.prog w = .ok (.agg #[.int .i64 0, .int .i64 0, .string ⟨#[]⟩]) w := by
  have h : (Tryz.prog.info? 84).map (fun i => i.zero) = some (some (.agg #[.int .i64 0, .int .i64 0, .string ⟨#[]⟩])) := by kernel_rfl
  obtain ⟨i, hi, hz⟩ := Option.map_eq_some_iff.1 h
  simp [zeroValue, typeInfo, hi, hz]
theorem run_clearK {W : World} {b off i n N : Nat} {g : Nat → Value} (c : Nat) (h : Row3 W b off N g) (hn : i * 3 + n * 3 ≤ N) (h0 : n ≠ 0) :
    ∃ w', (∀ ty, (Builtin.clear_ #[81] ty #[.slice (some ⟨b, off + i * 3, none⟩) n c]).run Tryz.prog W = .ok (.tuple #[]) w') ∧ Frm (· = b) W w' ∧ Row3 w' b off (i * 3) g := by
  obtain ⟨Z, hZ⟩ : ∃ Z, Z = (Builtin.zeroCells (Value.agg #[.int .i64 0, .int .i64 0, .string ⟨#[]⟩]).cells n).toList := ⟨_, rfl⟩
  have hZl : Z.length = n * 3 := by rw [hZ]; simp [Builtin.zeroCells, Value.cells]
  have hZ1 : ∀ v ∈ Z, v.oneCell' = true := by
    intro v hv
    rw [hZ] at hv
    simp only [Builtin.zeroCells, Array.toList_map, List.mem_map] at hv
    obtain ⟨q, -, rfl⟩ := hv
    have hs : (Value.agg #[.int .i64 0, .int .i64 0, .string ⟨#[]⟩]).cells.size = 3 := rfl
    rw [hs]
    rcases (by omega : q % 3 = 0 ∨ q % 3 = 1 ∨ q % 3 = 2) with e | e | e <;> rw [e] <;> rfl
  have hst := run_storeCells_cells (P := Tryz.prog) b (off + i * 3) Z 0 W (fun j hj => by
    rw [hZl] at hj
    have := h.c (i * 3 + j) (by omega)
    rw [show off + i * 3 + 0 + j = off + (i * 3 + j) by omega, this]; rfl) (fun j hj => by
    rw [hZl] at hj
    rw [show off + i * 3 + 0 + j = off + (i * 3 + j) by omega]
    exact h.z (i * 3 + j) (by omega)) hZ1
  rw [Nat.add_zero] at hst
  refine ⟨W.setCells b (off + i * 3) Z, fun ty => ?_, frm_setCells _ _ _ _, fun o ho => ?_, fun o ho => ?_⟩
  · obtain ⟨n', rfl⟩ : ∃ n', n = n' + 1 := ⟨n - 1, by omega⟩
    rw [hZ] at hst
    simp [Builtin.clear_, run_underlying Tryz.underlying81, zeroAtm, hst, hZ]
  · rw [World.cell?_setCells_out]
    · exact h.c o (by omega)
    · intro _ _
      left
      show off + o < off + i * 3
      omega
  · rw [World.frozen?_setCells]
    exact h.z o (by omega)
end Go.Proofs.YtngbhifafdbpkaaGreat
namespace Go.Proofs.YtngbhifafdbpkaaGreat
open Go.RowKit
set_option linter.unusedSimpArgs false
def tplC : List Tb → List UInt8 → Int
  | [], _ => -1
  | t :: l, s => if t.nm = s then 0 else if tplC l s < 0 then -1 else tplC l s + 1
theorem tpl_at {s : List UInt8} : ∀ {l : List Tb} {k : Nat} (h : k < l.length), l[k].nm = s → (∀ m (h : m < l.length), m < k → l[m].nm ≠ s) → tplC l s = k
  | r :: l, 0, _, e, _ => by
    have e' : r.nm = s := e
    simp [tplC, e']
  | r :: l, k + 1, h, e, hn => by
    have h0 : r.nm ≠ s := hn 0 (by simp) (by omega)
    have ih := tpl_at (l := l) (k := k) (by simpa using h) (by simpa using e) (fun m hm hk => by have := hn (m + 1) (by simpa using hm) (by omega); simpa using this)
    simp only [tplC, if_neg h0, ih]
    rw [if_neg (by omega)]; omega
theorem tpl_none {s : List UInt8} : ∀ {l : List Tb}, (∀ m (h : m < l.length), l[m].nm ≠ s) → tplC l s = -1
  | [], _ => rfl
  | r :: l, hn => by
    have h0 : r.nm ≠ s := hn 0 (by simp)
    have ih := tpl_none (l := l) (fun m hm => by have := hn (m + 1) (by simpa using hm); simpa using this)
    simp [tplC, if_neg h0, ih]
set_option maxRecDepth 100000 in
set_option maxHeartbeats 3200000 in
theorem findTS (l : List Tb) (s : List UInt8) (sa : Option Addr) (sc : Nat) (A : Nat → Prop) (w : World) (hlo : (dTableS l).le maxLen) (hT : Rd w A (dTableS l) (.slice sa l.length sc)) :
    Calls Tryz.prog 34 #[.agg #[.slice sa l.length sc], .string ⟨s.toArray⟩] w fun e w' => e = .returned (.int .i64 (tplC l s)) ∧ Below w.heap.size w w' := by
  have hll : l.length ≤ maxLen := (Ls_le.1 hlo).2.1
  unfold maxLen at hll
  have HT : Hid (∀ W, Below w.heap.size w W → Rd W A (Ls 4 dTable l) (.slice sa l.length sc)) := fun W h => Rd.later hT h
  have HX := Lib.hid (boxD 37 w #[.slice sa l.length sc])
  clear hlo hT
  go_enter Tryz.func34, Tryz.ntmps34
  have x0 := cell_at (o := 0) HX.out.1 rfl
  go_wp2_with fail
  clear x0
  go_loopw [5] (fun i wr => ∃ k : Nat, k ≤ l.length ∧ i = .int .i64 k ∧ Hid ((∀ m (h : m < l.length), m < k → l[m].nm ≠ s) ∧ BoxD 37 w wr #[.slice sa l.length sc])) (fun i _ => l.length - (intOf i).toNat)
  case atStart => exact ⟨0, Nat.zero_le _, rfl, fun m _ h => absurd h (by omega), HX.out⟩
  case round =>
    obtain ⟨k, hk, rfl, HW⟩ := hrel
    have x0 := cell_at (o := 0) HW.out.2.1 rfl
    by_cases hlt : k < l.length
    · have hki : (k : Int) < (l.length : Int) := by omega
      obtain ⟨b, off, rfl, -, hc⟩ := (HT.out _ HW.out.2.2).things k hlt
      obtain ⟨u0, c0, r0⟩ := hc 0 (by omega)
      obtain rfl : u0 = .string ⟨l[k].nm.toArray⟩ := r0
      rw [Nat.add_zero] at c0
      clear hc
      by_cases he : l[k].nm = s
      · have HP : Hid (tplC l s = k) := tpl_at hlt he (fun j h hj => HW.out.1 j h hj)
        rw [he] at c0
        clear he
        go_wp2_with fail
        go_ret
        exact ⟨ret_i HP.out.symm, HW.out.2.2⟩
      · have HN : Hid (∀ m (h : m < l.length), m < k + 1 → l[m].nm ≠ s) := fun m h hm => by
          by_cases e : m = k
          · subst e; exact he
          · exact HW.out.1 m h (by omega)
        have hne : (l[k].nm == s) = false := by simpa using he
        clear he
        generalize l[k] = x at *
        go_wp2_with fail
        go_roundw
        case rel => exact ⟨k + 1, by omega, by go_num, HN.out, HW.out.2⟩
        case measure => simp [intOf]; omega
    · have HP : Hid (tplC l s = -1) := tpl_none (fun m h => HW.out.1 m h (by omega))
      have hki : decide ((k : Int) < (l.length : Int)) = false := by simp; omega
      go_wp2_with fail
      go_ret
      exact ⟨ret_i HP.out.symm, HW.out.2.2⟩
end Go.Proofs.YtngbhifafdbpkaaGreat
