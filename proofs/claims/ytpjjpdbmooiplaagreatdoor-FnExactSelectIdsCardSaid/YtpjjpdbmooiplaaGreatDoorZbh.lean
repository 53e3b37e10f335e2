import Derived.Test.YtpjjpdbmooiplaaGreatDoorZbg
import Derived.Test.YtpjjpdbmooiplaaGreatDoorZbf
import Derived.Test.YtpjjpdbmooiplaaGreatDoorZam
import Derived.Test.YtpjjpdbmooiplaaGreatDoorZTk
namespace Go.Proofs.YtpjjpdbmooiplaaGreatDoor
open Go.RowKit
set_option linter.unusedSimpArgs false
theorem rd_flat {w w' : World} : ∀ {d : D} {B B' : Nat → Prop} {v : Value}, d.flat → Rd w B d v → Own w' d B' v
  | .i _, _, _, _, _, h => h
  | .s _, _, _, _, _, h => h
  | .b _, _, _, _, _, h => h
theorem SG.ownF {w : World} {base : Nat} {G : Nat → Prop} {T : TypeId} {n : Nat} {f : Nat → Nat → D} {k : Nat} {v : Value} (h : SG w base G T n f k v) (hn : 0 < n) (hf : ∀ i j, (f i j).flat) : Own w (.l n k f) (fun c => base ≤ c ∧ c < w.heap.size) v := by
  obtain ⟨xs, h1, h2⟩ := h
  rcases h1.2 with ⟨rfl, rfl⟩ | ⟨g, cap, cur, rfl, hg, hh, r1, r2, r3, r4⟩
  · exact ⟨none, 0, rfl, .inl rfl⟩
  · refine ⟨_, _, rfl, ?_⟩
    by_cases h0 : k = 0
    · exact .inl h0
    · refine .inr ⟨g, 0, fun _ _ _ => False, rfl, ⟨hg, (Array.getElem?_eq_some_iff.1 hh).1⟩, hn, fun _ _ _ h => h.elim, fun _ _ _ _ _ h => h.elim, fun i j hi hj => ?_⟩
      obtain ⟨u, hu, hr⟩ := h2 i j hi hj
      have hlt := spot_lt hi hj
      refine ⟨u, ?_, ?_, rd_flat (hf i j) hr⟩
      · rw [← r4, List.getElem?_take_of_lt hlt, Array.getElem?_toList] at hu
        rw [Nat.zero_add]
        simp [World.cell?, hh, hu]
      · simp [World.frozen?, hh]
theorem Own.congr {w : World} {B : Nat → Prop} {n m : Nat} {f g : Nat → Nat → D} {v : Value} (h : Own w (.l n m f) B v) (e : ∀ i j, i < m → j < n → f i j = g i j) : Own w (.l n m g) B v := by
  obtain ⟨a, c, hv, h⟩ := h
  refine ⟨a, c, hv, h.imp id ?_⟩
  rintro ⟨b, off, X, ha, hb, hn, hX, hd, hc⟩
  exact ⟨b, off, X, ha, hb, hn, hX, hd, fun i j hi hj => by rw [← e i j hi hj]; exact hc i j hi hj⟩
theorem own_ints {w : World} {base : Nat} {G : Nat → Prop} {T : TypeId} {F : List Int} {v : Value} (h : SG w base G T 1 (fun i _ => .i (F.getD i 0)) F.length v) : Own w (dIntS F) (fun c => base ≤ c ∧ c < w.heap.size) v :=
  (h.ownF (by omega) (fun _ _ => trivial)).congr (fun i j hi hj => by
    rw [lsF_at hi]
    show D.i (F.getD i 0) = D.i F[i]
    rw [List.getD_eq_getElem?_getD, List.getElem?_eq_getElem hi]; rfl)
theorem CHS.firstS (w : World) (cs : Array Value) (F : List Int) : CHS w ((w.alloc (.cells cs 39)).alloc (.cells #[] 3)) cs F 0 (.slice (some ⟨w.heap.size + 1, 0, none⟩) 0 0) := by
  have h := heap_newD (w.alloc (.cells cs 39)) (.cells #[] 3)
  rw [size_allocD] at h
  exact ⟨heap_keptD (heap_newD _ _) (below_allocD _ _), SG.start (Nat.le_refl _) h, fun g hg => by simp [Value.ownBlock] at hg; omega, (below_allocD _ _).trans ((below_allocD _ _).mono (by simp))⟩
theorem chosen_le (t : Tb) (rows : List RowV) (list : List CondV) : (chosen t rows list).length ≤ rows.length := by
  unfold chosen
  rw [List.length_map]
  exact List.length_filter_le _ _
set_option maxRecDepth 100000 in
set_option maxHeartbeats 12800000 in
theorem selS (t : Tb) (ca : Option Addr) (cc : Nat) (ua : Option Addr) (uc : Nat) (A : Nat → Prop) (rows : List RowV) (ra : Option Addr) (rc : Nat) (R : Nat → Prop) (list : List CondV) (a : Option Addr) (c : Nat) (B : Nat → Prop) (w : World) (hto : t.ok) (ho : (dCondS list).le 1048576) (hr : (dRowS rows).le 1048576) (hq : ∀ i (h : i < rows.length) k (h' : k < list.length), Asks t rows[i] list[k]) (hT : t.Has w A ca ua) (hR : Rd w R (dRowS rows) (.slice ra rows.length rc)) (hL : Rd w B (dCondS list) (.slice a list.length c)) :
    Calls Tryz.prog 65 #[.agg #[.string ⟨t.nm.toArray⟩, .slice ca t.cols.length cc, .slice ua t.uq.length uc, .bool t.rt], .slice ra rows.length rc, .slice a list.length c] w (ChAns w (chosen t rows list)) := by
  have HL : Hid (∀ W, Below w.heap.size w W → Rd W B (dCondS list) (.slice a list.length c)) := fun W h => Rd.later hL h
  have HR : Hid (∀ W, Below w.heap.size w W → Rd W R (Ls 2 dRow rows) (.slice ra rows.length rc)) := fun W h => Rd.later hR h
  have HT : Hid (t.ok ∧ ∀ W, Below w.heap.size w W → t.Has W A ca ua) := ⟨hto, fun W h => hT.later h⟩
  have hrm : (dRowS rows).le maxLen := D.le.mono (by unfold maxLen; omega) _ hr
  have HO := Lib.hid (And.intro ho (And.intro hrm hq))
  have hrl : rows.length ≤ 1048576 := (Ls_le.1 hr).2.1
  have HF : ∃ F : List Int, Hid (chosen t rows list = F) := ⟨_, rfl⟩
  obtain ⟨F, HF⟩ := HF
  rw [HF.out]
  have HX := Lib.hid (CHS.firstS w #[.string ⟨t.nm.toArray⟩, .slice ca t.cols.length cc, .slice ua t.uq.length uc, .bool t.rt] F)
  obtain ⟨iI, hiI⟩ := infoInt
  have HII := Lib.hid hiI
  clear hto ho hr hrm hq hT hR hL hiI
  go_enter Tryz.func65, Tryz.ntmps65
  go_wp2_with fail
  go_loopw [7, 8] (fun v i wr => ∃ k : Nat, k ≤ rows.length ∧ i = .int .i64 k ∧ ∃ (n : Nat) (va : Option Addr) (vq : Nat), v = .slice va n vq ∧ Hid (n = (chosen t (rows.take k) list).length ∧ CHS w wr #[.string ⟨t.nm.toArray⟩, .slice ca t.cols.length cc, .slice ua t.uq.length uc, .bool t.rt] F n v)) (fun _ i _ => rows.length - (intOf i).toNat)
  case atStart => exact ⟨0, Nat.zero_le _, rfl, 0, _, _, rfl, by simp [chosen], HX.out⟩
  case round =>
    obtain ⟨k, hk, rfl, n, va, vq, rfl, HW⟩ := hrel
    by_cases hlt : k < rows.length
    case neg =>
      have hki : decide ((k : Int) < (rows.length : Int)) = false := by simp; omega
      have HE : Hid (n = F.length) := by
        show n = F.length
        rw [HW.out.1, List.take_of_length_le (by omega), HF.out]
      go_wp2_with fail
      go_ret
      exact ⟨va, vq, by rw [← HE.out]; rfl, by rw [← HE.out]; exact HW.out.2.gr, HW.out.2.bel⟩
    have hki : (k : Int) < (rows.length : Int) := by omega
    obtain ⟨b1, off1, rfl, -, hc⟩ := (HR.out _ HW.out.2.bel).things k hlt
    obtain ⟨v0, i0, j0⟩ := hc 0 (by omega)
    obtain rfl : v0 = .int .i64 rows[k].id := j0
    rw [Nat.add_zero] at i0
    obtain ⟨v1, i1, j1⟩ := hc 1 (by omega)
    replace j1 : Rd wr R (dAtomSS rows[k].cells) v1 := j1
    obtain ⟨sa, sq, rfl⟩ := j1.lsSlice
    have HKL := Lib.hid (And.intro (le_rowC HO.out.2.1 hlt) (HO.out.2.2 k hlt))
    have HYES : Hid (allM t rows[k] list = true → F.getD n 0 = rows[k].id ∧ n + 1 = (chosen t (rows.take (k + 1)) list).length) := fun h => ⟨by rw [HW.out.1, ← HF.out]; exact chosen_at hlt h, by rw [chosen_take hlt, if_pos h, HW.out.1]; simp⟩
    have HNOT : Hid (allM t rows[k] list = false → n = (chosen t (rows.take (k + 1)) list).length) := fun h => by rw [chosen_take hlt, if_neg (by simp [h]), HW.out.1]; simp
    have HNB : Hid (n ≤ 1048576) := by
      show n ≤ 1048576
      rw [HW.out.1]
      exact Nat.le_trans (chosen_le _ _ _) (Nat.le_trans (List.length_take_le _ _) (by omega))
    have AL : Hid (∀ W, Below wr.heap.size wr W → Calls Tryz.prog 53 #[.agg #[.string ⟨t.nm.toArray⟩, .slice ca t.cols.length cc, .slice ua t.uq.length uc, .bool t.rt], .agg #[.int .i64 rows[k].id, .slice sa rows[k].cells.length sq], .slice a list.length c] W fun e w' => e = .returned (.bool (allM t rows[k] list)) ∧ Below W.heap.size W w') := fun W h =>
      have hB : Below w.heap.size w W := HW.out.2.bel.trans (h.mono HW.out.2.bel.size)
      allS t ca cc ua uc A rows[k] sa sq R list a c B W HT.out.1 HO.out.1 HKL.out.1.2 HKL.out.1.1 HKL.out.2 (HT.out.2 W hB) (j1.later h) (HL.out W hB)
    clear hc j1
    generalize rows[k] = y at *
    have CX : Hid (∀ W, Below wr.heap.size wr W → (W.cell? ⟨w.heap.size, 0, none⟩ = some (.string ⟨t.nm.toArray⟩) ∧ W.cell? ⟨w.heap.size, 1, none⟩ = some (.slice ca t.cols.length cc) ∧ W.cell? ⟨w.heap.size, 2, none⟩ = some (.slice ua t.uq.length uc) ∧ W.cell? ⟨w.heap.size, 3, none⟩ = some (.bool t.rt)) ∧ W.cell? ⟨b1, off1 + k * 2, none⟩ = some (.int .i64 y.id) ∧ W.cell? ⟨b1, off1 + k * 2 + 1, none⟩ = some (.slice sa y.cells.length sq)) := fun W h => ⟨⟨cell_at (o := 0) (HW.out.2.later h).tb rfl, cell_at (o := 1) (HW.out.2.later h).tb rfl, cell_at (o := 2) (HW.out.2.later h).tb rfl, cell_at (o := 3) (HW.out.2.later h).tb rfl⟩, (h.cell (p := ⟨b1, off1 + k * 2, none⟩) (World.block_lt_of_cell? _ _ i0)).trans i0, (h.cell (p := ⟨b1, off1 + k * 2 + 1, none⟩) (World.block_lt_of_cell? _ _ i1)).trans i1⟩
    clear i0 i1
    go_wp2_with fail
    refine wp_region_held_drew (S := (fun W => (W.cell? ⟨w.heap.size, 0, none⟩ = some (.string ⟨t.nm.toArray⟩) ∧ W.cell? ⟨w.heap.size, 1, none⟩ = some (.slice ca t.cols.length cc) ∧ W.cell? ⟨w.heap.size, 2, none⟩ = some (.slice ua t.uq.length uc) ∧ W.cell? ⟨w.heap.size, 3, none⟩ = some (.bool t.rt)) ∧ W.cell? ⟨b1, off1 + k * 2, none⟩ = some (.int .i64 y.id) ∧ W.cell? ⟨b1, off1 + k * 2 + 1, none⟩ = some (.slice sa y.cells.length sq))) (by kernel_rfl) ?_ (fun hHeld => ?_)
    · (first | exact CX.out _ (Below.refl _ _) | exact CX.out _ (Below.refl _ _).drew | exact CX.out _ BW.out)
    refine wpAnyH_take (i := 0) (v := ?_) rfl (by kernel_rfl) (by kernel_rfl) (by kernel_rfl) (fun _ _ _ h => h) (Or.inl ⟨by kernel_rfl, ?_⟩) (by assumption) ?_
    rotate_left
    · (intro wS hSw; (try dsimp only at hSw); go_simp <;> with_reducible rfl)
    try simp only [Act.put, tkS]
    refine wpAnyH_take (i := 1) (v := ?_) rfl (by kernel_rfl) (by kernel_rfl) (by kernel_rfl) (fun _ _ _ h => h) (Or.inl ⟨by kernel_rfl, ?_⟩) (by assumption) ?_
    rotate_left
    · (intro wS hSw; (try dsimp only at hSw); go_simp <;> with_reducible rfl)
    try simp only [Act.put, tkS]
    refine wpAnyH_take (i := 2) (v := ?_) rfl (by kernel_rfl) (by kernel_rfl) (by kernel_rfl) (fun _ _ _ h => h) (Or.inl ⟨by kernel_rfl, ?_⟩) (by assumption) ?_
    rotate_left
    · (intro wS hSw; (try dsimp only at hSw); go_simp <;> with_reducible rfl)
    try simp only [Act.put, tkS]
    refine wpAnyH_take (i := 3) (v := ?_) rfl (by kernel_rfl) (by kernel_rfl) (by kernel_rfl) (fun _ _ _ h => h) (Or.inl ⟨by kernel_rfl, ?_⟩) (by assumption) ?_
    rotate_left
    · (intro wS hSw; (try dsimp only at hSw); go_simp <;> with_reducible rfl)
    try simp only [Act.put, tkS]
    refine wpAnyH_take (i := 4) (v := ?_) rfl (by kernel_rfl) (by kernel_rfl) (by kernel_rfl) (fun _ _ _ h => h) (Or.inl ⟨by kernel_rfl, ?_⟩) (by assumption) ?_
    rotate_left
    · (intro wS hSw; (try dsimp only at hSw); go_simp <;> with_reducible rfl)
    try simp only [Act.put, tkS]
    refine wpAnyH_take (i := 5) (v := ?_) rfl (by kernel_rfl) (by kernel_rfl) (by kernel_rfl) (fun _ _ _ h => h) (Or.inl ⟨by kernel_rfl, ?_⟩) (by assumption) ?_
    rotate_left
    · (intro wS hSw; (try dsimp only at hSw); go_simp <;> with_reducible rfl)
    try simp only [Act.put, tkS]
    refine wpAnyH_ready (rs := [6]) (by kernel_rfl) (by simp) (AllReadyH.cons rfl (fun K hK => ?_) AllReadyH.nil)
    go_simp
    go_at_call 53
    refine (AL.out _ (Below.refl _ _).drew).mono ?_
    rintro e w1 ⟨rfl, hB1⟩
    have BW : Hid (Below wr.heap.size wr w1) := (Below.refl _ _).drew.trans hB1
    clear hB1
    refine hK.out _ _ ?_ (fun hHeld => ?_)
    · (first | exact CX.out _ (Below.refl _ _) | exact CX.out _ (Below.refl _ _).drew | exact CX.out _ BW.out)
    clear hK K
    try simp only [Act.put, tkS]
    refine wpAnyH_done (by kernel_rfl) ?_ _
    cases he : allM t y list
    case false =>
      have HN := Lib.hid (HNOT.out he)
      clear he HYES HNOT AL
      go_wp2_with fail
      go_roundw
      case rel => exact ⟨k + 1, by omega, by go_num, n, va, vq, rfl, HN.out, HW.out.2.later BW.out⟩
      case measure => simp [intOf]; omega
    have HAL := Lib.hid (HYES.out he)
    clear he HYES HNOT AL
    have s0 := (CX.out _ BW.out).2.1
    have SG2 := Lib.hid ((HW.out.2.later BW.out).later (below_allocD w1 (.cells #[.int .i64 y.id] 3)))
    have NEW : Hid ((w1.alloc (.cells #[.int .i64 y.id] 3)).cell? ⟨w1.heap.size, 0, none⟩ = some (.int .i64 y.id)) := cell_at (o := 0) (heap_newD _ _) rfl
    go_wp2_with (at_builtin; go_must (refine wpList_grow rfl (.tmp 23) (.tmp 29) 23 rfl rfl SG2.out.gr iI (.int .i64 0) 8 Tryz.underlying23 HII.out.1 HII.out.2.1 HII.out.2.2.1 HII.out.2.2.2 rfl (Nat.lt_succ_self 0) ⟨w1.heap.size, 0, none⟩ 1 rfl [.int .i64 y.id] rfl ?news ?one ?h63 ?hby ?hba ?hrd ?go))
    case news =>
      intro j u hj
      have : j = 0 := by
        have := (List.getElem?_eq_some_iff.1 hj).1
        simpa using this
      subst this
      simp only [List.getElem?_cons_zero, Option.some.injEq] at hj
      subst hj
      rw [Addr.add_mid]
      exact NEW.out
    case one => intro u hu; simp only [List.mem_singleton] at hu; subst hu; rfl
    case h63 => have := HNB.out; unfold maxLen; omega
    case hby => have := HNB.out; omega
    case hba => have := SG2.out.bel.size; have := (Array.getElem?_eq_some_iff.1 SG2.out.tb).1; omega
    case hrd =>
      intro j hj
      obtain rfl : j = 0 := by omega
      exact ⟨_, rfl, by rw [HAL.out.1]; rfl⟩
    case go =>
      intro a' c' w3 hsg hgr gg hg1 hg2
      have HST := Lib.hid (SG2.out.push hsg hgr ⟨gg, hg1, by simpa using hg2⟩)
      clear hsg hgr hg1 hg2
      go_wp2_with fail
      go_roundw
      case rel => exact ⟨k + 1, by omega, by go_num, n + 1, a', c', rfl, HAL.out.2, HST.out⟩
      case measure => simp [intOf]; omega
end Go.Proofs.YtpjjpdbmooiplaaGreatDoor
namespace Go.Proofs.YtpjjpdbmooiplaaGreatDoor
open Go.RowKit
set_option linter.unusedSimpArgs false
structure Ad where
  ca : Option Addr
  cc : Nat
  ua : Option Addr
  uc : Nat
def tbZ : Tb := ⟨[], [], [], false⟩
def tbF (l : List Tb) (A : Nat → Ad) (m : Nat) : Value :=
  if m % 4 = 0 then .string ⟨(l.getD (m / 4) tbZ).nm.toArray⟩ else if m % 4 = 1 then .slice (A (m / 4)).ca (l.getD (m / 4) tbZ).cols.length (A (m / 4)).cc
  else if m % 4 = 2 then .slice (A (m / 4)).ua (l.getD (m / 4) tbZ).uq.length (A (m / 4)).uc else .bool (l.getD (m / 4) tbZ).rt
theorem tb_getD {l : List Tb} {i : Nat} (h : i < l.length) : l.getD i tbZ = l[i] := by rw [List.getD_eq_getElem?_getD, List.getElem?_eq_getElem h]; rfl
def tbC (t : Tb) (a : Ad) : List Value := [.string ⟨t.nm.toArray⟩, .slice a.ca t.cols.length a.cc, .slice a.ua t.uq.length a.uc, .bool t.rt]
theorem tbF_at {l : List Tb} {A : Nat → Ad} {i j : Nat} (h : i < l.length) (hj : j < 4) : tbF l A (i * 4 + j) = (tbC l[i] (A i)).getD j undef := by
  unfold tbF
  rw [show (i * 4 + j) % 4 = j by omega, show (i * 4 + j) / 4 = i by omega, tb_getD h]
  match j, hj with
  | 0, _ => rfl
  | 1, _ => rfl
  | 2, _ => rfl
  | 3, _ => rfl
structure Tabs (w : World) (B : Nat → Prop) (a : Option Addr) (l : List Tb) (A : Nat → Ad) : Prop where
  row : Rw w B a (l.length * 4) (tbF l A)
  has : ∀ i (h : i < l.length), l[i].Has w B (A i).ca (A i).ua
def TabAt (w : World) (b o : Nat) (t : Tb) (a : Ad) : Prop := w.cell? ⟨b, o, none⟩ = some (.string ⟨t.nm.toArray⟩) ∧ w.cell? ⟨b, o + 1, none⟩ = some (.slice a.ca t.cols.length a.cc) ∧ w.cell? ⟨b, o + 2, none⟩ = some (.slice a.ua t.uq.length a.uc) ∧ w.cell? ⟨b, o + 3, none⟩ = some (.bool t.rt)
theorem Tabs.at {w : World} {B : Nat → Prop} {a : Option Addr} {l : List Tb} {A : Nat → Ad} (h : Tabs w B a l A) (k : Nat) (hk : k < l.length) : ∃ b off, a = some ⟨b, off, none⟩ ∧ B b ∧ ∀ i (h : i < l.length), TabAt w b (off + i * 4) l[i] (A i) := by
  obtain ⟨b, off, e, hb, hc⟩ := Rw.at h.row (k * 4) (by omega)
  refine ⟨b, off, e, hb, fun i hi => ?_⟩
  have g : ∀ j, j < 4 → w.cell? ⟨b, off + i * 4 + j, none⟩ = _ := fun j hj => by rw [Nat.add_assoc, hc _ (by omega), tbF_at hi hj]
  exact ⟨g 0 (by omega), g 1 (by omega), g 2 (by omega), g 3 (by omega)⟩
theorem Tabs.same {w w' : World} {B B' : Nat → Prop} {a : Option Addr} {l : List Tb} {A : Nat → Ad} (h : Tabs w B a l A) (hs : ∀ b, B b → w'.heap[b]? = w.heap[b]?) (hB : ∀ b, B b → B' b) : Tabs w' B' a l A := ⟨h.row.same hs hB, fun i hi => (h.has i hi).same hs hB⟩
theorem Tabs.later {w w' : World} {B : Nat → Prop} {a : Option Addr} {l : List Tb} {A : Nat → Ad} (h : Tabs w B a l A) (hb : Below w.heap.size w w') : Tabs w' B a l A := ⟨h.row.inside.same (fun b hb' => hb.block b hb'.2) (fun _ h => h.1), fun i hi => (h.has i hi).later hb⟩
theorem Tabs.spot {w : World} {B : Nat → Prop} {b off : Nat} {l : List Tb} {A : Nat → Ad} (h : Tabs w B (some ⟨b, off, none⟩) l A) (i : Nat) (hi : i < l.length) : TabAt w b (off + i * 4) l[i] (A i) := by
  obtain ⟨b', off', e, -, hc⟩ := h.at i hi
  simp only [Option.some.injEq, Addr.mk.injEq, and_true] at e
  obtain ⟨rfl, rfl⟩ := e
  exact hc i hi
def TbsOk (l : List Tb) : Prop := l.length ≤ maxLen ∧ ∀ t ∈ l, t.ok
end Go.Proofs.YtpjjpdbmooiplaaGreatDoor
