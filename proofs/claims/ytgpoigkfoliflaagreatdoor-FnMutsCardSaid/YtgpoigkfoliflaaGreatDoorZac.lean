import Derived.Test.YtgpoigkfoliflaaGreatDoorZab
import Derived.Laws.Append
import Derived.ArgAppend
import Derived.Deep.RegionLaw
namespace Go.Proofs.YtgpoigkfoliflaaGreatDoor
open Go.RowKit
set_option linter.unusedSimpArgs false
theorem Own.of_flat {w w' : World} {B B' : Nat → Prop} : ∀ {d : D} {u : Value}, d.flat → Rd w B d u → Own w' d B' u
  | .i _, _, _, h => h
  | .s _, _, _, h => h
  | .b _, _, _, h => h
theorem wpList_append_is {P : Program} {ops : Array Oper} {rest : List Oper} {o : Oper} {a : Act} {w : World} {Q : Exit → Act → World → Prop} (hgd : o.guard = none) (s x : Operand) (t : TypeId)
    (ho : o.op = .call { callee := .builtin .append, args := #[s, x], argTypes := #[t, t] }) (v y : Value) (hs : a.eval s = v) (hx : a.eval x = y) (v' : Value) (w' : World) (hr : (Builtin.append_ #[t, t] o.type #[v, y]).run P w = .ok v' w')
    (hk : wpList P ops Q rest (a.put o.dst v') w') : wpList P ops Q (o :: rest) a w := by
  refine wpList_plain hgd fun _ hK => ?_
  unfold Oper.wp execOp
  simp only [ho, resolve, invoke, builtin, Sem.run_bind, Sem.run_pure, Result.andThen_ok, List.map_toArray, List.map_cons, List.map_nil, hs, hx, hr]
  exact hK _ _ hk
theorem infoAtD : ∃ i, Tryz.prog.info? 55 = some i ∧ i.zero = some (.agg #[.int .i64 0, .int .i64 0, .string ⟨#[]⟩]) ∧ i.size = 3 ∧ i.bytes = 32 := by
  have h : (Tryz.prog.info? 55).map (fun i => (i.zero, i.size, i.bytes)) = some (some (.agg #[.int .i64 0, .int .i64 0, .string ⟨#[]⟩]), 3, 32) := by kernel_rfl
  obtain ⟨i, hi, hzz⟩ := Option.map_eq_some_iff.1 h
  simp only [Prod.mk.injEq] at hzz
  exact ⟨i, hi, hzz⟩
theorem atom_flat (x : At) (j : Nat) : (dAtom x j).flat := by
  match j with
  | 0 => trivial
  | 1 => trivial
  | _ + 2 => trivial
theorem app_nilA (l : List At) (a : Option Addr) (c : Nat) (B : Nat → Prop) (w : World) (ty : TypeId) (hl : l.length ≤ 1048576) (h : Rd w B (dAtomS l) (.slice a l.length c)) :
    ∃ a' c' w', (Builtin.append_ #[35, 35] ty #[.slice none 0 0, .slice a l.length c]).run Tryz.prog w = .ok (.slice a' l.length c') w' ∧ Own w' (dAtomS l) (fun b => w.heap.size ≤ b ∧ b < w'.heap.size) (.slice a' l.length c') ∧ Below w.heap.size w w' := by
  obtain ⟨i, hi, hz, hs, hby⟩ := infoAtD
  by_cases h0 : l.length = 0
  · refine ⟨none, 0, w, ?_, ⟨none, 0, rfl, .inl h0⟩, Below.refl _ _⟩
    rw [h0]
    cases a with
    | none => simp [Builtin.append_, run_underlying Tryz.underlying35, sizeOf, typeInfo, hi, Builtin.lenOf, Builtin.firstCells, loadCells, loadCellsFrom]
    | some ad => simp [Builtin.append_, run_underlying Tryz.underlying35, sizeOf, typeInfo, hi, Builtin.lenOf, Builtin.firstCells, loadCells, loadCellsFrom]
  · obtain ⟨b, off, ha, -, -⟩ := Rd.things (d := dAtom) (n := 3) h 0 (by omega)
    subst ha
    have hc : ∀ m, ∃ u, m < l.length * 3 → w.cell? ⟨b, off + m, none⟩ = some u ∧ Rd w B (lsF dAtom l (m / 3) (m % 3)) u := fun m => by
      by_cases hm : m < l.length * 3
      · obtain ⟨u, hu, hr⟩ := Rd.spotT (d := dAtom) (n := 3) h (i := m / 3) (j := m % 3) (by omega) (by omega)
        rw [Nat.add_assoc, Nat.div_add_mod'] at hu
        exact ⟨u, fun _ => ⟨hu, by rw [lsF_at (by omega)]; exact hr⟩⟩
      · exact ⟨undef, fun h => absurd h hm⟩
    obtain ⟨g, hg⟩ := Classical.axiomOfChoice hc
    have hnl : ((List.range (l.length * 3)).map g).length = l.length * i.size := by rw [hs]; simp
    have hr := run_append_nil (P := Tryz.prog) w 35 ty 55 i _ Tryz.underlying35 hi hz ⟨b, off, none⟩ l.length c ((List.range (l.length * 3)).map g) hnl (fun j u hj => by
      rw [List.getElem?_map, Option.map_eq_some_iff] at hj
      obtain ⟨m, hm, rfl⟩ := hj
      obtain ⟨hlt, rfl⟩ := List.getElem?_eq_some_iff.1 hm
      simp only [List.length_range] at hlt
      simp only [List.getElem_range]
      rw [Addr.add_mid]
      exact (hg j hlt).1) (by omega) (by omega) (by rw [hby]; omega)
    refine ⟨_, _, _, hr, ?_, ((Below.refl _ _).drew).alloc (Nat.le_refl _) _⟩
    have hnew := heap_newD w.drew (.cells (((List.range (l.length * 3)).map g).toArray ++ Builtin.zeroCells (Value.agg #[.int .i64 0, .int .i64 0, .string ⟨#[]⟩]).cells (grownCap w l.length 0 55 - l.length)) 55)
    refine OwnR.own (off := 0) (X := fun _ _ _ => False) ⟨⟨Nat.le_refl _, by simp⟩, by omega, fun _ _ _ h => h.elim, fun _ _ _ _ _ h => h.elim, fun q j hq hj => ?_⟩ _
    have hlt : q * 3 + j < l.length * 3 := by omega
    have h1 := hg (q * 3 + j) hlt
    refine ⟨g (q * 3 + j), ?_, ?_, ?_⟩
    · rw [Nat.zero_add]
      refine cell_at (b := w.heap.size) hnew ?_
      rw [Array.getElem?_append_left (by simpa using hlt)]
      simp [hlt]
    · exact frozen_at _ hnew
    · have h2 := h1.2
      rw [show (q * 3 + j) / 3 = q by omega, show (q * 3 + j) % 3 = j by omega] at h2
      exact Own.of_flat (by rw [lsF_at hq]; exact atom_flat _ _) h2
set_option maxRecDepth 100000 in
set_option maxHeartbeats 6400000 in
theorem copyRowI (x : RowV) (pb po : Nat) (a : Option Addr) (c : Nat) (B : Nat → Prop) (w : World) (ho : (dAtomSS x.cells).le 1048576) (hS : Rd w B (dAtomSS x.cells) (.slice a x.cells.length c))
    (hp0 : w.cell? ⟨pb, po, none⟩ = some (.int .i64 x.id)) (hp1 : w.cell? ⟨pb, po + 1, none⟩ = some (.slice a x.cells.length c)) :
    Calls Tryz.prog 24 #[.pointer (some ⟨pb, po, none⟩)] w fun e w' => ∃ q : Nat, e = .returned (.agg #[.int .i64 x.id, .slice (some ⟨q, 0, none⟩) x.cells.length x.cells.length]) ∧ Own w' (dAtomSS x.cells) (fun c => w.heap.size ≤ c ∧ c < w'.heap.size) (.slice (some ⟨q, 0, none⟩) x.cells.length x.cells.length) ∧ Below w.heap.size w w' := by
  have hl : x.cells.length ≤ 1048576 := (Ls_le.1 ho).2.1
  have HX : Hid (∀ i (h : i < x.cells.length) j, j < 1 → (cAtomS x.cells[i] j).le 1048576) := (Ls_le.1 ho).2.2
  have HS : Hid (∀ W, Below w.heap.size w W → Rd W B (Ls 1 cAtomS x.cells) (.slice a x.cells.length c)) := fun W h => Rd.later hS h
  have PC : Hid (∀ W, Below w.heap.size w W → W.cell? ⟨pb, po, none⟩ = some (.int .i64 x.id) ∧ W.cell? ⟨pb, po + 1, none⟩ = some (.slice a x.cells.length c)) := fun W h => ⟨(h.cell (p := ⟨pb, po, none⟩) (World.block_lt_of_cell? _ _ hp0)).trans hp0, (h.cell (p := ⟨pb, po + 1, none⟩) (World.block_lt_of_cell? _ _ hp1)).trans hp1⟩
  have hb1 := below_allocD w (.cells #[.int .i64 0, .slice none 0 0] 34)
  have hmk := run_mkAtomSS x.cells.length hl (w.alloc (.cells #[.int .i64 0, .slice none 0 0] 34))
  rw [Nat.mul_one, size_allocD] at hmk
  have e0 := (PC.out _ hb1).1
  have e1 := (PC.out _ hb1).2
  obtain ⟨V, hV⟩ : ∃ V, V = (w.alloc (.cells #[.int .i64 0, .slice none 0 0] 34)).alloc (.cells (madeCells #[.slice none 0 0] x.cells.length) 35) := ⟨_, rfl⟩
  have hbV : Below w.heap.size w V := by rw [hV]; exact hb1.trans ((below_allocD _ _).mono (by simp))
  have hTS : TS V 35 1 x.cells.length (lsF cAtomS x.cells) (w.heap.size + 1) 0 := by
    have := TS.start (w.alloc (.cells #[.int .i64 0, .slice none 0 0] 34)) #[.slice none 0 0] 35 1 x.cells.length (lsF cAtomS x.cells)
    rw [Nat.mul_one, size_allocD, ← hV] at this
    exact this
  have hbx : V.heap[w.heap.size]? = some (.cells #[.int .i64 0, .slice none 0 0] 34) := by rw [hV]; exact heap_keptD (heap_newD _ _) (below_allocD _ _)
  have H0 : Hid (Below w.heap.size w V ∧ TS V 35 1 x.cells.length (lsF cAtomS x.cells) (w.heap.size + 1) 0 ∧ V.heap[w.heap.size]? = some (.cells #[.int .i64 0, .slice none 0 0] 34)) := ⟨hbV, hTS, hbx⟩
  have HV := Lib.hid hV
  have f0 := (PC.out _ hbV).1
  have f1 := (PC.out _ hbV).2
  rw [hV] at f0 f1
  clear hV hbV hTS hbx hb1 hS ho hp0 hp1
  go_enter Tryz.func24, Tryz.ntmps24
  go_wp2_with fail
  clear hmk e0 e1 f0 f1
  rw [← HV.out]
  go_loopw [16] (fun i wr => ∃ k : Nat, k ≤ x.cells.length ∧ i = .int .i64 k ∧ Hid (Below w.heap.size w wr ∧ TS wr 35 1 x.cells.length (lsF cAtomS x.cells) (w.heap.size + 1) k ∧ wr.heap[w.heap.size]? = some (.cells #[.int .i64 0, .slice none 0 0] 34))) (fun i _ => x.cells.length - (intOf i).toNat)
  case atStart => exact ⟨0, Nat.zero_le _, rfl, H0.out⟩
  case round =>
    obtain ⟨k, hk, rfl, HD⟩ := hrel
    have f0 := (PC.out _ HD.out.1).1
    have f1 := (PC.out _ HD.out.1).2
    by_cases hlt : k < x.cells.length
    case neg =>
      have hk' : k = x.cells.length := by omega
      have hkd : decide ((k : Int) < (x.cells.length : Int)) = false := decide_eq_false (by omega)
      have r0 := cell_at (o := 0) HD.out.2.2 rfl
      have r1 := cell_at (o := 1) HD.out.2.2 rfl
      have g0 := frozen_at 0 HD.out.2.2
      have g1 := frozen_at 1 HD.out.2.2
      have HKK := Lib.hid hk'
      clear hk'
      go_wp2_with fail
      refine bodyPost_ret (v := .agg #[.int .i64 x.id, .slice (some ⟨w.heap.size + 1, 0, none⟩) x.cells.length x.cells.length]) (by simp [results, Tryz.results24, go_sem, *]) rfl ?_
      have hd := HD.out.2.1
      rw [HKK.out] at hd
      have hown := TS.done (by omega) hd
      have hfr : Frm (· = w.heap.size) wr ((wr.setCell ⟨w.heap.size, 0, none⟩ (.int .i64 x.id)).setCell ⟨w.heap.size, 1, none⟩ (.slice (some ⟨w.heap.size + 1, 0, none⟩) x.cells.length x.cells.length)) := (frm_set _ _ _ _).trans (frm_set _ _ _ _)
      refine ⟨w.heap.size + 1, rfl, ?_, ?_⟩
      · exact (hown.frm hfr (fun b hb e => by have h1 := hb.1; have e' : b = w.heap.size := e; omega)).mono (fun b hb => ⟨by have := hb.1; omega, by simpa using hb.2⟩)
      · exact (HD.out.1.setCell (Nat.le_refl _) _).setCell (Nat.le_refl _) _
    have hki : (k : Int) < (x.cells.length : Int) := by omega
    obtain ⟨b, off, rfl, -, hc⟩ := (HS.out _ HD.out.1).things k hlt
    obtain ⟨u0, c0, r0⟩ := hc 0 (by omega)
    replace r0 : Rd wr B (dAtomS x.cells[k]) u0 := r0
    obtain ⟨sa, sq, rfl⟩ := r0.lsSlice
    rw [Nat.mul_one] at c0
    replace c0 : wr.cell? ⟨b, off + k, none⟩ = _ := c0
    have HFA : Hid (lsF cAtomS x.cells k = cAtomS x.cells[k]) := lsF_at hlt
    obtain ⟨a1, c1, w1, hrun, ho1, hB1⟩ := app_nilA x.cells[k] sa sq B wr 35 (Ls_le.1 (HX.out k hlt 0 (by omega))).2.1 r0
    have HST : Hid (TS (w1.setCell ⟨w.heap.size + 1, k, none⟩ (.slice a1 x.cells[k].length c1)) 35 1 x.cells.length (lsF cAtomS x.cells) (w.heap.size + 1) (k + 1)) := by
      have := HD.out.2.1.step hB1 (fun _ => .slice a1 x.cells[k].length c1) ⟨fun j c => j = 0 ∧ wr.heap.size ≤ c ∧ c < w1.heap.size, fun _ _ h => h.2, fun _ _ _ h h' => by omega, fun j hj => by
        rw [HFA.out]
        obtain rfl : j = 0 := by omega
        exact ho1.mono (fun c h => ⟨rfl, h⟩)⟩
      simp only [putN, Nat.mul_one, Nat.add_zero] at this
      exact this
    obtain ⟨g, hg⟩ := HD.out.2.1.row
    have hg1 := hg.of_block (hB1.block _ hg.lt)
    rw [Nat.mul_one] at hg1
    have t0 := hg1.cell (i := k) hlt
    have z0 := hg1.frozen k
    have HW := Lib.hid (And.intro (HD.out.1.trans (hB1.mono HD.out.1.size)) (heap_keptD HD.out.2.2 hB1))
    have HRUN := Lib.hid hrun
    clear hg hg1 hB1 ho1 hc r0 HFA hrun
    generalize x.cells[k] = s at *
    go_wp2_with (at_builtin; go_must (refine wpList_append_is rfl (.const (.slice none 0 0)) (.tmp 27) 35 rfl _ _ rfl rfl _ _ HRUN.out ?_))
    go_roundw
    case rel => exact ⟨k + 1, by omega, by go_num, HW.out.1.setCell (by show w.heap.size ≤ w.heap.size + 1; omega) _, HST.out, by rw [Below.heap_setCell _ ⟨w.heap.size + 1, k, none⟩ _ _ (by show w.heap.size ≠ w.heap.size + 1; omega)]; exact HW.out.2⟩
    case measure => simp [intOf]; omega
end Go.Proofs.YtgpoigkfoliflaaGreatDoor
namespace Go.Proofs.YtgpoigkfoliflaaGreatDoor
open Go.RowKit
set_option linter.unusedSimpArgs false
theorem run_append_own3 {P : Program} (w : World) (base : Nat) (t ty e : TypeId) (i : TypeInfo) (z : Value) (size bytes : Nat) (ht : P.underlying t = some (.slice e)) (hi : P.info? e = some i) (hz : i.zero = some z)
    (hsize : i.size = size) (hby : i.bytes = bytes) (hzs : z.cells.size = size) (hsz : 0 < size)
    (v : Value) (n : Nat) (xs : List Value) (hown : w.ownsRow base e size v n xs)
    (a : Addr) (m c : Nat) (news : List Value) (hl : news.length = m * size) (hnews : ∀ j u, news[j]? = some u → w.cell? (a.add j) = some u) (h1 : ∀ u ∈ news, u.oneCell' = true)
    (h63 : n + m ≤ maxLen) (hbytes : (n + m) * bytes ≤ 140737488355328) (hbase : base ≤ w.heap.size) (hm : 0 < m) :
    ∃ v' w', (Builtin.append_ #[t, t] ty #[v, .slice (some a) m c]).run P w = .ok v' w' ∧ w'.ownsRow base e size v' (n + m) (xs ++ news) ∧ w.grownBy w' v.ownBlock ∧
      ∃ g, v'.ownBlock = some g ∧ (v.ownBlock = some g ∨ w.heap.size ≤ g) := by
  subst hsize
  obtain ⟨v', w', hr, h2, h3, -⟩ := run_append_own (P := P) w base t ty e i z i.size bytes ht hi hz rfl hby hzs hsz v n xs hown a m c news hl hnews h1 h63 hbytes hbase
  refine ⟨v', w', hr, h2, h3, ?_⟩
  have fresh : ∀ {v'' : Value} {w'' : World} {ys : List Value}, w''.ownsRow w.heap.size e i.size v'' (n + m) ys → ∃ g, v''.ownBlock = some g ∧ w.heap.size ≤ g := by
    intro v'' w'' ys h
    rcases h.2 with ⟨-, h0⟩ | ⟨g, cap, cur, rfl, hg, -⟩
    · omega
    · exact ⟨g, rfl, hg⟩
  have hown' := hown
  rcases hown'.2 with ⟨rfl, rfl⟩ | ⟨g, cap, cur, rfl, hg, hb, hn, hcap, hcs, hx⟩
  · obtain ⟨v2, w2, hr2, h22, -, -⟩ := run_append_own (P := P) w w.heap.size t ty e i z i.size bytes ht hi hz rfl hby hzs hsz (.slice none 0 0) 0 xs ⟨hown.1, .inl ⟨rfl, rfl⟩⟩ a m c news hl hnews h1 h63 hbytes (Nat.le_refl _)
    rw [hr] at hr2
    injection hr2 with e1 e2
    subst e1
    obtain ⟨g, h4, h5⟩ := fresh h22
    exact ⟨g, h4, .inr h5⟩
  · by_cases hroom : n + m ≤ cap
    · have hr2 := run_append_room_cells (P := P) w t ty e i ht hi g 0 n cap a m c news hl hnews h1 hroom (fun j hj => by
        have hlt : n * i.size + j < cur.size := by
          have := Nat.mul_le_mul_right i.size hroom
          rw [Nat.add_mul] at this
          rw [hl] at hj
          omega
        simp [World.cell?, hb, hlt]) (fun j hj => by simp [World.frozen?, hb])
      rw [hr] at hr2
      injection hr2 with e1 e2
      subst e1
      exact ⟨g, rfl, .inl rfl⟩
    · obtain ⟨v2, w2, hr2, h22, -⟩ := run_append_arg_grows (P := P) w t ty e i z i.size bytes ht hi hz rfl hby hzs hsz ⟨g, 0, none⟩ n cap xs hown.1 (fun j u hj => by
        rw [Addr.add_mid, Nat.zero_add]
        have hj' : j < n * i.size := by have := (List.getElem?_eq_some_iff.1 hj).1; rw [hown.1] at this; exact this
        rw [← hx, List.getElem?_take_of_lt hj', Array.getElem?_toList] at hj
        simp [World.cell?, hb, hj]) a m c news hl hnews (by omega) h63 hbytes
      rw [hr] at hr2
      injection hr2 with e1 e2
      subst e1
      obtain ⟨g', h4, h5⟩ := fresh h22
      exact ⟨g', h4, .inr h5⟩
theorem ownsRow_later {w w' : World} {base : Nat} {e : TypeId} {size : Nat} {v : Value} {n : Nat} {xs : List Value} (h : w.ownsRow base e size v n xs) (hB : Below w.heap.size w w') : w'.ownsRow base e size v n xs := by
  obtain ⟨h1, h2⟩ := h
  refine ⟨h1, ?_⟩
  rcases h2 with h2 | ⟨g, cap, cur, hv, hg, hh, r⟩
  · exact .inl h2
  · exact .inr ⟨g, cap, cur, hv, hg, by rw [hB.block g (Array.getElem?_eq_some_iff.1 hh).1]; exact hh, r⟩
theorem ownsRow_same {w w' : World} {base : Nat} {e : TypeId} {size : Nat} {v : Value} {n : Nat} {xs : List Value} (h : w.ownsRow base e size v n xs) (hB : ∀ g, v.ownBlock = some g → w'.heap[g]? = w.heap[g]?) : w'.ownsRow base e size v n xs := by
  obtain ⟨h1, h2⟩ := h
  refine ⟨h1, ?_⟩
  rcases h2 with h2 | ⟨g, cap, cur, hv, hg, hh, r⟩
  · exact .inl h2
  · exact .inr ⟨g, cap, cur, hv, hg, by rw [hB g (by rw [hv]; rfl)]; exact hh, r⟩
def SG (w : World) (base : Nat) (G : Nat → Prop) (T : TypeId) (n : Nat) (f : Nat → Nat → D) (k : Nat) (v : Value) : Prop :=
  ∃ xs, w.ownsRow base T n v k xs ∧ ∀ i j, i < k → j < n → ∃ u, xs[i * n + j]? = some u ∧ Rd w (fun c => (v.ownBlock ≠ some c ∧ c < w.heap.size) ∧ G c) (f i j) u
theorem SG.shape {w : World} {base : Nat} {G : Nat → Prop} {T : TypeId} {n : Nat} {f : Nat → Nat → D} {k : Nat} {v : Value} (h : SG w base G T n f k v) : ∃ a c, v = .slice a k c := by
  obtain ⟨xs, h, -⟩ := h
  rcases h.2 with ⟨rfl, rfl⟩ | ⟨g, cap, cur, rfl, -⟩
  · exact ⟨none, 0, rfl⟩
  · exact ⟨_, _, rfl⟩
theorem SG.start {w : World} {base : Nat} {G : Nat → Prop} {T : TypeId} {n : Nat} {f : Nat → Nat → D} {g : Nat} (hg : base ≤ g) (hh : w.heap[g]? = some (.cells #[] T)) : SG w base G T n f 0 (.slice (some ⟨g, 0, none⟩) 0 0) :=
  ⟨[], ⟨by simp, .inr ⟨g, 0, #[], rfl, hg, hh, Nat.le_refl _, by unfold maxLen; omega, by simp, by simp⟩⟩, fun i j h => absurd h (by omega)⟩
theorem SG.later {w w' : World} {base : Nat} {G : Nat → Prop} {T : TypeId} {n : Nat} {f : Nat → Nat → D} {k : Nat} {v : Value} (h : SG w base G T n f k v) (hB : Below w.heap.size w w') : SG w' base G T n f k v := by
  obtain ⟨xs, h1, h2⟩ := h
  refine ⟨xs, ownsRow_later h1 hB, fun i j hi hj => ?_⟩
  obtain ⟨u, hu, hr⟩ := h2 i j hi hj
  exact ⟨u, hu, (hr.later hB).mono (fun c hc => ⟨⟨hc.1.1, Nat.lt_of_lt_of_le hc.1.2 hB.size⟩, hc.2⟩)⟩
theorem SG.same {w w' : World} {base : Nat} {G : Nat → Prop} {T : TypeId} {n : Nat} {f : Nat → Nat → D} {k : Nat} {v : Value} (h : SG w base G T n f k v) {p : Nat} (hs : w.heap.size ≤ w'.heap.size) (hB : ∀ c, c ≠ p → w'.heap[c]? = w.heap[c]?) (hv : v.ownBlock ≠ some p) (hG : ∀ c, G c → c ≠ p) : SG w' base G T n f k v := by
  obtain ⟨xs, h1, h2⟩ := h
  refine ⟨xs, ownsRow_same h1 (fun g hg => hB g (by intro e; subst e; exact hv hg)), fun i j hi hj => ?_⟩
  obtain ⟨u, hu, hr⟩ := h2 i j hi hj
  exact ⟨u, hu, Rd.same (fun c hc => hB c (hG c hc.2)) (fun c hc => ⟨⟨hc.1.1, Nat.lt_of_lt_of_le hc.1.2 hs⟩, hc.2⟩) _ _ hr⟩
theorem SG.rd {w : World} {base : Nat} {G : Nat → Prop} {T : TypeId} {n : Nat} {f : Nat → Nat → D} {k : Nat} {v : Value} (h : SG w base G T n f k v) (hn : 0 < n) (hg0 : ∀ g, v.ownBlock = some g → G g) : Rd w (fun c => G c ∧ c < w.heap.size) (.l n k f) v := by
  obtain ⟨xs, h1, h2⟩ := h
  rcases h1.2 with ⟨rfl, rfl⟩ | ⟨g, cap, cur, rfl, hg, hh, r1, r2, r3, r4⟩
  · exact ⟨none, 0, rfl, .inl rfl⟩
  · refine ⟨_, _, rfl, ?_⟩
    by_cases h0 : k = 0
    · exact .inl h0
    · refine .inr ⟨g, 0, rfl, ⟨hg0 g rfl, (Array.getElem?_eq_some_iff.1 hh).1⟩, hn, fun i j hi hj => ?_⟩
      obtain ⟨u, hu, hr⟩ := h2 i j hi hj
      have hlt : i * n + j < k * n := spot_lt hi hj
      refine ⟨u, ?_, hr.mono (fun c hc => ⟨hc.2, hc.1.2⟩)⟩
      rw [← r4, List.getElem?_take_of_lt hlt, Array.getElem?_toList] at hu
      rw [Nat.zero_add]
      simp [World.cell?, hh, hu]
theorem SG.push {P : Program} {w : World} {base : Nat} {G : Nat → Prop} {T : TypeId} {n : Nat} {f : Nat → Nat → D} {k : Nat} {v : Value} (h : SG w base G T n f k v) (t ty : TypeId) (i : TypeInfo) (z : Value) (bytes : Nat) (ht : P.underlying t = some (.slice T)) (hi : P.info? T = some i) (hz : i.zero = some z)
    (hsize : i.size = n) (hby : i.bytes = bytes) (hzs : z.cells.size = n) (hn : 0 < n) (ad : Addr) (c : Nat) (news : List Value) (hl : news.length = n) (hnews : ∀ j u, news[j]? = some u → w.cell? (ad.add j) = some u) (h1 : ∀ u ∈ news, u.oneCell' = true)
    (h63 : k + 1 ≤ maxLen) (hbytes : (k + 1) * bytes ≤ 140737488355328) (hbase : base ≤ w.heap.size) (hrd : ∀ j, j < n → ∃ u, news[j]? = some u ∧ Rd w (fun c => (v.ownBlock ≠ some c ∧ c < w.heap.size) ∧ G c) (f k j) u) :
    ∃ a' c' w', (Builtin.append_ #[t, t] ty #[v, .slice (some ad) 1 c]).run P w = .ok (.slice a' (k + 1) c') w' ∧ SG w' base G T n f (k + 1) (.slice a' (k + 1) c') ∧ w.grownBy w' v.ownBlock ∧ ∃ g, Value.ownBlock (.slice a' (k + 1) c') = some g ∧ (v.ownBlock = some g ∨ w.heap.size ≤ g) := by
  obtain ⟨xs, h2, h3⟩ := h
  obtain ⟨v', w', hr, h4, h5, g, hg, hgg⟩ := run_append_own3 (P := P) w base t ty T i z n bytes ht hi hz hsize hby hzs hn v k xs h2 ad 1 c news (by rw [hl, Nat.one_mul]) hnews h1 h63 hbytes hbase (by omega)
  obtain ⟨a', c', rfl⟩ : ∃ a' c', v' = .slice a' (k + 1) c' := by
    rcases h4.2 with ⟨rfl, h0⟩ | ⟨g, cap, cur, rfl, -⟩
    · omega
    · exact ⟨_, _, rfl⟩
  refine ⟨a', c', w', hr, ⟨xs ++ news, h4, fun q j hq hj => ?_⟩, h5, g, hg, hgg⟩
  have key : ∀ d u, Rd w (fun c => (v.ownBlock ≠ some c ∧ c < w.heap.size) ∧ G c) d u → Rd w' (fun c => (Value.ownBlock (.slice a' (k + 1) c') ≠ some c ∧ c < w'.heap.size) ∧ G c) d u := fun d u hu =>
    Rd.same (fun b hb => h5.block b hb.1.2 (fun e => hb.1.1 e.symm)) (fun b hb => ⟨⟨by
      rw [hg]
      intro e
      simp only [Option.some.injEq] at e
      subst e
      rcases hgg with e | e
      · exact hb.1.1 e
      · have := hb.1.2; omega, Nat.lt_of_lt_of_le hb.1.2 h5.size⟩, hb.2⟩) d u hu
  have hxl : xs.length = k * n := h2.1
  by_cases e : q = k
  · subst e
    obtain ⟨u, hu, hru⟩ := hrd j hj
    refine ⟨u, ?_, key _ _ hru⟩
    rw [List.getElem?_append_right (by omega), hxl, show q * n + j - q * n = j by omega]
    exact hu
  · have hlt : q * n + j < k * n := spot_lt (by omega) hj
    obtain ⟨u, hu, hru⟩ := h3 q j (by omega) hj
    exact ⟨u, by rw [List.getElem?_append_left (by omega)]; exact hu, key _ _ hru⟩
end Go.Proofs.YtgpoigkfoliflaaGreatDoor
