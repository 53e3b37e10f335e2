import Derived.Test.YtlddhbamcndggaaGreatDoorZbe
import Derived.Test.YtlddhbamcndggaaGreatDoorZbg
import Derived.Test.YtlddhbamcndggaaGreatDoorZTk
namespace Go.Proofs.YtlddhbamcndggaaGreatDoor
open Go.RowKit
set_option linter.unusedSimpArgs false
structure GP (w wr : World) (bs : List Obj) (pb : Nat) (S : TypeId) (co : Value → Array Value) (T : TypeId) (f : Nat → Nat → D) (k : Nat) (v : Value) : Prop where
 bx : ∀ i o, bs[i]? = some o → wr.heap[w.heap.size + i]? = some o
 lo : w.heap.size + bs.length ≤ pb
 ot : wr.heap[pb]? = some (.cells (co v) S)
 gr : SG wr (pb + 1) (fun c => c ≠ pb) T 1 f k v
 bel : Below w.heap.size w wr
theorem GP.first {w W : World} {bs : List Obj} {S : TypeId} {co : Value → Array Value} {T : TypeId} {f : Nat → Nat → D} (hbx : ∀ i o, bs[i]? = some o → W.heap[w.heap.size + i]? = some o) (hlo : w.heap.size + bs.length ≤ W.heap.size) (hB : Below w.heap.size w W) : GP w (W.alloc (.cells (co (.slice none 0 0)) S)) bs W.heap.size S co T f 0 (.slice none 0 0) :=
 ⟨fun i o hi => heap_keptD (hbx i o hi) (below_allocD _ _), hlo, heap_newD _ _, ⟨[], ⟨by simp, .inl ⟨rfl, rfl⟩⟩, fun i j h => absurd h (by omega)⟩, hB.trans ((below_allocD _ _).mono hB.size)⟩
theorem GP.push {P : Program} {w wr V : World} {bs : List Obj} {pb : Nat} {S : TypeId} {co : Value → Array Value} {T : TypeId} {f : Nat → Nat → D} {k : Nat} {v : Value} (h : GP w wr bs pb S co T f k v) (t ty : TypeId) (i : TypeInfo) (z : Value) (bytes : Nat) (ht : P.underlying t = some (.slice T)) (hi : P.info? T = some i) (hz : i.zero = some z) (hsize : i.size = 1) (hby : i.bytes = bytes) (hzs : z.cells.size = 1)
  (s : Nat) (hco : ∀ v', (co v).setIfInBounds s v' = co v') (hB : Below wr.heap.size wr V) (u : Value) (hone : u.oneCell' = true) (h63 : k + 1 ≤ maxLen) (hbytes : (k + 1) * bytes ≤ 140737488355328) (hu : Rd V (fun b => b < w.heap.size ∨ wr.heap.size ≤ b) (f k 0) u) :
  ∃ a' c' W4, (Builtin.append_ #[t, t] ty #[v, .slice (some ⟨V.heap.size, 0, none⟩) 1 1]).run P (V.alloc (.cells #[u] T)) = .ok (.slice a' (k + 1) c') W4 ∧ GP w (W4.setCell ⟨pb, s, none⟩ (.slice a' (k + 1) c')) bs pb S co T f (k + 1) (.slice a' (k + 1) c') ∧ W4.heap[pb]? = some (.cells (co v) S) ∧ (∀ i o, bs[i]? = some o → W4.heap[w.heap.size + i]? = some o) ∧ Below w.heap.size w W4 := by
 have bV : Below wr.heap.size wr (V.alloc (.cells #[u] T)) := hB.alloc hB.size _
 have hn9 := heap_newD V (.cells #[u] T)
 have hq1 := (Array.getElem?_eq_some_iff.1 h.ot).1
 have hs1 := size_allocD V (.cells #[u] T)
 have hlo := h.lo
 obtain ⟨a', c', W4, hr, hsg, hgr, g, hgv, hgg⟩ := (h.gr.later bV).push (P := P) t ty i z bytes ht hi hz hsize hby hzs (by omega) ⟨V.heap.size, 0, none⟩ 1 [u] rfl (fun j y hj => by
   have : j = 0 := by
    have := (List.getElem?_eq_some_iff.1 hj).1
    simpa using this
   subst this
   simp only [List.getElem?_cons_zero, Option.some.injEq] at hj
   subst hj
   rw [Addr.add_mid]
   exact cell_at (o := 0) hn9 rfl) (fun y hy => by simp only [List.mem_singleton] at hy; subst hy; exact hone) h63 hbytes (by have := bV.size; omega) (fun j hj => by
   obtain rfl : j = 0 := by omega
   refine ⟨u, rfl, (Rd.inside _ _ (hu.later (below_allocD _ _))).mono (fun b hb => ?_)⟩
   have h1 := hb.1; have h2 := hb.2
   refine ⟨⟨fun e => ?_, h2⟩, by rcases h1 with h | h <;> omega⟩
   have := h.gr.low e
   rcases h1 with h | h <;> omega)
 have keep : ∀ b y, wr.heap[b]? = some y → b ≤ pb → W4.heap[b]? = some y := fun b y hx hn => by
  have hlt := (Array.getElem?_eq_some_iff.1 hx).1
  rw [hgr.block b (Nat.lt_of_lt_of_le hlt bV.size) (fun e => by have := (h.gr.low e.symm).1; omega), bV.block b hlt]; exact hx
 have nb : ∀ i o, bs[i]? = some o → i < bs.length := fun i o hi => (List.getElem?_eq_some_iff.1 hi).1
 have b4 : ∀ i o, bs[i]? = some o → W4.heap[w.heap.size + i]? = some o := fun i o hi => keep _ _ (h.bx i o hi) (by have := nb i o hi; omega)
 have o4 := keep _ _ h.ot (Nat.le_refl _)
 have hb4 : Below w.heap.size w W4 := below_grown (h.bel.trans (bV.mono h.bel.size)) hgr (fun g e => by have := (h.gr.low e).1; omega) (Nat.le_trans h.bel.size bV.size)
 refine ⟨a', c', W4, hr, ⟨fun i o hi => ?_, hlo, by rw [← hco]; exact heap_set s _ o4, ?_, hb4.setCell (by show w.heap.size ≤ pb; omega) _⟩, o4, b4, hb4⟩
 ·
  rw [Below.heap_setCell _ ⟨pb, s, none⟩ _ _ (by show w.heap.size + i ≠ pb; have := nb i o hi; omega)]; exact b4 i o hi
 ·
  exact hsg.same (p := pb) (by simp [World.setCell]) (fun b hb => Below.heap_setCell _ _ _ _ hb) (fun e => by have := (hsg.low e).1; omega) (fun c hc => hc)
theorem GP.rd {w wr : World} {bs : List Obj} {pb : Nat} {S : TypeId} {co : Value → Array Value} {T : TypeId} {f : Nat → Nat → D} {k : Nat} {v : Value} (h : GP w wr bs pb S co T f k v) : Rd wr (fun b => b ≠ pb ∧ b < wr.heap.size) (.l 1 k f) v := h.gr.rd (by omega) (fun g hg => by have := (h.gr.low hg).1; omega)
def CellAnsB (w : World) (B : Nat → Prop) (l : List At) (e : Ending) (w' : World) : Prop := ∃ (a : Option Addr) (q : Nat), e = .returned (.slice a l.length q) ∧ Rd w' (fun b => B b ∨ w.heap.size ≤ b) (dAtomS l) (.slice a l.length q) ∧ Below w.heap.size w w'
theorem rd_oneB (W : World) (x : At) (ty : TypeId) (B : Nat → Prop) (hB : B W.heap.size) : Rd (W.alloc (.cells #[.int .i64 x.k, .int .i64 x.n, .string ⟨x.t.toArray⟩] ty)) B (dAtomS [x]) (.slice (some ⟨W.heap.size, 0, none⟩) 1 1) := by
 refine ⟨_, _, rfl, .inr ⟨W.heap.size, 0, rfl, hB, by omega, fun i j hi hj => ?_⟩⟩
 have hi' : i = 0 := by simpa using hi
 subst hi'
 rw [Nat.zero_mul, Nat.add_zero, Nat.zero_add]
 rcases (by omega : j = 0 ∨ j = 1 ∨ j = 2) with rfl | rfl | rfl
 ·
  exact ⟨_, cell_at (o := 0) (heap_newD _ _) rfl, rfl⟩
 ·
  exact ⟨_, cell_at (o := 1) (heap_newD _ _) rfl, rfl⟩
 ·
  exact ⟨_, cell_at (o := 2) (heap_newD _ _) rfl, rfl⟩
theorem CellAnsB.new {w W : World} {B : Nat → Prop} {l : List At} {x : At} {ty : TypeId} (HE : Hid (l = [x])) (hB : Below w.heap.size w W) : CellAnsB w B l (.returned (.slice (some ⟨W.heap.size, 0, none⟩) 1 1)) (W.alloc (.cells #[.int .i64 x.k, .int .i64 x.n, .string ⟨x.t.toArray⟩] ty)) := by
 have h := HE.out
 subst h
 exact ⟨_, _, rfl, rd_oneB _ _ _ _ (.inr hB.size), hB.alloc hB.size _⟩
set_option maxRecDepth 100000 in
set_option maxHeartbeats 3200000 in
theorem cellB (t : Tb) (r : RowV) (s : List UInt8) (ca : Option Addr) (cc : Nat) (ua : Option Addr) (uc : Nat) (pb po : Nat) (ra : Option Addr) (rc : Nat) (A B : Nat → Prop) (w : World) (ho : t.ok) (hlen : r.cells.length = t.cols.length) (hT : t.Has w A ca ua) (hR : Rd w B (dAtomSS r.cells) (.slice ra r.cells.length rc)) (hp0 : w.cell? ⟨pb, po, none⟩ = some (.int .i64 r.id)) (hp1 : w.cell? ⟨pb, po + 1, none⟩ = some (.slice ra r.cells.length rc)) :
  Calls Tryz.prog 121 #[.agg #[.string ⟨t.nm.toArray⟩, .slice ca t.cols.length cc, .slice ua t.uq.length uc, .bool t.rt], .pointer (some ⟨pb, po, none⟩), .string ⟨s.toArray⟩] w (CellAnsB w B (cellOf t r s)) := by
 have PL : Hid (∀ W, BoxD 75 w W #[.string ⟨t.nm.toArray⟩, .slice ca t.cols.length cc, .slice ua t.uq.length uc, .bool t.rt] → Calls Tryz.prog 116 #[.agg #[.string ⟨t.nm.toArray⟩, .slice ca t.cols.length cc, .slice ua t.uq.length uc, .bool t.rt], .string ⟨s.toArray⟩] W fun e w' => e = .returned (.int .i64 (placeC t.cols s)) ∧ BoxD 75 w w' #[.string ⟨t.nm.toArray⟩, .slice ca t.cols.length cc, .slice ua t.uq.length uc, .bool t.rt]) := fun W h => (placeI t s ca cc ua uc A W ho.2.1 (hT.later h.2)).mono (fun e w' ⟨he, hB⟩ => ⟨he, h.later hB⟩)
 have HR : Hid (∀ W, Below w.heap.size w W → Rd W B (Ls 1 cAtomS r.cells) (.slice ra r.cells.length rc)) := fun W h => Rd.later hR h
 have HP : Hid (∀ W, Below w.heap.size w W → W.cell? ⟨pb, po, none⟩ = some (.int .i64 r.id) ∧ W.cell? ⟨pb, po + 1, none⟩ = some (.slice ra r.cells.length rc)) := fun W h => ⟨(h.cell (p := ⟨pb, po, none⟩) (World.block_lt_of_cell? _ _ hp0)).trans hp0, (h.cell (p := ⟨pb, po + 1, none⟩) (World.block_lt_of_cell? _ _ hp1)).trans hp1⟩
 have hb := boxD 75 w #[.string ⟨t.nm.toArray⟩, .slice ca t.cols.length cc, .slice ua t.uq.length uc, .bool t.rt]
 have hcl := ho.2.1
 unfold maxLen at hcl
 have x0 := cell_at (o := 0) hb.1 rfl
 have x1 := cell_at (o := 1) hb.1 rfl
 have x2 := cell_at (o := 2) hb.1 rfl
 have x3 := cell_at (o := 3) hb.1 rfl
 have HB := Lib.hid hb
 clear ho hT hR hb hp0 hp1
 rcases place_cases t.cols s with hp | ⟨k, hk, hp⟩
 ·
  have HE := Lib.hid (cell_id (r := r) hp)
  rw [hp] at PL
  clear hp HR hlen
  go_enter Tryz.func121, Tryz.ntmps121
  go_wp2_with fail
  refine (PL.out _ HB.out).mono ?_
  rintro e w1 ⟨rfl, hb⟩
  clear x0 x1 x2 x3
  have y0 := (HP.out _ hb.2).1
  have y1 := (HP.out _ hb.2).2
  have HB1 := Lib.hid hb.2
  clear hb
  go_wp2_with fail
  go_ret
  exact CellAnsB.new (x := ⟨4, r.id, []⟩) HE HB1.out
 ·
  have hk2 : k < r.cells.length := by omega
  have HE := Lib.hid (cell_col hk2 hp)
  have hk1 : (k : Int) < (r.cells.length : Int) := by omega
  have hk0 : decide ((0 : Int) ≤ (k : Int)) = true := decide_eq_true (by omega)
  rw [hp] at PL
  clear hp hlen
  go_enter Tryz.func121, Tryz.ntmps121
  go_wp2_with fail
  refine (PL.out _ HB.out).mono ?_
  rintro e w1 ⟨rfl, hb⟩
  clear x0 x1 x2 x3
  have y0 := (HP.out _ hb.2).1
  have y1 := (HP.out _ hb.2).2
  have HB1 := Lib.hid hb.2
  obtain ⟨b, off, rfl, -, hc⟩ := (HR.out _ hb.2).things k hk2
  obtain ⟨u0, c0, r0⟩ := hc 0 (by omega)
  replace r0 : Rd w1 B (dAtomS r.cells[k]) u0 := r0
  obtain ⟨va, vq, rfl⟩ := r0.lsSlice
  rw [Nat.mul_one, Nat.add_zero] at c0
  have HR0 := Lib.hid (r0.mono (B' := fun b => B b ∨ w.heap.size ≤ b) (fun _ h => .inl h))
  clear hc r0
  generalize r.cells[k] = x at *
  clear hb
  go_wp2_with fail
  go_ret
  exact ⟨va, vq, by rw [HE.out]; rfl, by rw [HE.out]; exact HR0.out, HB1.out⟩
set_option maxRecDepth 100000 in
set_option maxHeartbeats 3200000 in
theorem columnCodeI (t : Tb) (s : List UInt8) (ca : Option Addr) (cc : Nat) (ua : Option Addr) (uc : Nat) (B : Nat → Prop) (w : World) (ho : t.ok) (hT : t.Has w B ca ua) :
  Calls Tryz.prog 123 #[.agg #[.string ⟨t.nm.toArray⟩, .slice ca t.cols.length cc, .slice ua t.uq.length uc, .bool t.rt], .string ⟨s.toArray⟩] w fun e w' => e = .returned (.int .i64 (if askT t s = true then 0 else 11)) ∧ Below w.heap.size w w' := by
 have AC : Hid (∀ W, BoxD 75 w W #[.string ⟨t.nm.toArray⟩, .slice ca t.cols.length cc, .slice ua t.uq.length uc, .bool t.rt] → Calls Tryz.prog 117 #[.agg #[.string ⟨t.nm.toArray⟩, .slice ca t.cols.length cc, .slice ua t.uq.length uc, .bool t.rt], .string ⟨s.toArray⟩] W fun e w' => e = .returned (.tuple #[.agg #[.string ⟨(askX t s).nm.toArray⟩, .int .i64 (askX t s).k, .int .i64 (askX t s).mn, .int .i64 (askX t s).mx, .int .i64 (askX t s).lo, .int .i64 (askX t s).hi, .string ⟨(askX t s).rf.toArray⟩, .bool (askX t s).st], .bool (askT t s)]) ∧ BoxD 75 w w' #[.string ⟨t.nm.toArray⟩, .slice ca t.cols.length cc, .slice ua t.uq.length uc, .bool t.rt]) := fun W h => (askedI t s ca cc ua uc B W ho (hT.later h.2)).mono (fun e w' ⟨he, hB⟩ => ⟨he, h.later hB⟩)
 have hb := boxD 75 w #[.string ⟨t.nm.toArray⟩, .slice ca t.cols.length cc, .slice ua t.uq.length uc, .bool t.rt]
 have x0 := cell_at (o := 0) hb.1 rfl
 have x1 := cell_at (o := 1) hb.1 rfl
 have x2 := cell_at (o := 2) hb.1 rfl
 have x3 := cell_at (o := 3) hb.1 rfl
 have HB := Lib.hid hb
 clear ho hT hb
 generalize askX t s = x at *
 cases ha : askT t s
 all_goals
  rw [ha] at AC
  clear ha
  go_enter Tryz.func123, Tryz.ntmps123
  go_wp2_with fail
  refine (AC.out _ HB.out).mono ?_
  rintro e w1 ⟨rfl, hb⟩
  have HB1 := Lib.hid hb.2
  clear hb x0 x1 x2 x3
  go_wp2_with fail
  go_ret
  exact ⟨rfl, HB1.out.alloc HB1.out.size _⟩
set_option maxRecDepth 100000 in
set_option maxHeartbeats 6400000 in
theorem firstNamesI (t : Tb) (ca : Option Addr) (cc : Nat) (ua : Option Addr) (uc : Nat) (A : Nat → Prop) (list : List (List UInt8)) (a : Option Addr) (c : Nat) (B : Nat → Prop) (w : World) (hto : t.ok) (ho : (dStringS list).le maxLen) (hT : t.Has w A ca ua) (hL : Rd w B (dStringS list) (.slice a list.length c)) :
  Calls Tryz.prog 75 #[.agg #[.string ⟨t.nm.toArray⟩, .slice ca t.cols.length cc, .slice ua t.uq.length uc, .bool t.rt], .slice a list.length c, .func (.func 123) #[] #[]] w fun e w' => e = .returned (.int .i64 (pkN t list)) ∧ Below w.heap.size w w' := by
 have HL : Hid (∀ W, Below w.heap.size w W → Rd W B (Ls 1 cString list) (.slice a list.length c)) := fun W h => Rd.later hL h
 have HT : Hid (t.ok ∧ ∀ W, Below w.heap.size w W → t.Has W A ca ua) := ⟨hto, fun W h => hT.later h⟩
 have hll : list.length ≤ maxLen := (Ls_le.1 ho).2.1
 unfold maxLen at hll
 have HX := Lib.hid (boxD 75 w #[.string ⟨t.nm.toArray⟩, .slice ca t.cols.length cc, .slice ua t.uq.length uc, .bool t.rt])
 clear ho hL hT hto
 go_enter Tryz.func75, Tryz.ntmps75
 go_wp2_with fail
 go_loopw [11] (fun i wr => ∃ k : Nat, k ≤ list.length ∧ i = .int .i64 k ∧ Hid ((∀ m (h : m < list.length), m < k → askT t list[m] = true) ∧ BoxD 75 w wr #[.string ⟨t.nm.toArray⟩, .slice ca t.cols.length cc, .slice ua t.uq.length uc, .bool t.rt])) (fun i _ => list.length - (intOf i).toNat)
 case atStart => exact ⟨0, Nat.zero_le _, rfl, fun m _ h => absurd h (by omega), HX.out⟩
 case round =>
  obtain ⟨k, hk, rfl, HW⟩ := hrel
  by_cases hlt : k < list.length
  case neg =>
   have hki : decide ((k : Int) < (list.length : Int)) = false := by simp; omega
   have HR : Hid (pkN t list = 0) := pkN_yes (fun m h => HW.out.1 m h (by omega))
   go_wp2_with fail
   go_ret
   exact ⟨ret_i HR.out.symm, HW.out.2.2⟩
  have hki : (k : Int) < (list.length : Int) := by omega
  obtain ⟨b, off, rfl, -, hc⟩ := (HL.out _ HW.out.2.2).things k hlt
  clear hc
  have HNO : Hid (askT t list[k] = false → pkN t list = 11) := fun h => pkN_no hlt h
  have HNX : Hid (askT t list[k] = true → ∀ m (h : m < list.length), m < k + 1 → askT t list[m] = true) := fun he m h hm => by
   by_cases e : m = k
   ·
    subst e; exact he
   ·
    exact HW.out.1 m h (by omega)
  have CC : Hid (∀ W, Below wr.heap.size wr W → Calls Tryz.prog 123 #[.agg #[.string ⟨t.nm.toArray⟩, .slice ca t.cols.length cc, .slice ua t.uq.length uc, .bool t.rt], .string ⟨list[k].toArray⟩] W fun e w' => e = .returned (.int .i64 (if askT t list[k] = true then 0 else 11)) ∧ Below W.heap.size W w') := fun W h => columnCodeI t list[k] ca cc ua uc A W HT.out.1 (HT.out.2 W (HW.out.2.2.trans (h.mono HW.out.2.2.size)))
  have CX : Hid (∀ W, Below wr.heap.size wr W → W.cell? ⟨w.heap.size, 0, none⟩ = some (.string ⟨t.nm.toArray⟩) ∧ W.cell? ⟨w.heap.size, 1, none⟩ = some (.slice ca t.cols.length cc) ∧ W.cell? ⟨w.heap.size, 2, none⟩ = some (.slice ua t.uq.length uc) ∧ W.cell? ⟨w.heap.size, 3, none⟩ = some (.bool t.rt) ∧ W.cell? ⟨b, off + k, none⟩ = some (.string ⟨list[k].toArray⟩)) := fun W h => ⟨cell_at (o := 0) (HW.out.2.later h).1 rfl, cell_at (o := 1) (HW.out.2.later h).1 rfl, cell_at (o := 2) (HW.out.2.later h).1 rfl, cell_at (o := 3) (HW.out.2.later h).1 rfl, by
   obtain ⟨u, e, hr⟩ := (HL.out W (HW.out.2.later h).2).spotT hlt (j := 0) (by omega)
   obtain rfl : u = .string ⟨list[k].toArray⟩ := hr
   rw [Nat.mul_one, Nat.add_zero] at e
   exact e⟩
  generalize list[k] = x at *
  go_wp2_with fail
  refine wp_region_held_drew (S := (fun W => W.cell? ⟨w.heap.size, 0, none⟩ = some (.string ⟨t.nm.toArray⟩) ∧ W.cell? ⟨w.heap.size, 1, none⟩ = some (.slice ca t.cols.length cc) ∧ W.cell? ⟨w.heap.size, 2, none⟩ = some (.slice ua t.uq.length uc) ∧ W.cell? ⟨w.heap.size, 3, none⟩ = some (.bool t.rt) ∧ W.cell? ⟨b, off + k, none⟩ = some (.string ⟨x.toArray⟩))) (by kernel_rfl) ?_ (fun hHeld => ?_)
  ·
   (first | exact CX.out _ (Below.refl _ _) | exact CX.out _ (Below.refl _ _).drew | exact CX.out _ BW.out)
  refine tkB (i := 0) ?_
  refine tkB (i := 1) ?_
  refine tkB (i := 2) ?_
  refine tkB (i := 3) ?_
  refine tkB (i := 4) ?_
  refine tkB (i := 5) ?_
  refine tkR (i := 6) (fun K hK => ?_)
  go_simp
  (go_at_call 123; refine (CC.out _ (Below.refl _ _).drew).mono ?_; rintro e w1 ⟨rfl, hB1⟩; have BW : Hid (Below wr.heap.size wr w1) := (Below.refl _ _).drew.trans hB1; clear hB1)
  refine hK.out _ _ ?_ (fun hHeld => ?_)
  ·
   (first | exact CX.out _ (Below.refl _ _) | exact CX.out _ (Below.refl _ _).drew | exact CX.out _ BW.out)
  clear hK K
  try simp only [Act.put, tkS]
  refine tkB (i := 7) ?_
  refine wpAnyH_done (by kernel_rfl) ?_ _
  have HB1 := Lib.hid (HW.out.2.later BW.out)
  cases he : askT t x
  case false =>
   have HR := Lib.hid (HNO.out he)
   rw [if_neg (by decide)]
   clear HNO HNX he CC
   go_wp2_with fail
   go_ret
   exact ⟨ret_i HR.out.symm, HB1.out.2⟩
  have HN := Lib.hid (HNX.out he)
  rw [if_pos rfl]
  clear HNO HNX he CC
  go_wp2_with fail
  go_roundw
  case rel => exact ⟨k + 1, by omega, by go_num, HN.out, HB1.out⟩
  case measure => simp [intOf]; omega
set_option maxRecDepth 100000 in
set_option maxHeartbeats 12800000 in
theorem pickColumnsI (t : Tb) (ca : Option Addr) (cc : Nat) (ua : Option Addr) (uc : Nat) (A : Nat → Prop) (r : RowV) (ra : Option Addr) (rc : Nat) (R : Nat → Prop) (names : List (List UInt8)) (a : Option Addr) (c : Nat) (B : Nat → Prop) (w : World) (hto : t.ok) (hno : (dStringS names).le 1048576) (hr : (dAtomSS r.cells).le 1048576) (hid : iOK r.id) (hT : t.Has w A ca ua) (hR : Rd w R (dAtomSS r.cells) (.slice ra r.cells.length rc)) (hL : Rd w B (dStringS names) (.slice a names.length c)) :
  Calls Tryz.prog 81 #[.agg #[.string ⟨t.nm.toArray⟩, .slice ca t.cols.length cc, .slice ua t.uq.length uc, .bool t.rt], .agg #[.int .i64 r.id, .slice ra r.cells.length rc], .slice a names.length c] w (RowAnsO w (pkR t r names) (pkC t r names)) := by
 have hrm : (dAtomSS r.cells).le maxLen := D.le.mono (by unfold maxLen; omega) _ hr
 have hll : names.length ≤ 1048576 := (Ls_le.1 hno).2.1
 have RO : Hid (∀ W, MB3 w W #[.string ⟨t.nm.toArray⟩, .slice ca t.cols.length cc, .slice ua t.uq.length uc, .bool t.rt] #[.int .i64 r.id, .slice ra r.cells.length rc] #[.int .i64 0, .slice none 0 0] → Calls Tryz.prog 122 #[.agg #[.string ⟨t.nm.toArray⟩, .slice ca t.cols.length cc, .slice ua t.uq.length uc, .bool t.rt], .agg #[.int .i64 r.id, .slice ra r.cells.length rc]] W fun e w' => e = .returned (.bool (rokM t r)) ∧ MB3 w w' #[.string ⟨t.nm.toArray⟩, .slice ca t.cols.length cc, .slice ua t.uq.length uc, .bool t.rt] #[.int .i64 r.id, .slice ra r.cells.length rc] #[.int .i64 0, .slice none 0 0]) := fun W h => by
  obtain ⟨X, hX⟩ := (hR.later h.bel).rowX
  exact (rowOKi t ca cc ua uc r.id r.cells ra rc X A W.heap.size W hto (le_sets hrm) (hT.later h.bel) (Nat.le_refl _) hX).mono (fun e w' ⟨he, hB⟩ => ⟨he, h.later hB⟩)
 have HL : Hid (∀ W, Below w.heap.size w W → Rd W B (Ls 1 cString names) (.slice a names.length c)) := fun W h => Rd.later hL h
 have FC : Hid (∀ W, MB3 w W #[.string ⟨t.nm.toArray⟩, .slice ca t.cols.length cc, .slice ua t.uq.length uc, .bool t.rt] #[.int .i64 r.id, .slice ra r.cells.length rc] #[.int .i64 0, .slice none 0 0] → Calls Tryz.prog 75 #[.agg #[.string ⟨t.nm.toArray⟩, .slice ca t.cols.length cc, .slice ua t.uq.length uc, .bool t.rt], .slice a names.length c, .func (.func 123) #[] #[]] W fun e w' => e = .returned (.int .i64 (pkN t names)) ∧ MB3 w w' #[.string ⟨t.nm.toArray⟩, .slice ca t.cols.length cc, .slice ua t.uq.length uc, .bool t.rt] #[.int .i64 r.id, .slice ra r.cells.length rc] #[.int .i64 0, .slice none 0 0]) := fun W h => (firstNamesI t ca cc ua uc A names a c B W hto (D.le.mono (by unfold maxLen; omega) _ hno) (hT.later h.bel) (hL.later h.bel)).mono (fun e w' ⟨he, hB⟩ => ⟨he, h.later hB⟩)
 have DC : Hid (rokM t r = true → ∀ (s : List UInt8) W, MB3 w W #[.string ⟨t.nm.toArray⟩, .slice ca t.cols.length cc, .slice ua t.uq.length uc, .bool t.rt] #[.int .i64 r.id, .slice ra r.cells.length rc] #[.int .i64 0, .slice none 0 0] → Calls Tryz.prog 121 #[.agg #[.string ⟨t.nm.toArray⟩, .slice ca t.cols.length cc, .slice ua t.uq.length uc, .bool t.rt], .pointer (some ⟨w.heap.size + 1, 0, none⟩), .string ⟨s.toArray⟩] W (CellAnsB W (· < w.heap.size) (cellOf t r s))) := fun hro s W h => cellB t r s ca cc ua uc (w.heap.size + 1) 0 ra rc A (· < w.heap.size) W hto (rok_len hro) (hT.later h.bel) (hR.lt.later h.bel) (cell_at (o := 0) h.rb rfl) (cell_at (o := 1) h.rb rfl)
 have CP : Hid (rokM t r = true → names.length ≤ 4096 → ∀ (W : World) (pb : Nat) (pa : Option Addr) (pc : Nat), Rd W (fun _ => True) (dAtomSS (names.map (cellOf t r))) (.slice pa (names.map (cellOf t r)).length pc) → W.cell? ⟨pb, 0, none⟩ = some (.int .i64 r.id) → W.cell? ⟨pb, 1, none⟩ = some (.slice pa (names.map (cellOf t r)).length pc) → Calls Tryz.prog 124 #[.pointer (some ⟨pb, 0, none⟩)] W fun e w' => ∃ q : Nat, e = .returned (.agg #[.int .i64 r.id, .slice (some ⟨q, 0, none⟩) (names.map (cellOf t r)).length (names.map (cellOf t r)).length]) ∧ Own w' (dAtomSS (names.map (cellOf t r))) (fun c => W.heap.size ≤ c ∧ c < w'.heap.size) (.slice (some ⟨q, 0, none⟩) (names.map (cellOf t r)).length (names.map (cellOf t r)).length) ∧ Below W.heap.size W w') := fun hro h4 W pb pa pc h1 h2 h3 => copyRowI ⟨r.id, names.map (cellOf t r)⟩ pb 0 pa pc _ W (Ls_le.2 ⟨by omega, by rw [List.length_map]; omega, fun i hi j _ => by rw [List.getElem_map]; exact cell_leK (by omega) hr hid (rok_len hro)⟩) h1 h2 h3
 have hb := mb3 w #[.string ⟨t.nm.toArray⟩, .slice ca t.cols.length cc, .slice ua t.uq.length uc, .bool t.rt] #[.int .i64 r.id, .slice ra r.cells.length rc] #[.int .i64 0, .slice none 0 0]
 have HB := Lib.hid hb
 have x0 := cell_at (o := 0) hb.tb rfl
 have x1 := cell_at (o := 1) hb.tb rfl
 have x2 := cell_at (o := 2) hb.tb rfl
 have x3 := cell_at (o := 3) hb.tb rfl
 have y0 := cell_at (o := 0) hb.rb rfl
 have y1 := cell_at (o := 1) hb.rb rfl
 have z0 := cell_at (o := 0) hb.zr rfl
 have z1 := cell_at (o := 1) hb.zr rfl
 have f0 := frozen_at 0 hb.zr
 have f1 := frozen_at 1 hb.zr
 clear hrm hto hno hr hid hT hR hL hb
 by_cases h4 : 4096 < names.length
 case pos =>
  have HP := Lib.hid (pk_long (t := t) (r := r) h4)
  have hd : decide (4096 < (names.length : Int)) = true := decide_eq_true (by omega)
  clear h4
  go_enter Tryz.func81, Tryz.ntmps81
  go_wp2_with fail
  refine bodyPost_ret (v := .tuple #[.agg #[.int .i64 0, .slice none 0 0], .int .i64 2]) (by simp [results, Tryz.results81, go_sem, *]) rfl ?_
  rw [HP.out.1, HP.out.2]
  exact ⟨none, 0, rfl, ⟨none, 0, rfl, .inl rfl⟩, by first | exact HB.out.bel | exact (HB.out.bel.setCell (by show w.heap.size ≤ w.heap.size + 1 + 1; omega) _).setCell (by show w.heap.size ≤ w.heap.size + 1 + 1; omega) _⟩
 have hd : decide (4096 < (names.length : Int)) = false := decide_eq_false (by omega)
 have H4 := Lib.hid h4
 clear h4
 cases hro : rokM t r
 case false =>
  have HP := Lib.hid (pk_bad (t := t) (r := r) H4.out hro)
  rw [hro] at RO
  clear hro
  go_enter Tryz.func81, Tryz.ntmps81
  go_wp2_with fail
  refine (RO.out _ HB.out).mono ?_
  rintro e w1 ⟨rfl, hb⟩
  have HB1 := Lib.hid hb
  clear x0 x1 x2 x3 y0 y1 z0 z1 f0 f1
  have x0 := cell_at (o := 0) hb.tb rfl
  have x1 := cell_at (o := 1) hb.tb rfl
  have x2 := cell_at (o := 2) hb.tb rfl
  have x3 := cell_at (o := 3) hb.tb rfl
  have y0 := cell_at (o := 0) hb.rb rfl
  have y1 := cell_at (o := 1) hb.rb rfl
  have z0 := cell_at (o := 0) hb.zr rfl
  have z1 := cell_at (o := 1) hb.zr rfl
  have f0 := frozen_at 0 hb.zr
  have f1 := frozen_at 1 hb.zr
  clear hb
  go_wp2_with fail
  refine bodyPost_ret (v := .tuple #[.agg #[.int .i64 0, .slice none 0 0], .int .i64 1]) (by simp [results, Tryz.results81, go_sem, *]) rfl ?_
  rw [HP.out.1, HP.out.2]
  exact ⟨none, 0, rfl, ⟨none, 0, rfl, .inl rfl⟩, by first | exact HB1.out.bel | exact (HB1.out.bel.setCell (by show w.heap.size ≤ w.heap.size + 1 + 1; omega) _).setCell (by show w.heap.size ≤ w.heap.size + 1 + 1; omega) _⟩
 have HRO := Lib.hid hro
 rw [hro] at RO
 clear hro
 obtain ⟨iA, hiA⟩ := infoAs
 have HIA := Lib.hid hiA
 clear hiA
 have HN4 : Hid (names.length ≤ 4096) := by have := H4.out; show _ ≤ _; omega
 by_cases h0 : pkN t names = 0
 case neg =>
  have HP := Lib.hid (pk_code H4.out HRO.out h0)
  have hne : (pkN t names != 0) = true := by simpa using h0
  clear h0
  go_enter Tryz.func81, Tryz.ntmps81
  go_wp2_with fail
  refine (RO.out _ HB.out).mono ?_
  rintro e w1 ⟨rfl, hb⟩
  have HB1 := Lib.hid hb
  clear x0 x1 x2 x3 y0 y1 z0 z1 f0 f1
  have x0 := cell_at (o := 0) hb.tb rfl
  have x1 := cell_at (o := 1) hb.tb rfl
  have x2 := cell_at (o := 2) hb.tb rfl
  have x3 := cell_at (o := 3) hb.tb rfl
  have y0 := cell_at (o := 0) hb.rb rfl
  have y1 := cell_at (o := 1) hb.rb rfl
  have z0 := cell_at (o := 0) hb.zr rfl
  have z1 := cell_at (o := 1) hb.zr rfl
  have f0 := frozen_at 0 hb.zr
  have f1 := frozen_at 1 hb.zr
  clear hb
  go_wp2_with fail
  refine (FC.out _ HB1.out).mono ?_
  rintro e w2 ⟨rfl, hb⟩
  have HB2 := Lib.hid hb
  clear x0 x1 x2 x3 y0 y1 z0 z1 f0 f1
  have x0 := cell_at (o := 0) hb.tb rfl
  have x1 := cell_at (o := 1) hb.tb rfl
  have x2 := cell_at (o := 2) hb.tb rfl
  have x3 := cell_at (o := 3) hb.tb rfl
  have y0 := cell_at (o := 0) hb.rb rfl
  have y1 := cell_at (o := 1) hb.rb rfl
  have z0 := cell_at (o := 0) hb.zr rfl
  have z1 := cell_at (o := 1) hb.zr rfl
  have f0 := frozen_at 0 hb.zr
  have f1 := frozen_at 1 hb.zr
  clear hb
  go_wp2_with fail
  refine bodyPost_ret (v := .tuple #[.agg #[.int .i64 0, .slice none 0 0], .int .i64 (pkN t names)]) (by simp [results, Tryz.results81, go_sem, *]) rfl ?_
  rw [HP.out.1, HP.out.2]
  exact ⟨none, 0, rfl, ⟨none, 0, rfl, .inl rfl⟩, by first | exact HB2.out.bel | exact (HB2.out.bel.setCell (by show w.heap.size ≤ w.heap.size + 1 + 1; omega) _).setCell (by show w.heap.size ≤ w.heap.size + 1 + 1; omega) _⟩
 have HP := Lib.hid (pk_ok H4.out HRO.out h0)
 rw [h0] at FC
 clear h0
 go_enter Tryz.func81, Tryz.ntmps81
 go_wp2_with fail
 refine (RO.out _ HB.out).mono ?_
 rintro e w1 ⟨rfl, hb⟩
 have HB1 := Lib.hid hb
 clear x0 x1 x2 x3 y0 y1 z0 z1 f0 f1
 have x0 := cell_at (o := 0) hb.tb rfl
 have x1 := cell_at (o := 1) hb.tb rfl
 have x2 := cell_at (o := 2) hb.tb rfl
 have x3 := cell_at (o := 3) hb.tb rfl
 have y0 := cell_at (o := 0) hb.rb rfl
 have y1 := cell_at (o := 1) hb.rb rfl
 have z0 := cell_at (o := 0) hb.zr rfl
 have z1 := cell_at (o := 1) hb.zr rfl
 have f0 := frozen_at 0 hb.zr
 have f1 := frozen_at 1 hb.zr
 clear hb
 go_wp2_with fail
 refine (FC.out _ HB1.out).mono ?_
 rintro e w2 ⟨rfl, hb⟩
 have HB2 := Lib.hid hb
 clear x0 x1 x2 x3 y0 y1 z0 z1 f0 f1
 have x0 := cell_at (o := 0) hb.tb rfl
 have x1 := cell_at (o := 1) hb.tb rfl
 have x2 := cell_at (o := 2) hb.tb rfl
 have x3 := cell_at (o := 3) hb.tb rfl
 have y0 := cell_at (o := 0) hb.rb rfl
 have y1 := cell_at (o := 1) hb.rb rfl
 have z0 := cell_at (o := 0) hb.zr rfl
 have z1 := cell_at (o := 1) hb.zr rfl
 have f0 := frozen_at 0 hb.zr
 have f1 := frozen_at 1 hb.zr
 clear hb
 obtain ⟨pb, hpb⟩ : ∃ pb, pb = w2.heap.size := ⟨_, rfl⟩
 have ST0 : Hid (GP w (w2.alloc (.cells #[.int .i64 r.id, .slice none 0 0] 81)) [.cells #[.string ⟨t.nm.toArray⟩, .slice ca t.cols.length cc, .slice ua t.uq.length uc, .bool t.rt] 75, .cells #[.int .i64 r.id, .slice ra r.cells.length rc] 81, .cells #[.int .i64 0, .slice none 0 0] 81] pb 81 (fun v => #[.int .i64 r.id, v]) 117 (lsF cAtomS (names.map (cellOf t r))) 0 (.slice none 0 0)) := by
  rw [hpb]
  refine GP.first (co := (fun v => #[.int .i64 r.id, v])) (fun i o hi => ?_) (by have := (Array.getElem?_eq_some_iff.1 HB2.out.zr).1; show w.heap.size + 3 ≤ _; omega) HB2.out.bel
  match i, hi with
  | 0, hi => simp only [List.getElem?_cons_zero, Option.some.injEq] at hi; subst hi; exact HB2.out.tb
  | 1, hi => simp only [List.getElem?_cons_succ, List.getElem?_cons_zero, Option.some.injEq] at hi; subst hi; exact HB2.out.rb
  | 2, hi => simp only [List.getElem?_cons_succ, List.getElem?_cons_zero, Option.some.injEq] at hi; subst hi; exact HB2.out.zr
  | n + 3, hi => simp at hi
 have HPB := Lib.hid hpb
 clear hpb
 go_wp2_with fail
 rw [← HPB.out]
 clear x0 x1 x2 x3 y0 y1 z0 z1 f0 f1
 clear HB HB1 HB2 RO FC HPB
 go_loopw [33] (fun i wr => ∃ k : Nat, k ≤ names.length ∧ i = .int .i64 k ∧ Hid (∃ va vc, GP w wr [.cells #[.string ⟨t.nm.toArray⟩, .slice ca t.cols.length cc, .slice ua t.uq.length uc, .bool t.rt] 75, .cells #[.int .i64 r.id, .slice ra r.cells.length rc] 81, .cells #[.int .i64 0, .slice none 0 0] 81] pb 81 (fun v => #[.int .i64 r.id, v]) 117 (lsF cAtomS (names.map (cellOf t r))) k (.slice va k vc))) (fun i _ => names.length - (intOf i).toNat)
 case atStart => exact ⟨0, Nat.zero_le _, rfl, _, _, ST0.out⟩
 case round =>
  obtain ⟨k, hk, rfl, HW⟩ := hrel
  obtain ⟨va, vc, hN⟩ := HW.out
  have HN := Lib.hid hN
  clear HW
  have t0 := cell_at (o := 0) hN.ot rfl
  have t1 := cell_at (o := 1) hN.ot rfl
  have HMB : Hid (∀ V, Below wr.heap.size wr V → MB3 w V #[.string ⟨t.nm.toArray⟩, .slice ca t.cols.length cc, .slice ua t.uq.length uc, .bool t.rt] #[.int .i64 r.id, .slice ra r.cells.length rc] #[.int .i64 0, .slice none 0 0]) := fun V hB => ⟨heap_keptD (hN.bx 0 _ rfl) hB, heap_keptD (hN.bx 1 _ rfl) hB, heap_keptD (hN.bx 2 _ rfl) hB, hN.bel.trans (hB.mono hN.bel.size)⟩
  by_cases hlt : k < names.length
  case neg =>
   have hkd : decide ((k : Int) < (names.length : Int)) = false := by simp; omega
   have HKM : Hid (k = (names.map (cellOf t r)).length) := by show k = _; rw [List.length_map]; omega
   have HRD : Hid (Rd wr (fun _ => True) (dAtomSS (names.map (cellOf t r))) (.slice va (names.map (cellOf t r)).length vc)) := by have h := hN.rd.any; have hk := HKM.out; rw [hk] at h; exact h
   rw [HKM.out] at t1
   have CPX := Lib.hid (CP.out HRO.out HN4.out wr pb va vc HRD.out t0 t1)
   clear hN
   go_wp2_with fail
   refine CPX.out.mono ?_
   rintro e w4 ⟨q, rfl, hown, hB4⟩
   have HB4 := Lib.hid (HMB.out _ hB4)
   have HOW : Hid (Own w4 (dAtomSS (names.map (cellOf t r))) (fun b => w.heap.size + 1 + 1 + 1 ≤ b ∧ b < w4.heap.size) (.slice (some ⟨q, 0, none⟩) (names.map (cellOf t r)).length (names.map (cellOf t r)).length)) := hown.mono (fun b hb => ⟨by have h1 := hb.1; have h2 := (Array.getElem?_eq_some_iff.1 (HMB.out _ (Below.refl _ _)).zr).1; omega, hb.2⟩)
   clear hown hB4 t0 t1 CPX CP HRD HKM
   generalize names.map (cellOf t r) = y at *
   have z0 := cell_at (o := 0) HB4.out.zr rfl
   have f0 := frozen_at 0 HB4.out.zr
   have z1 := cell_at (o := 1) HB4.out.zr rfl
   have f1 := frozen_at 1 HB4.out.zr
   go_wp2_with fail
   refine bodyPost_ret (v := .tuple #[.agg #[.int .i64 r.id, .slice (some ⟨q, 0, none⟩) y.length y.length], .int .i64 0]) (by simp [results, Tryz.results81, go_sem, *]) rfl ?_
   rw [HP.out.1, HP.out.2]
   refine ⟨_, _, rfl, ?_, (HB4.out.bel.setCell (by show w.heap.size ≤ w.heap.size + 1 + 1; omega) _).setCell (by show w.heap.size ≤ w.heap.size + 1 + 1; omega) _⟩
   exact (HOW.out.frm (F := (· = w.heap.size + 1 + 1)) ((frm_set _ _ _ _).trans (frm_set _ _ _ _)) (fun b hb e => by have h1 := hb.1; have e2 : b = w.heap.size + 1 + 1 := e; omega)).mono (fun b hb => ⟨by have := hb.1; omega, by simpa using hb.2⟩)
  have hki : (k : Int) < (names.length : Int) := by omega
  obtain ⟨b, off, rfl, -, hc⟩ := (HL.out _ hN.bel).things k hlt
  obtain ⟨u0, l0, lr0⟩ := hc 0 (by omega)
  obtain rfl : u0 = .string ⟨names[k].toArray⟩ := lr0
  rw [Nat.mul_one, Nat.add_zero] at l0
  clear hc
  have CE : Hid (∀ W : World, (W.heap[w.heap.size]? = some (.cells #[.string ⟨t.nm.toArray⟩, .slice ca t.cols.length cc, .slice ua t.uq.length uc, .bool t.rt] 75)) → W.cell? ⟨w.heap.size, 0, none⟩ = some (.string ⟨t.nm.toArray⟩) ∧ W.cell? ⟨w.heap.size, 1, none⟩ = some (.slice ca t.cols.length cc) ∧ W.cell? ⟨w.heap.size, 2, none⟩ = some (.slice ua t.uq.length uc) ∧ W.cell? ⟨w.heap.size, 3, none⟩ = some (.bool t.rt)) := fun W h => ⟨cell_at (o := 0) h rfl, cell_at (o := 1) h rfl, cell_at (o := 2) h rfl, cell_at (o := 3) h rfl⟩
  have BW0 : Hid (wr.drew.heap[w.heap.size]? = some (.cells #[.string ⟨t.nm.toArray⟩, .slice ca t.cols.length cc, .slice ua t.uq.length uc, .bool t.rt] 75)) := hN.bx 0 _ rfl
  have PU : Hid (∀ (V : World) (a8 : Option Addr) (c8 : Nat), Below wr.heap.size wr V → Rd V (fun b => b < w.heap.size ∨ wr.heap.size ≤ b) (dAtomS (cellOf t r names[k])) (.slice a8 (cellOf t r names[k]).length c8) → ∃ a' c' W4, (Builtin.append_ #[79, 79] 79 #[.slice va k vc, .slice (some ⟨V.heap.size, 0, none⟩) 1 1]).run Tryz.prog (V.alloc (.cells #[.slice a8 (cellOf t r names[k]).length c8] 117)) = .ok (.slice a' (k + 1) c') W4 ∧ GP w (W4.setCell ⟨pb, 1, none⟩ (.slice a' (k + 1) c')) [.cells #[.string ⟨t.nm.toArray⟩, .slice ca t.cols.length cc, .slice ua t.uq.length uc, .bool t.rt] 75, .cells #[.int .i64 r.id, .slice ra r.cells.length rc] 81, .cells #[.int .i64 0, .slice none 0 0] 81] pb 81 (fun v => #[.int .i64 r.id, v]) 117 (lsF cAtomS (names.map (cellOf t r))) (k + 1) (.slice a' (k + 1) c') ∧ W4.heap[pb]? = some (.cells #[.int .i64 r.id, .slice va k vc] 81) ∧ (W4.heap[w.heap.size]? = some (.cells #[.string ⟨t.nm.toArray⟩, .slice ca t.cols.length cc, .slice ua t.uq.length uc, .bool t.rt] 75))) := fun V a8 c8 hB ho => by
   obtain ⟨a', c', W4, h1, h2, h3, h4, h5⟩ := HN.out.push (P := Tryz.prog) 79 79 iA (.slice none 0 0) 24 Tryz.underlying79 HIA.out.1 HIA.out.2.1 HIA.out.2.2.1 HIA.out.2.2.2 rfl 1 (fun _ => rfl) hB (.slice a8 (cellOf t r names[k]).length c8) rfl (by have := HN4.out; unfold maxLen; omega) (by have := HN4.out; omega) (by rw [pkF hlt]; exact ho)
   exact ⟨a', c', W4, h1, h2, h3, h4 0 _ rfl⟩
  have DF : Hid (∀ W, Below wr.heap.size wr W → Calls Tryz.prog 121 #[.agg #[.string ⟨t.nm.toArray⟩, .slice ca t.cols.length cc, .slice ua t.uq.length uc, .bool t.rt], .pointer (some ⟨w.heap.size + 1, 0, none⟩), .string ⟨names[k].toArray⟩] W (CellAnsB W (· < w.heap.size) (cellOf t r names[k]))) := fun W h => DC.out HRO.out names[k] W (HMB.out W h)
  have KB : Hid (∀ V, Below wr.heap.size wr V → (V.heap[w.heap.size]? = some (.cells #[.string ⟨t.nm.toArray⟩, .slice ca t.cols.length cc, .slice ua t.uq.length uc, .bool t.rt] 75)) ∧ V.cell? ⟨pb, 1, none⟩ = some (.slice va k vc)) := fun V hB => ⟨heap_keptD (hN.bx 0 _ rfl) hB, cell_at (o := 1) (heap_keptD hN.ot hB) rfl⟩
  clear hN t0 t1
  generalize cellOf t r names[k] = s at *
  generalize names[k] = y at *
  go_wp2_with fail
  clear l0
  have p0 := (KB.out _ (Below.refl _ _).drew).2
  refine wp_region_held_drew (S := (fun W => W.cell? ⟨w.heap.size, 0, none⟩ = some (.string ⟨t.nm.toArray⟩) ∧ W.cell? ⟨w.heap.size, 1, none⟩ = some (.slice ca t.cols.length cc) ∧ W.cell? ⟨w.heap.size, 2, none⟩ = some (.slice ua t.uq.length uc) ∧ W.cell? ⟨w.heap.size, 3, none⟩ = some (.bool t.rt))) (by kernel_rfl) ?_ (fun hHeld => ?_)
  ·
   (exact CE.out _ (by first | exact BW0.out | exact BW1.out | exact BW3.out | exact BW4.out | exact BW5.out))
  refine tkB (i := 0) ?_
  refine tkB (i := 2) ?_
  refine tkB (i := 3) ?_
  refine wpAnyH_ready (rs := [1, 4]) (by kernel_rfl) (by simp) (AllReadyH.cons rfl (fun K hK => ?_) (AllReadyH.cons rfl (fun K hK => ?_) AllReadyH.nil))
  ·
   go_simp
   refine hK.out _ _ ?_ (fun hHeld => ?_)
   ·
    (exact CE.out _ (by first | exact BW0.out | exact BW1.out | exact BW3.out | exact BW4.out | exact BW5.out))
   clear hK K
   try simp only [Act.put, tkS]
   refine tkR (i := 4) (fun K hK => ?_)
   go_simp
   go_at_call 121
   refine (DF.out _ (Below.refl _ _).drew).mono ?_
   rintro e w1 ⟨a8, c8, rfl, ho, hB⟩
   have bW1 : Below wr.heap.size wr w1 := (Below.refl _ _).drew.trans hB
   have BW1 : Hid (w1.heap[w.heap.size]? = some (.cells #[.string ⟨t.nm.toArray⟩, .slice ca t.cols.length cc, .slice ua t.uq.length uc, .bool t.rt] 75)) := (KB.out _ bW1).1
   have p1 := (KB.out _ bW1).2
   have BW3 : Hid ((w1.alloc (.cells #[.slice a8 s.length c8] 117)).heap[w.heap.size]? = some (.cells #[.string ⟨t.nm.toArray⟩, .slice ca t.cols.length cc, .slice ua t.uq.length uc, .bool t.rt] 75)) := (KB.out _ (bW1.alloc bW1.size _)).1
   have p3 := (KB.out _ (bW1.alloc bW1.size (.cells #[.slice a8 s.length c8] 117))).2
   obtain ⟨a', c', W4, hr6, hst, o4, hk4⟩ := PU.out w1 a8 c8 bW1 (ho.mono (fun b hb => hb))
   have RUN6 := Lib.hid hr6
   have HST := Lib.hid hst
   have BW4 : Hid (W4.heap[w.heap.size]? = some (.cells #[.string ⟨t.nm.toArray⟩, .slice ca t.cols.length cc, .slice ua t.uq.length uc, .bool t.rt] 75)) := hk4
   have BW5 : Hid ((W4.setCell ⟨pb, 1, none⟩ (.slice a' (k + 1) c')).heap[w.heap.size]? = some (.cells #[.string ⟨t.nm.toArray⟩, .slice ca t.cols.length cc, .slice ua t.uq.length uc, .bool t.rt] 75)) := hst.bx 0 _ rfl
   have t4 := cell_at (o := 1) o4 rfl
   have z4 := frozen_at 1 o4
   clear hr6 hst o4 hk4 ho hB bW1
   refine hK.out _ _ ?_ (fun hHeld => ?_)
   ·
    (exact CE.out _ (by first | exact BW0.out | exact BW1.out | exact BW3.out | exact BW4.out | exact BW5.out))
   clear hK K
   try simp only [Act.put, tkS]
   refine tkR (i := 5) (fun K hK => ?_)
   go_simp
   refine hK.out _ _ ?_ (fun hHeld => ?_)
   ·
    (exact CE.out _ (by first | exact BW0.out | exact BW1.out | exact BW3.out | exact BW4.out | exact BW5.out))
   clear hK K
   try simp only [Act.put, tkS]
   refine tkR (i := 6) (fun K hK => ?_)
   refine step_append_is rfl (.tmp 38) (.tmp 42) 79 rfl _ _ (by rfl) (by rfl) _ _ RUN6.out ?_
   refine hK.out _ _ ?_ (fun hHeld => ?_)
   ·
    (exact CE.out _ (by first | exact BW0.out | exact BW1.out | exact BW3.out | exact BW4.out | exact BW5.out))
   clear hK K
   try simp only [Act.put, tkS]
   refine tkB (i := 7) ?_
   refine tkR (i := 8) (fun K hK => ?_)
   go_simp
   refine hK.out _ _ ?_ (fun hHeld => ?_)
   ·
    (exact CE.out _ (by first | exact BW0.out | exact BW1.out | exact BW3.out | exact BW4.out | exact BW5.out))
   clear hK K
   try simp only [Act.put, tkS]
   refine wpAnyH_done (by kernel_rfl) ?_ _
   go_wp2_with fail
   go_roundw
   case rel => exact ⟨k + 1, by omega, by go_num, a', c', HST.out⟩
   case measure => simp [intOf]; omega
  ·
   go_simp
   go_at_call 121
   refine (DF.out _ (Below.refl _ _).drew).mono ?_
   rintro e w1 ⟨a8, c8, rfl, ho, hB⟩
   have bW1 : Below wr.heap.size wr w1 := (Below.refl _ _).drew.trans hB
   have BW1 : Hid (w1.heap[w.heap.size]? = some (.cells #[.string ⟨t.nm.toArray⟩, .slice ca t.cols.length cc, .slice ua t.uq.length uc, .bool t.rt] 75)) := (KB.out _ bW1).1
   have p1 := (KB.out _ bW1).2
   have BW3 : Hid ((w1.alloc (.cells #[.slice a8 s.length c8] 117)).heap[w.heap.size]? = some (.cells #[.string ⟨t.nm.toArray⟩, .slice ca t.cols.length cc, .slice ua t.uq.length uc, .bool t.rt] 75)) := (KB.out _ (bW1.alloc bW1.size _)).1
   have p3 := (KB.out _ (bW1.alloc bW1.size (.cells #[.slice a8 s.length c8] 117))).2
   obtain ⟨a', c', W4, hr6, hst, o4, hk4⟩ := PU.out w1 a8 c8 bW1 (ho.mono (fun b hb => hb))
   have RUN6 := Lib.hid hr6
   have HST := Lib.hid hst
   have BW4 : Hid (W4.heap[w.heap.size]? = some (.cells #[.string ⟨t.nm.toArray⟩, .slice ca t.cols.length cc, .slice ua t.uq.length uc, .bool t.rt] 75)) := hk4
   have BW5 : Hid ((W4.setCell ⟨pb, 1, none⟩ (.slice a' (k + 1) c')).heap[w.heap.size]? = some (.cells #[.string ⟨t.nm.toArray⟩, .slice ca t.cols.length cc, .slice ua t.uq.length uc, .bool t.rt] 75)) := hst.bx 0 _ rfl
   have t4 := cell_at (o := 1) o4 rfl
   have z4 := frozen_at 1 o4
   clear hr6 hst o4 hk4 ho hB bW1
   refine hK.out _ _ ?_ (fun hHeld => ?_)
   ·
    (exact CE.out _ (by first | exact BW0.out | exact BW1.out | exact BW3.out | exact BW4.out | exact BW5.out))
   clear hK K
   try simp only [Act.put, tkS]
   refine wpAnyH_ready (rs := [1, 5]) (by kernel_rfl) (by simp) (AllReadyH.cons rfl (fun K hK => ?_) (AllReadyH.cons rfl (fun K hK => ?_) AllReadyH.nil))
   ·
    go_simp
    refine hK.out _ _ ?_ (fun hHeld => ?_)
    ·
     (exact CE.out _ (by first | exact BW0.out | exact BW1.out | exact BW3.out | exact BW4.out | exact BW5.out))
    clear hK K
    try simp only [Act.put, tkS]
    refine tkR (i := 5) (fun K hK => ?_)
    go_simp
    refine hK.out _ _ ?_ (fun hHeld => ?_)
    ·
     (exact CE.out _ (by first | exact BW0.out | exact BW1.out | exact BW3.out | exact BW4.out | exact BW5.out))
    clear hK K
    try simp only [Act.put, tkS]
    refine tkR (i := 6) (fun K hK => ?_)
    refine step_append_is rfl (.tmp 38) (.tmp 42) 79 rfl _ _ (by rfl) (by rfl) _ _ RUN6.out ?_
    refine hK.out _ _ ?_ (fun hHeld => ?_)
    ·
     (exact CE.out _ (by first | exact BW0.out | exact BW1.out | exact BW3.out | exact BW4.out | exact BW5.out))
    clear hK K
    try simp only [Act.put, tkS]
    refine tkB (i := 7) ?_
    refine tkR (i := 8) (fun K hK => ?_)
    go_simp
    refine hK.out _ _ ?_ (fun hHeld => ?_)
    ·
     (exact CE.out _ (by first | exact BW0.out | exact BW1.out | exact BW3.out | exact BW4.out | exact BW5.out))
    clear hK K
    try simp only [Act.put, tkS]
    refine wpAnyH_done (by kernel_rfl) ?_ _
    go_wp2_with fail
    go_roundw
    case rel => exact ⟨k + 1, by omega, by go_num, a', c', HST.out⟩
    case measure => simp [intOf]; omega
   ·
    go_simp
    refine hK.out _ _ ?_ (fun hHeld => ?_)
    ·
     (exact CE.out _ (by first | exact BW0.out | exact BW1.out | exact BW3.out | exact BW4.out | exact BW5.out))
    clear hK K
    try simp only [Act.put, tkS]
    refine tkR (i := 1) (fun K hK => ?_)
    go_simp
    refine hK.out _ _ ?_ (fun hHeld => ?_)
    ·
     (exact CE.out _ (by first | exact BW0.out | exact BW1.out | exact BW3.out | exact BW4.out | exact BW5.out))
    clear hK K
    try simp only [Act.put, tkS]
    refine tkR (i := 6) (fun K hK => ?_)
    refine step_append_is rfl (.tmp 38) (.tmp 42) 79 rfl _ _ (by rfl) (by rfl) _ _ RUN6.out ?_
    refine hK.out _ _ ?_ (fun hHeld => ?_)
    ·
     (exact CE.out _ (by first | exact BW0.out | exact BW1.out | exact BW3.out | exact BW4.out | exact BW5.out))
    clear hK K
    try simp only [Act.put, tkS]
    refine tkB (i := 7) ?_
    refine tkR (i := 8) (fun K hK => ?_)
    go_simp
    refine hK.out _ _ ?_ (fun hHeld => ?_)
    ·
     (exact CE.out _ (by first | exact BW0.out | exact BW1.out | exact BW3.out | exact BW4.out | exact BW5.out))
    clear hK K
    try simp only [Act.put, tkS]
    refine wpAnyH_done (by kernel_rfl) ?_ _
    go_wp2_with fail
    go_roundw
    case rel => exact ⟨k + 1, by omega, by go_num, a', c', HST.out⟩
    case measure => simp [intOf]; omega
end Go.Proofs.YtlddhbamcndggaaGreatDoor
