import Derived.Test.YtlddhbamcndggaaGreatDoorZaq
import Derived.Test.YtlddhbamcndggaaGreatDoorZaz
import Derived.Test.YtlddhbamcndggaaGreatDoorZab
import Derived.ArgAppend
import Derived.Deep.RegionLaw
import Derived.Test.YtlddhbamcndggaaGreatDoorZaf
namespace Go.Proofs.YtlddhbamcndggaaGreatDoor
open Go.RowKit
set_option linter.unusedSimpArgs false
theorem Rd.tabs {w : World} {B : Nat → Prop} {l : List Tb} {a : Option Addr} {c : Nat} (h : Rd w B (dTableS l) (.slice a l.length c)) : ∃ A, Tabs w B a l A := by
 have hp : ∀ i, ∃ ad : Ad, ∀ hi : i < l.length, ∀ b off, a = some ⟨b, off, none⟩ → (∀ j, j < 4 → w.cell? ⟨b, off + i * 4 + j, none⟩ = some ((tbC l[i] ad).getD j undef)) ∧ l[i].Has w B ad.ca ad.ua := fun i => by
  by_cases hi : i < l.length
  ·
   obtain ⟨b, off, ha, -, hc⟩ := Rd.things (d := dTable) (n := 4) h i hi
   obtain ⟨u0, c0, r0⟩ := hc 0 (by omega)
   obtain rfl : u0 = .string ⟨l[i].nm.toArray⟩ := r0
   obtain ⟨u1, c1, r1⟩ := hc 1 (by omega)
   replace r1 : Rd w B (dColumnS l[i].cols) u1 := r1
   obtain ⟨a1, q1, rfl⟩ := r1.lsSlice
   obtain ⟨u2, c2, r2⟩ := hc 2 (by omega)
   replace r2 : Rd w B (dIntS l[i].uq) u2 := r2
   obtain ⟨a2, q2, rfl⟩ := r2.lsSlice
   obtain ⟨u3, c3, r3⟩ := hc 3 (by omega)
   obtain rfl : u3 = .bool l[i].rt := r3
   refine ⟨⟨a1, q1, a2, q2⟩, fun _ b' off' ha' => ?_⟩
   rw [ha] at ha'
   simp only [Option.some.injEq, Addr.mk.injEq, and_true] at ha'
   obtain ⟨rfl, rfl⟩ := ha'
   refine ⟨fun j hj => ?_, Rd.hasT r1 r2⟩
   rcases (by omega : j = 0 ∨ j = 1 ∨ j = 2 ∨ j = 3) with rfl | rfl | rfl | rfl
   ·
    exact c0
   ·
    exact c1
   ·
    exact c2
   ·
    exact c3
  ·
   exact ⟨⟨none, 0, none, 0⟩, fun hi' => absurd hi' hi⟩
 obtain ⟨A, hA⟩ := Classical.axiomOfChoice hp
 refine ⟨A, ?_, fun i hi => ?_⟩
 ·
  by_cases h0 : l.length = 0
  ·
   exact .inl (by rw [h0])
  obtain ⟨b, off, ha, hb, -⟩ := Rd.things (d := dTable) (n := 4) h 0 (by omega)
  refine .inr ⟨b, off, ha, hb, fun m hm => ?_⟩
  have hi : m / 4 < l.length := by omega
  have h1 := (hA (m / 4) hi b off ha).1 (m % 4) (by omega)
  rw [Nat.add_assoc, Nat.div_add_mod'] at h1
  rw [h1]
  have h2 := tbF_at (l := l) (A := A) hi (show m % 4 < 4 by omega)
  rw [Nat.div_add_mod'] at h2
  rw [h2]
 ·
  obtain ⟨b, off, ha, -, -⟩ := Rd.things (d := dTable) (n := 4) h i hi
  exact (hA i hi b off ha).2
theorem le_tables {l : List Tb} (h : (dTableS l).le maxLen) : TbsOk l := by
 refine ⟨(Ls_le.1 h).2.1, fun t ht => ?_⟩
 obtain ⟨i, hi, rfl⟩ := List.mem_iff_getElem.1 ht
 have hx := (Ls_le.1 h).2.2 i hi
 exact le_table (hx 0 (by omega)) (hx 1 (by omega)) (hx 2 (by omega))
theorem run_append_own3 {P : Program} (w : World) (base : Nat) (t ty e : TypeId) (i : TypeInfo) (z : Value) (size bytes : Nat) (ht : P.underlying t = some (.slice e)) (hi : P.info? e = some i) (hz : i.zero = some z)
  (hsize : i.size = size) (hby : i.bytes = bytes) (hzs : z.cells.size = size) (hsz : 0 < size)
  (v : Value) (n : Nat) (xs : List Value) (hown : w.ownsRow base e size v n xs)
  (a : Addr) (m c : Nat) (news : List Value) (hl : news.length = m * size) (hnews : ∀ j u, news[j]? = some u → w.cell? (a.add j) = some u) (h1 : ∀ u ∈ news, u.oneCell' = true)
  (h63 : n + m ≤ maxLen) (hbytes : (n + m) * bytes ≤ 140737488355328) (hbase : base ≤ w.heap.size) (hm : 0 < m) :
  ∃ v' w', (Builtin.append_ #[t, t] ty #[v, .slice (some a) m c]).run P w = .ok v' w' ∧ w'.ownsRow base e size v' (n + m) (xs ++ news) ∧ w.grownBy w' v.ownBlock ∧
   ∃ g, v'.ownBlock = some g ∧ (v.ownBlock = some g ∨ w.heap.size ≤ g) := by
 subst hsize
 obtain ⟨v', w', hr, h2, h3, -⟩ := run_append_own (P := P) w base t ty e i z i.size bytes ht hi hz rfl hby hzs hsz v n xs hown a m c news hl hnews h1 h63 hbytes hbase
 refine ⟨v', w', hr, h2, h3, ?_⟩
 have fresh : ∀ {v'' : Value} {w'' : World} {ys : List Value}, w''.ownsRow w.heap.size e i.size v'' (n + m) ys → ∃ g, v''.ownBlock = some g ∧ w.heap.size ≤ g := by
  intro v'' w'' ys h
  rcases h.2 with ⟨-, h0⟩ | ⟨g, cap, cur, rfl, hg, -⟩
  ·
   omega
  ·
   exact ⟨g, rfl, hg⟩
 have hown' := hown
 rcases hown'.2 with ⟨rfl, rfl⟩ | ⟨g, cap, cur, rfl, hg, hb, hn, hcap, hcs, hx⟩
 ·
  obtain ⟨v2, w2, hr2, h22, -, -⟩ := run_append_own (P := P) w w.heap.size t ty e i z i.size bytes ht hi hz rfl hby hzs hsz (.slice none 0 0) 0 xs ⟨hown.1, .inl ⟨rfl, rfl⟩⟩ a m c news hl hnews h1 h63 hbytes (Nat.le_refl _)
  rw [hr] at hr2
  injection hr2 with e1 e2
  subst e1
  obtain ⟨g, h4, h5⟩ := fresh h22
  exact ⟨g, h4, .inr h5⟩
 ·
  by_cases hroom : n + m ≤ cap
  ·
   have hr2 := run_append_room_cells (P := P) w t ty e i ht hi g 0 n cap a m c news hl hnews h1 hroom (fun j hj => by
    have hlt : n * i.size + j < cur.size := by
     have := Nat.mul_le_mul_right i.size hroom
     rw [Nat.add_mul] at this
     rw [hl] at hj
     omega
    simp [World.cell?, hb, hlt]) (fun j hj => by simp [World.frozen?, hb])
   rw [hr] at hr2
   injection hr2 with e1 e2
   subst e1
   exact ⟨g, rfl, .inl rfl⟩
  ·
   obtain ⟨v2, w2, hr2, h22, -⟩ := run_append_arg_grows (P := P) w t ty e i z i.size bytes ht hi hz rfl hby hzs hsz ⟨g, 0, none⟩ n cap xs hown.1 (fun j u hj => by
    rw [Addr.add_mid, Nat.zero_add]
    have hj' : j < n * i.size := by have := (List.getElem?_eq_some_iff.1 hj).1; rw [hown.1] at this; exact this
    rw [← hx, List.getElem?_take_of_lt hj', Array.getElem?_toList] at hj
    simp [World.cell?, hb, hj]) a m c news hl hnews (by omega) h63 hbytes
   rw [hr] at hr2
   injection hr2 with e1 e2
   subst e1
   obtain ⟨g', h4, h5⟩ := fresh h22
   exact ⟨g', h4, .inr h5⟩
theorem ownsRow_later {w w' : World} {base : Nat} {e : TypeId} {size : Nat} {v : Value} {n : Nat} {xs : List Value} (h : w.ownsRow base e size v n xs) (hB : Below w.heap.size w w') : w'.ownsRow base e size v n xs := by
 obtain ⟨h1, h2⟩ := h
 refine ⟨h1, ?_⟩
 rcases h2 with h2 | ⟨g, cap, cur, hv, hg, hh, r⟩
 ·
  exact .inl h2
 ·
  exact .inr ⟨g, cap, cur, hv, hg, by rw [hB.block g (Array.getElem?_eq_some_iff.1 hh).1]; exact hh, r⟩
theorem ownsRow_same {w w' : World} {base : Nat} {e : TypeId} {size : Nat} {v : Value} {n : Nat} {xs : List Value} (h : w.ownsRow base e size v n xs) (hB : ∀ g, v.ownBlock = some g → w'.heap[g]? = w.heap[g]?) : w'.ownsRow base e size v n xs := by
 obtain ⟨h1, h2⟩ := h
 refine ⟨h1, ?_⟩
 rcases h2 with h2 | ⟨g, cap, cur, hv, hg, hh, r⟩
 ·
  exact .inl h2
 ·
  exact .inr ⟨g, cap, cur, hv, hg, by rw [hB g (by rw [hv]; rfl)]; exact hh, r⟩
def SG (w : World) (base : Nat) (G : Nat → Prop) (T : TypeId) (n : Nat) (f : Nat → Nat → D) (k : Nat) (v : Value) : Prop :=
 ∃ xs, w.ownsRow base T n v k xs ∧ ∀ i j, i < k → j < n → ∃ u, xs[i * n + j]? = some u ∧ Rd w (fun c => (v.ownBlock ≠ some c ∧ c < w.heap.size) ∧ G c) (f i j) u
theorem SG.start {w : World} {base : Nat} {G : Nat → Prop} {T : TypeId} {n : Nat} {f : Nat → Nat → D} {g : Nat} (hg : base ≤ g) (hh : w.heap[g]? = some (.cells #[] T)) : SG w base G T n f 0 (.slice (some ⟨g, 0, none⟩) 0 0) :=
 ⟨[], ⟨by simp, .inr ⟨g, 0, #[], rfl, hg, hh, Nat.le_refl _, by unfold maxLen; omega, by simp, by simp⟩⟩, fun i j h => absurd h (by omega)⟩
theorem SG.later {w w' : World} {base : Nat} {G : Nat → Prop} {T : TypeId} {n : Nat} {f : Nat → Nat → D} {k : Nat} {v : Value} (h : SG w base G T n f k v) (hB : Below w.heap.size w w') : SG w' base G T n f k v := by
 obtain ⟨xs, h1, h2⟩ := h
 refine ⟨xs, ownsRow_later h1 hB, fun i j hi hj => ?_⟩
 obtain ⟨u, hu, hr⟩ := h2 i j hi hj
 exact ⟨u, hu, (hr.later hB).mono (fun c hc => ⟨⟨hc.1.1, Nat.lt_of_lt_of_le hc.1.2 hB.size⟩, hc.2⟩)⟩
theorem SG.same {w w' : World} {base : Nat} {G : Nat → Prop} {T : TypeId} {n : Nat} {f : Nat → Nat → D} {k : Nat} {v : Value} (h : SG w base G T n f k v) {p : Nat} (hs : w.heap.size ≤ w'.heap.size) (hB : ∀ c, c ≠ p → w'.heap[c]? = w.heap[c]?) (hv : v.ownBlock ≠ some p) (hG : ∀ c, G c → c ≠ p) : SG w' base G T n f k v := by
 obtain ⟨xs, h1, h2⟩ := h
 refine ⟨xs, ownsRow_same h1 (fun g hg => hB g (by intro e; subst e; exact hv hg)), fun i j hi hj => ?_⟩
 obtain ⟨u, hu, hr⟩ := h2 i j hi hj
 exact ⟨u, hu, Rd.same (fun c hc => hB c (hG c hc.2)) (fun c hc => ⟨⟨hc.1.1, Nat.lt_of_lt_of_le hc.1.2 hs⟩, hc.2⟩) _ _ hr⟩
theorem SG.rd {w : World} {base : Nat} {G : Nat → Prop} {T : TypeId} {n : Nat} {f : Nat → Nat → D} {k : Nat} {v : Value} (h : SG w base G T n f k v) (hn : 0 < n) (hg0 : ∀ g, v.ownBlock = some g → G g) : Rd w (fun c => G c ∧ c < w.heap.size) (.l n k f) v := by
 obtain ⟨xs, h1, h2⟩ := h
 rcases h1.2 with ⟨rfl, rfl⟩ | ⟨g, cap, cur, rfl, hg, hh, r1, r2, r3, r4⟩
 ·
  exact ⟨none, 0, rfl, .inl rfl⟩
 ·
  refine ⟨_, _, rfl, ?_⟩
  by_cases h0 : k = 0
  ·
   exact .inl h0
  ·
   refine .inr ⟨g, 0, rfl, ⟨hg0 g rfl, (Array.getElem?_eq_some_iff.1 hh).1⟩, hn, fun i j hi hj => ?_⟩
   obtain ⟨u, hu, hr⟩ := h2 i j hi hj
   have hlt : i * n + j < k * n := spot_lt hi hj
   refine ⟨u, ?_, hr.mono (fun c hc => ⟨hc.2, hc.1.2⟩)⟩
   rw [← r4, List.getElem?_take_of_lt hlt, Array.getElem?_toList] at hu
   rw [Nat.zero_add]
   simp [World.cell?, hh, hu]
theorem SG.push {P : Program} {w : World} {base : Nat} {G : Nat → Prop} {T : TypeId} {n : Nat} {f : Nat → Nat → D} {k : Nat} {v : Value} (h : SG w base G T n f k v) (t ty : TypeId) (i : TypeInfo) (z : Value) (bytes : Nat) (ht : P.underlying t = some (.slice T)) (hi : P.info? T = some i) (hz : i.zero = some z)
  (hsize : i.size = n) (hby : i.bytes = bytes) (hzs : z.cells.size = n) (hn : 0 < n) (ad : Addr) (c : Nat) (news : List Value) (hl : news.length = n) (hnews : ∀ j u, news[j]? = some u → w.cell? (ad.add j) = some u) (h1 : ∀ u ∈ news, u.oneCell' = true)
  (h63 : k + 1 ≤ maxLen) (hbytes : (k + 1) * bytes ≤ 140737488355328) (hbase : base ≤ w.heap.size) (hrd : ∀ j, j < n → ∃ u, news[j]? = some u ∧ Rd w (fun c => (v.ownBlock ≠ some c ∧ c < w.heap.size) ∧ G c) (f k j) u) :
  ∃ a' c' w', (Builtin.append_ #[t, t] ty #[v, .slice (some ad) 1 c]).run P w = .ok (.slice a' (k + 1) c') w' ∧ SG w' base G T n f (k + 1) (.slice a' (k + 1) c') ∧ w.grownBy w' v.ownBlock ∧ ∃ g, Value.ownBlock (.slice a' (k + 1) c') = some g ∧ (v.ownBlock = some g ∨ w.heap.size ≤ g) := by
 obtain ⟨xs, h2, h3⟩ := h
 obtain ⟨v', w', hr, h4, h5, g, hg, hgg⟩ := run_append_own3 (P := P) w base t ty T i z n bytes ht hi hz hsize hby hzs hn v k xs h2 ad 1 c news (by rw [hl, Nat.one_mul]) hnews h1 h63 hbytes hbase (by omega)
 obtain ⟨a', c', rfl⟩ : ∃ a' c', v' = .slice a' (k + 1) c' := by
  rcases h4.2 with ⟨rfl, h0⟩ | ⟨g, cap, cur, rfl, -⟩
  ·
   omega
  ·
   exact ⟨_, _, rfl⟩
 refine ⟨a', c', w', hr, ⟨xs ++ news, h4, fun q j hq hj => ?_⟩, h5, g, hg, hgg⟩
 have key : ∀ d u, Rd w (fun c => (v.ownBlock ≠ some c ∧ c < w.heap.size) ∧ G c) d u → Rd w' (fun c => (Value.ownBlock (.slice a' (k + 1) c') ≠ some c ∧ c < w'.heap.size) ∧ G c) d u := fun d u hu =>
  Rd.same (fun b hb => h5.block b hb.1.2 (fun e => hb.1.1 e.symm)) (fun b hb => ⟨⟨by
   rw [hg]
   intro e
   simp only [Option.some.injEq] at e
   subst e
   rcases hgg with e | e
   ·
    exact hb.1.1 e
   ·
    have := hb.1.2; omega, Nat.lt_of_lt_of_le hb.1.2 h5.size⟩, hb.2⟩) d u hu
 have hxl : xs.length = k * n := h2.1
 by_cases e : q = k
 ·
  subst e
  obtain ⟨u, hu, hru⟩ := hrd j hj
  refine ⟨u, ?_, key _ _ hru⟩
  rw [List.getElem?_append_right (by omega), hxl, show q * n + j - q * n = j by omega]
  exact hu
 ·
  have hlt : q * n + j < k * n := spot_lt (by omega) hj
  obtain ⟨u, hu, hru⟩ := h3 q j (by omega) hj
  exact ⟨u, by rw [List.getElem?_append_left (by omega)]; exact hu, key _ _ hru⟩
theorem wpList_grow {P : Program} {ops : Array Oper} {rest : List Oper} {o : Oper} {a : Act} {w : World} {Q : Exit → Act → World → Prop} (hgd : o.guard = none) (s x : Operand) (t : TypeId)
  (ho : o.op = .call { callee := .builtin .append, args := #[s, x], argTypes := #[t, t] }) {base : Nat} {G : Nat → Prop} {T : TypeId} {n : Nat} {f : Nat → Nat → D} {k : Nat} {v : Value} (hs : a.eval s = v) (h : SG w base G T n f k v) (i : TypeInfo) (z : Value) (bytes : Nat) (ht : P.underlying t = some (.slice T)) (hi : P.info? T = some i) (hz : i.zero = some z)
  (hsize : i.size = n) (hby : i.bytes = bytes) (hzs : z.cells.size = n) (hn : 0 < n) (ad : Addr) (c : Nat) (hx : a.eval x = .slice (some ad) 1 c) (news : List Value) (hl : news.length = n) (hnews : ∀ j u, news[j]? = some u → w.cell? (ad.add j) = some u) (h1 : ∀ u ∈ news, u.oneCell' = true)
  (h63 : k + 1 ≤ maxLen) (hbytes : (k + 1) * bytes ≤ 140737488355328) (hbase : base ≤ w.heap.size) (hrd : ∀ j, j < n → ∃ u, news[j]? = some u ∧ Rd w (fun c => (v.ownBlock ≠ some c ∧ c < w.heap.size) ∧ G c) (f k j) u)
  (hk : ∀ a' c' w', SG w' base G T n f (k + 1) (.slice a' (k + 1) c') → w.grownBy w' v.ownBlock → (∃ g, Value.ownBlock (.slice a' (k + 1) c') = some g ∧ (v.ownBlock = some g ∨ w.heap.size ≤ g)) → wpList P ops Q rest (a.put o.dst (.slice a' (k + 1) c')) w') : wpList P ops Q (o :: rest) a w := by
 obtain ⟨a', c', w', hr, h2, h3, h4⟩ := h.push (P := P) t o.type i z bytes ht hi hz hsize hby hzs hn ad c news hl hnews h1 h63 hbytes hbase hrd
 refine wpList_plain hgd fun _ hK => ?_
 unfold Oper.wp execOp
 simp only [ho, resolve, invoke, builtin, Sem.run_bind, Sem.run_pure, Result.andThen_ok, List.map_toArray, List.map_cons, List.map_nil, hs, hx, hr]
 exact hK _ _ (hk a' c' w' h2 h3 h4)
theorem SG.low {w : World} {base : Nat} {G : Nat → Prop} {T : TypeId} {n : Nat} {f : Nat → Nat → D} {k : Nat} {v : Value} (h : SG w base G T n f k v) {g : Nat} (hg : v.ownBlock = some g) : base ≤ g ∧ g < w.heap.size := by
 obtain ⟨xs, h1, -⟩ := h
 rcases h1.2 with ⟨rfl, -⟩ | ⟨g2, cap, cur, rfl, hb, hh, -⟩
 ·
  cases hg
 ·
  simp only [Value.ownBlock, Option.some.injEq] at hg
  subst hg
  exact ⟨hb, (Array.getElem?_eq_some_iff.1 hh).1⟩
theorem below_grown {w w2 w3 : World} {m : Nat} {o : Option Nat} (h : Below m w w2) (hg : w2.grownBy w3 o) (ho : ∀ g, o = some g → m ≤ g) (hm : m ≤ w2.heap.size) : Below m w w3 :=
 h.trans ⟨hg.os, hg.tape, hg.output, hg.size, fun b hb => hg.block b (by omega) (fun e => by have := ho b e.symm; omega)⟩
def allocs (w : World) : List Obj → World
 | [] => w
 | o :: l => allocs (w.alloc o) l
theorem allocs_size : ∀ (bs : List Obj) (w : World), (allocs w bs).heap.size = w.heap.size + bs.length
 | [], _ => rfl
 | o :: l, w => by
  have h := allocs_size l (w.alloc o)
  rw [size_allocD] at h
  show (allocs (w.alloc o) l).heap.size = _
  rw [h, List.length_cons]; omega
theorem allocs_below : ∀ (bs : List Obj) (w : World), Below w.heap.size w (allocs w bs)
 | [], _ => Below.refl _ _
 | o :: l, w => (below_allocD w o).trans ((allocs_below l (w.alloc o)).mono (by simp))
theorem allocs_at : ∀ (bs : List Obj) (w : World) (i : Nat) (o : Obj), bs[i]? = some o → (allocs w bs).heap[w.heap.size + i]? = some o
 | [], _, i, o, h => by simp at h
 | x :: l, w, 0, o, h => by
  simp only [List.getElem?_cons_zero, Option.some.injEq] at h
  subst h
  exact heap_keptD (heap_newD w x) (allocs_below l (w.alloc x))
 | x :: l, w, i + 1, o, h => by
  rw [List.getElem?_cons_succ] at h
  have h2 := allocs_at l (w.alloc x) i o h
  rw [size_allocD] at h2
  rw [show w.heap.size + (i + 1) = w.heap.size + 1 + i by omega]
  exact h2
structure GQ (w wr : World) (bs : List Obj) (q : Nat) (S : TypeId) (co : Value → Array Value) (T : TypeId) (n : Nat) (f : Nat → Nat → D) (k : Nat) (v : Value) : Prop where
 hq : q = w.heap.size + bs.length
 bx : ∀ i o, bs[i]? = some o → wr.heap[w.heap.size + i]? = some o
 ot : wr.heap[q + 1]? = some (.cells (co v) S)
 gr : SG wr q (fun c => q ≤ c ∧ c ≠ q + 1) T n f k v
 ne : v.ownBlock ≠ some (q + 1)
 bel : Below w.heap.size w wr
theorem GQ.first (w : World) (bs : List Obj) (q : Nat) (hq : q = w.heap.size + bs.length) (S : TypeId) (co : Value → Array Value) (T : TypeId) (n : Nat) (f : Nat → Nat → D) : GQ w (((allocs w bs).alloc (.cells #[] T)).alloc (.cells (co (.slice (some ⟨q, 0, none⟩) 0 0)) S)) bs q S co T n f 0 (.slice (some ⟨q, 0, none⟩) 0 0) := by
 have hs : (allocs w bs).heap.size = q := by rw [hq]; exact allocs_size bs w
 have e2 := heap_newD (allocs w bs) (.cells #[] T)
 have s3 := size_allocD (allocs w bs) (.cells #[] T)
 have e3 := heap_newD ((allocs w bs).alloc (.cells #[] T)) (.cells (co (.slice (some ⟨q, 0, none⟩) 0 0)) S)
 rw [hs] at e2 s3
 rw [s3] at e3
 have hB : Below (allocs w bs).heap.size (allocs w bs) (((allocs w bs).alloc (.cells #[] T)).alloc (.cells (co (.slice (some ⟨q, 0, none⟩) 0 0)) S)) := (below_allocD _ _).trans ((below_allocD _ _).mono (by simp))
 refine ⟨hq, fun i o hi => heap_keptD (allocs_at bs w i o hi) hB, e3, SG.start (Nat.le_refl _) (heap_keptD e2 (below_allocD _ _)), by simp [Value.ownBlock], (allocs_below bs w).trans (hB.mono (by rw [hs, hq]; omega))⟩
theorem GQ.step {w wr V w3 : World} {bs : List Obj} {q : Nat} {S : TypeId} {co : Value → Array Value} {T : TypeId} {n : Nat} {f : Nat → Nat → D} {k k' : Nat} {v v' : Value} (h : GQ w wr bs q S co T n f k v) (s : Nat) (hco : (co v).setIfInBounds s v' = co v') (hB2 : Below wr.heap.size wr V) (hs : SG w3 q (fun c => q ≤ c ∧ c ≠ q + 1) T n f k' v') (hg : V.grownBy w3 v.ownBlock) (hl : ∃ g, v'.ownBlock = some g ∧ (v.ownBlock = some g ∨ V.heap.size ≤ g)) :
  GQ w (w3.setCell ⟨q + 1, s, none⟩ v') bs q S co T n f k' v' ∧ w3.heap[q + 1]? = some (.cells (co v) S) ∧ (∀ i o, bs[i]? = some o → w3.heap[w.heap.size + i]? = some o) ∧ Below w.heap.size w w3 := by
 have hq := h.hq
 have keep : ∀ b y, wr.heap[b]? = some y → v.ownBlock ≠ some b → w3.heap[b]? = some y := fun b y hx hn => by
  have hlt := (Array.getElem?_eq_some_iff.1 hx).1
  rw [hg.block b (Nat.lt_of_lt_of_le hlt hB2.size) (fun e => hn e.symm), hB2.block b hlt]; exact hx
 have lo : ∀ g, v.ownBlock = some g → q ≤ g := fun g e => (h.gr.low e).1
 have nb : ∀ i o, bs[i]? = some o → i < bs.length := fun i o hi => (List.getElem?_eq_some_iff.1 hi).1
 obtain ⟨g, hgv, hgg⟩ := hl
 have hp := (Array.getElem?_eq_some_iff.1 h.ot).1
 have hgp : g ≠ q + 1 := by
  rcases hgg with e | e
  ·
   intro e'; subst e'; exact h.ne e
  ·
   have := hB2.size; omega
 have o3 := keep _ _ h.ot h.ne
 have b3 : ∀ i o, bs[i]? = some o → w3.heap[w.heap.size + i]? = some o := fun i o hi => keep _ _ (h.bx i o hi) (fun e => by have := lo _ e; have := nb i o hi; omega)
 have hb3 : Below w.heap.size w w3 := below_grown (h.bel.trans (hB2.mono h.bel.size)) hg (fun g e => by have := lo g e; omega) (Nat.le_trans h.bel.size hB2.size)
 refine ⟨⟨hq, fun i o hi => ?_, by rw [← hco]; exact heap_set s v' o3, ?_, ?_, hb3.setCell (by show w.heap.size ≤ q + 1; omega) _⟩, o3, b3, hb3⟩
 ·
  rw [Below.heap_setCell _ ⟨q + 1, s, none⟩ v' _ (by show w.heap.size + i ≠ q + 1; have := nb i o hi; omega)]; exact b3 i o hi
 ·
  exact hs.same (p := q + 1) (by simp [World.setCell]) (fun b hb => Below.heap_setCell _ _ _ _ hb) (by rw [hgv]; intro e; simp at e; exact hgp e) (fun c hc => hc.2)
 ·
  rw [hgv]; intro e; simp at e; exact hgp e
theorem GQ.rd {w wr : World} {bs : List Obj} {q : Nat} {S : TypeId} {co : Value → Array Value} {T : TypeId} {n : Nat} {f : Nat → Nat → D} {k : Nat} {v : Value} (h : GQ w wr bs q S co T n f k v) (hn : 0 < n) : Rd wr (fun b => (q ≤ b ∧ b ≠ q + 1) ∧ b < wr.heap.size) (.l n k f) v := h.gr.rd hn (fun g hg => ⟨(h.gr.low hg).1, fun e => h.ne (by rw [hg, e])⟩)
theorem GQ.push {P : Program} {w wr V : World} {bs : List Obj} {q : Nat} {S : TypeId} {co : Value → Array Value} {T : TypeId} {f : Nat → Nat → D} {k : Nat} {v : Value} (h : GQ w wr bs q S co T 1 f k v) (t ty : TypeId) (i : TypeInfo) (z : Value) (bytes : Nat) (ht : P.underlying t = some (.slice T)) (hi : P.info? T = some i) (hz : i.zero = some z) (hsize : i.size = 1) (hby : i.bytes = bytes) (hzs : z.cells.size = 1)
  (s : Nat) (hco : ∀ v', (co v).setIfInBounds s v' = co v') (hB : Below wr.heap.size wr V) (u : Value) (hone : u.oneCell' = true) (h63 : k + 1 ≤ maxLen) (hbytes : (k + 1) * bytes ≤ 140737488355328) (hu : Rd V (fun b => wr.heap.size ≤ b ∧ b < V.heap.size) (f k 0) u) :
  ∃ a' c' W4, (Builtin.append_ #[t, t] ty #[v, .slice (some ⟨V.heap.size, 0, none⟩) 1 1]).run P (V.alloc (.cells #[u] T)) = .ok (.slice a' (k + 1) c') W4 ∧ GQ w (W4.setCell ⟨q + 1, s, none⟩ (.slice a' (k + 1) c')) bs q S co T 1 f (k + 1) (.slice a' (k + 1) c') ∧ W4.heap[q + 1]? = some (.cells (co v) S) ∧ (∀ i o, bs[i]? = some o → W4.heap[w.heap.size + i]? = some o) ∧ Below w.heap.size w W4 := by
 have bV : Below wr.heap.size wr (V.alloc (.cells #[u] T)) := hB.alloc hB.size _
 have hn9 := heap_newD V (.cells #[u] T)
 have hq1 := (Array.getElem?_eq_some_iff.1 h.ot).1
 have hs1 := size_allocD V (.cells #[u] T)
 obtain ⟨a', c', W4, hr, hsg, hgr, hgl⟩ := (h.gr.later bV).push (P := P) t ty i z bytes ht hi hz hsize hby hzs (by omega) ⟨V.heap.size, 0, none⟩ 1 [u] rfl (fun j y hj => by
   have : j = 0 := by
    have := (List.getElem?_eq_some_iff.1 hj).1
    simpa using this
   subst this
   simp only [List.getElem?_cons_zero, Option.some.injEq] at hj
   subst hj
   rw [Addr.add_mid]
   exact cell_at (o := 0) hn9 rfl) (fun y hy => by simp only [List.mem_singleton] at hy; subst hy; exact hone) h63 hbytes (by have := bV.size; omega) (fun j hj => by
   obtain rfl : j = 0 := by omega
   refine ⟨u, rfl, (hu.later (below_allocD _ _)).mono (fun b hb => ?_)⟩
   have h1 := hb.1; have h2 := hb.2
   refine ⟨⟨fun e => ?_, by omega⟩, by omega, by omega⟩
   have := (h.gr.low e).2
   omega)
 obtain ⟨h1, h2, h3, h4⟩ := h.step s (hco _) bV hsg hgr hgl
 exact ⟨a', c', W4, hr, h1, h2, h3, h4⟩
end Go.Proofs.YtlddhbamcndggaaGreatDoor
namespace Go.Proofs.YtlddhbamcndggaaGreatDoor
open Go.RowKit
def riseIds (l : List RowV) : Prop := ∀ i (h : i + 1 < l.length), l[i].id < l[i + 1].id
def rowZ : RowV := ⟨0, []⟩
theorem le_row {K : Nat} {x : StV} (h : (dRowSS x.tables).le K) {i : Nat} (hi : i < x.tables.length) {k : Nat} (hk : k < x.tables[i].length) : (dAtomSS x.tables[i][k].cells).le K := by
 have h1 : (dRowS x.tables[i]).le K := (Ls_le.1 h).2.2 i hi 0 (by omega)
 exact (Ls_le.1 h1).2.2 k hk 1 (by omega)
theorem szT_at {α : Type} {n : Nat} {d : α → Nat → D} {l : List α} {i j : Nat} (hi : i < l.length) (hj : j < n) : (d l[i] j).sz ≤ (Ls n d l).sz := by
 rw [Ls_sz]
 have h1 : szT n (lsF d l i) ≤ szL n d l l.length := sumN_le (g := fun i => szT n (lsF d l i)) hi
 rw [lsF_at hi] at h1
 have h2 : (d l[i] j).sz ≤ szT n (d l[i]) := sumN_le (g := fun j => (d l[i] j).sz) hj
 omega
theorem sz_row {x : StV} {i : Nat} (hi : i < x.tables.length) {k : Nat} (hk : k < x.tables[i].length) : (dAtomSS x.tables[i][k].cells).sz ≤ (dRowSS x.tables).sz := by
 have h1 : (dRowS x.tables[i]).sz ≤ (dRowSS x.tables).sz := szT_at (n := 1) (d := cRowS) (j := 0) hi (by omega)
 have h2 : (dAtomSS x.tables[i][k].cells).sz ≤ (dRowS x.tables[i]).sz := szT_at (n := 2) (d := dRow) (j := 1) hk (by omega)
 omega
end Go.Proofs.YtlddhbamcndggaaGreatDoor
