import Derived.Test.YtdhlndpobpdfmaaYbk
import Derived.Test.YtdhlndpobpdfmaaYbl
import Derived.Deep.RegionHeld3
import Derived.Test.YtdhlndpobpdfmaaYTk
namespace Go.Proofs.Ytdhlndpobpdfmaa
open Go.RowKit
set_option linter.unusedSimpArgs false
theorem TabW.insT {W W4 W5 w6 : World} {T : Tab3} (h : TabW W T) {k : Nat} (hk : k ≤ T.ts.length) {r : RowV} {v : Value} (h4 : Below W.heap.size W W4) (hv : Own W4 (dAtomSS r.cells) (fun c => W.heap.size ≤ c ∧ c < W4.heap.size) v) (h5 : Below W4.heap.size W4 W5)
    {g' cap' : Nat} {cur : Array Value} (hg : (g' = T.p ∧ 0 < T.cap) ∨ W5.heap.size ≤ g') (hh : w6.heap[g']? = some (.cells cur 53 (0, 0))) (ht : cur.toList.take ((T.ts.length + 1) * 2) = insC (cs3 T.ts) k [.int .i64 r.id, v]) (hc : T.ts.length + 1 ≤ cap') (hm : cap' ≤ maxLen) (hs : cur.size = cap' * 2) (hF : Frm (fun c => c = T.p ∧ 0 < T.cap) W5 w6) :
    TabW w6 (T.spl g' cap' k k [⟨r, v, fun c => W.heap.size ≤ c ∧ c < W4.heap.size⟩]) ∧ (∀ c, (T.spl g' cap' k k [⟨r, v, fun c => W.heap.size ≤ c ∧ c < W4.heap.size⟩]).bl c → T.bl c ∨ W.heap.size ≤ c) ∧ Frm T.bl W w6 ∧ (T.spl g' cap' k k [⟨r, v, fun c => W.heap.size ≤ c ∧ c < W4.heap.size⟩]).v = .slice (some ⟨g', 0, none⟩) (T.ts.length + 1) cap' := by
  have s4 := h4.size
  have s5 := h5.size
  have s6 := hF.size
  have hgl := (Array.getElem?_eq_some_iff.1 hh).1
  have hlen : (T.spl g' cap' k k [⟨r, v, fun c => W.heap.size ≤ c ∧ c < W4.heap.size⟩]).ts.length = T.ts.length + 1 := by unfold Tab3.spl; simp; omega
  have hkeep : ∀ c, c < W.heap.size → ¬ (c = T.p ∧ 0 < T.cap) → w6.heap[c]? = W.heap[c]? := fun c hc hn => by
    rw [hF.block c (by omega) hn, h5.block c (by omega), h4.block c hc]
  have hcs : cur.toList.take ((T.spl g' cap' k k [⟨r, v, fun c => W.heap.size ≤ c ∧ c < W4.heap.size⟩]).ts.length * 2) = cs3 (T.spl g' cap' k k [⟨r, v, fun c => W.heap.size ≤ c ∧ c < W4.heap.size⟩]).ts := by
    rw [hlen, ht]
    unfold insC Tab3.spl
    rw [cs3_take _ _ hk, cs3_drop _ _ hk]
    simp only [cs3_app]
    rfl
  have hbl : ∀ c, T.bl c → c < W.heap.size := h.lt
  have hT := h.spl (W' := w6) (p := g') (cap := cap') (k := k) (j := k) (nw := [⟨r, v, fun c => W.heap.size ≤ c ∧ c < W4.heap.size⟩]) (Nat.le_refl _)
    (fun c hc hne => hkeep c (hbl c hc) (fun e => hne e.1)) (by omega) ⟨cur, hh, hs, hcs⟩ (by rw [hlen]; exact hc) hm
    (by rcases hg with e | e; exact .inl e; exact .inr (by omega)) (by simp) (fun t ht => by
      obtain rfl := List.mem_singleton.1 ht
      refine ⟨?_, fun c hc => ⟨hc.1, by have := hc.2; omega⟩, fun hx => ?_⟩
      · refine (hv.later h5).frm hF (fun c hc e => ?_)
        have h1 := hbl c (.inl e); have h2 := hc.1; omega
      · have hx' : W.heap.size ≤ g' ∧ g' < W4.heap.size := hx
        rcases hg with e | e
        · have h1 := hbl g' (.inl e); omega
        · omega)
  exact ⟨hT.1, hT.2, ⟨hF.os.trans (h5.os.trans h4.os), hF.tape.trans (h5.tape.trans h4.tape), hF.output.trans (h5.output.trans h4.output), by omega, fun c hc hn => hkeep c hc (fun e => hn (.inl e))⟩, by unfold Tab3.v; rw [hlen]; rfl⟩
theorem TabW.delT {W w' : World} {T : Tab3} (h : TabW W T) {k mm : Nat} (hm : T.ts.length = mm + 1) (hk : k ≤ mm) {cur : Array Value} (hh : w'.heap[T.p]? = some (.cells cur 53 (0, 0))) (ht : cur.toList.take (mm * 2) = (cs3 T.ts).take (k * 2) ++ (cs3 T.ts).drop ((k + 1) * 2)) (hs : cur.size = T.cap * 2) (hF : Frm (· = T.p) W w') :
    TabW w' (T.spl T.p T.cap k (k + 1) []) ∧ (∀ c, (T.spl T.p T.cap k (k + 1) []).bl c → T.bl c ∨ W.heap.size ≤ c) ∧ Frm T.bl W w' ∧ (T.spl T.p T.cap k (k + 1) []).v = .slice (some ⟨T.p, 0, none⟩) mm T.cap := by
  have hle := h.le
  have hc0 : 0 < T.cap := by omega
  have s6 := hF.size
  have hlen : (T.spl T.p T.cap k (k + 1) []).ts.length = mm := by unfold Tab3.spl; simp; omega
  have hbl : ∀ c, T.bl c → c < W.heap.size := h.lt
  have hcs : cur.toList.take ((T.spl T.p T.cap k (k + 1) []).ts.length * 2) = cs3 (T.spl T.p T.cap k (k + 1) []).ts := by
    rw [hlen, ht]
    unfold Tab3.spl
    rw [cs3_take _ _ (by omega), cs3_drop _ _ (by omega)]
    simp only [cs3_app, List.append_nil]
  have hT := h.spl (W' := w') (p := T.p) (cap := T.cap) (k := k) (j := k + 1) (nw := []) (Nat.le_succ _)
    (fun c hc hne => hF.block c (hbl c hc) hne) s6 ⟨cur, hh, hs, hcs⟩ (by rw [hlen]; omega) h.cm (.inl ⟨rfl, hc0⟩) (by simp) (fun t ht => by cases ht)
  exact ⟨hT.1, hT.2, hF.mono (fun c e => .inl ⟨e, hc0⟩), by unfold Tab3.v; rw [hlen]; rfl⟩
theorem TabW.repT {W W4 : World} {T : Tab3} (h : TabW W T) {k : Nat} (hk : k < T.ts.length) {r : RowV} {v : Value} (h4 : Below W.heap.size W W4) (hv : Own W4 (dAtomSS r.cells) (fun c => W.heap.size ≤ c ∧ c < W4.heap.size) v) :
    TabW ((W4.setCell ⟨T.p, k * 2, none⟩ (.int .i64 r.id)).setCell ⟨T.p, k * 2 + 1, none⟩ v) (T.spl T.p T.cap k (k + 1) [⟨r, v, fun c => W.heap.size ≤ c ∧ c < W4.heap.size⟩]) ∧ (∀ c, (T.spl T.p T.cap k (k + 1) [⟨r, v, fun c => W.heap.size ≤ c ∧ c < W4.heap.size⟩]).bl c → T.bl c ∨ W.heap.size ≤ c) ∧ Frm T.bl W ((W4.setCell ⟨T.p, k * 2, none⟩ (.int .i64 r.id)).setCell ⟨T.p, k * 2 + 1, none⟩ v) ∧ T.v = (T.spl T.p T.cap k (k + 1) [⟨r, v, fun c => W.heap.size ≤ c ∧ c < W4.heap.size⟩]).v := by
  have hle := h.le
  have hc0 : 0 < T.cap := by omega
  have s4 := h4.size
  obtain ⟨cur, hh, hs, ht⟩ := h.hp hc0
  have hpl := (Array.getElem?_eq_some_iff.1 hh).1
  have hlen : (T.spl T.p T.cap k (k + 1) [⟨r, v, fun c => W.heap.size ≤ c ∧ c < W4.heap.size⟩]).ts.length = T.ts.length := by unfold Tab3.spl; simp; omega
  have hbl : ∀ c, T.bl c → c < W.heap.size := h.lt
  generalize hW : (W4.setCell ⟨T.p, k * 2, none⟩ (.int .i64 r.id)).setCell ⟨T.p, k * 2 + 1, none⟩ v = W'
  have hsz : W'.heap.size = W4.heap.size := by rw [← hW]; simp [World.setCell]
  have hoth : ∀ c, c ≠ T.p → W'.heap[c]? = W4.heap[c]? := fun c hc => by rw [← hW, Below.heap_setCell _ _ _ _ hc, Below.heap_setCell _ _ _ _ hc]
  have hpp : W'.heap[T.p]? = some (.cells ((cur.setIfInBounds (k * 2) (.int .i64 r.id)).setIfInBounds (k * 2 + 1) v) 53 (0, 0)) := by
    rw [← hW]
    exact heap_set (k * 2 + 1) v (heap_set (k * 2) (.int .i64 r.id) (by rw [h4.block _ hpl]; exact hh))
  have hcs : ((cur.setIfInBounds (k * 2) (.int .i64 r.id)).setIfInBounds (k * 2 + 1) v).toList.take ((T.spl T.p T.cap k (k + 1) [⟨r, v, fun c => W.heap.size ≤ c ∧ c < W4.heap.size⟩]).ts.length * 2) = cs3 (T.spl T.p T.cap k (k + 1) [⟨r, v, fun c => W.heap.size ≤ c ∧ c < W4.heap.size⟩]).ts := by
    rw [hlen, Array.toList_setIfInBounds, Array.toList_setIfInBounds, take_set2 hk (by rw [Array.length_toList]; omega) ht]
    unfold Tab3.spl
    rw [cs3_take _ _ (by omega), cs3_drop _ _ (by omega)]
    simp only [cs3_app]
    rfl
  have hT := h.spl (W' := W') (p := T.p) (cap := T.cap) (k := k) (j := k + 1) (nw := [⟨r, v, fun c => W.heap.size ≤ c ∧ c < W4.heap.size⟩]) (Nat.le_succ _)
    (fun c hc hne => by rw [hoth c hne, h4.block c (hbl c hc)]) (by rw [hsz]; omega) ⟨_, hpp, by simp [hs], hcs⟩ (by rw [hlen]; omega) h.cm (.inl ⟨rfl, hc0⟩) (by simp) (fun t ht => by
      obtain rfl := List.mem_singleton.1 ht
      refine ⟨?_, fun c hc => ⟨hc.1, by rw [hsz]; exact hc.2⟩, fun hx => ?_⟩
      · exact Own.same _ _ _ _ (fun c hc => hoth c (fun e => by have := hc.1; omega)) (fun _ h => h) hv
      · have hx' : W.heap.size ≤ T.p ∧ T.p < W4.heap.size := hx
        omega)
  refine ⟨hT.1, hT.2, ⟨by rw [← hW]; exact h4.os, by rw [← hW]; exact h4.tape, by rw [← hW]; exact h4.output, by rw [hsz]; exact s4, fun c hc hn => by rw [hoth c (fun e => hn (.inl ⟨e, hc0⟩)), h4.block c hc]⟩, ?_⟩
  unfold Tab3.v; rw [hlen]; rfl
def IntoAns (w : World) (T : Tab3) (R : List RowV × Int) (e : Ending) (w' : World) : Prop := ∃ T' : Tab3, e = .returned (.tuple #[T'.v, .int .i64 R.2]) ∧ TabW w' T' ∧ T'.rows = R.1 ∧ (∀ c, T'.bl c → T.bl c ∨ w.heap.size ≤ c) ∧ Frm T.bl w w' ∧ (R.2 ≠ 0 → T' = T ∧ Below w.heap.size w w')
structure DnT (w W : World) (T : Tab3) (cs : Array Value) : Prop where
  bx : W.heap[w.heap.size]? = some (.cells cs 55)
  tb : TabW W T
  nb : ∀ c, T.bl c → c < w.heap.size
  bel : Below w.heap.size w W
theorem DnT.first {w : World} {T : Tab3} (h : TabW w T) (cs : Array Value) : DnT w (w.alloc (.cells cs 55)) T cs :=
  ⟨heap_newD _ _, h.same (below_allocD _ _).size (fun c hc => (below_allocD _ _).block c (h.lt c hc)), h.lt, below_allocD _ _⟩
theorem DnT.later {w W W' : World} {T : Tab3} {cs : Array Value} (h : DnT w W T cs) (hB : Below W.heap.size W W') : DnT w W' T cs :=
  ⟨heap_keptD h.bx hB, h.tb.same hB.size (fun c hc => hB.block c (h.tb.lt c hc)), h.nb, h.bel.trans (hB.mono h.bel.size)⟩
theorem DnT.drew {w W : World} {T : Tab3} {cs : Array Value} (h : DnT w W T cs) : DnT w W.drew T cs := h.later (Below.refl _ _).drew
theorem DnT.ans {w W : World} {T : Tab3} {cs : Array Value} {R : List RowV × Int} {r : Int} {v : Value} (h : DnT w W T cs) (hv : T.v = v) (hR : R = (T.rows, r)) : IntoAns w T R (.returned (.tuple #[v, .int .i64 r])) W :=
  ⟨T, by rw [hR, hv], h.tb, by rw [hR], fun c hc => .inl hc, frm_below h.bel, fun _ => ⟨rfl, h.bel⟩⟩
theorem DnT.e {w W W' : World} {T T' : Tab3} {cs : Array Value} {R : List RowV × Int} {v : Value} (h : DnT w W T cs) (hT : TabW W' T' ∧ (∀ c, T'.bl c → T.bl c ∨ W.heap.size ≤ c) ∧ Frm T.bl W W') (hv : T'.v = v) (hR : R = (T'.rows, 0)) : IntoAns w T R (.returned (.tuple #[v, .int .i64 0])) W' :=
  ⟨T', by rw [hR, hv], hT.1, by rw [hR], fun c hc => (hT.2.1 c hc).imp id (fun h2 => Nat.le_trans h.bel.size h2), (frm_below h.bel).trans hT.2.2, fun h0 => absurd (by rw [hR]) h0⟩
theorem spl_drop {T : Tab3} {p cap k : Nat} {id : Int} (h : rplI T.rows id = k) : (T.spl p cap k (k + 1) []).rows = T.rows.eraseIdx (rplI T.rows id).toNat := by
  rw [Tab3.spl_rows, h, Int.toNat_natCast, List.eraseIdx_eq_take_drop_succ]; simp
theorem spl_put {T : Tab3} {p cap k j : Nat} {r : RowV} {v : Value} {X : Nat → Prop} (h : putL T.rows r = T.rows.take k ++ r :: T.rows.drop j) : (T.spl p cap k j [⟨r, v, X⟩]).rows = putL T.rows r := by
  rw [Tab3.spl_rows, h]; simp
set_option maxRecDepth 100000 in
set_option maxHeartbeats 12800000 in
theorem intoI (tab cid oid nid most : Int) (ocs ncs : List (List At)) (a3 : Option Addr) (c3 : Nat) (a5 : Option Addr) (c5 : Nat) (p cap : Nat) (ts : List Rw3) (B : Nat → Prop) (w : World) (hM : TabW w ⟨p, cap, ts⟩) (hA : AscR (Tab3.mk p cap ts).rows) (hle : (dRowS (Tab3.mk p cap ts).rows).le 1048576) (h10 : (ts.length : Int) < most → ts.length ≤ 10000) (hoo : (dAtomSS ocs).le 1048576) (hon : (dAtomSS ncs).le 1048576) (hO : Rd w B (dAtomSS ocs) (.slice a3 ocs.length c3)) (hN : Rd w B (dAtomSS ncs) (.slice a5 ncs.length c5)) :
    Calls Try.prog 49 #[.agg #[.int .i64 tab, .int .i64 cid, .int .i64 oid, .slice a3 ocs.length c3, .int .i64 nid, .slice a5 ncs.length c5], .slice (some ⟨p, 0, none⟩) ts.length cap, .int .i64 most] w (IntoAns w ⟨p, cap, ts⟩ (inC (Tab3.mk p cap ts).rows most ⟨tab, cid, oid, ocs, nid, ncs⟩)) := by
  obtain ⟨T, hTi⟩ : ∃ T : Tab3, T = ⟨p, cap, ts⟩ := ⟨_, rfl⟩
  rw [← hTi] at hM hA hle ⊢
  have hd := DnT.first hM #[.int .i64 tab, .int .i64 cid, .int .i64 oid, .slice a3 ocs.length c3, .int .i64 nid, .slice a5 ncs.length c5]
  have hrl : T.rows.length = ts.length := by rw [Tab3.rows_len, hTi]
  have hTv : T.v = .slice (some ⟨p, 0, none⟩) ts.length cap := by rw [hTi]; rfl
  have KI : Hid (∀ W, DnT w W T #[.int .i64 tab, .int .i64 cid, .int .i64 oid, .slice a3 ocs.length c3, .int .i64 nid, .slice a5 ncs.length c5] → Calls Try.prog 50 #[.agg #[.int .i64 tab, .int .i64 cid, .int .i64 oid, .slice a3 ocs.length c3, .int .i64 nid, .slice a5 ncs.length c5]] W fun e w' => e = .returned (.int .i64 (kndI ⟨tab, cid, oid, ocs, nid, ncs⟩)) ∧ Below W.heap.size W w') := fun W _ => kndS ⟨tab, cid, oid, ocs, nid, ncs⟩ a3 c3 a5 c5 W
  have BS : Hid (∀ W, DnT w W T #[.int .i64 tab, .int .i64 cid, .int .i64 oid, .slice a3 ocs.length c3, .int .i64 nid, .slice a5 ncs.length c5] → Calls Try.prog 64 #[.slice (some ⟨p, 0, none⟩) ts.length cap, .agg #[.int .i64 cid, .slice none 0 0], .func (.func 62) #[] #[]] W (BinR T.rows cid W)) := fun W h => by
    have hb := binR T.rows (some ⟨p, 0, none⟩) cap cid T.bl W (Ls_le.1 hle).2.1 hA (by
      have : T.v = .slice (some ⟨p, 0, none⟩) T.rows.length cap := by rw [hrl, hTv]
      rw [← this]; exact h.tb.rd)
    rw [hrl] at hb
    exact hb
  have CE : Hid (∀ W, DnT w W T #[.int .i64 tab, .int .i64 cid, .int .i64 oid, .slice a3 ocs.length c3, .int .i64 nid, .slice a5 ncs.length c5] → W.cell? ⟨w.heap.size, 0, none⟩ = some (.int .i64 tab) ∧ W.cell? ⟨w.heap.size, 1, none⟩ = some (.int .i64 cid) ∧ W.cell? ⟨w.heap.size, 2, none⟩ = some (.int .i64 oid) ∧ W.cell? ⟨w.heap.size, 2 + 1, none⟩ = some (.slice a3 ocs.length c3) ∧ W.cell? ⟨w.heap.size, 3, none⟩ = some (.slice a3 ocs.length c3) ∧ W.cell? ⟨w.heap.size, 4, none⟩ = some (.int .i64 nid) ∧ W.cell? ⟨w.heap.size, 5, none⟩ = some (.slice a5 ncs.length c5)) := fun W h => ⟨cell_at (o := 0) h.bx rfl, cell_at (o := 1) h.bx rfl, cell_at (o := 2) h.bx rfl, cell_at (o := 3) h.bx rfl, cell_at (o := 3) h.bx rfl, cell_at (o := 4) h.bx rfl, cell_at (o := 5) h.bx rfl⟩
  have HOO : Hid (∀ W, DnT w W T #[.int .i64 tab, .int .i64 cid, .int .i64 oid, .slice a3 ocs.length c3, .int .i64 nid, .slice a5 ncs.length c5] → Rd W B (dAtomSS ocs) (.slice a3 ocs.length c3)) := fun W h => hO.later h.bel
  have HNN : Hid (∀ W, DnT w W T #[.int .i64 tab, .int .i64 cid, .int .i64 oid, .slice a3 ocs.length c3, .int .i64 nid, .slice a5 ncs.length c5] → Rd W B (dAtomSS ncs) (.slice a5 ncs.length c5)) := fun W h => hN.later h.bel
  have HP := Lib.hid (And.intro hA (And.intro hle (And.intro hoo hon)))
  have HRL := Lib.hid hrl
  have HTV := Lib.hid hTv
  have HTI := Lib.hid hTi
  clear hM hO hN hA hle hoo hon hrl hTv hTi
  generalize hR : inC T.rows most ⟨tab, cid, oid, ocs, nid, ncs⟩ = R
  have HR := Lib.hid hR
  clear hR
  obtain ⟨x0, x1, x2, -, x3, x4, x5⟩ := CE.out _ hd
  by_cases hk0 : kndI ⟨tab, cid, oid, ocs, nid, ncs⟩ = 0
  case pos =>
    have HE : Hid (R = (T.rows, 1)) := by
      show R = _
      rw [← HR.out]
      refine in_bad ?_
      unfold kndI at hk0
      by_cases h : cid < 1
      · exact .inl h
      · rw [if_neg h] at hk0; exact .inr hk0
    rw [hk0] at KI
    clear hk0
    go_enter Try.func49, Try.ntmps49
    go_wp2_with fail
    refine (KI.out _ hd).mono ?_
    rintro e w1 ⟨rfl, hB⟩
    replace hd := hd.later hB
    clear hB x0 x1 x2 x3 x4 x5
    go_wp2_with fail
    go_ret2
    exact hd.ans HTV.out HE.out
  have hcid : 1 ≤ cid := by
    unfold kndI at hk0
    by_cases h : cid < 1
    · rw [if_pos h] at hk0; exact absurd rfl hk0
    · omega
  have hkk : kndI ⟨tab, cid, oid, ocs, nid, ncs⟩ = kindC ⟨tab, cid, oid, ocs, nid, ncs⟩ := by unfold kndI; rw [if_neg (by show ¬ cid < 1; omega)]
  rw [hkk] at KI hk0
  clear hkk
  have HK1 : Hid (1 ≤ cid) := hcid
  have HKN : Hid (kindC ⟨tab, cid, oid, ocs, nid, ncs⟩ ≠ 0) := hk0
  have hkz : (kindC ⟨tab, cid, oid, ocs, nid, ncs⟩ == 0) = false := by simpa using hk0
  have HOK : Hid (¬ ((⟨tab, cid, oid, ocs, nid, ncs⟩ : ChV).cid < 1 ∨ kindC ⟨tab, cid, oid, ocs, nid, ncs⟩ = 0)) := by
    show ¬ _
    rintro (h | h)
    · have h2 : cid < 1 := h; omega
    · exact hk0 h
  clear hcid hk0
  generalize hkd : kindC ⟨tab, cid, oid, ocs, nid, ncs⟩ = kd at KI hkz
  have HKD := Lib.hid hkd
  clear hkd
  go_enter Try.func49, Try.ntmps49
  go_wp2_with fail
  refine (KI.out _ hd).mono ?_
  rintro e w1 ⟨rfl, hB⟩
  replace hd := hd.later hB
  clear hB x0 x1 x2 x3 x4 x5
  obtain ⟨x0, x1, x2, -, x3, x4, x5⟩ := CE.out _ hd
  go_wp2_with fail
  refine (BS.out _ hd).mono ?_
  rintro e w2 ⟨k, f, rfl, hk, hlt, hge, hft, hff, hB⟩
  replace hd := hd.later hB
  have HPL := Lib.hid (And.intro hlt (And.intro hge (And.intro hft hff)))
  rw [HRL.out] at hk
  clear hB x0 x1 x2 x3 x4 x5 hlt hge hft hff
  cases f
  case true =>
    obtain ⟨hkr, hke⟩ := HPL.out.2.2.1 rfl
    have hkt : k < T.ts.length := by rw [← Tab3.rows_len]; exact hkr
    have hkl : (k : Int) < (ts.length : Int) := by rw [HRL.out] at hkr; omega
    obtain ⟨z, hz⟩ : ∃ z, z = T.rows[k] := ⟨_, rfl⟩
    have hzt : T.ts[k].r = z := by rw [hz, Tab3.rows_at]
    have hzle : (dAtomSS z.cells).le 1048576 := by rw [hz]; exact (Ls_le.1 HP.out.2.1).2.2 k hkr 1 (by omega)
    obtain ⟨za, zq, hzv⟩ : ∃ za zq, T.ts[k].v = .slice za z.cells.length zq := by
      obtain ⟨a, c, h, -⟩ := (hd.tb.ow _ (List.getElem_mem hkt)).1
      rw [hzt] at h
      exact ⟨a, c, h⟩
    have SR : Hid (∀ W, DnT w W T #[.int .i64 tab, .int .i64 cid, .int .i64 oid, .slice a3 ocs.length c3, .int .i64 nid, .slice a5 ncs.length c5] → Calls Try.prog 65 #[.agg #[.int .i64 z.id, .slice za z.cells.length zq], .agg #[.int .i64 oid, .slice a3 ocs.length c3]] W fun e w' => e = .returned (.bool (eqB z ⟨oid, ocs⟩)) ∧ Below W.heap.size W w') := fun W h => by
      have ho := (h.tb.ow _ (List.getElem_mem hkt)).1
      rw [hzv, hzt] at ho
      exact sameRowI z ⟨oid, ocs⟩ za zq a3 c3 _ B W (D.le.mono (by unfold maxLen; omega) _ hzle) (D.le.mono (by unfold maxLen; omega) _ HP.out.2.2.1) ho.rd' (HOO.out W h)
    have CE2 : Hid (∀ W, DnT w W T #[.int .i64 tab, .int .i64 cid, .int .i64 oid, .slice a3 ocs.length c3, .int .i64 nid, .slice a5 ncs.length c5] → W.cell? ⟨p, k * 2, none⟩ = some (.int .i64 z.id) ∧ W.cell? ⟨p, k * 2 + 1, none⟩ = some (.slice za z.cells.length zq) ∧ W.cell? ⟨w.heap.size, 0, none⟩ = some (.int .i64 tab) ∧ W.cell? ⟨w.heap.size, 1, none⟩ = some (.int .i64 cid) ∧ W.cell? ⟨w.heap.size, 2, none⟩ = some (.int .i64 oid) ∧ W.cell? ⟨w.heap.size, 2 + 1, none⟩ = some (.slice a3 ocs.length c3) ∧ W.cell? ⟨w.heap.size, 3, none⟩ = some (.slice a3 ocs.length c3) ∧ W.cell? ⟨w.heap.size, 4, none⟩ = some (.int .i64 nid) ∧ W.cell? ⟨w.heap.size, 5, none⟩ = some (.slice a5 ncs.length c5)) := fun W h => by
      have hc := h.tb.cells hkt
      rw [hzv, hzt] at hc
      have hp : T.p = p := by rw [HTI.out]
      rw [hp] at hc
      exact ⟨hc.1, hc.2.1, CE.out W h⟩
    have hrow : rowD T.rows cid = z := by
      rw [hz]
      exact rowD_at hkr (rpl_at hkr hke (fun j hj hjk => by have := HPL.out.1 j hj hjk; omega))
    have HZ : Hid (rowD T.rows cid = z ∧ z.id = cid ∧ rplI T.rows cid = k ∧ k < T.ts.length ∧ ∃ h : k < T.rows.length, T.rows[k].id = cid) := ⟨hrow, by rw [hz]; exact hke, rpl_at hkr hke (fun j hj hjk => by have := HPL.out.1 j hj hjk; omega), hkt, hkr, hke⟩
    clear hz hzt hzle hzv hrow hke CE
    have CE := CE2
    clear CE2
    cases hs : eqB z ⟨oid, ocs⟩
    case false =>
      have HE : Hid (R = (T.rows, 13)) := by
        show R = _
        rw [← HR.out]
        exact in_ref HOK.out (by show eqB (rowD T.rows cid) ⟨oid, ocs⟩ = false; rw [HZ.out.1]; exact hs)
      rw [hs] at SR
      clear hs hkr hkt
      go_wp2_with fail
      refine wp_region_held_drew (S := (fun W => W.cell? ⟨p, k * 2, none⟩ = some (.int .i64 z.id) ∧ W.cell? ⟨p, k * 2 + 1, none⟩ = some (.slice za z.cells.length zq) ∧ W.cell? ⟨w.heap.size, 0, none⟩ = some (.int .i64 tab) ∧ W.cell? ⟨w.heap.size, 1, none⟩ = some (.int .i64 cid) ∧ W.cell? ⟨w.heap.size, 2, none⟩ = some (.int .i64 oid) ∧ W.cell? ⟨w.heap.size, 2 + 1, none⟩ = some (.slice a3 ocs.length c3) ∧ W.cell? ⟨w.heap.size, 3, none⟩ = some (.slice a3 ocs.length c3) ∧ W.cell? ⟨w.heap.size, 4, none⟩ = some (.int .i64 nid) ∧ W.cell? ⟨w.heap.size, 5, none⟩ = some (.slice a5 ncs.length c5))) (by kernel_rfl) ?_ (fun hHeld => ?_)
      · (first | exact CE.out _ hd | exact CE.out _ hd.drew)
      refine wpAnyH_take (i := 0) (v := ?_) rfl (by kernel_rfl) (by kernel_rfl) (by kernel_rfl) (fun _ _ _ h => h) (Or.inl ⟨by kernel_rfl, ?_⟩) (by assumption) ?_
      rotate_left
      · (intro wS hSw; (try dsimp only at hSw); go_simp <;> with_reducible rfl)
      try simp only [Act.put, tkS]
      refine wpAnyH_take (i := 1) (v := ?_) rfl (by kernel_rfl) (by kernel_rfl) (by kernel_rfl) (fun _ _ _ h => h) (Or.inl ⟨by kernel_rfl, ?_⟩) (by assumption) ?_
      rotate_left
      · (intro wS hSw; (try dsimp only at hSw); go_simp <;> with_reducible rfl)
      try simp only [Act.put, tkS]
      refine wpAnyH_take (i := 2) (v := ?_) rfl (by kernel_rfl) (by kernel_rfl) (by kernel_rfl) (fun _ _ _ h => h) (Or.inl ⟨by kernel_rfl, ?_⟩) (by assumption) ?_
      rotate_left
      · (intro wS hSw; (try dsimp only at hSw); go_simp <;> with_reducible rfl)
      try simp only [Act.put, tkS]
      refine wpAnyH_take (i := 3) (v := ?_) rfl (by kernel_rfl) (by kernel_rfl) (by kernel_rfl) (fun _ _ _ h => h) (Or.inl ⟨by kernel_rfl, ?_⟩) (by assumption) ?_
      rotate_left
      · (intro wS hSw; (try dsimp only at hSw); go_simp <;> with_reducible rfl)
      try simp only [Act.put, tkS]
      refine wpAnyH_take (i := 4) (v := ?_) rfl (by kernel_rfl) (by kernel_rfl) (by kernel_rfl) (fun _ _ _ h => h) (Or.inl ⟨by kernel_rfl, ?_⟩) (by assumption) ?_
      rotate_left
      · (intro wS hSw; (try dsimp only at hSw); go_simp <;> with_reducible rfl)
      try simp only [Act.put, tkS]
      refine wpAnyH_take (i := 5) (v := ?_) rfl (by kernel_rfl) (by kernel_rfl) (by kernel_rfl) (fun _ _ _ h => h) (Or.inl ⟨by kernel_rfl, ?_⟩) (by assumption) ?_
      rotate_left
      · (intro wS hSw; (try dsimp only at hSw); go_simp <;> with_reducible rfl)
      try simp only [Act.put, tkS]
      refine wpAnyH_take (i := 6) (v := ?_) rfl (by kernel_rfl) (by kernel_rfl) (by kernel_rfl) (fun _ _ _ h => h) (Or.inl ⟨by kernel_rfl, ?_⟩) (by assumption) ?_
      rotate_left
      · (intro wS hSw; (try dsimp only at hSw); go_simp <;> with_reducible rfl)
      try simp only [Act.put, tkS]
      refine wpAnyH_take (i := 7) (v := ?_) rfl (by kernel_rfl) (by kernel_rfl) (by kernel_rfl) (fun _ _ _ h => h) (Or.inl ⟨by kernel_rfl, ?_⟩) (by assumption) ?_
      rotate_left
      · (intro wS hSw; (try dsimp only at hSw); go_simp <;> with_reducible rfl)
      try simp only [Act.put, tkS]
      refine wpAnyH_ready (rs := [8]) (by kernel_rfl) (by simp) (AllReadyH.cons rfl (fun K hK => ?_) AllReadyH.nil)
      go_simp
      (go_at_call 65; refine (SR.out _ (by first | exact hd | exact hd.drew)).mono ?_; rintro e w1 ⟨rfl, hB⟩; have hd := (show DnT w _ T _ from (by first | exact hd | exact hd.drew)).later hB; clear hB)
      refine hK.out _ _ ?_ (fun hHeld => ?_)
      · (first | exact CE.out _ hd | exact CE.out _ hd.drew)
      clear hK K
      try simp only [Act.put, tkS]
      refine wpAnyH_take (i := 9) (v := ?_) rfl (by kernel_rfl) (by kernel_rfl) (by kernel_rfl) (fun _ _ _ h => h) (Or.inl ⟨by kernel_rfl, ?_⟩) (by assumption) ?_
      rotate_left
      · (intro wS hSw; (try dsimp only at hSw); go_simp <;> with_reducible rfl)
      try simp only [Act.put, tkS]
      refine wpAnyH_take (i := 10) (v := ?_) rfl (by kernel_rfl) (by kernel_rfl) (by kernel_rfl) (fun _ _ _ h => h) (Or.inl ⟨by kernel_rfl, ?_⟩) (by assumption) ?_
      rotate_left
      · (intro wS hSw; (try dsimp only at hSw); go_simp <;> with_reducible rfl)
      try simp only [Act.put, tkS]
      refine wpAnyH_take (i := 11) (v := ?_) rfl (by kernel_rfl) (by kernel_rfl) (by kernel_rfl) (fun _ _ _ h => h) (Or.inl ⟨by kernel_rfl, ?_⟩) (by assumption) ?_
      rotate_left
      · (intro wS hSw; (try dsimp only at hSw); go_simp <;> with_reducible rfl)
      try simp only [Act.put, tkS]
      refine wpAnyH_take (i := 12) (v := undef) rfl (by kernel_rfl) (by kernel_rfl) (by kernel_rfl) (fun _ _ _ h => h) (Or.inr ⟨by kernel_rfl, rfl⟩) (by assumption) ?_
      try simp only [Act.put, tkS]
      refine wpAnyH_take (i := 13) (v := undef) rfl (by kernel_rfl) (by kernel_rfl) (by kernel_rfl) (fun _ _ _ h => h) (Or.inr ⟨by kernel_rfl, rfl⟩) (by assumption) ?_
      try simp only [Act.put, tkS]
      refine wpAnyH_take (i := 14) (v := undef) rfl (by kernel_rfl) (by kernel_rfl) (by kernel_rfl) (fun _ _ _ h => h) (Or.inr ⟨by kernel_rfl, rfl⟩) (by assumption) ?_
      try simp only [Act.put, tkS]
      refine wpAnyH_take (i := 15) (v := undef) rfl (by kernel_rfl) (by kernel_rfl) (by kernel_rfl) (fun _ _ _ h => h) (Or.inr ⟨by kernel_rfl, rfl⟩) (by assumption) ?_
      try simp only [Act.put, tkS]
      refine wpAnyH_take (i := 16) (v := undef) rfl (by kernel_rfl) (by kernel_rfl) (by kernel_rfl) (fun _ _ _ h => h) (Or.inr ⟨by kernel_rfl, rfl⟩) (by assumption) ?_
      try simp only [Act.put, tkS]
      refine wpAnyH_take (i := 17) (v := undef) rfl (by kernel_rfl) (by kernel_rfl) (by kernel_rfl) (fun _ _ _ h => h) (Or.inr ⟨by kernel_rfl, rfl⟩) (by assumption) ?_
      try simp only [Act.put, tkS]
      refine wpAnyH_take (i := 18) (v := undef) rfl (by kernel_rfl) (by kernel_rfl) (by kernel_rfl) (fun _ _ _ h => h) (Or.inr ⟨by kernel_rfl, rfl⟩) (by assumption) ?_
      try simp only [Act.put, tkS]
      refine wpAnyH_take (i := 19) (v := undef) rfl (by kernel_rfl) (by kernel_rfl) (by kernel_rfl) (fun _ _ _ h => h) (Or.inr ⟨by kernel_rfl, rfl⟩) (by assumption) ?_
      try simp only [Act.put, tkS]
      refine wpAnyH_take (i := 20) (v := undef) rfl (by kernel_rfl) (by kernel_rfl) (by kernel_rfl) (fun _ _ _ h => h) (Or.inr ⟨by kernel_rfl, rfl⟩) (by assumption) ?_
      try simp only [Act.put, tkS]
      refine wpAnyH_take (i := 21) (v := ?_) rfl (by kernel_rfl) (by kernel_rfl) (by kernel_rfl) (fun _ _ _ h => h) (Or.inl ⟨by kernel_rfl, ?_⟩) (by assumption) ?_
      rotate_left
      · (intro wS hSw; (try dsimp only at hSw); go_simp <;> with_reducible rfl)
      try simp only [Act.put, tkS]
      refine wpAnyH_done (by kernel_rfl) ?_ _
      go_wp2_with fail
      go_ret2
      exact (show DnT w _ T _ from (by first | exact hd | exact hd.drew)).ans HTV.out HE.out
    have hze : z = ⟨oid, ocs⟩ := eqB_iff.1 hs
    have hoid : oid = cid := by have := HZ.out.2.1; rw [hze] at this; exact this
    have HS2 : Hid (eqB (rowD T.rows (⟨tab, cid, oid, ocs, nid, ncs⟩ : ChV).cid) ⟨(⟨tab, cid, oid, ocs, nid, ncs⟩ : ChV).oid, (⟨tab, cid, oid, ocs, nid, ncs⟩ : ChV).ocs⟩ = true) := by
      show eqB (rowD T.rows cid) ⟨oid, ocs⟩ = true
      rw [HZ.out.1]; exact hs
    have hks := kind_there (t := tab) (ocs := ocs) (ncs := ncs) (nid := nid) HK1.out hoid HKN.out
    rw [hs] at SR
    clear hs hze hoid hkr hkt
    rcases hks with hk2 | ⟨hk3, hnid⟩
    · have HE : Hid (∀ p' cap', R = ((T.spl p' cap' k (k + 1) []).rows, 0)) := fun p' cap' => by
        rw [← HR.out, in_drop HOK.out HS2.out hk2, spl_drop HZ.out.2.2.1]
      obtain rfl : kd = 2 := HKD.out.symm.trans hk2
      clear hk2
      have hkb : k < 1048576 := by have h1 := (Ls_le.1 HP.out.2.1).2.1; have h2 := HZ.out.2.2.2.2.1; omega
      have hwk : IntKind.i64.wrap ((k : Int) + 1) = (k : Int) + 1 := by rw [IntKind.wrap_i64]; omega
      go_wp2_with fail
      refine wp_region_held_drew (S := (fun W => W.cell? ⟨p, k * 2, none⟩ = some (.int .i64 z.id) ∧ W.cell? ⟨p, k * 2 + 1, none⟩ = some (.slice za z.cells.length zq) ∧ W.cell? ⟨w.heap.size, 0, none⟩ = some (.int .i64 tab) ∧ W.cell? ⟨w.heap.size, 1, none⟩ = some (.int .i64 cid) ∧ W.cell? ⟨w.heap.size, 2, none⟩ = some (.int .i64 oid) ∧ W.cell? ⟨w.heap.size, 2 + 1, none⟩ = some (.slice a3 ocs.length c3) ∧ W.cell? ⟨w.heap.size, 3, none⟩ = some (.slice a3 ocs.length c3) ∧ W.cell? ⟨w.heap.size, 4, none⟩ = some (.int .i64 nid) ∧ W.cell? ⟨w.heap.size, 5, none⟩ = some (.slice a5 ncs.length c5))) (by kernel_rfl) ?_ (fun hHeld => ?_)
      · (first | exact CE.out _ hd | exact CE.out _ hd.drew)
      refine wpAnyH_take (i := 0) (v := ?_) rfl (by kernel_rfl) (by kernel_rfl) (by kernel_rfl) (fun _ _ _ h => h) (Or.inl ⟨by kernel_rfl, ?_⟩) (by assumption) ?_
      rotate_left
      · (intro wS hSw; (try dsimp only at hSw); go_simp <;> with_reducible rfl)
      try simp only [Act.put, tkS]
      refine wpAnyH_take (i := 1) (v := ?_) rfl (by kernel_rfl) (by kernel_rfl) (by kernel_rfl) (fun _ _ _ h => h) (Or.inl ⟨by kernel_rfl, ?_⟩) (by assumption) ?_
      rotate_left
      · (intro wS hSw; (try dsimp only at hSw); go_simp <;> with_reducible rfl)
      try simp only [Act.put, tkS]
      refine wpAnyH_take (i := 2) (v := ?_) rfl (by kernel_rfl) (by kernel_rfl) (by kernel_rfl) (fun _ _ _ h => h) (Or.inl ⟨by kernel_rfl, ?_⟩) (by assumption) ?_
      rotate_left
      · (intro wS hSw; (try dsimp only at hSw); go_simp <;> with_reducible rfl)
      try simp only [Act.put, tkS]
      refine wpAnyH_take (i := 3) (v := ?_) rfl (by kernel_rfl) (by kernel_rfl) (by kernel_rfl) (fun _ _ _ h => h) (Or.inl ⟨by kernel_rfl, ?_⟩) (by assumption) ?_
      rotate_left
      · (intro wS hSw; (try dsimp only at hSw); go_simp <;> with_reducible rfl)
      try simp only [Act.put, tkS]
      refine wpAnyH_take (i := 4) (v := ?_) rfl (by kernel_rfl) (by kernel_rfl) (by kernel_rfl) (fun _ _ _ h => h) (Or.inl ⟨by kernel_rfl, ?_⟩) (by assumption) ?_
      rotate_left
      · (intro wS hSw; (try dsimp only at hSw); go_simp <;> with_reducible rfl)
      try simp only [Act.put, tkS]
      refine wpAnyH_take (i := 5) (v := ?_) rfl (by kernel_rfl) (by kernel_rfl) (by kernel_rfl) (fun _ _ _ h => h) (Or.inl ⟨by kernel_rfl, ?_⟩) (by assumption) ?_
      rotate_left
      · (intro wS hSw; (try dsimp only at hSw); go_simp <;> with_reducible rfl)
      try simp only [Act.put, tkS]
      refine wpAnyH_take (i := 6) (v := ?_) rfl (by kernel_rfl) (by kernel_rfl) (by kernel_rfl) (fun _ _ _ h => h) (Or.inl ⟨by kernel_rfl, ?_⟩) (by assumption) ?_
      rotate_left
      · (intro wS hSw; (try dsimp only at hSw); go_simp <;> with_reducible rfl)
      try simp only [Act.put, tkS]
      refine wpAnyH_take (i := 7) (v := ?_) rfl (by kernel_rfl) (by kernel_rfl) (by kernel_rfl) (fun _ _ _ h => h) (Or.inl ⟨by kernel_rfl, ?_⟩) (by assumption) ?_
      rotate_left
      · (intro wS hSw; (try dsimp only at hSw); go_simp <;> with_reducible rfl)
      try simp only [Act.put, tkS]
      refine wpAnyH_ready (rs := [8]) (by kernel_rfl) (by simp) (AllReadyH.cons rfl (fun K hK => ?_) AllReadyH.nil)
      go_simp
      (go_at_call 65; refine (SR.out _ (by first | exact hd | exact hd.drew)).mono ?_; rintro e w1 ⟨rfl, hB⟩; have hd := (show DnT w _ T _ from (by first | exact hd | exact hd.drew)).later hB; clear hB)
      refine hK.out _ _ ?_ (fun hHeld => ?_)
      · (first | exact CE.out _ hd | exact CE.out _ hd.drew)
      clear hK K
      try simp only [Act.put, tkS]
      refine wpAnyH_take (i := 9) (v := ?_) rfl (by kernel_rfl) (by kernel_rfl) (by kernel_rfl) (fun _ _ _ h => h) (Or.inl ⟨by kernel_rfl, ?_⟩) (by assumption) ?_
      rotate_left
      · (intro wS hSw; (try dsimp only at hSw); go_simp <;> with_reducible rfl)
      try simp only [Act.put, tkS]
      refine wpAnyH_take (i := 10) (v := ?_) rfl (by kernel_rfl) (by kernel_rfl) (by kernel_rfl) (fun _ _ _ h => h) (Or.inl ⟨by kernel_rfl, ?_⟩) (by assumption) ?_
      rotate_left
      · (intro wS hSw; (try dsimp only at hSw); go_simp <;> with_reducible rfl)
      try simp only [Act.put, tkS]
      refine wpAnyH_take (i := 11) (v := ?_) rfl (by kernel_rfl) (by kernel_rfl) (by kernel_rfl) (fun _ _ _ h => h) (Or.inl ⟨by kernel_rfl, ?_⟩) (by assumption) ?_
      rotate_left
      · (intro wS hSw; (try dsimp only at hSw); go_simp <;> with_reducible rfl)
      try simp only [Act.put, tkS]
      refine wpAnyH_take (i := 12) (v := ?_) rfl (by kernel_rfl) (by kernel_rfl) (by kernel_rfl) (fun _ _ _ h => h) (Or.inl ⟨by kernel_rfl, ?_⟩) (by assumption) ?_
      rotate_left
      · (intro wS hSw; (try dsimp only at hSw); go_simp <;> with_reducible rfl)
      try simp only [Act.put, tkS]
      refine wpAnyH_take (i := 13) (v := ?_) rfl (by kernel_rfl) (by kernel_rfl) (by kernel_rfl) (fun _ _ _ h => h) (Or.inl ⟨by kernel_rfl, ?_⟩) (by assumption) ?_
      rotate_left
      · (intro wS hSw; (try dsimp only at hSw); go_simp <;> with_reducible rfl)
      try simp only [Act.put, tkS]
      refine wpAnyH_take (i := 14) (v := ?_) rfl (by kernel_rfl) (by kernel_rfl) (by kernel_rfl) (fun _ _ _ h => h) (Or.inl ⟨by kernel_rfl, ?_⟩) (by assumption) ?_
      rotate_left
      · (intro wS hSw; (try dsimp only at hSw); go_simp <;> with_reducible rfl)
      try simp only [Act.put, tkS]
      refine wpAnyH_take (i := 15) (v := undef) rfl (by kernel_rfl) (by kernel_rfl) (by kernel_rfl) (fun _ _ _ h => h) (Or.inr ⟨by kernel_rfl, rfl⟩) (by assumption) ?_
      try simp only [Act.put, tkS]
      refine wpAnyH_take (i := 16) (v := undef) rfl (by kernel_rfl) (by kernel_rfl) (by kernel_rfl) (fun _ _ _ h => h) (Or.inr ⟨by kernel_rfl, rfl⟩) (by assumption) ?_
      try simp only [Act.put, tkS]
      refine wpAnyH_take (i := 17) (v := undef) rfl (by kernel_rfl) (by kernel_rfl) (by kernel_rfl) (fun _ _ _ h => h) (Or.inr ⟨by kernel_rfl, rfl⟩) (by assumption) ?_
      try simp only [Act.put, tkS]
      refine wpAnyH_take (i := 18) (v := undef) rfl (by kernel_rfl) (by kernel_rfl) (by kernel_rfl) (fun _ _ _ h => h) (Or.inr ⟨by kernel_rfl, rfl⟩) (by assumption) ?_
      try simp only [Act.put, tkS]
      refine wpAnyH_take (i := 19) (v := undef) rfl (by kernel_rfl) (by kernel_rfl) (by kernel_rfl) (fun _ _ _ h => h) (Or.inr ⟨by kernel_rfl, rfl⟩) (by assumption) ?_
      try simp only [Act.put, tkS]
      refine wpAnyH_take (i := 20) (v := ?_) rfl (by kernel_rfl) (by kernel_rfl) (by kernel_rfl) (fun _ _ _ h => h) (Or.inl ⟨by kernel_rfl, ?_⟩) (by assumption) ?_
      rotate_left
      · (intro wS hSw; (try dsimp only at hSw); go_simp <;> with_reducible rfl)
      try simp only [Act.put, tkS]
      refine wpAnyH_take (i := 21) (v := ?_) rfl (by kernel_rfl) (by kernel_rfl) (by kernel_rfl) (fun _ _ _ h => h) (Or.inl ⟨by kernel_rfl, ?_⟩) (by assumption) ?_
      rotate_left
      · (intro wS hSw; (try dsimp only at hSw); go_simp <;> with_reducible rfl)
      try simp only [Act.put, tkS]
      refine wpAnyH_done (by kernel_rfl) ?_ _
      have hd2 : DnT w _ T #[.int .i64 tab, .int .i64 cid, .int .i64 oid, .slice a3 ocs.length c3, .int .i64 nid, .slice a5 ncs.length c5] := (by first | exact hd | exact hd.drew)
      go_wp2_with fail
      obtain ⟨mm, hmm⟩ : ∃ mm, ts.length = mm + 1 := ⟨ts.length - 1, by have := HZ.out.2.2.2.1; rw [HTI.out] at this; have h3 : k < ts.length := this; omega⟩
      have HTB := Lib.hid hd2.tb
      rw [HTI.out] at HTB
      have hcp : 0 < cap := by have h1 : ts.length ≤ cap := HTB.out.le; omega
      obtain ⟨cur, hh, hsz, htk⟩ := HTB.out.hp hcp
      have hkm : k ≤ mm := by have := HZ.out.2.2.2.1; rw [HTI.out] at this; have h3 : k < ts.length := this; omega
      have hml : mm < 1048576 := by have h1 := (Ls_le.1 HP.out.2.1).2.1; rw [HRL.out] at h1; omega
      rw [show (Tab3.mk p cap ts).ts = ts from rfl, hmm] at htk
      have DL := Lib.hid (deleteR mm k cap p cur (cs3 ts) _ hml hkm (by have h1 : ts.length ≤ cap := HTB.out.le; omega) HTB.out.cm hh hsz htk HTB.out.one)
      rw [← hmm] at DL
      with_reducible refine DL.out.mono ?_
      rintro e w6 ⟨cur', rfl, hh6, htk6, hsz6, hF6⟩
      have hTT := hd2.tb.delT (k := k) (mm := mm) (cur := cur') (w' := w6) (by rw [HTI.out]; exact hmm) hkm (by rw [HTI.out]; exact hh6) (by rw [HTI.out]; exact htk6) (by rw [HTI.out]; exact hsz6) (by rw [HTI.out]; exact hF6)
      have HF : Hid (IntoAns w T R (.returned (.tuple #[.slice (some ⟨p, 0, none⟩) mm cap, .int .i64 0])) w6) := hd2.e ⟨hTT.1, hTT.2.1, hTT.2.2.1⟩ (by rw [hTT.2.2.2, HTI.out]) (HE.out _ _)
      clear hTT hh6 htk6 hsz6 hF6 DL htk hsz hh HTB hd2 hcp hmm hml hkm
      go_wp2_with fail
      go_ret2
      exact HF.out
    · have HPU : Hid (putL T.rows ⟨nid, ncs⟩ = T.rows.take k ++ ⟨nid, ncs⟩ :: T.rows.drop (k + 1)) :=
        putL_at (by have := HZ.out.2.2.2.2.1; omega) (fun j hj hjk => by show _ < nid; rw [hnid]; exact HPL.out.1 j hj hjk) (fun h => by show ¬ _ < nid; rw [hnid]; have := HPL.out.2.1 k h (Nat.le_refl _); omega) (.inl ⟨rfl, HZ.out.2.2.2.2.1, by show _ = nid; rw [hnid]; exact HZ.out.2.2.2.2.2⟩)
      have HE : Hid (∀ p' cap' v X, R = ((T.spl p' cap' k (k + 1) [⟨⟨nid, ncs⟩, v, X⟩]).rows, 0)) := fun p' cap' v X => by
        rw [← HR.out, in_put HOK.out HS2.out (by rw [hk3]; omega) (by rw [hk3]; omega), spl_put HPU.out]
      obtain rfl : kd = 3 := HKD.out.symm.trans hk3
      clear hk3 hnid
      go_wp2_with fail
      refine wp_region_held_drew (S := (fun W => W.cell? ⟨p, k * 2, none⟩ = some (.int .i64 z.id) ∧ W.cell? ⟨p, k * 2 + 1, none⟩ = some (.slice za z.cells.length zq) ∧ W.cell? ⟨w.heap.size, 0, none⟩ = some (.int .i64 tab) ∧ W.cell? ⟨w.heap.size, 1, none⟩ = some (.int .i64 cid) ∧ W.cell? ⟨w.heap.size, 2, none⟩ = some (.int .i64 oid) ∧ W.cell? ⟨w.heap.size, 2 + 1, none⟩ = some (.slice a3 ocs.length c3) ∧ W.cell? ⟨w.heap.size, 3, none⟩ = some (.slice a3 ocs.length c3) ∧ W.cell? ⟨w.heap.size, 4, none⟩ = some (.int .i64 nid) ∧ W.cell? ⟨w.heap.size, 5, none⟩ = some (.slice a5 ncs.length c5))) (by kernel_rfl) ?_ (fun hHeld => ?_)
      · (first | exact CE.out _ hd | exact CE.out _ hd.drew)
      refine wpAnyH_take (i := 0) (v := ?_) rfl (by kernel_rfl) (by kernel_rfl) (by kernel_rfl) (fun _ _ _ h => h) (Or.inl ⟨by kernel_rfl, ?_⟩) (by assumption) ?_
      rotate_left
      · (intro wS hSw; (try dsimp only at hSw); go_simp <;> with_reducible rfl)
      try simp only [Act.put, tkS]
      refine wpAnyH_take (i := 1) (v := ?_) rfl (by kernel_rfl) (by kernel_rfl) (by kernel_rfl) (fun _ _ _ h => h) (Or.inl ⟨by kernel_rfl, ?_⟩) (by assumption) ?_
      rotate_left
      · (intro wS hSw; (try dsimp only at hSw); go_simp <;> with_reducible rfl)
      try simp only [Act.put, tkS]
      refine wpAnyH_take (i := 2) (v := ?_) rfl (by kernel_rfl) (by kernel_rfl) (by kernel_rfl) (fun _ _ _ h => h) (Or.inl ⟨by kernel_rfl, ?_⟩) (by assumption) ?_
      rotate_left
      · (intro wS hSw; (try dsimp only at hSw); go_simp <;> with_reducible rfl)
      try simp only [Act.put, tkS]
      refine wpAnyH_take (i := 3) (v := ?_) rfl (by kernel_rfl) (by kernel_rfl) (by kernel_rfl) (fun _ _ _ h => h) (Or.inl ⟨by kernel_rfl, ?_⟩) (by assumption) ?_
      rotate_left
      · (intro wS hSw; (try dsimp only at hSw); go_simp <;> with_reducible rfl)
      try simp only [Act.put, tkS]
      refine wpAnyH_take (i := 4) (v := ?_) rfl (by kernel_rfl) (by kernel_rfl) (by kernel_rfl) (fun _ _ _ h => h) (Or.inl ⟨by kernel_rfl, ?_⟩) (by assumption) ?_
      rotate_left
      · (intro wS hSw; (try dsimp only at hSw); go_simp <;> with_reducible rfl)
      try simp only [Act.put, tkS]
      refine wpAnyH_take (i := 5) (v := ?_) rfl (by kernel_rfl) (by kernel_rfl) (by kernel_rfl) (fun _ _ _ h => h) (Or.inl ⟨by kernel_rfl, ?_⟩) (by assumption) ?_
      rotate_left
      · (intro wS hSw; (try dsimp only at hSw); go_simp <;> with_reducible rfl)
      try simp only [Act.put, tkS]
      refine wpAnyH_take (i := 6) (v := ?_) rfl (by kernel_rfl) (by kernel_rfl) (by kernel_rfl) (fun _ _ _ h => h) (Or.inl ⟨by kernel_rfl, ?_⟩) (by assumption) ?_
      rotate_left
      · (intro wS hSw; (try dsimp only at hSw); go_simp <;> with_reducible rfl)
      try simp only [Act.put, tkS]
      refine wpAnyH_take (i := 7) (v := ?_) rfl (by kernel_rfl) (by kernel_rfl) (by kernel_rfl) (fun _ _ _ h => h) (Or.inl ⟨by kernel_rfl, ?_⟩) (by assumption) ?_
      rotate_left
      · (intro wS hSw; (try dsimp only at hSw); go_simp <;> with_reducible rfl)
      try simp only [Act.put, tkS]
      refine wpAnyH_ready (rs := [8]) (by kernel_rfl) (by simp) (AllReadyH.cons rfl (fun K hK => ?_) AllReadyH.nil)
      go_simp
      (go_at_call 65; refine (SR.out _ (by first | exact hd | exact hd.drew)).mono ?_; rintro e w1 ⟨rfl, hB⟩; have hd := (show DnT w _ T _ from (by first | exact hd | exact hd.drew)).later hB; clear hB)
      refine hK.out _ _ ?_ (fun hHeld => ?_)
      · (first | exact CE.out _ hd | exact CE.out _ hd.drew)
      clear hK K
      try simp only [Act.put, tkS]
      refine wpAnyH_take (i := 9) (v := ?_) rfl (by kernel_rfl) (by kernel_rfl) (by kernel_rfl) (fun _ _ _ h => h) (Or.inl ⟨by kernel_rfl, ?_⟩) (by assumption) ?_
      rotate_left
      · (intro wS hSw; (try dsimp only at hSw); go_simp <;> with_reducible rfl)
      try simp only [Act.put, tkS]
      refine wpAnyH_take (i := 10) (v := ?_) rfl (by kernel_rfl) (by kernel_rfl) (by kernel_rfl) (fun _ _ _ h => h) (Or.inl ⟨by kernel_rfl, ?_⟩) (by assumption) ?_
      rotate_left
      · (intro wS hSw; (try dsimp only at hSw); go_simp <;> with_reducible rfl)
      try simp only [Act.put, tkS]
      refine wpAnyH_take (i := 11) (v := ?_) rfl (by kernel_rfl) (by kernel_rfl) (by kernel_rfl) (fun _ _ _ h => h) (Or.inl ⟨by kernel_rfl, ?_⟩) (by assumption) ?_
      rotate_left
      · (intro wS hSw; (try dsimp only at hSw); go_simp <;> with_reducible rfl)
      try simp only [Act.put, tkS]
      refine wpAnyH_take (i := 12) (v := ?_) rfl (by kernel_rfl) (by kernel_rfl) (by kernel_rfl) (fun _ _ _ h => h) (Or.inl ⟨by kernel_rfl, ?_⟩) (by assumption) ?_
      rotate_left
      · (intro wS hSw; (try dsimp only at hSw); go_simp <;> with_reducible rfl)
      try simp only [Act.put, tkS]
      refine wpAnyH_take (i := 13) (v := ?_) rfl (by kernel_rfl) (by kernel_rfl) (by kernel_rfl) (fun _ _ _ h => h) (Or.inl ⟨by kernel_rfl, ?_⟩) (by assumption) ?_
      rotate_left
      · (intro wS hSw; (try dsimp only at hSw); go_simp <;> with_reducible rfl)
      try simp only [Act.put, tkS]
      refine wpAnyH_take (i := 14) (v := ?_) rfl (by kernel_rfl) (by kernel_rfl) (by kernel_rfl) (fun _ _ _ h => h) (Or.inl ⟨by kernel_rfl, ?_⟩) (by assumption) ?_
      rotate_left
      · (intro wS hSw; (try dsimp only at hSw); go_simp <;> with_reducible rfl)
      try simp only [Act.put, tkS]
      refine wpAnyH_take (i := 15) (v := undef) rfl (by kernel_rfl) (by kernel_rfl) (by kernel_rfl) (fun _ _ _ h => h) (Or.inr ⟨by kernel_rfl, rfl⟩) (by assumption) ?_
      try simp only [Act.put, tkS]
      refine wpAnyH_take (i := 16) (v := undef) rfl (by kernel_rfl) (by kernel_rfl) (by kernel_rfl) (fun _ _ _ h => h) (Or.inr ⟨by kernel_rfl, rfl⟩) (by assumption) ?_
      try simp only [Act.put, tkS]
      refine wpAnyH_take (i := 17) (v := undef) rfl (by kernel_rfl) (by kernel_rfl) (by kernel_rfl) (fun _ _ _ h => h) (Or.inr ⟨by kernel_rfl, rfl⟩) (by assumption) ?_
      try simp only [Act.put, tkS]
      refine wpAnyH_take (i := 18) (v := undef) rfl (by kernel_rfl) (by kernel_rfl) (by kernel_rfl) (fun _ _ _ h => h) (Or.inr ⟨by kernel_rfl, rfl⟩) (by assumption) ?_
      try simp only [Act.put, tkS]
      refine wpAnyH_take (i := 19) (v := undef) rfl (by kernel_rfl) (by kernel_rfl) (by kernel_rfl) (fun _ _ _ h => h) (Or.inr ⟨by kernel_rfl, rfl⟩) (by assumption) ?_
      try simp only [Act.put, tkS]
      refine wpAnyH_take (i := 20) (v := ?_) rfl (by kernel_rfl) (by kernel_rfl) (by kernel_rfl) (fun _ _ _ h => h) (Or.inl ⟨by kernel_rfl, ?_⟩) (by assumption) ?_
      rotate_left
      · (intro wS hSw; (try dsimp only at hSw); go_simp <;> with_reducible rfl)
      try simp only [Act.put, tkS]
      refine wpAnyH_take (i := 21) (v := ?_) rfl (by kernel_rfl) (by kernel_rfl) (by kernel_rfl) (fun _ _ _ h => h) (Or.inl ⟨by kernel_rfl, ?_⟩) (by assumption) ?_
      rotate_left
      · (intro wS hSw; (try dsimp only at hSw); go_simp <;> with_reducible rfl)
      try simp only [Act.put, tkS]
      refine wpAnyH_done (by kernel_rfl) ?_ _
      have hd2 : DnT w _ T #[.int .i64 tab, .int .i64 cid, .int .i64 oid, .slice a3 ocs.length c3, .int .i64 nid, .slice a5 ncs.length c5] := (by first | exact hd | exact hd.drew)
      have CR := Lib.hid (copyRowI ⟨nid, ncs⟩ w.heap.size 4 a5 c5 B _ HP.out.2.2.2 (HNN.out _ hd2) (cell_at (o := 4) hd2.bx rfl) (cell_at (o := 5) hd2.bx rfl))
      obtain ⟨zp0, zp1, x0, x1, x2, -, x3, x4, x5⟩ := CE.out _ hd2
      go_wp2_with fail
      refine CR.out.mono ?_
      rintro e w4 ⟨q2, rfl, hown4, hB4⟩
      have hpp : T.p = p := by rw [HTI.out]
      have hc5 := (hd2.later hB4).tb.cells HZ.out.2.2.2.1
      rw [hpp] at hc5
      have hTT := hd2.tb.repT (r := ⟨nid, ncs⟩) HZ.out.2.2.2.1 hB4 hown4
      have HF : Hid (IntoAns w T R (.returned (.tuple #[.slice (some ⟨p, 0, none⟩) ts.length cap, .int .i64 0])) ((w4.setCell ⟨T.p, k * 2, none⟩ (.int .i64 nid)).setCell ⟨T.p, k * 2 + 1, none⟩ (.slice (some ⟨q2, 0, none⟩) ncs.length ncs.length))) := hd2.e ⟨hTT.1, hTT.2.1, hTT.2.2.1⟩ (hTT.2.2.2.symm.trans HTV.out) (HE.out _ _ _ _)
      rw [hpp] at HF
      obtain ⟨e0, e1, f0, f1⟩ := hc5
      clear hTT hpp hown4 hB4 x0 x1 x2 x3 x4 x5 zp0 zp1 hd2 hd
      go_wp2_with fail
      go_ret2
      exact HF.out
  have hno := HPL.out.2.2.2 rfl
  have hrow : rowD T.rows cid = rowZ := rowD_none (rpl_none hno)
  have SR : Hid (∀ W, DnT w W T #[.int .i64 tab, .int .i64 cid, .int .i64 oid, .slice a3 ocs.length c3, .int .i64 nid, .slice a5 ncs.length c5] → Calls Try.prog 65 #[.agg #[.int .i64 0, .slice none 0 0], .agg #[.int .i64 oid, .slice a3 ocs.length c3]] W fun e w' => e = .returned (.bool (eqB rowZ ⟨oid, ocs⟩)) ∧ Below W.heap.size W w') := fun W h => sameRowI rowZ ⟨oid, ocs⟩ none 0 a3 c3 B B W (Ls_le.2 ⟨by omega, Nat.zero_le _, fun i hi => absurd hi (by simp [rowZ])⟩) (D.le.mono (by unfold maxLen; omega) _ HP.out.2.2.1) (Rd.lsNil _ _) (HOO.out W h)
  have HNO := Lib.hid hno
  cases hs : eqB rowZ ⟨oid, ocs⟩
  case false =>
    have HE : Hid (R = (T.rows, 13)) := by
      show R = _
      rw [← HR.out]
      exact in_ref HOK.out (by show eqB (rowD T.rows cid) ⟨oid, ocs⟩ = false; rw [hrow]; exact hs)
    rw [hs] at SR
    clear hs hno hrow
    go_wp2_with fail
    refine wp_region_held_drew (S := (fun W => W.cell? ⟨w.heap.size, 0, none⟩ = some (.int .i64 tab) ∧ W.cell? ⟨w.heap.size, 1, none⟩ = some (.int .i64 cid) ∧ W.cell? ⟨w.heap.size, 2, none⟩ = some (.int .i64 oid) ∧ W.cell? ⟨w.heap.size, 2 + 1, none⟩ = some (.slice a3 ocs.length c3) ∧ W.cell? ⟨w.heap.size, 3, none⟩ = some (.slice a3 ocs.length c3) ∧ W.cell? ⟨w.heap.size, 4, none⟩ = some (.int .i64 nid) ∧ W.cell? ⟨w.heap.size, 5, none⟩ = some (.slice a5 ncs.length c5))) (by kernel_rfl) ?_ (fun hHeld => ?_)
    · (first | exact CE.out _ hd | exact CE.out _ hd.drew)
    refine wpAnyH_take (i := 0) (v := ?_) rfl (by kernel_rfl) (by kernel_rfl) (by kernel_rfl) (fun _ _ _ h => h) (Or.inl ⟨by kernel_rfl, ?_⟩) (by assumption) ?_
    rotate_left
    · (intro wS hSw; (try dsimp only at hSw); go_simp <;> with_reducible rfl)
    try simp only [Act.put, tkS]
    refine wpAnyH_take (i := 1) (v := ?_) rfl (by kernel_rfl) (by kernel_rfl) (by kernel_rfl) (fun _ _ _ h => h) (Or.inl ⟨by kernel_rfl, ?_⟩) (by assumption) ?_
    rotate_left
    · (intro wS hSw; (try dsimp only at hSw); go_simp <;> with_reducible rfl)
    try simp only [Act.put, tkS]
    refine wpAnyH_take (i := 2) (v := undef) rfl (by kernel_rfl) (by kernel_rfl) (by kernel_rfl) (fun _ _ _ h => h) (Or.inr ⟨by kernel_rfl, rfl⟩) (by assumption) ?_
    try simp only [Act.put, tkS]
    refine wpAnyH_take (i := 3) (v := undef) rfl (by kernel_rfl) (by kernel_rfl) (by kernel_rfl) (fun _ _ _ h => h) (Or.inr ⟨by kernel_rfl, rfl⟩) (by assumption) ?_
    try simp only [Act.put, tkS]
    refine wpAnyH_take (i := 4) (v := undef) rfl (by kernel_rfl) (by kernel_rfl) (by kernel_rfl) (fun _ _ _ h => h) (Or.inr ⟨by kernel_rfl, rfl⟩) (by assumption) ?_
    try simp only [Act.put, tkS]
    refine wpAnyH_take (i := 5) (v := undef) rfl (by kernel_rfl) (by kernel_rfl) (by kernel_rfl) (fun _ _ _ h => h) (Or.inr ⟨by kernel_rfl, rfl⟩) (by assumption) ?_
    try simp only [Act.put, tkS]
    refine wpAnyH_take (i := 6) (v := undef) rfl (by kernel_rfl) (by kernel_rfl) (by kernel_rfl) (fun _ _ _ h => h) (Or.inr ⟨by kernel_rfl, rfl⟩) (by assumption) ?_
    try simp only [Act.put, tkS]
    refine wpAnyH_take (i := 7) (v := undef) rfl (by kernel_rfl) (by kernel_rfl) (by kernel_rfl) (fun _ _ _ h => h) (Or.inr ⟨by kernel_rfl, rfl⟩) (by assumption) ?_
    try simp only [Act.put, tkS]
    refine wpAnyH_take (i := 8) (v := undef) rfl (by kernel_rfl) (by kernel_rfl) (by kernel_rfl) (fun _ _ _ h => h) (Or.inr ⟨by kernel_rfl, rfl⟩) (by assumption) ?_
    try simp only [Act.put, tkS]
    refine wpAnyH_take (i := 9) (v := undef) rfl (by kernel_rfl) (by kernel_rfl) (by kernel_rfl) (fun _ _ _ h => h) (Or.inr ⟨by kernel_rfl, rfl⟩) (by assumption) ?_
    try simp only [Act.put, tkS]
    refine wpAnyH_take (i := 10) (v := ?_) rfl (by kernel_rfl) (by kernel_rfl) (by kernel_rfl) (fun _ _ _ h => h) (Or.inl ⟨by kernel_rfl, ?_⟩) (by assumption) ?_
    rotate_left
    · (intro wS hSw; (try dsimp only at hSw); go_simp <;> with_reducible rfl)
    try simp only [Act.put, tkS]
    refine wpAnyH_take (i := 11) (v := ?_) rfl (by kernel_rfl) (by kernel_rfl) (by kernel_rfl) (fun _ _ _ h => h) (Or.inl ⟨by kernel_rfl, ?_⟩) (by assumption) ?_
    rotate_left
    · (intro wS hSw; (try dsimp only at hSw); go_simp <;> with_reducible rfl)
    try simp only [Act.put, tkS]
    refine wpAnyH_take (i := 12) (v := ?_) rfl (by kernel_rfl) (by kernel_rfl) (by kernel_rfl) (fun _ _ _ h => h) (Or.inl ⟨by kernel_rfl, ?_⟩) (by assumption) ?_
    rotate_left
    · (intro wS hSw; (try dsimp only at hSw); go_simp <;> with_reducible rfl)
    try simp only [Act.put, tkS]
    refine wpAnyH_take (i := 13) (v := ?_) rfl (by kernel_rfl) (by kernel_rfl) (by kernel_rfl) (fun _ _ _ h => h) (Or.inl ⟨by kernel_rfl, ?_⟩) (by assumption) ?_
    rotate_left
    · (intro wS hSw; (try dsimp only at hSw); go_simp <;> with_reducible rfl)
    try simp only [Act.put, tkS]
    refine wpAnyH_take (i := 14) (v := ?_) rfl (by kernel_rfl) (by kernel_rfl) (by kernel_rfl) (fun _ _ _ h => h) (Or.inl ⟨by kernel_rfl, ?_⟩) (by assumption) ?_
    rotate_left
    · (intro wS hSw; (try dsimp only at hSw); go_simp <;> with_reducible rfl)
    try simp only [Act.put, tkS]
    refine wpAnyH_take (i := 15) (v := ?_) rfl (by kernel_rfl) (by kernel_rfl) (by kernel_rfl) (fun _ _ _ h => h) (Or.inl ⟨by kernel_rfl, ?_⟩) (by assumption) ?_
    rotate_left
    · (intro wS hSw; (try dsimp only at hSw); go_simp <;> with_reducible rfl)
    try simp only [Act.put, tkS]
    refine wpAnyH_take (i := 16) (v := ?_) rfl (by kernel_rfl) (by kernel_rfl) (by kernel_rfl) (fun _ _ _ h => h) (Or.inl ⟨by kernel_rfl, ?_⟩) (by assumption) ?_
    rotate_left
    · (intro wS hSw; (try dsimp only at hSw); go_simp <;> with_reducible rfl)
    try simp only [Act.put, tkS]
    refine wpAnyH_take (i := 17) (v := ?_) rfl (by kernel_rfl) (by kernel_rfl) (by kernel_rfl) (fun _ _ _ h => h) (Or.inl ⟨by kernel_rfl, ?_⟩) (by assumption) ?_
    rotate_left
    · (intro wS hSw; (try dsimp only at hSw); go_simp <;> with_reducible rfl)
    try simp only [Act.put, tkS]
    refine wpAnyH_ready (rs := [18]) (by kernel_rfl) (by simp) (AllReadyH.cons rfl (fun K hK => ?_) AllReadyH.nil)
    go_simp
    (go_at_call 65; refine (SR.out _ (by first | exact hd | exact hd.drew)).mono ?_; rintro e w1 ⟨rfl, hB⟩; have hd := (show DnT w _ T _ from (by first | exact hd | exact hd.drew)).later hB; clear hB)
    refine hK.out _ _ ?_ (fun hHeld => ?_)
    · (first | exact CE.out _ hd | exact CE.out _ hd.drew)
    clear hK K
    try simp only [Act.put, tkS]
    refine wpAnyH_take (i := 19) (v := ?_) rfl (by kernel_rfl) (by kernel_rfl) (by kernel_rfl) (fun _ _ _ h => h) (Or.inl ⟨by kernel_rfl, ?_⟩) (by assumption) ?_
    rotate_left
    · (intro wS hSw; (try dsimp only at hSw); go_simp <;> with_reducible rfl)
    try simp only [Act.put, tkS]
    refine wpAnyH_take (i := 20) (v := ?_) rfl (by kernel_rfl) (by kernel_rfl) (by kernel_rfl) (fun _ _ _ h => h) (Or.inl ⟨by kernel_rfl, ?_⟩) (by assumption) ?_
    rotate_left
    · (intro wS hSw; (try dsimp only at hSw); go_simp <;> with_reducible rfl)
    try simp only [Act.put, tkS]
    refine wpAnyH_take (i := 21) (v := ?_) rfl (by kernel_rfl) (by kernel_rfl) (by kernel_rfl) (fun _ _ _ h => h) (Or.inl ⟨by kernel_rfl, ?_⟩) (by assumption) ?_
    rotate_left
    · (intro wS hSw; (try dsimp only at hSw); go_simp <;> with_reducible rfl)
    try simp only [Act.put, tkS]
    refine wpAnyH_done (by kernel_rfl) ?_ _
    go_wp2_with fail
    go_ret2
    exact (show DnT w _ T _ from (by first | exact hd | exact hd.drew)).ans HTV.out HE.out
  have hze : rowZ = ⟨oid, ocs⟩ := eqB_iff.1 hs
  have hoid : oid = 0 := (congrArg RowV.id hze).symm
  have HS2 : Hid (eqB (rowD T.rows (⟨tab, cid, oid, ocs, nid, ncs⟩ : ChV).cid) ⟨(⟨tab, cid, oid, ocs, nid, ncs⟩ : ChV).oid, (⟨tab, cid, oid, ocs, nid, ncs⟩ : ChV).ocs⟩ = true) := by
    show eqB (rowD T.rows cid) ⟨oid, ocs⟩ = true
    rw [hrow]; exact hs
  obtain ⟨hk1, hnid⟩ := kind_not (t := tab) (ocs := ocs) (ncs := ncs) (nid := nid) HK1.out hoid HKN.out
  rw [hs] at SR
  clear hs hze hoid hno hrow
  by_cases h12 : most ≤ (ts.length : Int)
  case pos =>
    have HE : Hid (R = (T.rows, 7)) := by
      show R = _
      rw [← HR.out]
      exact in_full HOK.out HS2.out hk1 (by rw [HRL.out]; exact h12)
    obtain rfl : kd = 1 := HKD.out.symm.trans hk1
    have d12 : decide ((ts.length : Int) ≥ most) = true := decide_eq_true (by omega)
    have d13 : decide (most ≤ (ts.length : Int)) = true := decide_eq_true (by omega)
    clear hk1 hnid
    go_wp2_with fail
    refine wp_region_held_drew (S := (fun W => W.cell? ⟨w.heap.size, 0, none⟩ = some (.int .i64 tab) ∧ W.cell? ⟨w.heap.size, 1, none⟩ = some (.int .i64 cid) ∧ W.cell? ⟨w.heap.size, 2, none⟩ = some (.int .i64 oid) ∧ W.cell? ⟨w.heap.size, 2 + 1, none⟩ = some (.slice a3 ocs.length c3) ∧ W.cell? ⟨w.heap.size, 3, none⟩ = some (.slice a3 ocs.length c3) ∧ W.cell? ⟨w.heap.size, 4, none⟩ = some (.int .i64 nid) ∧ W.cell? ⟨w.heap.size, 5, none⟩ = some (.slice a5 ncs.length c5))) (by kernel_rfl) ?_ (fun hHeld => ?_)
    · (first | exact CE.out _ hd | exact CE.out _ hd.drew)
    refine wpAnyH_take (i := 0) (v := ?_) rfl (by kernel_rfl) (by kernel_rfl) (by kernel_rfl) (fun _ _ _ h => h) (Or.inl ⟨by kernel_rfl, ?_⟩) (by assumption) ?_
    rotate_left
    · (intro wS hSw; (try dsimp only at hSw); go_simp <;> with_reducible rfl)
    try simp only [Act.put, tkS]
    refine wpAnyH_take (i := 1) (v := ?_) rfl (by kernel_rfl) (by kernel_rfl) (by kernel_rfl) (fun _ _ _ h => h) (Or.inl ⟨by kernel_rfl, ?_⟩) (by assumption) ?_
    rotate_left
    · (intro wS hSw; (try dsimp only at hSw); go_simp <;> with_reducible rfl)
    try simp only [Act.put, tkS]
    refine wpAnyH_take (i := 2) (v := undef) rfl (by kernel_rfl) (by kernel_rfl) (by kernel_rfl) (fun _ _ _ h => h) (Or.inr ⟨by kernel_rfl, rfl⟩) (by assumption) ?_
    try simp only [Act.put, tkS]
    refine wpAnyH_take (i := 3) (v := undef) rfl (by kernel_rfl) (by kernel_rfl) (by kernel_rfl) (fun _ _ _ h => h) (Or.inr ⟨by kernel_rfl, rfl⟩) (by assumption) ?_
    try simp only [Act.put, tkS]
    refine wpAnyH_take (i := 4) (v := undef) rfl (by kernel_rfl) (by kernel_rfl) (by kernel_rfl) (fun _ _ _ h => h) (Or.inr ⟨by kernel_rfl, rfl⟩) (by assumption) ?_
    try simp only [Act.put, tkS]
    refine wpAnyH_take (i := 5) (v := undef) rfl (by kernel_rfl) (by kernel_rfl) (by kernel_rfl) (fun _ _ _ h => h) (Or.inr ⟨by kernel_rfl, rfl⟩) (by assumption) ?_
    try simp only [Act.put, tkS]
    refine wpAnyH_take (i := 6) (v := undef) rfl (by kernel_rfl) (by kernel_rfl) (by kernel_rfl) (fun _ _ _ h => h) (Or.inr ⟨by kernel_rfl, rfl⟩) (by assumption) ?_
    try simp only [Act.put, tkS]
    refine wpAnyH_take (i := 7) (v := undef) rfl (by kernel_rfl) (by kernel_rfl) (by kernel_rfl) (fun _ _ _ h => h) (Or.inr ⟨by kernel_rfl, rfl⟩) (by assumption) ?_
    try simp only [Act.put, tkS]
    refine wpAnyH_take (i := 8) (v := undef) rfl (by kernel_rfl) (by kernel_rfl) (by kernel_rfl) (fun _ _ _ h => h) (Or.inr ⟨by kernel_rfl, rfl⟩) (by assumption) ?_
    try simp only [Act.put, tkS]
    refine wpAnyH_take (i := 9) (v := undef) rfl (by kernel_rfl) (by kernel_rfl) (by kernel_rfl) (fun _ _ _ h => h) (Or.inr ⟨by kernel_rfl, rfl⟩) (by assumption) ?_
    try simp only [Act.put, tkS]
    refine wpAnyH_take (i := 10) (v := ?_) rfl (by kernel_rfl) (by kernel_rfl) (by kernel_rfl) (fun _ _ _ h => h) (Or.inl ⟨by kernel_rfl, ?_⟩) (by assumption) ?_
    rotate_left
    · (intro wS hSw; (try dsimp only at hSw); go_simp <;> with_reducible rfl)
    try simp only [Act.put, tkS]
    refine wpAnyH_take (i := 11) (v := ?_) rfl (by kernel_rfl) (by kernel_rfl) (by kernel_rfl) (fun _ _ _ h => h) (Or.inl ⟨by kernel_rfl, ?_⟩) (by assumption) ?_
    rotate_left
    · (intro wS hSw; (try dsimp only at hSw); go_simp <;> with_reducible rfl)
    try simp only [Act.put, tkS]
    refine wpAnyH_take (i := 12) (v := ?_) rfl (by kernel_rfl) (by kernel_rfl) (by kernel_rfl) (fun _ _ _ h => h) (Or.inl ⟨by kernel_rfl, ?_⟩) (by assumption) ?_
    rotate_left
    · (intro wS hSw; (try dsimp only at hSw); go_simp <;> with_reducible rfl)
    try simp only [Act.put, tkS]
    refine wpAnyH_take (i := 13) (v := ?_) rfl (by kernel_rfl) (by kernel_rfl) (by kernel_rfl) (fun _ _ _ h => h) (Or.inl ⟨by kernel_rfl, ?_⟩) (by assumption) ?_
    rotate_left
    · (intro wS hSw; (try dsimp only at hSw); go_simp <;> with_reducible rfl)
    try simp only [Act.put, tkS]
    refine wpAnyH_take (i := 14) (v := ?_) rfl (by kernel_rfl) (by kernel_rfl) (by kernel_rfl) (fun _ _ _ h => h) (Or.inl ⟨by kernel_rfl, ?_⟩) (by assumption) ?_
    rotate_left
    · (intro wS hSw; (try dsimp only at hSw); go_simp <;> with_reducible rfl)
    try simp only [Act.put, tkS]
    refine wpAnyH_take (i := 15) (v := ?_) rfl (by kernel_rfl) (by kernel_rfl) (by kernel_rfl) (fun _ _ _ h => h) (Or.inl ⟨by kernel_rfl, ?_⟩) (by assumption) ?_
    rotate_left
    · (intro wS hSw; (try dsimp only at hSw); go_simp <;> with_reducible rfl)
    try simp only [Act.put, tkS]
    refine wpAnyH_take (i := 16) (v := ?_) rfl (by kernel_rfl) (by kernel_rfl) (by kernel_rfl) (fun _ _ _ h => h) (Or.inl ⟨by kernel_rfl, ?_⟩) (by assumption) ?_
    rotate_left
    · (intro wS hSw; (try dsimp only at hSw); go_simp <;> with_reducible rfl)
    try simp only [Act.put, tkS]
    refine wpAnyH_take (i := 17) (v := ?_) rfl (by kernel_rfl) (by kernel_rfl) (by kernel_rfl) (fun _ _ _ h => h) (Or.inl ⟨by kernel_rfl, ?_⟩) (by assumption) ?_
    rotate_left
    · (intro wS hSw; (try dsimp only at hSw); go_simp <;> with_reducible rfl)
    try simp only [Act.put, tkS]
    refine wpAnyH_ready (rs := [18]) (by kernel_rfl) (by simp) (AllReadyH.cons rfl (fun K hK => ?_) AllReadyH.nil)
    go_simp
    (go_at_call 65; refine (SR.out _ (by first | exact hd | exact hd.drew)).mono ?_; rintro e w1 ⟨rfl, hB⟩; have hd := (show DnT w _ T _ from (by first | exact hd | exact hd.drew)).later hB; clear hB)
    refine hK.out _ _ ?_ (fun hHeld => ?_)
    · (first | exact CE.out _ hd | exact CE.out _ hd.drew)
    clear hK K
    try simp only [Act.put, tkS]
    refine wpAnyH_take (i := 19) (v := ?_) rfl (by kernel_rfl) (by kernel_rfl) (by kernel_rfl) (fun _ _ _ h => h) (Or.inl ⟨by kernel_rfl, ?_⟩) (by assumption) ?_
    rotate_left
    · (intro wS hSw; (try dsimp only at hSw); go_simp <;> with_reducible rfl)
    try simp only [Act.put, tkS]
    refine wpAnyH_take (i := 20) (v := ?_) rfl (by kernel_rfl) (by kernel_rfl) (by kernel_rfl) (fun _ _ _ h => h) (Or.inl ⟨by kernel_rfl, ?_⟩) (by assumption) ?_
    rotate_left
    · (intro wS hSw; (try dsimp only at hSw); go_simp <;> with_reducible rfl)
    try simp only [Act.put, tkS]
    refine wpAnyH_take (i := 21) (v := ?_) rfl (by kernel_rfl) (by kernel_rfl) (by kernel_rfl) (fun _ _ _ h => h) (Or.inl ⟨by kernel_rfl, ?_⟩) (by assumption) ?_
    rotate_left
    · (intro wS hSw; (try dsimp only at hSw); go_simp <;> with_reducible rfl)
    try simp only [Act.put, tkS]
    refine wpAnyH_done (by kernel_rfl) ?_ _
    go_wp2_with fail
    go_ret2
    exact (show DnT w _ T _ from (by first | exact hd | exact hd.drew)).ans HTV.out HE.out
  have HPU : Hid (putL T.rows ⟨nid, ncs⟩ = T.rows.take k ++ ⟨nid, ncs⟩ :: T.rows.drop k) :=
    putL_at (by rw [HRL.out]; exact hk) (fun j hj hjk => by show _ < nid; rw [hnid]; exact HPL.out.1 j hj hjk) (fun h => by show ¬ _ < nid; rw [hnid]; have := HPL.out.2.1 k h (Nat.le_refl _); omega) (.inr ⟨rfl, fun h => by show _ ≠ nid; rw [hnid]; exact HNO.out k h⟩)
  have HE : Hid (∀ p' cap' v X, R = ((T.spl p' cap' k k [⟨⟨nid, ncs⟩, v, X⟩]).rows, 0)) := fun p' cap' v X => by
    rw [← HR.out, in_put HOK.out HS2.out (by rw [hk1]; omega) (by rw [HRL.out]; exact fun h => h12 h.2), spl_put HPU.out]
  obtain rfl : kd = 1 := HKD.out.symm.trans hk1
  have d12 : decide ((ts.length : Int) ≥ most) = false := decide_eq_false (by omega)
  have d13 : decide (most ≤ (ts.length : Int)) = false := decide_eq_false (by omega)
  clear hk1 hnid
  go_wp2_with fail
  refine wp_region_held_drew (S := (fun W => W.cell? ⟨w.heap.size, 0, none⟩ = some (.int .i64 tab) ∧ W.cell? ⟨w.heap.size, 1, none⟩ = some (.int .i64 cid) ∧ W.cell? ⟨w.heap.size, 2, none⟩ = some (.int .i64 oid) ∧ W.cell? ⟨w.heap.size, 2 + 1, none⟩ = some (.slice a3 ocs.length c3) ∧ W.cell? ⟨w.heap.size, 3, none⟩ = some (.slice a3 ocs.length c3) ∧ W.cell? ⟨w.heap.size, 4, none⟩ = some (.int .i64 nid) ∧ W.cell? ⟨w.heap.size, 5, none⟩ = some (.slice a5 ncs.length c5))) (by kernel_rfl) ?_ (fun hHeld => ?_)
  · (first | exact CE.out _ hd | exact CE.out _ hd.drew)
  refine wpAnyH_take (i := 0) (v := ?_) rfl (by kernel_rfl) (by kernel_rfl) (by kernel_rfl) (fun _ _ _ h => h) (Or.inl ⟨by kernel_rfl, ?_⟩) (by assumption) ?_
  rotate_left
  · (intro wS hSw; (try dsimp only at hSw); go_simp <;> with_reducible rfl)
  try simp only [Act.put, tkS]
  refine wpAnyH_take (i := 1) (v := ?_) rfl (by kernel_rfl) (by kernel_rfl) (by kernel_rfl) (fun _ _ _ h => h) (Or.inl ⟨by kernel_rfl, ?_⟩) (by assumption) ?_
  rotate_left
  · (intro wS hSw; (try dsimp only at hSw); go_simp <;> with_reducible rfl)
  try simp only [Act.put, tkS]
  refine wpAnyH_take (i := 2) (v := undef) rfl (by kernel_rfl) (by kernel_rfl) (by kernel_rfl) (fun _ _ _ h => h) (Or.inr ⟨by kernel_rfl, rfl⟩) (by assumption) ?_
  try simp only [Act.put, tkS]
  refine wpAnyH_take (i := 3) (v := undef) rfl (by kernel_rfl) (by kernel_rfl) (by kernel_rfl) (fun _ _ _ h => h) (Or.inr ⟨by kernel_rfl, rfl⟩) (by assumption) ?_
  try simp only [Act.put, tkS]
  refine wpAnyH_take (i := 4) (v := undef) rfl (by kernel_rfl) (by kernel_rfl) (by kernel_rfl) (fun _ _ _ h => h) (Or.inr ⟨by kernel_rfl, rfl⟩) (by assumption) ?_
  try simp only [Act.put, tkS]
  refine wpAnyH_take (i := 5) (v := undef) rfl (by kernel_rfl) (by kernel_rfl) (by kernel_rfl) (fun _ _ _ h => h) (Or.inr ⟨by kernel_rfl, rfl⟩) (by assumption) ?_
  try simp only [Act.put, tkS]
  refine wpAnyH_take (i := 6) (v := undef) rfl (by kernel_rfl) (by kernel_rfl) (by kernel_rfl) (fun _ _ _ h => h) (Or.inr ⟨by kernel_rfl, rfl⟩) (by assumption) ?_
  try simp only [Act.put, tkS]
  refine wpAnyH_take (i := 7) (v := undef) rfl (by kernel_rfl) (by kernel_rfl) (by kernel_rfl) (fun _ _ _ h => h) (Or.inr ⟨by kernel_rfl, rfl⟩) (by assumption) ?_
  try simp only [Act.put, tkS]
  refine wpAnyH_take (i := 8) (v := undef) rfl (by kernel_rfl) (by kernel_rfl) (by kernel_rfl) (fun _ _ _ h => h) (Or.inr ⟨by kernel_rfl, rfl⟩) (by assumption) ?_
  try simp only [Act.put, tkS]
  refine wpAnyH_take (i := 9) (v := undef) rfl (by kernel_rfl) (by kernel_rfl) (by kernel_rfl) (fun _ _ _ h => h) (Or.inr ⟨by kernel_rfl, rfl⟩) (by assumption) ?_
  try simp only [Act.put, tkS]
  refine wpAnyH_take (i := 10) (v := ?_) rfl (by kernel_rfl) (by kernel_rfl) (by kernel_rfl) (fun _ _ _ h => h) (Or.inl ⟨by kernel_rfl, ?_⟩) (by assumption) ?_
  rotate_left
  · (intro wS hSw; (try dsimp only at hSw); go_simp <;> with_reducible rfl)
  try simp only [Act.put, tkS]
  refine wpAnyH_take (i := 11) (v := ?_) rfl (by kernel_rfl) (by kernel_rfl) (by kernel_rfl) (fun _ _ _ h => h) (Or.inl ⟨by kernel_rfl, ?_⟩) (by assumption) ?_
  rotate_left
  · (intro wS hSw; (try dsimp only at hSw); go_simp <;> with_reducible rfl)
  try simp only [Act.put, tkS]
  refine wpAnyH_take (i := 12) (v := ?_) rfl (by kernel_rfl) (by kernel_rfl) (by kernel_rfl) (fun _ _ _ h => h) (Or.inl ⟨by kernel_rfl, ?_⟩) (by assumption) ?_
  rotate_left
  · (intro wS hSw; (try dsimp only at hSw); go_simp <;> with_reducible rfl)
  try simp only [Act.put, tkS]
  refine wpAnyH_take (i := 13) (v := ?_) rfl (by kernel_rfl) (by kernel_rfl) (by kernel_rfl) (fun _ _ _ h => h) (Or.inl ⟨by kernel_rfl, ?_⟩) (by assumption) ?_
  rotate_left
  · (intro wS hSw; (try dsimp only at hSw); go_simp <;> with_reducible rfl)
  try simp only [Act.put, tkS]
  refine wpAnyH_take (i := 14) (v := ?_) rfl (by kernel_rfl) (by kernel_rfl) (by kernel_rfl) (fun _ _ _ h => h) (Or.inl ⟨by kernel_rfl, ?_⟩) (by assumption) ?_
  rotate_left
  · (intro wS hSw; (try dsimp only at hSw); go_simp <;> with_reducible rfl)
  try simp only [Act.put, tkS]
  refine wpAnyH_take (i := 15) (v := ?_) rfl (by kernel_rfl) (by kernel_rfl) (by kernel_rfl) (fun _ _ _ h => h) (Or.inl ⟨by kernel_rfl, ?_⟩) (by assumption) ?_
  rotate_left
  · (intro wS hSw; (try dsimp only at hSw); go_simp <;> with_reducible rfl)
  try simp only [Act.put, tkS]
  refine wpAnyH_take (i := 16) (v := ?_) rfl (by kernel_rfl) (by kernel_rfl) (by kernel_rfl) (fun _ _ _ h => h) (Or.inl ⟨by kernel_rfl, ?_⟩) (by assumption) ?_
  rotate_left
  · (intro wS hSw; (try dsimp only at hSw); go_simp <;> with_reducible rfl)
  try simp only [Act.put, tkS]
  refine wpAnyH_take (i := 17) (v := ?_) rfl (by kernel_rfl) (by kernel_rfl) (by kernel_rfl) (fun _ _ _ h => h) (Or.inl ⟨by kernel_rfl, ?_⟩) (by assumption) ?_
  rotate_left
  · (intro wS hSw; (try dsimp only at hSw); go_simp <;> with_reducible rfl)
  try simp only [Act.put, tkS]
  refine wpAnyH_ready (rs := [18]) (by kernel_rfl) (by simp) (AllReadyH.cons rfl (fun K hK => ?_) AllReadyH.nil)
  go_simp
  (go_at_call 65; refine (SR.out _ (by first | exact hd | exact hd.drew)).mono ?_; rintro e w1 ⟨rfl, hB⟩; have hd := (show DnT w _ T _ from (by first | exact hd | exact hd.drew)).later hB; clear hB)
  refine hK.out _ _ ?_ (fun hHeld => ?_)
  · (first | exact CE.out _ hd | exact CE.out _ hd.drew)
  clear hK K
  try simp only [Act.put, tkS]
  refine wpAnyH_take (i := 19) (v := ?_) rfl (by kernel_rfl) (by kernel_rfl) (by kernel_rfl) (fun _ _ _ h => h) (Or.inl ⟨by kernel_rfl, ?_⟩) (by assumption) ?_
  rotate_left
  · (intro wS hSw; (try dsimp only at hSw); go_simp <;> with_reducible rfl)
  try simp only [Act.put, tkS]
  refine wpAnyH_take (i := 20) (v := ?_) rfl (by kernel_rfl) (by kernel_rfl) (by kernel_rfl) (fun _ _ _ h => h) (Or.inl ⟨by kernel_rfl, ?_⟩) (by assumption) ?_
  rotate_left
  · (intro wS hSw; (try dsimp only at hSw); go_simp <;> with_reducible rfl)
  try simp only [Act.put, tkS]
  refine wpAnyH_take (i := 21) (v := ?_) rfl (by kernel_rfl) (by kernel_rfl) (by kernel_rfl) (fun _ _ _ h => h) (Or.inl ⟨by kernel_rfl, ?_⟩) (by assumption) ?_
  rotate_left
  · (intro wS hSw; (try dsimp only at hSw); go_simp <;> with_reducible rfl)
  try simp only [Act.put, tkS]
  refine wpAnyH_done (by kernel_rfl) ?_ _
  have hd2 : DnT w _ T #[.int .i64 tab, .int .i64 cid, .int .i64 oid, .slice a3 ocs.length c3, .int .i64 nid, .slice a5 ncs.length c5] := (by first | exact hd | exact hd.drew)
  have CR := Lib.hid (copyRowI ⟨nid, ncs⟩ w.heap.size 4 a5 c5 B _ HP.out.2.2.2 (HNN.out _ hd2) (cell_at (o := 4) hd2.bx rfl) (cell_at (o := 5) hd2.bx rfl))
  obtain ⟨x0, x1, x2, -, x3, x4, x5⟩ := CE.out _ hd2
  go_wp2_with fail
  refine CR.out.mono ?_
  rintro e w4 ⟨q2, rfl, hown4, hB4⟩
  have hd4 := hd2.later hB4
  have hd5 := hd4.later (below_allocD w4 (.cells #[.int .i64 nid, .slice (some ⟨q2, 0, none⟩) ncs.length ncs.length] 53))
  have IN := Lib.hid (insert2 T k w4.heap.size (.int .i64 nid) (.slice (some ⟨q2, 0, none⟩) ncs.length ncs.length) _ hd5.tb (by rw [HTI.out]; exact h10 (by omega)) (by rw [HTI.out]; exact hk) (fun u hu => by simp only [List.mem_cons, List.not_mem_nil, or_false] at hu; rcases hu with rfl | rfl <;> rfl) (heap_newD _ _) (fun h e => by have h1 := hd4.tb.lt _ (.inl ⟨e, h⟩); omega) hd5.tb.one)
  rw [HTV.out] at IN
  have HD := Lib.hid (And.intro hd2 (And.intro hB4 hown4))
  clear hd2 hown4 hB4 hd4 hd5 x0 x1 x2 x3 x4 x5 hd
  go_wp2_with fail
  with_reducible refine IN.out.mono ?_
  rintro e w6 ⟨gn, cn, cur, he, hgn, hcur, htake, hcap, hcm, hsz, hF6⟩
  have htl : T.ts.length = ts.length := by rw [HTI.out]
  have hTT := HD.out.1.tb.insT (r := ⟨nid, ncs⟩) (k := k) (by rw [htl]; exact hk) HD.out.2.1 HD.out.2.2 (below_allocD _ _) hgn hcur htake hcap hcm hsz hF6
  rw [htl] at he
  obtain rfl := he
  have HF : Hid (IntoAns w T R (.returned (.tuple #[.slice (some ⟨gn, 0, none⟩) (ts.length + 1) cn, .int .i64 0])) w6) := HD.out.1.e ⟨hTT.1, hTT.2.1, hTT.2.2.1⟩ (by rw [hTT.2.2.2, htl]) (HE.out _ _ _ _)
  clear hTT hgn hcur htake hcap hcm hsz hF6 htl HD IN
  go_wp2_with fail
  go_ret2
  exact HF.out
end Go.Proofs.Ytdhlndpobpdfmaa
