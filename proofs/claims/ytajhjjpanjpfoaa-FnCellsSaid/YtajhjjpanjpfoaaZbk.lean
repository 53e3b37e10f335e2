import Derived.Test.YtajhjjpanjpfoaaZbj
namespace Go.Proofs.Ytajhjjpanjpfoaa
open Go.RowKit
set_option linter.unusedSimpArgs false
theorem SG.convN {w : World} {base : Nat} {G G' : Nat → Prop} {T : TypeId} {n : Nat} {f f' : Nat → Nat → D} {k : Nat} {v : Value} (h : SG w base G T n f k v) (hf : ∀ i j, i < k → j < n → f' i j = f i j) (hG : ∀ c, c < w.heap.size → G c → G' c) : SG w base G' T n f' k v := by
  obtain ⟨xs, h1, h2⟩ := h
  refine ⟨xs, h1, fun i j hi hj => ?_⟩
  obtain ⟨u, hu, hr⟩ := h2 i j hi hj
  exact ⟨u, hu, by rw [hf i j hi hj]; exact hr.mono (fun c hc => ⟨hc.1, hG c hc.1.2 hc.2⟩)⟩
theorem SG.capC {w : World} {base : Nat} {G : Nat → Prop} {T : TypeId} {n : Nat} {f : Nat → Nat → D} {k : Nat} {a : Option Addr} {c : Nat} (h : SG w base G T n f k (.slice a k c)) : k ≤ c := by
  obtain ⟨xs, h1, -⟩ := h
  rcases h1.2 with ⟨e, h0⟩ | ⟨g2, cap, cur, e, hb, hh, hn, -⟩
  · omega
  · simp only [Value.slice.injEq, true_and] at e
    obtain ⟨-, rfl⟩ := e
    exact hn
theorem spot_inj {n i j a b : Nat} (hj : j < n) (hb : b < n) (h : i * n + j = a * n + b) : i = a ∧ j = b := by
  have h1 : (i * n + j) / n = i := by rw [Nat.mul_comm, Nat.mul_add_div (by omega), Nat.div_eq_of_lt hj]; rfl
  have h2 : (a * n + b) / n = a := by rw [Nat.mul_comm, Nat.mul_add_div (by omega), Nat.div_eq_of_lt hb]; rfl
  have h3 : i = a := by rw [← h1, h, h2]
  subst h3
  exact ⟨rfl, by omega⟩
theorem SG.putC {w W : World} {base : Nat} {G : Nat → Prop} {T : TypeId} {n K i j : Nat} {f : Nat → Nat → D} {g cap : Nat} {u : Value} {d : D} (h : SG w base G T n f K (.slice (some ⟨g, 0, none⟩) K cap)) (hB : Below w.heap.size w W) (hi : i < K) (hj : j < n) (hu : Rd W (fun c => (c ≠ g ∧ c < W.heap.size) ∧ G c) d u) :
    SG (W.setCell ⟨g, i * n + j, none⟩ u) base G T n (fun a b => if a = i ∧ b = j then d else f a b) K (.slice (some ⟨g, 0, none⟩) K cap) := by
  obtain ⟨xs, h1, h2⟩ := h.later hB
  rcases h1.2 with ⟨e, -⟩ | ⟨g', cap', cur, e, hg, hh, r1, r2, r3, r4⟩
  · cases e
  simp only [Value.slice.injEq, Option.some.injEq, Addr.mk.injEq, and_true, true_and] at e
  obtain ⟨rfl, rfl⟩ := e
  have hs : (W.setCell ⟨g, i * n + j, none⟩ u).heap.size = W.heap.size := by simp [World.setCell]
  have hlt : i * n + j < K * n := spot_lt hi hj
  refine ⟨xs.set (i * n + j) u, ⟨by simpa using h1.1, .inr ⟨g, cap, cur.setIfInBounds (i * n + j) u, rfl, hg, heap_set (i * n + j) _ hh, r1, r2, by simpa using r3, ?_⟩⟩, fun a b ha hb => ?_⟩
  · rw [Array.toList_setIfInBounds, List.take_set, r4]
  have hxl : xs.length = K * n := h1.1
  by_cases e : a = i ∧ b = j
  · obtain ⟨rfl, rfl⟩ := e
    refine ⟨_, by rw [List.getElem?_set_self (by omega)], ?_⟩
    dsimp only
    rw [if_pos (And.intro rfl rfl)]
    refine Rd.mono (hu.frm (frm_set _ _ _ _) (fun b hb e => hb.1.1 e)) (fun c hc => ⟨⟨?_, by rw [hs]; exact hc.1.2⟩, hc.2⟩)
    intro e2
    simp only [Value.ownBlock, Option.some.injEq] at e2
    exact hc.1.1 e2.symm
  · obtain ⟨u2, hu2, hr⟩ := h2 a b ha hb
    refine ⟨u2, by rw [List.getElem?_set_ne (fun h => e (by obtain ⟨h1, h2⟩ := spot_inj hj hb h; exact ⟨h1.symm, h2.symm⟩))]; exact hu2, ?_⟩
    dsimp only
    rw [if_neg e]
    exact Rd.mono (hr.frm (frm_set _ _ _ _) (fun b hb e2 => by
      have e3 : b = g := e2
      subst e3
      exact hb.1.1 rfl)) (fun c hc => ⟨⟨hc.1.1, by rw [hs]; exact hc.1.2⟩, hc.2⟩)
theorem SG.atC {w : World} {base : Nat} {G : Nat → Prop} {T : TypeId} {n K i : Nat} {f : Nat → Nat → D} {v : Value} (h : SG w base G T n f K v) (hi : i < K) : ∃ g cap, v = .slice (some ⟨g, 0, none⟩) K cap ∧ (base ≤ g ∧ g < w.heap.size) ∧ ∀ j, j < n → ∃ u, w.cell? ⟨g, i * n + j, none⟩ = some u ∧ w.frozen? ⟨g, i * n + j, none⟩ = false ∧ Rd w (fun c => (c ≠ g ∧ c < w.heap.size) ∧ G c) (f i j) u := by
  obtain ⟨xs, h1, h2⟩ := h
  rcases h1.2 with ⟨-, h0⟩ | ⟨g, cap, cur, rfl, hg, hh, r1, r2, r3, r4⟩
  · omega
  refine ⟨g, cap, rfl, ⟨hg, (Array.getElem?_eq_some_iff.1 hh).1⟩, fun j hj => ?_⟩
  obtain ⟨u, hu, hr⟩ := h2 i j hi hj
  have hlt : i * n + j < K * n := spot_lt hi hj
  rw [← r4, List.getElem?_take_of_lt hlt, Array.getElem?_toList] at hu
  exact ⟨u, by simp [World.cell?, hh, hu], by simp [World.frozen?, hh], hr.mono (fun c hc => ⟨⟨fun e => hc.1.1 (by rw [e]; rfl), hc.1.2⟩, hc.2⟩)⟩
def noNames (L : List SetV) (k : Nat) : List SetV := match L[k]? with
  | some x => L.set k ⟨x.col, x.val, []⟩
  | none => L
theorem noNames_len (L : List SetV) (k : Nat) : (noNames L k).length = L.length := by unfold noNames; split <;> simp
theorem noNames_at {L : List SetV} {k : Nat} (hk : k < L.length) : noNames L k = L.set k ⟨L[k].col, L[k].val, []⟩ := by unfold noNames; rw [List.getElem?_eq_getElem hk]
theorem noNames_f {L : List SetV} {k : Nat} (hk : k < L.length) : ∀ i j, i < L.length → j < 3 → lsF dSet (noNames L k) i j = if i = k ∧ j = 2 then dStringS [] else lsF dSet L i j := fun i j hi hj => by
  rw [noNames_at hk, lsF_at (by simpa using hi), lsF_at hi]
  by_cases e : i = k
  · subst e
    rw [List.getElem_set_self]
    rcases (by omega : j = 0 ∨ j = 1 ∨ j = 2) with rfl | rfl | rfl
    · rw [if_neg (by omega)]; rfl
    · rw [if_neg (by omega)]; rfl
    · rw [if_pos ⟨rfl, rfl⟩]; rfl
  · rw [List.getElem_set_ne (fun h => e h.symm), if_neg (fun h => e h.1)]
theorem noNames_le {L : List SetV} {k : Nat} (hk : k < L.length) (h : ∀ x ∈ L, ∀ j, j < 3 → (dSet x j).le 1048576) : ∀ x ∈ noNames L k, ∀ j, j < 3 → (dSet x j).le 1048576 := fun x hx j hj => by
  rw [noNames_at hk] at hx
  rcases List.mem_or_eq_of_mem_set hx with h1 | rfl
  · exact h x h1 j hj
  · have h2 := h _ (List.getElem_mem hk)
    rcases (by omega : j = 0 ∨ j = 1 ∨ j = 2) with rfl | rfl | rfl
    · exact h2 0 (by omega)
    · exact h2 1 (by omega)
    · exact Ls_le.2 ⟨by omega, by simp, fun i hi => absurd hi (by simp)⟩
def SetsW (w : World) (e : Ending) (w' : World) : Prop := ∃ (L : List SetV) (va : Option Addr) (vc : Nat), e = .returned (.slice va L.length vc) ∧ L.length ≤ 3 ∧ L.length ≤ vc ∧ (dSetS L).le 1048576 ∧ Rd w' (fun b => w.heap.size ≤ b ∧ b < w'.heap.size) (dSetS L) (.slice va L.length vc) ∧ Below w.heap.size w w'
set_option maxRecDepth 100000 in
set_option maxHeartbeats 6400000 in
theorem setsOfS (l : List UInt8) (a : Option Addr) (c t S : Nat) (w : World) (ht : t < 3) (hS : S ≤ w.heap.size) (hb : Byts w (· < S) a l) :
    Calls Try.prog 7 #[.slice a l.length c, .int .i64 (t : Int)] w (SetsW w) := by
  have NW := Lib.hid (srcNew (c := c) w hS hb)
  have SV : Hid (∀ W s, Src W w.heap.size S a l c 0 s → Calls Try.prog 18 #[.pointer (some ⟨w.heap.size, 0, none⟩), .int .i64 (t : Int)] W (SetsV W w.heap.size S a l c 0)) := fun W s h => srcSets t ht h (by omega)
  clear hb hS ht
  go_enter Try.func7, Try.ntmps7
  go_wp2_with fail
  refine NW.out.mono ?_
  rintro e w1 ⟨s1, rfl, hs1, hB1⟩
  have S1 := Lib.hid (SV.out _ _ hs1)
  have hw1 : w.heap.size < w1.heap.size := (Array.getElem?_eq_some_iff.1 hs1.box).1
  clear hs1 NW SV
  go_wp2_with fail
  refine S1.out.mono ?_
  rintro e w2 ⟨L, va, vc, m', s', rfl, hl, hle, hsg, -, -, hF⟩
  have HL := Lib.hid hl
  have ST : Hid (SG w2 w.heap.size (w.heap.size ≤ ·) 45 3 (lsF dSet L) L.length (.slice va L.length vc) ∧ L.length = L.length ∧ (∀ x ∈ L, ∀ j, j < 3 → (dSet x j).le 1048576) ∧ Below w.heap.size w w2) := ⟨hsg.wide (by omega) (fun b hb => by have : w1.heap.size ≤ b := hb; omega), rfl, hle, hB1.trans (hF.below hB1.size (fun b hb e => by have e' : b = w.heap.size := e; omega))⟩
  clear S1 hsg hle hF hB1 hw1 hl
  obtain ⟨n, hn⟩ : ∃ n, n = L.length := ⟨_, rfl⟩
  have HN := Lib.hid hn
  have ST2 : Hid (∃ L2 : List SetV, SG w2 w.heap.size (w.heap.size ≤ ·) 45 3 (lsF dSet L2) n (.slice va n vc) ∧ L2.length = n ∧ (∀ x ∈ L2, ∀ j, j < 3 → (dSet x j).le 1048576) ∧ Below w.heap.size w w2) := by rw [hn]; exact ⟨L, ST.out⟩
  have HN3 : Hid (n ≤ 3) := by rw [hn]; exact HL.out
  rw [← hn]
  clear ST HL HN hn
  go_wp2_with fail
  go_loopg [6] n (fun g i wr => ∃ k : Nat, k + g = n ∧ i = .int .i64 (k : Int) ∧ Hid (∃ L2 : List SetV, SG wr w.heap.size (w.heap.size ≤ ·) 45 3 (lsF dSet L2) n (.slice va n vc) ∧ L2.length = n ∧ (∀ x ∈ L2, ∀ j, j < 3 → (dSet x j).le 1048576) ∧ Below w.heap.size w wr))
  case atStart => exact ⟨0, by omega, rfl, ST2⟩
  case round =>
    obtain ⟨k, hkg, rfl, HR⟩ := hrel
    have HKG := Lib.hid hkg
    by_cases hlt : k < n
    case neg =>
      have hkd : decide ((k : Int) < (n : Int)) = false := by simp; omega
      clear hkg
      go_wp2_with fail
      go_ret
      obtain ⟨L2, h1, h2, h3, h4⟩ := HR.out
      subst h2
      exact ⟨L2, va, vc, rfl, HN3.out, h1.capC, Ls_le.2 ⟨by omega, by have := HN3.out; omega, fun i hi j hj => h3 _ (List.getElem_mem hi) j hj⟩, (h1.rd (by omega) (fun g hg => (h1.low hg).1)).mono (fun b hb => hb), h4⟩
    obtain ⟨L2, h1, h2, h3, h4⟩ := HR.out
    obtain ⟨g, cap, e, hg, hc⟩ := h1.atC hlt
    simp only [Value.slice.injEq, true_and] at e
    obtain ⟨rfl, rfl⟩ := e
    obtain ⟨u, hu, hz, -⟩ := hc 2 (by omega)
    have hA := below_allocD wr (.cells #[] 9)
    have cu : (wr.alloc (.cells #[] 9)).cell? ⟨g, k * 3 + 2, none⟩ = some u := (hA.cell (p := ⟨g, k * 3 + 2, none⟩) hg.2).trans hu
    have cz : (wr.alloc (.cells #[] 9)).frozen? ⟨g, k * 3 + 2, none⟩ = false := by
      simp only [World.frozen?, hA.block g hg.2]
      exact hz
    have hki : (k : Int) < (n : Int) := by omega
    have f1 : IntKind.i64.wrap ((k : Int) + 1) = ((k + 1 : Nat) : Int) := by have := HN3.out; rw [IntKind.wrap_i64]; omega
    have ST3 : Hid (∃ L2 : List SetV, SG ((wr.alloc (.cells #[] 9)).setCell ⟨g, k * 3 + 2, none⟩ (.slice (some ⟨wr.heap.size, 0, none⟩) 0 0)) w.heap.size (w.heap.size ≤ ·) 45 3 (lsF dSet L2) n (.slice (some ⟨g, 0, none⟩) n vc) ∧ L2.length = n ∧ (∀ x ∈ L2, ∀ j, j < 3 → (dSet x j).le 1048576) ∧ Below w.heap.size w ((wr.alloc (.cells #[] 9)).setCell ⟨g, k * 3 + 2, none⟩ (.slice (some ⟨wr.heap.size, 0, none⟩) 0 0))) := by
      subst h2
      refine ⟨noNames L2 k, ?_, noNames_len _ _, noNames_le hlt h3, (h4.trans (hA.mono h4.size)).setCell (by exact hg.1) _⟩
      exact (h1.putC hA hlt (by omega) (d := dStringS []) ⟨_, _, rfl, .inl rfl⟩).convN (noNames_f hlt) (fun _ _ h => h)
    clear hkg h1 h2 h3 h4 hc hu hz hg hA
    go_wp2_with fail
    go_roundg (n - (k + 1))
    case measure => have := HKG.out; omega
    case rel => exact ⟨k + 1, by have := HKG.out; omega, by go_num, ST3⟩
#print axioms setsOfS
end Go.Proofs.Ytajhjjpanjpfoaa
