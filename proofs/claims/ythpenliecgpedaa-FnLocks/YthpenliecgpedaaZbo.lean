import Derived.Test.YthpenliecgpedaaZae
import Derived.Test.YthpenliecgpedaaZab
import Derived.Deep.RegionLaw
import Derived.Deep.RegionWith
import Derived.BigQuiet
import Derived.Lib.Hide
namespace Go.Proofs.Ythpenliecgpedaa
open Go.RowKit
set_option linter.unusedSimpArgs false
def Byts (w : World) (B : Nat → Prop) (a : Option Addr) (l : List UInt8) : Prop :=
  l.length = 0 ∨ ∃ b off, a = some ⟨b, off, none⟩ ∧ B b ∧ ∀ i (h : i < l.length), w.cell? ⟨b, off + i, none⟩ = some (.int .u8 (l[i].toNat : Nat))
theorem Byts.same {w w' : World} {B B' : Nat → Prop} {a : Option Addr} {l : List UInt8} (h : Byts w B a l) (hk : ∀ b, B b → w'.heap[b]? = w.heap[b]?) (hB : ∀ b, B b → B' b) : Byts w' B' a l := by
  rcases h with h | ⟨b, off, e, hb, hc⟩
  · exact .inl h
  · exact .inr ⟨b, off, e, hB b hb, fun i hi => by rw [← hc i hi]; simp [World.cell?, hk b hb]⟩
structure Src (W : World) (p S : Nat) (a : Option Addr) (l : List UInt8) (c m s : Nat) : Prop where
  box : W.heap[p]? = some (.cells #[.slice a l.length c, .int .i64 (m : Int), .int .i64 (s : Int)] 65)
  sd : s < 2147483648
  byt : Byts W (· < S) a l
  le : S ≤ p
variable {W W' : World} {p S : Nat} {a : Option Addr} {l : List UInt8} {c m s : Nat}
theorem Src.cell (h : Src W p S a l c m s) : W.cell? ⟨p, 0, none⟩ = some (.slice a l.length c) ∧ W.cell? ⟨p, 1, none⟩ = some (.int .i64 (m : Int)) ∧ W.cell? ⟨p, 2, none⟩ = some (.int .i64 (s : Int)) :=
  ⟨cell_at (o := 0) h.box rfl, cell_at (o := 1) h.box rfl, cell_at (o := 2) h.box rfl⟩
theorem Src.on (h : Src W p S a l c m s) (hB : Below W.heap.size W W') : Src W' p S a l c m s := by
  have hp := (Array.getElem?_eq_some_iff.1 h.box).1
  exact ⟨by rw [hB.block p hp]; exact h.box, h.sd, h.byt.same (fun b hb => hB.block b (by have := h.le; omega)) (fun _ h => h), h.le⟩
theorem Src.frm (h : Src W p S a l c m s) {B : Nat → Prop} (hF : Frm B W W') (hp : ¬ B p) (hS : ∀ b, b < S → ¬ B b) : Src W' p S a l c m s := by
  have h0 := (Array.getElem?_eq_some_iff.1 h.box).1
  exact ⟨by rw [hF.block p h0 hp]; exact h.box, h.sd, h.byt.same (fun b hb => hF.block b (by have := h.le; omega) (hS b hb)) (fun _ h => h), h.le⟩
theorem Src.setAt (h : Src W p S a l c m s) (k : Nat) : Src (W.setCell ⟨p, 1, none⟩ (.int .i64 (k : Int))) p S a l c k s :=
  ⟨by rw [heap_set 1 _ h.box]; rfl, h.sd, h.byt.same (fun b hb => Below.heap_setCell W ⟨p, 1, none⟩ _ b (by have := h.le; show b ≠ p; omega)) (fun _ h => h), h.le⟩
theorem Src.setSeed (h : Src W p S a l c m s) (k : Nat) (hk : k < 2147483648) : Src (W.setCell ⟨p, 2, none⟩ (.int .i64 (k : Int))) p S a l c m k :=
  ⟨by rw [heap_set 2 _ h.box]; rfl, hk, h.byt.same (fun b hb => Below.heap_setCell W ⟨p, 2, none⟩ _ b (by have := h.le; show b ≠ p; omega)) (fun _ h => h), h.le⟩
theorem Frm.put1 (W : World) (p o : Nat) (v : Value) : Frm (· = p) W (W.setCell ⟨p, o, none⟩ v) := ⟨rfl, rfl, rfl, by simp, fun b _ hb => Below.heap_setCell W ⟨p, o, none⟩ v b hb⟩
theorem Frm.put2 (W : World) (p o o' : Nat) (v v' : Value) : Frm (· = p) W ((W.setCell ⟨p, o, none⟩ v).setCell ⟨p, o', none⟩ v') :=
  ⟨rfl, rfl, rfl, by simp, fun b _ hb => by rw [Below.heap_setCell _ ⟨p, o', none⟩ v' b hb, Below.heap_setCell W ⟨p, o, none⟩ v b hb]⟩
theorem Src.drew1 (h : Src W p S a l c m s) : Src W.drew p S a l c m s := h.on (Below.refl _ _).drew
theorem Frm.drew1 {B : Nat → Prop} (h : Frm B W W') : Frm B W W'.drew := by
  have hb := (Below.refl W'.heap.size W').drew
  exact ⟨hb.os.trans h.os, hb.tape.trans h.tape, hb.output.trans h.output, Nat.le_trans h.size hb.size, fun b h1 h2 => (hb.block b (Nat.lt_of_lt_of_le h1 h.size)).trans (h.block b h1 h2)⟩
def ByteAns (W : World) (p S : Nat) (a : Option Addr) (l : List UInt8) (c m : Nat) (e : Ending) (W' : World) : Prop := ∃ b s' : Nat, e = .returned (.int .i64 (b : Int)) ∧ b < 256 ∧ Src W' p S a l c (m + 1) s' ∧ Frm (· = p) W W'
set_option maxRecDepth 100000 in
set_option maxHeartbeats 3200000 in
theorem srcByte (h : Src W p S a l c m s) (hm : m < 1000000) :
    Calls Try.prog 66 #[.pointer (some ⟨p, 0, none⟩)] W (ByteAns W p S a l c m) := by
  obtain ⟨k, hk⟩ : ∃ k, k = m + 1 := ⟨_, rfl⟩
  have w1 : IntKind.i64.wrap ((m : Int) + 1) = (k : Int) := by rw [IntKind.wrap_i64]; omega
  obtain ⟨x0, x1, x2⟩ := h.cell
  have z1 := frozen_at 1 h.box
  have H1 := Lib.hid (h.setAt k)
  obtain ⟨y0, y1, y2⟩ := H1.out.cell
  have z2 := frozen_at 2 H1.out.box
  have HK : Hid (k = m + 1) := hk
  by_cases hl : k ≤ l.length
  · have d1 : decide ((k : Int) ≤ (l.length : Int)) = true := decide_eq_true (by omega)
    have d2 : decide (k ≤ l.length) = true := decide_eq_true hl
    have w2 : IntKind.i64.wrap ((k : Int) - 1) = (m : Int) := by rw [IntKind.wrap_i64]; omega
    have hml : m < l.length := by omega
    rcases H1.out.byt with h0 | ⟨b, off, rfl, hb, hc⟩
    · omega
    have hcm := hc m hml
    obtain ⟨v, hv⟩ : ∃ v : Nat, v = l[m].toNat := ⟨_, rfl⟩
    have hv2 : v < 256 := by rw [hv]; exact UInt8.toNat_lt _
    rw [← hv] at hcm
    have hs := h.sd
    obtain ⟨u1, e1⟩ : ∃ u : Nat, u = s * 31 := ⟨_, rfl⟩
    obtain ⟨u2, e2⟩ : ∃ u : Nat, u = u1 + v := ⟨_, rfl⟩
    obtain ⟨u3, e3⟩ : ∃ u : Nat, u = u2 + 7 := ⟨_, rfl⟩
    obtain ⟨s', e4⟩ : ∃ u : Nat, u = u3 % 2147483648 := ⟨_, rfl⟩
    have f1 : IntKind.i64.wrap ((s : Int) * 31) = (u1 : Int) := by rw [IntKind.wrap_i64]; omega
    have f2 : IntKind.i64.wrap ((u1 : Int) + (v : Int)) = (u2 : Int) := by rw [IntKind.wrap_i64]; omega
    have f3 : IntKind.i64.wrap ((u2 : Int) + 7) = (u3 : Int) := by rw [IntKind.wrap_i64]; omega
    have f4 : (u3 : Int).tmod 2147483648 = (s' : Int) := by rw [Int.tmod_eq_emod_of_nonneg (by omega)]; omega
    have f5 : IntKind.i64.wrap (s' : Int) = (s' : Int) := by rw [IntKind.wrap_i64]; omega
    have f6 : IntKind.i64.wrap (v : Int) = (v : Int) := by rw [IntKind.wrap_i64]; omega
    have f7 : IntKind.i64.wrap ((u3 : Int) % 2147483648) = (s' : Int) := by rw [IntKind.wrap_i64]; omega
    have H2 := Lib.hid (H1.out.setSeed s' (by omega))
    obtain ⟨t0, t1, t2⟩ := H2.out.cell
    have hcm2 : ((W.setCell ⟨p, 1, none⟩ (.int .i64 (k : Int))).setCell ⟨p, 2, none⟩ (.int .i64 (s' : Int))).cell? ⟨b, off + m, none⟩ = some (.int .u8 (v : Int)) := by
      rcases H2.out.byt with h0 | ⟨b', off', e', hb', hc'⟩
      · omega
      · cases e'
        rw [hv]
        exact hc' m hml
    have HV := Lib.hid hv2
    have HF := Lib.hid (Frm.put2 W p 1 2 (.int .i64 (k : Int)) (.int .i64 (s' : Int)))
    clear h hk e1 e2 e3 e4 hv hv2 hs hc hb hl hm
    go_enter Try.func66, Try.ntmps66
    go_wp2_with fail
    go_region
    go_wp2_with fail
    go_region
    go_wp2_with fail
    go_region
    go_wp2_with fail
    go_ret
    exact ⟨v, s', rfl, HV.out, HK.out ▸ H2.out.drew1.drew1.drew1, HF.out.drew1.drew1.drew1⟩
  · have d1 : decide ((k : Int) ≤ (l.length : Int)) = false := decide_eq_false (by omega)
    have d2 : decide (k ≤ l.length) = false := decide_eq_false hl
    by_cases h3 : 3000 < k
    · have d3 : decide (3000 < (k : Int)) = true := decide_eq_true (by omega)
      have d4 : decide (3000 < k) = true := decide_eq_true h3
      have HF := Lib.hid (Frm.put1 W p 1 (.int .i64 (k : Int)))
      clear h hk hl h3 hm
      go_enter Try.func66, Try.ntmps66
      go_wp2_with fail
      go_region
      go_wp2_with fail
      go_ret
      exact ⟨0, s, rfl, by omega, HK.out ▸ H1.out.drew1, HF.out.drew1⟩
    · have d3 : decide (3000 < (k : Int)) = false := decide_eq_false (by omega)
      have d4 : decide (3000 < k) = false := decide_eq_false h3
      have hs := h.sd
      obtain ⟨u1, e1⟩ : ∃ u : Nat, u = s * 1103515245 := ⟨_, rfl⟩
      obtain ⟨u2, e2⟩ : ∃ u : Nat, u = u1 + 12345 := ⟨_, rfl⟩
      obtain ⟨s', e4⟩ : ∃ u : Nat, u = u2 % 2147483648 := ⟨_, rfl⟩
      obtain ⟨q, e5⟩ : ∃ u : Nat, u = s' / 65536 := ⟨_, rfl⟩
      obtain ⟨v, e6⟩ : ∃ u : Nat, u = q % 256 := ⟨_, rfl⟩
      have f1 : IntKind.i64.wrap ((s : Int) * 1103515245) = (u1 : Int) := by rw [IntKind.wrap_i64]; omega
      have f2 : IntKind.i64.wrap ((u1 : Int) + 12345) = (u2 : Int) := by rw [IntKind.wrap_i64]; omega
      have f4 : (u2 : Int).tmod 2147483648 = (s' : Int) := by rw [Int.tmod_eq_emod_of_nonneg (by omega)]; omega
      have f5 : IntKind.i64.wrap (s' : Int) = (s' : Int) := by rw [IntKind.wrap_i64]; omega
      have f7 : IntKind.i64.wrap ((u2 : Int) % 2147483648) = (s' : Int) := by rw [IntKind.wrap_i64]; omega
      have f8 : (s' : Int).tdiv 65536 = (q : Int) := by rw [Int.tdiv_eq_ediv_of_nonneg (by omega)]; omega
      have f9 : IntKind.i64.wrap ((s' : Int) / 65536) = (q : Int) := by rw [IntKind.wrap_i64]; omega
      have g1 : IntKind.i64.wrap (q : Int) = (q : Int) := by rw [IntKind.wrap_i64]; omega
      have g2 : (q : Int).tmod 256 = (v : Int) := by rw [Int.tmod_eq_emod_of_nonneg (by omega)]; omega
      have g3 : IntKind.i64.wrap ((q : Int) % 256) = (v : Int) := by rw [IntKind.wrap_i64]; omega
      have g4 : IntKind.i64.wrap (v : Int) = (v : Int) := by rw [IntKind.wrap_i64]; omega
      have H2 := Lib.hid (H1.out.setSeed s' (by omega))
      obtain ⟨t0, t1, t2⟩ := H2.out.cell
      have HV : Hid (v < 256) := by show v < 256; omega
      have HF := Lib.hid (Frm.put2 W p 1 2 (.int .i64 (k : Int)) (.int .i64 (s' : Int)))
      clear h hk e1 e2 e4 e5 e6 hs hl h3 hm
      go_enter Try.func66, Try.ntmps66
      go_wp2_with fail
      go_region
      go_wp2_with fail
      go_ret
      exact ⟨v, s', rfl, HV.out, HK.out ▸ H2.out.drew1, HF.out.drew1⟩
def NextAns (W : World) (p S : Nat) (a : Option Addr) (l : List UInt8) (c m n : Nat) (e : Ending) (W' : World) : Prop := ∃ b s' : Nat, e = .returned (.int .i64 (b : Int)) ∧ b < n ∧ Src W' p S a l c (m + 1) s' ∧ Frm (· = p) W W'
set_option maxRecDepth 100000 in
set_option maxHeartbeats 1600000 in
theorem srcNext (h : Src W p S a l c m s) (hm : m < 1000000) (n : Nat) (h1 : 1 < n) (h2 : n ≤ 256) :
    Calls Try.prog 39 #[.pointer (some ⟨p, 0, none⟩), .int .i64 (n : Int)] W (NextAns W p S a l c m n) := by
  have BY := Lib.hid (srcByte h hm)
  have d1 : decide ((n : Int) ≤ 1) = false := decide_eq_false (by omega)
  have d2 : decide (n ≤ 1) = false := decide_eq_false (by omega)
  have d3 : decide ((n : Int) ≤ 256) = true := decide_eq_true (by omega)
  have d4 : decide (n ≤ 256) = true := decide_eq_true h2
  have d5 : ((n : Int) == 0) = false := by rw [beq_eq_false_iff_ne]; omega
  have HN : Hid (1 < n ∧ n ≤ 256) := ⟨h1, h2⟩
  have hn0 : n ≠ 0 := by omega
  clear h h1 h2 hm
  go_enter Try.func39, Try.ntmps39
  go_wp2_with fail
  refine BY.out.mono ?_
  rintro e w1 ⟨b, s', rfl, hb, hS, hF⟩
  have HS := Lib.hid hS
  have HF := Lib.hid hF
  obtain ⟨r, hr⟩ : ∃ r : Nat, r = b % n := ⟨_, rfl⟩
  have HR : Hid (r < n) := by show r < n; rw [hr]; exact Nat.mod_lt _ (by have := HN.out; omega)
  have t1 : (b : Int).tmod (n : Int) = (r : Int) := by rw [Int.tmod_eq_emod_of_nonneg (by omega), hr, Int.natCast_emod]
  have t3 : ((b : Int) % (n : Int)) = (r : Int) := by rw [hr, Int.natCast_emod]
  have t2 : IntKind.i64.wrap (r : Int) = (r : Int) := by have := HR.out; have := HN.out; rw [IntKind.wrap_i64]; omega
  clear hS hF hr hb
  go_wp2_with fail
  go_ret
  exact ⟨r, s', rfl, HR.out, HS.out, HF.out⟩
end Go.Proofs.Ythpenliecgpedaa
