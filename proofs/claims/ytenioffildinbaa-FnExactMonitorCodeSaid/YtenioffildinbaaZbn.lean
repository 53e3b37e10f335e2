import Derived.Test.YtenioffildinbaaZbl
import Derived.Test.YtenioffildinbaaZbm
namespace Go.Proofs.Ytenioffildinbaa
open Go.RowKit
set_option linter.unusedSimpArgs false
noncomputable def mcR (l : List Tb) (m : MoV) : Int × Int := if (schB l && moB m) = true then (moC l m, 0) else (0, 1)
theorem mcR_bad {l : List Tb} {m : MoV} (h : (schB l && moB m) = false) : mcR l m = (0, 1) := by unfold mcR; rw [h]; rfl
theorem mcR_ok {l : List Tb} {m : MoV} (h : (schB l && moB m) = true) : mcR l m = (moC l m, 0) := by unfold mcR; rw [if_pos h]
set_option maxRecDepth 100000 in
set_option maxHeartbeats 12800000 in
theorem mcS (l : List Tb) (sa : Option Addr) (sc : Nat) (A : Nat → Prop) (m : MoV) (a2 : Option Addr) (c2 : Nat) (a7 : Option Addr) (c7 : Nat) (B : Nat → Prop) (w : World) (hlo : (dTableS l).le maxLen) (hn : m.nm.length ≤ maxLen) (ht : m.tb.length ≤ maxLen) (hc : (dStringS m.cs).le maxLen) (hw : (dCondS m.wh).le maxLen) (hT : Rd w A (dTableS l) (.slice sa l.length sc)) (rc : Rd w B (dStringS m.cs) (.slice a2 m.cs.length c2)) (rh : Rd w B (dCondS m.wh) (.slice a7 m.wh.length c7)) :
    Calls Try.prog 7 #[.agg #[.slice sa l.length sc], .agg #[.string ⟨m.nm.toArray⟩, .string ⟨m.tb.toArray⟩, .slice a2 m.cs.length c2, .bool m.ini, .bool m.ins, .bool m.del, .bool m.mod, .slice a7 m.wh.length c7]] w fun e w' => e = .returned (.tuple #[.int .i64 (mcR l m).1, .int .i64 (mcR l m).2]) ∧ Below w.heap.size w w' := by
  have K0 : Hid (∀ W, BoxE 35 39 w W #[.slice sa l.length sc] #[.string ⟨m.nm.toArray⟩, .string ⟨m.tb.toArray⟩, .slice a2 m.cs.length c2, .bool m.ini, .bool m.ins, .bool m.del, .bool m.mod, .slice a7 m.wh.length c7] → Calls Try.prog 21 #[.agg #[.slice sa l.length sc]] W fun e w' => e = .returned (.bool (schB l)) ∧ BoxE 35 39 w w' #[.slice sa l.length sc] #[.string ⟨m.nm.toArray⟩, .string ⟨m.tb.toArray⟩, .slice a2 m.cs.length c2, .bool m.ini, .bool m.ins, .bool m.del, .bool m.mod, .slice a7 m.wh.length c7]) := fun W h => by
    obtain ⟨Ad, hA⟩ := (hT.later h.bel).tabs
    exact (schemaS l sa sc Ad A W (le_tables hlo) hA).mono (fun e w' ⟨he, hB⟩ => ⟨he, h.later hB⟩)
  have K1 : Hid (∀ W, BoxE 35 39 w W #[.slice sa l.length sc] #[.string ⟨m.nm.toArray⟩, .string ⟨m.tb.toArray⟩, .slice a2 m.cs.length c2, .bool m.ini, .bool m.ins, .bool m.del, .bool m.mod, .slice a7 m.wh.length c7] → Calls Try.prog 22 #[.agg #[.string ⟨m.nm.toArray⟩, .string ⟨m.tb.toArray⟩, .slice a2 m.cs.length c2, .bool m.ini, .bool m.ins, .bool m.del, .bool m.mod, .slice a7 m.wh.length c7]] W fun e w' => e = .returned (.bool (moB m)) ∧ BoxE 35 39 w w' #[.slice sa l.length sc] #[.string ⟨m.nm.toArray⟩, .string ⟨m.tb.toArray⟩, .slice a2 m.cs.length c2, .bool m.ini, .bool m.ins, .bool m.del, .bool m.mod, .slice a7 m.wh.length c7]) := fun W h => (moOKs m a2 c2 a7 c7 B W hn ht hc hw (rc.later h.bel) (rh.later h.bel)).mono (fun e w' ⟨he, hB⟩ => ⟨he, h.later hB⟩)
  have KC : Hid (∀ W, BoxE 35 39 w W #[.slice sa l.length sc] #[.string ⟨m.nm.toArray⟩, .string ⟨m.tb.toArray⟩, .slice a2 m.cs.length c2, .bool m.ini, .bool m.ins, .bool m.del, .bool m.mod, .slice a7 m.wh.length c7] → Calls Try.prog 23 #[.agg #[.slice sa l.length sc], .agg #[.string ⟨m.nm.toArray⟩, .string ⟨m.tb.toArray⟩, .slice a2 m.cs.length c2, .bool m.ini, .bool m.ins, .bool m.del, .bool m.mod, .slice a7 m.wh.length c7]] W fun e w' => e = .returned (.int .i64 (moC l m)) ∧ BoxE 35 39 w w' #[.slice sa l.length sc] #[.string ⟨m.nm.toArray⟩, .string ⟨m.tb.toArray⟩, .slice a2 m.cs.length c2, .bool m.ini, .bool m.ins, .bool m.del, .bool m.mod, .slice a7 m.wh.length c7]) := fun W h => (mcodeS l sa sc A m a2 c2 a7 c7 B W hlo hc hw (hT.later h.bel) (rc.later h.bel) (rh.later h.bel)).mono (fun e w' ⟨he, hB⟩ => ⟨he, h.later hB⟩)
  have HB0 := Lib.hid (boxE 35 39 w #[.slice sa l.length sc] #[.string ⟨m.nm.toArray⟩, .string ⟨m.tb.toArray⟩, .slice a2 m.cs.length c2, .bool m.ini, .bool m.ins, .bool m.del, .bool m.mod, .slice a7 m.wh.length c7])
  clear hlo hn ht hc hw hT rc rh
  have x0 := cell_at (o := 0) HB0.out.a rfl
  have y0 := cell_at (o := 0) HB0.out.b rfl
  have y1 := cell_at (o := 1) HB0.out.b rfl
  have y2 := cell_at (o := 2) HB0.out.b rfl
  have y3 := cell_at (o := 3) HB0.out.b rfl
  have y4 := cell_at (o := 4) HB0.out.b rfl
  have y5 := cell_at (o := 5) HB0.out.b rfl
  have y6 := cell_at (o := 6) HB0.out.b rfl
  have y7 := cell_at (o := 7) HB0.out.b rfl
  cases hs : schB l
  case false =>
    have HE : Hid (mcR l m = (0, 1)) := mcR_bad (by rw [hs]; rfl)
    rw [hs] at K0
    clear hs
    go_enter Try.func7, Try.ntmps7
    go_wp2_with fail
    refine (K0.out _ HB0.out).mono ?_
    rintro e w1 ⟨rfl, hb⟩
    have HB1 := Lib.hid hb
    clear hb x0 y0 y1 y2 y3 y4 y5 y6 y7
    have x0 := cell_at (o := 0) HB1.out.a rfl
    have y0 := cell_at (o := 0) HB1.out.b rfl
    have y1 := cell_at (o := 1) HB1.out.b rfl
    have y2 := cell_at (o := 2) HB1.out.b rfl
    have y3 := cell_at (o := 3) HB1.out.b rfl
    have y4 := cell_at (o := 4) HB1.out.b rfl
    have y5 := cell_at (o := 5) HB1.out.b rfl
    have y6 := cell_at (o := 6) HB1.out.b rfl
    have y7 := cell_at (o := 7) HB1.out.b rfl
    go_wp2_with fail
    go_ret2
    exact ⟨by rw [HE.out]; rfl, HB1.out.bel⟩
  cases ho : moB m
  case false =>
    have HE : Hid (mcR l m = (0, 1)) := mcR_bad (by rw [hs, ho]; rfl)
    rw [hs] at K0
    rw [ho] at K1
    clear hs ho
    go_enter Try.func7, Try.ntmps7
    go_wp2_with fail
    refine (K0.out _ HB0.out).mono ?_
    rintro e w1 ⟨rfl, hb⟩
    have HB1 := Lib.hid hb
    clear hb x0 y0 y1 y2 y3 y4 y5 y6 y7
    have x0 := cell_at (o := 0) HB1.out.a rfl
    have y0 := cell_at (o := 0) HB1.out.b rfl
    have y1 := cell_at (o := 1) HB1.out.b rfl
    have y2 := cell_at (o := 2) HB1.out.b rfl
    have y3 := cell_at (o := 3) HB1.out.b rfl
    have y4 := cell_at (o := 4) HB1.out.b rfl
    have y5 := cell_at (o := 5) HB1.out.b rfl
    have y6 := cell_at (o := 6) HB1.out.b rfl
    have y7 := cell_at (o := 7) HB1.out.b rfl
    go_wp2_with fail
    refine (K1.out _ HB1.out).mono ?_
    rintro e w2 ⟨rfl, hb⟩
    have HB2 := Lib.hid hb
    clear hb x0 y0 y1 y2 y3 y4 y5 y6 y7
    have x0 := cell_at (o := 0) HB2.out.a rfl
    have y0 := cell_at (o := 0) HB2.out.b rfl
    have y1 := cell_at (o := 1) HB2.out.b rfl
    have y2 := cell_at (o := 2) HB2.out.b rfl
    have y3 := cell_at (o := 3) HB2.out.b rfl
    have y4 := cell_at (o := 4) HB2.out.b rfl
    have y5 := cell_at (o := 5) HB2.out.b rfl
    have y6 := cell_at (o := 6) HB2.out.b rfl
    have y7 := cell_at (o := 7) HB2.out.b rfl
    go_wp2_with fail
    go_ret2
    exact ⟨by rw [HE.out]; rfl, HB2.out.bel⟩
  have HE : Hid (mcR l m = (moC l m, 0)) := mcR_ok (by rw [hs, ho]; rfl)
  rw [hs] at K0
  rw [ho] at K1
  clear hs ho
  generalize moC l m = oc at *
  go_enter Try.func7, Try.ntmps7
  go_wp2_with fail
  refine (K0.out _ HB0.out).mono ?_
  rintro e w1 ⟨rfl, hb⟩
  have HB1 := Lib.hid hb
  clear hb x0 y0 y1 y2 y3 y4 y5 y6 y7
  have x0 := cell_at (o := 0) HB1.out.a rfl
  have y0 := cell_at (o := 0) HB1.out.b rfl
  have y1 := cell_at (o := 1) HB1.out.b rfl
  have y2 := cell_at (o := 2) HB1.out.b rfl
  have y3 := cell_at (o := 3) HB1.out.b rfl
  have y4 := cell_at (o := 4) HB1.out.b rfl
  have y5 := cell_at (o := 5) HB1.out.b rfl
  have y6 := cell_at (o := 6) HB1.out.b rfl
  have y7 := cell_at (o := 7) HB1.out.b rfl
  go_wp2_with fail
  refine (K1.out _ HB1.out).mono ?_
  rintro e w2 ⟨rfl, hb⟩
  have HB2 := Lib.hid hb
  clear hb x0 y0 y1 y2 y3 y4 y5 y6 y7
  have x0 := cell_at (o := 0) HB2.out.a rfl
  have y0 := cell_at (o := 0) HB2.out.b rfl
  have y1 := cell_at (o := 1) HB2.out.b rfl
  have y2 := cell_at (o := 2) HB2.out.b rfl
  have y3 := cell_at (o := 3) HB2.out.b rfl
  have y4 := cell_at (o := 4) HB2.out.b rfl
  have y5 := cell_at (o := 5) HB2.out.b rfl
  have y6 := cell_at (o := 6) HB2.out.b rfl
  have y7 := cell_at (o := 7) HB2.out.b rfl
  go_wp2_with fail
  refine (KC.out _ HB2.out).mono ?_
  rintro e w3 ⟨rfl, hb⟩
  have HB3 := Lib.hid hb
  clear hb x0 y0 y1 y2 y3 y4 y5 y6 y7
  go_wp2_with fail
  go_ret2
  exact ⟨by rw [HE.out]; rfl, HB3.out.bel⟩
end Go.Proofs.Ytenioffildinbaa
