import Derived.Test.YtgpoigkfoliflaaGreatDoorZbh
import Derived.Test.YtgpoigkfoliflaaGreatDoorZbi
import Derived.Test.YtgpoigkfoliflaaGreatDoorZar
namespace Go.Proofs.YtgpoigkfoliflaaGreatDoor
open Go.RowKit
set_option linter.unusedSimpArgs false
noncomputable def eachP (f b : Int) (d : List At) : Int × List At := if numO f b d = true then (0, numA f b d) else (4, [])
theorem each_no {f b : Int} {d : List At} (h : numO f b d = false) : eachP f b d = (4, []) := by unfold eachP; rw [if_neg (by simp [h])]
theorem each_yes {f b : Int} {d : List At} (h : numO f b d = true) : eachP f b d = (0, numA f b d) := by unfold eachP; rw [if_pos h]
theorem numK_cant {f a b : Int} (h : cantB f b = true) : numK f a b = false := by unfold numK; rw [h]; rfl
theorem numK_can {f a b : Int} (h : cantB f b = false) : numK f a b = inB (-1000000000) (numR f a b) 1000000000 := by unfold numK; rw [h]; rfl
set_option maxRecDepth 100000 in
set_option maxHeartbeats 6400000 in
theorem each1I (b : Int) (d : List At) (da : Option Addr) (dc : Nat) (pb : Nat) (S : Nat) (w : World) (hd8 : d.length ≤ 8) (hdk : Dk 1 d) (hw : S ≤ w.heap.size) (hD : Ats w (· < S) da d) (hp : w.cell? ⟨pb, 0, none⟩ = some (.int .i64 b))
    (hbn : Num b) :
    Calls Tryz.prog 68 #[.slice da d.length dc, .agg #[.bool (!cantB 1 b), .func (.func 87) #[] #[.pointer (some ⟨pb, 0, none⟩)]]] w (AAns2 w (eachP 1 b d).2 (eachP 1 b d).1) := by
  have HD : Hid (∀ W, Below w.heap.size w W → Ats W (· < S) da d) := fun W h => hD.below (h.mono hw)
  have HPB : Hid (∀ W, Below w.heap.size w W → W.cell? ⟨pb, 0, none⟩ = some (.int .i64 b)) := fun W h => cell_kept hp h
  have HDK := Lib.hid hdk
  have HBN := Lib.hid hbn
  have hb := boxD 95 w #[.bool (!cantB 1 b), .func (.func 87) #[] #[.pointer (some ⟨pb, 0, none⟩)]]
  obtain ⟨w0, hw0⟩ : ∃ w0, w0 = w.alloc (.cells #[.bool (!cantB 1 b), .func (.func 87) #[] #[.pointer (some ⟨pb, 0, none⟩)]] 95) := ⟨_, rfl⟩
  have HW0 := Lib.hid hw0
  rw [← hw0] at hb
  have HB0 := Lib.hid hb
  have KB : Hid (∀ W, Below w0.heap.size w0 W → BoxD 95 w W #[.bool (!cantB 1 b), .func (.func 87) #[] #[.pointer (some ⟨pb, 0, none⟩)]]) := fun W h => HB0.out.later h
  have AS : Hid (AN w0 w0.heap.size w0 (.slice none 0 0) []) := AN.first (Below.refl _ _)
  clear hdk hw hD hp hbn hb hw0
  go_enter Tryz.func68, Tryz.ntmps68
  go_wp2_with fail
  rw [← HW0.out]
  go_loopw [6, 12] (fun o i wr => ∃ m : Nat, ∃ vo, m ≤ d.length ∧ i = .int .i64 m ∧ vo = o ∧ Hid (AN w0 w0.heap.size wr vo (numA 1 b (d.take m)) ∧ ∀ q (h : q < d.length), q < m → numK 1 d[q].n b = true)) (fun _ i _ => d.length - (intOf i).toNat)
  case atStart => exact ⟨0, _, Nat.zero_le _, rfl, rfl, AS.out, fun q _ h => absurd h (by omega)⟩
  case round =>
    obtain ⟨m, vv, hm, rfl, rfl, HI⟩ := hrel
    by_cases hlt : m < d.length
    case neg =>
      have hmi : decide ((m : Int) < (d.length : Int)) = false := by simp; omega
      have HP := Lib.hid (each_yes (numO_yes (fun q h => HI.out.2 q h (by omega))))
      have he : d.take m = d := List.take_of_length_le (by omega)
      rw [he] at HI
      clear he
      go_wp2_with fail
      go_ret2
      rw [HP.out]
      exact AAns2.base (W := w0) (HI.out.1.ans2 (c := 0)) HB0.out.2
    have hmi : (m : Int) < (d.length : Int) := by omega
    obtain ⟨db, dof, rfl, -, c0, c1, c2⟩ := (HD.out wr (HB0.out.2.trans (HI.out.1.bel.mono HB0.out.2.size))).item m hlt
    have HSN : Hid (numA 1 b (d.take (m + 1)) = putL (numA 1 b (d.take m)) ⟨1, numR 1 d[m].n b, []⟩) := numA_snoc _ _ d m hlt
    have HNO : Hid (numK 1 d[m].n b = false → eachP 1 b d = (4, [])) := fun h => each_no (numO_no hlt h)
    have HNX : Hid (numK 1 d[m].n b = true → ∀ q (h : q < d.length), q < m + 1 → numK 1 d[q].n b = true) := fun he q h hq => by
      by_cases e : q = m
      · subst e; exact he
      · exact HI.out.2 q h (by omega)
    have hal := numA_len 1 b d m hm
    have HRS : Hid (Rise (numA 1 b (d.take m)) ∧ (numA 1 b (d.take m)).length ≤ 100) := ⟨(numA_dk m hm HI.out.2).1, by omega⟩
    have HYN : Hid (Num d[m].n) := HDK.out.n (List.getElem_mem hlt)
    clear hal
    generalize d[m] = y at *
    have hB1 : Below wr.heap.size wr (wr.alloc (.cells #[.int .i64 y.k, .int .i64 y.n, .string ⟨y.t.toArray⟩] 55)) := below_allocD _ _
    have HI1 := Lib.hid (HI.out.1.on hB1)
    have x0 := cell_at (o := 0) (KB.out _ HI1.out.bel).1 rfl
    have x1 := cell_at (o := 1) (KB.out _ HI1.out.bel).1 rfl
    have z1 := cell_at (o := 1) (heap_newD wr (.cells #[.int .i64 y.k, .int .i64 y.n, .string ⟨y.t.toArray⟩] 55)) rfl
    have hpc := HPB.out _ (HB0.out.2.trans (HI1.out.bel.mono HB0.out.2.size))
    clear hB1
    by_cases hcan : cantB 1 b = true
    case pos =>
      have HP := Lib.hid (HNO.out (numK_cant hcan))
      rw [hcan] at x0
      clear hcan HNO HNX x1 z1 hpc
      go_wp2_with fail
      go_ret2
      rw [HP.out]
      exact AAns2.none rfl (HB0.out.2.trans (HI1.out.bel.mono HB0.out.2.size))
    replace hcan : cantB 1 b = false := by simpa using hcan
    have HNC := Lib.hid (wk1I y.n b pb _ hpc HYN.out HBN.out)
    have HKK := Lib.hid (numK_can (a := y.n) hcan)
    have NI := Lib.hid (fun W => numberI (numR 1 y.n b) W)
    rw [hcan] at x0
    clear hcan hpc
    go_wp2_with fail
    refine HNC.out.mono ?_
    rintro e w1 ⟨rfl, rfl⟩
    go_wp2_with fail
    refine (NI.out _).mono ?_
    rintro e w2 ⟨rfl, rfl⟩
    rw [← HKK.out]
    cases hk : numK 1 y.n b
    case false =>
      have HP := Lib.hid (HNO.out hk)
      clear hk HNO HNX
      go_wp2_with fail
      go_ret2
      rw [HP.out]
      exact AAns2.none rfl (HB0.out.2.trans (HI1.out.bel.mono HB0.out.2.size))
    have HX := Lib.hid (HNX.out hk)
    clear hk HNO HNX
    have PU := Lib.hid (putI (numA 1 b (d.take m)) ⟨1, numR 1 y.n b, []⟩ vv w0.heap.size _ HRS.out.2 HRS.out.1 HI1.out.buf HI1.out.le)
    go_wp2_with fail
    refine PU.out.mono ?_
    rintro e w3 ⟨v3, rfl, hbuf, happ⟩
    have H3 := Lib.hid ((HI1.out.push hbuf happ).cast HSN.out.symm)
    clear hbuf happ
    go_wp2_with fail
    go_roundw
    case rel => exact ⟨m + 1, v3, by omega, by go_num, rfl, H3.out, HX.out⟩
    case measure => simp [intOf]; omega
set_option maxRecDepth 100000 in
set_option maxHeartbeats 6400000 in
theorem each2I (b : Int) (d : List At) (da : Option Addr) (dc : Nat) (pb : Nat) (S : Nat) (w : World) (hd8 : d.length ≤ 8) (hdk : Dk 1 d) (hw : S ≤ w.heap.size) (hD : Ats w (· < S) da d) (hp : w.cell? ⟨pb, 0, none⟩ = some (.int .i64 b))
    (hbn : Num b) :
    Calls Tryz.prog 68 #[.slice da d.length dc, .agg #[.bool (!cantB 2 b), .func (.func 88) #[] #[.pointer (some ⟨pb, 0, none⟩)]]] w (AAns2 w (eachP 2 b d).2 (eachP 2 b d).1) := by
  have HD : Hid (∀ W, Below w.heap.size w W → Ats W (· < S) da d) := fun W h => hD.below (h.mono hw)
  have HPB : Hid (∀ W, Below w.heap.size w W → W.cell? ⟨pb, 0, none⟩ = some (.int .i64 b)) := fun W h => cell_kept hp h
  have HDK := Lib.hid hdk
  have HBN := Lib.hid hbn
  have hb := boxD 95 w #[.bool (!cantB 2 b), .func (.func 88) #[] #[.pointer (some ⟨pb, 0, none⟩)]]
  obtain ⟨w0, hw0⟩ : ∃ w0, w0 = w.alloc (.cells #[.bool (!cantB 2 b), .func (.func 88) #[] #[.pointer (some ⟨pb, 0, none⟩)]] 95) := ⟨_, rfl⟩
  have HW0 := Lib.hid hw0
  rw [← hw0] at hb
  have HB0 := Lib.hid hb
  have KB : Hid (∀ W, Below w0.heap.size w0 W → BoxD 95 w W #[.bool (!cantB 2 b), .func (.func 88) #[] #[.pointer (some ⟨pb, 0, none⟩)]]) := fun W h => HB0.out.later h
  have AS : Hid (AN w0 w0.heap.size w0 (.slice none 0 0) []) := AN.first (Below.refl _ _)
  clear hdk hw hD hp hbn hb hw0
  go_enter Tryz.func68, Tryz.ntmps68
  go_wp2_with fail
  rw [← HW0.out]
  go_loopw [6, 12] (fun o i wr => ∃ m : Nat, ∃ vo, m ≤ d.length ∧ i = .int .i64 m ∧ vo = o ∧ Hid (AN w0 w0.heap.size wr vo (numA 2 b (d.take m)) ∧ ∀ q (h : q < d.length), q < m → numK 2 d[q].n b = true)) (fun _ i _ => d.length - (intOf i).toNat)
  case atStart => exact ⟨0, _, Nat.zero_le _, rfl, rfl, AS.out, fun q _ h => absurd h (by omega)⟩
  case round =>
    obtain ⟨m, vv, hm, rfl, rfl, HI⟩ := hrel
    by_cases hlt : m < d.length
    case neg =>
      have hmi : decide ((m : Int) < (d.length : Int)) = false := by simp; omega
      have HP := Lib.hid (each_yes (numO_yes (fun q h => HI.out.2 q h (by omega))))
      have he : d.take m = d := List.take_of_length_le (by omega)
      rw [he] at HI
      clear he
      go_wp2_with fail
      go_ret2
      rw [HP.out]
      exact AAns2.base (W := w0) (HI.out.1.ans2 (c := 0)) HB0.out.2
    have hmi : (m : Int) < (d.length : Int) := by omega
    obtain ⟨db, dof, rfl, -, c0, c1, c2⟩ := (HD.out wr (HB0.out.2.trans (HI.out.1.bel.mono HB0.out.2.size))).item m hlt
    have HSN : Hid (numA 2 b (d.take (m + 1)) = putL (numA 2 b (d.take m)) ⟨1, numR 2 d[m].n b, []⟩) := numA_snoc _ _ d m hlt
    have HNO : Hid (numK 2 d[m].n b = false → eachP 2 b d = (4, [])) := fun h => each_no (numO_no hlt h)
    have HNX : Hid (numK 2 d[m].n b = true → ∀ q (h : q < d.length), q < m + 1 → numK 2 d[q].n b = true) := fun he q h hq => by
      by_cases e : q = m
      · subst e; exact he
      · exact HI.out.2 q h (by omega)
    have hal := numA_len 2 b d m hm
    have HRS : Hid (Rise (numA 2 b (d.take m)) ∧ (numA 2 b (d.take m)).length ≤ 100) := ⟨(numA_dk m hm HI.out.2).1, by omega⟩
    have HYN : Hid (Num d[m].n) := HDK.out.n (List.getElem_mem hlt)
    clear hal
    generalize d[m] = y at *
    have hB1 : Below wr.heap.size wr (wr.alloc (.cells #[.int .i64 y.k, .int .i64 y.n, .string ⟨y.t.toArray⟩] 55)) := below_allocD _ _
    have HI1 := Lib.hid (HI.out.1.on hB1)
    have x0 := cell_at (o := 0) (KB.out _ HI1.out.bel).1 rfl
    have x1 := cell_at (o := 1) (KB.out _ HI1.out.bel).1 rfl
    have z1 := cell_at (o := 1) (heap_newD wr (.cells #[.int .i64 y.k, .int .i64 y.n, .string ⟨y.t.toArray⟩] 55)) rfl
    have hpc := HPB.out _ (HB0.out.2.trans (HI1.out.bel.mono HB0.out.2.size))
    clear hB1
    by_cases hcan : cantB 2 b = true
    case pos =>
      have HP := Lib.hid (HNO.out (numK_cant hcan))
      rw [hcan] at x0
      clear hcan HNO HNX x1 z1 hpc
      go_wp2_with fail
      go_ret2
      rw [HP.out]
      exact AAns2.none rfl (HB0.out.2.trans (HI1.out.bel.mono HB0.out.2.size))
    replace hcan : cantB 2 b = false := by simpa using hcan
    have HNC := Lib.hid (wk2I y.n b pb _ hpc HYN.out HBN.out)
    have HKK := Lib.hid (numK_can (a := y.n) hcan)
    have NI := Lib.hid (fun W => numberI (numR 2 y.n b) W)
    rw [hcan] at x0
    clear hcan hpc
    go_wp2_with fail
    refine HNC.out.mono ?_
    rintro e w1 ⟨rfl, rfl⟩
    go_wp2_with fail
    refine (NI.out _).mono ?_
    rintro e w2 ⟨rfl, rfl⟩
    rw [← HKK.out]
    cases hk : numK 2 y.n b
    case false =>
      have HP := Lib.hid (HNO.out hk)
      clear hk HNO HNX
      go_wp2_with fail
      go_ret2
      rw [HP.out]
      exact AAns2.none rfl (HB0.out.2.trans (HI1.out.bel.mono HB0.out.2.size))
    have HX := Lib.hid (HNX.out hk)
    clear hk HNO HNX
    have PU := Lib.hid (putI (numA 2 b (d.take m)) ⟨1, numR 2 y.n b, []⟩ vv w0.heap.size _ HRS.out.2 HRS.out.1 HI1.out.buf HI1.out.le)
    go_wp2_with fail
    refine PU.out.mono ?_
    rintro e w3 ⟨v3, rfl, hbuf, happ⟩
    have H3 := Lib.hid ((HI1.out.push hbuf happ).cast HSN.out.symm)
    clear hbuf happ
    go_wp2_with fail
    go_roundw
    case rel => exact ⟨m + 1, v3, by omega, by go_num, rfl, H3.out, HX.out⟩
    case measure => simp [intOf]; omega
set_option maxRecDepth 100000 in
set_option maxHeartbeats 6400000 in
theorem each3I (b : Int) (d : List At) (da : Option Addr) (dc : Nat) (pb : Nat) (S : Nat) (w : World) (hd8 : d.length ≤ 8) (hdk : Dk 1 d) (hw : S ≤ w.heap.size) (hD : Ats w (· < S) da d) (hp : w.cell? ⟨pb, 0, none⟩ = some (.int .i64 b))
    (hbn : Num b) :
    Calls Tryz.prog 68 #[.slice da d.length dc, .agg #[.bool (!cantB 3 b), .func (.func 89) #[] #[.pointer (some ⟨pb, 0, none⟩)]]] w (AAns2 w (eachP 3 b d).2 (eachP 3 b d).1) := by
  have HD : Hid (∀ W, Below w.heap.size w W → Ats W (· < S) da d) := fun W h => hD.below (h.mono hw)
  have HPB : Hid (∀ W, Below w.heap.size w W → W.cell? ⟨pb, 0, none⟩ = some (.int .i64 b)) := fun W h => cell_kept hp h
  have HDK := Lib.hid hdk
  have HBN := Lib.hid hbn
  have hb := boxD 95 w #[.bool (!cantB 3 b), .func (.func 89) #[] #[.pointer (some ⟨pb, 0, none⟩)]]
  obtain ⟨w0, hw0⟩ : ∃ w0, w0 = w.alloc (.cells #[.bool (!cantB 3 b), .func (.func 89) #[] #[.pointer (some ⟨pb, 0, none⟩)]] 95) := ⟨_, rfl⟩
  have HW0 := Lib.hid hw0
  rw [← hw0] at hb
  have HB0 := Lib.hid hb
  have KB : Hid (∀ W, Below w0.heap.size w0 W → BoxD 95 w W #[.bool (!cantB 3 b), .func (.func 89) #[] #[.pointer (some ⟨pb, 0, none⟩)]]) := fun W h => HB0.out.later h
  have AS : Hid (AN w0 w0.heap.size w0 (.slice none 0 0) []) := AN.first (Below.refl _ _)
  clear hdk hw hD hp hbn hb hw0
  go_enter Tryz.func68, Tryz.ntmps68
  go_wp2_with fail
  rw [← HW0.out]
  go_loopw [6, 12] (fun o i wr => ∃ m : Nat, ∃ vo, m ≤ d.length ∧ i = .int .i64 m ∧ vo = o ∧ Hid (AN w0 w0.heap.size wr vo (numA 3 b (d.take m)) ∧ ∀ q (h : q < d.length), q < m → numK 3 d[q].n b = true)) (fun _ i _ => d.length - (intOf i).toNat)
  case atStart => exact ⟨0, _, Nat.zero_le _, rfl, rfl, AS.out, fun q _ h => absurd h (by omega)⟩
  case round =>
    obtain ⟨m, vv, hm, rfl, rfl, HI⟩ := hrel
    by_cases hlt : m < d.length
    case neg =>
      have hmi : decide ((m : Int) < (d.length : Int)) = false := by simp; omega
      have HP := Lib.hid (each_yes (numO_yes (fun q h => HI.out.2 q h (by omega))))
      have he : d.take m = d := List.take_of_length_le (by omega)
      rw [he] at HI
      clear he
      go_wp2_with fail
      go_ret2
      rw [HP.out]
      exact AAns2.base (W := w0) (HI.out.1.ans2 (c := 0)) HB0.out.2
    have hmi : (m : Int) < (d.length : Int) := by omega
    obtain ⟨db, dof, rfl, -, c0, c1, c2⟩ := (HD.out wr (HB0.out.2.trans (HI.out.1.bel.mono HB0.out.2.size))).item m hlt
    have HSN : Hid (numA 3 b (d.take (m + 1)) = putL (numA 3 b (d.take m)) ⟨1, numR 3 d[m].n b, []⟩) := numA_snoc _ _ d m hlt
    have HNO : Hid (numK 3 d[m].n b = false → eachP 3 b d = (4, [])) := fun h => each_no (numO_no hlt h)
    have HNX : Hid (numK 3 d[m].n b = true → ∀ q (h : q < d.length), q < m + 1 → numK 3 d[q].n b = true) := fun he q h hq => by
      by_cases e : q = m
      · subst e; exact he
      · exact HI.out.2 q h (by omega)
    have hal := numA_len 3 b d m hm
    have HRS : Hid (Rise (numA 3 b (d.take m)) ∧ (numA 3 b (d.take m)).length ≤ 100) := ⟨(numA_dk m hm HI.out.2).1, by omega⟩
    have HYN : Hid (Num d[m].n) := HDK.out.n (List.getElem_mem hlt)
    clear hal
    generalize d[m] = y at *
    have hB1 : Below wr.heap.size wr (wr.alloc (.cells #[.int .i64 y.k, .int .i64 y.n, .string ⟨y.t.toArray⟩] 55)) := below_allocD _ _
    have HI1 := Lib.hid (HI.out.1.on hB1)
    have x0 := cell_at (o := 0) (KB.out _ HI1.out.bel).1 rfl
    have x1 := cell_at (o := 1) (KB.out _ HI1.out.bel).1 rfl
    have z1 := cell_at (o := 1) (heap_newD wr (.cells #[.int .i64 y.k, .int .i64 y.n, .string ⟨y.t.toArray⟩] 55)) rfl
    have hpc := HPB.out _ (HB0.out.2.trans (HI1.out.bel.mono HB0.out.2.size))
    clear hB1
    by_cases hcan : cantB 3 b = true
    case pos =>
      have HP := Lib.hid (HNO.out (numK_cant hcan))
      rw [hcan] at x0
      clear hcan HNO HNX x1 z1 hpc
      go_wp2_with fail
      go_ret2
      rw [HP.out]
      exact AAns2.none rfl (HB0.out.2.trans (HI1.out.bel.mono HB0.out.2.size))
    replace hcan : cantB 3 b = false := by simpa using hcan
    have HNC := Lib.hid (wk3I y.n b pb _ hpc HYN.out HBN.out)
    have HKK := Lib.hid (numK_can (a := y.n) hcan)
    have NI := Lib.hid (fun W => numberI (numR 3 y.n b) W)
    rw [hcan] at x0
    clear hcan hpc
    go_wp2_with fail
    refine HNC.out.mono ?_
    rintro e w1 ⟨rfl, rfl⟩
    go_wp2_with fail
    refine (NI.out _).mono ?_
    rintro e w2 ⟨rfl, rfl⟩
    rw [← HKK.out]
    cases hk : numK 3 y.n b
    case false =>
      have HP := Lib.hid (HNO.out hk)
      clear hk HNO HNX
      go_wp2_with fail
      go_ret2
      rw [HP.out]
      exact AAns2.none rfl (HB0.out.2.trans (HI1.out.bel.mono HB0.out.2.size))
    have HX := Lib.hid (HNX.out hk)
    clear hk HNO HNX
    have PU := Lib.hid (putI (numA 3 b (d.take m)) ⟨1, numR 3 y.n b, []⟩ vv w0.heap.size _ HRS.out.2 HRS.out.1 HI1.out.buf HI1.out.le)
    go_wp2_with fail
    refine PU.out.mono ?_
    rintro e w3 ⟨v3, rfl, hbuf, happ⟩
    have H3 := Lib.hid ((HI1.out.push hbuf happ).cast HSN.out.symm)
    clear hbuf happ
    go_wp2_with fail
    go_roundw
    case rel => exact ⟨m + 1, v3, by omega, by go_num, rfl, H3.out, HX.out⟩
    case measure => simp [intOf]; omega
set_option maxRecDepth 100000 in
set_option maxHeartbeats 6400000 in
theorem each4I (b : Int) (d : List At) (da : Option Addr) (dc : Nat) (pb : Nat) (S : Nat) (w : World) (hd8 : d.length ≤ 8) (hdk : Dk 1 d) (hw : S ≤ w.heap.size) (hD : Ats w (· < S) da d) (hp : w.cell? ⟨pb, 0, none⟩ = some (.int .i64 b))
    (hbn : Num b) :
    Calls Tryz.prog 68 #[.slice da d.length dc, .agg #[.bool (!cantB 4 b), .func (.func 90) #[] #[.pointer (some ⟨pb, 0, none⟩)]]] w (AAns2 w (eachP 4 b d).2 (eachP 4 b d).1) := by
  have HD : Hid (∀ W, Below w.heap.size w W → Ats W (· < S) da d) := fun W h => hD.below (h.mono hw)
  have HPB : Hid (∀ W, Below w.heap.size w W → W.cell? ⟨pb, 0, none⟩ = some (.int .i64 b)) := fun W h => cell_kept hp h
  have HDK := Lib.hid hdk
  have HBN := Lib.hid hbn
  have hb := boxD 95 w #[.bool (!cantB 4 b), .func (.func 90) #[] #[.pointer (some ⟨pb, 0, none⟩)]]
  obtain ⟨w0, hw0⟩ : ∃ w0, w0 = w.alloc (.cells #[.bool (!cantB 4 b), .func (.func 90) #[] #[.pointer (some ⟨pb, 0, none⟩)]] 95) := ⟨_, rfl⟩
  have HW0 := Lib.hid hw0
  rw [← hw0] at hb
  have HB0 := Lib.hid hb
  have KB : Hid (∀ W, Below w0.heap.size w0 W → BoxD 95 w W #[.bool (!cantB 4 b), .func (.func 90) #[] #[.pointer (some ⟨pb, 0, none⟩)]]) := fun W h => HB0.out.later h
  have AS : Hid (AN w0 w0.heap.size w0 (.slice none 0 0) []) := AN.first (Below.refl _ _)
  clear hdk hw hD hp hbn hb hw0
  go_enter Tryz.func68, Tryz.ntmps68
  go_wp2_with fail
  rw [← HW0.out]
  go_loopw [6, 12] (fun o i wr => ∃ m : Nat, ∃ vo, m ≤ d.length ∧ i = .int .i64 m ∧ vo = o ∧ Hid (AN w0 w0.heap.size wr vo (numA 4 b (d.take m)) ∧ ∀ q (h : q < d.length), q < m → numK 4 d[q].n b = true)) (fun _ i _ => d.length - (intOf i).toNat)
  case atStart => exact ⟨0, _, Nat.zero_le _, rfl, rfl, AS.out, fun q _ h => absurd h (by omega)⟩
  case round =>
    obtain ⟨m, vv, hm, rfl, rfl, HI⟩ := hrel
    by_cases hlt : m < d.length
    case neg =>
      have hmi : decide ((m : Int) < (d.length : Int)) = false := by simp; omega
      have HP := Lib.hid (each_yes (numO_yes (fun q h => HI.out.2 q h (by omega))))
      have he : d.take m = d := List.take_of_length_le (by omega)
      rw [he] at HI
      clear he
      go_wp2_with fail
      go_ret2
      rw [HP.out]
      exact AAns2.base (W := w0) (HI.out.1.ans2 (c := 0)) HB0.out.2
    have hmi : (m : Int) < (d.length : Int) := by omega
    obtain ⟨db, dof, rfl, -, c0, c1, c2⟩ := (HD.out wr (HB0.out.2.trans (HI.out.1.bel.mono HB0.out.2.size))).item m hlt
    have HSN : Hid (numA 4 b (d.take (m + 1)) = putL (numA 4 b (d.take m)) ⟨1, numR 4 d[m].n b, []⟩) := numA_snoc _ _ d m hlt
    have HNO : Hid (numK 4 d[m].n b = false → eachP 4 b d = (4, [])) := fun h => each_no (numO_no hlt h)
    have HNX : Hid (numK 4 d[m].n b = true → ∀ q (h : q < d.length), q < m + 1 → numK 4 d[q].n b = true) := fun he q h hq => by
      by_cases e : q = m
      · subst e; exact he
      · exact HI.out.2 q h (by omega)
    have hal := numA_len 4 b d m hm
    have HRS : Hid (Rise (numA 4 b (d.take m)) ∧ (numA 4 b (d.take m)).length ≤ 100) := ⟨(numA_dk m hm HI.out.2).1, by omega⟩
    have HYN : Hid (Num d[m].n) := HDK.out.n (List.getElem_mem hlt)
    clear hal
    generalize d[m] = y at *
    have hB1 : Below wr.heap.size wr (wr.alloc (.cells #[.int .i64 y.k, .int .i64 y.n, .string ⟨y.t.toArray⟩] 55)) := below_allocD _ _
    have HI1 := Lib.hid (HI.out.1.on hB1)
    have x0 := cell_at (o := 0) (KB.out _ HI1.out.bel).1 rfl
    have x1 := cell_at (o := 1) (KB.out _ HI1.out.bel).1 rfl
    have z1 := cell_at (o := 1) (heap_newD wr (.cells #[.int .i64 y.k, .int .i64 y.n, .string ⟨y.t.toArray⟩] 55)) rfl
    have hpc := HPB.out _ (HB0.out.2.trans (HI1.out.bel.mono HB0.out.2.size))
    clear hB1
    by_cases hcan : cantB 4 b = true
    case pos =>
      have HP := Lib.hid (HNO.out (numK_cant hcan))
      rw [hcan] at x0
      clear hcan HNO HNX x1 z1 hpc
      go_wp2_with fail
      go_ret2
      rw [HP.out]
      exact AAns2.none rfl (HB0.out.2.trans (HI1.out.bel.mono HB0.out.2.size))
    replace hcan : cantB 4 b = false := by simpa using hcan
    have HNC := Lib.hid (wk4I y.n b pb _ hpc HYN.out HBN.out (fun e => by subst e; cases hcan))
    have HKK := Lib.hid (numK_can (a := y.n) hcan)
    have NI := Lib.hid (fun W => numberI (numR 4 y.n b) W)
    rw [hcan] at x0
    clear hcan hpc
    go_wp2_with fail
    refine HNC.out.mono ?_
    rintro e w1 ⟨rfl, rfl⟩
    go_wp2_with fail
    refine (NI.out _).mono ?_
    rintro e w2 ⟨rfl, rfl⟩
    rw [← HKK.out]
    cases hk : numK 4 y.n b
    case false =>
      have HP := Lib.hid (HNO.out hk)
      clear hk HNO HNX
      go_wp2_with fail
      go_ret2
      rw [HP.out]
      exact AAns2.none rfl (HB0.out.2.trans (HI1.out.bel.mono HB0.out.2.size))
    have HX := Lib.hid (HNX.out hk)
    clear hk HNO HNX
    have PU := Lib.hid (putI (numA 4 b (d.take m)) ⟨1, numR 4 y.n b, []⟩ vv w0.heap.size _ HRS.out.2 HRS.out.1 HI1.out.buf HI1.out.le)
    go_wp2_with fail
    refine PU.out.mono ?_
    rintro e w3 ⟨v3, rfl, hbuf, happ⟩
    have H3 := Lib.hid ((HI1.out.push hbuf happ).cast HSN.out.symm)
    clear hbuf happ
    go_wp2_with fail
    go_roundw
    case rel => exact ⟨m + 1, v3, by omega, by go_num, rfl, H3.out, HX.out⟩
    case measure => simp [intOf]; omega
set_option maxRecDepth 100000 in
set_option maxHeartbeats 6400000 in
theorem each5I (b : Int) (d : List At) (da : Option Addr) (dc : Nat) (pb : Nat) (S : Nat) (w : World) (hd8 : d.length ≤ 8) (hdk : Dk 1 d) (hw : S ≤ w.heap.size) (hD : Ats w (· < S) da d) (hp : w.cell? ⟨pb, 0, none⟩ = some (.int .i64 b))
    (hbn : Num b) :
    Calls Tryz.prog 68 #[.slice da d.length dc, .agg #[.bool (!cantB 5 b), .func (.func 91) #[] #[.pointer (some ⟨pb, 0, none⟩)]]] w (AAns2 w (eachP 5 b d).2 (eachP 5 b d).1) := by
  have HD : Hid (∀ W, Below w.heap.size w W → Ats W (· < S) da d) := fun W h => hD.below (h.mono hw)
  have HPB : Hid (∀ W, Below w.heap.size w W → W.cell? ⟨pb, 0, none⟩ = some (.int .i64 b)) := fun W h => cell_kept hp h
  have HDK := Lib.hid hdk
  have HBN := Lib.hid hbn
  have hb := boxD 95 w #[.bool (!cantB 5 b), .func (.func 91) #[] #[.pointer (some ⟨pb, 0, none⟩)]]
  obtain ⟨w0, hw0⟩ : ∃ w0, w0 = w.alloc (.cells #[.bool (!cantB 5 b), .func (.func 91) #[] #[.pointer (some ⟨pb, 0, none⟩)]] 95) := ⟨_, rfl⟩
  have HW0 := Lib.hid hw0
  rw [← hw0] at hb
  have HB0 := Lib.hid hb
  have KB : Hid (∀ W, Below w0.heap.size w0 W → BoxD 95 w W #[.bool (!cantB 5 b), .func (.func 91) #[] #[.pointer (some ⟨pb, 0, none⟩)]]) := fun W h => HB0.out.later h
  have AS : Hid (AN w0 w0.heap.size w0 (.slice none 0 0) []) := AN.first (Below.refl _ _)
  clear hdk hw hD hp hbn hb hw0
  go_enter Tryz.func68, Tryz.ntmps68
  go_wp2_with fail
  rw [← HW0.out]
  go_loopw [6, 12] (fun o i wr => ∃ m : Nat, ∃ vo, m ≤ d.length ∧ i = .int .i64 m ∧ vo = o ∧ Hid (AN w0 w0.heap.size wr vo (numA 5 b (d.take m)) ∧ ∀ q (h : q < d.length), q < m → numK 5 d[q].n b = true)) (fun _ i _ => d.length - (intOf i).toNat)
  case atStart => exact ⟨0, _, Nat.zero_le _, rfl, rfl, AS.out, fun q _ h => absurd h (by omega)⟩
  case round =>
    obtain ⟨m, vv, hm, rfl, rfl, HI⟩ := hrel
    by_cases hlt : m < d.length
    case neg =>
      have hmi : decide ((m : Int) < (d.length : Int)) = false := by simp; omega
      have HP := Lib.hid (each_yes (numO_yes (fun q h => HI.out.2 q h (by omega))))
      have he : d.take m = d := List.take_of_length_le (by omega)
      rw [he] at HI
      clear he
      go_wp2_with fail
      go_ret2
      rw [HP.out]
      exact AAns2.base (W := w0) (HI.out.1.ans2 (c := 0)) HB0.out.2
    have hmi : (m : Int) < (d.length : Int) := by omega
    obtain ⟨db, dof, rfl, -, c0, c1, c2⟩ := (HD.out wr (HB0.out.2.trans (HI.out.1.bel.mono HB0.out.2.size))).item m hlt
    have HSN : Hid (numA 5 b (d.take (m + 1)) = putL (numA 5 b (d.take m)) ⟨1, numR 5 d[m].n b, []⟩) := numA_snoc _ _ d m hlt
    have HNO : Hid (numK 5 d[m].n b = false → eachP 5 b d = (4, [])) := fun h => each_no (numO_no hlt h)
    have HNX : Hid (numK 5 d[m].n b = true → ∀ q (h : q < d.length), q < m + 1 → numK 5 d[q].n b = true) := fun he q h hq => by
      by_cases e : q = m
      · subst e; exact he
      · exact HI.out.2 q h (by omega)
    have hal := numA_len 5 b d m hm
    have HRS : Hid (Rise (numA 5 b (d.take m)) ∧ (numA 5 b (d.take m)).length ≤ 100) := ⟨(numA_dk m hm HI.out.2).1, by omega⟩
    have HYN : Hid (Num d[m].n) := HDK.out.n (List.getElem_mem hlt)
    clear hal
    generalize d[m] = y at *
    have hB1 : Below wr.heap.size wr (wr.alloc (.cells #[.int .i64 y.k, .int .i64 y.n, .string ⟨y.t.toArray⟩] 55)) := below_allocD _ _
    have HI1 := Lib.hid (HI.out.1.on hB1)
    have x0 := cell_at (o := 0) (KB.out _ HI1.out.bel).1 rfl
    have x1 := cell_at (o := 1) (KB.out _ HI1.out.bel).1 rfl
    have z1 := cell_at (o := 1) (heap_newD wr (.cells #[.int .i64 y.k, .int .i64 y.n, .string ⟨y.t.toArray⟩] 55)) rfl
    have hpc := HPB.out _ (HB0.out.2.trans (HI1.out.bel.mono HB0.out.2.size))
    clear hB1
    by_cases hcan : cantB 5 b = true
    case pos =>
      have HP := Lib.hid (HNO.out (numK_cant hcan))
      rw [hcan] at x0
      clear hcan HNO HNX x1 z1 hpc
      go_wp2_with fail
      go_ret2
      rw [HP.out]
      exact AAns2.none rfl (HB0.out.2.trans (HI1.out.bel.mono HB0.out.2.size))
    replace hcan : cantB 5 b = false := by simpa using hcan
    have HNC := Lib.hid (wk5I y.n b pb _ hpc HYN.out HBN.out (fun e => by subst e; cases hcan))
    have HKK := Lib.hid (numK_can (a := y.n) hcan)
    have NI := Lib.hid (fun W => numberI (numR 5 y.n b) W)
    rw [hcan] at x0
    clear hcan hpc
    go_wp2_with fail
    refine HNC.out.mono ?_
    rintro e w1 ⟨rfl, rfl⟩
    go_wp2_with fail
    refine (NI.out _).mono ?_
    rintro e w2 ⟨rfl, rfl⟩
    rw [← HKK.out]
    cases hk : numK 5 y.n b
    case false =>
      have HP := Lib.hid (HNO.out hk)
      clear hk HNO HNX
      go_wp2_with fail
      go_ret2
      rw [HP.out]
      exact AAns2.none rfl (HB0.out.2.trans (HI1.out.bel.mono HB0.out.2.size))
    have HX := Lib.hid (HNX.out hk)
    clear hk HNO HNX
    have PU := Lib.hid (putI (numA 5 b (d.take m)) ⟨1, numR 5 y.n b, []⟩ vv w0.heap.size _ HRS.out.2 HRS.out.1 HI1.out.buf HI1.out.le)
    go_wp2_with fail
    refine PU.out.mono ?_
    rintro e w3 ⟨v3, rfl, hbuf, happ⟩
    have H3 := Lib.hid ((HI1.out.push hbuf happ).cast HSN.out.symm)
    clear hbuf happ
    go_wp2_with fail
    go_roundw
    case rel => exact ⟨m + 1, v3, by omega, by go_num, rfl, H3.out, HX.out⟩
    case measure => simp [intOf]; omega
theorem workE (f b : Int) (d : List At) (da : Option Addr) (dc : Nat) (S : Nat) (w : World) (hf : 1 ≤ f ∧ f ≤ 5) (hbn : Num b) (hd8 : d.length ≤ 8) (hdk : Dk 1 d) (hw : S ≤ w.heap.size) (hD : Ats w (· < S) da d) :
    Calls Tryz.prog 69 #[.int .i64 f, .int .i64 b] w fun e w' => ∃ v, e = .returned v ∧ Below w.heap.size w w' ∧ ∀ W, Below w'.heap.size w' W → Calls Tryz.prog 68 #[.slice da d.length dc, v] W (AAns2 W (eachP f b d).2 (eachP f b d).1) := by
  rcases (by omega : f = 1 ∨ f = 2 ∨ f = 3 ∨ f = 4 ∨ f = 5) with rfl | rfl | rfl | rfl | rfl
  · exact (work1I b w).mono (fun e w' ⟨he, hc, hB⟩ => ⟨_, he, hB, fun W h => each1I b d da dc w.heap.size S W hd8 hdk (Nat.le_trans hw (Nat.le_trans hB.size h.size)) (hD.below ((hB.trans (h.mono hB.size)).mono hw)) (cell_kept hc h) hbn⟩)
  · exact (work2I b w).mono (fun e w' ⟨he, hc, hB⟩ => ⟨_, he, hB, fun W h => each2I b d da dc w.heap.size S W hd8 hdk (Nat.le_trans hw (Nat.le_trans hB.size h.size)) (hD.below ((hB.trans (h.mono hB.size)).mono hw)) (cell_kept hc h) hbn⟩)
  · exact (work3I b w).mono (fun e w' ⟨he, hc, hB⟩ => ⟨_, he, hB, fun W h => each3I b d da dc w.heap.size S W hd8 hdk (Nat.le_trans hw (Nat.le_trans hB.size h.size)) (hD.below ((hB.trans (h.mono hB.size)).mono hw)) (cell_kept hc h) hbn⟩)
  · exact (work4I b w).mono (fun e w' ⟨he, hc, hB⟩ => ⟨_, he, hB, fun W h => each4I b d da dc w.heap.size S W hd8 hdk (Nat.le_trans hw (Nat.le_trans hB.size h.size)) (hD.below ((hB.trans (h.mono hB.size)).mono hw)) (cell_kept hc h) hbn⟩)
  · exact (work5I b w).mono (fun e w' ⟨he, hc, hB⟩ => ⟨_, he, hB, fun W h => each5I b d da dc w.heap.size S W hd8 hdk (Nat.le_trans hw (Nat.le_trans hB.size h.size)) (hD.below ((hB.trans (h.mono hB.size)).mono hw)) (cell_kept hc h) hbn⟩)
end Go.Proofs.YtgpoigkfoliflaaGreatDoor
