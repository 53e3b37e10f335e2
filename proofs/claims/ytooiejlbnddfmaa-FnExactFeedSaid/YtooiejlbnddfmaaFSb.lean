import Derived.Test.YtooiejlbnddfmaaFOk
namespace Go.Proofs.Ytooiejlbnddfmaa
open Go.RowKit
set_option linter.unusedSimpArgs false
variable {f : Fr} {b : UInt8} {w : World}
/-- what the specification's byte answers -/
def ByAns (w : World) (g : Fr) (e2 : Bool) (e : Ending) (w' : World) : Prop := e = .returned (.tuple #[.agg #[.string ⟨g.buf.toArray⟩, .int .i64 g.d, .bool g.q, .bool g.s, .bool g.c], .bool e2]) ∧ Below w.heap.size w w'
theorem conv_new (W : World) (c : UInt8) : (convert 41 9 (.slice (some ⟨W.heap.size, 0, none⟩) 1 1)).run Try.prog (W.alloc (.cells #[.int .u8 (c.toNat : Int)] 5)) = .ok (.string ⟨#[c]⟩) (W.alloc (.cells #[.int .u8 (c.toNat : Int)] 5)) :=
  run_convert_bytes_back (P := Try.prog) _ 41 9 5 ⟨W.heap.size, 0, none⟩ 1 [c] Try.underlying41 Try.underlying5 Try.underlying9 (fun j hj => by
    have : j = 0 := by simpa using hj
    subst this
    rw [Addr.add_mid]
    exact cell_new _ rfl)
set_option maxRecDepth 100000 in
set_option maxHeartbeats 3200000 in
theorem by0_32 (hl : f.buf.length ≤ 3000) (hc : f.c = false) (hd : f.d = 0) (hb : b = 32) :
    Calls Try.prog 24 #[.agg #[.string ⟨f.buf.toArray⟩, .int .i64 f.d, .bool f.q, .bool f.s, .bool f.c], .int .u8 (b.toNat : Int)] w (ByAns w f false) := by
  obtain ⟨fb, fd, fq, fs, fc⟩ := f
  dsimp only at *
  subst hc hd
  subst hb
  rw [show ((((32 : UInt8).toNat : Nat)) : Int) = 32 from rfl] at *
  go_enter Try.func24, Try.ntmps24
  go_wp2_with fail
  exact bodyPost_ret (v := .tuple #[.agg #[(.string ⟨fb.toArray⟩), .int .i64 0, .bool fq, .bool fs, .bool false], .bool false]) (by simp [results, Try.results24, go_sem]) rfl ⟨rfl, ((Below.refl _ _).alloc (Nat.le_refl _) _).alloc (by simp) _⟩
set_option maxRecDepth 100000 in
set_option maxHeartbeats 3200000 in
theorem by0_9 (hl : f.buf.length ≤ 3000) (hc : f.c = false) (hd : f.d = 0) (hb : b = 9) :
    Calls Try.prog 24 #[.agg #[.string ⟨f.buf.toArray⟩, .int .i64 f.d, .bool f.q, .bool f.s, .bool f.c], .int .u8 (b.toNat : Int)] w (ByAns w f false) := by
  obtain ⟨fb, fd, fq, fs, fc⟩ := f
  dsimp only at *
  subst hc hd
  subst hb
  rw [show ((((9 : UInt8).toNat : Nat)) : Int) = 9 from rfl] at *
  go_enter Try.func24, Try.ntmps24
  go_wp2_with fail
  exact bodyPost_ret (v := .tuple #[.agg #[(.string ⟨fb.toArray⟩), .int .i64 0, .bool fq, .bool fs, .bool false], .bool false]) (by simp [results, Try.results24, go_sem]) rfl ⟨rfl, ((Below.refl _ _).alloc (Nat.le_refl _) _).alloc (by simp) _⟩
set_option maxRecDepth 100000 in
set_option maxHeartbeats 3200000 in
theorem by0_10 (hl : f.buf.length ≤ 3000) (hc : f.c = false) (hd : f.d = 0) (hb : b = 10) :
    Calls Try.prog 24 #[.agg #[.string ⟨f.buf.toArray⟩, .int .i64 f.d, .bool f.q, .bool f.s, .bool f.c], .int .u8 (b.toNat : Int)] w (ByAns w f false) := by
  obtain ⟨fb, fd, fq, fs, fc⟩ := f
  dsimp only at *
  subst hc hd
  subst hb
  rw [show ((((10 : UInt8).toNat : Nat)) : Int) = 10 from rfl] at *
  go_enter Try.func24, Try.ntmps24
  go_wp2_with fail
  exact bodyPost_ret (v := .tuple #[.agg #[(.string ⟨fb.toArray⟩), .int .i64 0, .bool fq, .bool fs, .bool false], .bool false]) (by simp [results, Try.results24, go_sem]) rfl ⟨rfl, ((Below.refl _ _).alloc (Nat.le_refl _) _).alloc (by simp) _⟩
set_option maxRecDepth 100000 in
set_option maxHeartbeats 3200000 in
theorem by0_13 (hl : f.buf.length ≤ 3000) (hc : f.c = false) (hd : f.d = 0) (hb : b = 13) :
    Calls Try.prog 24 #[.agg #[.string ⟨f.buf.toArray⟩, .int .i64 f.d, .bool f.q, .bool f.s, .bool f.c], .int .u8 (b.toNat : Int)] w (ByAns w f false) := by
  obtain ⟨fb, fd, fq, fs, fc⟩ := f
  dsimp only at *
  subst hc hd
  subst hb
  rw [show ((((13 : UInt8).toNat : Nat)) : Int) = 13 from rfl] at *
  go_enter Try.func24, Try.ntmps24
  go_wp2_with fail
  exact bodyPost_ret (v := .tuple #[.agg #[(.string ⟨fb.toArray⟩), .int .i64 0, .bool fq, .bool fs, .bool false], .bool false]) (by simp [results, Try.results24, go_sem]) rfl ⟨rfl, ((Below.refl _ _).alloc (Nat.le_refl _) _).alloc (by simp) _⟩
set_option maxRecDepth 100000 in
set_option maxHeartbeats 3200000 in
theorem by0_n (hl : f.buf.length ≤ 3000) (hc : f.c = false) (hd : f.d = 0) (h32 : ¬ b = 32) (h9 : ¬ b = 9) (h10 : ¬ b = 10) (h13 : ¬ b = 13) (h123 : ¬ b = 123) (h91 : ¬ b = 91) :
    Calls Try.prog 24 #[.agg #[.string ⟨f.buf.toArray⟩, .int .i64 f.d, .bool f.q, .bool f.s, .bool f.c], .int .u8 (b.toNat : Int)] w (ByAns w frC false) := by
  obtain ⟨fb, fd, fq, fs, fc⟩ := f
  dsimp only at *
  subst hc hd
  have e32 := u8_ne h32 32 rfl
  have f32 := u8_ne' h32 32 rfl
  have e9 := u8_ne h9 9 rfl
  have f9 := u8_ne' h9 9 rfl
  have e10 := u8_ne h10 10 rfl
  have f10 := u8_ne' h10 10 rfl
  have e13 := u8_ne h13 13 rfl
  have f13 := u8_ne' h13 13 rfl
  have e123 := u8_ne h123 123 rfl
  have f123 := u8_ne' h123 123 rfl
  have e91 := u8_ne h91 91 rfl
  have f91 := u8_ne' h91 91 rfl
  generalize (b.toNat : Int) = x at *
  go_enter Try.func24, Try.ntmps24
  go_wp2_with fail
  exact bodyPost_ret (v := .tuple #[.agg #[(.string ⟨#[]⟩), .int .i64 0, .bool false, .bool false, .bool true], .bool false]) (by simp [results, Try.results24, go_sem]) rfl ⟨rfl, ((Below.refl _ _).alloc (Nat.le_refl _) _).alloc (by simp) _⟩
set_option maxRecDepth 100000 in
set_option maxHeartbeats 3200000 in
theorem by0_123 (hl : f.buf.length ≤ 3000) (hc : f.c = false) (hd : f.d = 0) (hz : f.buf = []) (hq : f.q = false) (hs : f.s = false) (hb : b = 123) :
    Calls Try.prog 24 #[.agg #[.string ⟨f.buf.toArray⟩, .int .i64 f.d, .bool f.q, .bool f.s, .bool f.c], .int .u8 (b.toNat : Int)] w (ByAns w { f with buf := f.buf ++ [b], d := f.d + 1 } false) := by
  obtain ⟨fb, fd, fq, fs, fc⟩ := f
  dsimp only at *
  have hcv : (convert 41 9 (.slice (some ⟨w.heap.size + 2, 0, none⟩) 1 1)).run Try.prog (((w.alloc (.cells #[.string ⟨fb.toArray⟩, .int .i64 fd, .bool fq, .bool fs, .bool fc] 26)).alloc (.cells #[.string ⟨#[]⟩, .int .i64 0, .bool false, .bool false, .bool false] 26)).alloc (.cells #[.int .u8 (b.toNat : Int)] 5)) = .ok (.string ⟨#[b]⟩) (((w.alloc (.cells #[.string ⟨fb.toArray⟩, .int .i64 fd, .bool fq, .bool fs, .bool fc] 26)).alloc (.cells #[.string ⟨#[]⟩, .int .i64 0, .bool false, .bool false, .bool false] 26)).alloc (.cells #[.int .u8 (b.toNat : Int)] 5)) := by
    have := conv_new ((w.alloc (.cells #[.string ⟨fb.toArray⟩, .int .i64 fd, .bool fq, .bool fs, .bool fc] 26)).alloc (.cells #[.string ⟨#[]⟩, .int .i64 0, .bool false, .bool false, .bool false] 26)) b
    simpa using this
  have hct := str_snoc fb b
  subst hc hd hz hq hs
  subst hb
  rw [show ((((123 : UInt8).toNat : Nat)) : Int) = 123 from rfl] at *
  go_enter Try.func24, Try.ntmps24
  go_wp2_with fail
  exact bodyPost_ret (v := .tuple #[.agg #[(.string ⟨#[123]⟩), .int .i64 1, .bool false, .bool false, .bool false], .bool false]) (by simp [results, Try.results24, go_sem]) rfl ⟨rfl, (((Below.refl _ _).alloc (Nat.le_refl _) _).alloc (by simp) _).alloc (by simp; omega) _⟩
set_option maxRecDepth 100000 in
set_option maxHeartbeats 3200000 in
theorem by0_91 (hl : f.buf.length ≤ 3000) (hc : f.c = false) (hd : f.d = 0) (hz : f.buf = []) (hq : f.q = false) (hs : f.s = false) (hb : b = 91) :
    Calls Try.prog 24 #[.agg #[.string ⟨f.buf.toArray⟩, .int .i64 f.d, .bool f.q, .bool f.s, .bool f.c], .int .u8 (b.toNat : Int)] w (ByAns w { f with buf := f.buf ++ [b], d := f.d + 1 } false) := by
  obtain ⟨fb, fd, fq, fs, fc⟩ := f
  dsimp only at *
  have hcv : (convert 41 9 (.slice (some ⟨w.heap.size + 2, 0, none⟩) 1 1)).run Try.prog (((w.alloc (.cells #[.string ⟨fb.toArray⟩, .int .i64 fd, .bool fq, .bool fs, .bool fc] 26)).alloc (.cells #[.string ⟨#[]⟩, .int .i64 0, .bool false, .bool false, .bool false] 26)).alloc (.cells #[.int .u8 (b.toNat : Int)] 5)) = .ok (.string ⟨#[b]⟩) (((w.alloc (.cells #[.string ⟨fb.toArray⟩, .int .i64 fd, .bool fq, .bool fs, .bool fc] 26)).alloc (.cells #[.string ⟨#[]⟩, .int .i64 0, .bool false, .bool false, .bool false] 26)).alloc (.cells #[.int .u8 (b.toNat : Int)] 5)) := by
    have := conv_new ((w.alloc (.cells #[.string ⟨fb.toArray⟩, .int .i64 fd, .bool fq, .bool fs, .bool fc] 26)).alloc (.cells #[.string ⟨#[]⟩, .int .i64 0, .bool false, .bool false, .bool false] 26)) b
    simpa using this
  have hct := str_snoc fb b
  subst hc hd hz hq hs
  subst hb
  rw [show ((((91 : UInt8).toNat : Nat)) : Int) = 91 from rfl] at *
  go_enter Try.func24, Try.ntmps24
  go_wp2_with fail
  exact bodyPost_ret (v := .tuple #[.agg #[(.string ⟨#[91]⟩), .int .i64 1, .bool false, .bool false, .bool false], .bool false]) (by simp [results, Try.results24, go_sem]) rfl ⟨rfl, (((Below.refl _ _).alloc (Nat.le_refl _) _).alloc (by simp) _).alloc (by simp; omega) _⟩
set_option maxRecDepth 100000 in
set_option maxHeartbeats 3200000 in
theorem byL (hl : f.buf.length ≤ 3000) (hc : f.c = false) (hd : ¬ f.d = 0) (hlt : f.buf.length = 3000) :
    Calls Try.prog 24 #[.agg #[.string ⟨f.buf.toArray⟩, .int .i64 f.d, .bool f.q, .bool f.s, .bool f.c], .int .u8 (b.toNat : Int)] w (ByAns w frC false) := by
  obtain ⟨fb, fd, fq, fs, fc⟩ := f
  dsimp only at *
  have hcv : (convert 41 9 (.slice (some ⟨w.heap.size + 2, 0, none⟩) 1 1)).run Try.prog (((w.alloc (.cells #[.string ⟨fb.toArray⟩, .int .i64 fd, .bool fq, .bool fs, .bool fc] 26)).alloc (.cells #[.string ⟨#[]⟩, .int .i64 0, .bool false, .bool false, .bool false] 26)).alloc (.cells #[.int .u8 (b.toNat : Int)] 5)) = .ok (.string ⟨#[b]⟩) (((w.alloc (.cells #[.string ⟨fb.toArray⟩, .int .i64 fd, .bool fq, .bool fs, .bool fc] 26)).alloc (.cells #[.string ⟨#[]⟩, .int .i64 0, .bool false, .bool false, .bool false] 26)).alloc (.cells #[.int .u8 (b.toNat : Int)] 5)) := by
    have := conv_new ((w.alloc (.cells #[.string ⟨fb.toArray⟩, .int .i64 fd, .bool fq, .bool fs, .bool fc] 26)).alloc (.cells #[.string ⟨#[]⟩, .int .i64 0, .bool false, .bool false, .bool false] 26)) b
    simpa using this
  have hct := str_snoc fb b
  subst hc
  have d0 : (fd == 0) = false := by simpa using hd
  have d3 : decide (3000 < (fb.length : Int) + 1) = true := by simp; omega
  go_enter Try.func24, Try.ntmps24
  go_wp2_with fail
  exact bodyPost_ret (v := .tuple #[.agg #[(.string ⟨#[]⟩), .int .i64 0, .bool false, .bool false, .bool true], .bool false]) (by simp [results, Try.results24, go_sem]) rfl ⟨rfl, (((Below.refl _ _).alloc (Nat.le_refl _) _).alloc (by simp) _).alloc (by simp; omega) _⟩
set_option maxRecDepth 100000 in
set_option maxHeartbeats 3200000 in
theorem byS (hl : f.buf.length ≤ 3000) (hc : f.c = false) (hd : ¬ f.d = 0) (hlt : f.buf.length < 3000) (hs : f.s = true) :
    Calls Try.prog 24 #[.agg #[.string ⟨f.buf.toArray⟩, .int .i64 f.d, .bool f.q, .bool f.s, .bool f.c], .int .u8 (b.toNat : Int)] w (ByAns w { f with buf := f.buf ++ [b], s := false } false) := by
  obtain ⟨fb, fd, fq, fs, fc⟩ := f
  dsimp only at *
  have hcv : (convert 41 9 (.slice (some ⟨w.heap.size + 2, 0, none⟩) 1 1)).run Try.prog (((w.alloc (.cells #[.string ⟨fb.toArray⟩, .int .i64 fd, .bool fq, .bool fs, .bool fc] 26)).alloc (.cells #[.string ⟨#[]⟩, .int .i64 0, .bool false, .bool false, .bool false] 26)).alloc (.cells #[.int .u8 (b.toNat : Int)] 5)) = .ok (.string ⟨#[b]⟩) (((w.alloc (.cells #[.string ⟨fb.toArray⟩, .int .i64 fd, .bool fq, .bool fs, .bool fc] 26)).alloc (.cells #[.string ⟨#[]⟩, .int .i64 0, .bool false, .bool false, .bool false] 26)).alloc (.cells #[.int .u8 (b.toNat : Int)] 5)) := by
    have := conv_new ((w.alloc (.cells #[.string ⟨fb.toArray⟩, .int .i64 fd, .bool fq, .bool fs, .bool fc] 26)).alloc (.cells #[.string ⟨#[]⟩, .int .i64 0, .bool false, .bool false, .bool false] 26)) b
    simpa using this
  have hct := str_snoc fb b
  subst hc hs
  have d0 : (fd == 0) = false := by simpa using hd
  have d3 : decide (3000 < (fb.length : Int) + 1) = false := by simp; omega
  go_enter Try.func24, Try.ntmps24
  go_wp2_with fail
  exact bodyPost_ret (v := .tuple #[.agg #[(.string ⟨(fb ++ [b]).toArray⟩), .int .i64 fd, .bool fq, .bool false, .bool false], .bool false]) (by simp [results, Try.results24, go_sem]) rfl ⟨rfl, (((Below.refl _ _).alloc (Nat.le_refl _) _).alloc (by simp) _).alloc (by simp; omega) _⟩
set_option maxRecDepth 100000 in
set_option maxHeartbeats 3200000 in
theorem byQ92 (hl : f.buf.length ≤ 3000) (hc : f.c = false) (hd : ¬ f.d = 0) (hlt : f.buf.length < 3000) (hs : f.s = false) (hq : f.q = true) (hb : b = 92) :
    Calls Try.prog 24 #[.agg #[.string ⟨f.buf.toArray⟩, .int .i64 f.d, .bool f.q, .bool f.s, .bool f.c], .int .u8 (b.toNat : Int)] w (ByAns w { f with buf := f.buf ++ [b], s := true } false) := by
  obtain ⟨fb, fd, fq, fs, fc⟩ := f
  dsimp only at *
  have hcv : (convert 41 9 (.slice (some ⟨w.heap.size + 2, 0, none⟩) 1 1)).run Try.prog (((w.alloc (.cells #[.string ⟨fb.toArray⟩, .int .i64 fd, .bool fq, .bool fs, .bool fc] 26)).alloc (.cells #[.string ⟨#[]⟩, .int .i64 0, .bool false, .bool false, .bool false] 26)).alloc (.cells #[.int .u8 (b.toNat : Int)] 5)) = .ok (.string ⟨#[b]⟩) (((w.alloc (.cells #[.string ⟨fb.toArray⟩, .int .i64 fd, .bool fq, .bool fs, .bool fc] 26)).alloc (.cells #[.string ⟨#[]⟩, .int .i64 0, .bool false, .bool false, .bool false] 26)).alloc (.cells #[.int .u8 (b.toNat : Int)] 5)) := by
    have := conv_new ((w.alloc (.cells #[.string ⟨fb.toArray⟩, .int .i64 fd, .bool fq, .bool fs, .bool fc] 26)).alloc (.cells #[.string ⟨#[]⟩, .int .i64 0, .bool false, .bool false, .bool false] 26)) b
    simpa using this
  have hct := str_snoc fb b
  subst hc hs hq
  have d0 : (fd == 0) = false := by simpa using hd
  have d3 : decide (3000 < (fb.length : Int) + 1) = false := by simp; omega
  subst hb
  rw [show ((((92 : UInt8).toNat : Nat)) : Int) = 92 from rfl] at *
  go_enter Try.func24, Try.ntmps24
  go_wp2_with fail
  exact bodyPost_ret (v := .tuple #[.agg #[(.string ⟨(fb ++ [92]).toArray⟩), .int .i64 fd, .bool true, .bool true, .bool false], .bool false]) (by simp [results, Try.results24, go_sem]) rfl ⟨rfl, (((Below.refl _ _).alloc (Nat.le_refl _) _).alloc (by simp) _).alloc (by simp; omega) _⟩
set_option maxRecDepth 100000 in
set_option maxHeartbeats 3200000 in
theorem byQ34 (hl : f.buf.length ≤ 3000) (hc : f.c = false) (hd : ¬ f.d = 0) (hlt : f.buf.length < 3000) (hs : f.s = false) (hq : f.q = true) (hb : b = 34) :
    Calls Try.prog 24 #[.agg #[.string ⟨f.buf.toArray⟩, .int .i64 f.d, .bool f.q, .bool f.s, .bool f.c], .int .u8 (b.toNat : Int)] w (ByAns w { f with buf := f.buf ++ [b], q := false } false) := by
  obtain ⟨fb, fd, fq, fs, fc⟩ := f
  dsimp only at *
  have hcv : (convert 41 9 (.slice (some ⟨w.heap.size + 2, 0, none⟩) 1 1)).run Try.prog (((w.alloc (.cells #[.string ⟨fb.toArray⟩, .int .i64 fd, .bool fq, .bool fs, .bool fc] 26)).alloc (.cells #[.string ⟨#[]⟩, .int .i64 0, .bool false, .bool false, .bool false] 26)).alloc (.cells #[.int .u8 (b.toNat : Int)] 5)) = .ok (.string ⟨#[b]⟩) (((w.alloc (.cells #[.string ⟨fb.toArray⟩, .int .i64 fd, .bool fq, .bool fs, .bool fc] 26)).alloc (.cells #[.string ⟨#[]⟩, .int .i64 0, .bool false, .bool false, .bool false] 26)).alloc (.cells #[.int .u8 (b.toNat : Int)] 5)) := by
    have := conv_new ((w.alloc (.cells #[.string ⟨fb.toArray⟩, .int .i64 fd, .bool fq, .bool fs, .bool fc] 26)).alloc (.cells #[.string ⟨#[]⟩, .int .i64 0, .bool false, .bool false, .bool false] 26)) b
    simpa using this
  have hct := str_snoc fb b
  subst hc hs hq
  have d0 : (fd == 0) = false := by simpa using hd
  have d3 : decide (3000 < (fb.length : Int) + 1) = false := by simp; omega
  subst hb
  rw [show ((((34 : UInt8).toNat : Nat)) : Int) = 34 from rfl] at *
  go_enter Try.func24, Try.ntmps24
  go_wp2_with fail
  exact bodyPost_ret (v := .tuple #[.agg #[(.string ⟨(fb ++ [34]).toArray⟩), .int .i64 fd, .bool false, .bool false, .bool false], .bool false]) (by simp [results, Try.results24, go_sem]) rfl ⟨rfl, (((Below.refl _ _).alloc (Nat.le_refl _) _).alloc (by simp) _).alloc (by simp; omega) _⟩
set_option maxRecDepth 100000 in
set_option maxHeartbeats 3200000 in
theorem byQn (hl : f.buf.length ≤ 3000) (hc : f.c = false) (hd : ¬ f.d = 0) (hlt : f.buf.length < 3000) (hs : f.s = false) (hq : f.q = true) (h92 : ¬ b = 92) (h34 : ¬ b = 34) :
    Calls Try.prog 24 #[.agg #[.string ⟨f.buf.toArray⟩, .int .i64 f.d, .bool f.q, .bool f.s, .bool f.c], .int .u8 (b.toNat : Int)] w (ByAns w { f with buf := f.buf ++ [b] } false) := by
  obtain ⟨fb, fd, fq, fs, fc⟩ := f
  dsimp only at *
  have hcv : (convert 41 9 (.slice (some ⟨w.heap.size + 2, 0, none⟩) 1 1)).run Try.prog (((w.alloc (.cells #[.string ⟨fb.toArray⟩, .int .i64 fd, .bool fq, .bool fs, .bool fc] 26)).alloc (.cells #[.string ⟨#[]⟩, .int .i64 0, .bool false, .bool false, .bool false] 26)).alloc (.cells #[.int .u8 (b.toNat : Int)] 5)) = .ok (.string ⟨#[b]⟩) (((w.alloc (.cells #[.string ⟨fb.toArray⟩, .int .i64 fd, .bool fq, .bool fs, .bool fc] 26)).alloc (.cells #[.string ⟨#[]⟩, .int .i64 0, .bool false, .bool false, .bool false] 26)).alloc (.cells #[.int .u8 (b.toNat : Int)] 5)) := by
    have := conv_new ((w.alloc (.cells #[.string ⟨fb.toArray⟩, .int .i64 fd, .bool fq, .bool fs, .bool fc] 26)).alloc (.cells #[.string ⟨#[]⟩, .int .i64 0, .bool false, .bool false, .bool false] 26)) b
    simpa using this
  have hct := str_snoc fb b
  subst hc hs hq
  have d0 : (fd == 0) = false := by simpa using hd
  have d3 : decide (3000 < (fb.length : Int) + 1) = false := by simp; omega
  have e92 := u8_ne h92 92 rfl
  have f92 := u8_ne' h92 92 rfl
  have e34 := u8_ne h34 34 rfl
  have f34 := u8_ne' h34 34 rfl
  go_enter Try.func24, Try.ntmps24
  go_wp2_with fail
  exact bodyPost_ret (v := .tuple #[.agg #[(.string ⟨(fb ++ [b]).toArray⟩), .int .i64 fd, .bool true, .bool false, .bool false], .bool false]) (by simp [results, Try.results24, go_sem]) rfl ⟨rfl, (((Below.refl _ _).alloc (Nat.le_refl _) _).alloc (by simp) _).alloc (by simp; omega) _⟩
set_option maxRecDepth 100000 in
set_option maxHeartbeats 3200000 in
theorem byN34 (hl : f.buf.length ≤ 3000) (hc : f.c = false) (hd : ¬ f.d = 0) (hlt : f.buf.length < 3000) (hs : f.s = false) (hq : f.q = false) (hb : b = 34) :
    Calls Try.prog 24 #[.agg #[.string ⟨f.buf.toArray⟩, .int .i64 f.d, .bool f.q, .bool f.s, .bool f.c], .int .u8 (b.toNat : Int)] w (ByAns w { f with buf := f.buf ++ [b], q := true } false) := by
  obtain ⟨fb, fd, fq, fs, fc⟩ := f
  dsimp only at *
  have hcv : (convert 41 9 (.slice (some ⟨w.heap.size + 2, 0, none⟩) 1 1)).run Try.prog (((w.alloc (.cells #[.string ⟨fb.toArray⟩, .int .i64 fd, .bool fq, .bool fs, .bool fc] 26)).alloc (.cells #[.string ⟨#[]⟩, .int .i64 0, .bool false, .bool false, .bool false] 26)).alloc (.cells #[.int .u8 (b.toNat : Int)] 5)) = .ok (.string ⟨#[b]⟩) (((w.alloc (.cells #[.string ⟨fb.toArray⟩, .int .i64 fd, .bool fq, .bool fs, .bool fc] 26)).alloc (.cells #[.string ⟨#[]⟩, .int .i64 0, .bool false, .bool false, .bool false] 26)).alloc (.cells #[.int .u8 (b.toNat : Int)] 5)) := by
    have := conv_new ((w.alloc (.cells #[.string ⟨fb.toArray⟩, .int .i64 fd, .bool fq, .bool fs, .bool fc] 26)).alloc (.cells #[.string ⟨#[]⟩, .int .i64 0, .bool false, .bool false, .bool false] 26)) b
    simpa using this
  have hct := str_snoc fb b
  subst hc hs hq
  have d0 : (fd == 0) = false := by simpa using hd
  have d3 : decide (3000 < (fb.length : Int) + 1) = false := by simp; omega
  subst hb
  rw [show ((((34 : UInt8).toNat : Nat)) : Int) = 34 from rfl] at *
  go_enter Try.func24, Try.ntmps24
  go_wp2_with fail
  exact bodyPost_ret (v := .tuple #[.agg #[(.string ⟨(fb ++ [34]).toArray⟩), .int .i64 fd, .bool true, .bool false, .bool false], .bool false]) (by simp [results, Try.results24, go_sem]) rfl ⟨rfl, (((Below.refl _ _).alloc (Nat.le_refl _) _).alloc (by simp) _).alloc (by simp; omega) _⟩
set_option maxRecDepth 100000 in
set_option maxHeartbeats 3200000 in
theorem byN123a (hl : f.buf.length ≤ 3000) (hc : f.c = false) (hd : ¬ f.d = 0) (hlt : f.buf.length < 3000) (hs : f.s = false) (hq : f.q = false) (h0 : 0 ≤ f.d) (h12 : f.d + 1 ≤ 12) (hb : b = 123) :
    Calls Try.prog 24 #[.agg #[.string ⟨f.buf.toArray⟩, .int .i64 f.d, .bool f.q, .bool f.s, .bool f.c], .int .u8 (b.toNat : Int)] w (ByAns w { f with buf := f.buf ++ [b], d := f.d + 1 } false) := by
  obtain ⟨fb, fd, fq, fs, fc⟩ := f
  dsimp only at *
  have hcv : (convert 41 9 (.slice (some ⟨w.heap.size + 2, 0, none⟩) 1 1)).run Try.prog (((w.alloc (.cells #[.string ⟨fb.toArray⟩, .int .i64 fd, .bool fq, .bool fs, .bool fc] 26)).alloc (.cells #[.string ⟨#[]⟩, .int .i64 0, .bool false, .bool false, .bool false] 26)).alloc (.cells #[.int .u8 (b.toNat : Int)] 5)) = .ok (.string ⟨#[b]⟩) (((w.alloc (.cells #[.string ⟨fb.toArray⟩, .int .i64 fd, .bool fq, .bool fs, .bool fc] 26)).alloc (.cells #[.string ⟨#[]⟩, .int .i64 0, .bool false, .bool false, .bool false] 26)).alloc (.cells #[.int .u8 (b.toNat : Int)] 5)) := by
    have := conv_new ((w.alloc (.cells #[.string ⟨fb.toArray⟩, .int .i64 fd, .bool fq, .bool fs, .bool fc] 26)).alloc (.cells #[.string ⟨#[]⟩, .int .i64 0, .bool false, .bool false, .bool false] 26)) b
    simpa using this
  have hct := str_snoc fb b
  subst hc hs hq
  have d0 : (fd == 0) = false := by simpa using hd
  have d3 : decide (3000 < (fb.length : Int) + 1) = false := by simp; omega
  have d12 : decide (12 < fd + 1) = false := decide_eq_false (by omega)
  subst hb
  rw [show ((((123 : UInt8).toNat : Nat)) : Int) = 123 from rfl] at *
  go_enter Try.func24, Try.ntmps24
  go_wp2_with fail
  exact bodyPost_ret (v := .tuple #[.agg #[(.string ⟨(fb ++ [123]).toArray⟩), .int .i64 (fd + 1), .bool false, .bool false, .bool false], .bool false]) (by simp [results, Try.results24, go_sem]) rfl ⟨rfl, (((Below.refl _ _).alloc (Nat.le_refl _) _).alloc (by simp) _).alloc (by simp; omega) _⟩
set_option maxRecDepth 100000 in
set_option maxHeartbeats 3200000 in
theorem byN123b (hl : f.buf.length ≤ 3000) (hc : f.c = false) (hd : ¬ f.d = 0) (hlt : f.buf.length < 3000) (hs : f.s = false) (hq : f.q = false) (h0 : 0 ≤ f.d) (h12 : f.d = 12) (hb : b = 123) :
    Calls Try.prog 24 #[.agg #[.string ⟨f.buf.toArray⟩, .int .i64 f.d, .bool f.q, .bool f.s, .bool f.c], .int .u8 (b.toNat : Int)] w (ByAns w frC false) := by
  obtain ⟨fb, fd, fq, fs, fc⟩ := f
  dsimp only at *
  have hcv : (convert 41 9 (.slice (some ⟨w.heap.size + 2, 0, none⟩) 1 1)).run Try.prog (((w.alloc (.cells #[.string ⟨fb.toArray⟩, .int .i64 fd, .bool fq, .bool fs, .bool fc] 26)).alloc (.cells #[.string ⟨#[]⟩, .int .i64 0, .bool false, .bool false, .bool false] 26)).alloc (.cells #[.int .u8 (b.toNat : Int)] 5)) = .ok (.string ⟨#[b]⟩) (((w.alloc (.cells #[.string ⟨fb.toArray⟩, .int .i64 fd, .bool fq, .bool fs, .bool fc] 26)).alloc (.cells #[.string ⟨#[]⟩, .int .i64 0, .bool false, .bool false, .bool false] 26)).alloc (.cells #[.int .u8 (b.toNat : Int)] 5)) := by
    have := conv_new ((w.alloc (.cells #[.string ⟨fb.toArray⟩, .int .i64 fd, .bool fq, .bool fs, .bool fc] 26)).alloc (.cells #[.string ⟨#[]⟩, .int .i64 0, .bool false, .bool false, .bool false] 26)) b
    simpa using this
  have hct := str_snoc fb b
  subst hc hs hq h12
  have d3 : decide (3000 < (fb.length : Int) + 1) = false := by simp; omega
  subst hb
  rw [show ((((123 : UInt8).toNat : Nat)) : Int) = 123 from rfl] at *
  go_enter Try.func24, Try.ntmps24
  go_wp2_with fail
  exact bodyPost_ret (v := .tuple #[.agg #[(.string ⟨#[]⟩), .int .i64 0, .bool false, .bool false, .bool true], .bool false]) (by simp [results, Try.results24, go_sem]) rfl ⟨rfl, (((Below.refl _ _).alloc (Nat.le_refl _) _).alloc (by simp) _).alloc (by simp; omega) _⟩
set_option maxRecDepth 100000 in
set_option maxHeartbeats 3200000 in
theorem byN91a (hl : f.buf.length ≤ 3000) (hc : f.c = false) (hd : ¬ f.d = 0) (hlt : f.buf.length < 3000) (hs : f.s = false) (hq : f.q = false) (h0 : 0 ≤ f.d) (h12 : f.d + 1 ≤ 12) (hb : b = 91) :
    Calls Try.prog 24 #[.agg #[.string ⟨f.buf.toArray⟩, .int .i64 f.d, .bool f.q, .bool f.s, .bool f.c], .int .u8 (b.toNat : Int)] w (ByAns w { f with buf := f.buf ++ [b], d := f.d + 1 } false) := by
  obtain ⟨fb, fd, fq, fs, fc⟩ := f
  dsimp only at *
  have hcv : (convert 41 9 (.slice (some ⟨w.heap.size + 2, 0, none⟩) 1 1)).run Try.prog (((w.alloc (.cells #[.string ⟨fb.toArray⟩, .int .i64 fd, .bool fq, .bool fs, .bool fc] 26)).alloc (.cells #[.string ⟨#[]⟩, .int .i64 0, .bool false, .bool false, .bool false] 26)).alloc (.cells #[.int .u8 (b.toNat : Int)] 5)) = .ok (.string ⟨#[b]⟩) (((w.alloc (.cells #[.string ⟨fb.toArray⟩, .int .i64 fd, .bool fq, .bool fs, .bool fc] 26)).alloc (.cells #[.string ⟨#[]⟩, .int .i64 0, .bool false, .bool false, .bool false] 26)).alloc (.cells #[.int .u8 (b.toNat : Int)] 5)) := by
    have := conv_new ((w.alloc (.cells #[.string ⟨fb.toArray⟩, .int .i64 fd, .bool fq, .bool fs, .bool fc] 26)).alloc (.cells #[.string ⟨#[]⟩, .int .i64 0, .bool false, .bool false, .bool false] 26)) b
    simpa using this
  have hct := str_snoc fb b
  subst hc hs hq
  have d0 : (fd == 0) = false := by simpa using hd
  have d3 : decide (3000 < (fb.length : Int) + 1) = false := by simp; omega
  have d12 : decide (12 < fd + 1) = false := decide_eq_false (by omega)
  subst hb
  rw [show ((((91 : UInt8).toNat : Nat)) : Int) = 91 from rfl] at *
  go_enter Try.func24, Try.ntmps24
  go_wp2_with fail
  exact bodyPost_ret (v := .tuple #[.agg #[(.string ⟨(fb ++ [91]).toArray⟩), .int .i64 (fd + 1), .bool false, .bool false, .bool false], .bool false]) (by simp [results, Try.results24, go_sem]) rfl ⟨rfl, (((Below.refl _ _).alloc (Nat.le_refl _) _).alloc (by simp) _).alloc (by simp; omega) _⟩
set_option maxRecDepth 100000 in
set_option maxHeartbeats 3200000 in
theorem byN91b (hl : f.buf.length ≤ 3000) (hc : f.c = false) (hd : ¬ f.d = 0) (hlt : f.buf.length < 3000) (hs : f.s = false) (hq : f.q = false) (h0 : 0 ≤ f.d) (h12 : f.d = 12) (hb : b = 91) :
    Calls Try.prog 24 #[.agg #[.string ⟨f.buf.toArray⟩, .int .i64 f.d, .bool f.q, .bool f.s, .bool f.c], .int .u8 (b.toNat : Int)] w (ByAns w frC false) := by
  obtain ⟨fb, fd, fq, fs, fc⟩ := f
  dsimp only at *
  have hcv : (convert 41 9 (.slice (some ⟨w.heap.size + 2, 0, none⟩) 1 1)).run Try.prog (((w.alloc (.cells #[.string ⟨fb.toArray⟩, .int .i64 fd, .bool fq, .bool fs, .bool fc] 26)).alloc (.cells #[.string ⟨#[]⟩, .int .i64 0, .bool false, .bool false, .bool false] 26)).alloc (.cells #[.int .u8 (b.toNat : Int)] 5)) = .ok (.string ⟨#[b]⟩) (((w.alloc (.cells #[.string ⟨fb.toArray⟩, .int .i64 fd, .bool fq, .bool fs, .bool fc] 26)).alloc (.cells #[.string ⟨#[]⟩, .int .i64 0, .bool false, .bool false, .bool false] 26)).alloc (.cells #[.int .u8 (b.toNat : Int)] 5)) := by
    have := conv_new ((w.alloc (.cells #[.string ⟨fb.toArray⟩, .int .i64 fd, .bool fq, .bool fs, .bool fc] 26)).alloc (.cells #[.string ⟨#[]⟩, .int .i64 0, .bool false, .bool false, .bool false] 26)) b
    simpa using this
  have hct := str_snoc fb b
  subst hc hs hq h12
  have d3 : decide (3000 < (fb.length : Int) + 1) = false := by simp; omega
  subst hb
  rw [show ((((91 : UInt8).toNat : Nat)) : Int) = 91 from rfl] at *
  go_enter Try.func24, Try.ntmps24
  go_wp2_with fail
  exact bodyPost_ret (v := .tuple #[.agg #[(.string ⟨#[]⟩), .int .i64 0, .bool false, .bool false, .bool true], .bool false]) (by simp [results, Try.results24, go_sem]) rfl ⟨rfl, (((Below.refl _ _).alloc (Nat.le_refl _) _).alloc (by simp) _).alloc (by simp; omega) _⟩
set_option maxRecDepth 100000 in
set_option maxHeartbeats 3200000 in
theorem byN125 (hl : f.buf.length ≤ 3000) (hc : f.c = false) (hd : ¬ f.d = 0) (hlt : f.buf.length < 3000) (hs : f.s = false) (hq : f.q = false) (h0 : 0 ≤ f.d) (h12 : f.d ≤ 12) (hb : b = 125) :
    Calls Try.prog 24 #[.agg #[.string ⟨f.buf.toArray⟩, .int .i64 f.d, .bool f.q, .bool f.s, .bool f.c], .int .u8 (b.toNat : Int)] w (ByAns w { f with buf := f.buf ++ [b], d := f.d - 1 } (decide (f.d - 1 = 0))) := by
  obtain ⟨fb, fd, fq, fs, fc⟩ := f
  dsimp only at *
  have hcv : (convert 41 9 (.slice (some ⟨w.heap.size + 2, 0, none⟩) 1 1)).run Try.prog (((w.alloc (.cells #[.string ⟨fb.toArray⟩, .int .i64 fd, .bool fq, .bool fs, .bool fc] 26)).alloc (.cells #[.string ⟨#[]⟩, .int .i64 0, .bool false, .bool false, .bool false] 26)).alloc (.cells #[.int .u8 (b.toNat : Int)] 5)) = .ok (.string ⟨#[b]⟩) (((w.alloc (.cells #[.string ⟨fb.toArray⟩, .int .i64 fd, .bool fq, .bool fs, .bool fc] 26)).alloc (.cells #[.string ⟨#[]⟩, .int .i64 0, .bool false, .bool false, .bool false] 26)).alloc (.cells #[.int .u8 (b.toNat : Int)] 5)) := by
    have := conv_new ((w.alloc (.cells #[.string ⟨fb.toArray⟩, .int .i64 fd, .bool fq, .bool fs, .bool fc] 26)).alloc (.cells #[.string ⟨#[]⟩, .int .i64 0, .bool false, .bool false, .bool false] 26)) b
    simpa using this
  have hct := str_snoc fb b
  subst hc hs hq
  have d0 : (fd == 0) = false := by simpa using hd
  have d3 : decide (3000 < (fb.length : Int) + 1) = false := by simp; omega
  subst hb
  rw [show ((((125 : UInt8).toNat : Nat)) : Int) = 125 from rfl] at *
  by_cases he : fd - 1 = 0
  · have HE := Lib.hid he
    have dd : (fd - 1 == 0) = true := by simpa using he
    go_enter Try.func24, Try.ntmps24
    go_wp2_with fail
    go_region
    go_wp2_with fail
    exact bodyPost_ret (v := .tuple #[.agg #[.string ⟨(fb ++ [125]).toArray⟩, .int .i64 0, .bool false, .bool false, .bool false], .bool true]) (by simp [results, Try.results24, go_sem]) rfl ⟨by dsimp only; rw [HE.out]; rfl, ((((Below.refl _ _).alloc (Nat.le_refl _) _).alloc (by simp) _).alloc (by simp; omega) _).drew⟩
  · have dd : (fd - 1 == 0) = false := by simpa using he
    have HE : Hid (decide (fd - 1 = 0) = false) := decide_eq_false he
    go_enter Try.func24, Try.ntmps24
    go_wp2_with fail
    go_region
    go_wp2_with fail
    exact bodyPost_ret (v := .tuple #[.agg #[.string ⟨(fb ++ [125]).toArray⟩, .int .i64 (fd - 1), .bool false, .bool false, .bool false], .bool false]) (by simp [results, Try.results24, go_sem]) rfl ⟨by dsimp only; rw [HE.out], ((((Below.refl _ _).alloc (Nat.le_refl _) _).alloc (by simp) _).alloc (by simp; omega) _).drew⟩
set_option maxRecDepth 100000 in
set_option maxHeartbeats 3200000 in
theorem byN93 (hl : f.buf.length ≤ 3000) (hc : f.c = false) (hd : ¬ f.d = 0) (hlt : f.buf.length < 3000) (hs : f.s = false) (hq : f.q = false) (h0 : 0 ≤ f.d) (h12 : f.d ≤ 12) (hb : b = 93) :
    Calls Try.prog 24 #[.agg #[.string ⟨f.buf.toArray⟩, .int .i64 f.d, .bool f.q, .bool f.s, .bool f.c], .int .u8 (b.toNat : Int)] w (ByAns w { f with buf := f.buf ++ [b], d := f.d - 1 } (decide (f.d - 1 = 0))) := by
  obtain ⟨fb, fd, fq, fs, fc⟩ := f
  dsimp only at *
  have hcv : (convert 41 9 (.slice (some ⟨w.heap.size + 2, 0, none⟩) 1 1)).run Try.prog (((w.alloc (.cells #[.string ⟨fb.toArray⟩, .int .i64 fd, .bool fq, .bool fs, .bool fc] 26)).alloc (.cells #[.string ⟨#[]⟩, .int .i64 0, .bool false, .bool false, .bool false] 26)).alloc (.cells #[.int .u8 (b.toNat : Int)] 5)) = .ok (.string ⟨#[b]⟩) (((w.alloc (.cells #[.string ⟨fb.toArray⟩, .int .i64 fd, .bool fq, .bool fs, .bool fc] 26)).alloc (.cells #[.string ⟨#[]⟩, .int .i64 0, .bool false, .bool false, .bool false] 26)).alloc (.cells #[.int .u8 (b.toNat : Int)] 5)) := by
    have := conv_new ((w.alloc (.cells #[.string ⟨fb.toArray⟩, .int .i64 fd, .bool fq, .bool fs, .bool fc] 26)).alloc (.cells #[.string ⟨#[]⟩, .int .i64 0, .bool false, .bool false, .bool false] 26)) b
    simpa using this
  have hct := str_snoc fb b
  subst hc hs hq
  have d0 : (fd == 0) = false := by simpa using hd
  have d3 : decide (3000 < (fb.length : Int) + 1) = false := by simp; omega
  subst hb
  rw [show ((((93 : UInt8).toNat : Nat)) : Int) = 93 from rfl] at *
  by_cases he : fd - 1 = 0
  · have HE := Lib.hid he
    have dd : (fd - 1 == 0) = true := by simpa using he
    go_enter Try.func24, Try.ntmps24
    go_wp2_with fail
    go_region
    go_wp2_with fail
    exact bodyPost_ret (v := .tuple #[.agg #[.string ⟨(fb ++ [93]).toArray⟩, .int .i64 0, .bool false, .bool false, .bool false], .bool true]) (by simp [results, Try.results24, go_sem]) rfl ⟨by dsimp only; rw [HE.out]; rfl, ((((Below.refl _ _).alloc (Nat.le_refl _) _).alloc (by simp) _).alloc (by simp; omega) _).drew⟩
  · have dd : (fd - 1 == 0) = false := by simpa using he
    have HE : Hid (decide (fd - 1 = 0) = false) := decide_eq_false he
    go_enter Try.func24, Try.ntmps24
    go_wp2_with fail
    go_region
    go_wp2_with fail
    exact bodyPost_ret (v := .tuple #[.agg #[.string ⟨(fb ++ [93]).toArray⟩, .int .i64 (fd - 1), .bool false, .bool false, .bool false], .bool false]) (by simp [results, Try.results24, go_sem]) rfl ⟨by dsimp only; rw [HE.out], ((((Below.refl _ _).alloc (Nat.le_refl _) _).alloc (by simp) _).alloc (by simp; omega) _).drew⟩
set_option maxRecDepth 100000 in
set_option maxHeartbeats 3200000 in
theorem byNn (hl : f.buf.length ≤ 3000) (hc : f.c = false) (hd : ¬ f.d = 0) (hlt : f.buf.length < 3000) (hs : f.s = false) (hq : f.q = false) (h34 : ¬ b = 34) (h123 : ¬ b = 123) (h91 : ¬ b = 91) (h125 : ¬ b = 125) (h93 : ¬ b = 93) :
    Calls Try.prog 24 #[.agg #[.string ⟨f.buf.toArray⟩, .int .i64 f.d, .bool f.q, .bool f.s, .bool f.c], .int .u8 (b.toNat : Int)] w (ByAns w { f with buf := f.buf ++ [b] } false) := by
  obtain ⟨fb, fd, fq, fs, fc⟩ := f
  dsimp only at *
  have hcv : (convert 41 9 (.slice (some ⟨w.heap.size + 2, 0, none⟩) 1 1)).run Try.prog (((w.alloc (.cells #[.string ⟨fb.toArray⟩, .int .i64 fd, .bool fq, .bool fs, .bool fc] 26)).alloc (.cells #[.string ⟨#[]⟩, .int .i64 0, .bool false, .bool false, .bool false] 26)).alloc (.cells #[.int .u8 (b.toNat : Int)] 5)) = .ok (.string ⟨#[b]⟩) (((w.alloc (.cells #[.string ⟨fb.toArray⟩, .int .i64 fd, .bool fq, .bool fs, .bool fc] 26)).alloc (.cells #[.string ⟨#[]⟩, .int .i64 0, .bool false, .bool false, .bool false] 26)).alloc (.cells #[.int .u8 (b.toNat : Int)] 5)) := by
    have := conv_new ((w.alloc (.cells #[.string ⟨fb.toArray⟩, .int .i64 fd, .bool fq, .bool fs, .bool fc] 26)).alloc (.cells #[.string ⟨#[]⟩, .int .i64 0, .bool false, .bool false, .bool false] 26)) b
    simpa using this
  have hct := str_snoc fb b
  subst hc hs hq
  have d0 : (fd == 0) = false := by simpa using hd
  have d3 : decide (3000 < (fb.length : Int) + 1) = false := by simp; omega
  have e34 := u8_ne h34 34 rfl
  have f34 := u8_ne' h34 34 rfl
  have e123 := u8_ne h123 123 rfl
  have f123 := u8_ne' h123 123 rfl
  have e91 := u8_ne h91 91 rfl
  have f91 := u8_ne' h91 91 rfl
  have e125 := u8_ne h125 125 rfl
  have f125 := u8_ne' h125 125 rfl
  have e93 := u8_ne h93 93 rfl
  have f93 := u8_ne' h93 93 rfl
  go_enter Try.func24, Try.ntmps24
  go_wp2_with fail
  exact bodyPost_ret (v := .tuple #[.agg #[(.string ⟨(fb ++ [b]).toArray⟩), .int .i64 fd, .bool false, .bool false, .bool false], .bool false]) (by simp [results, Try.results24, go_sem]) rfl ⟨rfl, (((Below.refl _ _).alloc (Nat.le_refl _) _).alloc (by simp) _).alloc (by simp; omega) _⟩
end Go.Proofs.Ytooiejlbnddfmaa
