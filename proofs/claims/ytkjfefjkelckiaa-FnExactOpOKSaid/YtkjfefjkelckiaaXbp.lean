import Derived.Test.YtkjfefjkelckiaaXbe
import Derived.Test.YtkjfefjkelckiaaXbf
import Derived.Test.YtkjfefjkelckiaaXbg
import Derived.Test.YtkjfefjkelckiaaXbh
import Derived.Test.YtkjfefjkelckiaaXbi
import Derived.Test.YtkjfefjkelckiaaXbj
import Derived.Test.YtkjfefjkelckiaaXbk
import Derived.Test.YtkjfefjkelckiaaXbl
import Derived.Test.YtkjfefjkelckiaaXbm
import Derived.Test.YtkjfefjkelckiaaXbn
import Derived.Test.YtkjfefjkelckiaaXbo
namespace Go.Proofs.Ytkjfefjkelckiaa
open Go.RowKit
theorem opOKs (kd : Int) (tb nm : List UInt8) (wh : List CondV) (row : List SetV) (mu : List MutV) (cs : List (List UInt8)) (un : Bool) (a3 : Option Addr) (c3 : Nat) (a4 : Option Addr) (c4 : Nat) (a5 : Option Addr) (c5 : Nat) (a6 : Option Addr) (c6 : Nat) (B : Nat → Prop) (w : World)
    (h1 : tb.length ≤ maxLen) (h2 : nm.length ≤ maxLen) (h3 : (dCondS wh).le maxLen) (h4 : (dSetS row).le maxLen) (h5 : (dMutS mu).le maxLen) (h6 : (dStringS cs).le maxLen)
    (r3 : Rd w B (dCondS wh) (.slice a3 wh.length c3)) (r4 : Rd w B (dSetS row) (.slice a4 row.length c4)) (r5 : Rd w B (dMutS mu) (.slice a5 mu.length c5)) (r6 : Rd w B (dStringS cs) (.slice a6 cs.length c6)) :
    Calls Try.prog 7 #[.agg #[.int .i64 kd, .string ⟨tb.toArray⟩, .string ⟨nm.toArray⟩, .slice a3 wh.length c3, .slice a4 row.length c4, .slice a5 mu.length c5, .slice a6 cs.length c6, .bool un]] w fun e w' => e = .returned (.bool (opB ⟨kd, tb, nm, wh, row, mu, cs, un⟩)) ∧ Below w.heap.size w w' := by
  cases hk : inB 1 kd 10
  case false => exact opOKs_no kd tb nm wh row mu cs un a3 c3 a4 c4 a5 c5 a6 c6 B w hk h3 h4 h5 h6 r3 r4 r5 r6
  have hb : 1 ≤ kd ∧ kd ≤ 10 := by simpa [inB] using hk
  clear hk
  have hc : kd = 1 ∨ kd = 2 ∨ kd = 3 ∨ kd = 4 ∨ kd = 5 ∨ kd = 6 ∨ kd = 7 ∨ kd = 8 ∨ kd = 9 ∨ kd = 10 := by omega
  clear hb
  rcases hc with rfl | rfl | rfl | rfl | rfl | rfl | rfl | rfl | rfl | rfl
  · exact opOKs_1 tb nm wh row mu cs un a3 c3 a4 c4 a5 c5 a6 c6 B w h1 h2 h3 h4 h5 h6 r3 r4 r5 r6
  · exact opOKs_2 tb nm wh row mu cs un a3 c3 a4 c4 a5 c5 a6 c6 B w h1 h2 h3 h4 h5 h6 r3 r4 r5 r6
  · exact opOKs_3 tb nm wh row mu cs un a3 c3 a4 c4 a5 c5 a6 c6 B w h1 h2 h3 h4 h5 h6 r3 r4 r5 r6
  · exact opOKs_4 tb nm wh row mu cs un a3 c3 a4 c4 a5 c5 a6 c6 B w h1 h2 h3 h4 h5 h6 r3 r4 r5 r6
  · exact opOKs_5 tb nm wh row mu cs un a3 c3 a4 c4 a5 c5 a6 c6 B w h1 h2 h3 h4 h5 h6 r3 r4 r5 r6
  · exact opOKs_6 tb nm wh row mu cs un a3 c3 a4 c4 a5 c5 a6 c6 B w h1 h2 h3 h4 h5 h6 r3 r4 r5 r6
  · exact opOKs_7 tb nm wh row mu cs un a3 c3 a4 c4 a5 c5 a6 c6 B w h1 h2 h3 h4 h5 h6 r3 r4 r5 r6
  · exact opOKs_8 tb nm wh row mu cs un a3 c3 a4 c4 a5 c5 a6 c6 B w h1 h2 h3 h4 h5 h6 r3 r4 r5 r6
  · exact opOKs_9 tb nm wh row mu cs un a3 c3 a4 c4 a5 c5 a6 c6 B w h1 h2 h3 h4 h5 h6 r3 r4 r5 r6
  · exact opOKs_10 tb nm wh row mu cs un a3 c3 a4 c4 a5 c5 a6 c6 B w h1 h2 h3 h4 h5 h6 r3 r4 r5 r6
end Go.Proofs.Ytkjfefjkelckiaa
