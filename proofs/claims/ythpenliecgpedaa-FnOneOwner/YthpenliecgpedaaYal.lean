import Derived.Test.YthpenliecgpedaaYag
import Derived.Test.YthpenliecgpedaaYah
import Derived.Test.YthpenliecgpedaaYak
import Derived.Deep.RegionWith
import Derived.BigQuiet
import Derived.Test.YthpenliecgpedaaYai
import Derived.WalkKit
import Derived.Test.YthpenliecgpedaaYab
import Derived.Test.YthpenliecgpedaaYac
import Derived.Deep.OwnRows
import Derived.Laws.IdiomStrings
import Derived.Deep.MidRow
import Derived.Deep.QuietTactic
namespace Go.Proofs.Ythpenliecgpedaa
open Go.RowKit
set_option linter.unusedSimpArgs false
theorem Rd.toRw {α : Type} {w : World} {B : Nat → Prop} {n : Nat} {d : α → Nat → D} {l : List α} {a : Option Addr} {c : Nat} (h : Rd w B (Ls n d l) (.slice a l.length c)) (hn : 0 < n) (F : Nat → Value) (hF : ∀ i (hi : i < l.length) j u, j < n → Rd w B (d l[i] j) u → u = F (i * n + j)) : Rw w B a (l.length * n) F := by
  by_cases h0 : l.length = 0
  · exact .inl (by rw [h0]; simp)
  obtain ⟨b, off, ha, hb, -⟩ := h.things 0 (by omega)
  subst ha
  refine .inr ⟨b, off, rfl, hb, fun m hm => ?_⟩
  have hi : m / n < l.length := by rw [Nat.div_lt_iff_lt_mul hn]; exact hm
  have hj : m % n < n := Nat.mod_lt _ hn
  obtain ⟨u, hu, hr⟩ := h.spotT hi hj
  rw [Nat.add_assoc, Nat.div_add_mod'] at hu
  rw [hu, hF _ hi _ u hj hr, Nat.div_add_mod']
theorem Rd.ints {w : World} {B : Nat → Prop} {l : List Int} {a : Option Addr} {c : Nat} (h : Rd w B (dIntS l) (.slice a l.length c)) : Ints w B a l := by
  have hr := Rd.toRw (d := cInt) (n := 1) h (by omega) (fun m => .int .i64 (l.getD m 0)) (fun i hi j u hj hr => by
    obtain rfl : j = 0 := by omega
    rw [Nat.mul_one, Nat.add_zero, List.getD_eq_getElem?_getD, List.getElem?_eq_getElem hi]; exact hr)
  rwa [Nat.mul_one] at hr
end Go.Proofs.Ythpenliecgpedaa
