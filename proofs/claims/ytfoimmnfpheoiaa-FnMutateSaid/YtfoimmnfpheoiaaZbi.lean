import Derived.Test.YtfoimmnfpheoiaaZbh
import Derived.Test.YtfoimmnfpheoiaaZao
import Derived.Test.YtfoimmnfpheoiaaZbd
import Derived.Laws.Append
namespace Go.Proofs.Ytfoimmnfpheoiaa
open Go.RowKit
set_option linter.unusedSimpArgs false
theorem mutL_join {c : MutV} {d : List At} (h : c.fn = 6) : mutL c d = some (joinL d c.val) := by unfold mutL; rw [if_pos h]
theorem mutL_minus {c : MutV} {d : List At} (h : c.fn = 7) : mutL c d = some (minusA d c.val) := by unfold mutL; rw [if_neg (by omega), if_pos h]
theorem mutL_num {c : MutV} {d : List At} (h : c.fn ≤ 5) (hn : numO c.fn (val0 c) d = true) : mutL c d = some (numA c.fn (val0 c) d) := by unfold mutL; rw [if_neg (by omega), if_neg (by omega), if_pos hn]
theorem mutL_none {c : MutV} {d : List At} (h : c.fn ≤ 5) (hn : numO c.fn (val0 c) d = false) : mutL c d = none := by unfold mutL; rw [if_neg (by omega), if_neg (by omega), if_neg (by simp [hn])]
def OO (w0 W : World) (a : Option Addr) (o : List At) : Prop := OwnAts W (fun b => w0.heap.size ≤ b ∧ b < W.heap.size) a o ∧ Below w0.heap.size w0 W
theorem OO.later {w0 W W' : World} {a : Option Addr} {o : List At} (h : OO w0 W a o) (hB : Below W.heap.size W W') : OO w0 W' a o := ⟨(h.1.later hB).same (fun _ _ => rfl) (fun _ hb => ⟨hb.1, Nat.lt_of_lt_of_le hb.2 hB.size⟩), h.2.trans (hB.mono h.2.size)⟩
theorem OO.ats {w0 W : World} {a : Option Addr} {o : List At} (h : OO w0 W a o) : Ats W (· < W.heap.size) a o := h.1.ats.same (fun _ _ => rfl) (fun _ hb => hb.2)
theorem OO.ans2 {w w0 W : World} {a : Option Addr} {o : List At} (h : OO w0 W a o) (hb : Below w.heap.size w w0) (cp : Nat) (c : Int) : AAns2 w o c (.returned (.tuple #[.slice a o.length cp, .int .i64 c])) W := ⟨a, cp, rfl, h.1.same (fun _ _ => rfl) (fun _ hb' => ⟨Nat.le_trans hb.size hb'.1, hb'.2⟩), hb.trans (h.2.mono hb.size)⟩
theorem AI.oo {w0 W : World} {B : Nat} {v : Value} {l : List At} (h : AI w0 B W v l) : ∃ a cp, v = .slice a l.length cp ∧ OO w0 W a l := by
  obtain ⟨a, c, e, ho, hB⟩ := h.ans
  exact ⟨a, c, Ending.returned.inj e, ho, hB⟩
end Go.Proofs.Ytfoimmnfpheoiaa
