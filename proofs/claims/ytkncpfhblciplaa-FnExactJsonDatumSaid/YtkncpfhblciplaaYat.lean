import Derived.Test.YtkncpfhblciplaaYas
namespace Go.Proofs.Ytkncpfhblciplaa
open Go.RowKit
set_option linter.unusedSimpArgs false
set_option maxHeartbeats 1600000 in
theorem putS1 (l : List At) (x : At) (a : Option Addr) (c : Nat) (S : Nat) (w : World) (hl : l.length ≤ 1048576) (hw : S ≤ w.heap.size) (hA : Ats w (· < S) a l) (hh : hasB l x = true) :
    Calls Try.prog 119 #[.slice a l.length c, .agg #[.int .i64 x.k, .int .i64 x.n, .string ⟨x.t.toArray⟩]] w fun e w' => e = .returned (.slice a l.length c) ∧ Below w.heap.size w w' := by
  have HS : Hid (∀ W, Below w.heap.size w W → Calls Try.prog 126 #[.slice a l.length c, .agg #[.int .i64 x.k, .int .i64 x.n, .string ⟨x.t.toArray⟩]] W fun e w' => e = .returned (.bool true) ∧ Below w.heap.size w w') := fun W h => by
    have h1 := hasS l x a c _ W (by unfold maxLen; omega) (hA.below (h.mono hw))
    rw [hh] at h1
    exact h1.mono (fun e w' ⟨he, hb⟩ => ⟨he, h.trans (hb.mono h.size)⟩)
  have hB0 : Hid (Below w.heap.size w (w.alloc (.cells #[.int .i64 x.k, .int .i64 x.n, .string ⟨x.t.toArray⟩] 31))) := (Below.refl _ _).alloc (Nat.le_refl _) _
  clear hA hh
  go_enter Try.func119, Try.ntmps119
  go_wp2_with (go_at_call 126; refine (HS.out _ hB0.out).mono ?_; rintro e w1 ⟨rfl, hB1⟩)
  go_ret
  exact ⟨rfl, hB1⟩
theorem putL_len (l : List At) (x : At) : (putL l x).length ≤ l.length + 1 := by
  unfold putL
  split
  · omega
  · have := posTo_le l x l.length
    unfold posA
    simp; omega
noncomputable def joinL (a b : List At) : List At := b.foldl putL a
theorem join_snoc (a b : List At) (m : Nat) (h : m < b.length) : joinL a (b.take (m + 1)) = putL (joinL a (b.take m)) b[m] := by
  unfold joinL
  rw [List.take_succ_eq_append_getElem h, List.foldl_append]
  rfl
theorem join_len (a : List At) : ∀ b : List At, (joinL a b).length ≤ a.length + b.length := by
  intro b
  induction b generalizing a with
  | nil => simp [joinL]
  | cons x b ih =>
    have h1 := ih (putL a x)
    have h2 := putL_len a x
    unfold joinL at h1 ⊢
    simp only [List.foldl_cons, List.length_cons]
    omega
theorem AI.open {w W : World} {B : Nat} {v : Value} {l : List At} (h : AI w B W v l) : ∃ g c, v = .slice (some ⟨g, 0, none⟩) l.length c ∧ l.length ≤ c ∧ Ats W (· < W.heap.size) (some ⟨g, 0, none⟩) l := by
  obtain ⟨a, c, e, ho⟩ := h.buf.own
  rcases h.buf.2 with ⟨e', -⟩ | ⟨g, cap, cur, rfl, hg, hb, hn, -⟩
  · exact absurd e' h.no
  · injection e with e1 e2 e3
    subst e1
    exact ⟨g, cap, rfl, hn, ho.ats.same (fun _ _ => rfl) (fun b hb => hb.2)⟩
theorem AI.base {w w0 W : World} {B : Nat} {v : Value} {l : List At} (h : AI w0 B W v l) (hb : Below w.heap.size w w0) : AI w B W v l := ⟨h.buf, hb.trans (h.bel.mono hb.size), h.le, Nat.le_trans hb.size h.old, h.no⟩
set_option maxRecDepth 100000 in
set_option maxHeartbeats 3200000 in
theorem joinS (a b : List At) (b1 o1 ca cb : Nat) (pb : Option Addr) (S : Nat) (w : World) (hla : a.length ≤ 500000) (hlb : b.length ≤ 500000) (hw : S ≤ w.heap.size) (hA : Ats w (· < S) (some ⟨b1, o1, none⟩) a) (hB : Ats w (· < S) pb b) :
    Calls Try.prog 107 #[.slice (some ⟨b1, o1, none⟩) a.length ca, .slice pb b.length cb] w fun e w' => ∃ v B, e = .returned v ∧ AI w B w' v (joinL a b) := by
  have HB : Hid (Ats w (· < S) pb b) := hB
  have NA : Hid (∀ W, Below w.heap.size w W → ∀ j u, (atCs a)[j]? = some u → W.cell? ((⟨b1, o1, none⟩ : Addr).add j) = some u) := fun W h => by
    have := news_part (hA.below (h.mono hw)) 0 a.length (by omega)
    simpa using this
  have H0 : Hid (AI w w.heap.size (w.alloc (.cells #[] 31)) (.slice (some ⟨w.heap.size, 0, none⟩) 0 0) []) := AI.first w
  clear hA hB
  go_enter Try.func107, Try.ntmps107
  go_wp2_with (at_builtin; go_must (refine wpList_apush rfl (.tmp 7) (.tmp 8) rfl w.heap.size _ [] a ⟨b1, o1, none⟩ a.length ca rfl rfl rfl H0.out.buf H0.out.le (by simp; omega) H0.out.no (NA.out _ H0.out.bel) ?_; intro v0 w0 hb0 ha0 hn0; have H1 : Hid (AI w w.heap.size w0 v0 a) := (H0.out.push hb0 ha0 hn0).cast (by simp); clear hb0 ha0 hn0))
  go_loopw [5, 6] (fun o i wr => ∃ m : Nat, ∃ vo B, m ≤ b.length ∧ i = .int .i64 m ∧ vo = o ∧ Hid (AI w B wr vo (joinL a (b.take m)))) (fun _ i _ => b.length - (intOf i).toNat)
  case atStart => exact ⟨0, v0, _, Nat.zero_le _, rfl, rfl, H1.out⟩
  case round =>
    obtain ⟨m, vo, B, hm, rfl, rfl, HI⟩ := hrel
    by_cases hlt : m < b.length
    · obtain ⟨b2, o2, rfl, -, c0, c1, c2⟩ := (HB.out.below (HI.out.bel.mono hw)).item m hlt
      obtain ⟨g, c, rfl, hgc, hat⟩ := HI.out.open
      have HN : Hid (joinL a (b.take (m + 1)) = putL (joinL a (b.take m)) b[m]) := join_snoc a b m hlt
      have hjl : (joinL a (b.take m)).length ≤ 1048576 := by
        have h1 := join_len a (b.take m)
        have h2 : (b.take m).length ≤ m := List.length_take_le _ _
        omega
      have hmi : (m : Int) < (b.length : Int) := by omega
      cases hh : hasB (joinL a (b.take m)) b[m]
      · have HP : Hid (Calls Try.prog 119 #[.slice (some ⟨g, 0, none⟩) (joinL a (b.take m)).length c, .agg #[.int .i64 b[m].k, .int .i64 b[m].n, .string ⟨b[m].t.toArray⟩]] wr fun e w' => ∃ v B, e = .returned v ∧ AI w B w' v (joinL a (b.take (m + 1)))) :=
          (putS _ b[m] g 0 c wr.heap.size wr hjl (Nat.le_refl _) hat hgc hh).mono (fun e w' ⟨v, B', he, hai⟩ => ⟨v, B', he, (hai.base HI.out.bel).cast (by rw [HN.out]; unfold putL; rw [hh]; rfl)⟩)
        clear hh hat hjl hgc
        generalize (joinL a (b.take m)).length = n at *
        generalize b[m] = x at *
        go_wp2_with (go_at_call 119; refine HP.out.mono ?_; rintro e w1 ⟨v1, B1, rfl, H2⟩)
        go_roundw
        case rel => exact ⟨m + 1, v1, B1, by omega, by go_num, rfl, H2⟩
        case measure => simp [intOf]; omega
      · have HP : Hid (Calls Try.prog 119 #[.slice (some ⟨g, 0, none⟩) (joinL a (b.take m)).length c, .agg #[.int .i64 b[m].k, .int .i64 b[m].n, .string ⟨b[m].t.toArray⟩]] wr fun e w' => e = .returned (.slice (some ⟨g, 0, none⟩) (joinL a (b.take m)).length c) ∧ AI w B w' (.slice (some ⟨g, 0, none⟩) (joinL a (b.take m)).length c) (joinL a (b.take (m + 1)))) :=
          (putS1 _ b[m] _ c wr.heap.size wr hjl (Nat.le_refl _) hat hh).mono (fun e w' ⟨he, hb⟩ => ⟨he, (HI.out.on hb).cast (by rw [HN.out]; unfold putL; rw [hh]; rfl)⟩)
        clear hh hat hjl hgc HI HN
        generalize (joinL a (b.take m)).length = n at *
        generalize b[m] = x at *
        go_wp2_with (go_at_call 119; refine HP.out.mono ?_; rintro e w1 ⟨rfl, H2⟩)
        go_roundw
        case rel => exact ⟨m + 1, _, B, by omega, by go_num, rfl, H2⟩
        case measure => simp [intOf]; omega
    · have HE : Hid (joinL a (b.take m) = joinL a b) := by show _ = _; rw [List.take_of_length_le (by omega)]
      have hmi : decide ((m : Int) < (b.length : Int)) = false := by simp; omega
      go_wp2_with fail
      go_ret
      exact ⟨vo, B, rfl, HI.out.cast HE.out⟩
end Go.Proofs.Ytkncpfhblciplaa
