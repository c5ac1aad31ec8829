/-
  Contract: spec.l5Empty: whether the empty text fits.
-/
import Derived.Test.YtkdiffpbljohkayL5Tree
import Derived.Test.YtkdiffpbljohkayL5Empty
namespace Go.Proofs.Ytkdiffpbljohkay.L5
open Go.RowKit L1 L4
set_option linter.unusedVariables false

set_option maxRecDepth 100000 in
set_option maxHeartbeats 4000000 in
theorem l5Empty_any (S : Nat → Prop) : ∀ (x : Sh) (p : Option Addr) (w : World), Tr w S p x → Calls Try.prog 58 #[.pointer p] w fun e w' => e = .returned (.bool (nul x)) ∧ w = w'
  | .none, p, w, ⟨g, pa, pb, e, _, hf⟩ => by
    subst e
    have c0 := hf.k
    have c2 := hf.a
    have c3 := hf.b
    clear hf
    go_enter Try.func58, Try.ntmps58
    go_wp2
    go_ret
    exact ⟨rfl, rfl⟩
  | .empty, p, w, ⟨g, pa, pb, e, _, hf⟩ => by
    subst e
    have c0 := hf.k
    have c2 := hf.a
    have c3 := hf.b
    clear hf
    go_enter Try.func58, Try.ntmps58
    go_wp2
    go_ret
    exact ⟨rfl, rfl⟩
  | .letter c, p, w, ⟨g, pa, pb, e, _, hf⟩ => by
    subst e
    have c0 := hf.k
    have c2 := hf.a
    have c3 := hf.b
    clear hf
    go_enter Try.func58, Try.ntmps58
    go_wp2
    go_ret
    exact ⟨rfl, rfl⟩
  | .any, p, w, ⟨g, pa, pb, e, _, hf⟩ => by
    subst e
    have c0 := hf.k
    have c2 := hf.a
    have c3 := hf.b
    clear hf
    go_enter Try.func58, Try.ntmps58
    go_wp2
    go_ret
    exact ⟨rfl, rfl⟩
  | .seq a b, p, w, ⟨g, pa, pb, e, _, hf, ha, hb⟩ => by
    subst e
    have c0 := hf.k
    have c2 := hf.a
    have c3 := hf.b
    have IA := hide (l5Empty_any S a pa w ha)
    have IB := hide (l5Empty_any S b pb w hb)
    clear hf ha hb
    cases hn : nul a with
    | true =>
      have HA := hide hn
      clear hn
      go_enter Try.func58, Try.ntmps58
      go_wp2_with fail
      refine IA.out.mono ?_
      rintro e w1 ⟨rfl, rfl⟩
      rw [HA.out]
      go_wp2_with fail
      refine IB.out.mono ?_
      rintro e w2 ⟨rfl, rfl⟩
      go_wp2
      go_ret
      exact ⟨ret_boolE (by simp [nul, HA.out]), rfl⟩
    | false =>
      have HA := hide hn
      clear hn
      go_enter Try.func58, Try.ntmps58
      go_wp2_with fail
      refine IA.out.mono ?_
      rintro e w1 ⟨rfl, rfl⟩
      rw [HA.out]
      go_wp2
      go_ret
      exact ⟨ret_boolE (by simp [nul, HA.out]), rfl⟩
  | .alt a b, p, w, ⟨g, pa, pb, e, _, hf, ha, hb⟩ => by
    subst e
    have c0 := hf.k
    have c2 := hf.a
    have c3 := hf.b
    have IA := hide (l5Empty_any S a pa w ha)
    have IB := hide (l5Empty_any S b pb w hb)
    clear hf ha hb
    cases hn : nul a with
    | false =>
      have HA := hide hn
      clear hn
      go_enter Try.func58, Try.ntmps58
      go_wp2_with fail
      refine IA.out.mono ?_
      rintro e w1 ⟨rfl, rfl⟩
      rw [HA.out]
      go_wp2_with fail
      refine IB.out.mono ?_
      rintro e w2 ⟨rfl, rfl⟩
      go_wp2
      go_ret
      exact ⟨ret_boolE (by simp [nul, HA.out]), rfl⟩
    | true =>
      have HA := hide hn
      clear hn
      go_enter Try.func58, Try.ntmps58
      go_wp2_with fail
      refine IA.out.mono ?_
      rintro e w1 ⟨rfl, rfl⟩
      rw [HA.out]
      go_wp2
      go_ret
      exact ⟨ret_boolE (by simp [nul, HA.out]), rfl⟩
  | .many a, p, w, ⟨g, pa, pb, e, _, hf, ha⟩ => by
    subst e
    have c0 := hf.k
    have c2 := hf.a
    have c3 := hf.b
    clear hf
    go_enter Try.func58, Try.ntmps58
    go_wp2
    go_ret
    exact ⟨rfl, rfl⟩
  | .inv a, p, w, ⟨g, pa, pb, e, _, hf, ha⟩ => by
    subst e
    have c0 := hf.k
    have c2 := hf.a
    have c3 := hf.b
    have IA := hide (l5Empty_any S a pa w ha)
    clear hf ha
    go_enter Try.func58, Try.ntmps58
    go_wp2_with fail
    refine IA.out.mono ?_
    rintro e w1 ⟨rfl, rfl⟩
    go_wp2
    go_ret
    exact ⟨rfl, rfl⟩
end Go.Proofs.Ytkdiffpbljohkay.L5
