/-
  Contracts: spec.l5Empty, spec.HasEmpty, impl.HasEmpty: whether the empty text fits.
-/
import Derived.Test.YtkdiffpbljohkaxL5Tree
import Derived.Test.YtkdiffpbljohkaxL5Empty
import Derived.Test.YtkdiffpbljohkaxL5ShapeOf
import Derived.Test.YtkdiffpbljohkaxL5SpecGood
namespace Go.Proofs.Ytkdiffpbljohkax.L5
open Go.RowKit L1 L4
set_option linter.unusedVariables false

set_option maxRecDepth 100000 in
set_option maxHeartbeats 4000000 in
theorem l5Empty_any (S : Nat → Prop) : ∀ (x : Sh) (p : Option Addr) (w : World), Tr w S p x → Calls Try.prog 65 #[.pointer p] w fun e w' => e = .returned (.bool (nul x)) ∧ w = w'
  | .none, p, w, ⟨g, pa, pb, e, _, hf⟩ => by
    subst e
    have c0 := hf.k
    have c2 := hf.a
    have c3 := hf.b
    clear hf
    go_enter Try.func65, Try.ntmps65
    go_wp2
    go_ret
    exact ⟨rfl, rfl⟩
  | .empty, p, w, ⟨g, pa, pb, e, _, hf⟩ => by
    subst e
    have c0 := hf.k
    have c2 := hf.a
    have c3 := hf.b
    clear hf
    go_enter Try.func65, Try.ntmps65
    go_wp2
    go_ret
    exact ⟨rfl, rfl⟩
  | .letter c, p, w, ⟨g, pa, pb, e, _, hf⟩ => by
    subst e
    have c0 := hf.k
    have c2 := hf.a
    have c3 := hf.b
    clear hf
    go_enter Try.func65, Try.ntmps65
    go_wp2
    go_ret
    exact ⟨rfl, rfl⟩
  | .any, p, w, ⟨g, pa, pb, e, _, hf⟩ => by
    subst e
    have c0 := hf.k
    have c2 := hf.a
    have c3 := hf.b
    clear hf
    go_enter Try.func65, Try.ntmps65
    go_wp2
    go_ret
    exact ⟨rfl, rfl⟩
  | .seq a b, p, w, ⟨g, pa, pb, e, _, hf, ha, hb⟩ => by
    subst e
    have c0 := hf.k
    have c2 := hf.a
    have c3 := hf.b
    have IA := hide (l5Empty_any S a pa w ha)
    have IB := hide (l5Empty_any S b pb w hb)
    clear hf ha hb
    cases hn : nul a with
    | true =>
      have HA := hide hn
      clear hn
      go_enter Try.func65, Try.ntmps65
      go_wp2_with fail
      refine IA.out.mono ?_
      rintro e w1 ⟨rfl, rfl⟩
      rw [HA.out]
      go_wp2_with fail
      refine IB.out.mono ?_
      rintro e w2 ⟨rfl, rfl⟩
      go_wp2
      go_ret
      exact ⟨ret_boolE (by simp [nul, HA.out]), rfl⟩
    | false =>
      have HA := hide hn
      clear hn
      go_enter Try.func65, Try.ntmps65
      go_wp2_with fail
      refine IA.out.mono ?_
      rintro e w1 ⟨rfl, rfl⟩
      rw [HA.out]
      go_wp2
      go_ret
      exact ⟨ret_boolE (by simp [nul, HA.out]), rfl⟩
  | .alt a b, p, w, ⟨g, pa, pb, e, _, hf, ha, hb⟩ => by
    subst e
    have c0 := hf.k
    have c2 := hf.a
    have c3 := hf.b
    have IA := hide (l5Empty_any S a pa w ha)
    have IB := hide (l5Empty_any S b pb w hb)
    clear hf ha hb
    cases hn : nul a with
    | false =>
      have HA := hide hn
      clear hn
      go_enter Try.func65, Try.ntmps65
      go_wp2_with fail
      refine IA.out.mono ?_
      rintro e w1 ⟨rfl, rfl⟩
      rw [HA.out]
      go_wp2_with fail
      refine IB.out.mono ?_
      rintro e w2 ⟨rfl, rfl⟩
      go_wp2
      go_ret
      exact ⟨ret_boolE (by simp [nul, HA.out]), rfl⟩
    | true =>
      have HA := hide hn
      clear hn
      go_enter Try.func65, Try.ntmps65
      go_wp2_with fail
      refine IA.out.mono ?_
      rintro e w1 ⟨rfl, rfl⟩
      rw [HA.out]
      go_wp2
      go_ret
      exact ⟨ret_boolE (by simp [nul, HA.out]), rfl⟩
  | .many a, p, w, ⟨g, pa, pb, e, _, hf, ha⟩ => by
    subst e
    have c0 := hf.k
    have c2 := hf.a
    have c3 := hf.b
    clear hf
    go_enter Try.func65, Try.ntmps65
    go_wp2
    go_ret
    exact ⟨rfl, rfl⟩
  | .inv a, p, w, ⟨g, pa, pb, e, _, hf, ha⟩ => by
    subst e
    have c0 := hf.k
    have c2 := hf.a
    have c3 := hf.b
    have IA := hide (l5Empty_any S a pa w ha)
    clear hf ha
    go_enter Try.func65, Try.ntmps65
    go_wp2_with fail
    refine IA.out.mono ?_
    rintro e w1 ⟨rfl, rfl⟩
    go_wp2
    go_ret
    exact ⟨rfl, rfl⟩
open Classical in
set_option maxRecDepth 100000 in
set_option maxHeartbeats 2000000 in
theorem specHasEmpty_any (a : Option Addr) (l : List Pr) (n cap : Nat) (w : World) (hn : l.length = n) (hs : SlP w a l) (hn2 : n ≤ 1048576) (hst : TxP l) (b1 b2 : Bool) (h2 : b2 = true ↔ GoodF l) (h1 : b1 = (b2 && nul (whole l))) :
    Calls Try.prog 36 #[.slice a n cap] w fun e w' => e = .returned (.tuple #[.bool b1, .bool b2]) ∧ Below w.heap.size w w' := by
  have C1 := hide (specGoodForm_any a l n cap w hn hs hn2 hst b2 h2)
  by_cases hg : GoodF l
  · obtain rfl : b2 = true := h2.2 hg
    have C2 := hide (fun w hs => l5Tree_whole a l n cap w hn hg hs)
    have HS := hide hs
    simp only [Bool.true_and] at h1
    have H1 := hide h1
    have hnI : (1 : Int) ≤ (n : Int) := by have := hg.1; omega
    clear hn hs hst h2 h1 hg
    go_enter Try.func36, Try.ntmps36
    go_wp2_with fail
    refine C1.out.mono ?_
    rintro e w1 ⟨rfl, hb1⟩
    have B1 := hide hb1
    clear hb1
    go_wp2_with fail
    refine (C2.out _ (HS.out.below B1.out)).mono ?_
    rintro e w2 ⟨p, rfl, ht, hb2⟩
    have B2 := hide (B1.out.trans (hb2.mono B1.out.size))
    have C3 := hide (l5Empty_any _ _ _ _ ht)
    clear hb2 ht
    go_wp2_with fail
    refine C3.out.mono ?_
    rintro e w3 ⟨rfl, rfl⟩
    have B3 := hide B2.out
    go_wp2
    go_ret2
    exact ⟨by rw [H1.out]; rfl, B3.out⟩
  · obtain rfl : b2 = false := bool_noT h2 hg
    simp only [Bool.false_and] at h1
    subst h1
    clear hn hs hst h2 hg
    go_enter Try.func36, Try.ntmps36
    go_wp2_with fail
    refine C1.out.mono ?_
    rintro e w1 ⟨rfl, hb1⟩
    go_wp2
    go_ret2
    exact ⟨rfl, hb1⟩
open Classical in
set_option maxRecDepth 100000 in
set_option maxHeartbeats 2000000 in
theorem implHasEmpty_any (a : Option Addr) (l : List Pr) (n cap : Nat) (w : World) (hn : l.length = n) (hs : SlP w a l) (hn2 : n ≤ 1048576) (hst : TxP l) (b1 b2 : Bool) (h2 : b2 = true ↔ GoodF l) (h1 : b1 = (b2 && nul (whole l))) :
    Calls Try.prog 37 #[.slice a n cap] w fun e w' => e = .returned (.tuple #[.bool b1, .bool b2]) ∧ Below w.heap.size w w' := by
  have C1 := hide (goodForm_any a l n cap w hn hs hn2 hst b2 h2)
  by_cases hg : GoodF l
  · obtain rfl : b2 = true := h2.2 hg
    have C2 := hide (fun w hs => shapeOf_any a l n cap w hn hs hg)
    have HS := hide hs
    simp only [Bool.true_and] at h1
    have H1 := hide h1
    have hnI : (1 : Int) ≤ (n : Int) := by have := hg.1; omega
    clear hn hs hst h2 h1 hg
    go_enter Try.func37, Try.ntmps37
    go_wp2_with fail
    refine C1.out.mono ?_
    rintro e w1 ⟨rfl, hb1⟩
    have B1 := hide hb1
    clear hb1
    go_wp2_with fail
    refine (C2.out _ (HS.out.below B1.out)).mono ?_
    rintro e w2 ⟨rfl, hb2⟩
    have B2 := hide (B1.out.trans (hb2.mono B1.out.size))
    clear hb2
    go_wp2_with fail
    refine (hasEmpty_any _ _).mono ?_
    rintro e w3 ⟨rfl, hb3⟩
    have B3 := hide (B2.out.trans (hb3.mono B2.out.size))
    clear hb3
    go_wp2
    go_ret2
    exact ⟨by rw [H1.out]; rfl, B3.out⟩
  · obtain rfl : b2 = false := bool_noT h2 hg
    simp only [Bool.false_and] at h1
    subst h1
    clear hn hs hst h2 hg
    go_enter Try.func37, Try.ntmps37
    go_wp2_with fail
    refine C1.out.mono ?_
    rintro e w1 ⟨rfl, hb1⟩
    go_wp2
    go_ret2
    exact ⟨rfl, hb1⟩
end Go.Proofs.Ytkdiffpbljohkax.L5
