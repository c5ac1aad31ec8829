/-
  The walk of the law FnExactLeapFrom: it returns true at every list of ints and every two ints; memory that was there stays as it was.
-/
import Derived.Test.YthicdnkngpiccawL4Law
namespace Go.Proofs.Ythicdnkngpiccaw.fnExactLeapFrom
open Go.RowKit L1 L4
set_option linter.unusedVariables false

set_option maxRecDepth 100000 in
set_option maxHeartbeats 2000000 in
theorem walk (a0 : Option Addr) (len0 cap0 : Nat) (z0 : List Int) (a1 a2 : Int) (w : World) (w0 : IsRow .i64 w a0 len0 cap0 z0) (w1 : (Lit.int .i64 a1).wf = true) (w2 : (Lit.int .i64 a2).wf = true) :
    Calls Try.prog 8 #[.slice a0 len0 cap0, .int .i64 a1, .int .i64 a2] w fun e w' => e = .returned (.bool true) ∧ Below w.heap.size w w' := by
  obtain ⟨hs, hn, hm⟩ := sl_of_row w0
  obtain ⟨xs, hxs⟩ : ∃ xs, xs = z0.take len0 := ⟨_, rfl⟩
  rw [← hxs] at hs hn
  have HS := hide hs
  have HN := hide hn
  clear hs hn w0 w1 w2 hxs
  unfold maxLen at hm
  by_cases hsz' : 1048576 < (len0 : Int)
  · go_enter Try.func8, Try.ntmps8
    go_wp2
    go_ret
    exact ⟨rfl, Below.refl _ _⟩
  have hsz : len0 ≤ 1048576 := by omega
  obtain ⟨r, hr⟩ : ∃ r, r = leapRes xs a1 a2 := ⟨_, rfl⟩
  have c1 := fun a cap w hs => specLeapFrom_any a xs len0 cap a1 a2 w HN.out hs hsz r hr
  have c2 := fun a cap w hs => implLeapFrom_any a xs len0 cap a1 a2 w HN.out hs hsz r hr
  obtain ⟨p, hp⟩ : ∃ p : Int, p = ((r.getD 0 : Nat) : Int) := ⟨_, rfl⟩
  obtain ⟨ok, hok⟩ : ∃ ok, ok = r.isSome := ⟨_, rfl⟩
  simp only [leapVal, ← hp, ← hok] at c1 c2
  have C1 := hide c1
  have C2 := hide c2
  clear c1 c2 hr hp hok
  go_enter Try.func8, Try.ntmps8
  go_wp2_with fail
  refine (toIntS_any a0 xs len0 cap0 _ HN.out HS.out hsz).mono ?_
  rintro e w1 ⟨rfl, ho1, hb1⟩
  have S1 := hide (own_slC ho1)
  have B1 := hide hb1
  clear ho1 hb1
  go_wp2_with fail
  refine (C1.out _ _ _ S1.out).mono ?_
  rintro e w2 ⟨rfl, hb2⟩
  have B2 := hide (B1.out.trans (hb2.mono B1.out.size))
  clear hb2 S1 B1
  go_wp2_with fail
  refine (toIntS_any a0 xs len0 cap0 _ HN.out (HS.out.below B2.out) hsz).mono ?_
  rintro e w3 ⟨rfl, ho3, hb3⟩
  have S3 := hide (own_slC ho3)
  have B3 := hide (B2.out.trans (hb3.mono B2.out.size))
  clear ho3 hb3 B2
  go_wp2_with fail
  refine (C2.out _ _ _ S3.out).mono ?_
  rintro e w4 ⟨rfl, hb4⟩
  have S4 := hide (S3.out.below hb4)
  have B4 := hide (B3.out.trans (hb4.mono B3.out.size))
  clear hb4 S3 B3
  go_wp2_with fail
  refine (toIntS_any a0 xs len0 cap0 _ HN.out (HS.out.below B4.out) hsz).mono ?_
  rintro e w5 ⟨rfl, ho5, hb5⟩
  have S5 := hide (own_slI ho5)
  have T5 := hide (S4.out.sl.below hb5)
  have B5 := hide (B4.out.trans (hb5.mono B4.out.size))
  clear ho5 hb5 S4 B4
  go_wp2_with fail
  refine (eqIntS_same _ _ xs len0 _ _ _ HN.out T5.out S5.out hsz).mono ?_
  rintro e w6 ⟨rfl, hb6⟩
  have B6 := hide (B5.out.trans (hb6.mono B5.out.size))
  clear hb6
  go_wp2
  go_ret
  exact ⟨rfl, B6.out⟩
end Go.Proofs.Ythicdnkngpiccaw.fnExactLeapFrom
