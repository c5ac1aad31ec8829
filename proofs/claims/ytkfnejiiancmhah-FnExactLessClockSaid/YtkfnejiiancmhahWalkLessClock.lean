/-
  The walk of the law FnExactLessClock: it returns true at every two lists of ints; memory that was there stays as it was.
-/
import Derived.Test.YtkfnejiiancmhahL11SLess
import Derived.Test.YtkfnejiiancmhahL1Lists
import Derived.Test.YtkfnejiiancmhahL11Law
namespace Go.Proofs.Ytkfnejiiancmhah.fnExactLessClock
open Go.RowKit L1 L11 Own
set_option linter.unusedVariables false

open Classical in
set_option maxRecDepth 100000 in
set_option maxHeartbeats 4000000 in
theorem walk (a0 : Option Addr) (len0 cap0 : Nat) (z0 : List Int) (a1 : Option Addr) (len1 cap1 : Nat) (z1 : List Int) (w : World) (w0 : IsRow .i64 w a0 len0 cap0 z0) (w1 : IsRow .i64 w a1 len1 cap1 z1) :
    Calls Try.prog 6 #[.slice a0 len0 cap0, .slice a1 len1 cap1] w fun e w' => e = .returned (.bool true) ∧ Below w.heap.size w w' := by
  obtain ⟨hs0, hn0, hm0⟩ := sl_of_row w0
  obtain ⟨xs, hxs⟩ : ∃ xs, xs = z0.take len0 := ⟨_, rfl⟩
  rw [← hxs] at hs0 hn0
  have HSX := hide hs0
  have HNX := hide hn0
  obtain ⟨hs1, hn1, hm1⟩ := sl_of_row w1
  obtain ⟨ys, hys⟩ : ∃ ys, ys = z1.take len1 := ⟨_, rfl⟩
  rw [← hys] at hs1 hn1
  have HSY := hide hs1
  have HNY := hide hn1
  clear w0 w1 hs0 hn0 hs1 hn1 hxs hys
  unfold maxLen at hm0 hm1
  by_cases hsx' : 1048576 < (len0 : Int)
  · go_enter Try.func6, Try.ntmps6
    go_wp2
    go_ret
    exact ⟨rfl, Below.refl _ _⟩
  by_cases hsy' : 1048576 < (len1 : Int)
  · go_enter Try.func6, Try.ntmps6
    go_wp2
    go_ret
    exact ⟨rfl, Below.refl _ _⟩
  have hsx : len0 ≤ 1048576 := by omega
  have hsy : len1 ≤ 1048576 := by omega
  obtain ⟨c, hc⟩ : ∃ c : Bool, c = true ↔ TwoC xs ys := ⟨decide (TwoC xs ys), by simp⟩
  obtain ⟨r, hr⟩ : ∃ r : Bool, r = true ↔ TwoC xs ys ∧ LsC xs ys := ⟨decide (TwoC xs ys ∧ LsC xs ys), by simp⟩
  have C1 := hide (fun a cap b cap2 w hs ht => specLess_any a b xs ys len0 len1 cap cap2 w HNX.out HNY.out hs ht hsx hsy c r hc hr)
  have C2 := hide (fun a cap b cap2 w hs ht => lessClock_any a b xs ys len0 len1 cap cap2 w HNX.out HNY.out hs ht hsx hsy c r hc hr)
  clear hc hr
  go_enter Try.func6, Try.ntmps6
  go_wp2_with fail
  refine (toIntS_any a0 xs len0 cap0 _ HNX.out HSX.out hsx).mono ?_
  rintro e w1 ⟨rfl, ho, hb⟩
  have B_1 := hide hb
  have P0_1 := hide (own_slI ho)
  clear hb  ho
  go_wp2_with fail
  refine (toIntS_any a1 ys len1 cap1 _ HNY.out (HSY.out.below B_1.out) hsy).mono ?_
  rintro e w2 ⟨rfl, ho, hb⟩
  have P0_2 := hide (P0_1.out.below hb)
  have B_2 := hide (B_1.out.trans (hb.mono B_1.out.size))
  have P1_2 := hide (own_slI ho)
  clear hb P0_1 ho
  go_wp2_with fail
  refine (C1.out _ _ _ _ _ P0_2.out P1_2.out).mono ?_
  rintro e w3 ⟨rfl, hb⟩
  clear P0_2
  clear P1_2
  have B_3 := hide (B_2.out.trans (hb.mono B_2.out.size))
  clear hb
  go_wp2_with fail
  refine (toIntS_any a0 xs len0 cap0 _ HNX.out (HSX.out.below B_3.out) hsx).mono ?_
  rintro e w4 ⟨rfl, ho, hb⟩
  have B_4 := hide (B_3.out.trans (hb.mono B_3.out.size))
  have X0_4 := hide (own_slI ho)
  clear hb  ho
  go_wp2_with fail
  refine (toIntS_any a1 ys len1 cap1 _ HNY.out (HSY.out.below B_4.out) hsy).mono ?_
  rintro e w5 ⟨rfl, ho, hb⟩
  have X0_5 := hide (X0_4.out.below hb)
  have B_5 := hide (B_4.out.trans (hb.mono B_4.out.size))
  have X1_5 := hide (own_slI ho)
  clear hb X0_4 ho
  go_wp2_with fail
  refine (C2.out _ _ _ _ _ X0_5.out X1_5.out).mono ?_
  rintro e w6 ⟨rfl, hb⟩
  have X0_6 := hide (X0_5.out.below hb)
  have X1_6 := hide (X1_5.out.below hb)
  have B_6 := hide (B_5.out.trans (hb.mono B_5.out.size))
  clear hb X0_5 X1_5 
  go_wp2_with fail
  refine (toIntS_any a0 xs len0 cap0 _ HNX.out (HSX.out.below B_6.out) hsx).mono ?_
  rintro e w7 ⟨rfl, ho, hb⟩
  have X0_7 := hide (X0_6.out.below hb)
  have X1_7 := hide (X1_6.out.below hb)
  have B_7 := hide (B_6.out.trans (hb.mono B_6.out.size))
  have S_7 := hide (own_slI ho)
  clear hb X0_6 X1_6 ho
  go_wp2_with fail
  refine (eqIntS_same _ _ xs len0 _ _ _ HNX.out X0_7.out S_7.out hsx).mono ?_
  rintro e w8 ⟨rfl, hb⟩
  have X0_8 := hide (X0_7.out.below hb)
  have X1_8 := hide (X1_7.out.below hb)
  have S_8 := hide (S_7.out.below hb)
  have B_8 := hide (B_7.out.trans (hb.mono B_7.out.size))
  clear hb X0_7 X1_7 S_7 
  clear S_8
  go_wp2_with fail
  refine (toIntS_any a1 ys len1 cap1 _ HNY.out (HSY.out.below B_8.out) hsy).mono ?_
  rintro e w9 ⟨rfl, ho, hb⟩
  have X0_9 := hide (X0_8.out.below hb)
  have X1_9 := hide (X1_8.out.below hb)
  have B_9 := hide (B_8.out.trans (hb.mono B_8.out.size))
  have S_9 := hide (own_slI ho)
  clear hb X0_8 X1_8 ho
  go_wp2_with fail
  refine (eqIntS_same _ _ ys len1 _ _ _ HNY.out X1_9.out S_9.out hsy).mono ?_
  rintro e w10 ⟨rfl, hb⟩
  have X0_10 := hide (X0_9.out.below hb)
  have X1_10 := hide (X1_9.out.below hb)
  have S_10 := hide (S_9.out.below hb)
  have B_10 := hide (B_9.out.trans (hb.mono B_9.out.size))
  clear hb X0_9 X1_9 S_9 
  clear S_10
  go_wp2
  go_ret
  exact ⟨rfl, B_10.out⟩
end Go.Proofs.Ytkfnejiiancmhah.fnExactLessClock
