/-
  The walk of the law FnExactIsOverlap: it returns true at every int and two lists of ints; memory that was there stays as it was.
-/
import Derived.Test.YtapffbbmofhpobdL8SOver
import Derived.Test.YtapffbbmofhpobdL1Lists
namespace Go.Proofs.Ytapffbbmofhpobd.fnExactIsOverlap
open Go.RowKit L1 L4 L8
set_option linter.unusedVariables false

theorem eqIntS_C (a b : Option Addr) (xs : List Int) (n c1 c2 : Nat) (w : World) (hn : xs.length = n) (ha : SlC w a n c1 xs) (hb : SlC w b n c2 xs) (hn2 : n ≤ 1048576) :
    Calls Try.prog 9 #[.slice a n c1, .slice b n c2] w fun e w' => e = .returned (.bool true) ∧ Below w.heap.size w w' := eqIntS_same a b xs n c1 c2 w hn ha.sl hb.sl hn2

set_option maxRecDepth 100000 in
set_option maxHeartbeats 4000000 in
theorem walk (N : Int) (a0 : Option Addr) (len0 cap0 : Nat) (z0 : List Int) (a1 : Option Addr) (len1 cap1 : Nat) (z1 : List Int) (w : World) (wN : (Lit.int .i64 N).wf = true) (w0 : IsRow .i64 w a0 len0 cap0 z0) (w1 : IsRow .i64 w a1 len1 cap1 z1) :
    Calls Try.prog 3 #[.int .i64 N, .slice a0 len0 cap0, .slice a1 len1 cap1] w fun e w' => e = .returned (.bool true) ∧ Below w.heap.size w w' := by
  obtain ⟨hs0, hn0, hm0⟩ := sl_of_row w0
  obtain ⟨xs, hxs⟩ : ∃ xs, xs = z0.take len0 := ⟨_, rfl⟩
  rw [← hxs] at hs0 hn0
  have HSX := hide hs0
  have HNX := hide hn0
  obtain ⟨hs1, hn1, hm1⟩ := sl_of_row w1
  obtain ⟨ys, hys⟩ : ∃ ys, ys = z1.take len1 := ⟨_, rfl⟩
  rw [← hys] at hs1 hn1
  have HSY := hide hs1
  have HNY := hide hn1
  clear w0 w1 hs0 hn0 hs1 hn1 hxs hys wN
  unfold maxLen at hm0 hm1
  by_cases hsx' : 1048576 < (len0 : Int)
  · go_enter Try.func3, Try.ntmps3
    go_wp2
    go_ret
    exact ⟨rfl, Below.refl _ _⟩
  by_cases hsy' : 1048576 < (len1 : Int)
  · go_enter Try.func3, Try.ntmps3
    go_wp2
    go_ret
    exact ⟨rfl, Below.refl _ _⟩
  have hsx : len0 ≤ 1048576 := by omega
  have hsy : len1 ≤ 1048576 := by omega
  obtain ⟨r1, hr1⟩ : ∃ r1 : Bool, r1 = true ↔ OvC N xs ys := by
    by_cases h : OvC N xs ys
    · exact ⟨true, by simp [h]⟩
    · exact ⟨false, by simp [h]⟩
  obtain ⟨r0, hr0⟩ : ∃ r0 : Bool, r0 = true ↔ OvC N xs ys ∧ ∃ x ∈ xs, x ∈ ys := by
    by_cases h : OvC N xs ys ∧ ∃ x ∈ xs, x ∈ ys
    · exact ⟨true, ⟨fun _ => h, fun _ => rfl⟩⟩
    · exact ⟨false, ⟨(fun e => by cases e), fun h' => absurd h' h⟩⟩
  have C1 := hide (fun a cap b cap2 w hs ht => specIsOverlap_any N a xs len0 cap b ys len1 cap2 w HNX.out hs hsx HNY.out ht hsy r0 r1 hr1 hr0)
  have C2 := hide (fun a cap b cap2 w hs ht => isOverlap_any N a xs len0 cap b ys len1 cap2 w HNX.out hs hsx HNY.out ht hsy r0 r1 hr1 hr0)
  clear hr1 hr0
  go_enter Try.func3, Try.ntmps3
  go_wp2_with fail
  refine (toIntS_any a0 xs len0 cap0 _ HNX.out HSX.out hsx).mono ?_
  rintro e w1 ⟨rfl, ho, hb⟩
  have B_1 := hide hb
  have P0_1 := hide (own_slC ho)
  clear hb ho
  go_wp2_with fail
  refine (toIntS_any a1 ys len1 cap1 _ HNY.out (HSY.out.below B_1.out) hsy).mono ?_
  rintro e w2 ⟨rfl, ho, hb⟩
  have P0_2 := hide (P0_1.out.below hb)
  have B_2 := hide (B_1.out.trans (hb.mono B_1.out.size))
  have P1_2 := hide (own_slC ho)
  clear hb P0_1 ho
  go_wp2_with fail
  refine (C1.out _ _ _ _ _ P0_2.out P1_2.out).mono ?_
  rintro e w3 ⟨rfl, hb⟩
  have B_3 := hide (B_2.out.trans (hb.mono B_2.out.size))
  clear hb P0_2 P1_2
  go_wp2_with fail
  refine (toIntS_any a0 xs len0 cap0 _ HNX.out (HSX.out.below B_3.out) hsx).mono ?_
  rintro e w4 ⟨rfl, ho, hb⟩
  have B_4 := hide (B_3.out.trans (hb.mono B_3.out.size))
  have X0_4 := hide (own_slC ho)
  clear hb ho
  go_wp2_with fail
  refine (toIntS_any a1 ys len1 cap1 _ HNY.out (HSY.out.below B_4.out) hsy).mono ?_
  rintro e w5 ⟨rfl, ho, hb⟩
  have X0_5 := hide (X0_4.out.below hb)
  have B_5 := hide (B_4.out.trans (hb.mono B_4.out.size))
  have X1_5 := hide (own_slC ho)
  clear hb X0_4 ho
  go_wp2_with fail
  refine (C2.out _ _ _ _ _ X0_5.out X1_5.out).mono ?_
  rintro e w6 ⟨rfl, hb⟩
  have X0_6 := hide (X0_5.out.below hb)
  have X1_6 := hide (X1_5.out.below hb)
  have B_6 := hide (B_5.out.trans (hb.mono B_5.out.size))
  clear hb X0_5 X1_5
  go_wp2_with fail
  refine (toIntS_any a0 xs len0 cap0 _ HNX.out (HSX.out.below B_6.out) hsx).mono ?_
  rintro e w7 ⟨rfl, ho, hb⟩
  have X0_7 := hide (X0_6.out.below hb)
  have X1_7 := hide (X1_6.out.below hb)
  have B_7 := hide (B_6.out.trans (hb.mono B_6.out.size))
  have S_7 := hide (own_slC ho)
  clear hb X0_6 X1_6 ho
  go_wp2_with fail
  refine (eqIntS_C _ _ xs len0 _ _ _ HNX.out X0_7.out S_7.out hsx).mono ?_
  rintro e w8 ⟨rfl, hb⟩
  have X1_8 := hide (X1_7.out.below hb)
  have B_8 := hide (B_7.out.trans (hb.mono B_7.out.size))
  clear hb X0_7 X1_7 S_7
  go_wp2_with fail
  refine (toIntS_any a1 ys len1 cap1 _ HNY.out (HSY.out.below B_8.out) hsy).mono ?_
  rintro e w9 ⟨rfl, ho, hb⟩
  have X1_9 := hide (X1_8.out.below hb)
  have B_9 := hide (B_8.out.trans (hb.mono B_8.out.size))
  have S_9 := hide (own_slC ho)
  clear hb X1_8 ho
  go_wp2_with fail
  refine (eqIntS_C _ _ ys len1 _ _ _ HNY.out X1_9.out S_9.out hsy).mono ?_
  rintro e w10 ⟨rfl, hb⟩
  have B_10 := hide (B_9.out.trans (hb.mono B_9.out.size))
  clear hb X1_9 S_9
  go_wp2
  go_ret
  exact ⟨rfl, B_10.out⟩
end Go.Proofs.Ytapffbbmofhpobd.fnExactIsOverlap
