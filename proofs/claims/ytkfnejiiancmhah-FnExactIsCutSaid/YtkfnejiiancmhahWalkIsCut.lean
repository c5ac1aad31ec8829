/-
  The walk of the law FnExactIsCut: it returns true at every int, every list of events and every list of ints; memory that was there stays as it was.
-/
import Derived.Test.YtkfnejiiancmhahL11SIsCut
import Derived.Test.YtkfnejiiancmhahL11EvLists
import Derived.Test.YtkfnejiiancmhahL1Lists
import Derived.Test.YtkfnejiiancmhahL11Law
namespace Go.Proofs.Ytkfnejiiancmhah.fnExactIsCut
open Go.RowKit L1 L11 Own
set_option linter.unusedVariables false

open Classical in
set_option maxRecDepth 100000 in
set_option maxHeartbeats 4000000 in
theorem walk (a0 : Int) (a1 : Option Addr) (len1 cap1 : Nat) (z1 : List (Int × Int)) (a2 : Option Addr) (len2 cap2 : Nat) (z2 : List Int) (w : World) (w0 : (Lit.int .i64 a0).wf = true) (w1 : IsRow2 w a1 len1 z1) (w2 : IsRow .i64 w a2 len2 cap2 z2) :
    Calls Try.prog 8 #[.int .i64 a0, .slice a1 len1 cap1, .slice a2 len2 cap2] w fun e w' => e = .returned (.bool true) ∧ Below w.heap.size w w' := by
  obtain ⟨hn, hm, hs⟩ := w1
  have HS := hide hs
  have HN := hide hn
  clear hs hn
  unfold maxLen at hm
  obtain ⟨hs2, hn2, hm2⟩ := sl_of_row w2
  obtain ⟨us, hus⟩ : ∃ us, us = z2.take len2 := ⟨_, rfl⟩
  rw [← hus] at hs2 hn2
  have HSU := hide hs2
  have HNU := hide hn2
  clear w2 hs2 hn2 hus
  unfold maxLen at hm2
  by_cases hsu' : 1048576 < (len2 : Int)
  · clear HS HN HSU HNU
    go_enter Try.func8, Try.ntmps8
    go_wp2
    go_ret
    exact ⟨rfl, Below.refl _ _⟩
  have hsu : len2 ≤ 1048576 := by omega
  by_cases hsz : len1 ≤ 1048576
  · have C0 := hide (szEventS_in a1 len1 cap1 w hsz)
    have hk0 : ¬ (1048576 - (len1 : Int)) < 0 := by omega
    obtain ⟨c, hc⟩ : ∃ c : Bool, c = true ↔ CutOk a0 z1 us := ⟨decide (CutOk a0 z1 us), by simp⟩
    obtain ⟨r, hr⟩ : ∃ r : Bool, r = true ↔ CutOk a0 z1 us ∧ ClS z1 (uI us) := ⟨decide (CutOk a0 z1 us ∧ ClS z1 (uI us)), by simp⟩
    have C1 := hide (fun a cap b cap2 w hs ht => specIsCut_any a0 a b z1 us len1 len2 cap cap2 w HN.out HNU.out hs ht hsz (bounds_i64 w0).2 hsu c r hc hr)
    have C2 := hide (fun a cap b cap2 w hs ht => isCut_any a0 a b z1 us len1 len2 cap cap2 w HN.out HNU.out hs ht hsz hsu c r hc hr)
    clear hc hr w0
    go_enter Try.func8, Try.ntmps8
    go_wp2_with fail
    refine C0.out.mono ?_
    rintro e w1 ⟨rfl, rfl⟩
    go_wp2_with fail
    refine (toEventS_any a1 z1 len1 cap1 _ HN.out HS.out hsz).mono ?_
    rintro e w1 ⟨rfl, ho, hb⟩
    have B_1 := hide hb
    have P0_1 := hide (own_sl2 ho)
    clear hb  ho
    go_wp2_with fail
    refine (toIntS_any a2 us len2 cap2 _ HNU.out (HSU.out.below B_1.out) hsu).mono ?_
    rintro e w2 ⟨rfl, ho, hb⟩
    have P0_2 := hide (P0_1.out.below hb)
    have B_2 := hide (B_1.out.trans (hb.mono B_1.out.size))
    have P1_2 := hide (own_slI ho)
    clear hb P0_1 ho
    go_wp2_with fail
    refine (C1.out _ _ _ _ _ P0_2.out P1_2.out).mono ?_
    rintro e w3 ⟨rfl, hb⟩
    clear P0_2
    clear P1_2
    have B_3 := hide (B_2.out.trans (hb.mono B_2.out.size))
    clear hb
    go_wp2_with fail
    refine (toEventS_any a1 z1 len1 cap1 _ HN.out (HS.out.below B_3.out) hsz).mono ?_
    rintro e w4 ⟨rfl, ho, hb⟩
    have B_4 := hide (B_3.out.trans (hb.mono B_3.out.size))
    have X0_4 := hide (own_sl2 ho)
    clear hb  ho
    go_wp2_with fail
    refine (toIntS_any a2 us len2 cap2 _ HNU.out (HSU.out.below B_4.out) hsu).mono ?_
    rintro e w5 ⟨rfl, ho, hb⟩
    have X0_5 := hide (X0_4.out.below hb)
    have B_5 := hide (B_4.out.trans (hb.mono B_4.out.size))
    have X1_5 := hide (own_slI ho)
    clear hb X0_4 ho
    go_wp2_with fail
    refine (C2.out _ _ _ _ _ X0_5.out X1_5.out).mono ?_
    rintro e w6 ⟨rfl, hb⟩
    have X0_6 := hide (X0_5.out.below hb)
    have X1_6 := hide (X1_5.out.below hb)
    have B_6 := hide (B_5.out.trans (hb.mono B_5.out.size))
    clear hb X0_5 X1_5 
    go_wp2_with fail
    refine (toEventS_any a1 z1 len1 cap1 _ HN.out (HS.out.below B_6.out) hsz).mono ?_
    rintro e w7 ⟨rfl, ho, hb⟩
    have X0_7 := hide (X0_6.out.below hb)
    have X1_7 := hide (X1_6.out.below hb)
    have B_7 := hide (B_6.out.trans (hb.mono B_6.out.size))
    have S_7 := hide (own_sl2 ho)
    clear hb X0_6 X1_6 ho
    go_wp2_with fail
    refine (eqEventS_same _ _ z1 len1 _ _ _ HN.out X0_7.out S_7.out hsz).mono ?_
    rintro e w8 ⟨rfl, hb⟩
    have X0_8 := hide (X0_7.out.below hb)
    have X1_8 := hide (X1_7.out.below hb)
    have S_8 := hide (S_7.out.below hb)
    have B_8 := hide (B_7.out.trans (hb.mono B_7.out.size))
    clear hb X0_7 X1_7 S_7 
    clear S_8
    go_wp2_with fail
    refine (toIntS_any a2 us len2 cap2 _ HNU.out (HSU.out.below B_8.out) hsu).mono ?_
    rintro e w9 ⟨rfl, ho, hb⟩
    have X0_9 := hide (X0_8.out.below hb)
    have X1_9 := hide (X1_8.out.below hb)
    have B_9 := hide (B_8.out.trans (hb.mono B_8.out.size))
    have S_9 := hide (own_slI ho)
    clear hb X0_8 X1_8 ho
    go_wp2_with fail
    refine (eqIntS_same _ _ us len2 _ _ _ HNU.out X1_9.out S_9.out hsu).mono ?_
    rintro e w10 ⟨rfl, hb⟩
    have X0_10 := hide (X0_9.out.below hb)
    have X1_10 := hide (X1_9.out.below hb)
    have S_10 := hide (S_9.out.below hb)
    have B_10 := hide (B_9.out.trans (hb.mono B_9.out.size))
    clear hb X0_9 X1_9 S_9 
    clear S_10
    go_wp2
    go_ret
    exact ⟨rfl, B_10.out⟩
  · have C0 := hide (szEventS_out a1 len1 cap1 w (by omega) (by omega))
    go_enter Try.func8, Try.ntmps8
    go_wp2_with fail
    refine C0.out.mono ?_
    rintro e w1 ⟨rfl, rfl⟩
    go_wp2
    go_ret
    exact ⟨rfl, Below.refl _ _⟩
end Go.Proofs.Ytkfnejiiancmhah.fnExactIsCut
