/-
  The walk of the law FnExactRateOf: it returns true at every list of samples and every int; memory that was there stays as it was.
-/
import Derived.Test.YticgejaaoamhmapL16SRate
import Derived.Test.YticgejaaoamhmapL2Lists2
import Derived.Test.YticgejaaoamhmapL2Size
namespace Go.Proofs.Yticgejaaoamhmap.fnExactRateOf
open Go.RowKit L1 L16
set_option linter.unusedVariables false

open Classical in
set_option maxRecDepth 100000 in
set_option maxHeartbeats 4000000 in
theorem walk (a0 : Option Addr) (len0 cap0 : Nat) (z0 : List (Int × Int)) (a1 : Int) (w : World) (w0 : IsRow2 w a0 len0 z0) (w1 : (Lit.int .i64 a1).wf = true) :
    Calls Try.prog 5 #[.slice a0 len0 cap0, .int .i64 a1] w fun e w' => e = .returned (.bool true) ∧ Below w.heap.size w w' := by
  obtain ⟨hn, hm, hs⟩ := w0
  have HS := hide hs
  have HN := hide hn
  clear hs hn
  unfold maxLen at hm
  by_cases hsz : len0 ≤ 1048576
  · have C0 := hide (szSampleS_in a0 len0 cap0 w hsz)
    have hk0 : ¬ (1048576 - (len0 : Int)) < 0 := by omega
    obtain ⟨bb, hbb⟩ : ∃ bb : Bool, bb = true ↔ RateOk z0 a1 := ⟨decide (RateOk z0 a1), by simp⟩
    obtain ⟨r, hr⟩ : ∃ r, r = rateR z0 a1 := ⟨_, rfl⟩
    have C1 := hide (fun a cap w hs => sRateOf_any a z0 len0 cap a1 w HN.out hs hsz r hr bb hbb)
    have C2 := hide (fun a cap w hs => rateOf_any a z0 len0 cap a1 w HN.out hs hsz r hr bb hbb)
    have hee : (r != r) = false := by simp
    have hff : (bb != bb) = false := by simp
    clear hr hbb w1
    go_enter Try.func5, Try.ntmps5
    go_wp2_with fail
    refine C0.out.mono ?_
    rintro e w1 ⟨rfl, rfl⟩
    go_wp2_with fail
    refine (toSampleS_any a0 z0 len0 cap0 _ HN.out HS.out hsz).mono ?_
    rintro e w1 ⟨rfl, ho1, hb1⟩
    have S1 := hide (own_sl2 ho1)
    have B1 := hide hb1
    clear ho1 hb1
    go_wp2_with fail
    refine (C1.out _ _ _ S1.out).mono ?_
    rintro e w2 ⟨rfl, hb2⟩
    have B2 := hide (B1.out.trans (hb2.mono B1.out.size))
    clear hb2 S1 B1
    go_wp2_with fail
    refine (toSampleS_any a0 z0 len0 cap0 _ HN.out (HS.out.below B2.out) hsz).mono ?_
    rintro e w3 ⟨rfl, ho3, hb3⟩
    have S3 := hide (own_sl2 ho3)
    have B3 := hide (B2.out.trans (hb3.mono B2.out.size))
    clear ho3 hb3 B2
    go_wp2_with fail
    refine (C2.out _ _ _ S3.out).mono ?_
    rintro e w4 ⟨rfl, hb4⟩
    have S4 := hide (S3.out.below hb4)
    have B4 := hide (B3.out.trans (hb4.mono B3.out.size))
    clear hb4 S3 B3
    go_wp2_with fail
    refine (toSampleS_any a0 z0 len0 cap0 _ HN.out (HS.out.below B4.out) hsz).mono ?_
    rintro e w5 ⟨rfl, ho5, hb5⟩
    have S5 := hide (own_sl2 ho5)
    have T5 := hide (S4.out.below hb5)
    have B5 := hide (B4.out.trans (hb5.mono B4.out.size))
    clear ho5 hb5 S4 B4
    go_wp2_with fail
    refine (eqSampleS_same _ _ z0 len0 _ _ _ HN.out T5.out S5.out hsz).mono ?_
    rintro e w6 ⟨rfl, hb6⟩
    have B6 := hide (B5.out.trans (hb6.mono B5.out.size))
    clear hb6
    go_wp2
    go_ret
    exact ⟨rfl, B6.out⟩
  · have C0 := hide (szSampleS_out a0 len0 cap0 w (by omega) (by omega))
    go_enter Try.func5, Try.ntmps5
    go_wp2_with fail
    refine C0.out.mono ?_
    rintro e w1 ⟨rfl, rfl⟩
    go_wp2
    go_ret
    exact ⟨rfl, Below.refl _ _⟩
end Go.Proofs.Yticgejaaoamhmap.fnExactRateOf
