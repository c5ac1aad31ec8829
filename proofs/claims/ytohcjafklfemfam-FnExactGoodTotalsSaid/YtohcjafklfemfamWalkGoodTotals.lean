/-
  The walk of the law FnExactGoodTotals: it returns true at every list; memory that was there stays as it was.
-/
import Derived.Test.YtohcjafklfemfamL14TSize
import Derived.Test.YtohcjafklfemfamL14TTo
import Derived.Test.YtohcjafklfemfamL14TEq
import Derived.Test.YtohcjafklfemfamL14TGood
import Derived.Test.YtohcjafklfemfamL14TSGood
namespace Go.Proofs.Ytohcjafklfemfam.fnExactGoodTotals
open Go.RowKit L1 L3 L14T
set_option linter.unusedVariables false

open Classical in
set_option maxRecDepth 100000 in
set_option maxHeartbeats 4000000 in
theorem walk (a0 : Option Addr) (len0 cap0 : Nat) (z0 : List Rw) (w : World) (w0 : IsRowR w a0 len0 z0) :
    Calls Try.prog 3 #[.slice a0 len0 cap0] w fun e w' => e = .returned (.bool true) ∧ Below w.heap.size w w' := by
  obtain ⟨⟨hn, hm, hs⟩, hst⟩ := w0
  have HS := hide hs
  have HN := hide hn
  have HST := hide hst
  unfold maxLen at hm
  have C0 := hide (fun r hr => szTotalS_any a0 z0 len0 cap0 1048576 w hn (by omega) hs hst (by omega) (by omega) r hr)
  clear hs hn hst
  by_cases hfit : (wtR z0 : Int) ≤ 1048576
  · have hsz : len0 ≤ 1048576 := by have := HN.out; unfold wtR at hfit; omega
    have HX : Hid (∀ i, i < len0 → (gr z0 i).l.length ≤ 1048576) := fun i hi => (wtR_lab z0 i (by rw [HN.out]; exact hi) (by omega)).1
    have HXL : Hid (∀ j, j < z0.length → (gr z0 j).l.length ≤ 1048576) := fun j hj => HX.out j (by rw [← HN.out]; exact hj)
    have hk0 : ¬ (1048576 - (wtR z0 : Int)) < 0 := by omega
    obtain ⟨bb, hbb⟩ : ∃ bb : Bool, bb = true ↔ GoodT z0 := ⟨decide (GoodT z0), by simp⟩
    have C1 := hide (fun a cap w hs => specGoodTotals_any a z0 len0 cap w HN.out hsz hs HST.out HXL.out bb hbb)
    have C2 := hide (fun a cap w hs => implGoodTotals_any a z0 len0 cap w HN.out hsz hs HST.out HXL.out bb hbb)
    clear hbb
    go_enter Try.func3, Try.ntmps3
    go_wp2_with fail
    refine (C0.out (1048576 - (wtR z0 : Int)) (by rw [if_pos (by omega)])).mono ?_
    rintro e w1 ⟨rfl, hb0⟩
    have B_00 := hide hb0
    clear hb0
    go_wp2_with fail
    refine (toTotalS_any a0 z0 len0 cap0 _ HN.out (HS.out.below B_00.out) hsz HX.out).mono ?_
    rintro e w1 ⟨rfl, ⟨M1, hM1, ho1⟩, hb1⟩
    have S1 := hide ho1.sl
    rw [hM1] at S1
    have B1 := hide (B_00.out.trans (hb1.mono B_00.out.size))
    clear ho1 hb1 hM1
    go_wp2_with fail
    refine (C1.out _ _ _ S1.out).mono ?_
    rintro e w2 ⟨rfl, hb2⟩
    have B2 := hide (B1.out.trans (hb2.mono B1.out.size))
    clear hb2 S1 B1
    go_wp2_with fail
    refine (toTotalS_any a0 z0 len0 cap0 _ HN.out (HS.out.below B2.out) hsz HX.out).mono ?_
    rintro e w3 ⟨rfl, ⟨M3, hM3, ho3⟩, hb3⟩
    have S3 := hide ho3.sl
    rw [hM3] at S3
    have B3 := hide (B2.out.trans (hb3.mono B2.out.size))
    clear ho3 hb3 B2 hM3
    go_wp2_with fail
    refine (C2.out _ _ _ S3.out).mono ?_
    rintro e w4 ⟨rfl, hb4⟩
    have S4 := hide (S3.out.below hb4)
    have B4 := hide (B3.out.trans (hb4.mono B3.out.size))
    clear hb4 S3 B3
    go_wp2_with fail
    refine (toTotalS_any a0 z0 len0 cap0 _ HN.out (HS.out.below B4.out) hsz HX.out).mono ?_
    rintro e w5 ⟨rfl, ⟨M5, hM5, ho5⟩, hb5⟩
    have S5 := hide ho5.sl
    rw [hM5] at S5
    have T5 := hide (S4.out.below hb5)
    have B5 := hide (B4.out.trans (hb5.mono B4.out.size))
    clear ho5 hb5 S4 B4 hM5
    go_wp2_with fail
    refine (eqTotalS_same _ _ z0 len0 _ _ _ HN.out T5.out S5.out hsz HX.out).mono ?_
    rintro e w6 ⟨rfl, hb6⟩
    have B6 := hide (B5.out.trans (hb6.mono B5.out.size))
    clear hb6
    go_wp2
    go_ret
    exact ⟨rfl, B6.out⟩
  · go_enter Try.func3, Try.ntmps3
    go_wp2_with fail
    refine (C0.out (-1) (by rw [if_neg (by omega)])).mono ?_
    rintro e w1 ⟨rfl, hb0⟩
    go_wp2
    go_ret
    exact ⟨rfl, hb0⟩
end Go.Proofs.Ytohcjafklfemfam.fnExactGoodTotals
