/-
  The walk of the law FnExactGoodEntries: it returns true at every list of entries; memory that was there stays as it was.
-/
import Derived.Test.YtdnmklcnlndmhbaL7SGood
import Derived.Test.YtdnmklcnlndmhbaL7EntTo
import Derived.Test.YtdnmklcnlndmhbaL7EntEq
import Derived.Test.YtdnmklcnlndmhbaL7EntSize
namespace Go.Proofs.Ytdnmklcnlndmhba.fnExactGoodEntries
open Go.RowKit L1 L7
set_option linter.unusedVariables false

open Classical in
set_option maxRecDepth 100000 in
set_option maxHeartbeats 8000000 in
theorem walk (a0 : Option Addr) (len0 cap0 : Nat) (z0 : List En) (w : World) (w0 : IsRowES w a0 len0 z0) :
    Calls Try.prog 3 #[.slice a0 len0 cap0] w fun e w' => e = .returned (.bool true) ∧ Below w.heap.size w w' := by
  obtain ⟨⟨hn0, hm0, hs0⟩, hst0⟩ := w0
  have HST0 := hide hst0
  clear hst0
  have HS0 := hide hs0
  have HN0 := hide hn0
  clear hs0 hn0
  unfold maxLen at hm0
  by_cases hwt0 : (wt z0 : Int) ≤ 1048576
  case neg =>
    have C00 := hide (fun w hs => szEntryS_any a0 z0 len0 cap0 1048576 w HN0.out hm0 hs HST0.out (by omega) (by omega) _ (if_neg hwt0).symm)
    clear hwt0
    go_enter Try.func3, Try.ntmps3
    go_wp2_with fail
    refine (C00.out _ HS0.out).mono ?_
    rintro e wz0 ⟨rfl, hbz⟩
    have BZ0 := hide hbz
    clear hbz
    go_wp2
    go_ret
    exact ⟨rfl, BZ0.out⟩
  have hsz0 : len0 ≤ 1048576 := by unfold wt at hwt0; rw [HN0.out] at hwt0; omega
  have C00 := hide (fun w hs => szEntryS_any a0 z0 len0 cap0 1048576 w HN0.out hm0 hs HST0.out (by omega) (by omega) _ (if_pos hwt0).symm)
  obtain ⟨lf0, hlf0⟩ : ∃ lf, lf = 1048576 - (wt z0 : Int) := ⟨_, rfl⟩
  rw [← hlf0] at C00
  have hk0 : ¬ lf0 < 0 := by omega
  have hu0 : lf0 ≤ 1048576 := by omega
  clear hlf0 hwt0
  obtain ⟨bb, hbb⟩ : ∃ bb : Bool, bb = true ↔ GoodE z0 := ⟨decide (GoodE z0), by simp⟩
  have C1 := hide (fun a cap w hs => specGoodEntries_any a z0 len0 cap w HN0.out hs hsz0 HST0.out bb hbb)
  have C2 := hide (fun a cap w hs => goodEntries_any a z0 len0 cap w HN0.out hs hsz0 HST0.out bb hbb)
  clear hbb
  go_enter Try.func3, Try.ntmps3
  go_wp2_with fail
  refine (C00.out _ HS0.out).mono ?_
  rintro e wz0 ⟨rfl, hbz⟩
  have BZ0 := hide hbz
  clear hbz
  have FIN : Hid (∀ w' : World, Below wz0.heap.size wz0 w' → Below w.heap.size w w') := fun w' h => BZ0.out.trans (h.mono BZ0.out.size)
  have HSZ0 := hide (HS0.out.below BZ0.out)
  clear HS0 BZ0 C00
  go_wp2_with fail
  refine (toEntryS_any a0 z0 len0 cap0 _ HN0.out HSZ0.out hsz0).mono ?_
  rintro e w_1 ⟨rfl, ho, hb⟩
  have B_1 := hide hb
  clear hb 
  have P0_1 := hide (own_slE ho)
  clear ho
  go_wp2_with fail
  refine (C1.out _ _ _ P0_1.out).mono ?_
  rintro e w_2 ⟨rfl, hb⟩
  clear P0_1
  have B_2 := hide (B_1.out.trans (hb.mono B_1.out.size))
  clear hb B_1
  go_wp2_with fail
  refine (toEntryS_any a0 z0 len0 cap0 _ HN0.out (HSZ0.out.below B_2.out) hsz0).mono ?_
  rintro e w_3 ⟨rfl, ho, hb⟩
  have B_3 := hide (B_2.out.trans (hb.mono B_2.out.size))
  clear hb B_2
  have X0_3 := hide (own_slE ho)
  clear ho
  go_wp2_with fail
  refine (C2.out _ _ _ X0_3.out).mono ?_
  rintro e w_4 ⟨rfl, hb⟩
  have X0_4 := hide (X0_3.out.below hb)
  have B_4 := hide (B_3.out.trans (hb.mono B_3.out.size))
  clear hb X0_3 B_3
  go_wp2_with fail
  refine (toEntryS_any a0 z0 len0 cap0 _ HN0.out (HSZ0.out.below B_4.out) hsz0).mono ?_
  rintro e w_5 ⟨rfl, ho, hb⟩
  have X0_5 := hide (X0_4.out.below hb)
  have B_5 := hide (B_4.out.trans (hb.mono B_4.out.size))
  clear hb X0_4 B_4
  have S_5 := hide (own_slE ho)
  clear ho
  go_wp2_with fail
  refine (eqEntryS_same _ _ z0 len0 _ _ _ HN0.out X0_5.out S_5.out hsz0).mono ?_
  rintro e w_6 ⟨rfl, hb⟩
  have X0_6 := hide (X0_5.out.below hb)
  have S_6 := hide (S_5.out.below hb)
  have B_6 := hide (B_5.out.trans (hb.mono B_5.out.size))
  clear hb X0_5 S_5 B_5
  clear S_6
  go_wp2
  go_ret
  exact ⟨rfl, FIN.out _ B_6.out⟩
end Go.Proofs.Ytdnmklcnlndmhba.fnExactGoodEntries
