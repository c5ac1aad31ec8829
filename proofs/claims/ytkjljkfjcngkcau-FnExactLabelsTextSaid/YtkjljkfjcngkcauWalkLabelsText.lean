/-
  The walk of the law FnExactLabelsText: it returns true at every list of labels; memory that was there stays as it was.
-/
import Derived.Test.YtkjljkfjcngkcauL3Text
import Derived.Test.YtkjljkfjcngkcauL3LabLists
import Derived.Test.YtkjljkfjcngkcauL3LabSize
namespace Go.Proofs.Ytkjljkfjcngkcau.fnExactLabelsText
open Go.RowKit L1 L3
set_option linter.unusedVariables false

set_option maxRecDepth 100000 in
set_option maxHeartbeats 2000000 in
theorem walk (a0 : Option Addr) (len0 cap0 : Nat) (z0 : List Lb) (w : World) (w0 : IsRowLS w a0 len0 z0) :
    Calls Try.prog 4 #[.slice a0 len0 cap0] w fun e w' => e = .returned (.bool true) ∧ Below w.heap.size w w' := by
  obtain ⟨⟨hn, hm, hs⟩, hst⟩ := w0
  have HST := hide hst
  clear hst
  have HS := hide hs
  have HN := hide hn
  clear hs hn
  unfold maxLen at hm
  by_cases hwt : (wt z0 : Int) ≤ 1048576
  · have hsz : len0 ≤ 1048576 := by unfold wt at hwt; rw [HN.out] at hwt; omega
    have C0 := hide (szLabelS_any a0 z0 len0 cap0 1048576 w HN.out hm HS.out HST.out (by omega) (by omega) _ (if_pos hwt).symm)
    obtain ⟨lf, hlf⟩ : ∃ lf, lf = 1048576 - (wt z0 : Int) := ⟨_, rfl⟩
    rw [← hlf] at C0
    obtain ⟨r, hr⟩ : ∃ r, r = txRes z0 := ⟨_, rfl⟩
    have c1 := fun a cap w hs => specText_any a z0 len0 cap w HN.out hs hsz HST.out r hr
    have c2 := fun a cap w hs => labelsText_any a z0 len0 cap w HN.out hs hsz HST.out r hr
    obtain ⟨tx, htx⟩ : ∃ tx, tx = r.getD ByteArray.empty := ⟨_, rfl⟩
    obtain ⟨ok, hok⟩ : ∃ ok, ok = r.isSome := ⟨_, rfl⟩
    simp only [← htx, ← hok] at c1 c2
    have C1 := hide c1
    have C2 := hide c2
    clear c1 c2 htx hok
    have hk0 : ¬ lf < 0 := by omega
    clear hr hlf
    go_enter Try.func4, Try.ntmps4
    go_wp2_with fail
    refine C0.out.mono ?_
    rintro e wz ⟨rfl, hbz⟩
    have BZ := hide hbz
    clear hbz
    go_wp2_with fail
    refine (toLabelS_any a0 z0 len0 cap0 _ HN.out (HS.out.below BZ.out) hsz).mono ?_
    rintro e w1 ⟨rfl, ho1, hb1⟩
    have S1 := hide (own_slL ho1)
    have B1 := hide (BZ.out.trans (hb1.mono BZ.out.size))
    clear ho1 hb1
    go_wp2_with fail
    refine (C1.out _ _ _ S1.out).mono ?_
    rintro e w2 ⟨rfl, hb2⟩
    have B2 := hide (B1.out.trans (hb2.mono B1.out.size))
    clear hb2 S1 B1
    go_wp2_with fail
    refine (toLabelS_any a0 z0 len0 cap0 _ HN.out (HS.out.below B2.out) hsz).mono ?_
    rintro e w3 ⟨rfl, ho3, hb3⟩
    have S3 := hide (own_slL ho3)
    have B3 := hide (B2.out.trans (hb3.mono B2.out.size))
    clear ho3 hb3 B2
    go_wp2_with fail
    refine (C2.out _ _ _ S3.out).mono ?_
    rintro e w4 ⟨rfl, hb4⟩
    have S4 := hide (S3.out.below hb4)
    have B4 := hide (B3.out.trans (hb4.mono B3.out.size))
    clear hb4 S3 B3
    go_wp2_with fail
    refine (toLabelS_any a0 z0 len0 cap0 _ HN.out (HS.out.below B4.out) hsz).mono ?_
    rintro e w5 ⟨rfl, ho5, hb5⟩
    have S5 := hide (own_slL ho5)
    have T5 := hide (S4.out.below hb5)
    have B5 := hide (B4.out.trans (hb5.mono B4.out.size))
    clear ho5 hb5 S4 B4
    go_wp2_with fail
    refine (eqLabelS_same _ _ z0 len0 _ _ _ HN.out T5.out S5.out hsz).mono ?_
    rintro e w6 ⟨rfl, hb6⟩
    have B6 := hide (B5.out.trans (hb6.mono B5.out.size))
    clear hb6
    go_wp2
    go_ret
    exact ⟨rfl, B6.out⟩
  · have C0 := hide (szLabelS_any a0 z0 len0 cap0 1048576 w HN.out hm HS.out HST.out (by omega) (by omega) _ (if_neg hwt).symm)
    go_enter Try.func4, Try.ntmps4
    go_wp2_with fail
    refine C0.out.mono ?_
    rintro e w1 ⟨rfl, hb1⟩
    go_wp2
    go_ret
    exact ⟨rfl, hb1⟩
end Go.Proofs.Ytkjljkfjcngkcau.fnExactLabelsText
