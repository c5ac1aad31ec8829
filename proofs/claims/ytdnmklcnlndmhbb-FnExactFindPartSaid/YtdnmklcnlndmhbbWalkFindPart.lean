/-
  The walk of the law FnExactFindPart: it returns true at every list of entries, every list of starts and every int; memory that was there stays as it was.
-/
import Derived.Test.YtdnmklcnlndmhbbL7FindPart
import Derived.Test.YtdnmklcnlndmhbbL7SFindPart
import Derived.Test.YtdnmklcnlndmhbbL7StaTo
import Derived.Test.YtdnmklcnlndmhbbL7StaEq
import Derived.Test.YtdnmklcnlndmhbbL7EntTo
import Derived.Test.YtdnmklcnlndmhbbL7EntEq
import Derived.Test.YtdnmklcnlndmhbbL7EntSize
namespace Go.Proofs.Ytdnmklcnlndmhbb.fnExactFindPart
open Go.RowKit L1 L7
set_option linter.unusedVariables false

open Classical in
set_option maxRecDepth 100000 in
set_option maxHeartbeats 8000000 in
theorem walk (a0 : Option Addr) (len0 cap0 : Nat) (z0 : List En) (a1 : Option Addr) (len1 cap1 : Nat) (z1 : List (Int × Int)) (a2 : Int) (w : World) (w0 : IsRowES w a0 len0 z0) (w1 : IsRowS w a1 len1 z1) (w2 : (Lit.int .i64 a2).wf = true) :
    Calls Try.prog 5 #[.slice a0 len0 cap0, .slice a1 len1 cap1, .int .i64 a2] w fun e w' => e = .returned (.bool true) ∧ Below w.heap.size w w' := by
  obtain ⟨⟨hn0, hm0, hs0⟩, hst0⟩ := w0
  have HST0 := hide hst0
  clear hst0
  have HS0 := hide hs0
  have HN0 := hide hn0
  clear hs0 hn0
  unfold maxLen at hm0
  obtain ⟨hn1, hm1, hs1⟩ := w1
  have HS1 := hide hs1
  have HN1 := hide hn1
  clear hs1 hn1
  unfold maxLen at hm1
  have W2 := hide w2
  clear w2
  by_cases hwt0 : (wt z0 : Int) ≤ 1048576
  case neg =>
    have C00 := hide (fun w hs => szEntryS_any a0 z0 len0 cap0 1048576 w HN0.out hm0 hs HST0.out (by omega) (by omega) _ (if_neg hwt0).symm)
    clear hwt0
    go_enter Try.func5, Try.ntmps5
    go_wp2_with fail
    refine (C00.out _ HS0.out).mono ?_
    rintro e wz0 ⟨rfl, hbz⟩
    have BZ0 := hide hbz
    clear hbz
    go_wp2
    go_ret
    exact ⟨rfl, BZ0.out⟩
  have hsz0 : len0 ≤ 1048576 := by unfold wt at hwt0; rw [HN0.out] at hwt0; omega
  have C00 := hide (fun w hs => szEntryS_any a0 z0 len0 cap0 1048576 w HN0.out hm0 hs HST0.out (by omega) (by omega) _ (if_pos hwt0).symm)
  obtain ⟨lf0, hlf0⟩ : ∃ lf, lf = 1048576 - (wt z0 : Int) := ⟨_, rfl⟩
  rw [← hlf0] at C00
  have hk0 : ¬ lf0 < 0 := by omega
  have hu0 : lf0 ≤ 1048576 := by omega
  clear hlf0 hwt0
  by_cases hwt1 : (len1 : Int) ≤ lf0
  case neg =>
    have C01 := hide (fun w (hs : SlS w a1 z1) => szStartS_any a1 len1 cap1 lf0 w hm1 (by omega) (by omega) _ (if_neg hwt1).symm)
    clear hwt1
    go_enter Try.func5, Try.ntmps5
    go_wp2_with fail
    refine (C00.out _ HS0.out).mono ?_
    rintro e wz0 ⟨rfl, hbz⟩
    have BZ0 := hide hbz
    clear hbz
    go_wp2_with fail
    refine (C01.out _ (HS1.out.below BZ0.out)).mono ?_
    rintro e wz1 ⟨rfl, hbz⟩
    have BZ1 := hide (BZ0.out.trans (hbz.mono BZ0.out.size))
    clear hbz
    go_wp2
    go_ret
    exact ⟨rfl, BZ1.out⟩
  have hsz1 : len1 ≤ 1048576 := by omega
  have C01 := hide (fun w (hs : SlS w a1 z1) => szStartS_any a1 len1 cap1 lf0 w hm1 (by omega) (by omega) _ (if_pos hwt1).symm)
  obtain ⟨lf1, hlf1⟩ : ∃ lf, lf = lf0 - (len1 : Int) := ⟨_, rfl⟩
  rw [← hlf1] at C01
  have hk1 : ¬ lf1 < 0 := by omega
  have hu1 : lf1 ≤ 1048576 := by omega
  clear hlf1 hwt1
  obtain ⟨p, q, ok, hv⟩ : ∃ p q ok, fndR z0 z1 a2 = (p, q, ok) := ⟨_, _, _, rfl⟩
  have C1 := hide (fun a c1 b c2 w hs ht => specFindPart_any a b z0 z1 len0 c1 len1 c2 a2 w HN0.out hs hsz0 HST0.out HN1.out ht hsz1 p q ok hv)
  have C2 := hide (fun a c1 b c2 w hs ht => implFindPart_any a b z0 z1 len0 c1 len1 c2 a2 w HN0.out hs hsz0 HST0.out HN1.out ht hsz1 p q ok hv)
  clear hv
  go_enter Try.func5, Try.ntmps5
  go_wp2_with fail
  refine (C00.out _ HS0.out).mono ?_
  rintro e wz0 ⟨rfl, hbz⟩
  have BZ0 := hide hbz
  clear hbz
  go_wp2_with fail
  refine (C01.out _ (HS1.out.below BZ0.out)).mono ?_
  rintro e wz1 ⟨rfl, hbz⟩
  have BZ1 := hide (BZ0.out.trans (hbz.mono BZ0.out.size))
  clear hbz
  have FIN : Hid (∀ w' : World, Below wz1.heap.size wz1 w' → Below w.heap.size w w') := fun w' h => BZ1.out.trans (h.mono BZ1.out.size)
  have HSZ0 := hide (HS0.out.below BZ1.out)
  have HSZ1 := hide (HS1.out.below BZ1.out)
  clear HS0 HS1 BZ0 C00 BZ1 C01
  go_wp2_with fail
  refine (toEntryS_any a0 z0 len0 cap0 _ HN0.out HSZ0.out hsz0).mono ?_
  rintro e w_1 ⟨rfl, ho, hb⟩
  have B_1 := hide hb
  clear hb 
  have P0_1 := hide (own_slE ho)
  clear ho
  go_wp2_with fail
  refine (toStartS_any a1 z1 len1 cap1 _ HN1.out (HSZ1.out.below B_1.out) hsz1).mono ?_
  rintro e w_2 ⟨rfl, ho, hb⟩
  have P0_2 := hide (P0_1.out.below hb)
  have B_2 := hide (B_1.out.trans (hb.mono B_1.out.size))
  clear hb P0_1 B_1
  have P1_2 := hide (own_slS ho)
  clear ho
  go_wp2_with fail
  refine (C1.out _ _ _ _ _ P0_2.out P1_2.out).mono ?_
  rintro e w_3 ⟨rfl, hb⟩
  clear P0_2
  clear P1_2
  have B_3 := hide (B_2.out.trans (hb.mono B_2.out.size))
  clear hb B_2
  go_wp2_with fail
  refine (toEntryS_any a0 z0 len0 cap0 _ HN0.out (HSZ0.out.below B_3.out) hsz0).mono ?_
  rintro e w_4 ⟨rfl, ho, hb⟩
  have B_4 := hide (B_3.out.trans (hb.mono B_3.out.size))
  clear hb B_3
  have X0_4 := hide (own_slE ho)
  clear ho
  go_wp2_with fail
  refine (toStartS_any a1 z1 len1 cap1 _ HN1.out (HSZ1.out.below B_4.out) hsz1).mono ?_
  rintro e w_5 ⟨rfl, ho, hb⟩
  have X0_5 := hide (X0_4.out.below hb)
  have B_5 := hide (B_4.out.trans (hb.mono B_4.out.size))
  clear hb X0_4 B_4
  have X1_5 := hide (own_slS ho)
  clear ho
  go_wp2_with fail
  refine (C2.out _ _ _ _ _ X0_5.out X1_5.out).mono ?_
  rintro e w_6 ⟨rfl, hb⟩
  have X0_6 := hide (X0_5.out.below hb)
  have X1_6 := hide (X1_5.out.below hb)
  have B_6 := hide (B_5.out.trans (hb.mono B_5.out.size))
  clear hb X0_5 X1_5 B_5
  go_wp2_with fail
  refine (toEntryS_any a0 z0 len0 cap0 _ HN0.out (HSZ0.out.below B_6.out) hsz0).mono ?_
  rintro e w_7 ⟨rfl, ho, hb⟩
  have X0_7 := hide (X0_6.out.below hb)
  have X1_7 := hide (X1_6.out.below hb)
  have B_7 := hide (B_6.out.trans (hb.mono B_6.out.size))
  clear hb X0_6 X1_6 B_6
  have S_7 := hide (own_slE ho)
  clear ho
  go_wp2_with fail
  refine (eqEntryS_same _ _ z0 len0 _ _ _ HN0.out X0_7.out S_7.out hsz0).mono ?_
  rintro e w_8 ⟨rfl, hb⟩
  have X0_8 := hide (X0_7.out.below hb)
  have X1_8 := hide (X1_7.out.below hb)
  have S_8 := hide (S_7.out.below hb)
  have B_8 := hide (B_7.out.trans (hb.mono B_7.out.size))
  clear hb X0_7 X1_7 S_7 B_7
  clear S_8
  go_wp2_with fail
  refine (toStartS_any a1 z1 len1 cap1 _ HN1.out (HSZ1.out.below B_8.out) hsz1).mono ?_
  rintro e w_9 ⟨rfl, ho, hb⟩
  have X0_9 := hide (X0_8.out.below hb)
  have X1_9 := hide (X1_8.out.below hb)
  have B_9 := hide (B_8.out.trans (hb.mono B_8.out.size))
  clear hb X0_8 X1_8 B_8
  have S_9 := hide (own_slS ho)
  clear ho
  go_wp2_with fail
  refine (eqStartS_same _ _ z1 len1 _ _ _ HN1.out X1_9.out S_9.out hsz1).mono ?_
  rintro e w_10 ⟨rfl, hb⟩
  have X0_10 := hide (X0_9.out.below hb)
  have X1_10 := hide (X1_9.out.below hb)
  have S_10 := hide (S_9.out.below hb)
  have B_10 := hide (B_9.out.trans (hb.mono B_9.out.size))
  clear hb X0_9 X1_9 S_9 B_9
  clear S_10
  go_wp2
  go_ret
  exact ⟨rfl, FIN.out _ B_10.out⟩
end Go.Proofs.Ytdnmklcnlndmhbb.fnExactFindPart
