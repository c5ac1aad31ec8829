/-
  Contract: impl.MatchLogs.
-/
import Derived.Test.YtdnmklcnlndmhbbL7MatR
import Derived.Test.YtdnmklcnlndmhbbL7Sts
import Derived.Test.YtdnmklcnlndmhbbL7Begin
import Derived.Test.YtdnmklcnlndmhbbL7Stay
import Derived.Test.YtdnmklcnlndmhbbL7Good
namespace Go.Proofs.Ytdnmklcnlndmhbb.L7
open Go.RowKit L1
set_option linter.unusedVariables false

set_option maxRecDepth 100000 in
set_option maxHeartbeats 2000000 in
theorem implMatch_any (a b : Option Addr) (l m : List En) (n c1 k c2 : Nat) (w : World) (hn : l.length = n) (hs : SlE w a l) (hn2 : n ≤ 1048576) (hst : ∀ j, j < l.length → (l.getD j eE).2.size ≤ 9223372036854775807) (hk : m.length = k) (ht : SlE w b m) (hk2 : k ≤ 1048576) (htt : ∀ j, j < m.length → (m.getD j eE).2.size ≤ 9223372036854775807) (v ok : Bool) (hv : matR l m = (v, ok)) :
    Calls Try.prog 28 #[.slice a n c1, .slice b k c2] w fun e w' => e = .returned (.tuple #[.bool v, .bool ok]) ∧ Below w.heap.size w w' := by
  have HS := hide hs
  have HT := hide ht
  by_cases hg : GoodE l
  · have C := hide (goodEntries_any a l n c1 w hn hs hn2 hst true (by simp [hg]))
    by_cases hh : GoodE m
    · have D := hide (fun w ht => goodEntries_any b m k c2 w hk ht hk2 htt true (by simp [hh]))
      have hr : ∃ bb : Bool, (v, ok) = (bb, true) ∧ (bb = true ↔ MatP l m) := by
        refine ⟨_, by rw [← hv]; unfold matR; rw [if_pos ⟨hg, hh⟩], ?_⟩
        simp
      obtain ⟨bb, hr, hbb⟩ := hr
      cases hr
      have CS := fun w hs => startsOf_any a l n c1 w hn hs hn2
      have CT := fun w ht => startsOf_any b m k c2 w hk ht hk2
      have hsn : (sts l).length ≤ 1048576 := by have := stsK_len l l.length; unfold sts; omega
      have hsm : (sts m).length ≤ 1048576 := by have := stsK_len m m.length; unfold sts; omega
      have hbb' : v = true ↔ BegP (sts l) (sts m) ∧ StayP l m (prt l m) := hbb
      obtain ⟨b1, hb1⟩ : ∃ b1 : Bool, b1 = true ↔ BegP (sts l) (sts m) := by classical exact ⟨decide (BegP (sts l) (sts m)), by simp⟩
      obtain ⟨b2, hb2⟩ : ∃ b2 : Bool, b2 = true ↔ StayP l m (prt l m) := by classical exact ⟨decide (StayP l m (prt l m)), by simp⟩
      have CG := fun a b c1 c2 w hs ht => beginAlike_any a b (sts l) (sts m) _ c1 _ c2 w rfl rfl hs ht hsn hsm b1 hb1
      have CY := fun w hs ht => stayApart_any a b l m n c1 k c2 w hn hk hs ht hn2 hk2 b2 hb2
      rw [← hb1, ← hb2] at hbb'
      obtain ⟨S, hS⟩ : ∃ S, S = sts l := ⟨_, rfl⟩
      obtain ⟨T, hT⟩ : ∃ T, T = sts m := ⟨_, rfl⟩
      simp only [RetS, ← hS] at CS
      simp only [RetS, ← hT] at CT
      simp only [← hS, ← hT] at CG
      rw [← hS] at hsn
      rw [← hT] at hsm
      obtain ⟨sn, hsn'⟩ : ∃ sn, sn = S.length := ⟨_, rfl⟩
      obtain ⟨tn, htn'⟩ : ∃ tn, tn = T.length := ⟨_, rfl⟩
      simp only [← hsn'] at CS CG
      simp only [← htn'] at CT CG
      have HCS := hide CS
      have HCT := hide CT
      have HCG := hide CG
      have HCY := hide CY
      have HBB := hide hbb'
      clear hv hg hh hbb hbb' hb1 hb2 CS CT CG CY hS hT hsn' htn' hsn hsm
      clear hs hn hst ht hk htt
      go_enter Try.func28, Try.ntmps28
      go_wp2_with fail
      refine (C.out).mono ?_
      rintro e w1 ⟨rfl, hb⟩
      have S_1 := hide (HS.out.below hb)
      have T_1 := hide (HT.out.below hb)
      have B_1 := hide hb
      clear hb HS HT
      go_wp2_with fail
      refine (D.out _ T_1.out).mono ?_
      rintro e w2 ⟨rfl, hb⟩
      have S_2 := hide (S_1.out.below hb)
      have T_2 := hide (T_1.out.below hb)
      have B_2 := hide (B_1.out.trans (hb.mono B_1.out.size))
      clear hb S_1 T_1 B_1
      go_wp2_with fail
      refine (HCS.out _ S_2.out).mono ?_
      rintro e w3 ⟨v1, rfl, ho1, hq1⟩
      obtain ⟨sa, scap, rfl, hs1, _⟩ := own_formS ho1
      have B3 := hide (B_2.out.trans (hq1.mono B_2.out.size))
      have S3 := hide (S_2.out.below hq1)
      have T3 := hide (T_2.out.below hq1)
      have P3 := hide hs1
      clear ho1 hs1 hq1 S_2 T_2 B_2
      go_wp2_with fail
      refine (HCT.out _ T3.out).mono ?_
      rintro e w4 ⟨v2, rfl, ho2, hq2⟩
      obtain ⟨ta, tcap, rfl, ht2, _⟩ := own_formS ho2
      have B4 := hide (B3.out.trans (hq2.mono B3.out.size))
      have S4 := hide (S3.out.below hq2)
      have T4 := hide (T3.out.below hq2)
      have P4 := hide (P3.out.below hq2)
      have Q4 := hide ht2
      clear ho2 ht2 hq2 S3 T3 B3 P3
      go_wp2_with fail
      refine (HCG.out _ _ _ _ _ P4.out Q4.out).mono ?_
      rintro e w5 ⟨rfl, hq⟩
      have B5 := hide (B4.out.trans (hq.mono B4.out.size))
      have S5 := hide (S4.out.below hq)
      have T5 := hide (T4.out.below hq)
      clear hq S4 T4 B4 P4 Q4
      cases b1 with
      | false =>
        obtain rfl : v = false := bool_noT HBB.out (by simp)
        go_wp2
        go_ret2
        exact ⟨rfl, B5.out⟩
      | true =>
        have E : Hid (v = b2) := bool_iff7 (HBB.out.trans ⟨fun h => h.2, fun h => ⟨rfl, h⟩⟩)
        go_wp2_with fail
        refine (HCY.out _ S5.out T5.out).mono ?_
        rintro e w6 ⟨rfl, hq⟩
        have B6 := hide (B5.out.trans (hq.mono B5.out.size))
        clear hq
        go_wp2
        go_ret2
        exact ⟨by rw [E.out]; rfl, B6.out⟩
    · have D := hide (fun w ht => goodEntries_any b m k c2 w hk ht hk2 htt false (by simp [hh]))
      have hr : (v, ok) = (false, false) := by rw [← hv]; unfold matR; rw [if_neg (fun h => hh h.2)]
      cases hr
      clear hv hs hn hst ht hk htt hg hh
      go_enter Try.func28, Try.ntmps28
      go_wp2_with fail
      refine (C.out).mono ?_
      rintro e w1 ⟨rfl, hb⟩
      have T_1 := hide (HT.out.below hb)
      have B_1 := hide hb
      clear hb HT
      go_wp2_with fail
      refine (D.out _ T_1.out).mono ?_
      rintro e w2 ⟨rfl, hb⟩
      have T_2 := hide (T_1.out.below hb)
      have B_2 := hide (B_1.out.trans (hb.mono B_1.out.size))
      clear hb T_1 B_1
      go_wp2
      go_ret2
      exact ⟨rfl, B_2.out⟩
  · have C := hide (goodEntries_any a l n c1 w hn hs hn2 hst false (by simp [hg]))
    have hr : (v, ok) = (false, false) := by rw [← hv]; unfold matR; rw [if_neg (fun h => hg h.1)]
    cases hr
    clear hv hs hn hst ht hk htt hg
    go_enter Try.func28, Try.ntmps28
    go_wp2_with fail
    refine (C.out).mono ?_
    rintro e w1 ⟨rfl, hb⟩
    have B_1 := hide hb
    clear hb 
    go_wp2
    go_ret2
    exact ⟨rfl, B_1.out⟩
end Go.Proofs.Ytdnmklcnlndmhbb.L7
