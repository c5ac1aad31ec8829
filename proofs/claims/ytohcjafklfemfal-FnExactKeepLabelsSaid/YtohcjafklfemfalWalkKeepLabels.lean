/-
  The walk of the law FnExactKeepLabels: it returns true at every list of labels and every list of texts; memory that was there stays as it was.
-/
import Derived.Test.YtohcjafklfemfalL14Keep
import Derived.Test.YtohcjafklfemfalL14SKeep
import Derived.Test.YtohcjafklfemfalL3LabLists
import Derived.Test.YtohcjafklfemfalL3LawL
import Derived.Test.YtohcjafklfemfalL3LabSize
import Derived.Test.YtohcjafklfemfalStrSize
import Derived.Test.YtohcjafklfemfalStrTo
import Derived.Test.YtohcjafklfemfalStrEq
import Derived.Test.YtohcjafklfemfalStrMark
namespace Go.Proofs.Ytohcjafklfemfal.fnExactKeepLabels
open Go.RowKit L1 L3 L14K
set_option linter.unusedVariables false

set_option maxRecDepth 100000 in
set_option maxHeartbeats 8000000 in
theorem walk (a0 : Option Addr) (len0 cap0 : Nat) (z0 : List Lb) (a1 : Option Addr) (len1 cap1 : Nat) (z1 : List ByteArray) (w : World) (w0 : IsRowLS w a0 len0 z0) (w1 : Str.IsRowS w a1 len1 z1) :
    Calls Try.prog 6 #[.slice a0 len0 cap0, .slice a1 len1 cap1] w fun e w' => e = .returned (.bool true) ∧ Below w.heap.size w w' := by
  obtain ⟨⟨hn, hm, hs⟩, hst⟩ := w0
  obtain ⟨⟨hnp, hmp, hsp0⟩, hstp⟩ := w1
  have HS := hide hs
  have HN := hide hn
  have HST := hide hst
  have HSP := hide hsp0
  have HNP := hide hnp
  have HSTP := hide hstp
  clear hs hn hst hsp0 hnp hstp
  unfold maxLen at hm hmp
  by_cases hwt : (wt z0 : Int) ≤ 1048576
  · have hsz : len0 ≤ 1048576 := by unfold wt at hwt; rw [HN.out] at hwt; omega
    have C0 := hide (szLabelS_any a0 z0 len0 cap0 1048576 w HN.out hm HS.out HST.out (by omega) (by omega) _ (if_pos hwt).symm)
    obtain ⟨lf, hlf⟩ : ∃ lf, lf = 1048576 - (wt z0 : Int) := ⟨_, rfl⟩
    rw [← hlf] at C0
    have hk0 : ¬ lf < 0 := by omega
    by_cases hwt1 : (Str.wtS z1 : Int) ≤ lf
    case neg =>
      have C01 := hide (fun w hs => Str.szStringS_any a1 z1 len1 cap1 lf w HNP.out hmp hs HSTP.out (by omega) (by omega) _ (if_neg hwt1).symm)
      clear hlf hwt hwt1
      go_enter Try.func6, Try.ntmps6
      go_wp2_with fail
      refine C0.out.mono ?_
      rintro e wy ⟨rfl, hby⟩
      have BY := hide hby
      clear hby
      go_wp2_with fail
      refine (C01.out _ (HSP.out.below BY.out)).mono ?_
      rintro e wz ⟨rfl, hbz⟩
      have BZ := hide (BY.out.trans (hbz.mono BY.out.size))
      clear hbz
      go_wp2
      go_ret
      exact ⟨rfl, BZ.out⟩
    have hsp : len1 ≤ 1048576 := by unfold Str.wtS at hwt1; rw [HNP.out] at hwt1; omega
    have C01 := hide (fun w hs => Str.szStringS_any a1 z1 len1 cap1 lf w HNP.out hmp hs HSTP.out (by omega) (by omega) _ (if_pos hwt1).symm)
    obtain ⟨lf1, hlf1⟩ : ∃ lf1, lf1 = lf - (Str.wtS z1 : Int) := ⟨_, rfl⟩
    rw [← hlf1] at C01
    have hk1 : ¬ lf1 < 0 := by omega
    obtain ⟨r, hr⟩ : ∃ r, r = keepRes z0 z1 := ⟨_, rfl⟩
    have c1 := fun a cap a2 cap2 w hs1 hs2 => specKeepLabels_any a z0 len0 cap a2 z1 len1 cap2 w HN.out hs1 hsz HNP.out hs2 hsp HST.out r hr
    have c2 := fun a cap a2 cap2 w hs1 hs2 => implKeepLabels_any a z0 len0 cap a2 z1 len1 cap2 w HN.out hs1 hsz HNP.out hs2 hsp HST.out r hr
    have hle := keepRes_len z0 z1
    rw [← hr] at hle
    obtain ⟨ys, hy⟩ : ∃ ys, ys = r.getD [] := ⟨_, rfl⟩
    obtain ⟨m, hmm⟩ : ∃ m, m = ys.length := ⟨_, rfl⟩
    obtain ⟨ok, hok⟩ : ∃ ok, ok = r.isSome := ⟨_, rfl⟩
    simp only [RetLb, ← hy, ← hmm, ← hok] at c1 c2
    rw [← hy, ← hmm] at hle
    have hm2 : m ≤ 1048576 := by omega
    have hq0 : ¬ (1 + 2 * (len0 : Int) + (len1 : Int)) < 0 := by omega
    have hq1 : ¬ (1 + 2 * (m : Int)) < 0 := by omega
    have C1 := hide c1
    have C2 := hide c2
    have HM := hide hmm.symm
    clear c1 c2 hr hy hmm hok hlf hlf1 hwt hwt1
    go_enter Try.func6, Try.ntmps6
    go_wp2_with fail
    refine C0.out.mono ?_
    rintro e wy ⟨rfl, hby⟩
    have BY := hide hby
    clear hby
    go_wp2_with fail
    refine (C01.out _ (HSP.out.below BY.out)).mono ?_
    rintro e wz ⟨rfl, hbz⟩
    have BZ := hide (BY.out.trans (hbz.mono BY.out.size))
    clear hbz
    have FIN : ∀ w' : World, Below wz.heap.size wz w' → Below w.heap.size w w' := fun w' h => BZ.out.trans (h.mono BZ.out.size)
    have HFIN := hide FIN
    have HSZ := hide (HS.out.below BZ.out)
    have HSPZ := hide (HSP.out.below BZ.out)
    clear FIN HS HSP BZ BY
    go_wp2_with fail
    refine (toLabelS_any a0 z0 len0 cap0 _ HN.out HSZ.out hsz).mono ?_
    rintro e w1 ⟨rfl, ho, hb⟩
    have B_1 := hide hb
    have Z_1 := hide hb.size
    have P0_1 := hide (own_slL ho)
    clear hb  ho
    go_wp2_with fail
    refine (Str.toStringS_any a1 z1 len1 cap1 _ HNP.out (HSPZ.out.below B_1.out) hsp).mono ?_
    rintro e w2 ⟨rfl, ho, hb⟩
    have P0_2 := hide (P0_1.out.below hb)
    have B_2 := hide (B_1.out.trans (hb.mono B_1.out.size))
    have Z_2 := hide hb.size
    have P1_2 := hide (Str.own_slS ho)
    clear hb P0_1 ho
    go_wp2_with fail
    refine (C1.out _ _ _ _ _ P0_2.out P1_2.out).mono ?_
    rintro e w3 ⟨v0, rfl, ho, hb⟩
    clear P0_2
    clear P1_2
    obtain ⟨b0, q0, rfl, s0, _⟩ := own_formL ho
    have B_3 := hide (B_2.out.trans (hb.mono B_2.out.size))
    have Z_3 := hide hb.size
    have U_3 := hide s0
    have KU := hide (fun (x : Addr) (hx : b0 = some x) => (ho.lt x.block (by rw [hx]; rfl)).2)
    clear hb  ho s0
    go_wp2_with fail
    refine (toLabelS_any a0 z0 len0 cap0 _ HN.out (HSZ.out.below B_3.out) hsz).mono ?_
    rintro e w4 ⟨rfl, ho, hb⟩
    have U_4 := hide (U_3.out.below hb)
    have B_4 := hide (B_3.out.trans (hb.mono B_3.out.size))
    have Z_4 := hide hb.size
    have X0_4 := hide ho
    have L_X0 := hide ((ho.lt w3.heap.size rfl).2)
    clear hb U_3 ho
    go_wp2_with fail
    refine (Str.toStringS_any a1 z1 len1 cap1 _ HNP.out (HSPZ.out.below B_4.out) hsp).mono ?_
    rintro e w5 ⟨rfl, ho, hb⟩
    have U_5 := hide (U_4.out.below hb)
    have X0_5 := hide (own_belowT X0_4.out hb)
    have B_5 := hide (B_4.out.trans (hb.mono B_4.out.size))
    have Z_5 := hide hb.size
    have X1_5 := hide ho
    have L_X1 := hide ((ho.lt w4.heap.size rfl).2)
    clear hb U_4 X0_4 ho
    go_wp2_with fail
    refine (C2.out _ _ _ _ _ (own_slL X0_5.out) (Str.own_slS X1_5.out)).mono ?_
    rintro e w6 ⟨v1, rfl, ho, hb⟩
    obtain ⟨b1, q1, rfl, _, _⟩ := own_formL ho
    have U_6 := hide (U_5.out.below hb)
    have X0_6 := hide (own_belowT X0_5.out hb)
    have X1_6 := hide (own_belowT X1_5.out hb)
    have B_6 := hide (B_5.out.trans (hb.mono B_5.out.size))
    have Z_6 := hide hb.size
    have G_6 := hide ho
    clear hb U_5 X0_5 X1_5 ho
    go_wp2_with fail
    refine (eqLabelS_same _ _ ys m _ _ _ HM.out (own_slL G_6.out) U_6.out hm2).mono ?_
    rintro e w7 ⟨rfl, hb⟩
    have U_7 := hide (U_6.out.below hb)
    have X0_7 := hide (own_belowT X0_6.out hb)
    have X1_7 := hide (own_belowT X1_6.out hb)
    have G_7 := hide (own_belowT G_6.out hb)
    have B_7 := hide (B_6.out.trans (hb.mono B_6.out.size))
    have Z_7 := hide hb.size
    clear hb U_6 X0_6 X1_6 G_6 
    go_wp2_with fail
    refine (toLabelS_any a0 z0 len0 cap0 _ HN.out (HSZ.out.below B_7.out) hsz).mono ?_
    rintro e w8 ⟨rfl, ho, hb⟩
    have U_8 := hide (U_7.out.below hb)
    have X0_8 := hide (own_belowT X0_7.out hb)
    have X1_8 := hide (own_belowT X1_7.out hb)
    have G_8 := hide (own_belowT G_7.out hb)
    have B_8 := hide (B_7.out.trans (hb.mono B_7.out.size))
    have Z_8 := hide hb.size
    have S_8 := hide (own_slL ho)
    clear hb U_7 X0_7 X1_7 G_7 ho
    go_wp2_with fail
    refine (eqLabelS_same _ _ z0 len0 _ _ _ HN.out (own_slL X0_8.out) S_8.out hsz).mono ?_
    rintro e w9 ⟨rfl, hb⟩
    have U_9 := hide (U_8.out.below hb)
    have X0_9 := hide (own_belowT X0_8.out hb)
    have X1_9 := hide (own_belowT X1_8.out hb)
    have G_9 := hide (own_belowT G_8.out hb)
    have S_9 := hide (S_8.out.below hb)
    have B_9 := hide (B_8.out.trans (hb.mono B_8.out.size))
    have Z_9 := hide hb.size
    clear hb U_8 X0_8 X1_8 G_8 S_8 
    clear S_9
    go_wp2_with fail
    refine (Str.toStringS_any a1 z1 len1 cap1 _ HNP.out (HSPZ.out.below B_9.out) hsp).mono ?_
    rintro e w10 ⟨rfl, ho, hb⟩
    have U_10 := hide (U_9.out.below hb)
    have X0_10 := hide (own_belowT X0_9.out hb)
    have X1_10 := hide (own_belowT X1_9.out hb)
    have G_10 := hide (own_belowT G_9.out hb)
    have B_10 := hide (B_9.out.trans (hb.mono B_9.out.size))
    have Z_10 := hide hb.size
    have S_10 := hide (Str.own_slS ho)
    clear hb U_9 X0_9 X1_9 G_9 ho
    go_wp2_with fail
    refine (Str.eqStringS_same _ _ z1 len1 _ _ _ HNP.out (Str.own_slS X1_10.out) S_10.out hsp).mono ?_
    rintro e w11 ⟨rfl, hb⟩
    have U_11 := hide (U_10.out.below hb)
    have X0_11 := hide (own_belowT X0_10.out hb)
    have X1_11 := hide (own_belowT X1_10.out hb)
    have G_11 := hide (own_belowT G_10.out hb)
    have S_11 := hide (S_10.out.below hb)
    have B_11 := hide (B_10.out.trans (hb.mono B_10.out.size))
    have Z_11 := hide hb.size
    clear hb U_10 X0_10 X1_10 G_10 S_10 
    clear S_11
    go_wp2_with fail
    refine (markLabelS_all w3.heap.size _ z0 len0 _ hsz X0_11.out (Nat.le_trans (Nat.le_trans (Nat.le_trans (Nat.le_trans (Nat.le_trans (Nat.le_trans (Nat.le_trans Z_4.out Z_5.out) Z_6.out) Z_7.out) Z_8.out) Z_9.out) Z_10.out) Z_11.out)).mono ?_
    rintro e w12 ⟨rfl, _, hb, hg⟩
    have U_12 := hide (slL_base U_11.out hb (fun x hx => Nat.lt_of_lt_of_le (KU.out x hx) (Nat.le_refl _)))
    have X1_12 := hide (X1_11.out.kept hg (own_neG X1_11.out (Nat.lt_of_lt_of_le L_X0.out (Nat.le_refl _))))
    have G_12 := hide (G_11.out.kept hg (own_neG G_11.out (Nat.lt_of_lt_of_le L_X0.out Z_5.out)))
    have B_12 := hide (B_11.out.trans (hb.mono B_3.out.size))
    have Z_12 := hide hb.size
    clear hb U_11 X1_11 G_11 hg X0_11
    go_wp2_with fail
    refine (Str.markStringS_from w4.heap.size _ z1 len1 _ (1 + 2 * (len0 : Int)) (by omega) (by omega) hsp X1_12.out (Nat.le_trans (Nat.le_trans (Nat.le_trans (Nat.le_trans (Nat.le_trans (Nat.le_trans (Nat.le_trans Z_5.out Z_6.out) Z_7.out) Z_8.out) Z_9.out) Z_10.out) Z_11.out) Z_12.out)).mono ?_
    rintro e w13 ⟨rfl, _, hb, hg⟩
    have U_13 := hide (slL_base U_12.out hb (fun x hx => Nat.lt_of_lt_of_le (KU.out x hx) Z_4.out))
    have G_13 := hide (G_12.out.kept hg (own_neG G_12.out (Nat.lt_of_lt_of_le L_X1.out (Nat.le_refl _))))
    have B_13 := hide (B_12.out.trans (hb.mono B_4.out.size))
    have Z_13 := hide hb.size
    clear hb U_12 G_12 hg X1_12
    go_wp2_with fail
    refine (eqLabelS_same _ _ ys m _ _ _ HM.out (own_slL G_13.out) U_13.out hm2).mono ?_
    rintro e w14 ⟨rfl, hb⟩
    have U_14 := hide (U_13.out.below hb)
    have G_14 := hide (own_belowT G_13.out hb)
    have B_14 := hide (B_13.out.trans (hb.mono B_13.out.size))
    have Z_14 := hide hb.size
    clear hb U_13 G_13 
    go_wp2_with fail
    refine (markLabelS_all w5.heap.size _ ys m _ hm2 G_14.out (Nat.le_trans (Nat.le_trans (Nat.le_trans (Nat.le_trans (Nat.le_trans (Nat.le_trans (Nat.le_trans (Nat.le_trans Z_6.out Z_7.out) Z_8.out) Z_9.out) Z_10.out) Z_11.out) Z_12.out) Z_13.out) Z_14.out)).mono ?_
    rintro e w15 ⟨rfl, ho, hb, hg⟩
    have U_15 := hide (slL_base U_14.out hb (fun x hx => Nat.lt_of_lt_of_le (KU.out x hx) (Nat.le_trans Z_4.out Z_5.out)))
    have B_15 := hide (B_14.out.trans (hb.mono B_5.out.size))
    have Z_15 := hide hb.size
    have H_15 := hide (own_slL ho)
    clear hb U_14 hg ho G_14
    go_wp2_with fail
    refine (heldLabelS_any _ m _ _ hm2 H_15.out).mono ?_
    rintro e w16 ⟨rfl, hb⟩
    have U_16 := hide (U_15.out.below hb)
    have H_16 := hide (H_15.out.below hb)
    have B_16 := hide (B_15.out.trans (hb.mono B_15.out.size))
    have Z_16 := hide hb.size
    clear hb U_15 H_15 
    go_wp2_with fail
    refine (toLabelS_any a0 z0 len0 cap0 _ HN.out (HSZ.out.below B_16.out) hsz).mono ?_
    rintro e w17 ⟨rfl, ho, hb⟩
    have U_17 := hide (U_16.out.below hb)
    have H_17 := hide (H_16.out.below hb)
    have B_17 := hide (B_16.out.trans (hb.mono B_16.out.size))
    have Z_17 := hide hb.size
    have P0_17 := hide (own_slL ho)
    clear hb U_16 H_16 ho
    go_wp2_with fail
    refine (Str.toStringS_any a1 z1 len1 cap1 _ HNP.out (HSPZ.out.below B_17.out) hsp).mono ?_
    rintro e w18 ⟨rfl, ho, hb⟩
    have U_18 := hide (U_17.out.below hb)
    have H_18 := hide (H_17.out.below hb)
    have P0_18 := hide (P0_17.out.below hb)
    have B_18 := hide (B_17.out.trans (hb.mono B_17.out.size))
    have Z_18 := hide hb.size
    have P1_18 := hide (Str.own_slS ho)
    clear hb U_17 H_17 P0_17 ho
    go_wp2_with fail
    refine (C2.out _ _ _ _ _ P0_18.out P1_18.out).mono ?_
    rintro e w19 ⟨v2, rfl, ho, hb⟩
    clear P0_18
    clear P1_18
    obtain ⟨b2, q2, rfl, s2, _⟩ := own_formL ho
    have U_19 := hide (U_18.out.below hb)
    have H_19 := hide (H_18.out.below hb)
    have B_19 := hide (B_18.out.trans (hb.mono B_18.out.size))
    have Z_19 := hide hb.size
    have V_19 := hide s2
    clear hb U_18 H_18 ho s2
    go_wp2_with fail
    refine (eqLabelS_same _ _ ys m _ _ _ HM.out V_19.out U_19.out hm2).mono ?_
    rintro e w20 ⟨rfl, hb⟩
    have U_20 := hide (U_19.out.below hb)
    have H_20 := hide (H_19.out.below hb)
    have V_20 := hide (V_19.out.below hb)
    have B_20 := hide (B_19.out.trans (hb.mono B_19.out.size))
    have Z_20 := hide hb.size
    clear hb U_19 H_19 V_19 
    clear V_20
    clear U_20
    go_wp2_with fail
    refine (heldLabelS_any _ m _ _ hm2 H_20.out).mono ?_
    rintro e w21 ⟨rfl, hb⟩
    have H_21 := hide (H_20.out.below hb)
    have B_21 := hide (B_20.out.trans (hb.mono B_20.out.size))
    have Z_21 := hide hb.size
    clear hb H_20 
    go_wp2
    go_ret
    exact ⟨rfl, HFIN.out _ B_21.out⟩
  · have C0 := hide (szLabelS_any a0 z0 len0 cap0 1048576 w HN.out hm HS.out HST.out (by omega) (by omega) _ (if_neg hwt).symm)
    go_enter Try.func6, Try.ntmps6
    go_wp2_with fail
    refine C0.out.mono ?_
    rintro e w1 ⟨rfl, hb1⟩
    go_wp2
    go_ret
    exact ⟨rfl, hb1⟩
end Go.Proofs.Ytohcjafklfemfal.fnExactKeepLabels
