/-
  The walk of the law FnExactEvalQuery: it returns true at all series and every list of parts; memory that was there stays as it was.
-/
import Derived.Test.YthicdnkngpiccaxL4SpecEval
import Derived.Test.YthicdnkngpiccaxL4SerLists
import Derived.Test.YthicdnkngpiccaxL4QuMarks
import Derived.Test.YthicdnkngpiccaxL1Eq
import Derived.Test.YthicdnkngpiccaxL1Marks
namespace Go.Proofs.Ythicdnkngpiccax.fnExactEvalQuery
open Go.RowKit L1 L3 L4
set_option linter.unusedVariables false

theorem below_only {w wk wk' : World} {lo hi : Nat} (h : Below w.heap.size w wk) (hb : Only lo hi wk wk') (hB : w.heap.size < lo) : Below w.heap.size w wk' :=
  h.trans ⟨hb.os, hb.tape, hb.output, hb.size, fun k hk => hb.block k (Nat.lt_of_lt_of_le hk h.size) (.inl (Nat.lt_trans hk hB))⟩
theorem sl_only {w w' : World} {a : Option Addr} {xs : List Int} {lo hi : Nat} (h : Sl w a xs) (hb : Only lo hi w w') (hlt : ∀ z, a = some z → z.block < lo ∨ hi ≤ z.block) : Sl w' a xs := fun i hi' => by
  obtain ⟨b, off, ha, hc⟩ := h i hi'
  exact ⟨b, off, ha, (hb.cell (p := ⟨b, off + i, none⟩) (blk_lt hc) (hlt ⟨b, off, none⟩ ha)).trans hc⟩
theorem sl_len {w : World} {B n : Nat} {ls : List (List Lb)} {g : Nat → Nat} (hn : ls.length = n) (h : OwnS w B ls g n) : OwnS w B ls g ls.length := by rw [hn]; exact h

set_option maxRecDepth 100000 in
set_option maxHeartbeats 16000000 in
theorem walk (a0 : Option Addr) (len0 cap0 : Nat) (ls : List (List Lb)) (a1 : Option Addr) (len1 cap1 : Nat) (qs : List Qr) (w : World) (w0 : IsRowS w a0 len0 ls) (w1 : IsRowQ w a1 len1 qs) :
    Calls Try.prog 4 #[.slice a0 len0 cap0, .slice a1 len1 cap1] w fun e w' => e = .returned (.bool true) ∧ Below w.heap.size w w' := by
  obtain ⟨⟨hn, hm0, hs⟩, hst⟩ := w0
  obtain ⟨⟨hm, hm1, hq⟩, hqt⟩ := w1
  unfold maxLen at hm0 hm1
  have HS := hide hs
  have HN := hide hn
  have HQ := hide hq
  have HM1 := hide hm
  have C00 := hide (fun r hr => szLabelSS_any a0 ls len0 cap0 1048576 w hn (by omega) hs hst (by omega) (by omega) r hr)
  have HST := hide hst
  have HQT := hide hqt
  clear hs hn hst hm hq hqt
  by_cases hfit : (wtS ls : Int) ≤ 1048576
  · have C01 := hide (fun w hq r hr => szQueryS_any a1 qs len1 cap1 (1048576 - (wtS ls : Int)) w HM1.out (by omega) hq HQT.out (by omega) (by omega) r hr)
    have hk0 : ¬ (1048576 - (wtS ls : Int)) < 0 := by omega
    by_cases hfit2 : (wt (labs qs) : Int) ≤ 1048576 - (wtS ls : Int)
    · have hk1 : ¬ (1048576 - (wtS ls : Int) - (wt (labs qs) : Int)) < 0 := by omega
      have hsz : len0 ≤ 1048576 := by have := HN.out; unfold wtS at hfit; omega
      have hsq : len1 ≤ 1048576 := by have := HM1.out; unfold wt at hfit2; rw [labs_len] at hfit2; omega
      have hwts : wts ls ≤ 1048576 := by unfold wtS at hfit; omega
      have hls : ∀ i, i < ls.length → (ls.getD i []).length ≤ 1048576 := fun i hi => by
        have := wts_get ls i hi
        unfold wt at this
        omega
      have HLS := hide hls
      obtain ⟨r, hr⟩ : ∃ r, r = evRes ls qs := ⟨_, rfl⟩
      have c1 := fun a cap b cap2 w hs hq => specEval_any a ls len0 cap b qs len1 cap2 w HN.out hs hsz HST.out hls HM1.out hq hsq HQT.out r hr
      have c2 := fun a cap b cap2 w hs hq => implEval_any a ls len0 cap b qs len1 cap2 w HN.out hs hsz HST.out hls HM1.out hq hsq HQT.out r hr
      have hle := evRes_len ls qs
      rw [← hr] at hle
      obtain ⟨zs, hz⟩ : ∃ zs, zs = r.getD [] := ⟨_, rfl⟩
      obtain ⟨m, hmm⟩ : ∃ m, m = zs.length := ⟨_, rfl⟩
      obtain ⟨ok, hok⟩ : ∃ ok, ok = r.isSome := ⟨_, rfl⟩
      simp only [RetL, ← hz, ← hmm, ← hok] at c1 c2
      rw [← hz, ← hmm] at hle
      have hm2 : m ≤ 1048576 := by omega
      have hq1 : ¬ (1 + (m : Int)) < 0 := by omega
      have C1 := hide c1
      have C2 := hide c2
      have HM := hide hmm.symm
      clear c1 c2 hr hz hmm hok hls
      go_enter Try.func4, Try.ntmps4
      go_wp2_with fail
      refine (C00.out (1048576 - (wtS ls : Int)) (by rw [if_pos (by omega)])).mono ?_
      rintro e w1 ⟨rfl, hb⟩
      have Z_1 := hide hb.size
      have B_1 := hide hb
      clear hb
      go_wp2_with fail
      refine (C01.out _ (HQ.out.below B_1.out) (1048576 - (wtS ls : Int) - (wt (labs qs) : Int)) (by rw [if_pos (by omega)])).mono ?_
      rintro e w2 ⟨rfl, hb⟩
      have Z_2 := hide hb.size
      have B_2 := hide (B_1.out.trans (hb.mono B_1.out.size))
      clear B_1
      clear hb
      go_wp2_with fail
      refine (toLabelSS_any a0 ls len0 cap0 _ HN.out (HS.out.below B_2.out) hsz HLS.out).mono ?_
      rintro e w3 ⟨rfl, ⟨gq, ho⟩, _, hb⟩
      have Z_3 := hide hb.size
      have B_3 := hide (B_2.out.trans (hb.mono B_2.out.size))
      clear B_2
      have PS_3 := hide (sl_len HN.out ho).sl
      clear ho
      clear hb
      go_wp2_with fail
      refine (toQueryS_any a1 qs len1 cap1 _ HM1.out (HQ.out.below B_3.out) hsq).mono ?_
      rintro e w4 ⟨rfl, ho, hb⟩
      have Z_4 := hide hb.size
      have B_4 := hide (B_3.out.trans (hb.mono B_3.out.size))
      clear B_3
      have PS_4 := hide (PS_3.out.below hb)
      clear PS_3
      have PQ_4 := hide (own_slQ ho)
      clear ho
      clear hb
      go_wp2_with fail
      refine (C1.out _ _ _ _ _ PS_4.out PQ_4.out).mono ?_
      rintro e w5 ⟨v0, rfl, ho, hb⟩
      have Z_5 := hide hb.size
      have B_5 := hide (B_4.out.trans (hb.mono B_4.out.size))
      clear B_4
      have PS_5 := hide (PS_4.out.below hb)
      clear PS_4
      have PQ_5 := hide (PQ_4.out.below hb)
      clear PQ_4
      obtain ⟨b0, q0, rfl, s0, _⟩ := own_form ho
      have U_5 := hide s0
      have KU := hide (fun (z : Addr) (hz : b0 = some z) => (ho.lt z.block (by rw [hz]; rfl)).2)
      have HSZ5 := hide B_5.out.size
      clear ho s0
      clear hb
      clear PS_5 PQ_5
      go_wp2_with fail
      refine (toLabelSS_any a0 ls len0 cap0 _ HN.out (HS.out.below B_5.out) hsz HLS.out).mono ?_
      rintro e w6 ⟨rfl, ⟨gx, ho⟩, hnew, hb⟩
      have Z_6 := hide hb.size
      have B_6 := hide (B_5.out.trans (hb.mono B_5.out.size))
      clear B_5
      have U_6 := hide (U_5.out.below hb)
      clear U_5
      have X_6 := hide ho
      have LX := hide (fun i hi => ho.lt i hi)
      have BX := hide hnew
      clear ho hnew
      clear hb
      go_wp2_with fail
      refine (toQueryS_any a1 qs len1 cap1 _ HM1.out (HQ.out.below B_6.out) hsq).mono ?_
      rintro e w7 ⟨rfl, ho, hb⟩
      have Z_7 := hide hb.size
      have B_7 := hide (B_6.out.trans (hb.mono B_6.out.size))
      clear B_6
      have U_7 := hide (U_6.out.below hb)
      clear U_6
      have X_7 := hide (X_6.out.below hb)
      clear X_6
      have Y_7 := hide ho
      have LY := hide ((ho.lt w6.heap.size rfl).2)
      clear ho
      clear hb
      go_wp2_with fail
      refine (C2.out _ _ _ _ _ (sl_len HN.out X_7.out).sl (own_slQ Y_7.out)).mono ?_
      rintro e w8 ⟨v1, rfl, ho, hb⟩
      have Z_8 := hide hb.size
      have B_8 := hide (B_7.out.trans (hb.mono B_7.out.size))
      clear B_7
      have U_8 := hide (U_7.out.below hb)
      clear U_7
      have X_8 := hide (X_7.out.below hb)
      clear X_7
      have Y_8 := hide (L4.own_belowT Y_7.out hb)
      clear Y_7
      obtain ⟨b1, q1, rfl, _, _⟩ := own_form ho
      have G_8 := hide ho
      clear ho
      clear hb
      go_wp2_with fail
      refine (eqIntS_same _ _ zs m _ _ _ HM.out (own_slI G_8.out) U_8.out hm2).mono ?_
      rintro e w9 ⟨rfl, hb⟩
      have Z_9 := hide hb.size
      have B_9 := hide (B_8.out.trans (hb.mono B_8.out.size))
      clear B_8
      have U_9 := hide (U_8.out.below hb)
      clear U_8
      have X_9 := hide (X_8.out.below hb)
      clear X_8
      have Y_9 := hide (L4.own_belowT Y_8.out hb)
      clear Y_8
      have G_9 := hide (L4.own_belowT G_8.out hb)
      clear G_8
      clear hb
      go_wp2_with fail
      refine (toLabelSS_any a0 ls len0 cap0 _ HN.out (HS.out.below B_9.out) hsz HLS.out).mono ?_
      rintro e w10 ⟨rfl, ⟨gy, ho⟩, _, hb⟩
      have Z_10 := hide hb.size
      have B_10 := hide (B_9.out.trans (hb.mono B_9.out.size))
      clear B_9
      have U_10 := hide (U_9.out.below hb)
      clear U_9
      have X_10 := hide (X_9.out.below hb)
      clear X_9
      have Y_10 := hide (L4.own_belowT Y_9.out hb)
      clear Y_9
      have G_10 := hide (L4.own_belowT G_9.out hb)
      clear G_9
      have T_10 := hide (sl_len HN.out ho).sl
      clear ho
      clear hb
      go_wp2_with fail
      refine (eqLabelSS_same _ _ ls len0 _ _ _ HN.out (sl_len HN.out X_10.out).sl T_10.out hsz HLS.out).mono ?_
      rintro e w11 ⟨rfl, hb⟩
      have Z_11 := hide hb.size
      have B_11 := hide (B_10.out.trans (hb.mono B_10.out.size))
      clear B_10
      have U_11 := hide (U_10.out.below hb)
      clear U_10
      have X_11 := hide (X_10.out.below hb)
      clear X_10
      have Y_11 := hide (L4.own_belowT Y_10.out hb)
      clear Y_10
      have G_11 := hide (L4.own_belowT G_10.out hb)
      clear G_10
      have T_11 := hide (T_10.out.below hb)
      clear T_10
      clear hb
      clear T_11
      go_wp2_with fail
      refine (toQueryS_any a1 qs len1 cap1 _ HM1.out (HQ.out.below B_11.out) hsq).mono ?_
      rintro e w12 ⟨rfl, ho, hb⟩
      have Z_12 := hide hb.size
      have B_12 := hide (B_11.out.trans (hb.mono B_11.out.size))
      clear B_11
      have U_12 := hide (U_11.out.below hb)
      clear U_11
      have X_12 := hide (X_11.out.below hb)
      clear X_11
      have Y_12 := hide (L4.own_belowT Y_11.out hb)
      clear Y_11
      have G_12 := hide (L4.own_belowT G_11.out hb)
      clear G_11
      have T_12 := hide (own_slQ ho)
      clear ho
      clear hb
      go_wp2_with fail
      refine (eqQueryS_same _ _ qs len1 _ _ _ HM1.out (own_slQ Y_12.out) T_12.out hsq).mono ?_
      rintro e w13 ⟨rfl, hb⟩
      have Z_13 := hide hb.size
      have B_13 := hide (B_12.out.trans (hb.mono B_12.out.size))
      clear B_12
      have U_13 := hide (U_12.out.below hb)
      clear U_12
      have X_13 := hide (X_12.out.below hb)
      clear X_12
      have Y_13 := hide (L4.own_belowT Y_12.out hb)
      clear Y_12
      have G_13 := hide (L4.own_belowT G_12.out hb)
      clear G_12
      have T_13 := hide (T_12.out.below hb)
      clear T_12
      clear hb
      clear T_13
      go_wp2_with fail
      refine (markLabelSS_any w5.heap.size ls gx len0 w6.heap.size _ HN.out hsz hwts X_13.out LX.out (Nat.lt_of_lt_of_le BX.out (Nat.le_trans (Nat.le_trans (Nat.le_trans (Nat.le_trans (Nat.le_trans (Nat.le_trans Z_7.out Z_8.out) Z_9.out) Z_10.out) Z_11.out) Z_12.out) Z_13.out))).mono ?_
      rintro e w14 ⟨⟨kk, hkk, rfl⟩, hb⟩
      have Z_14 := hide hb.size
      have B_14 := hide (below_only B_13.out hb (Nat.lt_succ_of_le HSZ5.out))
      clear B_13
      have U_14 := hide (sl_only U_13.out hb (fun z hz => .inl (Nat.lt_succ_of_lt (KU.out z hz))))
      clear U_13
      have G_14 := hide (hb.row G_13.out Z_7.out)
      clear G_13
      have Y_14 := hide (hb.row Y_13.out (Nat.le_refl _))
      clear Y_13
      clear hb X_13
      go_wp2_with fail
      refine (markQueryS_from w6.heap.size _ qs len1 _ kk hkk.1 (by omega) hsq Y_14.out (Nat.le_trans (Nat.le_trans (Nat.le_trans (Nat.le_trans (Nat.le_trans (Nat.le_trans (Nat.le_trans Z_7.out Z_8.out) Z_9.out) Z_10.out) Z_11.out) Z_12.out) Z_13.out) Z_14.out)).mono ?_
      rintro e w15 ⟨rfl, _, hb, hg⟩
      have hkq : ¬ (kk + 5 * (len1 : Int)) < 0 := by omega
      have Z_15 := hide hb.size
      have B_15 := hide (B_14.out.trans (hb.mono (Nat.le_trans HSZ5.out Z_6.out)))
      clear B_14
      have U_15 := hide (sl_baseI U_14.out hb (fun z hz => Nat.lt_of_lt_of_le (KU.out z hz) Z_6.out))
      clear U_14
      have G_15 := hide (G_14.out.kept hg (L4.own_neG G_14.out LY.out))
      clear G_14
      clear hb hg Y_14
      go_wp2_with fail
      refine (eqIntS_same _ _ zs m _ _ _ HM.out (own_slI G_15.out) U_15.out hm2).mono ?_
      rintro e w16 ⟨rfl, hb⟩
      have Z_16 := hide hb.size
      have B_16 := hide (B_15.out.trans (hb.mono B_15.out.size))
      clear B_15
      have U_16 := hide (U_15.out.below hb)
      clear U_15
      have G_16 := hide (L4.own_belowT G_15.out hb)
      clear G_15
      clear hb
      go_wp2_with fail
      refine (markIntS_all w7.heap.size _ zs m _ hm2 G_16.out).mono ?_
      rintro e w17 ⟨rfl, ho, hb, hg⟩
      have Z_17 := hide hb.size
      have B_17 := hide (B_16.out.trans (hb.mono (Nat.le_trans HSZ5.out (Nat.le_trans Z_6.out Z_7.out))))
      clear B_16
      have U_17 := hide (sl_baseI U_16.out hb (fun z hz => Nat.lt_of_lt_of_le (KU.out z hz) (Nat.le_trans Z_6.out Z_7.out)))
      clear U_16
      have H_17 := hide (own_slI ho)
      clear ho hb hg G_16
      go_wp2_with fail
      refine (heldIntS_any _ m _ _ hm2 H_17.out).mono ?_
      rintro e w18 ⟨rfl, hb⟩
      have Z_18 := hide hb.size
      have B_18 := hide (B_17.out.trans (hb.mono B_17.out.size))
      clear B_17
      have U_18 := hide (U_17.out.below hb)
      clear U_17
      have H_18 := hide (H_17.out.below hb)
      clear H_17
      clear hb
      go_wp2_with fail
      refine (toLabelSS_any a0 ls len0 cap0 _ HN.out (HS.out.below B_18.out) hsz HLS.out).mono ?_
      rintro e w19 ⟨rfl, ⟨gq, ho⟩, _, hb⟩
      have Z_19 := hide hb.size
      have B_19 := hide (B_18.out.trans (hb.mono B_18.out.size))
      clear B_18
      have U_19 := hide (U_18.out.below hb)
      clear U_18
      have H_19 := hide (H_18.out.below hb)
      clear H_18
      have PS_19 := hide (sl_len HN.out ho).sl
      clear ho
      clear hb
      go_wp2_with fail
      refine (toQueryS_any a1 qs len1 cap1 _ HM1.out (HQ.out.below B_19.out) hsq).mono ?_
      rintro e w20 ⟨rfl, ho, hb⟩
      have Z_20 := hide hb.size
      have B_20 := hide (B_19.out.trans (hb.mono B_19.out.size))
      clear B_19
      have U_20 := hide (U_19.out.below hb)
      clear U_19
      have H_20 := hide (H_19.out.below hb)
      clear H_19
      have PS_20 := hide (PS_19.out.below hb)
      clear PS_19
      have PQ_20 := hide (own_slQ ho)
      clear ho
      clear hb
      go_wp2_with fail
      refine (C2.out _ _ _ _ _ PS_20.out PQ_20.out).mono ?_
      rintro e w21 ⟨v2, rfl, ho, hb⟩
      have Z_21 := hide hb.size
      have B_21 := hide (B_20.out.trans (hb.mono B_20.out.size))
      clear B_20
      have U_21 := hide (U_20.out.below hb)
      clear U_20
      have H_21 := hide (H_20.out.below hb)
      clear H_20
      have PS_21 := hide (PS_20.out.below hb)
      clear PS_20
      have PQ_21 := hide (PQ_20.out.below hb)
      clear PQ_20
      obtain ⟨b2, q2, rfl, s2, _⟩ := own_form ho
      have V_21 := hide s2
      clear ho s2
      clear hb
      clear PS_21 PQ_21
      go_wp2_with fail
      refine (eqIntS_same _ _ zs m _ _ _ HM.out V_21.out U_21.out hm2).mono ?_
      rintro e w22 ⟨rfl, hb⟩
      have Z_22 := hide hb.size
      have B_22 := hide (B_21.out.trans (hb.mono B_21.out.size))
      clear B_21
      have U_22 := hide (U_21.out.below hb)
      clear U_21
      have H_22 := hide (H_21.out.below hb)
      clear H_21
      have V_22 := hide (V_21.out.below hb)
      clear V_21
      clear hb
      go_wp2_with fail
      refine (heldIntS_any _ m _ _ hm2 H_22.out).mono ?_
      rintro e w23 ⟨rfl, hb⟩
      have Z_23 := hide hb.size
      have B_23 := hide (B_22.out.trans (hb.mono B_22.out.size))
      clear B_22
      have U_23 := hide (U_22.out.below hb)
      clear U_22
      have H_23 := hide (H_22.out.below hb)
      clear H_22
      have V_23 := hide (V_22.out.below hb)
      clear V_22
      clear hb
      go_wp2
      go_ret
      exact ⟨rfl, B_23.out⟩
    · go_enter Try.func4, Try.ntmps4
      go_wp2_with fail
      refine (C00.out (1048576 - (wtS ls : Int)) (by rw [if_pos (by omega)])).mono ?_
      rintro e w1 ⟨rfl, hb⟩
      have B_1 := hide hb
      clear hb
      go_wp2_with fail
      refine (C01.out _ (HQ.out.below B_1.out) (-1) (by rw [if_neg (by omega)])).mono ?_
      rintro e w2 ⟨rfl, hb⟩
      have B_2 := hide (B_1.out.trans (hb.mono B_1.out.size))
      clear hb
      go_wp2
      go_ret
      exact ⟨rfl, B_2.out⟩
  · go_enter Try.func4, Try.ntmps4
    go_wp2_with fail
    refine (C00.out (-1) (by rw [if_neg (by omega)])).mono ?_
    rintro e w1 ⟨rfl, hb⟩
    go_wp2
    go_ret
    exact ⟨rfl, hb⟩
end Go.Proofs.Ythicdnkngpiccax.fnExactEvalQuery
