/-
  The walk of the law FnExactFeedHeavy: it returns true at every number of places and every list of texts; memory that was there stays as it was.
-/
import Derived.Test.YticgejaaoamhmaoBundle5
import Derived.Test.YticgejaaoamhmaoBundle6
import Derived.Test.YticgejaaoamhmaoBundle7
import Derived.Deep.DeepCutAuto
namespace Go.Proofs.Yticgejaaoamhmao.fnExactFeedHeavy
open Go.RowKit L1 L4 Own Str L15H
set_option linter.unusedVariables false

open Classical in
set_option maxRecDepth 100000 in
set_option maxHeartbeats 8000000 in
theorem walk (a0 : Int) (a1 : Option Addr) (len1 cap1 : Nat) (z1 : List ByteArray) (w : World) (w0 : (Lit.int .i64 a0).wf = true) (w1 : Str.IsRowS w a1 len1 z1) :
    Calls Try.prog 5 #[.int .i64 a0, .slice a1 len1 cap1] w fun e w' => e = .returned (.bool true) ∧ Below w.heap.size w w' := by
  clear w0
  obtain ⟨⟨hn1, hm1, hs1⟩, hst1⟩ := w1
  have HS1 := hide hs1
  have HN1 := hide hn1
  have HST1 := hide hst1
  unfold maxLen at hm1
  clear hs1 hn1 hst1
  by_cases hwt : (wtS z1 : Int) ≤ 1048576
  rotate_left
  · have CZ := hide (szStringS_any a1 z1 len1 cap1 1048576 w HN1.out (by omega) HS1.out HST1.out (by omega) (by omega) (-1) (if_neg hwt).symm)
    go_enter Try.func5, Try.ntmps5
    go_wp2_with fail
    refine CZ.out.mono ?_
    rintro e u9 ⟨rfl, hb⟩
    have B9 := hide hb
    clear hb
    go_wp2
    go_ret
    exact ⟨rfl, B9.out⟩
  obtain ⟨Z1, hZ1⟩ : ∃ x, x = 1048576 - (wtS z1 : Int) := ⟨_, rfl⟩
  have hZn : ¬ Z1 < 0 := by omega
  have hZl : Z1 ≤ 1048576 := by omega
  have hsz : len1 ≤ 1048576 := by unfold wtS at hwt; rw [HN1.out] at hwt; omega
  have CZ := hide (szStringS_any a1 z1 len1 cap1 1048576 w HN1.out (by omega) HS1.out HST1.out (by omega) (by omega) Z1 (by rw [if_pos hwt]; exact hZ1))
  have htx : ∀ i, i < z1.length → (z1.getD i e0).size ≤ 9223372036854775807 := fun i hi => by have := HST1.out i hi; unfold maxLen at this; omega
  have hyn : ¬ (1 + (len1 : Int)) < 0 := by omega
  have CMX := hide (fun base v wx (ho : wx.ownsRow base 9 1 v len1 (mapS z1)) hb => markStringS_from base v z1 len1 wx 1 (by omega) (by omega) hsz ho hb)
  obtain ⟨ok, L, hsm⟩ := fed_ex a0 z1
  have hlen := fed_len hsm
  have hoo : (ok != ok) = false := by simp
  have C1 := hide (fun wx a c hs => sFeedHeavy_any a0 a z1 len1 c wx HN1.out hs hsz htx ok L hsm)
  have C2 := hide (fun wx a c hs => feedHeavy_any a0 a z1 len1 c wx HN1.out hs hsz htx ok L hsm)
  have CE := hide (fun a c b d a2 c2 b2 d2 wx h1 h2 => eqHeavy_same a L.nm.length c b L.ct.length d a2 c2 b2 d2 L.g L.t L wx h1 h2 (by omega) (by omega))
  have CM := hide (fun base hi v u wx hbs iv iu ho => markHeavy_any base hi v u L.nm.length L.ct.length L.g L.t L wx 1 (by omega) (by omega) (by omega) (by omega) hbs iv iu ho)
  have CH := hide (fun a c b d wx hf => heldHeavy_any a L.nm.length c b L.ct.length d L.g L.t L wx 1 (by omega) (by omega) (by omega) (by omega) hf)
  obtain ⟨nL, hnL⟩ : ∃ n, n = L.nm.length := ⟨_, rfl⟩
  obtain ⟨mL, hmL⟩ : ∃ n, n = L.ct.length := ⟨_, rfl⟩
  obtain ⟨gL, hgL⟩ : ∃ n, n = L.g := ⟨_, rfl⟩
  obtain ⟨tL, htL⟩ : ∃ n, n = L.t := ⟨_, rfl⟩
  have HNL := hide hnL
  have HML := hide hmL
  have HGL := hide hgL
  have HTL := hide htL
  rw [← hnL, ← hmL, ← hgL, ← htL] at CE CM CH
  rw [← hgL, ← htL] at C1 C2
  obtain ⟨kk, hkk0⟩ : ∃ kk, kk = 1 + (nL : Int) + (mL : Int) := ⟨_, rfl⟩
  have hkn : ¬ kk < 0 := by omega
  have hkk : (kk != kk) = false := by simp
  rw [← hkk0] at CM CH
  clear hkk0 hnL hmL hgL htL hsm hlen htx hwt hZ1 hm1
  have BB0 := hide (Below.refl w.heap.size w)
  go_enter Try.func5, Try.ntmps5
  go_wp2_with fail
  refine CZ.out.mono ?_
  rintro e w_1 ⟨rfl, hb⟩
  have BB_2 := hide (BB0.out.trans (hb.mono BB0.out.size))
  clear BB0
  clear hb
  go_wp2_with fail
  refine (toStringS_any a1 z1 len1 cap1 _ HN1.out (HS1.out.below BB_2.out) hsz).mono ?_
  rintro e w_3 ⟨rfl, ho, hb⟩
  have TS_4 := hide (own_slS ho)
  have BB_5 := hide (BB_2.out.trans (hb.mono BB_2.out.size))
  clear BB_2
  clear hb ho
  go_wp2_with fail
  refine (C1.out _ _ _ TS_4.out).mono ?_
  rintro e u_6 ⟨v, u, rfl, hr⟩
  obtain ⟨⟨aNS_7, cNS_8, aCS_9, cCS_10, hv, hu, hG⟩, hb⟩ := hg_made hr
  rw [← HNL.out, ← HML.out] at hG
  rw [← HNL.out] at hv
  rw [← HML.out] at hu
  subst hv
  subst hu
  rw [← HGL.out, ← HTL.out] at hG
  have hA := hb.alloc hb.size (hvO (.slice aNS_7 nL cNS_8) (.slice aCS_9 mL cCS_10) gL tL)
  obtain ⟨wS_11, hwA⟩ : ∃ x, x = u_6.alloc (hvO (.slice aNS_7 nL cNS_8) (.slice aCS_9 mL cCS_10) gL tL) := ⟨_, rfl⟩
  obtain ⟨bS_12, hb1⟩ : ∃ x, x = u_6.heap.size := ⟨_, rfl⟩
  rw [← hwA] at hG hA
  rw [← hb1] at hG
  have HW_13 := hide hwA
  have HB_14 := hide hb1
  have GS_15 := hide hG
  have BB_16 := hide (BB_5.out.trans (hA.mono BB_5.out.size))
  clear BB_5
  clear hwA hb1 hG hA hb hr
  go_upto_region 6 with fail
  rw [← HW_13.out, ← HB_14.out]
  clear TS_4
  have LBX := hide BB_16.out.size
  have LTSX := hide GS_15.out.lt
  go_wp2_with fail
  refine (toStringS_any a1 z1 len1 cap1 _ HN1.out (HS1.out.below BB_16.out) hsz).mono ?_
  rintro e w_17 ⟨rfl, ho, hb⟩
  have TS_18 := hide ho
  have LX := hide ((ho.lt wS_11.heap.size rfl).2)
  have GS_19 := hide (GS_15.out.below hb)
  clear GS_15
  have BB_20 := hide (BB_16.out.trans (hb.mono BB_16.out.size))
  clear BB_16
  clear hb ho
  have LBG := hide BB_20.out.size
  have LTSG := hide GS_19.out.lt
  go_wp2_with fail
  refine (C2.out _ _ _ (own_slS TS_18.out)).mono ?_
  rintro e u_21 ⟨v, u, rfl, hr⟩
  obtain ⟨⟨aNG_22, cNG_23, aCG_24, cCG_25, hv, hu, hG⟩, hb⟩ := hg_made hr
  rw [← HNL.out, ← HML.out] at hG
  rw [← HNL.out] at hv
  rw [← HML.out] at hu
  subst hv
  subst hu
  rw [← HGL.out, ← HTL.out] at hG
  have hA := hb.alloc hb.size (hvO (.slice aNG_22 nL cNG_23) (.slice aCG_24 mL cCG_25) gL tL)
  obtain ⟨wG_26, hwA⟩ : ∃ x, x = u_21.alloc (hvO (.slice aNG_22 nL cNG_23) (.slice aCG_24 mL cCG_25) gL tL) := ⟨_, rfl⟩
  obtain ⟨bG_27, hb1⟩ : ∃ x, x = u_21.heap.size := ⟨_, rfl⟩
  rw [← hwA] at hG hA
  rw [← hb1] at hG
  have HW_28 := hide hwA
  have HB_29 := hide hb1
  have GG_30 := hide hG
  have GS_31 := hide (GS_19.out.below hA)
  clear GS_19
  have RW_32 := hide (own_belO TS_18.out hA)
  clear TS_18
  have BB_33 := hide (BB_20.out.trans (hA.mono BB_20.out.size))
  clear BB_20
  clear hwA hb1 hG hA hb hr
  go_upto_region 8 with fail
  rw [← HW_28.out, ← HB_29.out]
  have bxf : wG_26.heap[bG_27]? = some (hvO (.slice aNG_22 nL cNG_23) (.slice aCG_24 mL cCG_25) gL tL) := by rw [HGL.out, HTL.out]; exact GG_30.out.box
  obtain ⟨k_34, k_35, k_36, k_37⟩ := blk4 bxf
  clear bxf
  have bxf : wG_26.heap[bS_12]? = some (hvO (.slice aNS_7 nL cNS_8) (.slice aCS_9 mL cCS_10) gL tL) := by rw [HGL.out, HTL.out]; exact GS_31.out.box
  obtain ⟨k_38, k_39, k_40, k_41⟩ := blk4 bxf
  clear bxf
  go_wp2_with fail
  refine (CE.out _ _ _ _ _ _ _ _ _ GG_30.out.ow.hf GS_31.out.ow.hf).mono ?_
  rintro e w_42 ⟨rfl, hb⟩
  clear k_34 k_35 k_36 k_37 k_38 k_39 k_40 k_41
  have GS_43 := hide (GS_31.out.below hb)
  clear GS_31
  have GG_44 := hide (GG_30.out.below hb)
  clear GG_30
  have RW_45 := hide (own_belO RW_32.out hb)
  clear RW_32
  have BB_46 := hide (BB_33.out.trans (hb.mono BB_33.out.size))
  clear BB_33
  clear hb
  go_wp2_with fail
  refine (toStringS_any a1 z1 len1 cap1 _ HN1.out (HS1.out.below BB_46.out) hsz).mono ?_
  rintro e w_47 ⟨rfl, ho, hb⟩
  have TS_48 := hide (own_slS ho)
  have GS_49 := hide (GS_43.out.below hb)
  clear GS_43
  have GG_50 := hide (GG_44.out.below hb)
  clear GG_44
  have RW_51 := hide (own_belO RW_45.out hb)
  clear RW_45
  have BB_52 := hide (BB_46.out.trans (hb.mono BB_46.out.size))
  clear BB_46
  clear hb ho
  go_wp2_with fail
  refine (eqStringS_same _ _ z1 len1 _ _ _ HN1.out (own_slS RW_51.out) TS_48.out hsz).mono ?_
  rintro e w_53 ⟨rfl, hb⟩
  clear TS_48
  have GS_54 := hide (GS_49.out.below hb)
  clear GS_49
  have GG_55 := hide (GG_50.out.below hb)
  clear GG_50
  have RW_56 := hide (own_belO RW_51.out hb)
  clear RW_51
  have BB_57 := hide (BB_52.out.trans (hb.mono BB_52.out.size))
  clear BB_52
  clear hb
  have hbx : wS_11.heap.size ≤ w_53.heap.size := Nat.le_trans (Nat.le_of_lt LX.out) (Nat.le_trans GG_55.out.bs (Nat.le_of_lt GG_55.out.lt))
  go_wp2_with fail
  refine (CMX.out (wS_11.heap.size) _ _ RW_56.out hbx).mono ?_
  rintro e w_58 ⟨rfl, _, hbm, hgm⟩
  have hon : L8.Only (wS_11.heap.size) (w_17.heap.size) w_53 w_58 := (L8.Only.refl _ _ _).grown hgm (fun q hq => by cases hq; exact ⟨Nat.le_refl _, LX.out⟩)
  have GS_59 := hide (GS_54.out.only hon (.inl (LTSX.out)))
  clear GS_54
  have GG_60 := hide (GG_55.out.only hon (.inr (Nat.le_refl _)))
  clear GG_55
  have BB_61 := hide (BB_57.out.trans (hbm.mono LBX.out))
  clear hon hbm hgm hbx BB_57 RW_56
  have bxf : w_58.heap[bG_27]? = some (hvO (.slice aNG_22 nL cNG_23) (.slice aCG_24 mL cCG_25) gL tL) := by rw [HGL.out, HTL.out]; exact GG_60.out.box
  obtain ⟨k_62, k_63, k_64, k_65⟩ := blk4 bxf
  clear bxf
  have bxf : w_58.heap[bS_12]? = some (hvO (.slice aNS_7 nL cNS_8) (.slice aCS_9 mL cCS_10) gL tL) := by rw [HGL.out, HTL.out]; exact GS_59.out.box
  obtain ⟨k_66, k_67, k_68, k_69⟩ := blk4 bxf
  clear bxf
  go_wp2_with fail
  refine (CE.out _ _ _ _ _ _ _ _ _ GG_60.out.ow.hf GS_59.out.ow.hf).mono ?_
  rintro e w_70 ⟨rfl, hb⟩
  clear k_62 k_63 k_64 k_65 k_66 k_67 k_68 k_69
  have GS_71 := hide (GS_59.out.below hb)
  clear GS_59
  have GG_72 := hide (GG_60.out.below hb)
  clear GG_60
  have BB_73 := hide (BB_61.out.trans (hb.mono BB_61.out.size))
  clear BB_61
  clear hb
  have bxf : w_70.heap[bG_27]? = some (hvO (.slice aNG_22 nL cNG_23) (.slice aCG_24 mL cCG_25) gL tL) := by rw [HGL.out, HTL.out]; exact GG_72.out.box
  obtain ⟨k_74, k_75, k_76, k_77⟩ := blk4 bxf
  clear bxf
  go_wp2_with fail
  refine (CM.out (w_17.heap.size) bG_27 _ _ _ (Nat.le_trans GG_72.out.bs (Nat.le_of_lt GG_72.out.lt)) GG_72.out.iv GG_72.out.iu GG_72.out.ow).mono ?_
  rintro e w_78 ⟨rfl, how, hon⟩
  clear k_74 k_75 k_76 k_77
  have GG_79 := hide (GG_72.out.marked hon how rfl rfl)
  have GS_80 := hide (GS_71.out.only hon (.inl (LTSG.out)))
  clear GS_71
  have BB_81 := hide (BB_73.out.trans ((hon.below (Nat.le_trans GG_72.out.bs (Nat.le_of_lt GG_72.out.lt))).mono LBG.out))
  clear hon how GG_72 BB_73
  have bxf : w_78.heap[bG_27]? = some (hvO (.slice aNG_22 nL cNG_23) (.slice aCG_24 mL cCG_25) gL tL) := by rw [HGL.out, HTL.out]; exact GG_79.out.box
  obtain ⟨k_82, k_83, k_84, k_85⟩ := blk4 bxf
  clear bxf
  go_wp2_with fail
  refine (CH.out _ _ _ _ _ GG_79.out.ow.hf).mono ?_
  rintro e w_86 ⟨rfl, hb⟩
  clear k_82 k_83 k_84 k_85
  have GS_87 := hide (GS_80.out.below hb)
  clear GS_80
  have GG_88 := hide (GG_79.out.below hb)
  clear GG_79
  have BB_89 := hide (BB_81.out.trans (hb.mono BB_81.out.size))
  clear BB_81
  clear hb
  go_wp2_with fail
  refine (toStringS_any a1 z1 len1 cap1 _ HN1.out (HS1.out.below BB_89.out) hsz).mono ?_
  rintro e w_90 ⟨rfl, ho, hb⟩
  have TS_91 := hide (own_slS ho)
  have GS_92 := hide (GS_87.out.below hb)
  clear GS_87
  have GG_93 := hide (GG_88.out.below hb)
  clear GG_88
  have BB_94 := hide (BB_89.out.trans (hb.mono BB_89.out.size))
  clear BB_89
  clear hb ho
  go_wp2_with fail
  refine (C2.out _ _ _ TS_91.out).mono ?_
  rintro e u_95 ⟨v, u, rfl, hr⟩
  obtain ⟨⟨aNV_96, cNV_97, aCV_98, cCV_99, hv, hu, hG⟩, hb⟩ := hg_made hr
  rw [← HNL.out, ← HML.out] at hG
  rw [← HNL.out] at hv
  rw [← HML.out] at hu
  subst hv
  subst hu
  rw [← HGL.out, ← HTL.out] at hG
  have hA := hb.alloc hb.size (hvO (.slice aNV_96 nL cNV_97) (.slice aCV_98 mL cCV_99) gL tL)
  obtain ⟨wV_100, hwA⟩ : ∃ x, x = u_95.alloc (hvO (.slice aNV_96 nL cNV_97) (.slice aCV_98 mL cCV_99) gL tL) := ⟨_, rfl⟩
  obtain ⟨bV_101, hb1⟩ : ∃ x, x = u_95.heap.size := ⟨_, rfl⟩
  rw [← hwA] at hG hA
  rw [← hb1] at hG
  have HW_102 := hide hwA
  have HB_103 := hide hb1
  have GV_104 := hide hG
  have GS_105 := hide (GS_92.out.below hA)
  clear GS_92
  have GG_106 := hide (GG_93.out.below hA)
  clear GG_93
  have BB_107 := hide (BB_94.out.trans (hA.mono BB_94.out.size))
  clear BB_94
  clear hwA hb1 hG hA hb hr
  go_upto_region 25 with fail
  rw [← HW_102.out, ← HB_103.out]
  clear TS_91
  have bxf : wV_100.heap[bV_101]? = some (hvO (.slice aNV_96 nL cNV_97) (.slice aCV_98 mL cCV_99) gL tL) := by rw [HGL.out, HTL.out]; exact GV_104.out.box
  obtain ⟨k_108, k_109, k_110, k_111⟩ := blk4 bxf
  clear bxf
  have bxf : wV_100.heap[bS_12]? = some (hvO (.slice aNS_7 nL cNS_8) (.slice aCS_9 mL cCS_10) gL tL) := by rw [HGL.out, HTL.out]; exact GS_105.out.box
  obtain ⟨k_112, k_113, k_114, k_115⟩ := blk4 bxf
  clear bxf
  go_wp2_with fail
  refine (CE.out _ _ _ _ _ _ _ _ _ GV_104.out.ow.hf GS_105.out.ow.hf).mono ?_
  rintro e w_116 ⟨rfl, hb⟩
  clear k_108 k_109 k_110 k_111 k_112 k_113 k_114 k_115
  have GS_117 := hide (GS_105.out.below hb)
  clear GS_105
  have GG_118 := hide (GG_106.out.below hb)
  clear GG_106
  have GV_119 := hide (GV_104.out.below hb)
  clear GV_104
  have BB_120 := hide (BB_107.out.trans (hb.mono BB_107.out.size))
  clear BB_107
  clear hb
  have bxf : w_116.heap[bG_27]? = some (hvO (.slice aNG_22 nL cNG_23) (.slice aCG_24 mL cCG_25) gL tL) := by rw [HGL.out, HTL.out]; exact GG_118.out.box
  obtain ⟨k_121, k_122, k_123, k_124⟩ := blk4 bxf
  clear bxf
  go_wp2_with fail
  refine (CH.out _ _ _ _ _ GG_118.out.ow.hf).mono ?_
  rintro e w_125 ⟨rfl, hb⟩
  clear k_121 k_122 k_123 k_124
  have GS_126 := hide (GS_117.out.below hb)
  clear GS_117
  have GG_127 := hide (GG_118.out.below hb)
  clear GG_118
  have GV_128 := hide (GV_119.out.below hb)
  clear GV_119
  have BB_129 := hide (BB_120.out.trans (hb.mono BB_120.out.size))
  clear BB_120
  clear hb
  go_wp2
  go_ret
  exact ⟨rfl, BB_129.out⟩
end Go.Proofs.Yticgejaaoamhmao.fnExactFeedHeavy
