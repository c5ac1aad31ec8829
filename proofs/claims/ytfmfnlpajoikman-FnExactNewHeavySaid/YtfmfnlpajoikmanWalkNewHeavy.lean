/-
  The walk of the law FnExactNewHeavy: it returns true at every number of places; memory that was there stays as it was.
-/
import Derived.Test.YtfmfnlpajoikmanL15HNew
import Derived.Test.YtfmfnlpajoikmanL15HHelp
import Derived.Deep.DeepCutAuto
namespace Go.Proofs.Ytfmfnlpajoikman.fnExactNewHeavy
open Go.RowKit L1 L4 Own Str L15H
set_option linter.unusedVariables false

open Classical in
set_option maxRecDepth 100000 in
set_option maxHeartbeats 8000000 in
theorem walk (a0 : Int) (w : World) (w0 : (Lit.int .i64 a0).wf = true) :
    Calls Try.prog 7 #[.int .i64 a0] w fun e w' => e = .returned (.bool true) ∧ Below w.heap.size w w' := by
  clear w0
  have BB0 := hide (Below.refl w.heap.size w)
  obtain ⟨ok, hok⟩ : ∃ ok : Bool, ok = true ↔ 1 ≤ a0 ∧ a0 ≤ 6 := ⟨decide (1 ≤ a0 ∧ a0 ≤ 6), by simp⟩
  obtain ⟨L, hsm⟩ : ∃ L, L = newH a0 ok := ⟨_, rfl⟩
  have hlen := newH_len a0 ok hok
  rw [← hsm] at hlen
  have hoo : (ok != ok) = false := by simp
  have C1 := hide (fun w => specNewHeavy_any a0 w ok hok L hsm)
  have C2 := hide (fun w => implNewHeavy_any a0 w ok hok L hsm)
  have CE := hide (fun a c b d a2 c2 b2 d2 wx h1 h2 => eqHeavy_same a L.nm.length c b L.ct.length d a2 c2 b2 d2 L.g L.t L wx h1 h2 (by omega) (by omega))
  have CM := hide (fun base hi v u wx hbs iv iu ho => markHeavy_any base hi v u L.nm.length L.ct.length L.g L.t L wx 1 (by omega) (by omega) (by omega) (by omega) hbs iv iu ho)
  have CH := hide (fun a c b d wx hf => heldHeavy_any a L.nm.length c b L.ct.length d L.g L.t L wx 1 (by omega) (by omega) (by omega) (by omega) hf)
  obtain ⟨nL, hnL⟩ : ∃ n, n = L.nm.length := ⟨_, rfl⟩
  obtain ⟨mL, hmL⟩ : ∃ n, n = L.ct.length := ⟨_, rfl⟩
  obtain ⟨gL, hgL⟩ : ∃ n, n = L.g := ⟨_, rfl⟩
  obtain ⟨tL, htL⟩ : ∃ n, n = L.t := ⟨_, rfl⟩
  have HNL := hide hnL
  have HML := hide hmL
  have HGL := hide hgL
  have HTL := hide htL
  rw [← hnL, ← hmL, ← hgL, ← htL] at CE CM CH
  rw [← hgL, ← htL] at C1 C2
  obtain ⟨kk, hkk0⟩ : ∃ kk, kk = 1 + (nL : Int) + (mL : Int) := ⟨_, rfl⟩
  have hkn : ¬ kk < 0 := by omega
  have hkk : (kk != kk) = false := by simp
  rw [← hkk0] at CM CH
  clear hkk0 hnL hmL hgL htL hsm hlen hok
  go_enter Try.func7, Try.ntmps7
  go_wp2_with fail
  refine (C1.out _).mono ?_
  rintro e u_1 ⟨v, u, rfl, hr⟩
  obtain ⟨⟨aNS_2, cNS_3, aCS_4, cCS_5, hv, hu, hG⟩, hb⟩ := hg_made hr
  rw [← HNL.out, ← HML.out] at hG
  rw [← HNL.out] at hv
  rw [← HML.out] at hu
  subst hv
  subst hu
  rw [← HGL.out, ← HTL.out] at hG
  have hA := hb.alloc hb.size (hvO (.slice aNS_2 nL cNS_3) (.slice aCS_4 mL cCS_5) gL tL)
  obtain ⟨wS_6, hwA⟩ : ∃ x, x = u_1.alloc (hvO (.slice aNS_2 nL cNS_3) (.slice aCS_4 mL cCS_5) gL tL) := ⟨_, rfl⟩
  obtain ⟨bS_7, hb1⟩ : ∃ x, x = u_1.heap.size := ⟨_, rfl⟩
  rw [← hwA] at hG hA
  rw [← hb1] at hG
  have HW_8 := hide hwA
  have HB_9 := hide hb1
  have GS_10 := hide hG
  have BB_11 := hide (BB0.out.trans (hA.mono BB0.out.size))
  clear BB0
  clear hwA hb1 hG hA hb hr
  go_upto_region 2 with fail
  rw [← HW_8.out, ← HB_9.out]
  have LBG := hide BB_11.out.size
  have LTSG := hide GS_10.out.lt
  go_wp2_with fail
  refine (C2.out _).mono ?_
  rintro e u_12 ⟨v, u, rfl, hr⟩
  obtain ⟨⟨aNG_13, cNG_14, aCG_15, cCG_16, hv, hu, hG⟩, hb⟩ := hg_made hr
  rw [← HNL.out, ← HML.out] at hG
  rw [← HNL.out] at hv
  rw [← HML.out] at hu
  subst hv
  subst hu
  rw [← HGL.out, ← HTL.out] at hG
  have hA := hb.alloc hb.size (hvO (.slice aNG_13 nL cNG_14) (.slice aCG_15 mL cCG_16) gL tL)
  obtain ⟨wG_17, hwA⟩ : ∃ x, x = u_12.alloc (hvO (.slice aNG_13 nL cNG_14) (.slice aCG_15 mL cCG_16) gL tL) := ⟨_, rfl⟩
  obtain ⟨bG_18, hb1⟩ : ∃ x, x = u_12.heap.size := ⟨_, rfl⟩
  rw [← hwA] at hG hA
  rw [← hb1] at hG
  have HW_19 := hide hwA
  have HB_20 := hide hb1
  have GG_21 := hide hG
  have GS_22 := hide (GS_10.out.below hA)
  clear GS_10
  have BB_23 := hide (BB_11.out.trans (hA.mono BB_11.out.size))
  clear BB_11
  clear hwA hb1 hG hA hb hr
  go_upto_region 3 with fail
  rw [← HW_19.out, ← HB_20.out]
  have bxf : wG_17.heap[bG_18]? = some (hvO (.slice aNG_13 nL cNG_14) (.slice aCG_15 mL cCG_16) gL tL) := by rw [HGL.out, HTL.out]; exact GG_21.out.box
  obtain ⟨k_24, k_25, k_26, k_27⟩ := blk4 bxf
  clear bxf
  have bxf : wG_17.heap[bS_7]? = some (hvO (.slice aNS_2 nL cNS_3) (.slice aCS_4 mL cCS_5) gL tL) := by rw [HGL.out, HTL.out]; exact GS_22.out.box
  obtain ⟨k_28, k_29, k_30, k_31⟩ := blk4 bxf
  clear bxf
  go_wp2_with fail
  refine (CE.out _ _ _ _ _ _ _ _ _ GG_21.out.ow.hf GS_22.out.ow.hf).mono ?_
  rintro e w_32 ⟨rfl, hb⟩
  clear k_24 k_25 k_26 k_27 k_28 k_29 k_30 k_31
  have GS_33 := hide (GS_22.out.below hb)
  clear GS_22
  have GG_34 := hide (GG_21.out.below hb)
  clear GG_21
  have BB_35 := hide (BB_23.out.trans (hb.mono BB_23.out.size))
  clear BB_23
  clear hb
  have bxf : w_32.heap[bG_18]? = some (hvO (.slice aNG_13 nL cNG_14) (.slice aCG_15 mL cCG_16) gL tL) := by rw [HGL.out, HTL.out]; exact GG_34.out.box
  obtain ⟨k_36, k_37, k_38, k_39⟩ := blk4 bxf
  clear bxf
  go_wp2_with fail
  refine (CM.out (wS_6.heap.size) bG_18 _ _ _ (Nat.le_trans GG_34.out.bs (Nat.le_of_lt GG_34.out.lt)) GG_34.out.iv GG_34.out.iu GG_34.out.ow).mono ?_
  rintro e w_40 ⟨rfl, how, hon⟩
  clear k_36 k_37 k_38 k_39
  have GG_41 := hide (GG_34.out.marked hon how rfl rfl)
  have GS_42 := hide (GS_33.out.only hon (.inl (LTSG.out)))
  clear GS_33
  have BB_43 := hide (BB_35.out.trans ((hon.below (Nat.le_trans GG_34.out.bs (Nat.le_of_lt GG_34.out.lt))).mono LBG.out))
  clear hon how GG_34 BB_35
  have bxf : w_40.heap[bG_18]? = some (hvO (.slice aNG_13 nL cNG_14) (.slice aCG_15 mL cCG_16) gL tL) := by rw [HGL.out, HTL.out]; exact GG_41.out.box
  obtain ⟨k_44, k_45, k_46, k_47⟩ := blk4 bxf
  clear bxf
  go_wp2_with fail
  refine (CH.out _ _ _ _ _ GG_41.out.ow.hf).mono ?_
  rintro e w_48 ⟨rfl, hb⟩
  clear k_44 k_45 k_46 k_47
  have GS_49 := hide (GS_42.out.below hb)
  clear GS_42
  have GG_50 := hide (GG_41.out.below hb)
  clear GG_41
  have BB_51 := hide (BB_43.out.trans (hb.mono BB_43.out.size))
  clear BB_43
  clear hb
  go_wp2_with fail
  refine (C2.out _).mono ?_
  rintro e u_52 ⟨v, u, rfl, hr⟩
  obtain ⟨⟨aNV_53, cNV_54, aCV_55, cCV_56, hv, hu, hG⟩, hb⟩ := hg_made hr
  rw [← HNL.out, ← HML.out] at hG
  rw [← HNL.out] at hv
  rw [← HML.out] at hu
  subst hv
  subst hu
  rw [← HGL.out, ← HTL.out] at hG
  have hA := hb.alloc hb.size (hvO (.slice aNV_53 nL cNV_54) (.slice aCV_55 mL cCV_56) gL tL)
  obtain ⟨wV_57, hwA⟩ : ∃ x, x = u_52.alloc (hvO (.slice aNV_53 nL cNV_54) (.slice aCV_55 mL cCV_56) gL tL) := ⟨_, rfl⟩
  obtain ⟨bV_58, hb1⟩ : ∃ x, x = u_52.heap.size := ⟨_, rfl⟩
  rw [← hwA] at hG hA
  rw [← hb1] at hG
  have HW_59 := hide hwA
  have HB_60 := hide hb1
  have GV_61 := hide hG
  have GS_62 := hide (GS_49.out.below hA)
  clear GS_49
  have GG_63 := hide (GG_50.out.below hA)
  clear GG_50
  have BB_64 := hide (BB_51.out.trans (hA.mono BB_51.out.size))
  clear BB_51
  clear hwA hb1 hG hA hb hr
  go_upto_region 14 with fail
  rw [← HW_59.out, ← HB_60.out]
  have bxf : wV_57.heap[bV_58]? = some (hvO (.slice aNV_53 nL cNV_54) (.slice aCV_55 mL cCV_56) gL tL) := by rw [HGL.out, HTL.out]; exact GV_61.out.box
  obtain ⟨k_65, k_66, k_67, k_68⟩ := blk4 bxf
  clear bxf
  have bxf : wV_57.heap[bS_7]? = some (hvO (.slice aNS_2 nL cNS_3) (.slice aCS_4 mL cCS_5) gL tL) := by rw [HGL.out, HTL.out]; exact GS_62.out.box
  obtain ⟨k_69, k_70, k_71, k_72⟩ := blk4 bxf
  clear bxf
  go_wp2_with fail
  refine (CE.out _ _ _ _ _ _ _ _ _ GV_61.out.ow.hf GS_62.out.ow.hf).mono ?_
  rintro e w_73 ⟨rfl, hb⟩
  clear k_65 k_66 k_67 k_68 k_69 k_70 k_71 k_72
  have GS_74 := hide (GS_62.out.below hb)
  clear GS_62
  have GG_75 := hide (GG_63.out.below hb)
  clear GG_63
  have GV_76 := hide (GV_61.out.below hb)
  clear GV_61
  have BB_77 := hide (BB_64.out.trans (hb.mono BB_64.out.size))
  clear BB_64
  clear hb
  have bxf : w_73.heap[bG_18]? = some (hvO (.slice aNG_13 nL cNG_14) (.slice aCG_15 mL cCG_16) gL tL) := by rw [HGL.out, HTL.out]; exact GG_75.out.box
  obtain ⟨k_78, k_79, k_80, k_81⟩ := blk4 bxf
  clear bxf
  go_wp2_with fail
  refine (CH.out _ _ _ _ _ GG_75.out.ow.hf).mono ?_
  rintro e w_82 ⟨rfl, hb⟩
  clear k_78 k_79 k_80 k_81
  have GS_83 := hide (GS_74.out.below hb)
  clear GS_74
  have GG_84 := hide (GG_75.out.below hb)
  clear GG_75
  have GV_85 := hide (GV_76.out.below hb)
  clear GV_76
  have BB_86 := hide (BB_77.out.trans (hb.mono BB_77.out.size))
  clear BB_77
  clear hb
  go_wp2
  go_ret
  exact ⟨rfl, BB_86.out⟩
end Go.Proofs.Ytfmfnlpajoikman.fnExactNewHeavy
