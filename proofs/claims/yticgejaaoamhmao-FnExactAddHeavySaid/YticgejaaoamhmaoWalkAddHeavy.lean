/-
  The walk of the law FnExactAddHeavy: it returns true at every Heavy and name; memory that was there stays as it was.
-/
import Derived.Test.YticgejaaoamhmaoBundle5
import Derived.Test.YticgejaaoamhmaoBundle7
import Derived.Deep.DeepCutAuto
import Derived.Deep.RegionHeld3
namespace Go.Proofs.Yticgejaaoamhmao.fnExactAddHeavy
open Go.RowKit L1 L4 Own Str L15H
set_option linter.unusedVariables false

open Classical in
set_option maxRecDepth 100000 in
set_option maxHeartbeats 8000000 in
theorem walk (aN0 : Option Addr) (nN0 cN0 : Nat) (aC0 : Option Addr) (nC0 cC0 : Nat) (G0 T0 : Int) (zN0 : List ByteArray) (zC0 : List Int) (a1 : ByteArray) (w : World) (w0 : IsHeavy w aN0 nN0 aC0 nC0 zN0 zC0) (w1 : a1.size ≤ maxLen) :
    Calls Try.prog 3 #[.agg #[.slice aN0 nN0 cN0, .slice aC0 nC0 cC0, .int .i64 G0, .int .i64 T0], .string a1] w fun e w' => e = .returned (.bool true) ∧ Below w.heap.size w w' := by
  have BX := (Below.refl w.heap.size w).alloc (Nat.le_refl _) (.cells #[.slice aN0 nN0 cN0, .slice aC0 nC0 cC0, .int .i64 G0, .int .i64 T0] 25 (0, 0))
  have ga := L8.blk_new w (.cells #[.slice aN0 nN0 cN0, .slice aC0 nC0 cC0, .int .i64 G0, .int .i64 T0] 25 (0, 0))
  have hN := w0.N.1.2.1
  have hC := w0.C.2.1
  unfold maxLen at hN hC
  have hst := w0.N.2
  have hf := w0.hf G0 T0
  unfold maxLen at w1
  by_cases hsS1 : 1048576 < (a1.size : Int)
  · clear w1 BX ga hN hC hst hf w0
    go_enter Try.func3, Try.ntmps3
    go_wp2
    go_ret
    exact ⟨rfl, (Below.refl _ _).alloc (Nat.le_refl _) _⟩
  have hsS1' : a1.size ≤ 9223372036854775807 := by omega
  clear w1
  obtain ⟨W0, hW0⟩ : ∃ W0, W0 = w.alloc (.cells #[.slice aN0 nN0 cN0, .slice aC0 nC0 cC0, .int .i64 G0, .int .i64 T0] 25 (0, 0)) := ⟨_, rfl⟩
  rw [← hW0] at BX ga
  have HW := hide hW0
  have BQ := hide BX
  have GA := hide ga
  have HFA := hide (hf.below BX)
  have HST := hide hst
  clear BX hW0 ga hf hst w0
  have BB0 := hide (Below.refl W0.heap.size W0)
  have CZ := hide (fun wx (hb : Below W0.heap.size W0 wx) r hr => szHeavy_any aN0 nN0 cN0 aC0 nC0 cC0 G0 T0 (⟨zN0, zC0, G0, T0⟩ : Hv) 1048576 wx hN hC (HFA.out.below hb) HST.out (by omega) (by omega) r hr)
  by_cases hfit : (wtH (⟨zN0, zC0, G0, T0⟩ : Hv) : Int) ≤ 1048576
  rotate_left
  · have CY := hide (fun wx hb => CZ.out wx hb (-1) (by rw [if_neg hfit]))
    clear CZ
    go_enter Try.func3, Try.ntmps3
    go_upto_region 1 with fail
    rw [← HW.out]
    obtain ⟨q0, q1, q2, q3⟩ := blk4 GA.out
    go_wp2_with fail
    refine (CY.out _ BB0.out).mono ?_
    rintro e u9 ⟨rfl, hb⟩
    have BU9 := hide (BQ.out.trans (hb.mono BQ.out.size))
    clear hb
    go_wp2
    go_ret
    exact ⟨rfl, BU9.out⟩
  obtain ⟨Z1, hZ1⟩ : ∃ x, x = 1048576 - (wtH (⟨zN0, zC0, G0, T0⟩ : Hv) : Int) := ⟨_, rfl⟩
  have hZn : ¬ Z1 < 0 := by omega
  have CY := hide (fun wx hb => CZ.out wx hb Z1 (by rw [if_pos hfit]; exact hZ1))
  clear CZ
  have hn2 : nN0 ≤ 1048576 := by have h1 := HFA.out.ln; have h2 : zN0.length = nN0 := h1; unfold wtH wtS at hfit; simp only at hfit; omega
  have hm2 : nC0 ≤ 1048576 := by have h1 := HFA.out.lc; have h2 : zC0.length = nC0 := h1; unfold wtH at hfit; simp only at hfit; omega
  have htx : ∀ i, i < zN0.length → (zN0.getD i e0).size ≤ 1048576 := fun i hi => by have h1 := szsS_get zN0 i hi; unfold wtH wtS at hfit; simp only at hfit; omega
  have CT := hide (fun wx (hb : Below W0.heap.size W0 wx) => toHeavy_any aN0 nN0 cN0 aC0 nC0 cC0 G0 T0 (⟨zN0, zC0, G0, T0⟩ : Hv) wx hn2 hm2 (HFA.out.below hb))
  have CEX := hide (fun a c b d a2 c2 b2 d2 wx h1 h2 => eqHeavy_same a nN0 c b nC0 d a2 c2 b2 d2 G0 T0 (⟨zN0, zC0, G0, T0⟩ : Hv) wx h1 h2 hn2 hm2)
  have CMX := hide (fun base hi v u wx hbs iv iu ho => markHeavy_any base hi v u nN0 nC0 G0 T0 (⟨zN0, zC0, G0, T0⟩ : Hv) wx 1 (by omega) (by omega) hn2 hm2 hbs iv iu ho)
  obtain ⟨ok, L, hsm⟩ := addR_ex (⟨zN0, zC0, G0, T0⟩ : Hv) nN0 nC0 a1
  have hlen := addR_len hsm (HFA.out.ln) (HFA.out.lc)
  have hoo : (ok != ok) = false := by simp
  have C1 := hide (fun wx a c b d hf => sAddHeavy_any a nN0 c b nC0 d G0 T0 (⟨zN0, zC0, G0, T0⟩ : Hv) a1 wx hf rfl rfl hn2 hm2 htx hsS1' ok L hsm)
  have C2 := hide (fun wx a c b d hf => addHeavy_any a nN0 c b nC0 d G0 T0 (⟨zN0, zC0, G0, T0⟩ : Hv) a1 wx hf rfl rfl hn2 hm2 htx hsS1' ok L hsm)
  have CE := hide (fun a c b d a2 c2 b2 d2 wx h1 h2 => eqHeavy_same a L.nm.length c b L.ct.length d a2 c2 b2 d2 L.g L.t L wx h1 h2 (by omega) (by omega))
  have CM := hide (fun base hi v u wx hbs iv iu ho => markHeavy_any base hi v u L.nm.length L.ct.length L.g L.t L wx 1 (by omega) (by omega) (by omega) (by omega) hbs iv iu ho)
  have CH := hide (fun a c b d wx hf => heldHeavy_any a L.nm.length c b L.ct.length d L.g L.t L wx 1 (by omega) (by omega) (by omega) (by omega) hf)
  obtain ⟨nL, hnL⟩ : ∃ n, n = L.nm.length := ⟨_, rfl⟩
  obtain ⟨mL, hmL⟩ : ∃ n, n = L.ct.length := ⟨_, rfl⟩
  obtain ⟨gL, hgL⟩ : ∃ n, n = L.g := ⟨_, rfl⟩
  obtain ⟨tL, htL⟩ : ∃ n, n = L.t := ⟨_, rfl⟩
  have HNL := hide hnL
  have HML := hide hmL
  have HGL := hide hgL
  have HTL := hide htL
  rw [← hnL, ← hmL, ← hgL, ← htL] at CE CM CH
  rw [← hgL, ← htL] at C1 C2
  obtain ⟨kk, hkk0⟩ : ∃ kk, kk = 1 + (nL : Int) + (mL : Int) := ⟨_, rfl⟩
  have hkn : ¬ kk < 0 := by omega
  have hkk : (kk != kk) = false := by simp
  rw [← hkk0] at CM CH
  obtain ⟨yy, hyy0⟩ : ∃ y, y = 1 + (nN0 : Int) + (nC0 : Int) := ⟨_, rfl⟩
  have hyn : ¬ yy < 0 := by omega
  rw [← hyy0] at CMX
  clear hkk0 hnL hmL hgL htL hsm hlen hyy0 hZ1 hfit hN hC hn2 hm2 htx
  go_enter Try.func3, Try.ntmps3
  go_upto_region 1 with fail
  rw [← HW.out]
  obtain ⟨k_1, k_2, k_3, k_4⟩ := blk4 (blk_kept GA.out BB0.out)
  go_wp2_with fail
  refine (CY.out _ BB0.out).mono ?_
  rintro e w_5 ⟨rfl, hb⟩
  clear k_1 k_2 k_3 k_4
  have BB_6 := hide (BB0.out.trans (hb.mono BB0.out.size))
  clear BB0
  clear hb
  obtain ⟨k_7, k_8, k_9, k_10⟩ := blk4 (blk_kept GA.out BB_6.out)
  go_wp2_with fail
  refine (CT.out _ BB_6.out).mono ?_
  rintro e w_11 ⟨x_12, y_13, rfl, ho, hb⟩
  clear k_7 k_8 k_9 k_10
  have hf := hide ho.hf
  have BB_14 := hide (BB_6.out.trans (hb.mono BB_6.out.size))
  clear BB_6
  clear hb ho
  go_wp2_with fail
  refine (C1.out _ _ _ _ _ hf.out).mono ?_
  rintro e u_15 ⟨v, u, rfl, hr⟩
  clear hf
  obtain ⟨⟨aNS_16, cNS_17, aCS_18, cCS_19, hv, hu, hG⟩, hb⟩ := hg_made hr
  rw [← HNL.out, ← HML.out] at hG
  rw [← HNL.out] at hv
  rw [← HML.out] at hu
  subst hv
  subst hu
  rw [← HGL.out, ← HTL.out] at hG
  have hA := hb.alloc hb.size (hvO (.slice aNS_16 nL cNS_17) (.slice aCS_18 mL cCS_19) gL tL)
  obtain ⟨wS_20, hwA⟩ : ∃ x, x = u_15.alloc (hvO (.slice aNS_16 nL cNS_17) (.slice aCS_18 mL cCS_19) gL tL) := ⟨_, rfl⟩
  obtain ⟨bS_21, hb1⟩ : ∃ x, x = u_15.heap.size := ⟨_, rfl⟩
  rw [← hwA] at hG hA
  rw [← hb1] at hG
  have HW_22 := hide hwA
  have HB_23 := hide hb1
  have GS_24 := hide hG
  have BB_25 := hide (BB_14.out.trans (hA.mono BB_14.out.size))
  clear BB_14
  clear hwA hb1 hG hA hb hr
  go_upto_region 8 with fail
  rw [← HW_22.out, ← HB_23.out]
  have LBX := hide BB_25.out.size
  have LTSX := hide GS_24.out.lt
  obtain ⟨k_26, k_27, k_28, k_29⟩ := blk4 (blk_kept GA.out BB_25.out)
  go_wp2_with fail
  refine (CT.out _ BB_25.out).mono ?_
  rintro e w_30 ⟨x_31, y_32, rfl, ho, hb⟩
  clear k_26 k_27 k_28 k_29
  have hr : True := trivial
  have hG := hg_copy (h := (⟨zN0, zC0, G0, T0⟩ : Hv)) ho hb
  have hA := hb.alloc hb.size (hvO (.slice (some ⟨x_31, 0, none⟩) nN0 nN0) (.slice (some ⟨y_32, 0, none⟩) nC0 nC0) G0 T0)
  clear ho
  obtain ⟨w_33, hwA⟩ : ∃ x, x = w_30.alloc (hvO (.slice (some ⟨x_31, 0, none⟩) nN0 nN0) (.slice (some ⟨y_32, 0, none⟩) nC0 nC0) G0 T0) := ⟨_, rfl⟩
  obtain ⟨bX_34, hb1⟩ : ∃ x, x = w_30.heap.size := ⟨_, rfl⟩
  rw [← hwA] at hG hA
  rw [← hb1] at hG
  have HW_35 := hide hwA
  have HB_36 := hide hb1
  have GX_37 := hide hG
  have GS_38 := hide (GS_24.out.below hA)
  clear GS_24
  have BB_39 := hide (BB_25.out.trans (hA.mono BB_25.out.size))
  clear BB_25
  clear hwA hb1 hG hA hb hr
  go_upto_region 9 with fail
  rw [← HW_35.out, ← HB_36.out]
  have LBG := hide BB_39.out.size
  have LTSG := hide GS_38.out.lt
  have LTXG := hide GX_37.out.lt
  obtain ⟨k_40, k_41, k_42, k_43⟩ := blk4 GX_37.out.box
  go_wp2_with fail
  refine (C2.out _ _ _ _ _ GX_37.out.ow.hf).mono ?_
  rintro e u_44 ⟨v, u, rfl, hr⟩
  clear k_40 k_41 k_42 k_43
  obtain ⟨⟨aNG_45, cNG_46, aCG_47, cCG_48, hv, hu, hG⟩, hb⟩ := hg_made hr
  rw [← HNL.out, ← HML.out] at hG
  rw [← HNL.out] at hv
  rw [← HML.out] at hu
  subst hv
  subst hu
  rw [← HGL.out, ← HTL.out] at hG
  have hA := hb.alloc hb.size (hvO (.slice aNG_45 nL cNG_46) (.slice aCG_47 mL cCG_48) gL tL)
  obtain ⟨wG_49, hwA⟩ : ∃ x, x = u_44.alloc (hvO (.slice aNG_45 nL cNG_46) (.slice aCG_47 mL cCG_48) gL tL) := ⟨_, rfl⟩
  obtain ⟨bG_50, hb1⟩ : ∃ x, x = u_44.heap.size := ⟨_, rfl⟩
  rw [← hwA] at hG hA
  rw [← hb1] at hG
  have HW_51 := hide hwA
  have HB_52 := hide hb1
  have GG_53 := hide hG
  have GS_54 := hide (GS_38.out.below hA)
  clear GS_38
  have GX_55 := hide (GX_37.out.below hA)
  clear GX_37
  have BB_56 := hide (BB_39.out.trans (hA.mono BB_39.out.size))
  clear BB_39
  clear hwA hb1 hG hA hb hr
  go_upto_region 10 with fail
  rw [← HW_51.out, ← HB_52.out]
  have bxf : wG_49.heap[bG_50]? = some (hvO (.slice aNG_45 nL cNG_46) (.slice aCG_47 mL cCG_48) gL tL) := by rw [HGL.out, HTL.out]; exact GG_53.out.box
  obtain ⟨k_57, k_58, k_59, k_60⟩ := blk4 bxf
  clear bxf
  have bxf : wG_49.heap[bS_21]? = some (hvO (.slice aNS_16 nL cNS_17) (.slice aCS_18 mL cCS_19) gL tL) := by rw [HGL.out, HTL.out]; exact GS_54.out.box
  obtain ⟨k_61, k_62, k_63, k_64⟩ := blk4 bxf
  clear bxf
  go_wp2_with fail
  refine (CE.out _ _ _ _ _ _ _ _ _ GG_53.out.ow.hf GS_54.out.ow.hf).mono ?_
  rintro e w_65 ⟨rfl, hb⟩
  clear k_57 k_58 k_59 k_60 k_61 k_62 k_63 k_64
  have GS_66 := hide (GS_54.out.below hb)
  clear GS_54
  have GX_67 := hide (GX_55.out.below hb)
  clear GX_55
  have GG_68 := hide (GG_53.out.below hb)
  clear GG_53
  have BB_69 := hide (BB_56.out.trans (hb.mono BB_56.out.size))
  clear BB_56
  clear hb
  obtain ⟨k_70, k_71, k_72, k_73⟩ := blk4 (blk_kept GA.out BB_69.out)
  obtain ⟨k_74, k_75, k_76, k_77⟩ := blk4 GX_67.out.box
  go_upto_region 12 with fail
  refine wp_region_held_drew (S := (fun wx => (wx.cell? ⟨w.heap.size, 0, none⟩ = some (.slice aN0 nN0 cN0) ∧ wx.cell? ⟨w.heap.size, 1, none⟩ = some (.slice aC0 nC0 cC0) ∧ wx.cell? ⟨w.heap.size, 2, none⟩ = some (.int .i64 G0) ∧ wx.cell? ⟨w.heap.size, 3, none⟩ = some (.int .i64 T0) ∧ wx.cell? ⟨bX_34, 0, none⟩ = some (.slice (some ⟨x_31, 0, none⟩) nN0 nN0) ∧ wx.cell? ⟨bX_34, 1, none⟩ = some (.slice (some ⟨y_32, 0, none⟩) nC0 nC0) ∧ wx.cell? ⟨bX_34, 2, none⟩ = some (.int .i64 G0) ∧ wx.cell? ⟨bX_34, 3, none⟩ = some (.int .i64 T0)) ∧ Below w_65.heap.size w_65 wx)) (by kernel_rfl) ⟨⟨k_70, k_71, k_72, k_73, k_74, k_75, k_76, k_77⟩, (Below.refl _ _).drew⟩ (fun hHeld => ?_)
  refine wpAnyH_take (i := 0) (v := ?v7) rfl (by kernel_rfl) (by kernel_rfl) (by kernel_rfl) (fun _ _ _ h => h) (Or.inl ⟨by rfl, ?y7⟩) (by assumption) ?r7
  case y7 => (intro w hSw; (try dsimp only at hSw); go_simp; try (with_reducible rfl))
  simp only [List.getElem_toArray, List.getElem_cons_zero, Act.put, List.setIfInBounds_toArray, List.set_cons_zero, List.set_cons_succ]
  refine wpAnyH_take (i := 1) (v := ?v8) rfl (by kernel_rfl) (by kernel_rfl) (by kernel_rfl) (fun _ _ _ h => h) (Or.inl ⟨by rfl, ?y8⟩) (by assumption) ?r8
  case y8 => (intro w hSw; (try dsimp only at hSw); go_simp; try (with_reducible rfl))
  simp only [List.getElem_toArray, List.getElem_cons_succ, List.getElem_cons_zero, Act.put, List.setIfInBounds_toArray, List.set_cons_zero, List.set_cons_succ]
  refine wpAnyH_ready (rs := [2]) (by kernel_rfl) (by simp) ?_
  refine AllReadyH.cons rfl (fun K hK => ?_) AllReadyH.nil
  simp only [List.getElem_toArray, List.getElem_cons_succ, List.getElem_cons_zero]
  go_simp
  go_at_call 11
  refine (CT.out _ (BB_69.out.trans (hHeld.2.mono BB_69.out.size))).mono ?_
  rintro e w_78 ⟨x_80, y_81, rfl, hot, hbt⟩
  have HSt := hide hot.hf
  clear hot
  dsimp only
  refine hK.out _ _ ?_ (fun hHeld => ?_)
  · exact L8.keep8 hHeld hbt (Nat.le_refl _)
  clear hK K
  try simp only [Act.put, List.setIfInBounds_toArray, List.set_cons_zero, List.set_cons_succ]
  refine wpAnyH_ready (rs := [3]) (by kernel_rfl) (by simp) ?_
  refine AllReadyH.cons rfl (fun K hK => ?_) AllReadyH.nil
  simp only [List.getElem_toArray, List.getElem_cons_succ, List.getElem_cons_zero]
  go_simp
  go_at_call 13
  refine (CEX.out _ _ _ _ _ _ _ _ _ (GX_67.out.below hHeld.2).ow.hf HSt.out).mono ?_
  rintro e w_79 ⟨rfl, hbu⟩
  dsimp only
  refine hK.out _ _ ?_ (fun hHeld => ?_)
  · exact L8.keep8 (by assumption) hbu (Nat.le_refl _)
  clear hK K
  try simp only [Act.put, List.setIfInBounds_toArray, List.set_cons_zero, List.set_cons_succ]
  refine wpAnyH_take (i := 4) (v := ?v9) rfl (by kernel_rfl) (by kernel_rfl) (by kernel_rfl) (fun _ _ _ h => h) (Or.inl ⟨by rfl, ?y9⟩) (by assumption) ?r9
  case y9 => (intro w hSw; (try dsimp only at hSw); go_simp; try (with_reducible rfl))
  simp only [List.getElem_toArray, List.getElem_cons_succ, List.getElem_cons_zero, Act.put, List.setIfInBounds_toArray, List.set_cons_zero, List.set_cons_succ]
  refine wpAnyH_done (by kernel_rfl) ?_ _
  have hb := hHeld.2
  clear hHeld k_70 k_71 k_72 k_73 k_74 k_75 k_76 k_77
  have GS_82 := hide (GS_66.out.below hb)
  clear GS_66
  have GX_83 := hide (GX_67.out.below hb)
  clear GX_67
  have GG_84 := hide (GG_68.out.below hb)
  clear GG_68
  have BB_85 := hide (BB_69.out.trans (hb.mono BB_69.out.size))
  clear BB_69
  clear hb
  obtain ⟨k_86, k_87, k_88, k_89⟩ := blk4 GX_83.out.box
  go_wp2_with fail
  refine (CMX.out (wS_20.heap.size) bX_34 _ _ _ (Nat.le_trans GX_83.out.bs (Nat.le_of_lt GX_83.out.lt)) GX_83.out.iv GX_83.out.iu GX_83.out.ow).mono ?_
  rintro e w_90 ⟨rfl, how, hon⟩
  clear k_86 k_87 k_88 k_89
  have GX_91 := hide (GX_83.out.marked hon how rfl rfl)
  have GS_92 := hide (GS_82.out.only hon (.inl (LTSX.out)))
  clear GS_82
  have GG_93 := hide (GG_84.out.only hon (.inr (Nat.le_of_lt LTXG.out)))
  clear GG_84
  have BB_94 := hide (BB_85.out.trans ((hon.below (Nat.le_trans GX_83.out.bs (Nat.le_of_lt GX_83.out.lt))).mono LBX.out))
  clear hon how GX_83 BB_85
  have bxf : w_90.heap[bG_50]? = some (hvO (.slice aNG_45 nL cNG_46) (.slice aCG_47 mL cCG_48) gL tL) := by rw [HGL.out, HTL.out]; exact GG_93.out.box
  obtain ⟨k_95, k_96, k_97, k_98⟩ := blk4 bxf
  clear bxf
  have bxf : w_90.heap[bS_21]? = some (hvO (.slice aNS_16 nL cNS_17) (.slice aCS_18 mL cCS_19) gL tL) := by rw [HGL.out, HTL.out]; exact GS_92.out.box
  obtain ⟨k_99, k_100, k_101, k_102⟩ := blk4 bxf
  clear bxf
  go_wp2_with fail
  refine (CE.out _ _ _ _ _ _ _ _ _ GG_93.out.ow.hf GS_92.out.ow.hf).mono ?_
  rintro e w_103 ⟨rfl, hb⟩
  clear k_95 k_96 k_97 k_98 k_99 k_100 k_101 k_102
  have GS_104 := hide (GS_92.out.below hb)
  clear GS_92
  have GX_105 := hide (GX_91.out.below hb)
  clear GX_91
  have GG_106 := hide (GG_93.out.below hb)
  clear GG_93
  have BB_107 := hide (BB_94.out.trans (hb.mono BB_94.out.size))
  clear BB_94
  clear hb
  have bxf : w_103.heap[bG_50]? = some (hvO (.slice aNG_45 nL cNG_46) (.slice aCG_47 mL cCG_48) gL tL) := by rw [HGL.out, HTL.out]; exact GG_106.out.box
  obtain ⟨k_108, k_109, k_110, k_111⟩ := blk4 bxf
  clear bxf
  go_wp2_with fail
  refine (CM.out (w_33.heap.size) bG_50 _ _ _ (Nat.le_trans GG_106.out.bs (Nat.le_of_lt GG_106.out.lt)) GG_106.out.iv GG_106.out.iu GG_106.out.ow).mono ?_
  rintro e w_112 ⟨rfl, how, hon⟩
  clear k_108 k_109 k_110 k_111
  have GG_113 := hide (GG_106.out.marked hon how rfl rfl)
  have GS_114 := hide (GS_104.out.only hon (.inl (LTSG.out)))
  clear GS_104
  have GX_115 := hide (GX_105.out.only hon (.inl (LTXG.out)))
  clear GX_105
  have BB_116 := hide (BB_107.out.trans ((hon.below (Nat.le_trans GG_106.out.bs (Nat.le_of_lt GG_106.out.lt))).mono LBG.out))
  clear hon how GG_106 BB_107
  clear GX_115
  have bxf : w_112.heap[bG_50]? = some (hvO (.slice aNG_45 nL cNG_46) (.slice aCG_47 mL cCG_48) gL tL) := by rw [HGL.out, HTL.out]; exact GG_113.out.box
  obtain ⟨k_117, k_118, k_119, k_120⟩ := blk4 bxf
  clear bxf
  go_wp2_with fail
  refine (CH.out _ _ _ _ _ GG_113.out.ow.hf).mono ?_
  rintro e w_121 ⟨rfl, hb⟩
  clear k_117 k_118 k_119 k_120
  have GS_122 := hide (GS_114.out.below hb)
  clear GS_114
  have GG_123 := hide (GG_113.out.below hb)
  clear GG_113
  have BB_124 := hide (BB_116.out.trans (hb.mono BB_116.out.size))
  clear BB_116
  clear hb
  obtain ⟨k_125, k_126, k_127, k_128⟩ := blk4 (blk_kept GA.out BB_124.out)
  go_wp2_with fail
  refine (CT.out _ BB_124.out).mono ?_
  rintro e w_129 ⟨x_130, y_131, rfl, ho, hb⟩
  clear k_125 k_126 k_127 k_128
  have hf := hide ho.hf
  have GS_132 := hide (GS_122.out.below hb)
  clear GS_122
  have GG_133 := hide (GG_123.out.below hb)
  clear GG_123
  have BB_134 := hide (BB_124.out.trans (hb.mono BB_124.out.size))
  clear BB_124
  clear hb ho
  go_wp2_with fail
  refine (C2.out _ _ _ _ _ hf.out).mono ?_
  rintro e u_135 ⟨v, u, rfl, hr⟩
  clear hf
  obtain ⟨⟨aNV_136, cNV_137, aCV_138, cCV_139, hv, hu, hG⟩, hb⟩ := hg_made hr
  rw [← HNL.out, ← HML.out] at hG
  rw [← HNL.out] at hv
  rw [← HML.out] at hu
  subst hv
  subst hu
  rw [← HGL.out, ← HTL.out] at hG
  have hA := hb.alloc hb.size (hvO (.slice aNV_136 nL cNV_137) (.slice aCV_138 mL cCV_139) gL tL)
  obtain ⟨wV_140, hwA⟩ : ∃ x, x = u_135.alloc (hvO (.slice aNV_136 nL cNV_137) (.slice aCV_138 mL cCV_139) gL tL) := ⟨_, rfl⟩
  obtain ⟨bV_141, hb1⟩ : ∃ x, x = u_135.heap.size := ⟨_, rfl⟩
  rw [← hwA] at hG hA
  rw [← hb1] at hG
  have HW_142 := hide hwA
  have HB_143 := hide hb1
  have GV_144 := hide hG
  have GS_145 := hide (GS_132.out.below hA)
  clear GS_132
  have GG_146 := hide (GG_133.out.below hA)
  clear GG_133
  have BB_147 := hide (BB_134.out.trans (hA.mono BB_134.out.size))
  clear BB_134
  clear hwA hb1 hG hA hb hr
  go_upto_region 27 with fail
  rw [← HW_142.out, ← HB_143.out]
  have bxf : wV_140.heap[bV_141]? = some (hvO (.slice aNV_136 nL cNV_137) (.slice aCV_138 mL cCV_139) gL tL) := by rw [HGL.out, HTL.out]; exact GV_144.out.box
  obtain ⟨k_148, k_149, k_150, k_151⟩ := blk4 bxf
  clear bxf
  have bxf : wV_140.heap[bS_21]? = some (hvO (.slice aNS_16 nL cNS_17) (.slice aCS_18 mL cCS_19) gL tL) := by rw [HGL.out, HTL.out]; exact GS_145.out.box
  obtain ⟨k_152, k_153, k_154, k_155⟩ := blk4 bxf
  clear bxf
  go_wp2_with fail
  refine (CE.out _ _ _ _ _ _ _ _ _ GV_144.out.ow.hf GS_145.out.ow.hf).mono ?_
  rintro e w_156 ⟨rfl, hb⟩
  clear k_148 k_149 k_150 k_151 k_152 k_153 k_154 k_155
  have GS_157 := hide (GS_145.out.below hb)
  clear GS_145
  have GG_158 := hide (GG_146.out.below hb)
  clear GG_146
  have GV_159 := hide (GV_144.out.below hb)
  clear GV_144
  have BB_160 := hide (BB_147.out.trans (hb.mono BB_147.out.size))
  clear BB_147
  clear hb
  have bxf : w_156.heap[bG_50]? = some (hvO (.slice aNG_45 nL cNG_46) (.slice aCG_47 mL cCG_48) gL tL) := by rw [HGL.out, HTL.out]; exact GG_158.out.box
  obtain ⟨k_161, k_162, k_163, k_164⟩ := blk4 bxf
  clear bxf
  go_wp2_with fail
  refine (CH.out _ _ _ _ _ GG_158.out.ow.hf).mono ?_
  rintro e w_165 ⟨rfl, hb⟩
  clear k_161 k_162 k_163 k_164
  have GS_166 := hide (GS_157.out.below hb)
  clear GS_157
  have GG_167 := hide (GG_158.out.below hb)
  clear GG_158
  have GV_168 := hide (GV_159.out.below hb)
  clear GV_159
  have BB_169 := hide (BB_160.out.trans (hb.mono BB_160.out.size))
  clear BB_160
  clear hb
  go_wp2
  go_ret
  exact ⟨rfl, BQ.out.trans (BB_169.out.mono BQ.out.size)⟩
end Go.Proofs.Yticgejaaoamhmao.fnExactAddHeavy
