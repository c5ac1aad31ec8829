/-
  The walk of the law FnExactAddSketch: it returns true at every sketch, name and number; memory that was there stays as it was.
-/
import Derived.Test.YtfmfnlpajoikmanL15Add
import Derived.Test.YtfmfnlpajoikmanL15SAdd
import Derived.Test.YtfmfnlpajoikmanL15Help
import Derived.Test.YtfmfnlpajoikmanL1Lists
import Derived.Test.YtfmfnlpajoikmanL15Open
import Derived.Deep.DeepCutAuto
namespace Go.Proofs.Ytfmfnlpajoikman.fnExactAddSketch
open Go.RowKit L1 L4 Own Sli L15
set_option linter.unusedVariables false

set_option maxRecDepth 100000 in
set_option maxHeartbeats 8000000 in
theorem walk (a0 : Option Addr) (len0 cap0 : Nat) (z0 : List (List Int)) (B0 : Int) (a1 : ByteArray) (a2 : Int) (w : World) (w0 : IsRowSI w a0 len0 z0) (w1 : a1.size ≤ maxLen) (w2 : (Lit.int .i64 a2).wf = true) :
    Calls Try.prog 3 #[.agg #[.slice a0 len0 cap0, .int .i64 B0], .string a1, .int .i64 a2] w fun e w' => e = .returned (.bool true) ∧ Below w.heap.size w w' := by
  clear w2
  have BX := (Below.refl w.heap.size w).alloc (Nat.le_refl _) (.cells #[.slice a0 len0 cap0, .int .i64 B0] 24 (0, 0))
  have ga0 := L8.blk_new w (.cells #[.slice a0 len0 cap0, .int .i64 B0] 24 (0, 0))
  obtain ⟨⟨hn0, hm0, hs0⟩, hst0⟩ := w0
  unfold maxLen at hm0
  unfold maxLen at w1
  by_cases hsS1 : 1048576 < (a1.size : Int)
  · clear w1 BX ga0
    go_enter Try.func3, Try.ntmps3
    go_wp2
    go_ret
    exact ⟨rfl, (Below.refl _ _).alloc (Nat.le_refl _) _⟩
  have hsS1' : a1.size ≤ 9223372036854775807 := by omega
  clear w1
  obtain ⟨W0, hW0⟩ : ∃ W0, W0 = w.alloc (.cells #[.slice a0 len0 cap0, .int .i64 B0] 24 (0, 0)) := ⟨_, rfl⟩
  rw [← hW0] at BX ga0
  have HW := hide hW0
  have BQ := hide BX
  have GA0 := hide ga0
  have HS0 := hide (hs0.below BX)
  have HN0 := hide hn0
  have HST0 := hide hst0
  clear BX hW0 ga0 hs0 hst0
  have BB0 := hide (Below.refl W0.heap.size W0)
  have CZ0 := hide (fun wx (hb : Below W0.heap.size W0 wx) r hr => szSketch_any a0 z0 len0 cap0 B0 (1048576) wx HN0.out hm0 (HS0.out.below hb) HST0.out (by omega) (by omega) r hr)
  by_cases hfit0 : (wtSI z0 : Int) ≤ 1048576
  rotate_left
  · have CY := hide (fun wx hb => CZ0.out wx hb (-1) (by rw [if_neg hfit0]))
    clear CZ0
    go_enter Try.func3, Try.ntmps3
    go_upto_region 1 with fail
    rw [← HW.out]
    obtain ⟨q9, r9, _, _⟩ := blkp (blk_kept GA0.out BB0.out)
    go_wp2_with fail
    refine (CY.out _ BB0.out).mono ?_
    rintro e u9 ⟨rfl, hb⟩
    have BU9 := hide (BQ.out.trans ((BB0.out.trans (hb.mono BB0.out.size)).mono BQ.out.size))
    clear hb
    go_wp2
    go_ret
    exact ⟨rfl, BU9.out⟩
  obtain ⟨Z1, hZ1⟩ : ∃ x, x = 1048576 - (wtSI z0 : Int) := ⟨_, rfl⟩
  have hZn0 : ¬ Z1 < 0 := by omega
  have CY0 := hide (fun wx hb => CZ0.out wx hb Z1 (by rw [if_pos hfit0]; exact hZ1))
  clear CZ0
  have hsz0 : len0 ≤ 1048576 := by have := HN0.out; unfold wtSI at hfit0; omega
  have HX0 : Hid (∀ i, i < z0.length → (z0.getD i []).length ≤ 1048576) := fun i hi => by have h1 : (z0.getD i []).length ≤ wtsI z0 := wtsI_get z0 i hi; unfold wtSI at hfit0; omega
  have hz0 : SmS z0 := ⟨by rw [HN0.out]; exact hsz0, by rw [pre_wts z0 _ (Nat.le_refl _), List.take_length]; unfold wtSI at hfit0; omega, HX0.out⟩
  have CT0 := hide (fun wx (hb : Below W0.heap.size W0 wx) => toSketch_any a0 z0 len0 cap0 B0 wx HN0.out (HS0.out.below hb) hsz0 HX0.out)
  have CEX0 := hide (fun a b c1 c2 wx ha hb => eqSketch_same a b z0 len0 c1 c2 B0 wx HN0.out ha hb hsz0 HX0.out)
  obtain ⟨ok, L, T, hadd⟩ := add_ex (AddOk z0 B0 a1 a2) (addA z0 a1 a2) (B0 + a2)
  have hoo : (ok != ok) = false := by simp
  have hzr := hadd.sms
  have C1 := hide (fun wx a c h => specAddSketch_any a z0 len0 c B0 a1 a2 wx HN0.out hsz0 h HX0.out hsS1' ok L T hadd)
  have C2 := hide (fun wx a c h => implAddSketch_any a z0 len0 c B0 a1 a2 wx HN0.out hsz0 h HX0.out hsS1' ok L T hadd)
  have CE := hide (fun a b c1 c2 wx ha hb => eqSketch_same a b L L.length c1 c2 T wx rfl ha hb hzr.n hzr.s)
  have CM := hide (fun base hi v M wx hML hin how => markSketch_any base hi v L.length M L T wx 1 (by omega) (by omega) hML hzr hin how)
  have CH := hide (fun a c wx hs => heldSketch_any a L.length c 1 L T wx rfl (by omega) (by omega) hzr hs)
  obtain ⟨kk, hkk0⟩ : ∃ kk, kk = 1 + (pre L L.length : Int) := ⟨_, rfl⟩
  have hkn : ¬ kk < 0 := by omega
  have hkk : (kk != kk) = false := by simp
  rw [← hkk0] at CM CH
  obtain ⟨nL, hnL⟩ : ∃ n, n = L.length := ⟨_, rfl⟩
  have HNL := hide hnL
  rw [← hnL] at CE CM CH
  have CMX0 := hide (fun base hi v M wx hML hin how => markSketch_any base hi v len0 M z0 B0 wx 1 (by omega) (by omega) hML hz0 hin how)
  have hpz0 : pre z0 len0 ≤ 1048576 := by rw [← HN0.out]; exact hz0.p
  obtain ⟨y0, hy0⟩ : ∃ y, y = 1 + (pre z0 len0 : Int) := ⟨_, rfl⟩
  have hyn0 : ¬ y0 < 0 := by omega
  rw [← hy0] at CMX0
  have NX := hide (True.intro)
  clear hadd hkk0 hnL hzr hy0 hz0 hpz0 hm0 hn0 hfit0
  go_enter Try.func3, Try.ntmps3
  go_upto_region 1 with fail
  rw [← HW.out]
  obtain ⟨k_1, k_2, _, _⟩ := blkp (blk_kept GA0.out BB0.out)
  go_wp2_with fail
  refine (CY0.out _ BB0.out).mono ?_
  rintro e w_3 ⟨rfl, hb⟩
  clear k_1 k_2
  have BB_4 := hide (BB0.out.trans (hb.mono BB0.out.size))
  clear BB0
  clear hb
  obtain ⟨k_8, k_9, _, _⟩ := blkp (blk_kept GA0.out BB_4.out)
  go_wp2_with fail
  refine (CT0.out _ BB_4.out).mono ?_
  rintro e w_5 ⟨g_6, rfl, ⟨M_7, hM, ho⟩, hb⟩
  clear k_8 k_9
  have hsl := ho.sl
  rw [hM] at hsl
  have SP_10 := hide hsl
  have BB_11 := hide (BB_4.out.trans (hb.mono BB_4.out.size))
  clear BB_4
  clear hb ho hM hsl
  go_wp2_with fail
  refine (C1.out _ _ _ SP_10.out).mono ?_
  rintro e u_12 ⟨v, rfl, hr⟩
  obtain ⟨⟨aS_13, cS_14, MS_15, hv, hG⟩, hb⟩ := hg_made T hr
  rw [← HNL.out] at hv hG
  subst hv
  obtain ⟨w_16, hwA⟩ : ∃ x, x = u_12.alloc (skO (.slice aS_13 nL cS_14) T) := ⟨_, rfl⟩
  obtain ⟨bS_17, hb1⟩ : ∃ x, x = u_12.heap.size := ⟨_, rfl⟩
  have hA := hb.alloc hb.size (skO (.slice aS_13 nL cS_14) T)
  rw [← hwA] at hG hA
  rw [← hb1] at hG
  have HW_18 := hide hwA
  have HB_19 := hide hb1
  have GS_20 := hide hG
  have BB_21 := hide (BB_11.out.trans (hA.mono BB_11.out.size))
  clear BB_11
  clear hwA hb1 hG hA hb hr
  go_upto_region 8 with fail
  rw [← HW_18.out, ← HB_19.out]
  have LBX0 := hide BB_21.out.size
  have LTSX0 := hide GS_20.out.lt
  obtain ⟨k_25, k_26, _, _⟩ := blkp (blk_kept GA0.out BB_21.out)
  go_wp2_with fail
  refine (CT0.out _ BB_21.out).mono ?_
  rintro e w_22 ⟨g_23, rfl, ⟨M_24, hM, ho⟩, hb⟩
  clear k_25 k_26
  have hr : RH w_16 w_22 _ z0 := ⟨⟨M_24, hM, by rw [HN0.out]; exact ho⟩, hb⟩
  clear hM ho hb
  have HNX0 := hide HN0.out.symm
  obtain ⟨⟨aX0_27, cX0_28, MX0_29, hv, hG⟩, hb⟩ := hg_made B0 hr
  rw [← HNX0.out] at hv hG
  obtain ⟨rfl, _, rfl⟩ := Value.slice.inj hv
  clear hv
  obtain ⟨w_30, hwA⟩ : ∃ x, x = w_22.alloc (skO (.slice (some ⟨g_23, 0, none⟩) len0 len0) B0) := ⟨_, rfl⟩
  obtain ⟨bX0_31, hb1⟩ : ∃ x, x = w_22.heap.size := ⟨_, rfl⟩
  have hA := hb.alloc hb.size (skO (.slice (some ⟨g_23, 0, none⟩) len0 len0) B0)
  rw [← hwA] at hG hA
  rw [← hb1] at hG
  have HW_32 := hide hwA
  have HB_33 := hide hb1
  have GX0_34 := hide hG
  have GS_35 := hide (GS_20.out.below hA)
  clear GS_20
  have BB_36 := hide (BB_21.out.trans (hA.mono BB_21.out.size))
  clear BB_21
  clear hwA hb1 hG hA hb hr
  go_upto_region 9 with fail
  rw [← HW_32.out, ← HB_33.out]
  have LBG := hide BB_36.out.size
  have LTSG := hide GS_35.out.lt
  have LTX0G := hide GX0_34.out.lt
  obtain ⟨k_38, k_39, _, _⟩ := blkp GX0_34.out.box
  go_wp2_with fail
  refine (C2.out _ _ _ GX0_34.out.sl).mono ?_
  rintro e u_37 ⟨v, rfl, hr⟩
  clear k_38 k_39
  obtain ⟨⟨aG_40, cG_41, MG_42, hv, hG⟩, hb⟩ := hg_made T hr
  rw [← HNL.out] at hv hG
  subst hv
  obtain ⟨w_43, hwA⟩ : ∃ x, x = u_37.alloc (skO (.slice aG_40 nL cG_41) T) := ⟨_, rfl⟩
  obtain ⟨bG_44, hb1⟩ : ∃ x, x = u_37.heap.size := ⟨_, rfl⟩
  have hA := hb.alloc hb.size (skO (.slice aG_40 nL cG_41) T)
  rw [← hwA] at hG hA
  rw [← hb1] at hG
  have HW_45 := hide hwA
  have HB_46 := hide hb1
  have GG_47 := hide hG
  have GS_48 := hide (GS_35.out.below hA)
  clear GS_35
  have GX0_49 := hide (GX0_34.out.below hA)
  clear GX0_34
  have BB_50 := hide (BB_36.out.trans (hA.mono BB_36.out.size))
  clear BB_36
  clear hwA hb1 hG hA hb hr
  go_upto_region 10 with fail
  rw [← HW_45.out, ← HB_46.out]
  obtain ⟨k_51, k_52, _, _⟩ := blkp GG_47.out.box
  obtain ⟨k_53, k_54, _, _⟩ := blkp GS_48.out.box
  go_wp2_with fail
  refine (CE.out _ _ _ _ _ GG_47.out.sl GS_48.out.sl).mono ?_
  rintro e w_55 ⟨rfl, hb⟩
  clear k_51 k_52 k_53 k_54
  have GS_56 := hide (GS_48.out.below hb)
  clear GS_48
  have GX0_57 := hide (GX0_49.out.below hb)
  clear GX0_49
  have GG_58 := hide (GG_47.out.below hb)
  clear GG_47
  have BB_59 := hide (BB_50.out.trans (hb.mono BB_50.out.size))
  clear BB_50
  clear hb
  obtain ⟨k_60, k_61, _, _⟩ := blkp (blk_kept GA0.out BB_59.out)
  obtain ⟨k_62, k_63, _, _⟩ := blkp GX0_57.out.box
  go_upto_region 12 with fail
  refine wp_region_held_drew (S := (fun wx => (wx.cell? ⟨w.heap.size, 0, none⟩ = some (.slice a0 len0 cap0) ∧ wx.cell? ⟨w.heap.size, 1, none⟩ = some (.int .i64 B0) ∧ wx.cell? ⟨bX0_31, 0, none⟩ = some (.slice (some ⟨g_23, 0, none⟩) len0 len0) ∧ wx.cell? ⟨bX0_31, 1, none⟩ = some (.int .i64 B0)) ∧ Below w_55.heap.size w_55 wx)) (by kernel_rfl) ⟨⟨k_60, k_61, k_62, k_63⟩, (Below.refl _ _).drew⟩ (fun hHeld => ?_)
  refine wpAnyH_take (i := 0) (v := ?v1) rfl (by kernel_rfl) (by kernel_rfl) (by kernel_rfl) (fun _ _ _ h => h) (Or.inl ⟨by rfl, ?y1⟩) (by assumption) ?r1
  case y1 => (intro w hSw; (try dsimp only at hSw); go_simp; try (with_reducible rfl))
  simp only [List.getElem_toArray, List.getElem_cons_zero, Act.put, List.setIfInBounds_toArray, List.set_cons_zero, List.set_cons_succ]
  refine wpAnyH_take (i := 1) (v := ?v2) rfl (by kernel_rfl) (by kernel_rfl) (by kernel_rfl) (fun _ _ _ h => h) (Or.inl ⟨by rfl, ?y2⟩) (by assumption) ?r2
  case y2 => (intro w hSw; (try dsimp only at hSw); go_simp; try (with_reducible rfl))
  simp only [List.getElem_toArray, List.getElem_cons_succ, List.getElem_cons_zero, Act.put, List.setIfInBounds_toArray, List.set_cons_zero, List.set_cons_succ]
  refine wpAnyH_ready (rs := [2]) (by kernel_rfl) (by simp) ?_
  refine AllReadyH.cons rfl (fun K hK => ?_) AllReadyH.nil
  simp only [List.getElem_toArray, List.getElem_cons_succ, List.getElem_cons_zero]
  go_simp
  go_at_call 11
  refine (CT0.out _ (BB_59.out.trans (hHeld.2.mono BB_59.out.size))).mono ?_
  rintro e w_64 ⟨g_66, rfl, ⟨M_67, hMt, hot⟩, hbt⟩
  have St := hot.sl
  rw [hMt] at St
  have HSt := hide St
  clear St hot hMt
  dsimp only
  refine hK.out _ _ ?_ (fun hHeld => ?_)
  · exact L8.keep4 hHeld hbt (Nat.le_refl _)
  clear hK K
  try simp only [Act.put, List.setIfInBounds_toArray, List.set_cons_zero, List.set_cons_succ]
  refine wpAnyH_ready (rs := [3]) (by kernel_rfl) (by simp) ?_
  refine AllReadyH.cons rfl (fun K hK => ?_) AllReadyH.nil
  simp only [List.getElem_toArray, List.getElem_cons_succ, List.getElem_cons_zero]
  go_simp
  go_at_call 13
  refine (CEX0.out _ _ _ _ _ (GX0_57.out.below hHeld.2).sl HSt.out).mono ?_
  rintro e w_65 ⟨rfl, hbu⟩
  dsimp only
  refine hK.out _ _ ?_ (fun hHeld => ?_)
  · exact L8.keep4 (by assumption) hbu (Nat.le_refl _)
  clear hK K
  try simp only [Act.put, List.setIfInBounds_toArray, List.set_cons_zero, List.set_cons_succ]
  refine wpAnyH_take (i := 4) (v := ?v3) rfl (by kernel_rfl) (by kernel_rfl) (by kernel_rfl) (fun _ _ _ h => h) (Or.inl ⟨by rfl, ?y3⟩) (by assumption) ?r3
  case y3 => (intro w hSw; (try dsimp only at hSw); go_simp; try (with_reducible rfl))
  simp only [List.getElem_toArray, List.getElem_cons_succ, List.getElem_cons_zero, Act.put, List.setIfInBounds_toArray, List.set_cons_zero, List.set_cons_succ]
  refine wpAnyH_done (by kernel_rfl) ?_ _
  have hb := hHeld.2
  clear hHeld k_60 k_61 k_62 k_63
  have GS_68 := hide (GS_56.out.below hb)
  clear GS_56
  have GX0_69 := hide (GX0_57.out.below hb)
  clear GX0_57
  have GG_70 := hide (GG_58.out.below hb)
  clear GG_58
  have BB_71 := hide (BB_59.out.trans (hb.mono BB_59.out.size))
  clear BB_59
  clear hb
  obtain ⟨k_72, k_73, _, _⟩ := blkp GX0_69.out.box
  go_wp2_with fail
  refine (CMX0.out (w_16.heap.size) bX0_31 _ _ _ GX0_69.out.eq GX0_69.out.inr GX0_69.out.ow).mono ?_
  rintro e w_74 ⟨rfl, ⟨M_75, hM', how', hsame⟩, hon⟩
  clear k_72 k_73
  have GX0_76 := hide (GX0_69.out.marked hon how' hsame hM')
  have GS_77 := hide (GS_68.out.only hon (.inl (LTSX0.out)))
  clear GS_68
  have GG_78 := hide (GG_70.out.only hon (.inr (Nat.le_of_lt LTX0G.out)))
  clear GG_70
  have BB_79 := hide (BB_71.out.trans ((hon.below (by have := GX0_69.out.bs; have := GX0_69.out.lt; omega)).mono LBX0.out))
  clear hon how' hsame hM' GX0_69 BB_71
  obtain ⟨k_80, k_81, _, _⟩ := blkp GG_78.out.box
  obtain ⟨k_82, k_83, _, _⟩ := blkp GS_77.out.box
  go_wp2_with fail
  refine (CE.out _ _ _ _ _ GG_78.out.sl GS_77.out.sl).mono ?_
  rintro e w_84 ⟨rfl, hb⟩
  clear k_80 k_81 k_82 k_83
  have GS_85 := hide (GS_77.out.below hb)
  clear GS_77
  have GX0_86 := hide (GX0_76.out.below hb)
  clear GX0_76
  have GG_87 := hide (GG_78.out.below hb)
  clear GG_78
  have BB_88 := hide (BB_79.out.trans (hb.mono BB_79.out.size))
  clear BB_79
  clear hb
  obtain ⟨k_89, k_90, _, _⟩ := blkp GG_87.out.box
  go_wp2_with fail
  refine (CM.out (w_30.heap.size) bG_44 _ _ _ GG_87.out.eq GG_87.out.inr GG_87.out.ow).mono ?_
  rintro e w_91 ⟨rfl, ⟨M_92, hM', how', hsame⟩, hon⟩
  clear k_89 k_90
  have GG_93 := hide (GG_87.out.marked hon how' hsame hM')
  have GS_94 := hide (GS_85.out.only hon (.inl (LTSG.out)))
  clear GS_85
  have GX0_95 := hide (GX0_86.out.only hon (.inl (LTX0G.out)))
  clear GX0_86
  have BB_96 := hide (BB_88.out.trans ((hon.below (by have := GG_87.out.bs; have := GG_87.out.lt; omega)).mono LBG.out))
  clear hon how' hsame hM' GG_87 BB_88
  clear GX0_95
  obtain ⟨k_97, k_98, _, _⟩ := blkp GG_93.out.box
  go_wp2_with fail
  refine (CH.out _ _ _ GG_93.out.sl).mono ?_
  rintro e w_99 ⟨rfl, hb⟩
  clear k_97 k_98
  have GS_100 := hide (GS_94.out.below hb)
  clear GS_94
  have GG_101 := hide (GG_93.out.below hb)
  clear GG_93
  have BB_102 := hide (BB_96.out.trans (hb.mono BB_96.out.size))
  clear BB_96
  clear hb
  obtain ⟨k_106, k_107, _, _⟩ := blkp (blk_kept GA0.out BB_102.out)
  go_wp2_with fail
  refine (CT0.out _ BB_102.out).mono ?_
  rintro e w_103 ⟨g_104, rfl, ⟨M_105, hM, ho⟩, hb⟩
  clear k_106 k_107
  have hsl := ho.sl
  rw [hM] at hsl
  have SP_108 := hide hsl
  have GS_109 := hide (GS_100.out.below hb)
  clear GS_100
  have GG_110 := hide (GG_101.out.below hb)
  clear GG_101
  have BB_111 := hide (BB_102.out.trans (hb.mono BB_102.out.size))
  clear BB_102
  clear hb ho hM hsl
  go_wp2_with fail
  refine (C2.out _ _ _ SP_108.out).mono ?_
  rintro e u_112 ⟨v, rfl, hr⟩
  obtain ⟨⟨aV_113, cV_114, MV_115, hv, hG⟩, hb⟩ := hg_made T hr
  rw [← HNL.out] at hv hG
  subst hv
  obtain ⟨w_116, hwA⟩ : ∃ x, x = u_112.alloc (skO (.slice aV_113 nL cV_114) T) := ⟨_, rfl⟩
  obtain ⟨bV_117, hb1⟩ : ∃ x, x = u_112.heap.size := ⟨_, rfl⟩
  have hA := hb.alloc hb.size (skO (.slice aV_113 nL cV_114) T)
  rw [← hwA] at hG hA
  rw [← hb1] at hG
  have HW_118 := hide hwA
  have HB_119 := hide hb1
  have GV_120 := hide hG
  have GS_121 := hide (GS_109.out.below hA)
  clear GS_109
  have GG_122 := hide (GG_110.out.below hA)
  clear GG_110
  have BB_123 := hide (BB_111.out.trans (hA.mono BB_111.out.size))
  clear BB_111
  clear hwA hb1 hG hA hb hr
  go_upto_region 27 with fail
  rw [← HW_118.out, ← HB_119.out]
  obtain ⟨k_124, k_125, _, _⟩ := blkp GV_120.out.box
  obtain ⟨k_126, k_127, _, _⟩ := blkp GS_121.out.box
  go_wp2_with fail
  refine (CE.out _ _ _ _ _ GV_120.out.sl GS_121.out.sl).mono ?_
  rintro e w_128 ⟨rfl, hb⟩
  clear k_124 k_125 k_126 k_127
  have GS_129 := hide (GS_121.out.below hb)
  clear GS_121
  have GG_130 := hide (GG_122.out.below hb)
  clear GG_122
  have GV_131 := hide (GV_120.out.below hb)
  clear GV_120
  have BB_132 := hide (BB_123.out.trans (hb.mono BB_123.out.size))
  clear BB_123
  clear hb
  obtain ⟨k_133, k_134, _, _⟩ := blkp GG_130.out.box
  go_wp2_with fail
  refine (CH.out _ _ _ GG_130.out.sl).mono ?_
  rintro e w_135 ⟨rfl, hb⟩
  clear k_133 k_134
  have GS_136 := hide (GS_129.out.below hb)
  clear GS_129
  have GG_137 := hide (GG_130.out.below hb)
  clear GG_130
  have GV_138 := hide (GV_131.out.below hb)
  clear GV_131
  have BB_139 := hide (BB_132.out.trans (hb.mono BB_132.out.size))
  clear BB_132
  clear hb
  go_wp2
  go_ret
  exact ⟨rfl, BQ.out.trans (BB_139.out.mono BQ.out.size)⟩
end Go.Proofs.Ytfmfnlpajoikman.fnExactAddSketch
