/-
  The walk of the law FnExactLeastOf: it returns true at every Heavy and name; memory that was there stays as it was.
-/
import Derived.Test.YtfmfnlpajoikmaoL15HLeast
import Derived.Test.YtfmfnlpajoikmaoL15HSLeast
import Derived.Test.YtfmfnlpajoikmaoL15HHelp
import Derived.Test.YtfmfnlpajoikmaoL15HOpen
import Derived.Deep.DeepCutAuto
import Derived.Deep.RegionHeld3
namespace Go.Proofs.Ytfmfnlpajoikmao.fnExactLeastOf
open Go.RowKit L1 L4 Own Str L15H
set_option linter.unusedVariables false

open Classical in
set_option maxRecDepth 100000 in
set_option maxHeartbeats 8000000 in
theorem walk (aN0 : Option Addr) (nN0 cN0 : Nat) (aC0 : Option Addr) (nC0 cC0 : Nat) (G0 T0 : Int) (zN0 : List ByteArray) (zC0 : List Int) (a1 : ByteArray) (w : World) (w0 : IsHeavy w aN0 nN0 aC0 nC0 zN0 zC0) (w1 : a1.size ≤ maxLen) :
    Calls Try.prog 4 #[.agg #[.slice aN0 nN0 cN0, .slice aC0 nC0 cC0, .int .i64 G0, .int .i64 T0], .string a1] w fun e w' => e = .returned (.bool true) ∧ Below w.heap.size w w' := by
  have BX := (Below.refl w.heap.size w).alloc (Nat.le_refl _) (.cells #[.slice aN0 nN0 cN0, .slice aC0 nC0 cC0, .int .i64 G0, .int .i64 T0] 25 (0, 0))
  have ga := L8.blk_new w (.cells #[.slice aN0 nN0 cN0, .slice aC0 nC0 cC0, .int .i64 G0, .int .i64 T0] 25 (0, 0))
  have hN := w0.N.1.2.1
  have hC := w0.C.2.1
  unfold maxLen at hN hC
  have hst := w0.N.2
  have hf := w0.hf G0 T0
  unfold maxLen at w1
  by_cases hsS1 : 1048576 < (a1.size : Int)
  · clear w1 BX ga hN hC hst hf w0
    go_enter Try.func4, Try.ntmps4
    go_wp2
    go_ret
    exact ⟨rfl, (Below.refl _ _).alloc (Nat.le_refl _) _⟩
  have hsS1' : a1.size ≤ 9223372036854775807 := by omega
  clear w1
  obtain ⟨W0, hW0⟩ : ∃ W0, W0 = w.alloc (.cells #[.slice aN0 nN0 cN0, .slice aC0 nC0 cC0, .int .i64 G0, .int .i64 T0] 25 (0, 0)) := ⟨_, rfl⟩
  rw [← hW0] at BX ga
  have HW := hide hW0
  have BQ := hide BX
  have GA := hide ga
  have HFA := hide (hf.below BX)
  have HST := hide hst
  clear BX hW0 ga hf hst w0
  have BB0 := hide (Below.refl W0.heap.size W0)
  have CZ := hide (fun wx (hb : Below W0.heap.size W0 wx) r hr => szHeavy_any aN0 nN0 cN0 aC0 nC0 cC0 G0 T0 (⟨zN0, zC0, G0, T0⟩ : Hv) 1048576 wx hN hC (HFA.out.below hb) HST.out (by omega) (by omega) r hr)
  by_cases hfit : (wtH (⟨zN0, zC0, G0, T0⟩ : Hv) : Int) ≤ 1048576
  rotate_left
  · have CY := hide (fun wx hb => CZ.out wx hb (-1) (by rw [if_neg hfit]))
    clear CZ
    go_enter Try.func4, Try.ntmps4
    go_upto_region 1 with fail
    rw [← HW.out]
    obtain ⟨q0, q1, q2, q3⟩ := blk4 GA.out
    go_wp2_with fail
    refine (CY.out _ BB0.out).mono ?_
    rintro e u9 ⟨rfl, hb⟩
    have BU9 := hide (BQ.out.trans (hb.mono BQ.out.size))
    clear hb
    go_wp2
    go_ret
    exact ⟨rfl, BU9.out⟩
  obtain ⟨Z1, hZ1⟩ : ∃ x, x = 1048576 - (wtH (⟨zN0, zC0, G0, T0⟩ : Hv) : Int) := ⟨_, rfl⟩
  have hZn : ¬ Z1 < 0 := by omega
  have CY := hide (fun wx hb => CZ.out wx hb Z1 (by rw [if_pos hfit]; exact hZ1))
  clear CZ
  have hn2 : nN0 ≤ 1048576 := by have h1 := HFA.out.ln; have h2 : zN0.length = nN0 := h1; unfold wtH wtS at hfit; simp only at hfit; omega
  have hm2 : nC0 ≤ 1048576 := by have h1 := HFA.out.lc; have h2 : zC0.length = nC0 := h1; unfold wtH at hfit; simp only at hfit; omega
  have htx : ∀ i, i < zN0.length → (zN0.getD i e0).size ≤ 1048576 := fun i hi => by have h1 := szsS_get zN0 i hi; unfold wtH wtS at hfit; simp only at hfit; omega
  have CT := hide (fun wx (hb : Below W0.heap.size W0 wx) => toHeavy_any aN0 nN0 cN0 aC0 nC0 cC0 G0 T0 (⟨zN0, zC0, G0, T0⟩ : Hv) wx hn2 hm2 (HFA.out.below hb))
  have CEX := hide (fun a c b d a2 c2 b2 d2 wx h1 h2 => eqHeavy_same a nN0 c b nC0 d a2 c2 b2 d2 G0 T0 (⟨zN0, zC0, G0, T0⟩ : Hv) wx h1 h2 hn2 hm2)
  have CMX := hide (fun base hi v u wx hbs iv iu ho => markHeavy_any base hi v u nN0 nC0 G0 T0 (⟨zN0, zC0, G0, T0⟩ : Hv) wx 1 (by omega) (by omega) hn2 hm2 hbs iv iu ho)
  obtain ⟨ok, hok⟩ := dec_exH (GoodHv (⟨zN0, zC0, G0, T0⟩ : Hv) nN0 nC0 ∧ L3.Word false a1)
  have hbo : (ok != ok) = false := by simp
  obtain ⟨x, y, hx, hx0⟩ := least_ex (⟨zN0, zC0, G0, T0⟩ : Hv) nN0 nC0 a1 G0 ok hok
  have hxx : (x != x) = false := by simp
  have hyy : (y != y) = false := by simp
  have C1 := hide (fun wx a c b d hf => sLeastOf_any a nN0 c b nC0 d G0 T0 (⟨zN0, zC0, G0, T0⟩ : Hv) a1 wx hf rfl rfl hn2 hm2 htx hsS1' ok hok x y hx hx0)
  have C2 := hide (fun wx a c b d hf hcp => leastOf_any a nN0 c b nC0 d G0 T0 (⟨zN0, zC0, G0, T0⟩ : Hv) a1 wx hf hcp rfl rfl hn2 hm2 htx hsS1' ok hok x y hx hx0)
  clear hZ1 hfit hN hC hn2 hm2 htx CMX hok hx hx0
  go_enter Try.func4, Try.ntmps4
  go_upto_region 1 with fail
  rw [← HW.out]
  obtain ⟨k_1, k_2, k_3, k_4⟩ := blk4 (blk_kept GA.out BB0.out)
  go_wp2_with fail
  refine (CY.out _ BB0.out).mono ?_
  rintro e w_5 ⟨rfl, hb⟩
  clear k_1 k_2 k_3 k_4
  have BB_6 := hide (BB0.out.trans (hb.mono BB0.out.size))
  clear BB0
  clear hb
  obtain ⟨k_7, k_8, k_9, k_10⟩ := blk4 (blk_kept GA.out BB_6.out)
  go_wp2_with fail
  refine (CT.out _ BB_6.out).mono ?_
  rintro e w_11 ⟨x_12, y_13, rfl, ho, hb⟩
  clear k_7 k_8 k_9 k_10
  have hf := hide ho.hf
  have BB_14 := hide (BB_6.out.trans (hb.mono BB_6.out.size))
  clear BB_6
  clear hb ho
  go_wp2_with fail
  refine (C1.out _ _ _ _ _ hf.out).mono ?_
  rintro e u_15 ⟨rfl, hb⟩
  clear hf
  have BB_16 := hide (BB_14.out.trans (hb.mono BB_14.out.size))
  clear BB_14
  clear hb
  obtain ⟨k_17, k_18, k_19, k_20⟩ := blk4 (blk_kept GA.out BB_16.out)
  go_wp2_with fail
  refine (CT.out _ BB_16.out).mono ?_
  rintro e w_21 ⟨x_22, y_23, rfl, ho, hb⟩
  clear k_17 k_18 k_19 k_20
  have hr : True := trivial
  have hG := hg_copy (h := (⟨zN0, zC0, G0, T0⟩ : Hv)) ho hb
  have hA := hb.alloc hb.size (hvO (.slice (some ⟨x_22, 0, none⟩) nN0 nN0) (.slice (some ⟨y_23, 0, none⟩) nC0 nC0) G0 T0)
  clear ho
  obtain ⟨w_24, hwA⟩ : ∃ x, x = w_21.alloc (hvO (.slice (some ⟨x_22, 0, none⟩) nN0 nN0) (.slice (some ⟨y_23, 0, none⟩) nC0 nC0) G0 T0) := ⟨_, rfl⟩
  obtain ⟨bX_25, hb1⟩ : ∃ x, x = w_21.heap.size := ⟨_, rfl⟩
  rw [← hwA] at hG hA
  rw [← hb1] at hG
  have HW_26 := hide hwA
  have HB_27 := hide hb1
  have GX_28 := hide hG
  have BB_29 := hide (BB_16.out.trans (hA.mono BB_16.out.size))
  clear BB_16
  clear hwA hb1 hG hA hb hr
  go_upto_region 9 with fail
  rw [← HW_26.out, ← HB_27.out]
  obtain ⟨k_30, k_31, k_32, k_33⟩ := blk4 GX_28.out.box
  go_wp2_with fail
  refine (C2.out _ _ _ _ _ GX_28.out.ow.hf (Nat.le_refl _)).mono ?_
  rintro e u_34 ⟨rfl, hb⟩
  clear k_30 k_31 k_32 k_33
  have GX_35 := hide (GX_28.out.below hb)
  clear GX_28
  have BB_36 := hide (BB_29.out.trans (hb.mono BB_29.out.size))
  clear BB_29
  clear hb
  obtain ⟨k_37, k_38, k_39, k_40⟩ := blk4 (blk_kept GA.out BB_36.out)
  obtain ⟨k_41, k_42, k_43, k_44⟩ := blk4 GX_35.out.box
  go_upto_region 12 with fail
  refine wp_region_held_drew (S := (fun wx => (wx.cell? ⟨w.heap.size, 0, none⟩ = some (.slice aN0 nN0 cN0) ∧ wx.cell? ⟨w.heap.size, 1, none⟩ = some (.slice aC0 nC0 cC0) ∧ wx.cell? ⟨w.heap.size, 2, none⟩ = some (.int .i64 G0) ∧ wx.cell? ⟨w.heap.size, 3, none⟩ = some (.int .i64 T0) ∧ wx.cell? ⟨bX_25, 0, none⟩ = some (.slice (some ⟨x_22, 0, none⟩) nN0 nN0) ∧ wx.cell? ⟨bX_25, 1, none⟩ = some (.slice (some ⟨y_23, 0, none⟩) nC0 nC0) ∧ wx.cell? ⟨bX_25, 2, none⟩ = some (.int .i64 G0) ∧ wx.cell? ⟨bX_25, 3, none⟩ = some (.int .i64 T0)) ∧ Below u_34.heap.size u_34 wx)) (by kernel_rfl) ⟨⟨k_37, k_38, k_39, k_40, k_41, k_42, k_43, k_44⟩, (Below.refl _ _).drew⟩ (fun hHeld => ?_)
  refine wpAnyH_take (i := 0) (v := ?v4) rfl (by kernel_rfl) (by kernel_rfl) (by kernel_rfl) (fun _ _ _ h => h) (Or.inl ⟨by rfl, ?y4⟩) (by assumption) ?r4
  case y4 => (intro w hSw; (try dsimp only at hSw); go_simp; try (with_reducible rfl))
  simp only [List.getElem_toArray, List.getElem_cons_zero, Act.put, List.setIfInBounds_toArray, List.set_cons_zero, List.set_cons_succ]
  refine wpAnyH_take (i := 1) (v := ?v5) rfl (by kernel_rfl) (by kernel_rfl) (by kernel_rfl) (fun _ _ _ h => h) (Or.inl ⟨by rfl, ?y5⟩) (by assumption) ?r5
  case y5 => (intro w hSw; (try dsimp only at hSw); go_simp; try (with_reducible rfl))
  simp only [List.getElem_toArray, List.getElem_cons_succ, List.getElem_cons_zero, Act.put, List.setIfInBounds_toArray, List.set_cons_zero, List.set_cons_succ]
  refine wpAnyH_ready (rs := [2]) (by kernel_rfl) (by simp) ?_
  refine AllReadyH.cons rfl (fun K hK => ?_) AllReadyH.nil
  simp only [List.getElem_toArray, List.getElem_cons_succ, List.getElem_cons_zero]
  go_simp
  go_at_call 8
  refine (CT.out _ (BB_36.out.trans (hHeld.2.mono BB_36.out.size))).mono ?_
  rintro e w_45 ⟨x_47, y_48, rfl, hot, hbt⟩
  have HSt := hide hot.hf
  clear hot
  dsimp only
  refine hK.out _ _ ?_ (fun hHeld => ?_)
  · exact L8.keep8 hHeld hbt (Nat.le_refl _)
  clear hK K
  try simp only [Act.put, List.setIfInBounds_toArray, List.set_cons_zero, List.set_cons_succ]
  refine wpAnyH_ready (rs := [3]) (by kernel_rfl) (by simp) ?_
  refine AllReadyH.cons rfl (fun K hK => ?_) AllReadyH.nil
  simp only [List.getElem_toArray, List.getElem_cons_succ, List.getElem_cons_zero]
  go_simp
  go_at_call 10
  refine (CEX.out _ _ _ _ _ _ _ _ _ (GX_35.out.below hHeld.2).ow.hf HSt.out).mono ?_
  rintro e w_46 ⟨rfl, hbu⟩
  dsimp only
  refine hK.out _ _ ?_ (fun hHeld => ?_)
  · exact L8.keep8 (by assumption) hbu (Nat.le_refl _)
  clear hK K
  try simp only [Act.put, List.setIfInBounds_toArray, List.set_cons_zero, List.set_cons_succ]
  refine wpAnyH_take (i := 4) (v := ?v6) rfl (by kernel_rfl) (by kernel_rfl) (by kernel_rfl) (fun _ _ _ h => h) (Or.inl ⟨by rfl, ?y6⟩) (by assumption) ?r6
  case y6 => (intro w hSw; (try dsimp only at hSw); go_simp; try (with_reducible rfl))
  simp only [List.getElem_toArray, List.getElem_cons_succ, List.getElem_cons_zero, Act.put, List.setIfInBounds_toArray, List.set_cons_zero, List.set_cons_succ]
  refine wpAnyH_done (by kernel_rfl) ?_ _
  have hb := hHeld.2
  clear hHeld k_37 k_38 k_39 k_40 k_41 k_42 k_43 k_44
  have GX_49 := hide (GX_35.out.below hb)
  clear GX_35
  have BB_50 := hide (BB_36.out.trans (hb.mono BB_36.out.size))
  clear BB_36
  clear hb
  go_wp2
  go_ret
  exact ⟨rfl, BQ.out.trans (BB_50.out.mono BQ.out.size)⟩
end Go.Proofs.Ytfmfnlpajoikmao.fnExactLeastOf
