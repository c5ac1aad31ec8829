/-
  The walk of the law FnExactRowOf: it returns true at every head and every name; memory that was there stays as it was.
-/
import Derived.Test.YtbcnkglcfjinealL13Row
import Derived.Test.YtbcnkglcfjinealL13SRow
import Derived.Test.YtbcnkglcfjinealL13Held
import Derived.Test.YtbcnkglcfjinealL13Kat
import Derived.Test.YtbcnkglcfjinealL13Eq
import Derived.Test.YtbcnkglcfjinealL13Size
import Derived.Deep.DeepCutAuto
import Derived.Deep.RegionHeld3
namespace Go.Proofs.Ytbcnkglcfjineal.fnExactRowOf
open Go.RowKit L1 L13
set_option linter.unusedVariables false

set_option maxRecDepth 100000 in
set_option maxHeartbeats 8000000 in
theorem walk (a0 : Option Addr) (len0 cap0 : Nat) (z0 : List Rw) (B0 : Int) (a1 : ByteArray) (w : World) (w0 : IsRowR w a0 len0 z0) (w1 : a1.size ≤ maxLen) :
    Calls Try.prog 3 #[.agg #[.slice a0 len0 cap0, .int .i64 B0], .string a1] w fun e w' => e = .returned (.bool true) ∧ Below w.heap.size w w' := by
  obtain ⟨⟨hn, hm, hs⟩, hst⟩ := w0
  have HS := hide hs
  have HN := hide hn
  have HST := hide hst
  unfold maxLen at hm
  have C0 := hide (fun wx (hb : Below w.heap.size w wx) r hr => szHead_any a0 z0 len0 cap0 B0 1048576 wx hn (by omega) (hs.below hb) hst (by omega) (by omega) r hr)
  clear hs hn hst
  unfold maxLen at w1
  by_cases hbig : (1048576 : Int) < (a1.size : Int)
  · clear C0 HS HN HST
    go_enter Try.func3, Try.ntmps3
    go_wp2
    go_ret
    exact ⟨rfl, (Below.refl _ _).alloc (Nat.le_refl _) _⟩
  by_cases hfit : (wtR z0 : Int) ≤ 1048576
  · have hwt : len0 + szr z0 ≤ 1048576 := by have := HN.out; unfold wtR at hfit; omega
    have hsz : len0 ≤ 1048576 := by omega
    have HX : Hid (∀ i, i < len0 → (gr z0 i).l.length ≤ 1048576) := fun i hi => by have h1 : (gr z0 i).nm.size + (gr z0 i).l.length ≤ szr z0 := szr_get z0 i (by rw [HN.out]; exact hi); omega
    have HXL : Hid (∀ j, j < z0.length → (gr z0 j).l.length ≤ 1048576) := fun j hj => HX.out j (by rw [← HN.out]; exact hj)
    have hk0 : ¬ (1048576 - (wtR z0 : Int)) < 0 := by omega
    obtain ⟨r, ok, hr⟩ := row_ex z0 B0 a1
    have hrl : r.length ≤ 1048576 := by
      cases hr with
      | bad _ => exact Nat.zero_le _
      | none _ _ => exact Nat.zero_le _
      | some _ k hk _ => exact HXL.out k hk
    obtain ⟨m, hm2⟩ : ∃ m, m = r.length := ⟨_, rfl⟩
    have HM := hide hm2.symm
    have CS := hide (fun a cap wx hs => (specRowOf_any a z0 len0 cap B0 a1 wx HN.out hsz hs HST.out HXL.out r ok hr).mono (fun e w' h => (ret_s HM.out h : RetS13 wx w' e m r ok)))
    have CI := hide (fun a cap wx hs => (implRowOf_any a z0 len0 cap B0 a1 wx HN.out hsz hs HST.out HXL.out r ok hr).mono (fun e w' h => (ret_s HM.out h : RetS13 wx w' e m r ok)))
    have hml : m ≤ 1048576 := by omega
    obtain ⟨K, hK⟩ : ∃ K, K = katR z0 len0 := ⟨_, rfl⟩
    have hkf : ∀ i, i ≤ len0 → katR z0 i ≤ 2147483648 := fun i hi => katR_few z0 (by rw [HN.out]; omega) i (by rw [HN.out]; exact hi)
    have CMX := hide (fun base hi v M wx hML hin how => markHead_any base hi v len0 M z0 B0 wx hML hsz hkf HX.out hin how)
    rw [← hK] at CMX
    have hKp : ¬ K < 0 := by have := katR_pos z0 len0; omega
    have hqm : ¬ 1 + 2 * (m : Int) < 0 := by omega
    have hqq : ((1 + 2 * (m : Int)) != (1 + 2 * (m : Int))) = false := by simp
    have hoo : (ok != ok) = false := by simp
    have CE := hide (fun a b c1 c2 wx ha hb => eqSampleS_same a b r m c1 c2 wx HM.out ha hb hml)
    clear hr hrl hm2 hkf hK
    go_enter Try.func3, Try.ntmps3
    go_wp2_with fail
    refine (C0.out _ ((Below.refl _ _).alloc (Nat.le_refl _) _) (1048576 - (wtR z0 : Int)) (by rw [if_pos (by omega)])).mono ?_
    rintro e w1 ⟨rfl, hb⟩
    have A0 := hide ((hb.block w.heap.size (by simp)).trans (L8.blk_new w (.cells #[.slice a0 len0 cap0, .int .i64 B0] 24 (0, 0))))
    have Z0 : Hid (w.heap.size + 1 ≤ w1.heap.size) := by have h1 := hb.size; show _ ≤ _; simp at h1; omega
    have B0_ := hide (((Below.refl w.heap.size w).alloc (Nat.le_refl _) (.cells #[.slice a0 len0 cap0, .int .i64 B0] 24 (0, 0))).trans (hb.mono (by simp)))
    clear hb
    obtain ⟨cA0, cA1, _, _⟩ := blkp A0.out
    go_wp2_with fail
    refine (toHead_any a0 z0 len0 cap0 B0 _ HN.out (HS.out.below B0_.out) hsz HX.out).mono ?_
    rintro e w2 ⟨gP, rfl, ⟨MP, hM, ho⟩, hb⟩
    clear cA0 cA1
    have SP := hide ho.sl
    rw [hM] at SP
    clear ho hM
    have Z1 := hide hb.size
    have A_2 := hide ((hb.block _ (Array.getElem?_eq_some_iff.1 A0.out).1).trans A0.out)
    have B_3 := hide (B0_.out.trans (hb.mono B0_.out.size))
    clear A0 B0_
    clear hb
    go_wp2_with fail
    refine (CS.out _ _ _ SP.out).mono ?_
    rintro e w3 ⟨aW, cW, rfl, ho, hb⟩
    have OW0 := hide ho
    clear ho SP
    have Z4 := hide hb.size
    have A_5 := hide ((hb.block _ (Array.getElem?_eq_some_iff.1 A_2.out).1).trans A_2.out)
    have B_6 := hide (B_3.out.trans (hb.mono B_3.out.size))
    clear A_2 B_3
    clear hb
    have LW0 := hide (Below.refl w3.heap.size w3)
    obtain ⟨cA0, cA1, _, _⟩ := blkp A_5.out
    go_wp2_with fail
    refine (toHead_any a0 z0 len0 cap0 B0 _ HN.out (HS.out.below B_6.out) hsz HX.out).mono ?_
    rintro e w4 ⟨gX, rfl, ⟨MX, hM, ho⟩, hb⟩
    clear cA0 cA1
    have hX : HG w3.heap.size (w4.alloc (hdO (.slice (some ⟨gX, 0, none⟩) len0 len0) B0)) w4.heap.size (.slice (some ⟨gX, 0, none⟩) len0 len0) len0 MX z0 B0 := ⟨L8.blk_new _ _, hb.size, ho.below ((Below.refl _ _).alloc (Nat.le_refl _) _), ho.inR, hM⟩
    have hb2 := hb.alloc hb.size (hdO (.slice (some ⟨gX, 0, none⟩) len0 len0) B0)
    obtain ⟨wX, hwX⟩ : ∃ x, x = w4.alloc (hdO (.slice (some ⟨gX, 0, none⟩) len0 len0) B0) := ⟨_, rfl⟩
    obtain ⟨bX, hbX⟩ : ∃ x, x = w4.heap.size := ⟨_, rfl⟩
    rw [← hwX] at hX hb2
    rw [← hbX] at hX
    have HWX := hide hwX
    have HBX := hide hbX
    have GX := hide hX
    clear hwX hbX hX ho hM hb
    have Z7 := hide hb2.size
    have A_8 := hide ((hb2.block _ (Array.getElem?_eq_some_iff.1 A_5.out).1).trans A_5.out)
    have B_9 := hide (B_6.out.trans (hb2.mono B_6.out.size))
    have LW_10 := hide (LW0.out.trans (hb2.mono LW0.out.size))
    clear A_5 B_6 LW0
    clear hb2
    have LX : Hid (w3.heap.size ≤ bX ∧ bX < wX.heap.size) := ⟨GX.out.bs, GX.out.lt⟩
    go_upto_region 9 with fail
    rw [← HWX.out, ← HBX.out]
    obtain ⟨cX0, cX1, _, _⟩ := blkp GX.out.box
    go_wp2_with fail
    refine (CI.out _ _ _ GX.out.sl).mono ?_
    rintro e w5 ⟨aG, cG, rfl, ho, hb⟩
    have OG0 := hide ho
    clear ho
    have Z11 := hide hb.size
    have A_12 := hide ((hb.block _ (Array.getElem?_eq_some_iff.1 A_8.out).1).trans A_8.out)
    have B_13 := hide (B_9.out.trans (hb.mono B_9.out.size))
    have LW_14 := hide (LW_10.out.trans (hb.mono LW_10.out.size))
    have X_15 := hide (GX.out.below hb)
    clear A_8 B_9 LW_10 GX
    clear hb
    clear cX0 cX1
    go_wp2_with fail
    refine (CE.out _ _ _ _ _ (own_sl2 OG0.out) (own_sl2 (own_belowR OW0.out LW_14.out))).mono ?_
    rintro e w6 ⟨rfl, hb⟩
    have Z16 := hide hb.size
    have A_17 := hide ((hb.block _ (Array.getElem?_eq_some_iff.1 A_12.out).1).trans A_12.out)
    have B_18 := hide (B_13.out.trans (hb.mono B_13.out.size))
    have LW_19 := hide (LW_14.out.trans (hb.mono LW_14.out.size))
    have X_20 := hide (X_15.out.below hb)
    have G_21 := hide (own_belowR OG0.out hb)
    clear A_12 B_13 LW_14 X_15 OG0
    clear hb
    obtain ⟨cA0, cA1, _, _⟩ := blkp A_17.out
    obtain ⟨cX0, cX1, _, _⟩ := blkp X_20.out.box
    have SX := hide (fun wx (hb : Below w6.heap.size w6 wx) => (X_20.out.sl.below hb))
    go_wp2
    refine wp_region_held_drew (S := fun wx => (wx.cell? ⟨w.heap.size, 0, none⟩ = some (.slice a0 len0 cap0) ∧ wx.cell? ⟨w.heap.size, 1, none⟩ = some (.int .i64 B0) ∧ wx.cell? ⟨bX, 0, none⟩ = some (.slice (some ⟨gX, 0, none⟩) len0 len0) ∧ wx.cell? ⟨bX, 1, none⟩ = some (.int .i64 B0)) ∧ Below w6.heap.size w6 wx) (by kernel_rfl) ⟨⟨cA0, cA1, cX0, cX1⟩, (Below.refl _ _).drew⟩ (fun hHeld => ?_)
    refine wpAnyH_take (i := 0) (v := ?v1) rfl (by kernel_rfl) (by kernel_rfl) (by kernel_rfl) (fun _ _ _ h => h) (Or.inl ⟨by rfl, ?y1⟩) (by assumption) ?r1
    case y1 => (intro w hSw; (try dsimp only at hSw); go_simp; try (with_reducible rfl))
    simp only [List.getElem_toArray, List.getElem_cons_zero, Act.put, List.setIfInBounds_toArray, List.set_cons_zero, List.set_cons_succ]
    refine wpAnyH_take (i := 1) (v := ?v2) rfl (by kernel_rfl) (by kernel_rfl) (by kernel_rfl) (fun _ _ _ h => h) (Or.inl ⟨by rfl, ?y2⟩) (by assumption) ?r2
    case y2 => (intro w hSw; (try dsimp only at hSw); go_simp; try (with_reducible rfl))
    simp only [List.getElem_toArray, List.getElem_cons_succ, List.getElem_cons_zero, Act.put, List.setIfInBounds_toArray, List.set_cons_zero, List.set_cons_succ]
    refine wpAnyH_ready (rs := [2]) (by kernel_rfl) (by simp) ?_
    refine AllReadyH.cons rfl (fun K hK => ?_) AllReadyH.nil
    simp only [List.getElem_toArray, List.getElem_cons_succ, List.getElem_cons_zero]
    go_simp
    go_at_call 7
    refine (toHead_any a0 z0 len0 cap0 B0 _ HN.out (HS.out.below (B_18.out.trans (hHeld.2.mono B_18.out.size))) hsz HX.out).mono ?_
    rintro e wt ⟨gt, rfl, ⟨Mt, hMt, hot⟩, hbt⟩
    have St := hot.sl
    rw [hMt] at St
    have HSt := hide St
    clear St hot hMt
    dsimp only
    refine hK.out _ _ ?_ (fun hHeld => ?_)
    · exact L8.keep4 hHeld hbt (Nat.le_refl _)
    clear hK K
    try simp only [Act.put, List.setIfInBounds_toArray, List.set_cons_zero, List.set_cons_succ]
    refine wpAnyH_ready (rs := [3]) (by kernel_rfl) (by simp) ?_
    refine AllReadyH.cons rfl (fun K hK => ?_) AllReadyH.nil
    simp only [List.getElem_toArray, List.getElem_cons_succ, List.getElem_cons_zero]
    go_simp
    go_at_call 10
    refine (eqHead_same _ _ z0 len0 _ _ B0 _ HN.out (SX.out _ hHeld.2) HSt.out hsz HX.out).mono ?_
    rintro e wu ⟨rfl, hbu⟩
    dsimp only
    refine hK.out _ _ ?_ (fun hHeld => ?_)
    · exact L8.keep4 (by assumption) hbu (Nat.le_refl _)
    clear hK K
    try simp only [Act.put, List.setIfInBounds_toArray, List.set_cons_zero, List.set_cons_succ]
    refine wpAnyH_take (i := 4) (v := ?v3) rfl (by kernel_rfl) (by kernel_rfl) (by kernel_rfl) (fun _ _ _ h => h) (Or.inl ⟨by rfl, ?y3⟩) (by assumption) ?r3
    case y3 => (intro w hSw; (try dsimp only at hSw); go_simp; try (with_reducible rfl))
    simp only [List.getElem_toArray, List.getElem_cons_succ, List.getElem_cons_zero, Act.put, List.setIfInBounds_toArray, List.set_cons_zero, List.set_cons_succ]
    refine wpAnyH_done (by kernel_rfl) ?_ _
    clear cA0 cA1 cX0 cX1
    have hb := hHeld.2
    clear hHeld HSt SX
    have Z22 := hide hb.size
    have A_23 := hide ((hb.block _ (Array.getElem?_eq_some_iff.1 A_17.out).1).trans A_17.out)
    have B_24 := hide (B_18.out.trans (hb.mono B_18.out.size))
    have LW_25 := hide (LW_19.out.trans (hb.mono LW_19.out.size))
    have X_26 := hide (X_20.out.below hb)
    have G_27 := hide (own_belowR G_21.out hb)
    clear A_17 B_18 LW_19 X_20 G_21
    clear hb
    obtain ⟨cX0, cX1, _, _⟩ := blkp X_26.out.box
    go_wp2_with fail
    refine (CMX.out w3.heap.size bX _ _ _ X_26.out.eq X_26.out.inr X_26.out.ow).mono ?_
    rintro e v1 ⟨rfl, _, hon⟩
    clear cX0 cX1
    have hle : w3.heap.size ≤ wu.heap.size := by have := Z0.out; have := Z1.out; have := Z4.out; have := Z7.out; have := LX.out; have := Z11.out; have := Z16.out; have := Z22.out; omega
    have hl0 : w.heap.size < w3.heap.size := by have := Z0.out; have := Z1.out; have := Z4.out; have := Z7.out; have := LX.out; have := Z11.out; have := Z16.out; have := Z22.out; omega
    have hlW : w3.heap.size ≤ w3.heap.size := by have := Z0.out; have := Z1.out; have := Z4.out; have := Z7.out; have := LX.out; have := Z11.out; have := Z16.out; have := Z22.out; omega
    have hlX : bX ≤ wX.heap.size := by have := Z0.out; have := Z1.out; have := Z4.out; have := Z7.out; have := LX.out; have := Z11.out; have := Z16.out; have := Z22.out; omega
    have Z98 := hide hon.size
    have A98 := hide ((hon.block _ (Array.getElem?_eq_some_iff.1 A_23.out).1 (.inl hl0)).trans A_23.out)
    have B98 := hide (B_24.out.trans ((hon.below hle).mono (Nat.le_of_lt hl0)))
    have LW98 := hide (LW_25.out.trans ((hon.below hle).mono hlW))
    have G98 := hide (hon.row G_27.out hlX)
    clear hon hle hl0 hlW hlX A_23 B_24 LW_25 G_27
    go_wp2_with fail
    refine (CE.out _ _ _ _ _ (own_sl2 G98.out) (own_sl2 (own_belowR OW0.out LW98.out))).mono ?_
    rintro e w7 ⟨rfl, hb⟩
    have Z28 := hide hb.size
    have A_29 := hide ((hb.block _ (Array.getElem?_eq_some_iff.1 A98.out).1).trans A98.out)
    have B_30 := hide (B98.out.trans (hb.mono B98.out.size))
    have LW_31 := hide (LW98.out.trans (hb.mono LW98.out.size))
    have G_32 := hide (own_belowR G98.out hb)
    clear A98 B98 LW98 G98
    clear hb
    have CMG := hide (fun wx ho => markSampleS_from wX.heap.size (.slice aG m cG) r m 1 wx (by omega) (by omega) hml ho)
    go_wp2_with fail
    refine (CMG.out _ G_32.out).mono ?_
    rintro e v2 ⟨rfl, ho, hbb, _⟩
    have hl0 : w.heap.size < wX.heap.size := by have := Z0.out; have := Z1.out; have := Z4.out; have := Z7.out; have := LX.out; have := Z11.out; have := Z16.out; have := Z22.out; have := Z98.out; have := Z28.out; omega
    have hlW : w3.heap.size ≤ wX.heap.size := by have := Z0.out; have := Z1.out; have := Z4.out; have := Z7.out; have := LX.out; have := Z11.out; have := Z16.out; have := Z22.out; have := Z98.out; have := Z28.out; omega
    have A99 := hide ((hbb.block _ hl0).trans A_29.out)
    have B99 := hide (B_30.out.trans (hbb.mono (Nat.le_of_lt hl0)))
    have LW99 := hide (LW_31.out.trans (hbb.mono hlW))
    have G99 := hide ho
    clear ho hbb hl0 hlW CMG A_29 B_30 LW_31 G_32
    have CH := hide (fun wx hs => heldSampleS_from aG m cG 1 wx (by omega) (by omega) hml hs)
    go_wp2_with fail
    refine (CH.out _ (own_sl2 G99.out)).mono ?_
    rintro e w8 ⟨rfl, hb⟩
    have Z33 := hide hb.size
    have A_34 := hide ((hb.block _ (Array.getElem?_eq_some_iff.1 A99.out).1).trans A99.out)
    have B_35 := hide (B99.out.trans (hb.mono B99.out.size))
    have LW_36 := hide (LW99.out.trans (hb.mono LW99.out.size))
    have G_37 := hide (own_belowR G99.out hb)
    clear A99 B99 LW99 G99
    clear hb
    obtain ⟨cA0, cA1, _, _⟩ := blkp A_34.out
    go_wp2_with fail
    refine (toHead_any a0 z0 len0 cap0 B0 _ HN.out (HS.out.below B_35.out) hsz HX.out).mono ?_
    rintro e w9 ⟨gQ, rfl, ⟨MQ, hM, ho⟩, hb⟩
    clear cA0 cA1
    have SQ := hide ho.sl
    rw [hM] at SQ
    clear ho hM
    have Z38 := hide hb.size
    have A_39 := hide ((hb.block _ (Array.getElem?_eq_some_iff.1 A_34.out).1).trans A_34.out)
    have B_40 := hide (B_35.out.trans (hb.mono B_35.out.size))
    have LW_41 := hide (LW_36.out.trans (hb.mono LW_36.out.size))
    have G_42 := hide (own_belowR G_37.out hb)
    clear A_34 B_35 LW_36 G_37
    clear hb
    go_wp2_with fail
    refine (CI.out _ _ _ SQ.out).mono ?_
    rintro e w10 ⟨aH, cH, rfl, ho, hb⟩
    have OH := hide ho
    clear ho SQ
    have Z43 := hide hb.size
    have A_44 := hide ((hb.block _ (Array.getElem?_eq_some_iff.1 A_39.out).1).trans A_39.out)
    have B_45 := hide (B_40.out.trans (hb.mono B_40.out.size))
    have LW_46 := hide (LW_41.out.trans (hb.mono LW_41.out.size))
    have G_47 := hide (own_belowR G_42.out hb)
    clear A_39 B_40 LW_41 G_42
    clear hb
    go_wp2_with fail
    refine (CE.out _ _ _ _ _ (own_sl2 OH.out) (own_sl2 (own_belowR OW0.out LW_46.out))).mono ?_
    rintro e w11 ⟨rfl, hb⟩
    have Z48 := hide hb.size
    have A_49 := hide ((hb.block _ (Array.getElem?_eq_some_iff.1 A_44.out).1).trans A_44.out)
    have B_50 := hide (B_45.out.trans (hb.mono B_45.out.size))
    have LW_51 := hide (LW_46.out.trans (hb.mono LW_46.out.size))
    have G_52 := hide (own_belowR G_47.out hb)
    clear A_44 B_45 LW_46 G_47
    clear hb
    go_wp2_with fail
    refine (CH.out _ (own_sl2 G_52.out)).mono ?_
    rintro e w12 ⟨rfl, hb⟩
    have Z53 := hide hb.size
    have A_54 := hide ((hb.block _ (Array.getElem?_eq_some_iff.1 A_49.out).1).trans A_49.out)
    have B_55 := hide (B_50.out.trans (hb.mono B_50.out.size))
    have LW_56 := hide (LW_51.out.trans (hb.mono LW_51.out.size))
    have G_57 := hide (own_belowR G_52.out hb)
    clear A_49 B_50 LW_51 G_52
    clear hb
    go_wp2
    go_ret
    exact ⟨rfl, B_55.out⟩
  · go_enter Try.func3, Try.ntmps3
    go_wp2_with fail
    refine (C0.out _ ((Below.refl _ _).alloc (Nat.le_refl _) _) (-1) (by rw [if_neg (by omega)])).mono ?_
    rintro e w1 ⟨rfl, hb0⟩
    have B1 := hide (((Below.refl w.heap.size w).alloc (Nat.le_refl _) (.cells #[.slice a0 len0 cap0, .int .i64 B0] 24 (0, 0))).trans (hb0.mono (by simp)))
    clear hb0
    go_wp2
    go_ret
    exact ⟨rfl, B1.out⟩
end Go.Proofs.Ytbcnkglcfjineal.fnExactRowOf
