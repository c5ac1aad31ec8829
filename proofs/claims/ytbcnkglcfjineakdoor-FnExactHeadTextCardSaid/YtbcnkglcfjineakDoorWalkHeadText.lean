/-
  The walk of the law FnExactHeadText: it returns true at every head; memory that was there stays as it was.
-/
import Derived.Test.YtbcnkglcfjineakDoorL13HT
import Derived.Test.YtbcnkglcfjineakDoorL13SHT
import Derived.Test.YtbcnkglcfjineakDoorL13To
import Derived.Test.YtbcnkglcfjineakDoorL13Eq
import Derived.Test.YtbcnkglcfjineakDoorL13Size
import Derived.Deep.DeepCutAuto
import Derived.Deep.RegionHeld3
namespace Go.Proofs.YtbcnkglcfjineakDoor.fnExactHeadText
open Go.RowKit L1 L13
set_option linter.unusedVariables false

set_option maxRecDepth 100000 in
set_option maxHeartbeats 8000000 in
theorem walk (a0 : Option Addr) (len0 cap0 : Nat) (z0 : List Rw) (B0 : Int) (w : World) (w0 : IsRowR w a0 len0 z0) (ht : Pow10 w) :
    Calls Tryd.prog 5 #[.agg #[.slice a0 len0 cap0, .int .i64 B0]] w fun e w' => e = .returned (.bool true) ∧ Below w.heap.size w w' := by
  obtain ⟨⟨hn, hm, hs⟩, hst⟩ := w0
  have HS := hide hs
  have HT := hide ht
  clear ht
  have HN := hide hn
  have HST := hide hst
  unfold maxLen at hm
  have C0 := hide (fun wx (hb : Below w.heap.size w wx) r hr => szHead_any a0 z0 len0 cap0 B0 1048576 wx hn (by omega) (hs.below hb) hst (by omega) (by omega) r hr)
  clear hs hn hst
  by_cases hfit : (wtR z0 : Int) ≤ 1048576
  · have hwt : len0 + szr z0 ≤ 1048576 := by have := HN.out; unfold wtR at hfit; omega
    have hsz : len0 ≤ 1048576 := by omega
    have HX : Hid (∀ i, i < len0 → (gr z0 i).l.length ≤ 1048576) := fun i hi => by have h1 : (gr z0 i).nm.size + (gr z0 i).l.length ≤ szr z0 := szr_get z0 i (by rw [HN.out]; exact hi); omega
    have HXL : Hid (∀ j, j < z0.length → (gr z0 j).l.length ≤ 1048576) := fun j hj => HX.out j (by rw [← HN.out]; exact hj)
    have hk0 : ¬ (1048576 - (wtR z0 : Int)) < 0 := by omega
    obtain ⟨ok, hok⟩ := boolP (GoodH z0 B0)
    obtain ⟨t, htx⟩ : ∃ t, t = if ok then headT z0 B0 else ByteArray.empty := ⟨_, rfl⟩
    have CS := hide (fun a cap wx hs => specHeadText_any a z0 len0 cap B0 wx HN.out hsz hs HST.out HXL.out t ok hok htx)
    have CI := hide (fun a cap wx hs (hb : Below w.heap.size w wx) => implHeadText_any a z0 len0 cap B0 wx HN.out hsz hs HST.out HXL.out (HT.out.below hb) t ok hok htx)
    have hoo : (ok != ok) = false := by simp
    clear hok htx
    go_enter Tryd.func5, Tryd.ntmps5
    go_wp2_with fail
    refine (C0.out _ ((Below.refl _ _).alloc (Nat.le_refl _) _) (1048576 - (wtR z0 : Int)) (by rw [if_pos (by omega)])).mono ?_
    rintro e w1 ⟨rfl, hb⟩
    have A0 := hide ((hb.block w.heap.size (by simp)).trans (L8.blk_new w (.cells #[.slice a0 len0 cap0, .int .i64 B0] 36 (0, 0))))
    have Z0 : Hid (w.heap.size + 1 ≤ w1.heap.size) := by have h1 := hb.size; show _ ≤ _; simp at h1; omega
    have B0_ := hide (((Below.refl w.heap.size w).alloc (Nat.le_refl _) (.cells #[.slice a0 len0 cap0, .int .i64 B0] 36 (0, 0))).trans (hb.mono (by simp)))
    clear hb
    obtain ⟨cA0, cA1, _, _⟩ := blkp A0.out
    go_wp2_with fail
    refine (toHead_any a0 z0 len0 cap0 B0 _ HN.out (HS.out.below B0_.out) hsz HX.out).mono ?_
    rintro e w2 ⟨gP, rfl, ⟨MP, hM, ho⟩, hb⟩
    clear cA0 cA1
    have SP := hide ho.sl
    rw [hM] at SP
    clear ho hM
    have Z1 := hide hb.size
    have A_2 := hide ((hb.block _ (Array.getElem?_eq_some_iff.1 A0.out).1).trans A0.out)
    have B_3 := hide (B0_.out.trans (hb.mono B0_.out.size))
    clear A0 B0_
    clear hb
    go_wp2_with fail
    refine (CS.out _ _ _ SP.out).mono ?_
    rintro e w3 ⟨rfl, hb⟩
    clear SP
    have Z4 := hide hb.size
    have A_5 := hide ((hb.block _ (Array.getElem?_eq_some_iff.1 A_2.out).1).trans A_2.out)
    have B_6 := hide (B_3.out.trans (hb.mono B_3.out.size))
    clear A_2 B_3
    clear hb
    obtain ⟨cA0, cA1, _, _⟩ := blkp A_5.out
    go_wp2_with fail
    refine (toHead_any a0 z0 len0 cap0 B0 _ HN.out (HS.out.below B_6.out) hsz HX.out).mono ?_
    rintro e w4 ⟨gX, rfl, ⟨MX, hM, ho⟩, hb⟩
    clear cA0 cA1
    have hX : HG w3.heap.size (w4.alloc (hdO (.slice (some ⟨gX, 0, none⟩) len0 len0) B0)) w4.heap.size (.slice (some ⟨gX, 0, none⟩) len0 len0) len0 MX z0 B0 := ⟨L8.blk_new _ _, hb.size, ho.below ((Below.refl _ _).alloc (Nat.le_refl _) _), ho.inR, hM⟩
    have hb2 := hb.alloc hb.size (hdO (.slice (some ⟨gX, 0, none⟩) len0 len0) B0)
    obtain ⟨wX, hwX⟩ : ∃ x, x = w4.alloc (hdO (.slice (some ⟨gX, 0, none⟩) len0 len0) B0) := ⟨_, rfl⟩
    obtain ⟨bX, hbX⟩ : ∃ x, x = w4.heap.size := ⟨_, rfl⟩
    rw [← hwX] at hX hb2
    rw [← hbX] at hX
    have HWX := hide hwX
    have HBX := hide hbX
    have GX := hide hX
    clear hwX hbX hX ho hM hb
    have Z7 := hide hb2.size
    have A_8 := hide ((hb2.block _ (Array.getElem?_eq_some_iff.1 A_5.out).1).trans A_5.out)
    have B_9 := hide (B_6.out.trans (hb2.mono B_6.out.size))
    clear A_5 B_6
    clear hb2
    have LX : Hid (w3.heap.size ≤ bX ∧ bX < wX.heap.size) := ⟨GX.out.bs, GX.out.lt⟩
    go_upto_region 7 with fail
    rw [← HWX.out, ← HBX.out]
    obtain ⟨cX0, cX1, _, _⟩ := blkp GX.out.box
    go_wp2_with fail
    refine (CI.out _ _ _ GX.out.sl B_9.out).mono ?_
    rintro e w5 ⟨rfl, hb⟩
    have Z10 := hide hb.size
    have A_11 := hide ((hb.block _ (Array.getElem?_eq_some_iff.1 A_8.out).1).trans A_8.out)
    have B_12 := hide (B_9.out.trans (hb.mono B_9.out.size))
    have X_13 := hide (GX.out.below hb)
    clear A_8 B_9 GX
    clear hb
    clear cX0 cX1
    obtain ⟨cA0, cA1, _, _⟩ := blkp A_11.out
    obtain ⟨cX0, cX1, _, _⟩ := blkp X_13.out.box
    have SX := hide (fun wx (hb : Below w5.heap.size w5 wx) => (X_13.out.sl.below hb))
    go_wp2
    refine wp_region_held_drew (S := fun wx => (wx.cell? ⟨w.heap.size, 0, none⟩ = some (.slice a0 len0 cap0) ∧ wx.cell? ⟨w.heap.size, 1, none⟩ = some (.int .i64 B0) ∧ wx.cell? ⟨bX, 0, none⟩ = some (.slice (some ⟨gX, 0, none⟩) len0 len0) ∧ wx.cell? ⟨bX, 1, none⟩ = some (.int .i64 B0)) ∧ Below w5.heap.size w5 wx) (by kernel_rfl) ⟨⟨cA0, cA1, cX0, cX1⟩, (Below.refl _ _).drew⟩ (fun hHeld => ?_)
    refine wpAnyH_take (i := 0) (v := ?v1) rfl (by kernel_rfl) (by kernel_rfl) (by kernel_rfl) (fun _ _ _ h => h) (Or.inl ⟨by rfl, ?y1⟩) (by assumption) ?r1
    case y1 => (intro w hSw; (try dsimp only at hSw); go_simp; try (with_reducible rfl))
    simp only [List.getElem_toArray, List.getElem_cons_zero, Act.put, List.setIfInBounds_toArray, List.set_cons_zero, List.set_cons_succ]
    refine wpAnyH_take (i := 1) (v := ?v2) rfl (by kernel_rfl) (by kernel_rfl) (by kernel_rfl) (fun _ _ _ h => h) (Or.inl ⟨by rfl, ?y2⟩) (by assumption) ?r2
    case y2 => (intro w hSw; (try dsimp only at hSw); go_simp; try (with_reducible rfl))
    simp only [List.getElem_toArray, List.getElem_cons_succ, List.getElem_cons_zero, Act.put, List.setIfInBounds_toArray, List.set_cons_zero, List.set_cons_succ]
    refine wpAnyH_ready (rs := [2]) (by kernel_rfl) (by simp) ?_
    refine AllReadyH.cons rfl (fun K hK => ?_) AllReadyH.nil
    simp only [List.getElem_toArray, List.getElem_cons_succ, List.getElem_cons_zero]
    go_simp
    go_at_call 16
    refine (toHead_any a0 z0 len0 cap0 B0 _ HN.out (HS.out.below (B_12.out.trans (hHeld.2.mono B_12.out.size))) hsz HX.out).mono ?_
    rintro e wt ⟨gt, rfl, ⟨Mt, hMt, hot⟩, hbt⟩
    have St := hot.sl
    rw [hMt] at St
    have HSt := hide St
    clear St hot hMt
    dsimp only
    refine hK.out _ _ ?_ (fun hHeld => ?_)
    · exact L8.keep4 hHeld hbt (Nat.le_refl _)
    clear hK K
    try simp only [Act.put, List.setIfInBounds_toArray, List.set_cons_zero, List.set_cons_succ]
    refine wpAnyH_ready (rs := [3]) (by kernel_rfl) (by simp) ?_
    refine AllReadyH.cons rfl (fun K hK => ?_) AllReadyH.nil
    simp only [List.getElem_toArray, List.getElem_cons_succ, List.getElem_cons_zero]
    go_simp
    go_at_call 18
    refine (eqHead_same _ _ z0 len0 _ _ B0 _ HN.out (SX.out _ hHeld.2) HSt.out hsz HX.out).mono ?_
    rintro e wu ⟨rfl, hbu⟩
    dsimp only
    refine hK.out _ _ ?_ (fun hHeld => ?_)
    · exact L8.keep4 (by assumption) hbu (Nat.le_refl _)
    clear hK K
    try simp only [Act.put, List.setIfInBounds_toArray, List.set_cons_zero, List.set_cons_succ]
    refine wpAnyH_take (i := 4) (v := ?v3) rfl (by kernel_rfl) (by kernel_rfl) (by kernel_rfl) (fun _ _ _ h => h) (Or.inl ⟨by rfl, ?y3⟩) (by assumption) ?r3
    case y3 => (intro w hSw; (try dsimp only at hSw); go_simp; try (with_reducible rfl))
    simp only [List.getElem_toArray, List.getElem_cons_succ, List.getElem_cons_zero, Act.put, List.setIfInBounds_toArray, List.set_cons_zero, List.set_cons_succ]
    refine wpAnyH_done (by kernel_rfl) ?_ _
    clear cA0 cA1 cX0 cX1
    have hb := hHeld.2
    clear hHeld HSt SX
    have Z14 := hide hb.size
    have A_15 := hide ((hb.block _ (Array.getElem?_eq_some_iff.1 A_11.out).1).trans A_11.out)
    have B_16 := hide (B_12.out.trans (hb.mono B_12.out.size))
    have X_17 := hide (X_13.out.below hb)
    clear A_11 B_12 X_13
    clear hb
    go_wp2
    go_ret
    exact ⟨rfl, B_16.out⟩
  · go_enter Tryd.func5, Tryd.ntmps5
    go_wp2_with fail
    refine (C0.out _ ((Below.refl _ _).alloc (Nat.le_refl _) _) (-1) (by rw [if_neg (by omega)])).mono ?_
    rintro e w1 ⟨rfl, hb0⟩
    have B1 := hide (((Below.refl w.heap.size w).alloc (Nat.le_refl _) (.cells #[.slice a0 len0 cap0, .int .i64 B0] 36 (0, 0))).trans (hb0.mono (by simp)))
    clear hb0
    go_wp2
    go_ret
    exact ⟨rfl, B1.out⟩
end Go.Proofs.YtbcnkglcfjineakDoor.fnExactHeadText
