/-
  The walk of the law FnExactGoodSketch: it returns true at every sketch; memory that was there stays as it was.
-/
import Derived.Test.YtfmfnlpajoikmamL15Help
import Derived.Test.YtfmfnlpajoikmamL15Good
import Derived.Test.YtfmfnlpajoikmamL15Open
import Derived.Test.YtfmfnlpajoikmamL15SGood
import Derived.Test.YtfmfnlpajoikmamL1Lists
namespace Go.Proofs.Ytfmfnlpajoikmam.fnExactGoodSketch
open Go.RowKit L1 Own Sli L15
set_option linter.unusedVariables false

open Classical in
set_option maxRecDepth 100000 in
set_option maxHeartbeats 4000000 in
theorem walk (a0 : Option Addr) (len0 cap0 : Nat) (z0 : List (List Int)) (B0 : Int) (w : World) (w0 : IsRowSI w a0 len0 z0) :
    Calls Try.prog 8 #[.agg #[.slice a0 len0 cap0, .int .i64 B0]] w fun e w' => e = .returned (.bool true) ∧ Below w.heap.size w w' := by
  obtain ⟨⟨hn, hm, hs⟩, hst⟩ := w0
  have HS := hide hs
  have HN := hide hn
  have HST := hide hst
  unfold maxLen at hm
  have C0 := hide (fun wx (hb : Below w.heap.size w wx) r hr => szSketch_any a0 z0 len0 cap0 B0 1048576 wx hn (by omega) (hs.below hb) hst (by omega) (by omega) r hr)
  clear hs hn hst
  by_cases hfit : (wtSI z0 : Int) ≤ 1048576
  · have hwt : len0 + wtsI z0 ≤ 1048576 := by have := HN.out; unfold wtSI at hfit; omega
    have hsz : len0 ≤ 1048576 := by omega
    have HX : Hid (∀ i, i < z0.length → (z0.getD i []).length ≤ 1048576) := fun i hi => by have h1 : (z0.getD i []).length ≤ wtsI z0 := wtsI_get z0 i hi; omega
    have hk0 : ¬ (1048576 - (wtSI z0 : Int)) < 0 := by omega
    obtain ⟨bb, hbb⟩ : ∃ bb : Bool, bb = true ↔ GoodS z0 B0 := dec_ex15 _
    have C1 := hide (fun a cap w hs => specGoodSketch_any a z0 len0 cap B0 w HN.out (by omega) hs HX.out bb hbb)
    have C2 := hide (fun a cap w hs => implGoodSketch_any a z0 len0 cap B0 w HN.out (by omega) hs HX.out bb hbb)
    clear hbb
    go_enter Try.func8, Try.ntmps8
    go_wp2_with fail
    refine (C0.out _ ((Below.refl _ _).alloc (Nat.le_refl _) _) (1048576 - (wtSI z0 : Int)) (by rw [if_pos (by omega)])).mono ?_
    rintro e w1 ⟨rfl, hb⟩
    have kq := blkp ((hb.block w.heap.size (by simp)).trans (L8.blk_new _ _))
    obtain ⟨kA0_1, kA1_1, _, _⟩ := kq
    have Z_1 : Hid (w.heap.size + 1 ≤ w1.heap.size) := by have h1 := hb.size; show _ ≤ _; simp at h1; omega
    have hbb := ((Below.refl w.heap.size w).alloc (Nat.le_refl _) (.cells #[.slice a0 len0 cap0, .int .i64 B0] 53 (0, 0))).trans (hb.mono (by simp))
    have B_1 := hide hbb
    clear hb hbb 
    go_wp2_with fail
    refine (toSketch_any a0 z0 len0 cap0 B0 _ HN.out (HS.out.below B_1.out) hsz HX.out).mono ?_
    rintro e w2 ⟨g2, rfl, ⟨M2, hM, ho⟩, hb⟩
    have hbb := hb
    have Z_2 := hide hbb.size
    have kA0_2 := (hbb.cell (p := ⟨w.heap.size, 0, none⟩) (blk_lt kA0_1)).trans kA0_1
    have kA1_2 := (hbb.cell (p := ⟨w.heap.size, 1, none⟩) (blk_lt kA1_1)).trans kA1_1
    have B_2 := hide (B_1.out.trans (hbb.mono B_1.out.size))
    clear hb hbb kA0_1 kA1_1
    have SP_2 := ho.sl
    rw [hM] at SP_2
    have SP__2 := hide SP_2
    clear ho hM SP_2
    go_wp2_with fail
    refine (C1.out _ _ _ SP__2.out).mono ?_
    rintro e w3 ⟨rfl, hb⟩
    have hbb := hb
    have Z_3 := hide hbb.size
    have kA0_3 := (hbb.cell (p := ⟨w.heap.size, 0, none⟩) (blk_lt kA0_2)).trans kA0_2
    have kA1_3 := (hbb.cell (p := ⟨w.heap.size, 1, none⟩) (blk_lt kA1_2)).trans kA1_2
    have SP_3 := hide (SP__2.out.below hbb)
    have B_3 := hide (B_2.out.trans (hbb.mono B_2.out.size))
    clear hb hbb kA0_2 kA1_2 SP__2
    clear SP_3
    go_wp2_with fail
    refine (toSketch_any a0 z0 len0 cap0 B0 _ HN.out (HS.out.below B_3.out) hsz HX.out).mono ?_
    rintro e w4 ⟨g4, rfl, ⟨M4, hM, ho⟩, hb⟩
    have hbb := hb
    have Z_4 := hide hbb.size
    have kA0_4 := (hbb.cell (p := ⟨w.heap.size, 0, none⟩) (blk_lt kA0_3)).trans kA0_3
    have kA1_4 := (hbb.cell (p := ⟨w.heap.size, 1, none⟩) (blk_lt kA1_3)).trans kA1_3
    have B_4 := hide (B_3.out.trans (hbb.mono B_3.out.size))
    clear hb hbb kA0_3 kA1_3
    have SX_4 := ho.sl
    rw [hM] at SX_4
    have SX__4 := hide SX_4
    clear ho hM SX_4
    have alA0 : ∀ ob, (w4.alloc ob).cell? ⟨w.heap.size, 0, none⟩ = some (.slice a0 len0 cap0) := fun ob => Go.Lib.cell?_alloc_some ob kA0_4
    have alA1 : ∀ ob, (w4.alloc ob).cell? ⟨w.heap.size, 1, none⟩ = some (.int .i64 B0) := fun ob => Go.Lib.cell?_alloc_some ob kA1_4
    go_wp2_with fail
    refine (C2.out _ _ _ (SX__4.out.below ((Below.refl _ _).alloc (Nat.le_refl _) _))).mono ?_
    rintro e w5 ⟨rfl, hb⟩
    have kq := blkp ((hb.block w4.heap.size (by simp)).trans (L8.blk_new _ _))
    obtain ⟨kX0_5, kX1_5, _, _⟩ := kq
    have Z_5 : Hid (w4.heap.size + 1 ≤ w5.heap.size) := by have h1 := hb.size; show _ ≤ _; simp at h1; omega
    have hbb := ((Below.refl w4.heap.size w4).alloc (Nat.le_refl _) (.cells #[.slice (some ⟨g4, 0, none⟩) len0 len0, .int .i64 B0] 47 (0, 0))).trans (hb.mono (by simp))
    have kA0_5 := (hbb.cell (p := ⟨w.heap.size, 0, none⟩) (blk_lt kA0_4)).trans kA0_4
    have kA1_5 := (hbb.cell (p := ⟨w.heap.size, 1, none⟩) (blk_lt kA1_4)).trans kA1_4
    have SX_5 := hide (SX__4.out.below hbb)
    have B_5 := hide (B_4.out.trans (hbb.mono B_4.out.size))
    clear hb hbb alA0 alA1 kA0_4 kA1_4 SX__4
    have SX := hide (fun wx (hb : Below w5.heap.size w5 wx) => SX_5.out.below hb)
    go_wp2
    refine wp_region_held_drew (S := fun wx => (wx.cell? ⟨w.heap.size, 0, none⟩ = some (.slice a0 len0 cap0) ∧ wx.cell? ⟨w.heap.size, 1, none⟩ = some (.int .i64 B0) ∧ wx.cell? ⟨w4.heap.size, 0, none⟩ = some (.slice (some ⟨g4, 0, none⟩) len0 len0) ∧ wx.cell? ⟨w4.heap.size, 1, none⟩ = some (.int .i64 B0)) ∧ Below w5.heap.size w5 wx) (by kernel_rfl) ⟨⟨kA0_5, kA1_5, kX0_5, kX1_5⟩, (Below.refl _ _).drew⟩ (fun hHeld => ?_)
    refine wpAnyH_take (i := 0) (v := ?v1) rfl (by kernel_rfl) (by kernel_rfl) (by kernel_rfl) (fun _ _ _ h => h) (Or.inl ⟨by rfl, ?y1⟩) (by assumption) ?r1
    case y1 => (intro w hSw; (try dsimp only at hSw); go_simp; try (with_reducible rfl))
    simp only [List.getElem_toArray, List.getElem_cons_zero, Act.put, List.setIfInBounds_toArray, List.set_cons_zero, List.set_cons_succ]
    refine wpAnyH_take (i := 1) (v := ?v2) rfl (by kernel_rfl) (by kernel_rfl) (by kernel_rfl) (fun _ _ _ h => h) (Or.inl ⟨by rfl, ?y2⟩) (by assumption) ?r2
    case y2 => (intro w hSw; (try dsimp only at hSw); go_simp; try (with_reducible rfl))
    simp only [List.getElem_toArray, List.getElem_cons_succ, List.getElem_cons_zero, Act.put, List.setIfInBounds_toArray, List.set_cons_zero, List.set_cons_succ]
    refine wpAnyH_ready (rs := [2]) (by kernel_rfl) (by simp) ?_
    refine AllReadyH.cons rfl (fun K hK => ?_) AllReadyH.nil
    simp only [List.getElem_toArray, List.getElem_cons_succ, List.getElem_cons_zero]
    go_simp
    go_at_call 36
    refine (toSketch_any a0 z0 len0 cap0 B0 _ HN.out (HS.out.below (B_5.out.trans (hHeld.2.mono B_5.out.size))) hsz HX.out).mono ?_
    rintro e wt ⟨gt, rfl, ⟨Mt, hMt, hot⟩, hbt⟩
    have St := hot.sl
    rw [hMt] at St
    have HSt := hide St
    clear St hot hMt
    dsimp only
    refine hK.out _ _ ?_ (fun hHeld => ?_)
    · exact L8.keep4 hHeld hbt (Nat.le_refl _)
    clear hK K
    try simp only [Act.put, List.setIfInBounds_toArray, List.set_cons_zero, List.set_cons_succ]
    refine wpAnyH_ready (rs := [3]) (by kernel_rfl) (by simp) ?_
    refine AllReadyH.cons rfl (fun K hK => ?_) AllReadyH.nil
    simp only [List.getElem_toArray, List.getElem_cons_succ, List.getElem_cons_zero]
    go_simp
    go_at_call 31
    refine (eqSketch_same _ _ z0 len0 _ _ B0 _ HN.out (SX.out _ hHeld.2) HSt.out hsz HX.out).mono ?_
    rintro e wu ⟨rfl, hbu⟩
    dsimp only
    refine hK.out _ _ ?_ (fun hHeld => ?_)
    · exact L8.keep4 (by assumption) hbu (Nat.le_refl _)
    clear hK K
    try simp only [Act.put, List.setIfInBounds_toArray, List.set_cons_zero, List.set_cons_succ]
    refine wpAnyH_take (i := 4) (v := ?v3) rfl (by kernel_rfl) (by kernel_rfl) (by kernel_rfl) (fun _ _ _ h => h) (Or.inl ⟨by rfl, ?y3⟩) (by assumption) ?r3
    case y3 => (intro w hSw; (try dsimp only at hSw); go_simp; try (with_reducible rfl))
    simp only [List.getElem_toArray, List.getElem_cons_succ, List.getElem_cons_zero, Act.put, List.setIfInBounds_toArray, List.set_cons_zero, List.set_cons_succ]
    refine wpAnyH_done (by kernel_rfl) ?_ _
    have B9 := hide (B_5.out.trans (hHeld.2.mono B_5.out.size))
    clear hHeld
    go_wp2
    go_ret
    exact ⟨rfl, B9.out⟩
  · go_enter Try.func8, Try.ntmps8
    go_wp2_with fail
    refine (C0.out _ ((Below.refl _ _).alloc (Nat.le_refl _) _) (-1) (by rw [if_neg (by omega)])).mono ?_
    rintro e w1 ⟨rfl, hb0⟩
    have B1 := hide (((Below.refl w.heap.size w).alloc (Nat.le_refl _) (.cells #[.slice a0 len0 cap0, .int .i64 B0] 53 (0, 0))).trans (hb0.mono (by simp)))
    clear hb0
    go_wp2
    go_ret
    exact ⟨rfl, B1.out⟩
end Go.Proofs.Ytfmfnlpajoikmam.fnExactGoodSketch
