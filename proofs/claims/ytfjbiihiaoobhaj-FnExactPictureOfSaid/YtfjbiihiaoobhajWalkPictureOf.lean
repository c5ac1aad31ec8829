/-
  The walk of the law FnExactPictureOf: it returns true at every bank; memory that was there stays as it was.
-/
import Derived.Test.YtfjbiihiaoobhajL12Pic
import Derived.Test.YtfjbiihiaoobhajL12SPic
import Derived.Test.YtfjbiihiaoobhajL12Open
import Derived.Test.YtfjbiihiaoobhajL12Size
import Derived.Test.YtfjbiihiaoobhajL12To
import Derived.Test.YtfjbiihiaoobhajL12Eq
namespace Go.Proofs.Ytfjbiihiaoobhaj.fnExactPictureOf
open Go.RowKit L1 L9 L12 Own Sli
set_option linter.unusedVariables false

theorem keepB10 {wa wb : World} {B0 B1 B2 B3 B4 B5 B6 B7 B8 B9 O0 O1 O2 O3 O4 O5 O6 O7 O8 O9 : Nat} {v0 v1 v2 v3 v4 v5 v6 v7 v8 v9 : Value} (h : wa.cell? ⟨B0, O0, none⟩ = some v0 ∧ wa.cell? ⟨B1, O1, none⟩ = some v1 ∧ wa.cell? ⟨B2, O2, none⟩ = some v2 ∧ wa.cell? ⟨B3, O3, none⟩ = some v3 ∧ wa.cell? ⟨B4, O4, none⟩ = some v4 ∧ wa.cell? ⟨B5, O5, none⟩ = some v5 ∧ wa.cell? ⟨B6, O6, none⟩ = some v6 ∧ wa.cell? ⟨B7, O7, none⟩ = some v7 ∧ wa.cell? ⟨B8, O8, none⟩ = some v8 ∧ wa.cell? ⟨B9, O9, none⟩ = some v9) (hb : Below wa.heap.size wa wb) : wb.cell? ⟨B0, O0, none⟩ = some v0 ∧ wb.cell? ⟨B1, O1, none⟩ = some v1 ∧ wb.cell? ⟨B2, O2, none⟩ = some v2 ∧ wb.cell? ⟨B3, O3, none⟩ = some v3 ∧ wb.cell? ⟨B4, O4, none⟩ = some v4 ∧ wb.cell? ⟨B5, O5, none⟩ = some v5 ∧ wb.cell? ⟨B6, O6, none⟩ = some v6 ∧ wb.cell? ⟨B7, O7, none⟩ = some v7 ∧ wb.cell? ⟨B8, O8, none⟩ = some v8 ∧ wb.cell? ⟨B9, O9, none⟩ = some v9 :=
  ⟨(hb.cell (p := ⟨B0, O0, none⟩) (blk_lt h.1)).trans h.1, (hb.cell (p := ⟨B1, O1, none⟩) (blk_lt h.2.1)).trans h.2.1, (hb.cell (p := ⟨B2, O2, none⟩) (blk_lt h.2.2.1)).trans h.2.2.1, (hb.cell (p := ⟨B3, O3, none⟩) (blk_lt h.2.2.2.1)).trans h.2.2.2.1, (hb.cell (p := ⟨B4, O4, none⟩) (blk_lt h.2.2.2.2.1)).trans h.2.2.2.2.1, (hb.cell (p := ⟨B5, O5, none⟩) (blk_lt h.2.2.2.2.2.1)).trans h.2.2.2.2.2.1, (hb.cell (p := ⟨B6, O6, none⟩) (blk_lt h.2.2.2.2.2.2.1)).trans h.2.2.2.2.2.2.1, (hb.cell (p := ⟨B7, O7, none⟩) (blk_lt h.2.2.2.2.2.2.2.1)).trans h.2.2.2.2.2.2.2.1, (hb.cell (p := ⟨B8, O8, none⟩) (blk_lt h.2.2.2.2.2.2.2.2.1)).trans h.2.2.2.2.2.2.2.2.1, (hb.cell (p := ⟨B9, O9, none⟩) (blk_lt h.2.2.2.2.2.2.2.2.2)).trans h.2.2.2.2.2.2.2.2.2⟩

set_option maxRecDepth 100000 in
set_option maxHeartbeats 8000000 in
theorem walk (aC : Option Addr) (nC cC : Nat) (aW : Option Addr) (nW cW : Nat) (aK : Option Addr) (nK cK : Nat) (aH : Option Addr) (nH cH : Nat) (aF : Option Addr) (nF cF : Nat) (m : Bk) (w : World) (hI : IsBank w aC nC aW nW aK nK aH nH aF nF m) :
    Calls Try.prog 4 #[bkV aC nC cC aW nW cW aK nK cK aH nH cH aF nF cF] w fun e w' => e = .returned (.bool true) ∧ Below w.heap.size w w' := by
  have hF := hI.bkf
  have mx : ∀ n : Nat, n ≤ maxLen → n ≤ 9223372036854775807 := fun n h => by unfold maxLen at h; omega
  have BX := (Below.refl w.heap.size w).alloc (Nat.le_refl _) (bkL aC nC cC aW nW cW aK nK cK aH nH cH aF nF cF)
  have g0 := blk_newO w (bkL aC nC cC aW nW cW aK nK cK aH nH cH aF nF cF)
  obtain ⟨W0, hW0⟩ : ∃ W0, W0 = w.alloc (bkL aC nC cC aW nW cW aK nK cK aH nH cH aF nF cF) := ⟨_, rfl⟩
  rw [← hW0] at BX g0
  have HW := hide hW0
  have HB := hide BX
  have HG := hide g0
  have CZ := hide (fun r hr => szBank_any aC nC cC aW nW cW aK nK cK aH nH cH aF nF cF m W0 hI.c.1 hI.W.1.1 hI.k.1 hI.H.1.1 hI.F.1.1 (mx _ hI.c.2.1) (mx _ hI.W.1.2.1) (mx _ hI.k.2.1) (mx _ hI.H.1.2.1) (mx _ hI.F.1.2.1) (hF.below BX) hI.W.2 hI.H.2 hI.F.2 1048576 (by omega) (by omega) r hr)
  obtain ⟨k0, k1, k2, k3, k4⟩ := blk5 g0
  by_cases hfit : (wtK m : Int) ≤ 1048576
  rotate_left
  · have CZ2 := hide (CZ.out (-1) (by rw [if_neg hfit]))
    clear hI hF hfit mx BX g0 hW0 CZ
    go_enter Try.func4, Try.ntmps4
    go_upto_region 1 with fail
    rw [← HW.out]
    go_wp2_with fail
    refine CZ2.out.mono ?_
    rintro e w1 ⟨rfl, hb1⟩
    have B1 := hide (HB.out.trans (hb1.mono HB.out.size))
    clear hb1 CZ2
    go_wp2
    go_ret
    exact ⟨rfl, B1.out⟩
  obtain ⟨L, hL⟩ : ∃ L, L = (1048576 : Int) - (wtK m : Int) := ⟨_, rfl⟩
  have hLn : ¬ L < 0 := by omega
  have CZ2 := hide (CZ.out L (by rw [if_pos hfit]; exact hL))
  have hz : BkZ m nC nW nK nH nF := by
    have h := bkz_of (m := m) (by omega)
    rw [hI.c.1, hI.W.1.1, hI.k.1, hI.H.1.1, hI.F.1.1] at h
    exact h
  obtain ⟨bb, ok, hbb⟩ := pic_ex m
  have CT := hide (fun wx (hb : Below w.heap.size w wx) => toBank_any aC nC cC aW nW cW aK nK cK aH nH cH aF nF cF m wx hz (hF.below hb))
  have CS := hide (fun p0 c0 p1 c1 p2 c2 p3 c3 p4 c4 wx (h : BkF wx p0 p1 p2 p3 p4 m) => sPictureOf_any p0 nC c0 p1 nW c1 p2 nK c2 p3 nH c3 p4 nF c4 m wx hz h bb ok hbb)
  have CG := hide (fun p0 c0 p1 c1 p2 c2 p3 c3 p4 c4 wx (h : BkF wx p0 p1 p2 p3 p4 m) => pictureOf_any p0 nC c0 p1 nW c1 p2 nK c2 p3 nH c3 p4 nF c4 m wx hz h bb ok hbb)
  have CE := hide (fun p0 c0 p1 c1 p2 c2 p3 c3 p4 c4 q0 d0 q1 d1 q2 d2 q3 d3 q4 d4 wx h1 h2 => eqBank_same p0 c0 p1 c1 p2 c2 p3 c3 p4 c4 q0 d0 q1 d1 q2 d2 q3 d3 q4 d4 _ _ _ _ _ m wx hz h1 h2)
  clear hI hF hfit mx BX g0 hW0 CZ hbb hz hL
  go_enter Try.func4, Try.ntmps4
  go_upto_region 1 with fail
  rw [← HW.out]
  go_wp2_with fail
  refine CZ2.out.mono ?_
  rintro e w1 ⟨rfl, hb1⟩
  have C1 := hide hb1
  have g1 := (hb1.block w.heap.size (Array.getElem?_eq_some_iff.1 HG.out).1).trans HG.out
  clear hb1 CZ2 k0 k1 k2 k3 k4
  obtain ⟨k0, k1, k2, k3, k4⟩ := blk5 g1
  clear g1
  go_wp2_with fail
  refine (CT.out _ (HB.out.trans (C1.out.mono HB.out.size))).mono ?_
  rintro e w2 ⟨V2, y0, y1, y2, y3, y4, rfl, ft2, hW2, hb2⟩
  have C2 := hide (C1.out.trans (hb2.mono C1.out.size))
  have F2 := hide (hW2.bkf ft2)
  clear hW2 hb2 C1 ft2
  go_wp2_with fail
  refine (CS.out _ _ _ _ _ _ _ _ _ _ _ F2.out).mono ?_
  rintro e w3 ⟨rfl, hb3⟩
  have C3 := hide (C2.out.trans (hb3.mono C2.out.size))
  have g1 := (C3.out.block w.heap.size (Array.getElem?_eq_some_iff.1 HG.out).1).trans HG.out
  clear hb3 C2 F2 k0 k1 k2 k3 k4
  obtain ⟨k0, k1, k2, k3, k4⟩ := blk5 g1
  clear g1
  go_wp2_with fail
  refine (CT.out _ (HB.out.trans (C3.out.mono HB.out.size))).mono ?_
  rintro e w4 ⟨V4, x0, x1, x2, x3, x4, rfl, ft4, hW4, hb4⟩
  have F4 := hide (hW4.bkf ft4)
  have hA := hb4.alloc hb4.size (bkO x0 nC nC x1 nW nW x2 nK nK x3 nH nH x4 nF nF)
  have hA4 := (Below.refl w4.heap.size w4).alloc (Nat.le_refl _) (bkO x0 nC nC x1 nW nW x2 nK nK x3 nH nH x4 nF nF)
  have gx := blk_newO w4 (bkO x0 nC nC x1 nW nW x2 nK nK x3 nH nH x4 nF nF)
  obtain ⟨w5, hw5⟩ : ∃ x, x = w4.alloc (bkO x0 nC nC x1 nW nW x2 nK nK x3 nH nH x4 nF nF) := ⟨_, rfl⟩
  obtain ⟨b0, hb0⟩ : ∃ x, x = w4.heap.size := ⟨_, rfl⟩
  rw [← hw5] at hA hA4 gx
  rw [← hb0] at gx
  have C5 := hide (C3.out.trans (hA.mono C3.out.size))
  have F5 := hide (F4.out.below hA4)
  have HW5 := hide hw5
  have HB0 := hide hb0
  have GX := hide gx
  clear hW4 ft4 hb4 hA hA4 gx hw5 hb0 C3 F4 k0 k1 k2 k3 k4
  go_upto_region 7 with fail
  rw [← HW5.out, ← HB0.out]
  obtain ⟨j0, j1, j2, j3, j4⟩ := blk5 GX.out
  go_wp2_with fail
  refine (CG.out _ _ _ _ _ _ _ _ _ _ _ F5.out).mono ?_
  rintro e w6 ⟨rfl, hb6⟩
  have C6 := hide (C5.out.trans (hb6.mono C5.out.size))
  have B6 := hide (HB.out.trans (C6.out.mono HB.out.size))
  have FX := hide (F5.out.below hb6)
  have g1 := (C6.out.block w.heap.size (Array.getElem?_eq_some_iff.1 HG.out).1).trans HG.out
  have g2 := (hb6.block b0 (Array.getElem?_eq_some_iff.1 GX.out).1).trans GX.out
  clear hb6 C5 F5 j0 j1 j2 j3 j4
  obtain ⟨p0, p1, p2, p3, p4⟩ := blk5 g1
  obtain ⟨j0, j1, j2, j3, j4⟩ := blk5 g2
  clear g1 g2
  have hbb2 : (bb != bb) = false := by simp
  have hok2 : (ok != ok) = false := by simp
  go_upto_region 10 with fail
  refine wp_region_held_drew (S := (fun wx => wx.cell? ⟨b0, 0, none⟩ = some (.slice x0 nC nC) ∧ wx.cell? ⟨b0, 1, none⟩ = some (.slice x1 nW nW) ∧ wx.cell? ⟨b0, 2, none⟩ = some (.slice x2 nK nK) ∧ wx.cell? ⟨b0, 3, none⟩ = some (.slice x3 nH nH) ∧ wx.cell? ⟨b0, 4, none⟩ = some (.slice x4 nF nF) ∧ wx.cell? ⟨w.heap.size, 0, none⟩ = some (.slice aC nC cC) ∧ wx.cell? ⟨w.heap.size, 1, none⟩ = some (.slice aW nW cW) ∧ wx.cell? ⟨w.heap.size, 2, none⟩ = some (.slice aK nK cK) ∧ wx.cell? ⟨w.heap.size, 3, none⟩ = some (.slice aH nH cH) ∧ wx.cell? ⟨w.heap.size, 4, none⟩ = some (.slice aF nF cF))) (by kernel_rfl) ⟨j0, j1, j2, j3, j4, p0, p1, p2, p3, p4⟩ (fun hHeld => ?_)
  refine wpAnyH_take (i := 0) (v := ?v1) rfl (by kernel_rfl) (by kernel_rfl) (by kernel_rfl) (fun _ _ _ h => h) (Or.inl ⟨by rfl, ?y1⟩) (by assumption) ?r1
  case y1 => (intro w hSw; (try dsimp only at hSw); go_simp; try (with_reducible rfl))
  simp only [List.getElem_toArray, List.getElem_cons_zero, Act.put, List.setIfInBounds_toArray, List.set_cons_zero, List.set_cons_succ]
  refine wpAnyH_take (i := 1) (v := ?v2) rfl (by kernel_rfl) (by kernel_rfl) (by kernel_rfl) (fun _ _ _ h => h) (Or.inl ⟨by rfl, ?y2⟩) (by assumption) ?r2
  case y2 => (intro w hSw; (try dsimp only at hSw); go_simp; try (with_reducible rfl))
  simp only [List.getElem_toArray, List.getElem_cons_succ, List.getElem_cons_zero, Act.put, List.setIfInBounds_toArray, List.set_cons_zero, List.set_cons_succ]
  refine wpAnyH_ready (rs := [2]) (by kernel_rfl) (by simp) ?_
  refine AllReadyH.cons rfl (fun K hK => ?_) AllReadyH.nil
  simp only [List.getElem_toArray, List.getElem_cons_succ, List.getElem_cons_zero]
  go_simp
  go_at_call 9
  refine (CT.out _ (B6.out.drew)).mono ?_
  rintro e w7 ⟨V7, z0, z1, z2, z3, z4, rfl, ft7, hW7, hb7⟩
  have hB7 := (Below.refl w6.heap.size w6).drew.trans (hb7.mono (Nat.le_refl _))
  have HB7 := hide hB7
  have F7 := hide (hW7.bkf ft7)
  clear hB7 hW7 ft7
  dsimp only
  refine hK.out _ _ ?_ (fun hHeld => ?_)
  · exact keepB10 hHeld hb7
  clear hK K
  try simp only [Act.put, List.setIfInBounds_toArray, List.set_cons_zero, List.set_cons_succ]
  refine wpAnyH_ready (rs := [3]) (by kernel_rfl) (by simp) ?_
  refine AllReadyH.cons rfl (fun K hK => ?_) AllReadyH.nil
  simp only [List.getElem_toArray, List.getElem_cons_succ, List.getElem_cons_zero]
  go_simp
  go_at_call 11
  refine (CE.out _ _ _ _ _ _ _ _ _ _ _ _ _ _ _ _ _ _ _ _ _ (FX.out.below HB7.out) F7.out).mono ?_
  rintro e w8 ⟨rfl, hb8⟩
  dsimp only
  refine hK.out _ _ ?_ (fun hHeld => ?_)
  · exact keepB10 hHeld hb8
  clear hK K
  try simp only [Act.put, List.setIfInBounds_toArray, List.set_cons_zero, List.set_cons_succ]
  refine wpAnyH_take (i := 4) (v := ?v3) rfl (by kernel_rfl) (by kernel_rfl) (by kernel_rfl) (fun _ _ _ h => h) (Or.inl ⟨by rfl, ?y3⟩) (by assumption) ?r3
  case y3 => (intro w hSw; (try dsimp only at hSw); go_simp; try (with_reducible rfl))
  simp only [List.getElem_toArray, List.getElem_cons_succ, List.getElem_cons_zero, Act.put, List.setIfInBounds_toArray, List.set_cons_zero, List.set_cons_succ]
  refine wpAnyH_done (by kernel_rfl) ?_ _
  have B8 := hide (B6.out.trans ((HB7.out.trans (hb8.mono HB7.out.size)).mono B6.out.size))
  clear hHeld
  go_wp2
  go_ret
  exact ⟨rfl, B8.out⟩
end Go.Proofs.Ytfjbiihiaoobhaj.fnExactPictureOf
