/-
  The walk of the law FnExactWrittenOf: it returns true at every world of tellers and every number; memory that was there stays as it was.
-/
import Derived.Test.YthmekhhfihjclagBundle3
import Derived.Test.YthmekhhfihjclagBundle5
import Derived.Test.YthmekhhfihjclagBundle7
import Derived.Test.YthmekhhfihjclagBundle8
import Derived.Test.YthmekhhfihjclagBundle9
namespace Go.Proofs.Ythmekhhfihjclag.fnExactWrittenOf
open Go.RowKit L1 L10 Own Str Nte Tri
set_option linter.unusedVariables false

theorem pre_wts (T : List (List ByteArray)) : ∀ j, j ≤ T.length → pre T j ≤ wtsS (T.take j)
  | 0, _ => by simp [pre]
  | j + 1, hj => by
    have h1 := pre_wts T j (by omega)
    have h2 := wtsS_take T j (by omega)
    simp only [pre]
    unfold wtS at h2
    omega
theorem sm_of {m : Tm} (h : wtT m ≤ 1048576) : SmT m := by
  have hz := tlz_of h
  have hp := pre_wts m.T m.T.length (Nat.le_refl _)
  have hl := wtsS_le m.T m.T.length
  unfold wtT wtSS at h
  exact ⟨by omega, hz.bt, hz.bs, hz.bh, hz.bl, hz.bg, hz.bn⟩
theorem keepU10 {wa wb : World} {B0 B1 B2 B3 B4 B5 B6 B7 B8 B9 O0 O1 O2 O3 O4 O5 O6 O7 O8 O9 : Nat} {v0 v1 v2 v3 v4 v5 v6 v7 v8 v9 : Value} (h : wa.cell? ⟨B0, O0, none⟩ = some v0 ∧ wa.cell? ⟨B1, O1, none⟩ = some v1 ∧ wa.cell? ⟨B2, O2, none⟩ = some v2 ∧ wa.cell? ⟨B3, O3, none⟩ = some v3 ∧ wa.cell? ⟨B4, O4, none⟩ = some v4 ∧ wa.cell? ⟨B5, O5, none⟩ = some v5 ∧ wa.cell? ⟨B6, O6, none⟩ = some v6 ∧ wa.cell? ⟨B7, O7, none⟩ = some v7 ∧ wa.cell? ⟨B8, O8, none⟩ = some v8 ∧ wa.cell? ⟨B9, O9, none⟩ = some v9) (hb : Below wa.heap.size wa wb) : wb.cell? ⟨B0, O0, none⟩ = some v0 ∧ wb.cell? ⟨B1, O1, none⟩ = some v1 ∧ wb.cell? ⟨B2, O2, none⟩ = some v2 ∧ wb.cell? ⟨B3, O3, none⟩ = some v3 ∧ wb.cell? ⟨B4, O4, none⟩ = some v4 ∧ wb.cell? ⟨B5, O5, none⟩ = some v5 ∧ wb.cell? ⟨B6, O6, none⟩ = some v6 ∧ wb.cell? ⟨B7, O7, none⟩ = some v7 ∧ wb.cell? ⟨B8, O8, none⟩ = some v8 ∧ wb.cell? ⟨B9, O9, none⟩ = some v9 :=
  ⟨(hb.cell (p := ⟨B0, O0, none⟩) (blk_lt h.1)).trans h.1, (hb.cell (p := ⟨B1, O1, none⟩) (blk_lt h.2.1)).trans h.2.1, (hb.cell (p := ⟨B2, O2, none⟩) (blk_lt h.2.2.1)).trans h.2.2.1, (hb.cell (p := ⟨B3, O3, none⟩) (blk_lt h.2.2.2.1)).trans h.2.2.2.1, (hb.cell (p := ⟨B4, O4, none⟩) (blk_lt h.2.2.2.2.1)).trans h.2.2.2.2.1, (hb.cell (p := ⟨B5, O5, none⟩) (blk_lt h.2.2.2.2.2.1)).trans h.2.2.2.2.2.1, (hb.cell (p := ⟨B6, O6, none⟩) (blk_lt h.2.2.2.2.2.2.1)).trans h.2.2.2.2.2.2.1, (hb.cell (p := ⟨B7, O7, none⟩) (blk_lt h.2.2.2.2.2.2.2.1)).trans h.2.2.2.2.2.2.2.1, (hb.cell (p := ⟨B8, O8, none⟩) (blk_lt h.2.2.2.2.2.2.2.2.1)).trans h.2.2.2.2.2.2.2.2.1, (hb.cell (p := ⟨B9, O9, none⟩) (blk_lt h.2.2.2.2.2.2.2.2.2)).trans h.2.2.2.2.2.2.2.2.2⟩

set_option maxRecDepth 100000 in
set_option maxHeartbeats 8000000 in
theorem walk (aT : Option Addr) (nT cT : Nat) (aH : Option Addr) (nH cH : Nat) (aL : Option Addr) (nL cL : Nat) (aG : Option Addr) (nG cG : Nat) (aN : Option Addr) (nN cN : Nat) (m : Tm) (who : Int) (w : World) (hI : IsTell w aT nT aH nH aL nL aG nG aN nN m) (wf : (Lit.int .i64 who).wf = true) :
    Calls Try.prog 6 #[tlV aT nT cT aH nH cH aL nL cL aG nG cG aN nN cN, .int .i64 who] w fun e w' => e = .returned (.bool true) ∧ Below w.heap.size w w' := by
  clear wf
  have hF := hI.tlf
  have mx : ∀ n : Nat, n ≤ maxLen → n ≤ 9223372036854775807 := fun n h => by unfold maxLen at h; omega
  have BX := (Below.refl w.heap.size w).alloc (Nat.le_refl _) (tlL aT nT cT aH nH cH aL nL cL aG nG cG aN nN cN)
  have g0 := blk_newO w (tlL aT nT cT aH nH cH aL nL cL aG nG cG aN nN cN)
  obtain ⟨W0, hW0⟩ : ∃ W0, W0 = w.alloc (tlL aT nT cT aH nH cH aL nL cL aG nG cG aN nN cN) := ⟨_, rfl⟩
  rw [← hW0] at BX g0
  have HW := hide hW0
  have HB := hide BX
  have HG := hide g0
  have CZ := hide (fun r hr => szTell_any aT nT cT aH nH cH aL nL cL aG nG cG aN nN cN m W0 hI.t.1.1 hI.h.1 hI.l.1.1 hI.g.1.1 hI.n.1 (mx _ hI.t.1.2.1) (mx _ hI.h.2.1) (mx _ hI.l.1.2.1) (mx _ hI.g.1.2.1) (mx _ hI.n.2.1) (hF.below BX) hI.t.2 hI.l.2 hI.g.2 1048576 (by omega) (by omega) r hr)
  obtain ⟨k0, k1, k2, k3, k4⟩ := blk5 g0
  by_cases hfit : (wtT m : Int) ≤ 1048576
  rotate_left
  · have CZ2 := hide (CZ.out (-1) (by rw [if_neg hfit]))
    clear hI hF hfit mx BX g0 hW0 CZ
    go_enter Try.func6, Try.ntmps6
    go_upto_region 1 with fail
    rw [← HW.out]
    go_wp2_with fail
    refine CZ2.out.mono ?_
    rintro e w1 ⟨rfl, hb1⟩
    have B1 := hide (HB.out.trans (hb1.mono HB.out.size))
    clear hb1 CZ2
    go_wp2
    go_ret
    exact ⟨rfl, B1.out⟩
  obtain ⟨Lf, hLf⟩ : ∃ L, L = (1048576 : Int) - (wtT m : Int) := ⟨_, rfl⟩
  have hLn : ¬ Lf < 0 := by omega
  have CZ2 := hide (CZ.out Lf (by rw [if_pos hfit]; exact hLf))
  have hsm := sm_of (m := m) (by omega)
  have hz : TlZ m nT nH nL nG nN := by
    have h := tlz_of (m := m) (by omega)
    rw [hI.t.1.1, hI.h.1, hI.l.1.1, hI.g.1.1, hI.n.1] at h
    exact h
  obtain ⟨L, ok, hv⟩ := wr_is m who
  have hLl : L.length ≤ 1048576 := by have h1 := wr_len hv; have h2 := hz.bg; have h3 := hz.g; omega
  have CT := hide (fun wx (hb : Below w.heap.size w wx) => toTell_any aT nT cT aH nH cH aL nL cL aG nG cG aN nN cN m wx hz (hF.below hb))
  have CS := hide (fun p0 c0 p1 c1 p2 c2 p3 c3 p4 c4 wx (h : TlF wx p0 p1 p2 p3 p4 m) => specWritten_any p0 nT c0 p1 nH c1 p2 nL c2 p3 nG c3 p4 nN c4 m wx hz h who L ok hv)
  have CI := hide (fun p0 c0 p1 c1 p2 c2 p3 c3 p4 c4 wx (h : TlF wx p0 p1 p2 p3 p4 m) => written_any p0 nT c0 p1 nH c1 p2 nL c2 p3 nG c3 p4 nN c4 m wx hz h who L ok hv)
  have CE := hide (fun p0 c0 p1 c1 p2 c2 p3 c3 p4 c4 q0 d0 q1 d1 q2 d2 q3 d3 q4 d4 wx h1 h2 => eqTell_same p0 c0 p1 c1 p2 c2 p3 c3 p4 c4 q0 d0 q1 d1 q2 d2 q3 d3 q4 d4 _ _ _ _ _ m wx hz h1 h2)
  have CB := hide (fun p q c d wx h1 h2 => eqStringS_same p q L L.length c d wx rfl h1 h2 hLl)
  have CM := hide (fun wx S V p0 p1 p2 p3 p4 hS hW => markTell_tw S V p0 nT nT p1 nH nH p2 nL nL p3 nG nG p4 nN nN m wx hz.t hz.h hz.l hz.g hz.n hsm hS hW)
  have CMS := hide (fun b (p : Option Addr × Nat × World) (ho : p.2.2.ownsRow b 9 1 (.slice p.1 L.length p.2.1) L.length (mapS L)) hb => markStringS_from b (.slice p.1 L.length p.2.1) L L.length p.2.2 1 (by omega) (by omega) hLl ho hb)
  have CHS := hide (fun p c wx (h : SlS wx p (mkS 1 L.length)) => heldStringS_from p L.length c wx 1 (by omega) (by omega) hLl h)
  obtain ⟨M, hM⟩ : ∃ M, M = c5 m := ⟨_, rfl⟩
  have hM2 : ¬ M < 0 := by rw [hM]; unfold c5 c4 c3 c2 c1; omega
  rw [← hM] at CM
  unfold L10.RetL at CS CI
  obtain ⟨nS, hnS⟩ : ∃ x, x = L.length := ⟨_, rfl⟩
  rw [← hnS] at hLl
  simp only [← hnS] at CS CI CB CMS CHS
  have hS1 : ¬ 1 + (nS : Int) < 0 := by omega
  clear hI hF hfit mx BX g0 hW0 CZ hv hz hLf hsm hM hnS
  go_enter Try.func6, Try.ntmps6
  go_upto_region 1 with fail
  rw [← HW.out]
  go_wp2_with fail
  refine CZ2.out.mono ?_
  rintro e w1 ⟨rfl, hb1⟩
  have C1 := hide hb1
  clear hb1 CZ2
  have g1 := (C1.out.block w.heap.size (Array.getElem?_eq_some_iff.1 HG.out).1).trans HG.out
  clear k0 k1 k2 k3 k4
  obtain ⟨k0, k1, k2, k3, k4⟩ := blk5 g1
  clear g1
  go_wp2_with fail
  refine (CT.out _ (HB.out.trans (C1.out.mono HB.out.size))).mono ?_
  rintro e w2 ⟨V2, y0, y1, y2, y3, y4, rfl, hW2, hb2⟩
  have C2 := hide (C1.out.trans (hb2.mono C1.out.size))
  have F2 := hide hW2.tlf
  clear hW2 hb2 C1
  go_wp2_with fail
  refine (CS.out _ _ _ _ _ _ _ _ _ _ _ F2.out).mono ?_
  rintro e w3 ⟨ab0, cb0, rfl, ho3, hb3⟩
  have C3 := hide (C2.out.trans (hb3.mono C2.out.size))
  have L0 := hide (own_slS ho3)
  clear ho3 hb3 C2 F2
  have g1 := (C3.out.block w.heap.size (Array.getElem?_eq_some_iff.1 HG.out).1).trans HG.out
  clear k0 k1 k2 k3 k4
  obtain ⟨k0, k1, k2, k3, k4⟩ := blk5 g1
  clear g1
  go_wp2_with fail
  refine (CT.out _ (HB.out.trans (C3.out.mono HB.out.size))).mono ?_
  rintro e w4 ⟨V4, x0, x1, x2, x3, x4, rfl, hW4, hb4⟩
  have hA := hb4.alloc hb4.size (tlO x0 nT nT x1 nH nH x2 nL nL x3 nG nG x4 nN nN)
  have hA4 := (Below.refl w4.heap.size w4).alloc (Nat.le_refl _) (tlO x0 nT nT x1 nH nH x2 nL nL x3 nG nG x4 nN nN)
  have gx := blk_newO w4 (tlO x0 nT nT x1 nH nH x2 nL nL x3 nG nG x4 nN nN)
  have hs45 : w4.heap.size ≤ (w4.alloc (tlO x0 nT nT x1 nH nH x2 nL nL x3 nG nG x4 nN nN)).heap.size := by simp
  obtain ⟨w5, hw5⟩ : ∃ x, x = w4.alloc (tlO x0 nT nT x1 nH nH x2 nL nL x3 nG nG x4 nN nN) := ⟨_, rfl⟩
  obtain ⟨b0, hb0⟩ : ∃ x, x = w4.heap.size := ⟨_, rfl⟩
  rw [← hw5] at hA hA4 gx hs45
  have G5 : Hid (TG w3.heap.size w5 b0 (fun q => w3.heap.size ≤ q ∧ q < w4.heap.size) V4 x0 nT nT x1 nH nH x2 nL nL x3 nG nG x4 nN nN m) := hide ⟨by rw [hb0]; exact gx, hW4.below hA4, fun q hq => ⟨hq.1, Nat.lt_of_lt_of_le hq.2 hs45⟩, ⟨by rw [hb0]; exact hb4.size, fun hq => by have := hq.2; omega⟩⟩
  have D5 := hide hA
  have C5 := hide (C3.out.trans (hA.mono C3.out.size))
  have HS5 : Hid (w4.heap.size ≤ w5.heap.size) := hide hs45
  have HS35 : Hid (w3.heap.size ≤ w5.heap.size) := hide hA.size
  have HW5 := hide hw5
  have HB0 := hide hb0
  clear hW4 hb4 hA hA4 gx hw5 hb0 hs45 k0 k1 k2 k3 k4
  go_upto_region 7 with fail
  rw [← HW5.out, ← HB0.out]
  obtain ⟨j0, j1, j2, j3, j4⟩ := blk5 G5.out.box
  go_wp2_with fail
  refine (CI.out _ _ _ _ _ _ _ _ _ _ _ G5.out.tlf).mono ?_
  rintro e w6 ⟨ab1, cb1, rfl, ho6, hb6⟩
  have G6 := hide (G5.out.below hb6)
  have D6 := hide (D5.out.trans (hb6.mono D5.out.size))
  have Z6 := hide hb6.size
  have C6 := hide (C5.out.trans (hb6.mono C5.out.size))
  have R6 := hide ho6
  clear ho6 hb6 D5 C5 j0 j1 j2 j3 j4
  go_wp2_with fail
  refine (CB.out _ _ _ _ _ (own_slS R6.out) (L0.out.below D6.out)).mono ?_
  rintro e w7 ⟨rfl, hb7⟩
  have G7 := hide (G6.out.below hb7)
  have D7 := hide (D6.out.trans (hb7.mono D6.out.size))
  have Z7 := hide (Nat.le_trans Z6.out hb7.size)
  have C7 := hide (C6.out.trans (hb7.mono C6.out.size))
  have B7 := hide (HB.out.trans (C7.out.mono HB.out.size))
  have R7 := hide (own_belO R6.out hb7)
  clear hb7 G6 D6 C6 R6
  have gg := (C7.out.block w.heap.size (Array.getElem?_eq_some_iff.1 HG.out).1).trans HG.out
  obtain ⟨p0, p1, p2, p3, p4⟩ := blk5 gg
  obtain ⟨j0, j1, j2, j3, j4⟩ := blk5 G7.out.box
  clear gg
  go_upto_region 10 with fail
  refine wp_region_held_drew (S := (fun wx => wx.cell? ⟨b0, 0, none⟩ = some (.slice x0 nT nT) ∧ wx.cell? ⟨b0, 1, none⟩ = some (.slice x1 nH nH) ∧ wx.cell? ⟨b0, 2, none⟩ = some (.slice x2 nL nL) ∧ wx.cell? ⟨b0, 3, none⟩ = some (.slice x3 nG nG) ∧ wx.cell? ⟨b0, 4, none⟩ = some (.slice x4 nN nN) ∧ wx.cell? ⟨w.heap.size, 0, none⟩ = some (.slice aT nT cT) ∧ wx.cell? ⟨w.heap.size, 1, none⟩ = some (.slice aH nH cH) ∧ wx.cell? ⟨w.heap.size, 2, none⟩ = some (.slice aL nL cL) ∧ wx.cell? ⟨w.heap.size, 3, none⟩ = some (.slice aG nG cG) ∧ wx.cell? ⟨w.heap.size, 4, none⟩ = some (.slice aN nN cN))) (by kernel_rfl) ⟨j0, j1, j2, j3, j4, p0, p1, p2, p3, p4⟩ (fun hHeld => ?_)
  refine wpAnyH_take (i := 0) (v := ?v1) rfl (by kernel_rfl) (by kernel_rfl) (by kernel_rfl) (fun _ _ _ h => h) (Or.inl ⟨by rfl, ?y1⟩) (by assumption) ?r1
  case y1 => (intro w hSw; (try dsimp only at hSw); go_simp; try (with_reducible rfl))
  simp only [List.getElem_toArray, List.getElem_cons_zero, Act.put, List.setIfInBounds_toArray, List.set_cons_zero, List.set_cons_succ]
  refine wpAnyH_take (i := 1) (v := ?v2) rfl (by kernel_rfl) (by kernel_rfl) (by kernel_rfl) (fun _ _ _ h => h) (Or.inl ⟨by rfl, ?y2⟩) (by assumption) ?r2
  case y2 => (intro w hSw; (try dsimp only at hSw); go_simp; try (with_reducible rfl))
  simp only [List.getElem_toArray, List.getElem_cons_succ, List.getElem_cons_zero, Act.put, List.setIfInBounds_toArray, List.set_cons_zero, List.set_cons_succ]
  refine wpAnyH_ready (rs := [2]) (by kernel_rfl) (by simp) ?_
  refine AllReadyH.cons rfl (fun K hK => ?_) AllReadyH.nil
  simp only [List.getElem_toArray, List.getElem_cons_succ, List.getElem_cons_zero]
  go_simp
  go_at_call 11
  refine (CT.out _ (B7.out.drew)).mono ?_
  rintro e w8 ⟨V7, z0, z1, z2, z3, z4, rfl, hW7, hb7⟩
  have hB7 := (Below.refl w7.heap.size w7).drew.trans (hb7.mono (Nat.le_refl _))
  have HB7 := hide hB7
  have F7 := hide hW7.tlf
  clear hB7 hW7
  dsimp only
  refine hK.out _ _ ?_ (fun hHeld => ?_)
  · exact keepU10 hHeld hb7
  clear hK K
  try simp only [Act.put, List.setIfInBounds_toArray, List.set_cons_zero, List.set_cons_succ]
  refine wpAnyH_ready (rs := [3]) (by kernel_rfl) (by simp) ?_
  refine AllReadyH.cons rfl (fun K hK => ?_) AllReadyH.nil
  simp only [List.getElem_toArray, List.getElem_cons_succ, List.getElem_cons_zero]
  go_simp
  go_at_call 13
  refine (CE.out _ _ _ _ _ _ _ _ _ _ _ _ _ _ _ _ _ _ _ _ _ ((G7.out.below HB7.out).tlf) F7.out).mono ?_
  rintro e w9 ⟨rfl, hb8⟩
  dsimp only
  refine hK.out _ _ ?_ (fun hHeld => ?_)
  · exact keepU10 hHeld hb8
  clear hK K
  try simp only [Act.put, List.setIfInBounds_toArray, List.set_cons_zero, List.set_cons_succ]
  refine wpAnyH_take (i := 4) (v := ?v3) rfl (by kernel_rfl) (by kernel_rfl) (by kernel_rfl) (fun _ _ _ h => h) (Or.inl ⟨by rfl, ?y3⟩) (by assumption) ?r3
  case y3 => (intro w hSw; (try dsimp only at hSw); go_simp; try (with_reducible rfl))
  simp only [List.getElem_toArray, List.getElem_cons_succ, List.getElem_cons_zero, Act.put, List.setIfInBounds_toArray, List.set_cons_zero, List.set_cons_succ]
  refine wpAnyH_done (by kernel_rfl) ?_ _
  have K9 := hide (HB7.out.trans (hb8.mono HB7.out.size))
  clear hHeld hb8 hb7 HB7 F7
  have G9 := hide (G7.out.below K9.out)
  have D9 := hide (D7.out.trans (K9.out.mono D7.out.size))
  have Z9 := hide (Nat.le_trans Z7.out K9.out.size)
  have C9 := hide (C7.out.trans (K9.out.mono C7.out.size))
  have R9 := hide (own_belO R7.out K9.out)
  clear G7 D7 C7 R7 K9 p0 p1 p2 p3 p4 j0 j1 j2 j3 j4
  obtain ⟨j0, j1, j2, j3, j4⟩ := blk5 G9.out.box
  go_wp2_with fail
  refine (CM.out _ _ _ _ _ _ _ _ (fun q hq => (G9.out.lo q hq).2) G9.out.tw).mono ?_
  rintro e w10 ⟨rfl, hW10, hK10⟩
  have D10 := hide (bel_keptO D9.out hK10 (fun q hq => (G9.out.lo q hq).1))
  have C10 := hide (C3.out.trans (D10.out.mono C3.out.size))
  have Z10 := hide (Nat.le_trans Z9.out hK10.size)
  have R10 := hide (own_at R9.out (fun q hq => hK10.block q (own_ltO R9.out q hq) (fun hs => by have h1 := own_ge R9.out q hq; have h2 := hs.2; have h3 := HS5.out; omega)))
  clear hW10 hK10 G9 D9 C9 R9 j0 j1 j2 j3 j4
  go_wp2_with fail
  refine (CB.out _ _ _ _ _ (own_slS R10.out) (L0.out.below D10.out)).mono ?_
  rintro e w11 ⟨rfl, hb11⟩
  have D11 := hide (D10.out.trans (hb11.mono D10.out.size))
  have R11 := hide (own_belO R10.out hb11)
  have Z11 := hide (Nat.le_trans Z10.out hb11.size)
  clear hb11 D10 C10 R10
  go_wp2_with fail
  refine (CMS.out _ (_, _, _) R11.out Z11.out).mono ?_
  rintro e w12 ⟨rfl, ho12, hb12, hg12⟩
  have D12 := hide (D11.out.trans (hb12.mono HS35.out))
  have R12 := hide ho12
  clear ho12 hb12 hg12 D11 R11
  go_wp2_with fail
  refine (CHS.out _ _ _ (own_slS R12.out)).mono ?_
  rintro e w13 ⟨rfl, hb13⟩
  have D13 := hide (D12.out.trans (hb13.mono D12.out.size))
  have C13 := hide (C3.out.trans (D13.out.mono C3.out.size))
  have R13 := hide (own_belO R12.out hb13)
  clear hb13 D12 R12
  have g1 := (C13.out.block w.heap.size (Array.getElem?_eq_some_iff.1 HG.out).1).trans HG.out
  obtain ⟨k0, k1, k2, k3, k4⟩ := blk5 g1
  clear g1
  go_wp2_with fail
  refine (CT.out _ (HB.out.trans (C13.out.mono HB.out.size))).mono ?_
  rintro e w14 ⟨V14, z0, z1, z2, z3, z4, rfl, hW14, hb14⟩
  have D14 := hide (D13.out.trans (hb14.mono D13.out.size))
  have R14 := hide (own_belO R13.out hb14)
  have F14 := hide hW14.tlf
  clear hW14 hb14 D13 R13 C13 k0 k1 k2 k3 k4
  go_wp2_with fail
  refine (CI.out _ _ _ _ _ _ _ _ _ _ _ F14.out).mono ?_
  rintro e w15 ⟨ab2, cb2, rfl, ho15, hb15⟩
  have D15 := hide (D14.out.trans (hb15.mono D14.out.size))
  have R15 := hide (own_belO R14.out hb15)
  have L2 := hide (own_slS ho15)
  clear ho15 hb15 D14 R14 F14
  go_wp2_with fail
  refine (CB.out _ _ _ _ _ L2.out (L0.out.below D15.out)).mono ?_
  rintro e w16 ⟨rfl, hb16⟩
  have D16 := hide (D15.out.trans (hb16.mono D15.out.size))
  have R16 := hide (own_belO R15.out hb16)
  clear hb16 D15 R15
  go_wp2_with fail
  refine (CHS.out _ _ _ (own_slS R16.out)).mono ?_
  rintro e w17 ⟨rfl, hb17⟩
  have D17 := hide (D16.out.trans (hb17.mono D16.out.size))
  clear hb17 D16 R16
  go_wp2
  go_ret
  exact ⟨rfl, HB.out.trans ((C3.out.trans (D17.out.mono C3.out.size)).mono HB.out.size)⟩
end Go.Proofs.Ythmekhhfihjclag.fnExactWrittenOf
