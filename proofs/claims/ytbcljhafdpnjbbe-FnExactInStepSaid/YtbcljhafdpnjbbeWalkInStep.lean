/-
  The walk of the law FnExactInStep: it returns true at every world of logs and every number; memory that was there stays as it was.
-/
import Derived.Test.YtbcljhafdpnjbbeL9Open
import Derived.Test.YtbcljhafdpnjbbeL9Step
import Derived.Test.YtbcljhafdpnjbbeL9SStep
import Derived.Deep.RegionHeld3
import Derived.Deep.DeepCutAuto
namespace Go.Proofs.Ytbcljhafdpnjbbe.fnExactInStep
open Go.RowKit L1 L7 L9
set_option linter.unusedVariables false

theorem keep12 {wa wb W : World} {N : Nat} {p0 p1 p2 p3 p4 p5 p6 p7 p8 p9 p10 p11 : Addr} {v0 v1 v2 v3 v4 v5 v6 v7 v8 v9 v10 v11 : Value} (h : (wa.cell? p0 = some v0 ∧ wa.cell? p1 = some v1 ∧ wa.cell? p2 = some v2 ∧ wa.cell? p3 = some v3 ∧ wa.cell? p4 = some v4 ∧ wa.cell? p5 = some v5 ∧ wa.cell? p6 = some v6 ∧ wa.cell? p7 = some v7 ∧ wa.cell? p8 = some v8 ∧ wa.cell? p9 = some v9 ∧ wa.cell? p10 = some v10 ∧ wa.cell? p11 = some v11) ∧ Below N W wa) (hb : Below wa.heap.size wa wb) (hN : N ≤ W.heap.size) : (wb.cell? p0 = some v0 ∧ wb.cell? p1 = some v1 ∧ wb.cell? p2 = some v2 ∧ wb.cell? p3 = some v3 ∧ wb.cell? p4 = some v4 ∧ wb.cell? p5 = some v5 ∧ wb.cell? p6 = some v6 ∧ wb.cell? p7 = some v7 ∧ wb.cell? p8 = some v8 ∧ wb.cell? p9 = some v9 ∧ wb.cell? p10 = some v10 ∧ wb.cell? p11 = some v11) ∧ Below N W wb := by
  obtain ⟨⟨h0, h1, h2, h3, h4, h5, h6, h7, h8, h9, h10, h11⟩, hz⟩ := h
  exact ⟨⟨(hb.cell (blk_lt9 h0)).trans h0, (hb.cell (blk_lt9 h1)).trans h1, (hb.cell (blk_lt9 h2)).trans h2, (hb.cell (blk_lt9 h3)).trans h3, (hb.cell (blk_lt9 h4)).trans h4, (hb.cell (blk_lt9 h5)).trans h5, (hb.cell (blk_lt9 h6)).trans h6, (hb.cell (blk_lt9 h7)).trans h7, (hb.cell (blk_lt9 h8)).trans h8, (hb.cell (blk_lt9 h9)).trans h9, (hb.cell (blk_lt9 h10)).trans h10, (hb.cell (blk_lt9 h11)).trans h11⟩, hz.trans (hb.mono (Nat.le_trans hN hz.size))⟩
open Classical in
set_option maxRecDepth 100000 in
set_option maxHeartbeats 4000000 in
theorem walk (ag : Option Addr) (n cg : Nat) (ad : Option Addr) (nd cd : Nat) (ld ep : Int) (ay : Option Addr) (ny cy : Nat) (ac : Option Addr) (nc cc : Nat) (G : List (List En)) (dn : List Bool) (sy : List Int) (ce : List En) (a1 : Int) (w : World) (h0 : IsRepl w ag n ad nd ay ny ac nc G dn sy ce) (w1 : (Lit.int .i64 a1).wf = true) :
    Calls Try.prog 3 #[rpV ag n cg ad nd cd ld ep ay ny cy ac nc cc, .int .i64 a1] w fun e w' => e = .returned (.bool true) ∧ Below w.heap.size w w' := by
  obtain ⟨⟨⟨hn, mn, hg⟩, htx⟩, ⟨hd, md, hdn⟩, ⟨hy, my, hsy⟩, ⟨hc, mc, hce⟩, htc⟩ := h0
  unfold maxLen at mn md my mc
  have BX := hide ((Below.refl w.heap.size w).alloc (Nat.le_refl _) (rpL ag n cg ad nd cd ld ep ay ny cy ac nc cc))
  have CS := hide (fun wx (hb : Below w.heap.size w wx) r hr => szRepl_any ag n cg ad nd cd ld ep ay ny cy ac nc cc G ce wx hn hc mn md my mc (hg.below hb) (hce.below hb) htx htc 1048576 (by omega) (by omega) r hr)
  obtain ⟨T, hT⟩ : ∃ T, T = wtR G nd ny ce := ⟨_, rfl⟩
  rw [← hT] at CS
  by_cases hw : (T : Int) ≤ 1048576
  · have hwt : wtG G + nd + ny + wt ce ≤ 1048576 := by rw [hT] at hw; unfold wtR at hw; omega
    have hz : RpZ G sy ce n nd ny nc := by
      have e1 : wtG G = G.length + wts G := rfl
      have e2 : wt ce = ce.length + szs ce := rfl
      refine ⟨hn, hy, hc, by omega, by omega, by omega, by omega, fun i hi => ?_, htx⟩
      have h1 := wts_get G i hi
      have h2 : wt (G.getD i []) = (G.getD i []).length + szs (G.getD i []) := rfl
      omega
    obtain ⟨r, hr⟩ : ∃ r, r = 1048576 - (T : Int) := ⟨_, rfl⟩
    have hr0 : ¬ r < 0 := by omega
    have K := hide (fun wx hb => CS.out wx hb r (by rw [if_pos hw, hr]))
    have HF : Hid (RpF w ag ad ay ac G dn sy ce) := ⟨⟨hg, hsy, hce⟩, hdn⟩
    have CT := hide (fun wx (hb : Below w.heap.size w wx) => toRepl_any ag n cg ad nd cd ld ep ay ny cy ac nc cc G dn sy ce wx hz hd (HF.out.below hb))
    have CE := hide (fun p0 p1 p2 p3 q0 q1 q2 q3 wx h1 h2 => eqRepl_same p0 n p1 nd p2 ny p3 nc q0 n q1 nd q2 ny q3 nc n nd ny nc ld ep G dn sy ce wx hz hd h1 h2)
    obtain ⟨rr, ok, hrr⟩ := instep_is G nd ld ep sy ce a1
    have C1 := hide (fun p0 p1 p2 p3 wx (h : RpF wx p0 p1 p2 p3 G dn sy ce) => specInStep_any p0 n n p1 nd nd ld ep p2 ny ny p3 nc nc G sy ce a1 wx hz h.s rr ok hrr)
    have C2 := hide (fun p0 p1 p2 p3 wx (h : RpF wx p0 p1 p2 p3 G dn sy ce) => implInStep_any p0 n n p1 nd nd ld ep p2 ny ny p3 nc nc G sy ce a1 wx hz h.s rr ok hrr)
    clear hn hd hy hc mn md my mc hg hdn hsy hce htx htc hT hw hwt hz hr CS HF
    go_enter Try.func3, Try.ntmps3
    go_wp2_with fail
    refine (K.out _ BX.out).mono ?_
    rintro e w1 ⟨rfl, hb⟩
    have I1 := hide ((hb.block w.heap.size (by simp)).trans (blk_new9 _ _))
    have B1 := hide (BX.out.trans (hb.mono BX.out.size))
    obtain ⟨k0, k1, k2, k3, k4, k5⟩ := blk6 I1.out
    clear hb
    go_wp2_with fail
    refine (CT.out _ B1.out).mono ?_
    rintro e w2 ⟨p0, p1, p2, p3, rfl, hf, hb⟩
    have F2 := hide hf
    have I2 := hide ((hb.block w.heap.size (Array.getElem?_eq_some_iff.1 I1.out).1).trans I1.out)
    have B2 := hide (B1.out.trans (hb.mono B1.out.size))
    clear hf hb k0 k1 k2 k3 k4 k5 I1
    obtain ⟨k0, k1, k2, k3, k4, k5⟩ := blk6 I2.out
    go_wp2_with fail
    refine (C1.out _ _ _ _ _ F2.out).mono ?_
    rintro e w3 ⟨rfl, hb⟩
    have I3 := hide ((hb.block w.heap.size (Array.getElem?_eq_some_iff.1 I2.out).1).trans I2.out)
    have B3 := hide (B2.out.trans (hb.mono B2.out.size))
    clear hb k0 k1 k2 k3 k4 k5 I2 F2
    obtain ⟨k0, k1, k2, k3, k4, k5⟩ := blk6 I3.out
    go_wp2_with fail
    refine (CT.out _ B3.out).mono ?_
    rintro e w4 ⟨q0, q1, q2, q3, rfl, hf, hb⟩
    have F4 := hide hf
    have I4 := hide ((hb.block w.heap.size (Array.getElem?_eq_some_iff.1 I3.out).1).trans I3.out)
    have B4 := hide (B3.out.trans (hb.mono B3.out.size))
    have hal := hide ((Below.refl w4.heap.size w4).alloc (Nat.le_refl _) (rpO q0 n n q1 nd nd ld ep q2 ny ny q3 nc nc))
    clear hf hb k0 k1 k2 k3 k4 k5 I3
    go_wp2_with fail
    refine (C2.out _ _ _ _ _ (F4.out.below hal.out)).mono ?_
    rintro e w5 ⟨rfl, hb⟩
    have hb5 := hal.out.trans (hb.mono hal.out.size)
    have X5 := hide ((hb.block w4.heap.size (by simp)).trans (blk_new9 _ _))
    have I5 := hide ((hb5.block w.heap.size (Array.getElem?_eq_some_iff.1 I4.out).1).trans I4.out)
    have B5 := hide (B4.out.trans (hb5.mono B4.out.size))
    have F5 := hide (F4.out.below hb5)
    clear hb hb5 hal I4 F4
    obtain ⟨k0, k1, k2, k3, k4, k5⟩ := blk6 I5.out
    obtain ⟨x0, x1, x2, x3, x4, x5⟩ := blk6 X5.out
    go_upto_region 10 with fail
    try go_wp2
    refine wp_region_held_drew (S := fun wx => (wx.cell? ⟨w4.heap.size, 0, none⟩ = some (.slice q0 n n) ∧ wx.cell? ⟨w4.heap.size, 1, none⟩ = some (.slice q1 nd nd) ∧ wx.cell? ⟨w4.heap.size, 2, none⟩ = some (.int .i64 ld) ∧ wx.cell? ⟨w4.heap.size, 3, none⟩ = some (.int .i64 ep) ∧ wx.cell? ⟨w4.heap.size, 4, none⟩ = some (.slice q2 ny ny) ∧ wx.cell? ⟨w4.heap.size, 5, none⟩ = some (.slice q3 nc nc) ∧ wx.cell? ⟨w.heap.size, 0, none⟩ = some (.slice ag n cg) ∧ wx.cell? ⟨w.heap.size, 1, none⟩ = some (.slice ad nd cd) ∧ wx.cell? ⟨w.heap.size, 2, none⟩ = some (.int .i64 ld) ∧ wx.cell? ⟨w.heap.size, 3, none⟩ = some (.int .i64 ep) ∧ wx.cell? ⟨w.heap.size, 4, none⟩ = some (.slice ay ny cy) ∧ wx.cell? ⟨w.heap.size, 5, none⟩ = some (.slice ac nc cc)) ∧ Below w5.heap.size w5 wx) (by kernel_rfl) ⟨⟨x0, x1, x2, x3, x4, x5, k0, k1, k2, k3, k4, k5⟩, (Below.refl _ _).drew⟩ (fun hHeld => ?_)
    refine wpAnyH_take (i := 0) (v := ?v7) rfl (by kernel_rfl) (by kernel_rfl) (by kernel_rfl) (fun _ _ _ h => h) (Or.inl ⟨by rfl, ?y7⟩) (by assumption) ?r7
    case y7 => (intro w hSw; (try dsimp only at hSw); go_simp; try (with_reducible rfl))
    simp only [List.getElem_toArray, List.getElem_cons_zero, Act.put, List.setIfInBounds_toArray, List.set_cons_zero, List.set_cons_succ]
    refine wpAnyH_take (i := 1) (v := ?v8) rfl (by kernel_rfl) (by kernel_rfl) (by kernel_rfl) (fun _ _ _ h => h) (Or.inl ⟨by rfl, ?y8⟩) (by assumption) ?r8
    case y8 => (intro w hSw; (try dsimp only at hSw); go_simp; try (with_reducible rfl))
    simp only [List.getElem_toArray, List.getElem_cons_succ, List.getElem_cons_zero, Act.put, List.setIfInBounds_toArray, List.set_cons_zero, List.set_cons_succ]
    refine wpAnyH_ready (rs := [2]) (by kernel_rfl) (by simp) ?_
    refine AllReadyH.cons rfl (fun K hK => ?_) AllReadyH.nil
    simp only [List.getElem_toArray, List.getElem_cons_succ, List.getElem_cons_zero]
    go_simp
    go_at_call 6
    refine (CT.out _ (B5.out.trans (hHeld.2.mono B5.out.size))).mono ?_
    rintro e w6 ⟨s0, s1, s2, s3, rfl, hf, hb⟩
    have F6 := hide hf
    clear hf
    dsimp only
    refine hK.out _ _ ?_ (fun hHeld => ?_)
    · exact keep12 hHeld hb (Nat.le_refl _)
    clear hK K
    try simp only [Act.put, List.setIfInBounds_toArray, List.set_cons_zero, List.set_cons_succ]
    refine wpAnyH_ready (rs := [3]) (by kernel_rfl) (by simp) ?_
    refine AllReadyH.cons rfl (fun K hK => ?_) AllReadyH.nil
    simp only [List.getElem_toArray, List.getElem_cons_succ, List.getElem_cons_zero]
    go_simp
    go_at_call 8
    refine (CE.out _ _ _ _ _ _ _ _ _ (F5.out.below hHeld.2) F6.out).mono ?_
    rintro e w7 ⟨rfl, hb⟩
    dsimp only
    refine hK.out _ _ ?_ (fun hHeld => ?_)
    · exact keep12 hHeld hb (Nat.le_refl _)
    clear hK K
    try simp only [Act.put, List.setIfInBounds_toArray, List.set_cons_zero, List.set_cons_succ]
    refine wpAnyH_take (i := 4) (v := ?v9) rfl (by kernel_rfl) (by kernel_rfl) (by kernel_rfl) (fun _ _ _ h => h) (Or.inl ⟨by rfl, ?y9⟩) (by assumption) ?r9
    case y9 => (intro w hSw; (try dsimp only at hSw); go_simp; try (with_reducible rfl))
    simp only [List.getElem_toArray, List.getElem_cons_succ, List.getElem_cons_zero, Act.put, List.setIfInBounds_toArray, List.set_cons_zero, List.set_cons_succ]
    refine wpAnyH_done (by kernel_rfl) ?_ _
    have B7 := hide (B5.out.trans (hHeld.2.mono B5.out.size))
    clear hHeld k0 k1 k2 k3 k4 k5 x0 x1 x2 x3 x4 x5
    go_wp2
    go_ret
    exact ⟨rfl, B7.out⟩
  · have K := hide (fun wx hb => CS.out wx hb (-1) (by rw [if_neg hw]))
    clear hn hd hy hc mn md my mc hg hdn hsy hce htx htc hT hw CS
    go_enter Try.func3, Try.ntmps3
    go_wp2_with fail
    refine (K.out _ BX.out).mono ?_
    rintro e w1 ⟨rfl, hb⟩
    have B1 := hide (BX.out.trans (hb.mono BX.out.size))
    clear hb
    go_wp2
    go_ret
    exact ⟨rfl, B1.out⟩
end Go.Proofs.Ytbcljhafdpnjbbe.fnExactInStep
