/-
  The walk of the law FnExactNewTell: it returns true at every number; memory that was there stays as it was.
-/
import Derived.Test.YthmekhhfihjclafL10Law
import Derived.Test.YthmekhhfihjclafL10Eq
namespace Go.Proofs.Ythmekhhfihjclaf.fnExactNewTell
open Go.RowKit L1 L10 Own Str Nte Tri
set_option linter.unusedVariables false

set_option maxRecDepth 100000 in
set_option maxHeartbeats 8000000 in
theorem walk (k : Int) (w : World) (wf : (Lit.int .i64 k).wf = true) :
    Calls Try.prog 3 #[.int .i64 k] w fun e w' => e = .returned (.bool true) ∧ Below w.heap.size w w' := by
  clear wf
  obtain ⟨m, ok, hv⟩ := new_is k
  obtain ⟨hsm, hz⟩ := nw_small hv
  have CS := hide (fun wx => specNewT_any k m ok wx hv)
  have CI := hide (fun wx => implNewT_any k m ok wx hv)
  have MADE := hide (fun c wx w' e (hc : c ≤ wx.heap.size) (h : RetT wx m ok e w') => tg_made hc h)
  have CE := hide (fun p0 c0 p1 c1 p2 c2 p3 c3 p4 c4 q0 d0 q1 d1 q2 d2 q3 d3 q4 d4 wx h1 h2 => eqTell_same p0 c0 p1 c1 p2 c2 p3 c3 p4 c4 q0 d0 q1 d1 q2 d2 q3 d3 q4 d4 _ _ _ _ _ m wx hz h1 h2)
  have CM := hide (fun wx S V p0 c0 p1 c1 p2 c2 p3 c3 p4 c4 hS hW => markTell_tw S V p0 m.T.length c0 p1 m.hd.length c1 p2 m.ln.length c2 p3 m.lg.length c3 p4 m.nx.length c4 m wx rfl rfl rfl rfl rfl hsm hS hW)
  have CH := hide (fun wx p0 c0 p1 c1 p2 c2 p3 c3 p4 c4 hF => heldTell_tl p0 m.T.length c0 p1 m.hd.length c1 p2 m.ln.length c2 p3 m.lg.length c3 p4 m.nx.length c4 m wx rfl rfl rfl rfl rfl hsm hF)
  obtain ⟨M, hM⟩ : ∃ M, M = c5 m := ⟨_, rfl⟩
  have hM2 : ¬ M < 0 := by rw [hM]; unfold c5 c4 c3 c2 c1; omega
  rw [← hM] at CM CH
  obtain ⟨t1, ht1⟩ : ∃ x, x = m.T.length := ⟨_, rfl⟩
  obtain ⟨t2, ht2⟩ : ∃ x, x = m.hd.length := ⟨_, rfl⟩
  obtain ⟨t3, ht3⟩ : ∃ x, x = m.ln.length := ⟨_, rfl⟩
  obtain ⟨t4, ht4⟩ : ∃ x, x = m.lg.length := ⟨_, rfl⟩
  obtain ⟨t5, ht5⟩ : ∃ x, x = m.nx.length := ⟨_, rfl⟩
  simp only [← ht1, ← ht2, ← ht3, ← ht4, ← ht5] at MADE CE CM CH
  clear hv hsm hz hM ht1 ht2 ht3 ht4 ht5
  go_enter Try.func3, Try.ntmps3
  go_wp2_with fail
  refine (CS.out _).mono ?_
  rintro e w1 hret
  obtain ⟨V0, aT0, cT0, aH0, cH0, aL0, cL0, aG0, cG0, aN0, cN0, S0, rfl, hb, hG⟩ := MADE.out (w.heap.size) _ _ _ (Nat.le_refl _) hret
  have hA := hb.alloc hb.size (tlO aT0 t1 cT0 aH0 t2 cH0 aL0 t3 cL0 aG0 t4 cG0 aN0 t5 cN0)
  obtain ⟨wA, hwA⟩ : ∃ x, x = w1.alloc (tlO aT0 t1 cT0 aH0 t2 cH0 aL0 t3 cL0 aG0 t4 cG0 aN0 t5 cN0) := ⟨_, rfl⟩
  obtain ⟨b0, hbb⟩ : ∃ x, x = w1.heap.size := ⟨_, rfl⟩
  rw [← hwA] at hG hA
  rw [← hbb] at hG
  have HWwA := hide hwA
  have HBb0 := hide hbb
  have G0 := hide hG
  have A0 := hide hA
  clear hwA hbb hret hb hG hA
  go_upto_region 2 with fail
  rw [← HWwA.out, ← HBb0.out]
  go_wp2_with fail
  refine (CI.out _).mono ?_
  rintro e w2 hret
  obtain ⟨V1, aT1, cT1, aH1, cH1, aL1, cL1, aG1, cG1, aN1, cN1, S1, rfl, hb, hG⟩ := MADE.out (wA.heap.size) _ _ _ (Nat.le_refl _) hret
  have hA := hb.alloc hb.size (tlO aT1 t1 cT1 aH1 t2 cH1 aL1 t3 cL1 aG1 t4 cG1 aN1 t5 cN1)
  obtain ⟨wB, hwA⟩ : ∃ x, x = w2.alloc (tlO aT1 t1 cT1 aH1 t2 cH1 aL1 t3 cL1 aG1 t4 cG1 aN1 t5 cN1) := ⟨_, rfl⟩
  obtain ⟨b1, hbb⟩ : ∃ x, x = w2.heap.size := ⟨_, rfl⟩
  rw [← hwA] at hG hA
  rw [← hbb] at hG
  have HWwB := hide hwA
  have HBb1 := hide hbb
  have G1 := hide hG
  have A1 := hide hA
  clear hwA hbb hret hb hG hA
  go_upto_region 3 with fail
  rw [← HWwB.out, ← HBb1.out]
  have C1 := hide A1.out
  clear A1
  obtain ⟨p0, p1, p2, p3, p4⟩ := blk5 (G0.out.below C1.out).box
  obtain ⟨j0, j1, j2, j3, j4⟩ := blk5 G1.out.box
  go_wp2_with fail
  refine (CE.out _ _ _ _ _ _ _ _ _ _ _ _ _ _ _ _ _ _ _ _ _ (G1.out).tlf (G0.out.below C1.out).tlf).mono ?_
  rintro e w3 ⟨rfl, hb⟩
  have K3 := hide hb
  clear hb
  have G3 := hide (G1.out.below K3.out)
  have C3 := hide (C1.out.trans (K3.out.mono C1.out.size))
  clear G1 C1 K3 p0 p1 p2 p3 p4 j0 j1 j2 j3 j4
  obtain ⟨j0, j1, j2, j3, j4⟩ := blk5 G3.out.box
  go_wp2_with fail
  refine (CM.out _ _ _ _ _ _ _ _ _ _ _ _ _ (fun q hq => (G3.out.lo q hq).2) G3.out.tw).mono ?_
  rintro e w4 ⟨rfl, hW4, hK4⟩
  have G4 := hide (G3.out.mark hW4 hK4)
  have C4 := hide (bel_keptO C3.out hK4 (fun q hq => (G3.out.lo q hq).1))
  clear hW4 hK4 G3 C3 j0 j1 j2 j3 j4
  obtain ⟨j0, j1, j2, j3, j4⟩ := blk5 G4.out.box
  go_wp2_with fail
  refine (CH.out _ _ _ _ _ _ _ _ _ _ _ G4.out.tlf).mono ?_
  rintro e w5 ⟨rfl, hb⟩
  have G5 := hide (G4.out.below hb)
  have C5 := hide (C4.out.trans (hb.mono C4.out.size))
  clear hb G4 C4 j0 j1 j2 j3 j4
  go_wp2_with fail
  refine (CI.out _).mono ?_
  rintro e w6 hret
  obtain ⟨V2, aT2, cT2, aH2, cH2, aL2, cL2, aG2, cG2, aN2, cN2, S2, rfl, hb, hG⟩ := MADE.out (w5.heap.size) _ _ _ (Nat.le_refl _) hret
  have hA := hb.alloc hb.size (tlO aT2 t1 cT2 aH2 t2 cH2 aL2 t3 cL2 aG2 t4 cG2 aN2 t5 cN2)
  obtain ⟨wC, hwA⟩ : ∃ x, x = w6.alloc (tlO aT2 t1 cT2 aH2 t2 cH2 aL2 t3 cL2 aG2 t4 cG2 aN2 t5 cN2) := ⟨_, rfl⟩
  obtain ⟨b2, hbb⟩ : ∃ x, x = w6.heap.size := ⟨_, rfl⟩
  rw [← hwA] at hG hA
  rw [← hbb] at hG
  have HWwC := hide hwA
  have HBb2 := hide hbb
  have G2 := hide hG
  have A2 := hide hA
  clear hwA hbb hret hb hG hA
  go_upto_region 14 with fail
  rw [← HWwC.out, ← HBb2.out]
  have G7 := hide (G5.out.below A2.out)
  have C7 := hide (C5.out.trans (A2.out.mono C5.out.size))
  clear A2 G5 C5
  obtain ⟨p0, p1, p2, p3, p4⟩ := blk5 (G0.out.below C7.out).box
  obtain ⟨j0, j1, j2, j3, j4⟩ := blk5 G2.out.box
  go_wp2_with fail
  refine (CE.out _ _ _ _ _ _ _ _ _ _ _ _ _ _ _ _ _ _ _ _ _ (G2.out).tlf (G0.out.below C7.out).tlf).mono ?_
  rintro e w8 ⟨rfl, hb⟩
  have K8 := hide hb
  clear hb
  have G8 := hide (G7.out.below K8.out)
  have C8 := hide (C7.out.trans (K8.out.mono C7.out.size))
  clear G7 C7 K8 G2 p0 p1 p2 p3 p4 j0 j1 j2 j3 j4
  obtain ⟨j0, j1, j2, j3, j4⟩ := blk5 G8.out.box
  go_wp2_with fail
  refine (CH.out _ _ _ _ _ _ _ _ _ _ _ G8.out.tlf).mono ?_
  rintro e w9 ⟨rfl, hb⟩
  have G9 := hide (G8.out.below hb)
  have C9 := hide (C8.out.trans (hb.mono C8.out.size))
  clear hb G8 C8 j0 j1 j2 j3 j4
  go_wp2
  go_ret
  exact ⟨rfl, A0.out.trans (C9.out.mono A0.out.size)⟩
end Go.Proofs.Ythmekhhfihjclaf.fnExactNewTell
