/-
  The walk of the law FnExactNewBank: it returns true at every list of coins; memory that was there stays as it was.
-/
import Derived.Test.YtfjbiihiaoobhaiL12New
import Derived.Test.YtfjbiihiaoobhaiL12SNew
import Derived.Test.YtfjbiihiaoobhaiL12Law
import Derived.Test.YtfjbiihiaoobhaiL12Mark
import Derived.Test.YtfjbiihiaoobhaiL12Held
import Derived.Test.YtfjbiihiaoobhaiL12Eq
import Derived.Test.YtfjbiihiaoobhaiL1Lists
import Derived.Test.YtfjbiihiaoobhaiL1Eq
import Derived.Deep.DeepCutAuto
namespace Go.Proofs.Ytfjbiihiaoobhai.fnExactNewBank
open Go.RowKit L1 L4 L9 L12 Own Sli
set_option linter.unusedVariables false

set_option maxRecDepth 100000 in
set_option maxHeartbeats 8000000 in
theorem walk (a0 : Option Addr) (len0 cap0 : Nat) (z0 : List Int) (w : World) (w0 : IsRow .i64 w a0 len0 cap0 z0) :
    Calls Try.prog 5 #[.slice a0 len0 cap0] w fun e w' => e = .returned (.bool true) ∧ Below w.heap.size w w' := by
  obtain ⟨hs, hn, hm⟩ := sl_of_row w0
  obtain ⟨xs, hxs⟩ : ∃ xs, xs = z0.take len0 := ⟨_, rfl⟩
  rw [← hxs] at hs hn
  clear w0 hxs
  unfold maxLen at hm
  by_cases hsz' : 1048576 < (len0 : Int)
  · clear hs hn
    go_enter Try.func5, Try.ntmps5
    go_wp2
    go_ret
    exact ⟨rfl, Below.refl _ _⟩
  have hl : len0 ≤ 1048576 := by omega
  obtain ⟨m, ok, hv⟩ := nw_ex xs
  obtain ⟨hsm, hz⟩ := nw_small12 hv
  have CT := hide (fun wx (hb : Below w.heap.size w wx) => toIntS_any a0 xs len0 cap0 wx hn (hs.below hb) hl)
  have CS := hide (fun wx p q (h : Sl wx p xs) => sNewBank_any p xs len0 q wx hn h hl m ok hv)
  have CI := hide (fun wx p q (h : Sl wx p xs) => newBank_any p xs len0 q wx hn h hl m ok hv)
  have CX := hide (fun wx p q c d h1 h2 => eqIntS_same p q xs len0 c d wx hn h1 h2 hl)
  have MADE := hide (fun c wx w' e (hc : c ≤ wx.heap.size) (h : RetB wx m ok e w') => bg_made hc h)
  have CE := hide (fun p0 c0 p1 c1 p2 c2 p3 c3 p4 c4 q0 d0 q1 d1 q2 d2 q3 d3 q4 d4 wx h1 h2 => eqBank_same p0 c0 p1 c1 p2 c2 p3 c3 p4 c4 q0 d0 q1 d1 q2 d2 q3 d3 q4 d4 _ _ _ _ _ m wx hz h1 h2)
  have CM := hide (fun wx S v p0 c0 p1 c1 p2 c2 p3 c3 p4 c4 hS f hW => markBank_bw S v p0 m.c.length c0 p1 m.W.length c1 p2 m.k.length c2 p3 m.H.length c3 p4 m.F.length c4 m wx rfl rfl rfl rfl rfl hsm hS f hW)
  have CH := hide (fun wx p0 c0 p1 c1 p2 c2 p3 c3 p4 c4 hF => heldBank_bk p0 m.c.length c0 p1 m.W.length c1 p2 m.k.length c2 p3 m.H.length c3 p4 m.F.length c4 m wx rfl rfl rfl rfl rfl hsm hF)
  obtain ⟨M, hM⟩ : ∃ M, M = mkt m m.c.length m.W.length m.k.length m.H.length m.F.length := ⟨_, rfl⟩
  have hM2 : ¬ M < 0 := by rw [hM]; unfold mkt; omega
  have hMM : (M != M) = false := by simp
  have hok : (ok != ok) = false := by simp
  rw [← hM] at CM CH
  obtain ⟨mk5, hmk5⟩ : ∃ x, x = mkd m m.c.length m.W.length m.k.length m.H.length m.F.length := ⟨_, rfl⟩
  rw [← hmk5] at CM CH
  obtain ⟨tC, hC⟩ : ∃ x, x = m.c.length := ⟨_, rfl⟩
  obtain ⟨tW, hW⟩ : ∃ x, x = m.W.length := ⟨_, rfl⟩
  obtain ⟨tK, hK⟩ : ∃ x, x = m.k.length := ⟨_, rfl⟩
  obtain ⟨tH, hH⟩ : ∃ x, x = m.H.length := ⟨_, rfl⟩
  obtain ⟨tF, hF⟩ : ∃ x, x = m.F.length := ⟨_, rfl⟩
  simp only [← hC, ← hW, ← hK, ← hH, ← hF] at MADE CE CM CH
  clear hv hsm hz hM hC hW hK hH hF hs hn hmk5 hm
  go_enter Try.func5, Try.ntmps5
  go_wp2_with fail
  refine (CT.out _ (Below.refl _ _)).mono ?_
  rintro e u1 ⟨rfl, ho, hb⟩
  have B1 := hide hb
  have X1 := hide (sl_of_own ho)
  clear ho hb
  go_wp2_with fail
  refine (CS.out _ _ _ X1.out).mono ?_
  rintro e u2 hret
  obtain ⟨V0, aC0, cC0, aW0, cW0, aK0, cK0, aH0, cH0, aF0, cF0, S0, rfl, hb, hG⟩ := MADE.out (w.heap.size) _ _ _ (B1.out.size) hret
  have hA := hb.alloc hb.size (bkO aC0 tC cC0 aW0 tW cW0 aK0 tK cK0 aH0 tH cH0 aF0 tF cF0)
  obtain ⟨wA, hwA⟩ : ∃ x, x = u2.alloc (bkO aC0 tC cC0 aW0 tW cW0 aK0 tK cK0 aH0 tH cH0 aF0 tF cF0) := ⟨_, rfl⟩
  obtain ⟨b0, hbb⟩ : ∃ x, x = u2.heap.size := ⟨_, rfl⟩
  rw [← hwA] at hG hA
  rw [← hbb] at hG
  have HWwA := hide hwA
  have HBb0 := hide hbb
  have G0 := hide hG
  have A0 := hide hA
  clear hwA hbb hret hb hG hA
  clear X1
  go_upto_region 4 with fail
  rw [← HWwA.out, ← HBb0.out]
  have BA := hide (B1.out.trans (A0.out.mono B1.out.size))
  clear A0
  go_wp2_with fail
  refine (CT.out _ BA.out).mono ?_
  rintro e u3 ⟨rfl, ho, hb⟩
  have R3 := hide ho
  have C3 := hide hb
  clear ho hb
  obtain ⟨X, hX⟩ : ∃ X, X = wA.heap.size := ⟨_, rfl⟩
  rw [← hX] at R3
  rw [← hX]
  have HX := hide hX
  clear hX
  go_wp2_with fail
  refine (CI.out _ _ _ (sl_of_own R3.out)).mono ?_
  rintro e u4 hret
  obtain ⟨V1, aC1, cC1, aW1, cW1, aK1, cK1, aH1, cH1, aF1, cF1, S1, rfl, hb, hG⟩ := MADE.out (u3.heap.size) _ _ _ (Nat.le_refl _) hret
  have hA := hb.alloc hb.size (bkO aC1 tC cC1 aW1 tW cW1 aK1 tK cK1 aH1 tH cH1 aF1 tF cF1)
  obtain ⟨wB, hwA⟩ : ∃ x, x = u4.alloc (bkO aC1 tC cC1 aW1 tW cW1 aK1 tK cK1 aH1 tH cH1 aF1 tF cF1) := ⟨_, rfl⟩
  obtain ⟨b1, hbb⟩ : ∃ x, x = u4.heap.size := ⟨_, rfl⟩
  rw [← hwA] at hG hA
  rw [← hbb] at hG
  have HWwB := hide hwA
  have HBb1 := hide hbb
  have G1 := hide hG
  have A1 := hide hA
  clear hwA hbb hret hb hG hA
  go_upto_region 6 with fail
  rw [← HWwB.out, ← HBb1.out]
  have R4 := hide (own_belO R3.out A1.out)
  have XLT : Hid (X < u3.heap.size) := hide (R3.out.lt X rfl).2
  have C4 := hide (C3.out.trans (A1.out.mono C3.out.size))
  clear A1 R3 C3
  obtain ⟨p0, p1, p2, p3, p4⟩ := blk5 (G0.out.below C4.out).box
  obtain ⟨j0, j1, j2, j3, j4⟩ := blk5 G1.out.box
  go_wp2_with fail
  refine (CE.out _ _ _ _ _ _ _ _ _ _ _ _ _ _ _ _ _ _ _ _ _ G1.out.bkf (G0.out.below C4.out).bkf).mono ?_
  rintro e u5 ⟨rfl, hb⟩
  have G5 := hide (G1.out.below hb)
  have R5 := hide (own_belO R4.out hb)
  have C5 := hide (C4.out.trans (hb.mono C4.out.size))
  clear hb G1 C4 R4 p0 p1 p2 p3 p4 j0 j1 j2 j3 j4
  go_wp2_with fail
  refine (CT.out _ (BA.out.trans (C5.out.mono BA.out.size))).mono ?_
  rintro e u6 ⟨rfl, ho, hb⟩
  have G6 := hide (G5.out.below hb)
  have R6 := hide (own_belO R5.out hb)
  have C6 := hide (C5.out.trans (hb.mono C5.out.size))
  have Y6 := hide (sl_of_own ho)
  clear ho hb G5 C5 R5
  go_wp2_with fail
  refine (CX.out _ _ _ _ _ (sl_of_own R6.out) Y6.out).mono ?_
  rintro e u7 ⟨rfl, hb⟩
  have G7 := hide (G6.out.below hb)
  have R7 := hide (own_belO R6.out hb)
  have C7 := hide (C6.out.trans (hb.mono C6.out.size))
  clear hb G6 C6 R6 Y6
  have CMI := hide (fun wx h => markIntS_from X (.slice (some ⟨X, 0, none⟩) len0 len0) xs len0 wx 1 (by omega) (by omega) (by omega) h)
  go_wp2_with fail
  refine (CMI.out _ R7.out).mono ?_
  rintro e u8 ⟨rfl, _, hb, hg⟩
  have G8 : Hid (BG u3.heap.size u8 b1 S1 V1 aC1 tC cC1 aW1 tW cW1 aK1 tK cK1 aH1 tH cH1 aF1 tF cF1 m) := hide (G7.out.keep hg.size (fun q hq hl => hg.block q hl (fun e => by have e' : q = X := Option.some.inj e; have := XLT.out; omega)))
  have C8 := hide (C7.out.trans (by rw [HX.out] at hb; exact hb))
  have nk : ¬ 1 + (len0 : Int) < 0 := by omega
  clear hb hg G7 C7 R7 CMI
  obtain ⟨p0, p1, p2, p3, p4⟩ := blk5 (G0.out.below C8.out).box
  obtain ⟨j0, j1, j2, j3, j4⟩ := blk5 G8.out.box
  go_wp2_with fail
  refine (CE.out _ _ _ _ _ _ _ _ _ _ _ _ _ _ _ _ _ _ _ _ _ G8.out.bkf (G0.out.below C8.out).bkf).mono ?_
  rintro e u9 ⟨rfl, hb⟩
  have G9 := hide (G8.out.below hb)
  have C9 := hide (C8.out.trans (hb.mono C8.out.size))
  clear hb G8 C8 p0 p1 p2 p3 p4 j0 j1 j2 j3 j4
  obtain ⟨j0, j1, j2, j3, j4⟩ := blk5 G9.out.box
  go_wp2_with fail
  refine (CM.out _ _ _ _ _ _ _ _ _ _ _ _ _ (fun q hq => (G9.out.lo q hq).2) G9.out.f G9.out.bw).mono ?_
  rintro e v1 ⟨rfl, hW4, hK4⟩
  have H1 := hide (G9.out.mark hW4 hK4)
  have D1 := hide (bel_keptO C9.out hK4 (fun q hq => by have := (G9.out.lo q hq).1; have := XLT.out; have := HX.out; omega))
  clear hW4 hK4 G9 C9 j0 j1 j2 j3 j4
  obtain ⟨j0, j1, j2, j3, j4⟩ := blk5 H1.out.box
  go_wp2_with fail
  refine (CH.out _ _ _ _ _ _ _ _ _ _ _ H1.out.bkf).mono ?_
  rintro e v2 ⟨rfl, hb⟩
  have H2 := hide (H1.out.below hb)
  have D2 := hide (D1.out.trans (hb.mono D1.out.size))
  clear hb H1 D1 j0 j1 j2 j3 j4
  go_wp2_with fail
  refine (CT.out _ (BA.out.trans (D2.out.mono BA.out.size))).mono ?_
  rintro e v3 ⟨rfl, ho, hb⟩
  have H3 := hide (H2.out.below hb)
  have D3 := hide (D2.out.trans (hb.mono D2.out.size))
  have Y3 := hide (sl_of_own ho)
  clear ho hb H2 D2
  go_wp2_with fail
  refine (CI.out _ _ _ Y3.out).mono ?_
  rintro e v4 hret
  obtain ⟨V2, aC2, cC2, aW2, cW2, aK2, cK2, aH2, cH2, aF2, cF2, S2, rfl, hb, hG⟩ := MADE.out (v3.heap.size) _ _ _ (Nat.le_refl _) hret
  have hA := hb.alloc hb.size (bkO aC2 tC cC2 aW2 tW cW2 aK2 tK cK2 aH2 tH cH2 aF2 tF cF2)
  obtain ⟨wC, hwA⟩ : ∃ x, x = v4.alloc (bkO aC2 tC cC2 aW2 tW cW2 aK2 tK cK2 aH2 tH cH2 aF2 tF cF2) := ⟨_, rfl⟩
  obtain ⟨b2, hbb⟩ : ∃ x, x = v4.heap.size := ⟨_, rfl⟩
  rw [← hwA] at hG hA
  rw [← hbb] at hG
  have HWwC := hide hwA
  have HBb2 := hide hbb
  have G2 := hide hG
  have A2 := hide hA
  clear hwA hbb hret hb hG hA
  go_upto_region 23 with fail
  rw [← HWwC.out, ← HBb2.out]
  have H4 := hide (H3.out.below A2.out)
  have D4 := hide (D3.out.trans (A2.out.mono D3.out.size))
  clear A2 H3 D3 Y3
  obtain ⟨p0, p1, p2, p3, p4⟩ := blk5 (G0.out.below D4.out).box
  obtain ⟨j0, j1, j2, j3, j4⟩ := blk5 G2.out.box
  go_wp2_with fail
  refine (CE.out _ _ _ _ _ _ _ _ _ _ _ _ _ _ _ _ _ _ _ _ _ G2.out.bkf (G0.out.below D4.out).bkf).mono ?_
  rintro e v5 ⟨rfl, hb⟩
  have H5 := hide (H4.out.below hb)
  have D5 := hide (D4.out.trans (hb.mono D4.out.size))
  clear hb H4 D4 G2 p0 p1 p2 p3 p4 j0 j1 j2 j3 j4
  obtain ⟨j0, j1, j2, j3, j4⟩ := blk5 H5.out.box
  go_wp2_with fail
  refine (CH.out _ _ _ _ _ _ _ _ _ _ _ H5.out.bkf).mono ?_
  rintro e v6 ⟨rfl, hb⟩
  have D6 := hide (D5.out.trans (hb.mono D5.out.size))
  clear hb H5 D5 j0 j1 j2 j3 j4
  go_wp2
  go_ret
  exact ⟨rfl, BA.out.trans (D6.out.mono BA.out.size)⟩
end Go.Proofs.Ytfjbiihiaoobhai.fnExactNewBank
