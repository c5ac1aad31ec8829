/-
  The walk of the law FnExactNewSketch: it returns true at every number of rows; memory that was there stays as it was.
-/
import Derived.Test.YtfmfnlpajoikmamL15New
import Derived.Test.YtfmfnlpajoikmamL15Help
import Derived.Deep.DeepCutAuto
namespace Go.Proofs.Ytfmfnlpajoikmam.fnExactNewSketch
open Go.RowKit L1 L4 Own Sli L15
set_option linter.unusedVariables false

open Classical in
set_option maxRecDepth 100000 in
set_option maxHeartbeats 4000000 in
theorem walk (a0 : Int) (w : World) (w0 : (Lit.int .i64 a0).wf = true) :
    Calls Try.prog 7 #[.int .i64 a0] w fun e w' => e = .returned (.bool true) ∧ Below w.heap.size w w' := by
  clear w0
  obtain ⟨ok, hok⟩ : ∃ ok : Bool, ok = true ↔ 1 ≤ a0 ∧ a0 ≤ 3 := ⟨decide (1 ≤ a0 ∧ a0 ≤ 3), by simp⟩
  obtain ⟨L, hL⟩ : ∃ L : List (List Int), L = newS a0 ok := ⟨_, rfl⟩
  obtain ⟨o, ho⟩ : ∃ o : Int, o = 0 := ⟨_, rfl⟩
  have C1 := hide (fun w => specNewSketch_any a0 w ok hok L hL)
  have C2 := hide (fun w => implNewSketch_any a0 w ok hok L hL)
  rw [← ho] at C1 C2
  have hz : SmS L := by rw [hL]; exact newS_sms a0 ok hok
  have hoo : (ok != ok) = false := by simp
  have CE := hide (fun a b c1 c2 wx ha hb => eqSketch_same a b L L.length c1 c2 o wx rfl ha hb hz.n hz.s)
  have CM := hide (fun base hi v M wx hML hin how => markSketch_any base hi v L.length M L o wx 1 (by omega) (by omega) hML hz hin how)
  have CH := hide (fun a c wx hs => heldSketch_any a L.length c 1 L o wx rfl (by omega) (by omega) hz hs)
  obtain ⟨kk, hk⟩ : ∃ kk, kk = 1 + (pre L L.length : Int) := ⟨_, rfl⟩
  have hk0 : ¬ kk < 0 := by omega
  have hkk : (kk != kk) = false := by simp
  rw [← hk] at CM CH
  obtain ⟨nL, hnL⟩ : ∃ n, n = L.length := ⟨_, rfl⟩
  have HNL := hide hnL
  rw [← hnL] at CE CM CH
  clear hok ho hk hz hL hnL
  go_enter Try.func7, Try.ntmps7
  go_wp2_with fail
  refine (C1.out _).mono ?_
  rintro e uS ⟨v, rfl, hr⟩
  obtain ⟨⟨aS, cS, MS, hv, hG⟩, hb⟩ := hg_made o hr
  rw [← HNL.out] at hv hG
  subst hv
  obtain ⟨wA, hwA⟩ : ∃ x, x = uS.alloc (skO (.slice aS nL cS) o) := ⟨_, rfl⟩
  obtain ⟨bS, hb1⟩ : ∃ x, x = uS.heap.size := ⟨_, rfl⟩
  have hA := hb.alloc hb.size (skO (.slice aS nL cS) o)
  rw [← hwA] at hG hA
  rw [← hb1] at hG
  have HWS := hide hwA
  have HBS := hide hb1
  have GS := hide hG
  have AS := hide hA
  clear hwA hb1 hG hA hb hr
  go_upto_region 2 with fail
  rw [← HWS.out, ← HBS.out]
  go_wp2_with fail
  refine (C2.out _).mono ?_
  rintro e uG ⟨v, rfl, hr⟩
  obtain ⟨⟨aG, cG, MG, hv, hG⟩, hb⟩ := hg_made o hr
  rw [← HNL.out] at hv hG
  subst hv
  obtain ⟨wB, hwA⟩ : ∃ x, x = uG.alloc (skO (.slice aG nL cG) o) := ⟨_, rfl⟩
  obtain ⟨bG, hb1⟩ : ∃ x, x = uG.heap.size := ⟨_, rfl⟩
  have hA := hb.alloc hb.size (skO (.slice aG nL cG) o)
  rw [← hwA] at hG hA
  rw [← hb1] at hG
  have HWG := hide hwA
  have HBG := hide hb1
  have GG := hide hG
  have AG := hide hA
  clear hwA hb1 hG hA hb hr
  go_upto_region 3 with fail
  rw [← HWG.out, ← HBG.out]
  have S1 := hide (GS.out.below AG.out)
  have B1 := hide (AS.out.trans (AG.out.mono AS.out.size))
  have LS : Hid (bS < wA.heap.size) := hide GS.out.lt
  clear AG
  obtain ⟨p0, p1, _, _⟩ := blkp S1.out.box
  obtain ⟨j0, j1, _, _⟩ := blkp GG.out.box
  go_wp2_with fail
  refine (CE.out _ _ _ _ _ GG.out.sl S1.out.sl).mono ?_
  rintro e u1 ⟨rfl, hb⟩
  have G1 := hide (GG.out.below hb)
  have S2 := hide (S1.out.below hb)
  have B2 := hide (B1.out.trans (hb.mono B1.out.size))
  clear hb p0 p1 j0 j1 S1 B1
  obtain ⟨j0, j1, _, _⟩ := blkp G1.out.box
  go_wp2_with fail
  refine (CM.out wA.heap.size bG _ _ _ G1.out.eq G1.out.inr G1.out.ow).mono ?_
  rintro e u2 ⟨rfl, ⟨M', hM', how', hsame⟩, hon⟩
  have H1 := hide (G1.out.marked hon how' hsame hM')
  have S3 := hide (S2.out.only hon (.inl LS.out))
  have B3 := hide (B2.out.trans ((hon.below (by have := G1.out.bs; have := G1.out.lt; omega)).mono (by have := AS.out.size; omega)))
  clear hon how' hsame hM' G1 S2 B2 j0 j1
  obtain ⟨j0, j1, _, _⟩ := blkp H1.out.box
  go_wp2_with fail
  refine (CH.out _ _ _ H1.out.sl).mono ?_
  rintro e u3 ⟨rfl, hb⟩
  have H2 := hide (H1.out.below hb)
  have S4 := hide (S3.out.below hb)
  have B4 := hide (B3.out.trans (hb.mono B3.out.size))
  clear hb j0 j1 H1 S3 B3
  go_wp2_with fail
  refine (C2.out _).mono ?_
  rintro e uV ⟨v, rfl, hr⟩
  obtain ⟨⟨aV, cV, MV, hv, hG⟩, hb⟩ := hg_made o hr
  rw [← HNL.out] at hv hG
  subst hv
  obtain ⟨wC, hwA⟩ : ∃ x, x = uV.alloc (skO (.slice aV nL cV) o) := ⟨_, rfl⟩
  obtain ⟨bV, hb1⟩ : ∃ x, x = uV.heap.size := ⟨_, rfl⟩
  have hA := hb.alloc hb.size (skO (.slice aV nL cV) o)
  rw [← hwA] at hG hA
  rw [← hb1] at hG
  have HWV := hide hwA
  have HBV := hide hb1
  have GV := hide hG
  have AV := hide hA
  clear hwA hb1 hG hA hb hr
  go_upto_region 14 with fail
  rw [← HWV.out, ← HBV.out]
  have H3 := hide (H2.out.below AV.out)
  have S5 := hide (S4.out.below AV.out)
  have B5 := hide (B4.out.trans (AV.out.mono B4.out.size))
  clear AV H2 S4 B4
  obtain ⟨p0, p1, _, _⟩ := blkp S5.out.box
  obtain ⟨j0, j1, _, _⟩ := blkp GV.out.box
  go_wp2_with fail
  refine (CE.out _ _ _ _ _ GV.out.sl S5.out.sl).mono ?_
  rintro e u4 ⟨rfl, hb⟩
  have H4 := hide (H3.out.below hb)
  have B6 := hide (B5.out.trans (hb.mono B5.out.size))
  clear hb p0 p1 j0 j1 S5 B5 H3
  obtain ⟨j0, j1, _, _⟩ := blkp H4.out.box
  go_wp2_with fail
  refine (CH.out _ _ _ H4.out.sl).mono ?_
  rintro e u5 ⟨rfl, hb⟩
  have B7 := hide (B6.out.trans (hb.mono B6.out.size))
  clear hb
  go_wp2
  go_ret
  exact ⟨rfl, B7.out⟩
end Go.Proofs.Ytfmfnlpajoikmam.fnExactNewSketch
