/-
  The walk of the law FnTorn: it returns true at every two lists of bytes, where the table of worths lies in memory; memory that was there stays as it was.
-/
import Derived.Test.YtbcljhafdpnjbabDoorBundle4
import Derived.Test.YtbcljhafdpnjbabDoorBundle5
import Derived.Test.YtbcljhafdpnjbabDoorBundle10
import Derived.Test.YtbcljhafdpnjbabDoorBundle11
import Derived.Test.YtbcljhafdpnjbabDoorBundle8
import Derived.Deep.DeepCutAuto
import Derived.Deep.RegionHeld3
import Derived.Deep.QuietTactic
import Derived.BigQuiet
namespace Go.Proofs.YtbcljhafdpnjbabDoor.fnTorn
open Go.RowKit L1 L6
set_option linter.unusedVariables false

theorem keep2T {wa wb W : World} {N : Nat} {p0 p1 : Addr} {v0 v1 : Value} (h : (wa.cell? p0 = some v0 ∧ wa.cell? p1 = some v1) ∧ Below N W wa) (hb : Below wa.heap.size wa wb) (hN : N ≤ W.heap.size) : (wb.cell? p0 = some v0 ∧ wb.cell? p1 = some v1) ∧ Below N W wb := by
  obtain ⟨⟨h0, h1⟩, hz⟩ := h
  exact ⟨⟨(hb.cell (blk_lt8 h0)).trans h0, (hb.cell (blk_lt8 h1)).trans h1⟩, hz.trans (hb.mono (Nat.le_trans hN hz.size))⟩

set_option maxRecDepth 100000 in
set_option maxHeartbeats 4000000 in
theorem walk (a0 : Option Addr) (len0 cap0 : Nat) (z0 : List Int) (a1 : Option Addr) (len1 cap1 : Nat) (z1 : List Int) (w : World) (w0 : IsRow .u8 w a0 len0 cap0 z0) (hr0 : len0 ≤ 140737488351232) (w1 : IsRow .u8 w a1 len1 cap1 z1) (hr1 : len1 ≤ 140737488351232) (ht : Tab w) :
    Calls Tryd.prog 4 #[.slice a0 len0 cap0, .slice a1 len1 cap1] w fun e w' => e = .returned (.bool true) ∧ Below w.heap.size w w' := by
  have S0 := hide (slb_of_row w0)
  have S1 := hide (slb_of_row w1)
  have HT := hide ht
  clear w0 w1 ht
  by_cases hsz : 1048576 < (len0 : Int) + (len1 : Int)
  · go_enter Tryd.func4, Tryd.ntmps4
    go_wp2
    go_ret
    exact ⟨rfl, Below.refl _ _⟩
  have hl0 : len0 ≤ 1048576 := by omega
  have hl1 : len1 ≤ 1048576 := by omega
  go_enter Tryd.func4, Tryd.ntmps4
  go_wp2_with fail
  refine (drawTearEnd_any a0 len0 cap0 _ S0.out hl0).mono ?_
  rintro e w1 ⟨ga, m, gcp, B, kk, L, M, rfl, hM, hL, ho, hd, hkk, hb⟩
  have hbb := hb
  have Z_1 := hide hbb.size
  have B_1 := hide hbb
  clear hb hbb 
  have hsl := ho.sl
  rw [hM] at hsl
  have SG_1 := hide hsl
  obtain ⟨hk0, hk1⟩ := hkk
  have hm20 : m ≤ 20 := by have := hd.many; omega
  have hszc : SzC L := fun j hj => by have := hd.ps j hj; omega
  obtain ⟨L1, B1, left, ok, hr⟩ := tear_is L B kk
  have c1 := fun w hs ht => implTear_any ga L m gcp B kk w hL (by omega) hs hszc.tx ht L1 B1 left ok hr
  have c2 := fun w hs => specTear_any ga L m gcp B kk w hL (by omega) hs hszc L1 B1 left ok hr
  have hfew := tear_few hr
  have hlaw : Hid (ok = true → TornLaw L B kk L1 B1 left) := hide (fun e => by subst e; exact tornLaw hr)
  obtain ⟨N, hNN⟩ : ∃ N, N = L1.length := ⟨_, rfl⟩
  unfold RetG at c1 c2
  simp only [← hNN] at c1 c2
  rw [← hNN] at hfew
  have hN20 : N ≤ 20 := hfew.1
  have HL := hide hL
  have HL1 := hide hNN.symm
  have HXX := hide hfew.2
  have HSZ := hide hszc
  have C1 := hide c1
  have C2 := hide c2
  clear hM ho hd hsl hL hr c1 c2 hNN hfew hszc
  go_wp2_with fail
  refine (C1.out _ (SG_1.out.below ((Below.refl _ _).alloc (Nat.le_refl _) _)) (HT.out.below (B_1.out.alloc B_1.out.size _))).mono ?_
  rintro e w2 ⟨aX, cX, rfl, MX, hM, ho, hb⟩
  have kq := blkp ((hb.block w1.heap.size (by simp)).trans (blk_new _ _))
  obtain ⟨kG0_2, kG1_2, _, _⟩ := kq
  have Z_2 : Hid (w1.heap.size + 1 ≤ w2.heap.size) := by have h1 := hb.size; show _ ≤ _; simp at h1; omega
  have hbb := ((Below.refl w1.heap.size w1).alloc (Nat.le_refl _) (.cells #[.slice ga m gcp, .int .i64 B] 25 (0, 0))).trans (hb.mono (by simp))
  have SG_2 := hide (SG_1.out.below hbb)
  have B_2 := hide (B_1.out.trans (hbb.mono B_1.out.size))
  clear hb hbb SG_1
  have SX_2 := ho.sl
  rw [hM] at SX_2
  have SX__2 := hide SX_2
  clear ho hM SX_2
  have alG0 : ∀ ob, (w2.alloc ob).cell? ⟨w1.heap.size, 0, none⟩ = some (.slice ga m gcp) := fun ob => Go.Lib.cell?_alloc_some ob kG0_2
  have alG1 : ∀ ob, (w2.alloc ob).cell? ⟨w1.heap.size, 1, none⟩ = some (.int .i64 B) := fun ob => Go.Lib.cell?_alloc_some ob kG1_2
  go_wp2_with fail
  refine (C2.out _ (SG_2.out.below ((Below.refl _ _).alloc (Nat.le_refl _) _))).mono ?_
  rintro e w3 ⟨aU, cU, rfl, MU, hM, ho, hb⟩
  have kq := blkp ((hb.block w2.heap.size (by simp)).trans (blk_new _ _))
  obtain ⟨kX0_3, kX1_3, _, _⟩ := kq
  have Z_3 : Hid (w2.heap.size + 1 ≤ w3.heap.size) := by have h1 := hb.size; show _ ≤ _; simp at h1; omega
  have hbb := ((Below.refl w2.heap.size w2).alloc (Nat.le_refl _) (.cells #[.slice aX N cX, .int .i64 B1] 25 (0, 0))).trans (hb.mono (by simp))
  have kG0_3 := (hbb.cell (p := ⟨w1.heap.size, 0, none⟩) (blk_lt kG0_2)).trans kG0_2
  have kG1_3 := (hbb.cell (p := ⟨w1.heap.size, 1, none⟩) (blk_lt kG1_2)).trans kG1_2
  have SG_3 := hide (SG_2.out.below hbb)
  have SX_3 := hide (SX__2.out.below hbb)
  have B_3 := hide (B_2.out.trans (hbb.mono B_2.out.size))
  clear hb hbb alG0 alG1 kG0_2 kG1_2 SG_2 SX__2
  have SU_3 := ho.sl
  rw [hM] at SU_3
  have SU__3 := hide SU_3
  clear ho hM SU_3
  have alG0 : ∀ ob, (w3.alloc ob).cell? ⟨w1.heap.size, 0, none⟩ = some (.slice ga m gcp) := fun ob => Go.Lib.cell?_alloc_some ob kG0_3
  have alG1 : ∀ ob, (w3.alloc ob).cell? ⟨w1.heap.size, 1, none⟩ = some (.int .i64 B) := fun ob => Go.Lib.cell?_alloc_some ob kG1_3
  have alX0 : ∀ ob, (w3.alloc ob).cell? ⟨w2.heap.size, 0, none⟩ = some (.slice aX N cX) := fun ob => Go.Lib.cell?_alloc_some ob kX0_3
  have alX1 : ∀ ob, (w3.alloc ob).cell? ⟨w2.heap.size, 1, none⟩ = some (.int .i64 B1) := fun ob => Go.Lib.cell?_alloc_some ob kX1_3
  clear C1 C2
  go_wp2_with fail
  refine (samePieces_same _ _ L1 N _ _ B1 _ HL1.out (SX_3.out.below ((Below.refl _ _).alloc (Nat.le_refl _) _)) (SU__3.out.below ((Below.refl _ _).alloc (Nat.le_refl _) _)) (by omega) (fun i hi => Nat.le_trans (HXX.out i hi) (by omega))).mono ?_
  rintro e w4 ⟨rfl, hb⟩
  have kq := blkp ((hb.block w3.heap.size (by simp)).trans (blk_new _ _))
  obtain ⟨kU0_4, kU1_4, _, _⟩ := kq
  have Z_4 : Hid (w3.heap.size + 1 ≤ w4.heap.size) := by have h1 := hb.size; show _ ≤ _; simp at h1; omega
  have hbb := ((Below.refl w3.heap.size w3).alloc (Nat.le_refl _) (.cells #[.slice aU N cU, .int .i64 B1] 25 (0, 0))).trans (hb.mono (by simp))
  have kG0_4 := (hbb.cell (p := ⟨w1.heap.size, 0, none⟩) (blk_lt kG0_3)).trans kG0_3
  have kG1_4 := (hbb.cell (p := ⟨w1.heap.size, 1, none⟩) (blk_lt kG1_3)).trans kG1_3
  have kX0_4 := (hbb.cell (p := ⟨w2.heap.size, 0, none⟩) (blk_lt kX0_3)).trans kX0_3
  have kX1_4 := (hbb.cell (p := ⟨w2.heap.size, 1, none⟩) (blk_lt kX1_3)).trans kX1_3
  have SG_4 := hide (SG_3.out.below hbb)
  have SX_4 := hide (SX_3.out.below hbb)
  have SU_4 := hide (SU__3.out.below hbb)
  have B_4 := hide (B_3.out.trans (hbb.mono B_3.out.size))
  clear hb hbb alG0 alG1 alX0 alX1 kG0_3 kG1_3 kX0_3 kX1_3 SG_3 SX_3 SU__3
  clear SU_4
  go_upto_if 68 with fail
  go_cut [] (fun wx => Below w.heap.size w wx)
  case first =>
    cases ok with
    | false =>
      go_wp2_with fail
      go_meet
      exact B_4.out
    | true =>
      have hlw := hlaw.out (by first | rfl | trivial)
      obtain ⟨A, hA⟩ : ∃ A, A = allG L1 B1 := ⟨_, rfl⟩
      obtain ⟨D, hD⟩ : ∃ D, D = allG L B := ⟨_, rfl⟩
      have hle := hlw.le
      have hfr := hlw.front
      have hno := hlw.none
      rw [← hA, ← hD] at hle hfr hno
      obtain ⟨nA, hnA⟩ : ∃ nA, nA = A.length := ⟨_, rfl⟩
      obtain ⟨nD, hnD⟩ : ∃ nD, nD = D.length := ⟨_, rfl⟩
      have hlD := allRes_len L B
      rw [show allRes L B = some (allG L B) from by unfold allRes; rw [if_pos hlw.g], ← hD] at hlD
      simp only [Option.getD_some] at hlD
      rw [← hnA, ← hnD] at hle hno
      rw [← hnA] at hfr
      rw [← hnD] at hlD
      have tx1 : TxC L1 := fun j hj => ⟨Nat.le_trans (hlw.g'.ps j hj).1.1 (by omega), Nat.le_trans (HXX.out j (by have := HL1.out; omega)) (by omega)⟩
      have CA := hide (fun w hs ht => (implAllOf_any aX L1 N cX B1 w HL1.out (by omega) hs tx1 ht (some A) (by unfold allRes; rw [if_pos hlw.g', hA])).mono (allOf_form hnA.symm))
      have CD := hide (fun w hs ht => (implAllOf_any ga L m gcp B w HL.out (by omega) hs HSZ.out.tx ht (some D) (by unfold allRes; rw [if_pos hlw.g, hD])).mono (allOf_form hnD.symm))
      have CG := hide (fun w hs ht => goodLog_any aX L1 N cX B1 w HL1.out (by omega) hs tx1 ht true (by simp [hlw.g']))
      have HA := hide hnA.symm
      have HD := hide hnD.symm
      have HFR := hide hfr
      have HNO := hide hno
      have hgt : ¬ (nD : Int) < (nA : Int) := by omega
      clear hlaw hlw hA hD hfr hno hnA hnD tx1
      go_wp2_with fail
      refine (CA.out _ SX_4.out (HT.out.below B_4.out)).mono ?_
      rintro e w5 ⟨aA, cA, rfl, hsA, hcapA, hnilA, hb⟩
      have hbb := hb
      have Z_5 := hide hbb.size
      have kG0_5 := (hbb.cell (p := ⟨w1.heap.size, 0, none⟩) (blk_lt kG0_4)).trans kG0_4
      have kG1_5 := (hbb.cell (p := ⟨w1.heap.size, 1, none⟩) (blk_lt kG1_4)).trans kG1_4
      have kX0_5 := (hbb.cell (p := ⟨w2.heap.size, 0, none⟩) (blk_lt kX0_4)).trans kX0_4
      have kX1_5 := (hbb.cell (p := ⟨w2.heap.size, 1, none⟩) (blk_lt kX1_4)).trans kX1_4
      have kU0_5 := (hbb.cell (p := ⟨w3.heap.size, 0, none⟩) (blk_lt kU0_4)).trans kU0_4
      have kU1_5 := (hbb.cell (p := ⟨w3.heap.size, 1, none⟩) (blk_lt kU1_4)).trans kU1_4
      have SG_5 := hide (SG_4.out.below hbb)
      have SX_5 := hide (SX_4.out.below hbb)
      have B_5 := hide (B_4.out.trans (hbb.mono B_4.out.size))
      clear hb hbb kG0_4 kG1_4 kX0_4 kX1_4 kU0_4 kU1_4 SG_4 SX_4
      have SA_5 := hide hsA
      clear hsA
      clear hcapA hnilA
      go_wp2_with fail
      refine (CD.out _ SG_5.out (HT.out.below B_5.out)).mono ?_
      rintro e w6 ⟨aD, cD, rfl, hsD, hcapD, hnilD, hb⟩
      have hbb := hb
      have Z_6 := hide hbb.size
      have kG0_6 := (hbb.cell (p := ⟨w1.heap.size, 0, none⟩) (blk_lt kG0_5)).trans kG0_5
      have kG1_6 := (hbb.cell (p := ⟨w1.heap.size, 1, none⟩) (blk_lt kG1_5)).trans kG1_5
      have kX0_6 := (hbb.cell (p := ⟨w2.heap.size, 0, none⟩) (blk_lt kX0_5)).trans kX0_5
      have kX1_6 := (hbb.cell (p := ⟨w2.heap.size, 1, none⟩) (blk_lt kX1_5)).trans kX1_5
      have kU0_6 := (hbb.cell (p := ⟨w3.heap.size, 0, none⟩) (blk_lt kU0_5)).trans kU0_5
      have kU1_6 := (hbb.cell (p := ⟨w3.heap.size, 1, none⟩) (blk_lt kU1_5)).trans kU1_5
      have SG_6 := hide (SG_5.out.below hbb)
      have SX_6 := hide (SX_5.out.below hbb)
      have SA_6 := hide (SA_5.out.below hbb)
      have B_6 := hide (B_5.out.trans (hbb.mono B_5.out.size))
      clear hb hbb kG0_5 kG1_5 kX0_5 kX1_5 kU0_5 kU1_5 SG_5 SX_5 SA_5
      have SD_6 := hide hsD
      clear hsD
      obtain ⟨cE, hcut⟩ := slice_toT aD nD cD nA hle hcapD hnilD
      clear CA CD hcapD hnilD
      go_wp2_with fail
      refine (CG.out _ SX_6.out (HT.out.below B_6.out)).mono ?_
      rintro e w7 ⟨rfl, hb⟩
      have hbb := hb
      have Z_7 := hide hbb.size
      have kG0_7 := (hbb.cell (p := ⟨w1.heap.size, 0, none⟩) (blk_lt kG0_6)).trans kG0_6
      have kG1_7 := (hbb.cell (p := ⟨w1.heap.size, 1, none⟩) (blk_lt kG1_6)).trans kG1_6
      have kX0_7 := (hbb.cell (p := ⟨w2.heap.size, 0, none⟩) (blk_lt kX0_6)).trans kX0_6
      have kX1_7 := (hbb.cell (p := ⟨w2.heap.size, 1, none⟩) (blk_lt kX1_6)).trans kX1_6
      have kU0_7 := (hbb.cell (p := ⟨w3.heap.size, 0, none⟩) (blk_lt kU0_6)).trans kU0_6
      have kU1_7 := (hbb.cell (p := ⟨w3.heap.size, 1, none⟩) (blk_lt kU1_6)).trans kU1_6
      have SG_7 := hide (SG_6.out.below hbb)
      have SX_7 := hide (SX_6.out.below hbb)
      have SA_7 := hide (SA_6.out.below hbb)
      have SD_7 := hide (SD_6.out.below hbb)
      have B_7 := hide (B_6.out.trans (hbb.mono B_6.out.size))
      clear hb hbb kG0_6 kG1_6 kX0_6 kX1_6 kU0_6 kU1_6 SG_6 SX_6 SA_6 SD_6
      go_wp2_with fail
      refine (sameTexts_same _ _ A nA _ _ _ HA.out SA_7.out (slT_take SD_7.out HFR.out) (by omega)).mono ?_
      rintro e w8 ⟨rfl, hb⟩
      have hbb := hb
      have Z_8 := hide hbb.size
      have kG0_8 := (hbb.cell (p := ⟨w1.heap.size, 0, none⟩) (blk_lt kG0_7)).trans kG0_7
      have kG1_8 := (hbb.cell (p := ⟨w1.heap.size, 1, none⟩) (blk_lt kG1_7)).trans kG1_7
      have kX0_8 := (hbb.cell (p := ⟨w2.heap.size, 0, none⟩) (blk_lt kX0_7)).trans kX0_7
      have kX1_8 := (hbb.cell (p := ⟨w2.heap.size, 1, none⟩) (blk_lt kX1_7)).trans kX1_7
      have kU0_8 := (hbb.cell (p := ⟨w3.heap.size, 0, none⟩) (blk_lt kU0_7)).trans kU0_7
      have kU1_8 := (hbb.cell (p := ⟨w3.heap.size, 1, none⟩) (blk_lt kU1_7)).trans kU1_7
      have SG_8 := hide (SG_7.out.below hbb)
      have SX_8 := hide (SX_7.out.below hbb)
      have SA_8 := hide (SA_7.out.below hbb)
      have SD_8 := hide (SD_7.out.below hbb)
      have B_8 := hide (B_7.out.trans (hbb.mono B_7.out.size))
      clear hb hbb kG0_7 kG1_7 kX0_7 kX1_7 kU0_7 kU1_7 SG_7 SX_7 SA_7 SD_7
      by_cases hk : kk = 0
      · obtain ⟨hl0', hnn⟩ := HNO.out hk
        subst hk hl0' hnn
        go_wp2_with fail
        go_meet
        exact B_8.out
      · have hk' : (kk == 0) = false := by simpa using hk
        clear hk
        go_wp2_with fail
        go_meet
        exact B_8.out
  case rest =>
  have B_50 := hide hcut
  clear hcut 
  go_wp2_with fail
  refine (drawRecoverPiece_any a1 len1 cap1 _ (Slb.below S1.out B_50.out) hl1).mono ?_
  rintro e w51 ⟨f, s, rfl, hf, hs64, hb⟩
  have hbb := hb
  have Z_51 := hide hbb.size
  have B_51 := hide (B_50.out.trans (hbb.mono B_50.out.size))
  clear hb hbb 
  obtain ⟨p, left2, ok2, hr2, hpx⟩ := rec_is f s
  obtain ⟨pf, ps, px⟩ := p
  simp only at hpx
  obtain ⟨mx, hmx⟩ : ∃ mx, mx = px.length := ⟨_, rfl⟩
  have d1 := fun w ht => implRecover_any f s w (by omega) ht ⟨pf, ps, px⟩ left2 ok2 hr2
  have d2 := fun w => specRecover_any f s w (by omega) ⟨pf, ps, px⟩ left2 ok2 hr2
  unfold RetP at d1 d2
  simp only [← hmx] at d1 d2
  rw [← hmx] at hpx
  have hlaw2 : Hid (ok2 = true → RecLaw f s ⟨pf, ps, px⟩ left2) := hide (fun e => by subst e; exact recLaw hr2)
  have D1 := hide d1
  have D2 := hide d2
  have HMX := hide hmx.symm
  clear d1 d2 hr2 hmx hf
  go_wp2_with fail
  refine (D1.out _ (HT.out.below B_51.out)).mono ?_
  rintro e w52 ⟨aP, cP, rfl, ho, hb⟩
  have hbb := hb
  have Z_52 := hide hbb.size
  have B_52 := hide (B_51.out.trans (hbb.mono B_51.out.size))
  clear hb hbb 
  have SP_52 := hide (own_slI6 ho)
  clear ho
  go_wp2_with fail
  refine (D2.out _).mono ?_
  rintro e w53 ⟨aQ, cQ, rfl, ho, hb⟩
  have kq := blk3 ((hb.block w52.heap.size (by simp)).trans (blk_new _ _))
  obtain ⟨kP0_53, kP1_53, kP2_53, _, _, _⟩ := kq
  have Z_53 : Hid (w52.heap.size + 1 ≤ w53.heap.size) := by have h1 := hb.size; show _ ≤ _; simp at h1; omega
  have hbb := ((Below.refl w52.heap.size w52).alloc (Nat.le_refl _) (.cells #[.int .i64 pf, .string ps, .slice aP mx cP] 50 (0, 0))).trans (hb.mono (by simp))
  have SP_53 := hide (SP_52.out.below hbb)
  have B_53 := hide (B_52.out.trans (hbb.mono B_52.out.size))
  clear hb hbb SP_52
  have SQ_53 := hide (own_slI6 ho)
  clear ho
  have alP0 : ∀ ob, (w53.alloc ob).cell? ⟨w52.heap.size, 0, none⟩ = some (.int .i64 pf) := fun ob => Go.Lib.cell?_alloc_some ob kP0_53
  have alP1 : ∀ ob, (w53.alloc ob).cell? ⟨w52.heap.size, 1, none⟩ = some (.string ps) := fun ob => Go.Lib.cell?_alloc_some ob kP1_53
  have alP2 : ∀ ob, (w53.alloc ob).cell? ⟨w52.heap.size, 2, none⟩ = some (.slice aP mx cP) := fun ob => Go.Lib.cell?_alloc_some ob kP2_53
  go_wp2_with fail
  refine (L4.sameInts_any _ _ px mx _ _ _ HMX.out (SP_53.out.below ((Below.refl _ _).alloc (Nat.le_refl _) _)) (SQ_53.out.below ((Below.refl _ _).alloc (Nat.le_refl _) _)) (by omega)).mono ?_
  rintro e w54 ⟨rfl, hb⟩
  have kq := blk3 ((hb.block w53.heap.size (by simp)).trans (blk_new _ _))
  obtain ⟨kQ0_54, kQ1_54, kQ2_54, _, _, _⟩ := kq
  have Z_54 : Hid (w53.heap.size + 1 ≤ w54.heap.size) := by have h1 := hb.size; show _ ≤ _; simp at h1; omega
  have hbb := ((Below.refl w53.heap.size w53).alloc (Nat.le_refl _) (.cells #[.int .i64 pf, .string ps, .slice aQ mx cQ] 50 (0, 0))).trans (hb.mono (by simp))
  have kP0_54 := (hbb.cell (p := ⟨w52.heap.size, 0, none⟩) (blk_lt kP0_53)).trans kP0_53
  have kP1_54 := (hbb.cell (p := ⟨w52.heap.size, 1, none⟩) (blk_lt kP1_53)).trans kP1_53
  have kP2_54 := (hbb.cell (p := ⟨w52.heap.size, 2, none⟩) (blk_lt kP2_53)).trans kP2_53
  have SP_54 := hide (SP_53.out.below hbb)
  have SQ_54 := hide (SQ_53.out.below hbb)
  have B_54 := hide (B_53.out.trans (hbb.mono B_53.out.size))
  clear hb hbb alP0 alP1 alP2 kP0_53 kP1_53 kP2_53 SP_53 SQ_53
  clear SQ_54 SP_54
  clear D1 D2
  go_upto_if 170 with fail
  go_cut [] (fun wx => Below w.heap.size w wx)
  case first =>
    cases ok2 with
    | false =>
      go_wp2_with fail
      go_meet
      exact B_54.out
    | true =>
      have hlw := hlaw2.out (by first | rfl | trivial)
      have hag := hlw.again
      have hsum := hlw.size
      have hple := hlw.le
      have hfr := hlw.front
      have hpz := hlw.few
      simp only at hag hsum hple hfr hpz
      have e1 := fun w ht => implRecover_any f ps w (by omega) ht ⟨pf, ps, px⟩ 0 true hag
      unfold RetP at e1
      simp only [HMX.out] at e1
      have E1 := hide e1
      have hsw : IntKind.i64.wrap ((ps.size : Int) + left2) = (s.size : Int) := by rw [hsum]; exact wrap6 (by omega) (by omega)
      have qs : ∀ w : World, (Instr.slice 9 (.string s) none (some (.int .i64 (ps.size : Int))) none).run Tryd.prog w = .ok (.string ps) w := fun w => by rw [slice_to w s ps.size hple, hfr]
      clear hlaw2 hlw hag hsum hfr e1
      go_wp2_with fail
      refine (E1.out _ (HT.out.below B_54.out)).mono ?_
      rintro e w55 ⟨aR, cR, rfl, ho, hb⟩
      have hbb := hb
      have Z_55 := hide hbb.size
      have kP0_55 := (hbb.cell (p := ⟨w52.heap.size, 0, none⟩) (blk_lt kP0_54)).trans kP0_54
      have kP1_55 := (hbb.cell (p := ⟨w52.heap.size, 1, none⟩) (blk_lt kP1_54)).trans kP1_54
      have kP2_55 := (hbb.cell (p := ⟨w52.heap.size, 2, none⟩) (blk_lt kP2_54)).trans kP2_54
      have kQ0_55 := (hbb.cell (p := ⟨w53.heap.size, 0, none⟩) (blk_lt kQ0_54)).trans kQ0_54
      have kQ1_55 := (hbb.cell (p := ⟨w53.heap.size, 1, none⟩) (blk_lt kQ1_54)).trans kQ1_54
      have kQ2_55 := (hbb.cell (p := ⟨w53.heap.size, 2, none⟩) (blk_lt kQ2_54)).trans kQ2_54
      have B_55 := hide (B_54.out.trans (hbb.mono B_54.out.size))
      clear hb hbb kP0_54 kP1_54 kP2_54 kQ0_54 kQ1_54 kQ2_54
      clear ho E1
      have alP0 : ∀ ob, (w55.alloc ob).cell? ⟨w52.heap.size, 0, none⟩ = some (.int .i64 pf) := fun ob => Go.Lib.cell?_alloc_some ob kP0_55
      have alP1 : ∀ ob, (w55.alloc ob).cell? ⟨w52.heap.size, 1, none⟩ = some (.string ps) := fun ob => Go.Lib.cell?_alloc_some ob kP1_55
      have alP2 : ∀ ob, (w55.alloc ob).cell? ⟨w52.heap.size, 2, none⟩ = some (.slice aP mx cP) := fun ob => Go.Lib.cell?_alloc_some ob kP2_55
      have alQ0 : ∀ ob, (w55.alloc ob).cell? ⟨w53.heap.size, 0, none⟩ = some (.int .i64 pf) := fun ob => Go.Lib.cell?_alloc_some ob kQ0_55
      have alQ1 : ∀ ob, (w55.alloc ob).cell? ⟨w53.heap.size, 1, none⟩ = some (.string ps) := fun ob => Go.Lib.cell?_alloc_some ob kQ1_55
      have alQ2 : ∀ ob, (w55.alloc ob).cell? ⟨w53.heap.size, 2, none⟩ = some (.slice aQ mx cQ) := fun ob => Go.Lib.cell?_alloc_some ob kQ2_55
      have BR := hide (B_55.out.alloc B_55.out.size (.cells #[.int .i64 pf, .string ps, .slice aR mx cR] 50 (0, 0)))
      go_upto_region 20 with fail
      go_wp2
      go_quiet (fail)
      go_wp2_with fail
      go_meet
      exact below_drewY BR.out _
  case rest =>
  have B_70 := hide hcut
  go_wp2_with fail
  refine (implNewLog_any _).mono ?_
  rintro e w71 ⟨aN, cN, MN, rfl, hM, ho, hb⟩
  have hbb := hb
  have Z_71 := hide hbb.size
  have B_71 := hide (B_70.out.trans (hbb.mono B_70.out.size))
  clear hb hbb 
  have hsl := ho.sl
  rw [hM] at hsl
  have SN := hide hsl
  clear hsl ho hM
  obtain ⟨W9, hW9⟩ : ∃ W9, W9 = w71.alloc (.cells #[.slice aN 1 cN, .int .i64 0] 25 (0, 0)) := ⟨_, rfl⟩
  have B9 := hide (show Below w.heap.size w W9 by rw [hW9]; exact B_71.out.alloc B_71.out.size _)
  have S9 := hide (show SlC W9 aN [eC] by rw [hW9]; exact SN.out.below ((Below.refl _ _).alloc (Nat.le_refl _) _))
  have kq := blkp (show W9.heap[w71.heap.size]? = _ by rw [hW9]; exact blk_new _ _)
  obtain ⟨kN0, kN1, _, _⟩ := kq
  have HW9 := hide hW9.symm
  clear hW9 SN
  go_upto_region 23 with fail
  rw [HW9.out]
  clear HW9
  refine wp_region_held_drew (S := fun wx => (wx.cell? ⟨w71.heap.size, 0, none⟩ = some (.slice aN 1 cN) ∧ wx.cell? ⟨w71.heap.size, 1, none⟩ = some (.int .i64 0)) ∧ Below W9.heap.size W9 wx) (by kernel_rfl) ⟨⟨kN0, kN1⟩, (Below.refl _ _).drew⟩ (fun hHeld => ?_)
  refine wpAnyH_take (i := 0) (v := ?v1) rfl (by kernel_rfl) (by kernel_rfl) (by kernel_rfl) (fun _ _ _ h => h) (Or.inl ⟨by rfl, ?y1⟩) (by assumption) ?r1
  case y1 => (intro w hSw; (try dsimp only at hSw); go_simp; try (with_reducible rfl))
  simp only [List.getElem_toArray, List.getElem_cons_zero, Act.put, List.setIfInBounds_toArray, List.set_cons_zero, List.set_cons_succ]
  refine wpAnyH_ready (rs := [1]) (by kernel_rfl) (by simp) ?_
  refine AllReadyH.cons rfl (fun K hK => ?_) AllReadyH.nil
  simp only [List.getElem_toArray, List.getElem_cons_succ, List.getElem_cons_zero]
  go_simp
  go_at_call 14
  refine (goodLog_any aN [eC] 1 cN 0 _ rfl (by omega) (S9.out.below hHeld.2) tx_new (HT.out.below (B9.out.trans (hHeld.2.mono B9.out.size))) true (by simp [good_new])).mono ?_
  rintro e w72 ⟨rfl, hb⟩
  dsimp only
  refine hK.out _ _ ?_ (fun hHeld => ?_)
  · exact keep2T hHeld hb (Nat.le_refl _)
  clear hK K
  try simp only [Act.put, List.setIfInBounds_toArray, List.set_cons_zero, List.set_cons_succ]
  refine wpAnyH_take (i := 2) (v := ?v2) rfl (by kernel_rfl) (by kernel_rfl) (by kernel_rfl) (fun _ _ _ h => h) (Or.inl ⟨by rfl, ?y2⟩) (by assumption) ?r2
  case y2 => (intro w hSw; (try dsimp only at hSw); go_simp; try (with_reducible rfl))
  simp only [List.getElem_toArray, List.getElem_cons_succ, List.getElem_cons_zero, Act.put, List.setIfInBounds_toArray, List.set_cons_zero, List.set_cons_succ]
  refine wpAnyH_take (i := 3) (v := ?v3) rfl (by kernel_rfl) (by kernel_rfl) (by kernel_rfl) (fun _ _ _ h => h) (Or.inl ⟨by rfl, ?y3⟩) (by assumption) ?r3
  case y3 => (intro w hSw; (try dsimp only at hSw); go_simp; try (with_reducible rfl))
  simp only [List.getElem_toArray, List.getElem_cons_succ, List.getElem_cons_zero, Act.put, List.setIfInBounds_toArray, List.set_cons_zero, List.set_cons_succ]
  refine wpAnyH_ready (rs := [4]) (by kernel_rfl) (by simp) ?_
  refine AllReadyH.cons rfl (fun K hK => ?_) AllReadyH.nil
  simp only [List.getElem_toArray, List.getElem_cons_succ, List.getElem_cons_zero]
  go_simp
  go_at_call 30
  refine (specNewLog_any _).mono ?_
  rintro e w73 ⟨aO, cO, MO, rfl, hM, ho, hb⟩
  have hsl := ho.sl
  rw [hM] at hsl
  have SO := hide hsl
  clear hsl ho hM
  dsimp only
  refine hK.out _ _ ?_ (fun hHeld => ?_)
  · exact keep2T hHeld hb (Nat.le_refl _)
  clear hK K
  try simp only [Act.put, List.setIfInBounds_toArray, List.set_cons_zero, List.set_cons_succ]
  refine wpAnyH_ready (rs := [5]) (by kernel_rfl) (by simp) ?_
  refine AllReadyH.cons rfl (fun K hK => ?_) AllReadyH.nil
  simp only [List.getElem_toArray, List.getElem_cons_succ, List.getElem_cons_zero]
  go_simp
  go_at_call 12
  refine (samePieces_same _ _ [eC] 1 _ _ 0 _ rfl (S9.out.below hHeld.2) SO.out (by omega) x_new).mono ?_
  rintro e w74 ⟨rfl, hb⟩
  dsimp only
  refine hK.out _ _ ?_ (fun hHeld => ?_)
  · exact keep2T hHeld hb (Nat.le_refl _)
  clear hK K
  try simp only [Act.put, List.setIfInBounds_toArray, List.set_cons_zero, List.set_cons_succ]
  refine wpAnyH_take (i := 6) (v := ?v4) rfl (by kernel_rfl) (by kernel_rfl) (by kernel_rfl) (fun _ _ _ h => h) (Or.inl ⟨by rfl, ?y4⟩) (by assumption) ?r4
  case y4 => (intro w hSw; (try dsimp only at hSw); go_simp; try (with_reducible rfl))
  simp only [List.getElem_toArray, List.getElem_cons_succ, List.getElem_cons_zero, Act.put, List.setIfInBounds_toArray, List.set_cons_zero, List.set_cons_succ]
  refine wpAnyH_take (i := 7) (v := ?v5) rfl (by kernel_rfl) (by kernel_rfl) (by kernel_rfl) (fun _ _ _ h => h) (Or.inl ⟨by rfl, ?y5⟩) (by assumption) ?r5
  case y5 => (intro w hSw; (try dsimp only at hSw); go_simp; try (with_reducible rfl))
  simp only [List.getElem_toArray, List.getElem_cons_succ, List.getElem_cons_zero, Act.put, List.setIfInBounds_toArray, List.set_cons_zero, List.set_cons_succ]
  refine wpAnyH_done (by kernel_rfl) ?_ _
  have BE := hide (B9.out.trans (hHeld.2.mono B9.out.size))
  clear hHeld kN0 kN1
  go_wp2
  go_ret
  exact ⟨rfl, BE.out⟩
end Go.Proofs.YtbcljhafdpnjbabDoor.fnTorn
