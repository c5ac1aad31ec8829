/-
  The walk of the law FnLogs: it returns true at every two lists of bytes, where the table of worths lies in memory; memory that was there stays as it was.
-/
import Derived.Test.YtbcljhafdpnjbabDoorBundle10
import Derived.Test.YtbcljhafdpnjbabDoorBundle11
import Derived.Test.YtbcljhafdpnjbabDoorBundle9
import Derived.Test.YtbcljhafdpnjbabDoorBundle12
import Derived.Test.YtbcljhafdpnjbabDoorBundle6
import Derived.Test.YtbcljhafdpnjbabDoorBundle5
import Derived.Test.YtbcljhafdpnjbabDoorBundle7
import Derived.Deep.DeepCutAuto
import Derived.Deep.RegionHeld3
namespace Go.Proofs.YtbcljhafdpnjbabDoor.fnLogs
open Go.RowKit L1 L6
set_option linter.unusedVariables false

open Classical in
set_option maxRecDepth 100000 in
set_option maxHeartbeats 4000000 in
theorem walk (a0 : Option Addr) (len0 cap0 : Nat) (z0 : List Int) (a1 : Option Addr) (len1 cap1 : Nat) (z1 : List Int) (w : World) (w0 : IsRow .u8 w a0 len0 cap0 z0) (hr0 : len0 ≤ 140737488351232) (w1 : IsRow .u8 w a1 len1 cap1 z1) (hr1 : len1 ≤ 140737488351232) (ht : Tab w) :
    Calls Tryd.prog 3 #[.slice a0 len0 cap0, .slice a1 len1 cap1] w fun e w' => e = .returned (.bool true) ∧ Below w.heap.size w w' := by
  have S0 := hide (slb_of_row w0)
  have S1 := hide (slb_of_row w1)
  have HT := hide ht
  clear w0 w1 ht
  by_cases hsz : 1048576 < (len0 : Int) + (len1 : Int)
  · go_enter Tryd.func3, Tryd.ntmps3
    go_wp2
    go_ret
    exact ⟨rfl, Below.refl _ _⟩
  have hl0 : len0 ≤ 1048576 := by omega
  have hl1 : len1 ≤ 1048576 := by omega
  go_enter Tryd.func3, Tryd.ntmps3
  go_wp2_with fail
  refine (drawAppendLog_any a0 len0 cap0 _ S0.out hl0).mono ?_
  rintro e w1 ⟨ga, m, gcp, B, s, L, M, rfl, hM, hL, ho, hd, hs21, hb⟩
  have hbb := hb
  have Z_1 := hide hbb.size
  have B_1 := hide hbb
  clear hb hbb 
  have hsl := ho.sl
  rw [hM] at hsl
  have SG_1 := hide hsl
  have hm20 : m ≤ 20 := by have := hd.many; omega
  have hszc : SzC L := hd.sz
  have hdb := hd.b0
  have hdb1 := hd.b1
  obtain ⟨L1, B1, ok, hap⟩ := app_is L B s
  obtain ⟨en, oe, hen, hen0, ⟨hen1, hen2⟩, hoe, hoen⟩ := endRes_form L B
  have c1 := fun w hs ht => implAppend_any ga L m gcp B s w hL (by omega) hs hszc.tx ht L1 B1 ok hap
  have c2 := fun w hs => specAppend_any ga L m gcp B s w hL (by omega) hs hszc (by omega) L1 B1 ok hap
  have hfew := app_few hap
  obtain ⟨N, hNN⟩ : ∃ N, N = L1.length := ⟨_, rfl⟩
  unfold L6.RetL at c1 c2
  simp only [← hNN] at c1 c2
  rw [← hNN] at hfew
  have hN20 : N ≤ 20 := hfew.1
  obtain ⟨D, hD⟩ : ∃ D, D = (allRes L B).getD [] := ⟨_, rfl⟩
  have hlD := allRes_len L B
  rw [← hD] at hlD
  obtain ⟨nD, hnD⟩ : ∃ nD, nD = D.length := ⟨_, rfl⟩
  rw [← hnD] at hlD
  have C3 := hide (fun w hs ht => implEndOf_any ga L m gcp B w hL (by omega) hs hszc.tx ht en oe hen hen0)
  have C4 := hide (fun w hs => specEndOf_any ga L m gcp B w hL (by omega) hs hszc en oe hen hen0)
  have C5 := hide (fun w hs ht => (implAllOf_any ga L m gcp B w hL (by omega) hs hszc.tx ht _ rfl).mono (allOf_form2 hD hnD.symm (allRes_some hoe)))
  have C6 := hide (fun w hs => (specAllOf_any ga L m gcp B w hL (by omega) hs hszc _ rfl).mono (allOf_form2 hD hnD.symm (allRes_some hoe)))
  have C7 := hide (fun w hs ht => goodLog_any ga L m gcp B w hL (by omega) hs hszc.tx ht oe hoe)
  have HDN : Hid (oe = true → (nD : Int) = en - B) := hide (fun e => by
    have hg := hoe.1 e
    have h1 := all_len hg
    rw [hnD, hD, allRes_get hg, h1, hoen e])
  have HLAW : Hid (ok = true → AppLaw L B s L1 B1 ∧ oe = true ∧ en = endg L ∧ D = allG L B) := hide (fun e => by
    subst e
    have hl := appLaw hap
    have h1 := hoe.2 hl.g
    exact ⟨hl, h1, hoen h1, by rw [hD, allRes_get hl.g]⟩)
  have HL := hide hL
  have HL1 := hide hNN.symm
  have HXX := hide hfew.2
  have HSZ := hide hszc
  have HND := hide hnD.symm
  have C1 := hide c1
  have C2 := hide c2
  clear hM ho hd hsl hL hap c1 c2 hNN hfew hszc hD hnD hen hen0 hoe hoen
  go_wp2_with fail
  refine (C1.out _ (SG_1.out.below ((Below.refl _ _).alloc (Nat.le_refl _) _)) (HT.out.below (B_1.out.alloc B_1.out.size _))).mono ?_
  rintro e w2 ⟨aX, cX, rfl, MX, hM, ho, hb⟩
  have kq := blkp ((hb.block w1.heap.size (by simp)).trans (blk_new _ _))
  obtain ⟨kG0_2, kG1_2, _, _⟩ := kq
  have Z_2 : Hid (w1.heap.size + 1 ≤ w2.heap.size) := by have h1 := hb.size; show _ ≤ _; simp at h1; omega
  have hbb := ((Below.refl w1.heap.size w1).alloc (Nat.le_refl _) (.cells #[.slice ga m gcp, .int .i64 B] 25 (0, 0))).trans (hb.mono (by simp))
  have SG_2 := hide (SG_1.out.below hbb)
  have B_2 := hide (B_1.out.trans (hbb.mono B_1.out.size))
  clear hb hbb SG_1
  have SX_2 := ho.sl
  rw [hM] at SX_2
  have SX__2 := hide SX_2
  clear ho hM SX_2
  have alG0 : ∀ ob, (w2.alloc ob).cell? ⟨w1.heap.size, 0, none⟩ = some (.slice ga m gcp) := fun ob => Go.Lib.cell?_alloc_some ob kG0_2
  have alG1 : ∀ ob, (w2.alloc ob).cell? ⟨w1.heap.size, 1, none⟩ = some (.int .i64 B) := fun ob => Go.Lib.cell?_alloc_some ob kG1_2
  go_wp2_with fail
  refine (C2.out _ (SG_2.out.below ((Below.refl _ _).alloc (Nat.le_refl _) _))).mono ?_
  rintro e w3 ⟨aU, cU, rfl, MU, hM, ho, hb⟩
  have kq := blkp ((hb.block w2.heap.size (by simp)).trans (blk_new _ _))
  obtain ⟨kX0_3, kX1_3, _, _⟩ := kq
  have Z_3 : Hid (w2.heap.size + 1 ≤ w3.heap.size) := by have h1 := hb.size; show _ ≤ _; simp at h1; omega
  have hbb := ((Below.refl w2.heap.size w2).alloc (Nat.le_refl _) (.cells #[.slice aX N cX, .int .i64 B1] 25 (0, 0))).trans (hb.mono (by simp))
  have kG0_3 := (hbb.cell (p := ⟨w1.heap.size, 0, none⟩) (blk_lt kG0_2)).trans kG0_2
  have kG1_3 := (hbb.cell (p := ⟨w1.heap.size, 1, none⟩) (blk_lt kG1_2)).trans kG1_2
  have SG_3 := hide (SG_2.out.below hbb)
  have SX_3 := hide (SX__2.out.below hbb)
  have B_3 := hide (B_2.out.trans (hbb.mono B_2.out.size))
  clear hb hbb alG0 alG1 kG0_2 kG1_2 SG_2 SX__2
  have SU_3 := ho.sl
  rw [hM] at SU_3
  have SU__3 := hide SU_3
  clear ho hM SU_3
  have alG0 : ∀ ob, (w3.alloc ob).cell? ⟨w1.heap.size, 0, none⟩ = some (.slice ga m gcp) := fun ob => Go.Lib.cell?_alloc_some ob kG0_3
  have alG1 : ∀ ob, (w3.alloc ob).cell? ⟨w1.heap.size, 1, none⟩ = some (.int .i64 B) := fun ob => Go.Lib.cell?_alloc_some ob kG1_3
  have alX0 : ∀ ob, (w3.alloc ob).cell? ⟨w2.heap.size, 0, none⟩ = some (.slice aX N cX) := fun ob => Go.Lib.cell?_alloc_some ob kX0_3
  have alX1 : ∀ ob, (w3.alloc ob).cell? ⟨w2.heap.size, 1, none⟩ = some (.int .i64 B1) := fun ob => Go.Lib.cell?_alloc_some ob kX1_3
  go_wp2_with fail
  refine (C3.out _ (SG_3.out.below ((Below.refl _ _).alloc (Nat.le_refl _) _)) (HT.out.below (B_3.out.alloc B_3.out.size _))).mono ?_
  rintro e w4 ⟨rfl, hb⟩
  have kq := blkp ((hb.block w3.heap.size (by simp)).trans (blk_new _ _))
  obtain ⟨kU0_4, kU1_4, _, _⟩ := kq
  have Z_4 : Hid (w3.heap.size + 1 ≤ w4.heap.size) := by have h1 := hb.size; show _ ≤ _; simp at h1; omega
  have hbb := ((Below.refl w3.heap.size w3).alloc (Nat.le_refl _) (.cells #[.slice aU N cU, .int .i64 B1] 25 (0, 0))).trans (hb.mono (by simp))
  have kG0_4 := (hbb.cell (p := ⟨w1.heap.size, 0, none⟩) (blk_lt kG0_3)).trans kG0_3
  have kG1_4 := (hbb.cell (p := ⟨w1.heap.size, 1, none⟩) (blk_lt kG1_3)).trans kG1_3
  have kX0_4 := (hbb.cell (p := ⟨w2.heap.size, 0, none⟩) (blk_lt kX0_3)).trans kX0_3
  have kX1_4 := (hbb.cell (p := ⟨w2.heap.size, 1, none⟩) (blk_lt kX1_3)).trans kX1_3
  have SG_4 := hide (SG_3.out.below hbb)
  have SX_4 := hide (SX_3.out.below hbb)
  have SU_4 := hide (SU__3.out.below hbb)
  have B_4 := hide (B_3.out.trans (hbb.mono B_3.out.size))
  clear hb hbb alG0 alG1 alX0 alX1 kG0_3 kG1_3 kX0_3 kX1_3 SG_3 SX_3 SU__3
  go_wp2_with fail
  refine (C4.out _ SG_4.out).mono ?_
  rintro e w5 ⟨rfl, hb⟩
  have hbb := hb
  have Z_5 := hide hbb.size
  have kG0_5 := (hbb.cell (p := ⟨w1.heap.size, 0, none⟩) (blk_lt kG0_4)).trans kG0_4
  have kG1_5 := (hbb.cell (p := ⟨w1.heap.size, 1, none⟩) (blk_lt kG1_4)).trans kG1_4
  have kX0_5 := (hbb.cell (p := ⟨w2.heap.size, 0, none⟩) (blk_lt kX0_4)).trans kX0_4
  have kX1_5 := (hbb.cell (p := ⟨w2.heap.size, 1, none⟩) (blk_lt kX1_4)).trans kX1_4
  have kU0_5 := (hbb.cell (p := ⟨w3.heap.size, 0, none⟩) (blk_lt kU0_4)).trans kU0_4
  have kU1_5 := (hbb.cell (p := ⟨w3.heap.size, 1, none⟩) (blk_lt kU1_4)).trans kU1_4
  have SG_5 := hide (SG_4.out.below hbb)
  have SX_5 := hide (SX_4.out.below hbb)
  have SU_5 := hide (SU_4.out.below hbb)
  have B_5 := hide (B_4.out.trans (hbb.mono B_4.out.size))
  clear hb hbb kG0_4 kG1_4 kX0_4 kX1_4 kU0_4 kU1_4 SG_4 SX_4 SU_4
  go_wp2_with fail
  refine (C5.out _ SG_5.out (HT.out.below B_5.out)).mono ?_
  rintro e w6 ⟨aD, cD, rfl, hsD, hcapD, hnilD, hb⟩
  have hbb := hb
  have Z_6 := hide hbb.size
  have kG0_6 := (hbb.cell (p := ⟨w1.heap.size, 0, none⟩) (blk_lt kG0_5)).trans kG0_5
  have kG1_6 := (hbb.cell (p := ⟨w1.heap.size, 1, none⟩) (blk_lt kG1_5)).trans kG1_5
  have kX0_6 := (hbb.cell (p := ⟨w2.heap.size, 0, none⟩) (blk_lt kX0_5)).trans kX0_5
  have kX1_6 := (hbb.cell (p := ⟨w2.heap.size, 1, none⟩) (blk_lt kX1_5)).trans kX1_5
  have kU0_6 := (hbb.cell (p := ⟨w3.heap.size, 0, none⟩) (blk_lt kU0_5)).trans kU0_5
  have kU1_6 := (hbb.cell (p := ⟨w3.heap.size, 1, none⟩) (blk_lt kU1_5)).trans kU1_5
  have SG_6 := hide (SG_5.out.below hbb)
  have SX_6 := hide (SX_5.out.below hbb)
  have SU_6 := hide (SU_5.out.below hbb)
  have B_6 := hide (B_5.out.trans (hbb.mono B_5.out.size))
  clear hb hbb kG0_5 kG1_5 kX0_5 kX1_5 kU0_5 kU1_5 SG_5 SX_5 SU_5
  have SD_6 := hide hsD
  clear hsD hcapD hnilD
  go_wp2_with fail
  refine (C6.out _ SG_6.out).mono ?_
  rintro e w7 ⟨aT, cT, rfl, hsT, hcapT, hnilT, hb⟩
  have hbb := hb
  have Z_7 := hide hbb.size
  have kG0_7 := (hbb.cell (p := ⟨w1.heap.size, 0, none⟩) (blk_lt kG0_6)).trans kG0_6
  have kG1_7 := (hbb.cell (p := ⟨w1.heap.size, 1, none⟩) (blk_lt kG1_6)).trans kG1_6
  have kX0_7 := (hbb.cell (p := ⟨w2.heap.size, 0, none⟩) (blk_lt kX0_6)).trans kX0_6
  have kX1_7 := (hbb.cell (p := ⟨w2.heap.size, 1, none⟩) (blk_lt kX1_6)).trans kX1_6
  have kU0_7 := (hbb.cell (p := ⟨w3.heap.size, 0, none⟩) (blk_lt kU0_6)).trans kU0_6
  have kU1_7 := (hbb.cell (p := ⟨w3.heap.size, 1, none⟩) (blk_lt kU1_6)).trans kU1_6
  have SG_7 := hide (SG_6.out.below hbb)
  have SX_7 := hide (SX_6.out.below hbb)
  have SU_7 := hide (SU_6.out.below hbb)
  have SD_7 := hide (SD_6.out.below hbb)
  have B_7 := hide (B_6.out.trans (hbb.mono B_6.out.size))
  clear hb hbb kG0_6 kG1_6 kX0_6 kX1_6 kU0_6 kU1_6 SG_6 SX_6 SU_6 SD_6
  have ST_7 := hide hsT
  clear hsT hcapT hnilT
  go_wp2_with fail
  refine (samePieces_same _ _ L1 N _ _ B1 _ HL1.out SX_7.out SU_7.out (by omega) (fun i hi => Nat.le_trans (HXX.out i hi) (by omega))).mono ?_
  rintro e w8 ⟨rfl, hb⟩
  have hbb := hb
  have Z_8 := hide hbb.size
  have kG0_8 := (hbb.cell (p := ⟨w1.heap.size, 0, none⟩) (blk_lt kG0_7)).trans kG0_7
  have kG1_8 := (hbb.cell (p := ⟨w1.heap.size, 1, none⟩) (blk_lt kG1_7)).trans kG1_7
  have kX0_8 := (hbb.cell (p := ⟨w2.heap.size, 0, none⟩) (blk_lt kX0_7)).trans kX0_7
  have kX1_8 := (hbb.cell (p := ⟨w2.heap.size, 1, none⟩) (blk_lt kX1_7)).trans kX1_7
  have kU0_8 := (hbb.cell (p := ⟨w3.heap.size, 0, none⟩) (blk_lt kU0_7)).trans kU0_7
  have kU1_8 := (hbb.cell (p := ⟨w3.heap.size, 1, none⟩) (blk_lt kU1_7)).trans kU1_7
  have SG_8 := hide (SG_7.out.below hbb)
  have SX_8 := hide (SX_7.out.below hbb)
  have SU_8 := hide (SU_7.out.below hbb)
  have SD_8 := hide (SD_7.out.below hbb)
  have ST_8 := hide (ST_7.out.below hbb)
  have B_8 := hide (B_7.out.trans (hbb.mono B_7.out.size))
  clear hb hbb kG0_7 kG1_7 kX0_7 kX1_7 kU0_7 kU1_7 SG_7 SX_7 SU_7 SD_7 ST_7
  clear SU_8
  go_wp2_with fail
  refine (sameTexts_same _ _ D nD _ _ _ HND.out SD_8.out ST_8.out (by omega)).mono ?_
  rintro e w9 ⟨rfl, hb⟩
  have hbb := hb
  have Z_9 := hide hbb.size
  have kG0_9 := (hbb.cell (p := ⟨w1.heap.size, 0, none⟩) (blk_lt kG0_8)).trans kG0_8
  have kG1_9 := (hbb.cell (p := ⟨w1.heap.size, 1, none⟩) (blk_lt kG1_8)).trans kG1_8
  have kX0_9 := (hbb.cell (p := ⟨w2.heap.size, 0, none⟩) (blk_lt kX0_8)).trans kX0_8
  have kX1_9 := (hbb.cell (p := ⟨w2.heap.size, 1, none⟩) (blk_lt kX1_8)).trans kX1_8
  have kU0_9 := (hbb.cell (p := ⟨w3.heap.size, 0, none⟩) (blk_lt kU0_8)).trans kU0_8
  have kU1_9 := (hbb.cell (p := ⟨w3.heap.size, 1, none⟩) (blk_lt kU1_8)).trans kU1_8
  have SG_9 := hide (SG_8.out.below hbb)
  have SX_9 := hide (SX_8.out.below hbb)
  have SD_9 := hide (SD_8.out.below hbb)
  have ST_9 := hide (ST_8.out.below hbb)
  have B_9 := hide (B_8.out.trans (hbb.mono B_8.out.size))
  clear hb hbb kG0_8 kG1_8 kX0_8 kX1_8 kU0_8 kU1_8 SG_8 SX_8 SD_8 ST_8
  clear ST_9
  go_wp2_with fail
  refine (C7.out _ SG_9.out (HT.out.below B_9.out)).mono ?_
  rintro e w10 ⟨rfl, hb⟩
  have hbb := hb
  have Z_10 := hide hbb.size
  have kG0_10 := (hbb.cell (p := ⟨w1.heap.size, 0, none⟩) (blk_lt kG0_9)).trans kG0_9
  have kG1_10 := (hbb.cell (p := ⟨w1.heap.size, 1, none⟩) (blk_lt kG1_9)).trans kG1_9
  have kX0_10 := (hbb.cell (p := ⟨w2.heap.size, 0, none⟩) (blk_lt kX0_9)).trans kX0_9
  have kX1_10 := (hbb.cell (p := ⟨w2.heap.size, 1, none⟩) (blk_lt kX1_9)).trans kX1_9
  have kU0_10 := (hbb.cell (p := ⟨w3.heap.size, 0, none⟩) (blk_lt kU0_9)).trans kU0_9
  have kU1_10 := (hbb.cell (p := ⟨w3.heap.size, 1, none⟩) (blk_lt kU1_9)).trans kU1_9
  have SG_10 := hide (SG_9.out.below hbb)
  have SX_10 := hide (SX_9.out.below hbb)
  have SD_10 := hide (SD_9.out.below hbb)
  have B_10 := hide (B_9.out.trans (hbb.mono B_9.out.size))
  clear hb hbb kG0_9 kG1_9 kX0_9 kX1_9 kU0_9 kU1_9 SG_9 SX_9 SD_9
  clear C1 C2 C3 C4 C5 C6 C7
  go_upto_region 12 with fail
  go_cut [135] (fun t wx => t = .bool false ∧ w10 = wx)
  case first =>
    cases oe with
    | false =>
      go_wp2
      go_meet
      case rel => exact ⟨rfl, rfl⟩
    | true =>
      have hq := HDN.out (by first | rfl | trivial)
      have hq2 : ((nD : Int) != en - B) = false := by simpa using hq
      clear hq
      go_wp2
      go_meet
      case rel => exact ⟨by first | exact congrArg Value.bool hq2 | rfl, rfl⟩
  case rest =>
  obtain ⟨rfl, rfl⟩ := hcut
  go_upto_if 136 with fail
  go_cut [] (fun wx => Below w.heap.size w wx)
  case first =>
    as_aux_lemma =>
      cases ok with
      | false =>
        go_wp2_with fail
        go_meet
        exact B_10.out
      | true =>
        obtain ⟨hlw, rfl, hene, hDe⟩ := HLAW.out (by first | rfl | trivial)
        obtain ⟨A, hA⟩ : ∃ A, A = allG L1 B1 := ⟨_, rfl⟩
        have hAD : A = D ++ [s] := by rw [hA, hlw.all, hDe]
        obtain ⟨nA, hnA⟩ : ∃ nA, nA = A.length := ⟨_, rfl⟩
        have hnA2 : nA = nD + 1 := by rw [hnA, hAD, List.length_append, HND.out]; rfl
        have htk : A.take nD = D := by rw [hAD, ← HND.out, List.take_left]
        have tx1 : TxC L1 := fun j hj => ⟨Nat.le_trans (hlw.g'.ps j hj).1.1 (by omega), Nat.le_trans (HXX.out j (by have := HL1.out; omega)) (by omega)⟩
        have CA := hide (fun w hs ht => (implAllOf_any aX L1 N cX B1 w HL1.out (by omega) hs tx1 ht (some A) (by unfold allRes; rw [if_pos hlw.g', hA])).mono (allOf_form hnA.symm))
        have CR := hide (fun w hs ht => implReadAt_any aX L1 N cX B1 en w HL1.out (by omega) hs tx1 ht s true (by rw [hene]; exact hlw.read) (fun e => by cases e))
        have CG := hide (fun w hs ht => goodLog_any aX L1 N cX B1 w HL1.out (by omega) hs tx1 ht true (by simp [hlw.g']))
        obtain ⟨hco, hg2, ha2⟩ := hlw.back
        rw [← hene] at hco hg2 ha2
        obtain ⟨L2, B2, ok2, hci⟩ := cut_is L1 B1 en
        have hfew2 := hci.few
        have k1 := fun w hs ht => implCut_any aX L1 N cX B1 en w (by omega) (by omega) HL1.out (by omega) hs tx1 ht L2 B2 ok2 hci
        obtain ⟨hL2, hB2, rfl⟩ := hci.yes hco
        rw [← hL2] at hg2 ha2
        rw [← hB2] at hg2 ha2
        obtain ⟨N2, hN2⟩ : ∃ N2, N2 = L2.length := ⟨_, rfl⟩
        unfold RetK at k1
        simp only [← hN2] at k1
        rw [← hN2] at hfew2
        have hN220 : N2 ≤ 20 := hfew2.1
        have tx2 : TxC L2 := fun j hj => ⟨Nat.le_trans (hg2.ps j hj).1.1 (by omega), Nat.le_trans (hfew2.2 j (by omega)) (by omega)⟩
        have CK := hide k1
        have CH := hide (fun a c w hs ht => (implAllOf_any a L2 N2 c B2 w hN2.symm (by omega) hs tx2 ht (some D) (by unfold allRes; rw [if_pos hg2, ha2, hDe])).mono (allOf_form HND.out))
        have CG2 := hide (fun a c w hs ht => goodLog_any a L2 N2 c B2 w hN2.symm (by omega) hs tx2 ht true (by simp [hg2]))
        have HA := hide hnA.symm
        have HTK := hide htk
        have hle : nD ≤ nA := by omega
        have hbq : ((nA : Int) != (nD : Int) + 1) = false := by simp; omega
        clear HLAW HDN hlw hene hDe hA hAD hnA hnA2 htk tx1 k1 hci hL2 hB2 hco hg2 ha2 hN2 hfew2 tx2
        go_wp2_with fail
        refine (CA.out _ SX_10.out (HT.out.below B_10.out)).mono ?_
        rintro e w11 ⟨aA, cA, rfl, hsA, hcapA, hnilA, hb⟩
        have hbb := hb
        have Z_11 := hide hbb.size
        have kG0_11 := (hbb.cell (p := ⟨w1.heap.size, 0, none⟩) (blk_lt kG0_10)).trans kG0_10
        have kG1_11 := (hbb.cell (p := ⟨w1.heap.size, 1, none⟩) (blk_lt kG1_10)).trans kG1_10
        have kX0_11 := (hbb.cell (p := ⟨w2.heap.size, 0, none⟩) (blk_lt kX0_10)).trans kX0_10
        have kX1_11 := (hbb.cell (p := ⟨w2.heap.size, 1, none⟩) (blk_lt kX1_10)).trans kX1_10
        have kU0_11 := (hbb.cell (p := ⟨w3.heap.size, 0, none⟩) (blk_lt kU0_10)).trans kU0_10
        have kU1_11 := (hbb.cell (p := ⟨w3.heap.size, 1, none⟩) (blk_lt kU1_10)).trans kU1_10
        have SG_11 := hide (SG_10.out.below hbb)
        have SX_11 := hide (SX_10.out.below hbb)
        have SD_11 := hide (SD_10.out.below hbb)
        have B_11 := hide (B_10.out.trans (hbb.mono B_10.out.size))
        clear hb hbb kG0_10 kG1_10 kX0_10 kX1_10 kU0_10 kU1_10 SG_10 SX_10 SD_10
        have SA_11 := hide hsA
        clear hsA
        obtain ⟨cE, hcutE⟩ := slice_toT aA nA cA nD hle hcapA hnilA
        clear hcapA hnilA CA
        go_wp2_with fail
        refine (CR.out _ SX_11.out (HT.out.below B_11.out)).mono ?_
        rintro e w12 ⟨rfl, hb⟩
        have hbb := hb
        have Z_12 := hide hbb.size
        have kG0_12 := (hbb.cell (p := ⟨w1.heap.size, 0, none⟩) (blk_lt kG0_11)).trans kG0_11
        have kG1_12 := (hbb.cell (p := ⟨w1.heap.size, 1, none⟩) (blk_lt kG1_11)).trans kG1_11
        have kX0_12 := (hbb.cell (p := ⟨w2.heap.size, 0, none⟩) (blk_lt kX0_11)).trans kX0_11
        have kX1_12 := (hbb.cell (p := ⟨w2.heap.size, 1, none⟩) (blk_lt kX1_11)).trans kX1_11
        have kU0_12 := (hbb.cell (p := ⟨w3.heap.size, 0, none⟩) (blk_lt kU0_11)).trans kU0_11
        have kU1_12 := (hbb.cell (p := ⟨w3.heap.size, 1, none⟩) (blk_lt kU1_11)).trans kU1_11
        have SG_12 := hide (SG_11.out.below hbb)
        have SX_12 := hide (SX_11.out.below hbb)
        have SD_12 := hide (SD_11.out.below hbb)
        have SA_12 := hide (SA_11.out.below hbb)
        have B_12 := hide (B_11.out.trans (hbb.mono B_11.out.size))
        clear hb hbb kG0_11 kG1_11 kX0_11 kX1_11 kU0_11 kU1_11 SG_11 SX_11 SD_11 SA_11
        go_wp2_with fail
        refine (CG.out _ SX_12.out (HT.out.below B_12.out)).mono ?_
        rintro e w13 ⟨rfl, hb⟩
        have hbb := hb
        have Z_13 := hide hbb.size
        have kG0_13 := (hbb.cell (p := ⟨w1.heap.size, 0, none⟩) (blk_lt kG0_12)).trans kG0_12
        have kG1_13 := (hbb.cell (p := ⟨w1.heap.size, 1, none⟩) (blk_lt kG1_12)).trans kG1_12
        have kX0_13 := (hbb.cell (p := ⟨w2.heap.size, 0, none⟩) (blk_lt kX0_12)).trans kX0_12
        have kX1_13 := (hbb.cell (p := ⟨w2.heap.size, 1, none⟩) (blk_lt kX1_12)).trans kX1_12
        have kU0_13 := (hbb.cell (p := ⟨w3.heap.size, 0, none⟩) (blk_lt kU0_12)).trans kU0_12
        have kU1_13 := (hbb.cell (p := ⟨w3.heap.size, 1, none⟩) (blk_lt kU1_12)).trans kU1_12
        have SG_13 := hide (SG_12.out.below hbb)
        have SX_13 := hide (SX_12.out.below hbb)
        have SD_13 := hide (SD_12.out.below hbb)
        have SA_13 := hide (SA_12.out.below hbb)
        have B_13 := hide (B_12.out.trans (hbb.mono B_12.out.size))
        clear hb hbb kG0_12 kG1_12 kX0_12 kX1_12 kU0_12 kU1_12 SG_12 SX_12 SD_12 SA_12
        go_wp2_with fail
        refine (sameTexts_same _ _ D nD _ _ _ HND.out (slT_take SA_13.out HTK.out) SD_13.out (by omega)).mono ?_
        rintro e w14 ⟨rfl, hb⟩
        have hbb := hb
        have Z_14 := hide hbb.size
        have kG0_14 := (hbb.cell (p := ⟨w1.heap.size, 0, none⟩) (blk_lt kG0_13)).trans kG0_13
        have kG1_14 := (hbb.cell (p := ⟨w1.heap.size, 1, none⟩) (blk_lt kG1_13)).trans kG1_13
        have kX0_14 := (hbb.cell (p := ⟨w2.heap.size, 0, none⟩) (blk_lt kX0_13)).trans kX0_13
        have kX1_14 := (hbb.cell (p := ⟨w2.heap.size, 1, none⟩) (blk_lt kX1_13)).trans kX1_13
        have kU0_14 := (hbb.cell (p := ⟨w3.heap.size, 0, none⟩) (blk_lt kU0_13)).trans kU0_13
        have kU1_14 := (hbb.cell (p := ⟨w3.heap.size, 1, none⟩) (blk_lt kU1_13)).trans kU1_13
        have SG_14 := hide (SG_13.out.below hbb)
        have SX_14 := hide (SX_13.out.below hbb)
        have SD_14 := hide (SD_13.out.below hbb)
        have SA_14 := hide (SA_13.out.below hbb)
        have B_14 := hide (B_13.out.trans (hbb.mono B_13.out.size))
        clear hb hbb kG0_13 kG1_13 kX0_13 kX1_13 kU0_13 kU1_13 SG_13 SX_13 SD_13 SA_13
        clear SA_14
        clear hcutE CR CG HTK
        go_wp2_with fail
        refine (CK.out _ SX_14.out (HT.out.below B_14.out)).mono ?_
        rintro e w15 ⟨aK, cK, rfl, MK, hM, ho, hb⟩
        have hbb := hb
        have Z_15 := hide hbb.size
        have kG0_15 := (hbb.cell (p := ⟨w1.heap.size, 0, none⟩) (blk_lt kG0_14)).trans kG0_14
        have kG1_15 := (hbb.cell (p := ⟨w1.heap.size, 1, none⟩) (blk_lt kG1_14)).trans kG1_14
        have kX0_15 := (hbb.cell (p := ⟨w2.heap.size, 0, none⟩) (blk_lt kX0_14)).trans kX0_14
        have kX1_15 := (hbb.cell (p := ⟨w2.heap.size, 1, none⟩) (blk_lt kX1_14)).trans kX1_14
        have kU0_15 := (hbb.cell (p := ⟨w3.heap.size, 0, none⟩) (blk_lt kU0_14)).trans kU0_14
        have kU1_15 := (hbb.cell (p := ⟨w3.heap.size, 1, none⟩) (blk_lt kU1_14)).trans kU1_14
        have SG_15 := hide (SG_14.out.below hbb)
        have SX_15 := hide (SX_14.out.below hbb)
        have SD_15 := hide (SD_14.out.below hbb)
        have B_15 := hide (B_14.out.trans (hbb.mono B_14.out.size))
        clear hb hbb kG0_14 kG1_14 kX0_14 kX1_14 kU0_14 kU1_14 SG_14 SX_14 SD_14
        have SK_15 := ho.sl
        rw [hM] at SK_15
        have SK__15 := hide SK_15
        clear ho hM SK_15
        have alG0 : ∀ ob, (w15.alloc ob).cell? ⟨w1.heap.size, 0, none⟩ = some (.slice ga m gcp) := fun ob => Go.Lib.cell?_alloc_some ob kG0_15
        have alG1 : ∀ ob, (w15.alloc ob).cell? ⟨w1.heap.size, 1, none⟩ = some (.int .i64 B) := fun ob => Go.Lib.cell?_alloc_some ob kG1_15
        have alX0 : ∀ ob, (w15.alloc ob).cell? ⟨w2.heap.size, 0, none⟩ = some (.slice aX N cX) := fun ob => Go.Lib.cell?_alloc_some ob kX0_15
        have alX1 : ∀ ob, (w15.alloc ob).cell? ⟨w2.heap.size, 1, none⟩ = some (.int .i64 B1) := fun ob => Go.Lib.cell?_alloc_some ob kX1_15
        have alU0 : ∀ ob, (w15.alloc ob).cell? ⟨w3.heap.size, 0, none⟩ = some (.slice aU N cU) := fun ob => Go.Lib.cell?_alloc_some ob kU0_15
        have alU1 : ∀ ob, (w15.alloc ob).cell? ⟨w3.heap.size, 1, none⟩ = some (.int .i64 B1) := fun ob => Go.Lib.cell?_alloc_some ob kU1_15
        have CH1 := hide (CH.out aK cK)
        have CG21 := hide (CG2.out aK cK)
        clear CH CG2 CK
        go_wp2_with fail
        refine (CH1.out _ (SK__15.out.below ((Below.refl _ _).alloc (Nat.le_refl _) _)) (HT.out.below (B_15.out.alloc B_15.out.size _))).mono ?_
        rintro e w16 ⟨aH, cH, rfl, hsH, hcapH, hnilH, hb⟩
        have kq := blkp ((hb.block w15.heap.size (by simp)).trans (blk_new _ _))
        obtain ⟨kK0_16, kK1_16, _, _⟩ := kq
        have Z_16 : Hid (w15.heap.size + 1 ≤ w16.heap.size) := by have h1 := hb.size; show _ ≤ _; simp at h1; omega
        have hbb := ((Below.refl w15.heap.size w15).alloc (Nat.le_refl _) (.cells #[.slice aK N2 cK, .int .i64 B2] 25 (0, 0))).trans (hb.mono (by simp))
        have kG0_16 := (hbb.cell (p := ⟨w1.heap.size, 0, none⟩) (blk_lt kG0_15)).trans kG0_15
        have kG1_16 := (hbb.cell (p := ⟨w1.heap.size, 1, none⟩) (blk_lt kG1_15)).trans kG1_15
        have kX0_16 := (hbb.cell (p := ⟨w2.heap.size, 0, none⟩) (blk_lt kX0_15)).trans kX0_15
        have kX1_16 := (hbb.cell (p := ⟨w2.heap.size, 1, none⟩) (blk_lt kX1_15)).trans kX1_15
        have kU0_16 := (hbb.cell (p := ⟨w3.heap.size, 0, none⟩) (blk_lt kU0_15)).trans kU0_15
        have kU1_16 := (hbb.cell (p := ⟨w3.heap.size, 1, none⟩) (blk_lt kU1_15)).trans kU1_15
        have SG_16 := hide (SG_15.out.below hbb)
        have SX_16 := hide (SX_15.out.below hbb)
        have SD_16 := hide (SD_15.out.below hbb)
        have SK_16 := hide (SK__15.out.below hbb)
        have B_16 := hide (B_15.out.trans (hbb.mono B_15.out.size))
        clear hb hbb alG0 alG1 alX0 alX1 alU0 alU1 kG0_15 kG1_15 kX0_15 kX1_15 kU0_15 kU1_15 SG_15 SX_15 SD_15 SK__15
        have SH_16 := hide hsH
        clear hsH hcapH hnilH
        go_wp2_with fail
        refine (sameTexts_same _ _ D nD _ _ _ HND.out SH_16.out SD_16.out (by omega)).mono ?_
        rintro e w17 ⟨rfl, hb⟩
        have hbb := hb
        have Z_17 := hide hbb.size
        have kG0_17 := (hbb.cell (p := ⟨w1.heap.size, 0, none⟩) (blk_lt kG0_16)).trans kG0_16
        have kG1_17 := (hbb.cell (p := ⟨w1.heap.size, 1, none⟩) (blk_lt kG1_16)).trans kG1_16
        have kX0_17 := (hbb.cell (p := ⟨w2.heap.size, 0, none⟩) (blk_lt kX0_16)).trans kX0_16
        have kX1_17 := (hbb.cell (p := ⟨w2.heap.size, 1, none⟩) (blk_lt kX1_16)).trans kX1_16
        have kU0_17 := (hbb.cell (p := ⟨w3.heap.size, 0, none⟩) (blk_lt kU0_16)).trans kU0_16
        have kU1_17 := (hbb.cell (p := ⟨w3.heap.size, 1, none⟩) (blk_lt kU1_16)).trans kU1_16
        have kK0_17 := (hbb.cell (p := ⟨w15.heap.size, 0, none⟩) (blk_lt kK0_16)).trans kK0_16
        have kK1_17 := (hbb.cell (p := ⟨w15.heap.size, 1, none⟩) (blk_lt kK1_16)).trans kK1_16
        have SG_17 := hide (SG_16.out.below hbb)
        have SX_17 := hide (SX_16.out.below hbb)
        have SD_17 := hide (SD_16.out.below hbb)
        have SK_17 := hide (SK_16.out.below hbb)
        have SH_17 := hide (SH_16.out.below hbb)
        have B_17 := hide (B_16.out.trans (hbb.mono B_16.out.size))
        clear hb hbb kG0_16 kG1_16 kX0_16 kX1_16 kU0_16 kU1_16 kK0_16 kK1_16 SG_16 SX_16 SD_16 SK_16 SH_16
        go_wp2_with fail
        refine (CG21.out _ SK_17.out (HT.out.below B_17.out)).mono ?_
        rintro e w18 ⟨rfl, hb⟩
        have hbb := hb
        have Z_18 := hide hbb.size
        have kG0_18 := (hbb.cell (p := ⟨w1.heap.size, 0, none⟩) (blk_lt kG0_17)).trans kG0_17
        have kG1_18 := (hbb.cell (p := ⟨w1.heap.size, 1, none⟩) (blk_lt kG1_17)).trans kG1_17
        have kX0_18 := (hbb.cell (p := ⟨w2.heap.size, 0, none⟩) (blk_lt kX0_17)).trans kX0_17
        have kX1_18 := (hbb.cell (p := ⟨w2.heap.size, 1, none⟩) (blk_lt kX1_17)).trans kX1_17
        have kU0_18 := (hbb.cell (p := ⟨w3.heap.size, 0, none⟩) (blk_lt kU0_17)).trans kU0_17
        have kU1_18 := (hbb.cell (p := ⟨w3.heap.size, 1, none⟩) (blk_lt kU1_17)).trans kU1_17
        have kK0_18 := (hbb.cell (p := ⟨w15.heap.size, 0, none⟩) (blk_lt kK0_17)).trans kK0_17
        have kK1_18 := (hbb.cell (p := ⟨w15.heap.size, 1, none⟩) (blk_lt kK1_17)).trans kK1_17
        have SG_18 := hide (SG_17.out.below hbb)
        have SX_18 := hide (SX_17.out.below hbb)
        have SD_18 := hide (SD_17.out.below hbb)
        have SK_18 := hide (SK_17.out.below hbb)
        have SH_18 := hide (SH_17.out.below hbb)
        have B_18 := hide (B_17.out.trans (hbb.mono B_17.out.size))
        clear hb hbb kG0_17 kG1_17 kX0_17 kX1_17 kU0_17 kU1_17 kK0_17 kK1_17 SG_17 SX_17 SD_17 SK_17 SH_17
        go_wp2_with fail
        go_meet
        exact B_18.out
  case rest =>
    as_aux_lemma =>
      have B_100 := hide hcut
      go_wp2_with fail
      refine (drawCutFrom_any a1 len1 cap1 _ (Slb.below S1.out B_100.out) hl1).mono ?_
      rintro e w101 ⟨ya, ym, yc, YB, o, YL, YM, rfl, hM, hL, ho, hd, hoo, hb⟩
      have hbb := hb
      have Z_101 := hide hbb.size
      have B_101 := hide (B_100.out.trans (hbb.mono B_100.out.size))
      clear hb hbb 
      have hsl := ho.sl
      rw [hM] at hsl
      have SY_101 := hide hsl
      obtain ⟨ho1, ho2⟩ := hoo
      have hym20 : ym ≤ 20 := by have := hd.many; omega
      have hszc : SzC YL := hd.sz
      have hsm : ∀ i, i < ym → (gc YL i).f ≤ 100000 := fun i hi => by have := hd.ps i (by omega); omega
      obtain ⟨CL, CB, DL, DB, kk, hci, hdi, hkk⟩ := both_is YL YB o
      obtain ⟨rd, rok, hrd, hrd0⟩ := readRes_form YL YB o
      have d1 := fun w hs ht => implCut_any ya YL ym yc YB o w (by omega) (by omega) hL (by omega) hs hszc.tx ht CL CB kk hci
      have d2 := fun w hs => specCut_any ya YL ym yc YB o w hL (by omega) hs hszc CL CB kk hci
      have d3 := fun w hs ht => implDrop_any ya YL ym yc YB o w hL (by omega) hs hszc.tx ht hsm DL DB kk hdi
      have d4 := fun w hs => specDrop_any ya YL ym yc YB o w hL (by omega) hs hszc DL DB kk hdi
      have hf1 := hci.few
      have hf2 := drop_few hdi
      obtain ⟨N3, hN3⟩ : ∃ N3, N3 = CL.length := ⟨_, rfl⟩
      obtain ⟨N4, hN4⟩ : ∃ N4, N4 = DL.length := ⟨_, rfl⟩
      unfold RetK at d1 d2 d3 d4
      simp only [← hN3] at d1 d2
      simp only [← hN4] at d3 d4
      rw [← hN3] at hf1
      rw [← hN4] at hf2
      have hN320 : N3 ≤ 20 := hf1.1
      have hN420 : N4 ≤ 20 := hf2.1
      have D1 := hide d1
      have D2 := hide d2
      have D3 := hide d3
      have D4 := hide d4
      have D5 := hide (fun w hs ht => implReadAt_any ya YL ym yc YB o w hL (by omega) hs hszc.tx ht rd rok hrd hrd0)
      have D6 := hide (fun w hs => specReadAt_any ya YL ym yc YB o w hL (by omega) hs hszc rd rok hrd hrd0)
      have HYL := hide hL
      have HSM := hide hsm
      have HYZ := hide hszc
      have HN3 := hide hN3.symm
      have HN4 := hide hN4.symm
      have HF1 := hide hf1.2
      have HF2 := hide hf2.2
      have HKK := hide hkk
      clear hM ho hd hsl hL hci hdi hkk hrd hrd0 d1 d2 d3 d4 hf1 hf2 hN3 hN4 hsm hszc
      go_wp2_with fail
      refine (D1.out _ (SY_101.out.below ((Below.refl _ _).alloc (Nat.le_refl _) _)) (HT.out.below (B_101.out.alloc B_101.out.size _))).mono ?_
      rintro e w102 ⟨aC, cC, rfl, MC, hM, ho, hb⟩
      have kq := blkp ((hb.block w101.heap.size (by simp)).trans (blk_new _ _))
      obtain ⟨kY0_102, kY1_102, _, _⟩ := kq
      have Z_102 : Hid (w101.heap.size + 1 ≤ w102.heap.size) := by have h1 := hb.size; show _ ≤ _; simp at h1; omega
      have hbb := ((Below.refl w101.heap.size w101).alloc (Nat.le_refl _) (.cells #[.slice ya ym yc, .int .i64 YB] 25 (0, 0))).trans (hb.mono (by simp))
      have SY_102 := hide (SY_101.out.below hbb)
      have B_102 := hide (B_101.out.trans (hbb.mono B_101.out.size))
      clear hb hbb SY_101
      have SC_102 := ho.sl
      rw [hM] at SC_102
      have SC__102 := hide SC_102
      clear ho hM SC_102
      have alY0 : ∀ ob, (w102.alloc ob).cell? ⟨w101.heap.size, 0, none⟩ = some (.slice ya ym yc) := fun ob => Go.Lib.cell?_alloc_some ob kY0_102
      have alY1 : ∀ ob, (w102.alloc ob).cell? ⟨w101.heap.size, 1, none⟩ = some (.int .i64 YB) := fun ob => Go.Lib.cell?_alloc_some ob kY1_102
      go_wp2_with fail
      refine (D2.out _ (SY_102.out.below ((Below.refl _ _).alloc (Nat.le_refl _) _))).mono ?_
      rintro e w103 ⟨aP, cP, rfl, MP, hM, ho, hb⟩
      have kq := blkp ((hb.block w102.heap.size (by simp)).trans (blk_new _ _))
      obtain ⟨kC0_103, kC1_103, _, _⟩ := kq
      have Z_103 : Hid (w102.heap.size + 1 ≤ w103.heap.size) := by have h1 := hb.size; show _ ≤ _; simp at h1; omega
      have hbb := ((Below.refl w102.heap.size w102).alloc (Nat.le_refl _) (.cells #[.slice aC N3 cC, .int .i64 CB] 25 (0, 0))).trans (hb.mono (by simp))
      have kY0_103 := (hbb.cell (p := ⟨w101.heap.size, 0, none⟩) (blk_lt kY0_102)).trans kY0_102
      have kY1_103 := (hbb.cell (p := ⟨w101.heap.size, 1, none⟩) (blk_lt kY1_102)).trans kY1_102
      have SY_103 := hide (SY_102.out.below hbb)
      have SC_103 := hide (SC__102.out.below hbb)
      have B_103 := hide (B_102.out.trans (hbb.mono B_102.out.size))
      clear hb hbb alY0 alY1 kY0_102 kY1_102 SY_102 SC__102
      have SP_103 := ho.sl
      rw [hM] at SP_103
      have SP__103 := hide SP_103
      clear ho hM SP_103
      have alY0 : ∀ ob, (w103.alloc ob).cell? ⟨w101.heap.size, 0, none⟩ = some (.slice ya ym yc) := fun ob => Go.Lib.cell?_alloc_some ob kY0_103
      have alY1 : ∀ ob, (w103.alloc ob).cell? ⟨w101.heap.size, 1, none⟩ = some (.int .i64 YB) := fun ob => Go.Lib.cell?_alloc_some ob kY1_103
      have alC0 : ∀ ob, (w103.alloc ob).cell? ⟨w102.heap.size, 0, none⟩ = some (.slice aC N3 cC) := fun ob => Go.Lib.cell?_alloc_some ob kC0_103
      have alC1 : ∀ ob, (w103.alloc ob).cell? ⟨w102.heap.size, 1, none⟩ = some (.int .i64 CB) := fun ob => Go.Lib.cell?_alloc_some ob kC1_103
      go_wp2_with fail
      refine (D3.out _ (SY_103.out.below ((Below.refl _ _).alloc (Nat.le_refl _) _)) (HT.out.below (B_103.out.alloc B_103.out.size _))).mono ?_
      rintro e w104 ⟨aE, cE, rfl, ME, hM, ho, hb⟩
      have kq := blkp ((hb.block w103.heap.size (by simp)).trans (blk_new _ _))
      obtain ⟨kP0_104, kP1_104, _, _⟩ := kq
      have Z_104 : Hid (w103.heap.size + 1 ≤ w104.heap.size) := by have h1 := hb.size; show _ ≤ _; simp at h1; omega
      have hbb := ((Below.refl w103.heap.size w103).alloc (Nat.le_refl _) (.cells #[.slice aP N3 cP, .int .i64 CB] 25 (0, 0))).trans (hb.mono (by simp))
      have kY0_104 := (hbb.cell (p := ⟨w101.heap.size, 0, none⟩) (blk_lt kY0_103)).trans kY0_103
      have kY1_104 := (hbb.cell (p := ⟨w101.heap.size, 1, none⟩) (blk_lt kY1_103)).trans kY1_103
      have kC0_104 := (hbb.cell (p := ⟨w102.heap.size, 0, none⟩) (blk_lt kC0_103)).trans kC0_103
      have kC1_104 := (hbb.cell (p := ⟨w102.heap.size, 1, none⟩) (blk_lt kC1_103)).trans kC1_103
      have SY_104 := hide (SY_103.out.below hbb)
      have SC_104 := hide (SC_103.out.below hbb)
      have SP_104 := hide (SP__103.out.below hbb)
      have B_104 := hide (B_103.out.trans (hbb.mono B_103.out.size))
      clear hb hbb alY0 alY1 alC0 alC1 kY0_103 kY1_103 kC0_103 kC1_103 SY_103 SC_103 SP__103
      have SE_104 := ho.sl
      rw [hM] at SE_104
      have SE__104 := hide SE_104
      clear ho hM SE_104
      have alY0 : ∀ ob, (w104.alloc ob).cell? ⟨w101.heap.size, 0, none⟩ = some (.slice ya ym yc) := fun ob => Go.Lib.cell?_alloc_some ob kY0_104
      have alY1 : ∀ ob, (w104.alloc ob).cell? ⟨w101.heap.size, 1, none⟩ = some (.int .i64 YB) := fun ob => Go.Lib.cell?_alloc_some ob kY1_104
      have alC0 : ∀ ob, (w104.alloc ob).cell? ⟨w102.heap.size, 0, none⟩ = some (.slice aC N3 cC) := fun ob => Go.Lib.cell?_alloc_some ob kC0_104
      have alC1 : ∀ ob, (w104.alloc ob).cell? ⟨w102.heap.size, 1, none⟩ = some (.int .i64 CB) := fun ob => Go.Lib.cell?_alloc_some ob kC1_104
      have alP0 : ∀ ob, (w104.alloc ob).cell? ⟨w103.heap.size, 0, none⟩ = some (.slice aP N3 cP) := fun ob => Go.Lib.cell?_alloc_some ob kP0_104
      have alP1 : ∀ ob, (w104.alloc ob).cell? ⟨w103.heap.size, 1, none⟩ = some (.int .i64 CB) := fun ob => Go.Lib.cell?_alloc_some ob kP1_104
      go_wp2_with fail
      refine (D4.out _ (SY_104.out.below ((Below.refl _ _).alloc (Nat.le_refl _) _))).mono ?_
      rintro e w105 ⟨aQ, cQ, rfl, MQ, hM, ho, hb⟩
      have kq := blkp ((hb.block w104.heap.size (by simp)).trans (blk_new _ _))
      obtain ⟨kE0_105, kE1_105, _, _⟩ := kq
      have Z_105 : Hid (w104.heap.size + 1 ≤ w105.heap.size) := by have h1 := hb.size; show _ ≤ _; simp at h1; omega
      have hbb := ((Below.refl w104.heap.size w104).alloc (Nat.le_refl _) (.cells #[.slice aE N4 cE, .int .i64 DB] 25 (0, 0))).trans (hb.mono (by simp))
      have kY0_105 := (hbb.cell (p := ⟨w101.heap.size, 0, none⟩) (blk_lt kY0_104)).trans kY0_104
      have kY1_105 := (hbb.cell (p := ⟨w101.heap.size, 1, none⟩) (blk_lt kY1_104)).trans kY1_104
      have kC0_105 := (hbb.cell (p := ⟨w102.heap.size, 0, none⟩) (blk_lt kC0_104)).trans kC0_104
      have kC1_105 := (hbb.cell (p := ⟨w102.heap.size, 1, none⟩) (blk_lt kC1_104)).trans kC1_104
      have kP0_105 := (hbb.cell (p := ⟨w103.heap.size, 0, none⟩) (blk_lt kP0_104)).trans kP0_104
      have kP1_105 := (hbb.cell (p := ⟨w103.heap.size, 1, none⟩) (blk_lt kP1_104)).trans kP1_104
      have SY_105 := hide (SY_104.out.below hbb)
      have SC_105 := hide (SC_104.out.below hbb)
      have SP_105 := hide (SP_104.out.below hbb)
      have SE_105 := hide (SE__104.out.below hbb)
      have B_105 := hide (B_104.out.trans (hbb.mono B_104.out.size))
      clear hb hbb alY0 alY1 alC0 alC1 alP0 alP1 kY0_104 kY1_104 kC0_104 kC1_104 kP0_104 kP1_104 SY_104 SC_104 SP_104 SE__104
      have SQ_105 := ho.sl
      rw [hM] at SQ_105
      have SQ__105 := hide SQ_105
      clear ho hM SQ_105
      have alY0 : ∀ ob, (w105.alloc ob).cell? ⟨w101.heap.size, 0, none⟩ = some (.slice ya ym yc) := fun ob => Go.Lib.cell?_alloc_some ob kY0_105
      have alY1 : ∀ ob, (w105.alloc ob).cell? ⟨w101.heap.size, 1, none⟩ = some (.int .i64 YB) := fun ob => Go.Lib.cell?_alloc_some ob kY1_105
      have alC0 : ∀ ob, (w105.alloc ob).cell? ⟨w102.heap.size, 0, none⟩ = some (.slice aC N3 cC) := fun ob => Go.Lib.cell?_alloc_some ob kC0_105
      have alC1 : ∀ ob, (w105.alloc ob).cell? ⟨w102.heap.size, 1, none⟩ = some (.int .i64 CB) := fun ob => Go.Lib.cell?_alloc_some ob kC1_105
      have alP0 : ∀ ob, (w105.alloc ob).cell? ⟨w103.heap.size, 0, none⟩ = some (.slice aP N3 cP) := fun ob => Go.Lib.cell?_alloc_some ob kP0_105
      have alP1 : ∀ ob, (w105.alloc ob).cell? ⟨w103.heap.size, 1, none⟩ = some (.int .i64 CB) := fun ob => Go.Lib.cell?_alloc_some ob kP1_105
      have alE0 : ∀ ob, (w105.alloc ob).cell? ⟨w104.heap.size, 0, none⟩ = some (.slice aE N4 cE) := fun ob => Go.Lib.cell?_alloc_some ob kE0_105
      have alE1 : ∀ ob, (w105.alloc ob).cell? ⟨w104.heap.size, 1, none⟩ = some (.int .i64 DB) := fun ob => Go.Lib.cell?_alloc_some ob kE1_105
      go_wp2_with fail
      refine (D5.out _ (SY_105.out.below ((Below.refl _ _).alloc (Nat.le_refl _) _)) (HT.out.below (B_105.out.alloc B_105.out.size _))).mono ?_
      rintro e w106 ⟨rfl, hb⟩
      have kq := blkp ((hb.block w105.heap.size (by simp)).trans (blk_new _ _))
      obtain ⟨kQ0_106, kQ1_106, _, _⟩ := kq
      have Z_106 : Hid (w105.heap.size + 1 ≤ w106.heap.size) := by have h1 := hb.size; show _ ≤ _; simp at h1; omega
      have hbb := ((Below.refl w105.heap.size w105).alloc (Nat.le_refl _) (.cells #[.slice aQ N4 cQ, .int .i64 DB] 25 (0, 0))).trans (hb.mono (by simp))
      have kY0_106 := (hbb.cell (p := ⟨w101.heap.size, 0, none⟩) (blk_lt kY0_105)).trans kY0_105
      have kY1_106 := (hbb.cell (p := ⟨w101.heap.size, 1, none⟩) (blk_lt kY1_105)).trans kY1_105
      have kC0_106 := (hbb.cell (p := ⟨w102.heap.size, 0, none⟩) (blk_lt kC0_105)).trans kC0_105
      have kC1_106 := (hbb.cell (p := ⟨w102.heap.size, 1, none⟩) (blk_lt kC1_105)).trans kC1_105
      have kP0_106 := (hbb.cell (p := ⟨w103.heap.size, 0, none⟩) (blk_lt kP0_105)).trans kP0_105
      have kP1_106 := (hbb.cell (p := ⟨w103.heap.size, 1, none⟩) (blk_lt kP1_105)).trans kP1_105
      have kE0_106 := (hbb.cell (p := ⟨w104.heap.size, 0, none⟩) (blk_lt kE0_105)).trans kE0_105
      have kE1_106 := (hbb.cell (p := ⟨w104.heap.size, 1, none⟩) (blk_lt kE1_105)).trans kE1_105
      have SY_106 := hide (SY_105.out.below hbb)
      have SC_106 := hide (SC_105.out.below hbb)
      have SP_106 := hide (SP_105.out.below hbb)
      have SE_106 := hide (SE_105.out.below hbb)
      have SQ_106 := hide (SQ__105.out.below hbb)
      have B_106 := hide (B_105.out.trans (hbb.mono B_105.out.size))
      clear hb hbb alY0 alY1 alC0 alC1 alP0 alP1 alE0 alE1 kY0_105 kY1_105 kC0_105 kC1_105 kP0_105 kP1_105 kE0_105 kE1_105 SY_105 SC_105 SP_105 SE_105 SQ__105
      go_wp2_with fail
      refine (D6.out _ SY_106.out).mono ?_
      rintro e w107 ⟨rfl, hb⟩
      have hbb := hb
      have Z_107 := hide hbb.size
      have kY0_107 := (hbb.cell (p := ⟨w101.heap.size, 0, none⟩) (blk_lt kY0_106)).trans kY0_106
      have kY1_107 := (hbb.cell (p := ⟨w101.heap.size, 1, none⟩) (blk_lt kY1_106)).trans kY1_106
      have kC0_107 := (hbb.cell (p := ⟨w102.heap.size, 0, none⟩) (blk_lt kC0_106)).trans kC0_106
      have kC1_107 := (hbb.cell (p := ⟨w102.heap.size, 1, none⟩) (blk_lt kC1_106)).trans kC1_106
      have kP0_107 := (hbb.cell (p := ⟨w103.heap.size, 0, none⟩) (blk_lt kP0_106)).trans kP0_106
      have kP1_107 := (hbb.cell (p := ⟨w103.heap.size, 1, none⟩) (blk_lt kP1_106)).trans kP1_106
      have kE0_107 := (hbb.cell (p := ⟨w104.heap.size, 0, none⟩) (blk_lt kE0_106)).trans kE0_106
      have kE1_107 := (hbb.cell (p := ⟨w104.heap.size, 1, none⟩) (blk_lt kE1_106)).trans kE1_106
      have kQ0_107 := (hbb.cell (p := ⟨w105.heap.size, 0, none⟩) (blk_lt kQ0_106)).trans kQ0_106
      have kQ1_107 := (hbb.cell (p := ⟨w105.heap.size, 1, none⟩) (blk_lt kQ1_106)).trans kQ1_106
      have SY_107 := hide (SY_106.out.below hbb)
      have SC_107 := hide (SC_106.out.below hbb)
      have SP_107 := hide (SP_106.out.below hbb)
      have SE_107 := hide (SE_106.out.below hbb)
      have SQ_107 := hide (SQ_106.out.below hbb)
      have B_107 := hide (B_106.out.trans (hbb.mono B_106.out.size))
      clear hb hbb kY0_106 kY1_106 kC0_106 kC1_106 kP0_106 kP1_106 kE0_106 kE1_106 kQ0_106 kQ1_106 SY_106 SC_106 SP_106 SE_106 SQ_106
      go_wp2_with fail
      refine (samePieces_same _ _ CL N3 _ _ CB _ HN3.out SC_107.out SP_107.out (by omega) (fun i hi => Nat.le_trans (HF1.out i hi) (by omega))).mono ?_
      rintro e w108 ⟨rfl, hb⟩
      have hbb := hb
      have Z_108 := hide hbb.size
      have kY0_108 := (hbb.cell (p := ⟨w101.heap.size, 0, none⟩) (blk_lt kY0_107)).trans kY0_107
      have kY1_108 := (hbb.cell (p := ⟨w101.heap.size, 1, none⟩) (blk_lt kY1_107)).trans kY1_107
      have kC0_108 := (hbb.cell (p := ⟨w102.heap.size, 0, none⟩) (blk_lt kC0_107)).trans kC0_107
      have kC1_108 := (hbb.cell (p := ⟨w102.heap.size, 1, none⟩) (blk_lt kC1_107)).trans kC1_107
      have kP0_108 := (hbb.cell (p := ⟨w103.heap.size, 0, none⟩) (blk_lt kP0_107)).trans kP0_107
      have kP1_108 := (hbb.cell (p := ⟨w103.heap.size, 1, none⟩) (blk_lt kP1_107)).trans kP1_107
      have kE0_108 := (hbb.cell (p := ⟨w104.heap.size, 0, none⟩) (blk_lt kE0_107)).trans kE0_107
      have kE1_108 := (hbb.cell (p := ⟨w104.heap.size, 1, none⟩) (blk_lt kE1_107)).trans kE1_107
      have kQ0_108 := (hbb.cell (p := ⟨w105.heap.size, 0, none⟩) (blk_lt kQ0_107)).trans kQ0_107
      have kQ1_108 := (hbb.cell (p := ⟨w105.heap.size, 1, none⟩) (blk_lt kQ1_107)).trans kQ1_107
      have SY_108 := hide (SY_107.out.below hbb)
      have SC_108 := hide (SC_107.out.below hbb)
      have SP_108 := hide (SP_107.out.below hbb)
      have SE_108 := hide (SE_107.out.below hbb)
      have SQ_108 := hide (SQ_107.out.below hbb)
      have B_108 := hide (B_107.out.trans (hbb.mono B_107.out.size))
      clear hb hbb kY0_107 kY1_107 kC0_107 kC1_107 kP0_107 kP1_107 kE0_107 kE1_107 kQ0_107 kQ1_107 SY_107 SC_107 SP_107 SE_107 SQ_107
      go_wp2_with fail
      refine (samePieces_same _ _ DL N4 _ _ DB _ HN4.out SE_108.out SQ_108.out (by omega) (fun i hi => Nat.le_trans (HF2.out i hi) (by omega))).mono ?_
      rintro e w109 ⟨rfl, hb⟩
      have hbb := hb
      have Z_109 := hide hbb.size
      have kY0_109 := (hbb.cell (p := ⟨w101.heap.size, 0, none⟩) (blk_lt kY0_108)).trans kY0_108
      have kY1_109 := (hbb.cell (p := ⟨w101.heap.size, 1, none⟩) (blk_lt kY1_108)).trans kY1_108
      have kC0_109 := (hbb.cell (p := ⟨w102.heap.size, 0, none⟩) (blk_lt kC0_108)).trans kC0_108
      have kC1_109 := (hbb.cell (p := ⟨w102.heap.size, 1, none⟩) (blk_lt kC1_108)).trans kC1_108
      have kP0_109 := (hbb.cell (p := ⟨w103.heap.size, 0, none⟩) (blk_lt kP0_108)).trans kP0_108
      have kP1_109 := (hbb.cell (p := ⟨w103.heap.size, 1, none⟩) (blk_lt kP1_108)).trans kP1_108
      have kE0_109 := (hbb.cell (p := ⟨w104.heap.size, 0, none⟩) (blk_lt kE0_108)).trans kE0_108
      have kE1_109 := (hbb.cell (p := ⟨w104.heap.size, 1, none⟩) (blk_lt kE1_108)).trans kE1_108
      have kQ0_109 := (hbb.cell (p := ⟨w105.heap.size, 0, none⟩) (blk_lt kQ0_108)).trans kQ0_108
      have kQ1_109 := (hbb.cell (p := ⟨w105.heap.size, 1, none⟩) (blk_lt kQ1_108)).trans kQ1_108
      have SY_109 := hide (SY_108.out.below hbb)
      have SC_109 := hide (SC_108.out.below hbb)
      have SP_109 := hide (SP_108.out.below hbb)
      have SE_109 := hide (SE_108.out.below hbb)
      have SQ_109 := hide (SQ_108.out.below hbb)
      have B_109 := hide (B_108.out.trans (hbb.mono B_108.out.size))
      clear hb hbb kY0_108 kY1_108 kC0_108 kC1_108 kP0_108 kP1_108 kE0_108 kE1_108 kQ0_108 kQ1_108 SY_108 SC_108 SP_108 SE_108 SQ_108
      clear SP_109 SQ_109
      clear D1 D2 D3 D4 D5 D6
      cases kk with
      | false =>
        go_wp2_with fail
        go_ret
        exact ⟨rfl, B_109.out⟩
      | true =>
        obtain ⟨hco, hCL, hCB, hDL, hDB⟩ := HKK.out (by first | rfl | trivial)
        obtain ⟨g1, _, a1'⟩ := cutLaw hco
        obtain ⟨g2, a2'⟩ := dropLaw hco (fun i hi => HSM.out i (by have := HYL.out; omega))
        rw [← hCL, ← hCB] at g1
        rw [← hCL] at a1'
        rw [← hDL] at g2 a2'
        have g2' : GoodG DL DB := by rw [hDB]; exact g2
        obtain ⟨A1, hA1⟩ : ∃ A1, A1 = allG CL CB := ⟨_, rfl⟩
        obtain ⟨A2, hA2⟩ : ∃ A2, A2 = allG DL DB := ⟨_, rfl⟩
        obtain ⟨A3, hA3⟩ : ∃ A3, A3 = allG YL YB := ⟨_, rfl⟩
        have hsum : A1 ++ A2 = A3 := by
          rw [hA1, hA2, hA3, hDB, a2', hCB, a1', List.take_append_drop]
        obtain ⟨n1, hn1⟩ : ∃ n1, n1 = A1.length := ⟨_, rfl⟩
        obtain ⟨n2, hn2⟩ : ∃ n2, n2 = A2.length := ⟨_, rfl⟩
        obtain ⟨n3, hn3⟩ : ∃ n3, n3 = A3.length := ⟨_, rfl⟩
        have hnn : n1 + n2 = n3 := by rw [hn1, hn2, hn3, ← hsum, List.length_append]
        have hlA := allRes_len YL YB
        rw [allRes_get hco.1, ← hA3, ← hn3] at hlA
        have t1 : TxC CL := fun j hj => ⟨Nat.le_trans (g1.ps j hj).1.1 (by omega), Nat.le_trans (HF1.out j (by have := HN3.out; omega)) (by omega)⟩
        have t2 : TxC DL := fun j hj => ⟨Nat.le_trans (g2'.ps j hj).1.1 (by omega), Nat.le_trans (HF2.out j (by have := HN4.out; omega)) (by omega)⟩
        have E1 := hide (fun w hs ht => (implAllOf_any aC CL N3 cC CB w HN3.out (by omega) hs t1 ht (some A1) (by unfold allRes; rw [if_pos g1, hA1])).mono (allOf_form hn1.symm))
        have E2 := hide (fun w hs ht => (implAllOf_any aE DL N4 cE DB w HN4.out (by omega) hs t2 ht (some A2) (by unfold allRes; rw [if_pos g2', hA2])).mono (allOf_form hn2.symm))
        have E3 := hide (fun w hs ht => (implAllOf_any ya YL ym yc YB w HYL.out (by omega) hs HYZ.out.tx ht (some A3) (by unfold allRes; rw [if_pos hco.1, hA3])).mono (allOf_form hn3.symm))
        have F1 := hide (fun w hs ht => goodLog_any aC CL N3 cC CB w HN3.out (by omega) hs t1 ht true (by simp [g1]))
        have F2 := hide (fun w hs ht => goodLog_any aE DL N4 cE DB w HN4.out (by omega) hs t2 ht true (by simp [g2']))
        have HN1 := hide hn1.symm
        have HN2 := hide hn2.symm
        have HN5 := hide hn3.symm
        have HNN := hide hnn
        have HPA := hide hsum
        have hn11 : n1 ≤ 1200 := by omega
        have hn22 : n2 ≤ 1200 := by omega
        clear HKK hco hCL hCB hDL hDB g1 a1' g2 a2' g2' hA1 hA2 hA3 hsum hn1 hn2 hn3 hnn t1 t2 HF1 HF2
        go_wp2_with fail
        refine (E1.out _ SC_109.out (HT.out.below B_109.out)).mono ?_
        rintro e w110 ⟨aA, cA, rfl, hsA, hcapA, hnilA, hb⟩
        have hbb := hb
        have Z_110 := hide hbb.size
        have kY0_110 := (hbb.cell (p := ⟨w101.heap.size, 0, none⟩) (blk_lt kY0_109)).trans kY0_109
        have kY1_110 := (hbb.cell (p := ⟨w101.heap.size, 1, none⟩) (blk_lt kY1_109)).trans kY1_109
        have kC0_110 := (hbb.cell (p := ⟨w102.heap.size, 0, none⟩) (blk_lt kC0_109)).trans kC0_109
        have kC1_110 := (hbb.cell (p := ⟨w102.heap.size, 1, none⟩) (blk_lt kC1_109)).trans kC1_109
        have kP0_110 := (hbb.cell (p := ⟨w103.heap.size, 0, none⟩) (blk_lt kP0_109)).trans kP0_109
        have kP1_110 := (hbb.cell (p := ⟨w103.heap.size, 1, none⟩) (blk_lt kP1_109)).trans kP1_109
        have kE0_110 := (hbb.cell (p := ⟨w104.heap.size, 0, none⟩) (blk_lt kE0_109)).trans kE0_109
        have kE1_110 := (hbb.cell (p := ⟨w104.heap.size, 1, none⟩) (blk_lt kE1_109)).trans kE1_109
        have kQ0_110 := (hbb.cell (p := ⟨w105.heap.size, 0, none⟩) (blk_lt kQ0_109)).trans kQ0_109
        have kQ1_110 := (hbb.cell (p := ⟨w105.heap.size, 1, none⟩) (blk_lt kQ1_109)).trans kQ1_109
        have SY_110 := hide (SY_109.out.below hbb)
        have SC_110 := hide (SC_109.out.below hbb)
        have SE_110 := hide (SE_109.out.below hbb)
        have B_110 := hide (B_109.out.trans (hbb.mono B_109.out.size))
        clear hb hbb kY0_109 kY1_109 kC0_109 kC1_109 kP0_109 kP1_109 kE0_109 kE1_109 kQ0_109 kQ1_109 SY_109 SC_109 SE_109
        have SA_110 := hide hsA
        clear hsA hcapA hnilA
        go_wp2_with fail
        refine (E2.out _ SE_110.out (HT.out.below B_110.out)).mono ?_
        rintro e w111 ⟨aD, cD, rfl, hsD, hcapD, hnilD, hb⟩
        have hbb := hb
        have Z_111 := hide hbb.size
        have kY0_111 := (hbb.cell (p := ⟨w101.heap.size, 0, none⟩) (blk_lt kY0_110)).trans kY0_110
        have kY1_111 := (hbb.cell (p := ⟨w101.heap.size, 1, none⟩) (blk_lt kY1_110)).trans kY1_110
        have kC0_111 := (hbb.cell (p := ⟨w102.heap.size, 0, none⟩) (blk_lt kC0_110)).trans kC0_110
        have kC1_111 := (hbb.cell (p := ⟨w102.heap.size, 1, none⟩) (blk_lt kC1_110)).trans kC1_110
        have kP0_111 := (hbb.cell (p := ⟨w103.heap.size, 0, none⟩) (blk_lt kP0_110)).trans kP0_110
        have kP1_111 := (hbb.cell (p := ⟨w103.heap.size, 1, none⟩) (blk_lt kP1_110)).trans kP1_110
        have kE0_111 := (hbb.cell (p := ⟨w104.heap.size, 0, none⟩) (blk_lt kE0_110)).trans kE0_110
        have kE1_111 := (hbb.cell (p := ⟨w104.heap.size, 1, none⟩) (blk_lt kE1_110)).trans kE1_110
        have kQ0_111 := (hbb.cell (p := ⟨w105.heap.size, 0, none⟩) (blk_lt kQ0_110)).trans kQ0_110
        have kQ1_111 := (hbb.cell (p := ⟨w105.heap.size, 1, none⟩) (blk_lt kQ1_110)).trans kQ1_110
        have SY_111 := hide (SY_110.out.below hbb)
        have SC_111 := hide (SC_110.out.below hbb)
        have SE_111 := hide (SE_110.out.below hbb)
        have SA_111 := hide (SA_110.out.below hbb)
        have B_111 := hide (B_110.out.trans (hbb.mono B_110.out.size))
        clear hb hbb kY0_110 kY1_110 kC0_110 kC1_110 kP0_110 kP1_110 kE0_110 kE1_110 kQ0_110 kQ1_110 SY_110 SC_110 SE_110 SA_110
        have SD_111 := hide hsD
        clear hsD hcapD hnilD
        go_wp2_with fail
        refine (E3.out _ SY_111.out (HT.out.below B_111.out)).mono ?_
        rintro e w112 ⟨aT, cT, rfl, hsT, hcapT, hnilT, hb⟩
        have hbb := hb
        have Z_112 := hide hbb.size
        have kY0_112 := (hbb.cell (p := ⟨w101.heap.size, 0, none⟩) (blk_lt kY0_111)).trans kY0_111
        have kY1_112 := (hbb.cell (p := ⟨w101.heap.size, 1, none⟩) (blk_lt kY1_111)).trans kY1_111
        have kC0_112 := (hbb.cell (p := ⟨w102.heap.size, 0, none⟩) (blk_lt kC0_111)).trans kC0_111
        have kC1_112 := (hbb.cell (p := ⟨w102.heap.size, 1, none⟩) (blk_lt kC1_111)).trans kC1_111
        have kP0_112 := (hbb.cell (p := ⟨w103.heap.size, 0, none⟩) (blk_lt kP0_111)).trans kP0_111
        have kP1_112 := (hbb.cell (p := ⟨w103.heap.size, 1, none⟩) (blk_lt kP1_111)).trans kP1_111
        have kE0_112 := (hbb.cell (p := ⟨w104.heap.size, 0, none⟩) (blk_lt kE0_111)).trans kE0_111
        have kE1_112 := (hbb.cell (p := ⟨w104.heap.size, 1, none⟩) (blk_lt kE1_111)).trans kE1_111
        have kQ0_112 := (hbb.cell (p := ⟨w105.heap.size, 0, none⟩) (blk_lt kQ0_111)).trans kQ0_111
        have kQ1_112 := (hbb.cell (p := ⟨w105.heap.size, 1, none⟩) (blk_lt kQ1_111)).trans kQ1_111
        have SY_112 := hide (SY_111.out.below hbb)
        have SC_112 := hide (SC_111.out.below hbb)
        have SE_112 := hide (SE_111.out.below hbb)
        have SA_112 := hide (SA_111.out.below hbb)
        have SD_112 := hide (SD_111.out.below hbb)
        have B_112 := hide (B_111.out.trans (hbb.mono B_111.out.size))
        clear hb hbb kY0_111 kY1_111 kC0_111 kC1_111 kP0_111 kP1_111 kE0_111 kE1_111 kQ0_111 kQ1_111 SY_111 SC_111 SE_111 SA_111 SD_111
        have ST_112 := hide hsT
        clear hsT hcapT hnilT
        go_wp2_with fail
        refine (F1.out _ SC_112.out (HT.out.below B_112.out)).mono ?_
        rintro e w113 ⟨rfl, hb⟩
        have hbb := hb
        have Z_113 := hide hbb.size
        have kY0_113 := (hbb.cell (p := ⟨w101.heap.size, 0, none⟩) (blk_lt kY0_112)).trans kY0_112
        have kY1_113 := (hbb.cell (p := ⟨w101.heap.size, 1, none⟩) (blk_lt kY1_112)).trans kY1_112
        have kC0_113 := (hbb.cell (p := ⟨w102.heap.size, 0, none⟩) (blk_lt kC0_112)).trans kC0_112
        have kC1_113 := (hbb.cell (p := ⟨w102.heap.size, 1, none⟩) (blk_lt kC1_112)).trans kC1_112
        have kP0_113 := (hbb.cell (p := ⟨w103.heap.size, 0, none⟩) (blk_lt kP0_112)).trans kP0_112
        have kP1_113 := (hbb.cell (p := ⟨w103.heap.size, 1, none⟩) (blk_lt kP1_112)).trans kP1_112
        have kE0_113 := (hbb.cell (p := ⟨w104.heap.size, 0, none⟩) (blk_lt kE0_112)).trans kE0_112
        have kE1_113 := (hbb.cell (p := ⟨w104.heap.size, 1, none⟩) (blk_lt kE1_112)).trans kE1_112
        have kQ0_113 := (hbb.cell (p := ⟨w105.heap.size, 0, none⟩) (blk_lt kQ0_112)).trans kQ0_112
        have kQ1_113 := (hbb.cell (p := ⟨w105.heap.size, 1, none⟩) (blk_lt kQ1_112)).trans kQ1_112
        have SY_113 := hide (SY_112.out.below hbb)
        have SC_113 := hide (SC_112.out.below hbb)
        have SE_113 := hide (SE_112.out.below hbb)
        have SA_113 := hide (SA_112.out.below hbb)
        have SD_113 := hide (SD_112.out.below hbb)
        have ST_113 := hide (ST_112.out.below hbb)
        have B_113 := hide (B_112.out.trans (hbb.mono B_112.out.size))
        clear hb hbb kY0_112 kY1_112 kC0_112 kC1_112 kP0_112 kP1_112 kE0_112 kE1_112 kQ0_112 kQ1_112 SY_112 SC_112 SE_112 SA_112 SD_112 ST_112
        go_wp2_with fail
        refine (F2.out _ SE_113.out (HT.out.below B_113.out)).mono ?_
        rintro e w114 ⟨rfl, hb⟩
        have hbb := hb
        have Z_114 := hide hbb.size
        have kY0_114 := (hbb.cell (p := ⟨w101.heap.size, 0, none⟩) (blk_lt kY0_113)).trans kY0_113
        have kY1_114 := (hbb.cell (p := ⟨w101.heap.size, 1, none⟩) (blk_lt kY1_113)).trans kY1_113
        have kC0_114 := (hbb.cell (p := ⟨w102.heap.size, 0, none⟩) (blk_lt kC0_113)).trans kC0_113
        have kC1_114 := (hbb.cell (p := ⟨w102.heap.size, 1, none⟩) (blk_lt kC1_113)).trans kC1_113
        have kP0_114 := (hbb.cell (p := ⟨w103.heap.size, 0, none⟩) (blk_lt kP0_113)).trans kP0_113
        have kP1_114 := (hbb.cell (p := ⟨w103.heap.size, 1, none⟩) (blk_lt kP1_113)).trans kP1_113
        have kE0_114 := (hbb.cell (p := ⟨w104.heap.size, 0, none⟩) (blk_lt kE0_113)).trans kE0_113
        have kE1_114 := (hbb.cell (p := ⟨w104.heap.size, 1, none⟩) (blk_lt kE1_113)).trans kE1_113
        have kQ0_114 := (hbb.cell (p := ⟨w105.heap.size, 0, none⟩) (blk_lt kQ0_113)).trans kQ0_113
        have kQ1_114 := (hbb.cell (p := ⟨w105.heap.size, 1, none⟩) (blk_lt kQ1_113)).trans kQ1_113
        have SY_114 := hide (SY_113.out.below hbb)
        have SC_114 := hide (SC_113.out.below hbb)
        have SE_114 := hide (SE_113.out.below hbb)
        have SA_114 := hide (SA_113.out.below hbb)
        have SD_114 := hide (SD_113.out.below hbb)
        have ST_114 := hide (ST_113.out.below hbb)
        have B_114 := hide (B_113.out.trans (hbb.mono B_113.out.size))
        clear hb hbb kY0_113 kY1_113 kC0_113 kC1_113 kP0_113 kP1_113 kE0_113 kE1_113 kQ0_113 kQ1_113 SY_113 SC_113 SE_113 SA_113 SD_113 ST_113
        clear E1 E2 E3 F1 F2
        have OE := hide (own_emptyT w114 w114.heap.size (Nat.le_refl _))
        have SA1 := hide (SA_114.out.below ((Below.refl w114.heap.size w114).alloc (Nat.le_refl _) (.cells #[] 9)))
        have hz7 : w114.heap.size ≤ (w114.alloc (.cells #[] 9)).heap.size := by simp
        go_wp2_with (first
          | (at_builtin; refine wpList_append_txt rfl _ _ rfl n1 w114.heap.size (some ⟨w114.heap.size, 0, none⟩) aA 0 0 n1 cA [] A1 (Nat.zero_add _) rfl HN1.out (by omega) (by omega) rfl OE.out rfl SA1.out hz7 ?_)
          | go_in)
        intro a8 c8 v8 ho8 hg8
        have hb8 : Below w114.heap.size w114 v8 := ((Below.refl _ _).alloc (Nat.le_refl _) _).grown hg8 hz7 (fun g hg => by cases hg; exact Nat.le_refl _)
        have O8 := hide ho8
        have HB8 := hide hb8
        have SC8 := hide (SD_114.out.below hb8)
        have hz8 : w114.heap.size ≤ v8.heap.size := hb8.size
        clear hb8 ho8 hg8 OE SA1 hz7
        go_wp2_with (first
          | (at_builtin; refine wpList_append_txt rfl _ _ rfl n3 w114.heap.size a8 aD n1 c8 n2 cD ([] ++ A1) A2 HNN.out HN1.out HN2.out (by omega) (by omega) rfl O8.out rfl SC8.out hz8 ?_)
          | go_in)
        intro a9 c9 v9 ho9 hg9
        have hb9 : Below w114.heap.size w114 v9 := HB8.out.trans ((Below.refl _ _).grown hg9 hz8 (fun g hg => (O8.out.lt g hg).1))
        try rw [List.nil_append] at ho9
        rw [show List.map Value.string A1 ++ List.map Value.string A2 = mapT A3 from by rw [← HPA.out]; simp [mapT]] at ho9
        obtain ⟨_, _, e9, s9, _⟩ := own_formT ho9
        cases e9
        have L9 := hide (ST_114.out.below hb9)
        have B99 := hide (B_114.out.trans (hb9.mono B_114.out.size))
        have S9 := hide s9
        clear hb9 ho9 hg9 s9 O8 SC8 HB8
        go_wp2_with fail
        refine (sameTexts_same _ _ A3 n3 _ _ _ HN5.out S9.out L9.out (by omega)).mono ?_
        rintro e v10 ⟨rfl, hb⟩
        have B109 := hide (B99.out.trans (hb.mono B99.out.size))
        clear hb
        go_wp2
        go_ret
        exact ⟨rfl, B109.out⟩
end Go.Proofs.YtbcljhafdpnjbabDoor.fnLogs
