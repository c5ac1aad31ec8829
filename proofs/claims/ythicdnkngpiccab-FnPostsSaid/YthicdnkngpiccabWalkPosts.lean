/-
  The walk of the law FnPosts: it returns true at every two lists of bytes; memory that was there stays as it was.
-/
import Derived.Test.YthicdnkngpiccabL4LawMath
import Derived.Test.YthicdnkngpiccabL4Same
import Derived.Test.YthicdnkngpiccabL4Posts
import Derived.Test.YthicdnkngpiccabL4Draws
import Derived.Deep.DeepCutAuto
namespace Go.Proofs.Ythicdnkngpiccab.fnPosts
open Go.RowKit L1 L4
set_option linter.unusedVariables false

/-- What a list tells that is one just where another one is. -/
theorem some_of {r : Option (List Int)} {ok : Bool} {xs : List Int} (h1 : ok = r.isSome) (h2 : xs = r.getD []) (h : ok = true) : r = some xs := by
  cases r with
  | none => rw [h] at h1; cases h1
  | some s => rw [h2]; rfl
theorem meet_good {s : Bool} {a b zs : List Int} (h : meetRes s a b = some zs) : (GoodP a ∧ GoodP b) ∧ zs = those b s a := by
  unfold meetRes at h
  split at h
  · rename_i hg; cases h; exact ⟨hg, rfl⟩
  · cases h
theorem meet_of {s : Bool} {a b : List Int} (ha : GoodP a) (hb : GoodP b) : meetRes s a b = some (those b s a) := by unfold meetRes; rw [if_pos ⟨ha, hb⟩]
theorem join_good {a b zs : List Int} (h : joinRes a b = some zs) : zs = joinL a b := by
  unfold joinRes at h
  split at h
  · cases h; rfl
  · cases h
theorem leap_good {l : List Int} {f n : Int} {k : Nat} (h : leapRes l f n = some k) : ∃ g : Nat, f = (g : Int) ∧ g ≤ l.length ∧ k = leap l g n := by
  unfold leapRes at h
  split at h
  · rename_i hg
    cases h
    exact ⟨f.toNat, by omega, by omega, rfl⟩
  · cases h

set_option maxRecDepth 100000 in
set_option maxHeartbeats 8000000 in
theorem walk (a0 : Option Addr) (len0 cap0 : Nat) (z0 : List Int) (a1 : Option Addr) (len1 cap1 : Nat) (z1 : List Int) (w : World) (w0 : IsRow .u8 w a0 len0 cap0 z0) (hr0 : len0 ≤ 140737488351232) (w1 : IsRow .u8 w a1 len1 cap1 z1) (hr1 : len1 ≤ 140737488351232) :
    Calls Try.prog 3 #[.slice a0 len0 cap0, .slice a1 len1 cap1] w fun e w' => e = .returned (.bool true) ∧ Below w.heap.size w w' := by
  have S0 := hide (slb_of_row w0)
  have S1 := hide (slb_of_row w1)
  clear w0 w1
  by_cases hsz : 1048576 < (len0 : Int) + (len1 : Int)
  · go_enter Try.func3, Try.ntmps3
    go_wp2
    go_ret
    exact ⟨rfl, Below.refl _ _⟩
  · have hl0 : len0 ≤ 1048576 := by omega
    have hl1 : len1 ≤ 1048576 := by omega
    go_enter Try.func3, Try.ntmps3
    go_wp2_with fail
    refine (drawMeet_any a0 len0 cap0 _ S0.out hl0).mono ?_
    rintro e v1 ⟨rv, pv, rfl, ⟨xs, hx, ho⟩, ⟨ys, hy, hp⟩, hb⟩
    obtain ⟨n, hn⟩ : ∃ n, n = xs.length := ⟨_, rfl⟩
    obtain ⟨m, hm⟩ : ∃ m, m = ys.length := ⟨_, rfl⟩
    rw [← hn] at ho hx
    rw [← hm] at hp hy
    obtain ⟨ra, rc, rfl, sr, _⟩ := own_formC ho
    obtain ⟨pa, pc, rfl, sp, _⟩ := own_formC hp
    have HN := hide hn.symm
    have HM := hide hm.symm
    clear hn hm ho hp
    have hlenM := meetRes_len true xs ys
    obtain ⟨rM, hrM⟩ : ∃ r, r = meetRes true xs ys := ⟨_, rfl⟩
    have c1 := fun (wx : World) (h1 : SlC wx ra n rc xs) (h2 : SlC wx pa m pc ys) => implMeetPosts_any ra xs n rc pa ys m pc wx HN.out h1 (by omega) HM.out h2 (by omega) rM hrM
    have c2 := fun (wx : World) (h1 : SlC wx ra n rc xs) (h2 : SlC wx pa m pc ys) => specMeetPosts_any ra xs n rc pa ys m pc wx HN.out h1 (by omega) HM.out h2 (by omega) rM hrM
    obtain ⟨zM, hzM⟩ : ∃ zs, zs = rM.getD [] := ⟨_, rfl⟩
    obtain ⟨nM, hnM⟩ : ∃ k, k = zM.length := ⟨_, rfl⟩
    obtain ⟨okM, hokM⟩ : ∃ b, b = rM.isSome := ⟨_, rfl⟩
    simp only [RetL, ← hzM, ← hnM, ← hokM] at c1 c2
    rw [← hrM, ← hzM, ← hnM] at hlenM
    have CIM := hide c1
    have CSM := hide c2
    have HRM := hide hrM
    have HZM := hide hzM
    have HNM := hide hnM.symm
    have HOKM := hide hokM
    clear c1 c2 hrM hzM hnM hokM
    have hlenJ := joinRes_len xs ys
    obtain ⟨rJ, hrJ⟩ : ∃ r, r = joinRes xs ys := ⟨_, rfl⟩
    have c1 := fun (wx : World) (h1 : SlC wx ra n rc xs) (h2 : SlC wx pa m pc ys) => implJoinPosts_any ra xs n rc pa ys m pc wx HN.out h1 (by omega) HM.out h2 (by omega) rJ hrJ
    have c2 := fun (wx : World) (h1 : SlC wx ra n rc xs) (h2 : SlC wx pa m pc ys) => specJoinPosts_any ra xs n rc pa ys m pc wx HN.out h1 (by omega) HM.out h2 (by omega) rJ hrJ
    obtain ⟨zJ, hzJ⟩ : ∃ zs, zs = rJ.getD [] := ⟨_, rfl⟩
    obtain ⟨nJ, hnJ⟩ : ∃ k, k = zJ.length := ⟨_, rfl⟩
    obtain ⟨okJ, hokJ⟩ : ∃ b, b = rJ.isSome := ⟨_, rfl⟩
    simp only [RetL, ← hzJ, ← hnJ, ← hokJ] at c1 c2
    rw [← hrJ, ← hzJ, ← hnJ] at hlenJ
    have CIJ := hide c1
    have CSJ := hide c2
    have HRJ := hide hrJ
    have HZJ := hide hzJ
    have HNJ := hide hnJ.symm
    have HOKJ := hide hokJ
    clear c1 c2 hrJ hzJ hnJ hokJ
    have hlenL := meetRes_len false xs ys
    obtain ⟨rL, hrL⟩ : ∃ r, r = meetRes false xs ys := ⟨_, rfl⟩
    have c1 := fun (wx : World) (h1 : SlC wx ra n rc xs) (h2 : SlC wx pa m pc ys) => implLessPosts_any ra xs n rc pa ys m pc wx HN.out h1 (by omega) HM.out h2 (by omega) rL hrL
    have c2 := fun (wx : World) (h1 : SlC wx ra n rc xs) (h2 : SlC wx pa m pc ys) => specLessPosts_any ra xs n rc pa ys m pc wx HN.out h1 (by omega) HM.out h2 (by omega) rL hrL
    obtain ⟨zL, hzL⟩ : ∃ zs, zs = rL.getD [] := ⟨_, rfl⟩
    obtain ⟨nL, hnL⟩ : ∃ k, k = zL.length := ⟨_, rfl⟩
    obtain ⟨okL, hokL⟩ : ∃ b, b = rL.isSome := ⟨_, rfl⟩
    simp only [RetL, ← hzL, ← hnL, ← hokL] at c1 c2
    rw [← hrL, ← hzL, ← hnL] at hlenL
    have CIL := hide c1
    have CSL := hide c2
    have HRL := hide hrL
    have HZL := hide hzL
    have HNL := hide hnL.symm
    have HOKL := hide hokL
    clear c1 c2 hrL hzL hnL hokL
    obtain ⟨gd, hgd⟩ : ∃ gd : Bool, gd = true ↔ GoodP xs := by classical exact ⟨decide (GoodP xs), by simp⟩
    have HGD := hide hgd
    clear hgd
    have B0 := hide hb
    have R0 := hide sr
    have Q0 := hide sp
    clear hb sr sp
    go_wp2_with fail
    refine (CIM.out _ R0.out Q0.out).mono ?_
    rintro e v2 ⟨vv, rfl, hoo, hb⟩
    obtain ⟨aXM, cXM, rfl, ss, _⟩ := own_formC hoo
    have bb := hide hb
    have B1 := hide (B0.out.trans (bb.out.mono B0.out.size))
    clear B0
    have R1 := hide (R0.out.below bb.out)
    clear R0
    have Q1 := hide (Q0.out.below bb.out)
    clear Q0
    clear bb
    have XM0 := hide ss
    clear hb hoo ss
    go_wp2_with fail
    refine (CSM.out _ R1.out Q1.out).mono ?_
    rintro e v3 ⟨vv, rfl, hoo, hb⟩
    obtain ⟨aYM, cYM, rfl, ss, _⟩ := own_formC hoo
    have bb := hide hb
    have B2 := hide (B1.out.trans (bb.out.mono B1.out.size))
    clear B1
    have R2 := hide (R1.out.below bb.out)
    clear R1
    have Q2 := hide (Q1.out.below bb.out)
    clear Q1
    have XM1 := hide (XM0.out.below bb.out)
    clear XM0
    clear bb
    have YM0 := hide ss
    clear hb hoo ss
    go_wp2_with fail
    refine (CIJ.out _ R2.out Q2.out).mono ?_
    rintro e v4 ⟨vv, rfl, hoo, hb⟩
    obtain ⟨aXJ, cXJ, rfl, ss, _⟩ := own_formC hoo
    have bb := hide hb
    have B3 := hide (B2.out.trans (bb.out.mono B2.out.size))
    clear B2
    have R3 := hide (R2.out.below bb.out)
    clear R2
    have Q3 := hide (Q2.out.below bb.out)
    clear Q2
    have XM2 := hide (XM1.out.below bb.out)
    clear XM1
    have YM1 := hide (YM0.out.below bb.out)
    clear YM0
    clear bb
    have XJ0 := hide ss
    clear hb hoo ss
    go_wp2_with fail
    refine (CSJ.out _ R3.out Q3.out).mono ?_
    rintro e v5 ⟨vv, rfl, hoo, hb⟩
    obtain ⟨aYJ, cYJ, rfl, ss, _⟩ := own_formC hoo
    have bb := hide hb
    have B4 := hide (B3.out.trans (bb.out.mono B3.out.size))
    clear B3
    have R4 := hide (R3.out.below bb.out)
    clear R3
    have Q4 := hide (Q3.out.below bb.out)
    clear Q3
    have XM3 := hide (XM2.out.below bb.out)
    clear XM2
    have YM2 := hide (YM1.out.below bb.out)
    clear YM1
    have XJ1 := hide (XJ0.out.below bb.out)
    clear XJ0
    clear bb
    have YJ0 := hide ss
    clear hb hoo ss
    go_wp2_with fail
    refine (CIL.out _ R4.out Q4.out).mono ?_
    rintro e v6 ⟨vv, rfl, hoo, hb⟩
    obtain ⟨aXL, cXL, rfl, ss, _⟩ := own_formC hoo
    have bb := hide hb
    have B5 := hide (B4.out.trans (bb.out.mono B4.out.size))
    clear B4
    have R5 := hide (R4.out.below bb.out)
    clear R4
    have Q5 := hide (Q4.out.below bb.out)
    clear Q4
    have XM4 := hide (XM3.out.below bb.out)
    clear XM3
    have YM3 := hide (YM2.out.below bb.out)
    clear YM2
    have XJ2 := hide (XJ1.out.below bb.out)
    clear XJ1
    have YJ1 := hide (YJ0.out.below bb.out)
    clear YJ0
    clear bb
    have XL0 := hide ss
    clear hb hoo ss
    go_wp2_with fail
    refine (CSL.out _ R5.out Q5.out).mono ?_
    rintro e v7 ⟨vv, rfl, hoo, hb⟩
    obtain ⟨aYL, cYL, rfl, ss, _⟩ := own_formC hoo
    have bb := hide hb
    have B6 := hide (B5.out.trans (bb.out.mono B5.out.size))
    clear B5
    have R6 := hide (R5.out.below bb.out)
    clear R5
    have Q6 := hide (Q5.out.below bb.out)
    clear Q5
    have XM5 := hide (XM4.out.below bb.out)
    clear XM4
    have YM4 := hide (YM3.out.below bb.out)
    clear YM3
    have XJ3 := hide (XJ2.out.below bb.out)
    clear XJ2
    have YJ2 := hide (YJ1.out.below bb.out)
    clear YJ1
    have XL1 := hide (XL0.out.below bb.out)
    clear XL0
    clear bb
    have YL0 := hide ss
    clear hb hoo ss
    go_wp2_with fail
    refine (sameInts_any _ _ zM nM _ _ _ HNM.out XM5.out.sl YM4.out.sl (by omega)).mono ?_
    rintro e v8 ⟨rfl, hb⟩
    have bb := hide hb
    have B7 := hide (B6.out.trans (bb.out.mono B6.out.size))
    clear B6
    have R7 := hide (R6.out.below bb.out)
    clear R6
    have Q7 := hide (Q6.out.below bb.out)
    clear Q6
    have XM6 := hide (XM5.out.below bb.out)
    clear XM5
    clear YM4
    have XJ4 := hide (XJ3.out.below bb.out)
    clear XJ3
    have YJ3 := hide (YJ2.out.below bb.out)
    clear YJ2
    have XL2 := hide (XL1.out.below bb.out)
    clear XL1
    have YL1 := hide (YL0.out.below bb.out)
    clear YL0
    clear bb
    clear hb
    go_wp2_with fail
    refine (sameInts_any _ _ zJ nJ _ _ _ HNJ.out XJ4.out.sl YJ3.out.sl (by omega)).mono ?_
    rintro e v9 ⟨rfl, hb⟩
    have bb := hide hb
    have B8 := hide (B7.out.trans (bb.out.mono B7.out.size))
    clear B7
    have R8 := hide (R7.out.below bb.out)
    clear R7
    have Q8 := hide (Q7.out.below bb.out)
    clear Q7
    have XM7 := hide (XM6.out.below bb.out)
    clear XM6
    have XJ5 := hide (XJ4.out.below bb.out)
    clear XJ4
    clear YJ3
    have XL3 := hide (XL2.out.below bb.out)
    clear XL2
    have YL2 := hide (YL1.out.below bb.out)
    clear YL1
    clear bb
    clear hb
    go_wp2_with fail
    refine (sameInts_any _ _ zL nL _ _ _ HNL.out XL3.out.sl YL2.out.sl (by omega)).mono ?_
    rintro e v10 ⟨rfl, hb⟩
    have bb := hide hb
    have B9 := hide (B8.out.trans (bb.out.mono B8.out.size))
    clear B8
    have R9 := hide (R8.out.below bb.out)
    clear R8
    have Q9 := hide (Q8.out.below bb.out)
    clear Q8
    have XM8 := hide (XM7.out.below bb.out)
    clear XM7
    have XJ6 := hide (XJ5.out.below bb.out)
    clear XJ5
    have XL4 := hide (XL3.out.below bb.out)
    clear XL3
    clear YL2
    clear bb
    clear hb
    go_wp2_with fail
    refine (goodPosts_any _ xs n _ _ HN.out R9.out.sl (by omega) gd HGD.out).mono ?_
    rintro e v11 ⟨rfl, rfl⟩
    go_wp2_with fail
    refine (specGoodPosts_any _ xs n _ _ HN.out R9.out.sl (by omega) gd HGD.out).mono ?_
    rintro e v12 ⟨rfl, rfl⟩
    go_upto_if 115 with fail
    go_cut [] (fun wx => Below w.heap.size w wx)
    case first =>
      cases okM with
      | false =>
        go_wp2_with fail
        go_meet
        exact B9.out
      | true =>
        have hM := some_of HOKM.out HZM.out rfl
        rw [HRM.out] at hM
        obtain ⟨⟨gx, gy⟩, eM⟩ := meet_good hM
        have hL2 := meet_of (s := false) gx gy
        have hokL : okL = true := by rw [HOKL.out, HRL.out, hL2]; rfl
        have eL : zL = those ys false xs := by rw [HZL.out, HRL.out, hL2]; rfl
        subst hokL
        have gM : GoodP zM := by rw [eM]; exact good_those gx
        have gL : GoodP zL := by rw [eL]; exact good_those gx
        have q1 : some zM = meetRes false xs zL := by rw [meet_of gx gL, eM, eL, less_less]
        have q2 : some zM = meetRes true ys xs := by rw [meet_of gy gx, eM, meet_swap (good_rise gx) (good_rise gy)]
        have q3 : (nM : Int) + (nL : Int) = (n : Int) := by
          have h1 := part_len xs ys
          have h2 := HNM.out
          have h3 := HNL.out
          have h4 := HN.out
          rw [← eM, ← eL] at h1
          omega
        have q4 : okJ = true → (nJ : Int) = (nL : Int) + (m : Int) := fun h => by
          have h0 := some_of HOKJ.out HZJ.out h
          rw [HRJ.out] at h0
          have h1 := join_count (good_rise gx) (good_rise gy)
          have h2 := HNJ.out
          have h3 := HNL.out
          have h4 := HM.out
          rw [← join_good h0, ← eL] at h1
          omega
        have c1 := fun (wx : World) (h1 : SlC wx ra n rc xs) (h2 : SlC wx aXL nL cXL zL) => implLessPosts_any ra xs n rc aXL zL nL cXL wx HN.out h1 (by omega) HNL.out h2 (by omega) _ q1
        have c2 := fun (wx : World) (h1 : SlC wx pa m pc ys) (h2 : SlC wx ra n rc xs) => implMeetPosts_any pa ys m pc ra xs n rc wx HM.out h1 (by omega) HN.out h2 (by omega) _ q2
        simp only [RetL, Option.isSome_some, Option.getD_some, HNM.out] at c1 c2
        have CA := hide c1
        have CB := hide c2
        have GM := hide gM
        have Q4 := hide q4
        clear c1 c2 hM gx gy eM hL2 eL gM gL q1 q2 q4
        go_wp2_with fail
        refine (CA.out _ R9.out XL4.out).mono ?_
        rintro e v13 ⟨vv, rfl, hoo, hb⟩
        obtain ⟨aA, cA, rfl, ss, _⟩ := own_formC hoo
        have bb := hide hb
        have B10 := hide (B9.out.trans (bb.out.mono B9.out.size))
        clear B9
        have R10 := hide (R9.out.below bb.out)
        clear R9
        have Q10 := hide (Q9.out.below bb.out)
        clear Q9
        have XM9 := hide (XM8.out.below bb.out)
        clear XM8
        have XJ7 := hide (XJ6.out.below bb.out)
        clear XJ6
        have XL5 := hide (XL4.out.below bb.out)
        clear XL4
        clear bb
        have XA0 := hide ss
        clear hb hoo ss CA
        go_wp2_with fail
        refine (CB.out _ Q10.out R10.out).mono ?_
        rintro e v14 ⟨vv, rfl, hoo, hb⟩
        obtain ⟨aB, cB, rfl, ss, _⟩ := own_formC hoo
        have bb := hide hb
        have B11 := hide (B10.out.trans (bb.out.mono B10.out.size))
        clear B10
        have R11 := hide (R10.out.below bb.out)
        clear R10
        have Q11 := hide (Q10.out.below bb.out)
        clear Q10
        have XM10 := hide (XM9.out.below bb.out)
        clear XM9
        have XJ8 := hide (XJ7.out.below bb.out)
        clear XJ7
        have XL6 := hide (XL5.out.below bb.out)
        clear XL5
        have XA1 := hide (XA0.out.below bb.out)
        clear XA0
        clear bb
        have XB0 := hide ss
        clear hb hoo ss CB
        go_wp2_with fail
        refine (goodPosts_any _ zM nM _ _ HNM.out XM10.out.sl (by omega) true (iff_of_true rfl GM.out)).mono ?_
        rintro e v15 ⟨rfl, rfl⟩
        go_wp2_with fail
        refine (sameInts_any _ _ zM nM _ _ _ HNM.out XA1.out.sl XM10.out.sl (by omega)).mono ?_
        rintro e v16 ⟨rfl, hb⟩
        have bb := hide hb
        have B12 := hide (B11.out.trans (bb.out.mono B11.out.size))
        clear B11
        have R12 := hide (R11.out.below bb.out)
        clear R11
        have Q12 := hide (Q11.out.below bb.out)
        clear Q11
        have XM11 := hide (XM10.out.below bb.out)
        clear XM10
        have XJ9 := hide (XJ8.out.below bb.out)
        clear XJ8
        have XL7 := hide (XL6.out.below bb.out)
        clear XL6
        clear XA1
        have XB1 := hide (XB0.out.below bb.out)
        clear XB0
        clear bb
        clear hb
        go_wp2_with fail
        refine (sameInts_any _ _ zM nM _ _ _ HNM.out XB1.out.sl XM11.out.sl (by omega)).mono ?_
        rintro e v17 ⟨rfl, hb⟩
        have bb := hide hb
        have B13 := hide (B12.out.trans (bb.out.mono B12.out.size))
        clear B12
        have R13 := hide (R12.out.below bb.out)
        clear R12
        have Q13 := hide (Q12.out.below bb.out)
        clear Q12
        clear XM11
        have XJ10 := hide (XJ9.out.below bb.out)
        clear XJ9
        have XL8 := hide (XL7.out.below bb.out)
        clear XL7
        clear XB1
        clear bb
        clear hb
        cases okJ with
        | false =>
          go_wp2_with fail
          go_meet
          exact B13.out
        | true =>
          have q5 := Q4.out rfl
          go_wp2_with fail
          go_meet
          exact B13.out
    case rest =>
      have B0 := hide hcut
      clear hcut
      go_wp2_with fail
      refine (drawLeap_any a1 len1 cap1 _ (Slb.below S1.out B0.out) hl1).mono ?_
      rintro e x1 ⟨xv, f, t, rfl, hf, ht, ⟨ls, hz, ho⟩, hb⟩
      obtain ⟨k1, hk1⟩ : ∃ k, k = ls.length := ⟨_, rfl⟩
      rw [← hk1] at ho hz
      obtain ⟨la, lc, rfl, sl, _⟩ := own_formC ho
      have bb := hide hb
      have B1 := hide (B0.out.trans (bb.out.mono B0.out.size))
      clear B0
      clear bb
      have T0 := hide sl
      have HK := hide hk1.symm
      clear hb ho sl hk1
      obtain ⟨r, hr⟩ : ∃ r, r = leapRes ls f t := ⟨_, rfl⟩
      have c1 := fun (wx : World) (h1 : SlC wx la k1 lc ls) => implLeapFrom_any la ls k1 lc f t wx HK.out h1 (by omega) r hr
      have c2 := fun (wx : World) (h1 : SlC wx la k1 lc ls) => specLeapFrom_any la ls k1 lc f t wx HK.out h1 (by omega) r hr
      cases r with
      | none =>
        simp only [leapVal] at c1 c2
        have CA := hide c1
        have CB := hide c2
        clear c1 c2 hr
        go_wp2_with fail
        refine (CA.out _ T0.out).mono ?_
        rintro e y1 ⟨rfl, hb⟩
        have bb := hide hb
        have B2 := hide (B1.out.trans (bb.out.mono B1.out.size))
        clear B1
        have T1 := hide (T0.out.below bb.out)
        clear T0
        clear bb
        clear hb CA
        go_wp2_with fail
        refine (CB.out _ T1.out).mono ?_
        rintro e y2 ⟨rfl, hb⟩
        have bb := hide hb
        have B3 := hide (B2.out.trans (bb.out.mono B2.out.size))
        clear B2
        have T2 := hide (T1.out.below bb.out)
        clear T1
        clear bb
        clear hb CB
        go_wp2_with fail
        go_ret
        exact ⟨rfl, B3.out⟩
      | some k =>
        simp only [leapVal, Option.getD_some, Option.isSome_some] at c1 c2
        have CA := hide c1
        have CB := hide c2
        obtain ⟨g, rfl, hg, hkk⟩ := leap_good hr.symm
        have h1 : g ≤ k := by rw [hkk]; exact leap_ge _ _ _
        have h2 : k ≤ k1 := by have := leap_le ls g t hg; rw [← hkk, HK.out] at this; exact this
        have h3 : k < k1 → ¬ ls.getD k 0 < t := fun h => by rw [hkk]; exact leap_stop ls g t (by rw [← hkk, HK.out]; exact h)
        have h4 : g < k → ls.getD (k - 1) 0 < t := fun h => leap_lt ls g t (k - 1) (by omega) (by rw [← hkk]; omega)
        have H3 := hide h3
        have H4 := hide h4
        clear c1 c2 hr hkk h3 h4 hg
        go_wp2_with fail
        refine (CA.out _ T0.out).mono ?_
        rintro e y1 ⟨rfl, hb⟩
        have bb := hide hb
        have B2 := hide (B1.out.trans (bb.out.mono B1.out.size))
        clear B1
        have T1 := hide (T0.out.below bb.out)
        clear T0
        clear bb
        clear hb CA
        go_wp2_with fail
        refine (CB.out _ T1.out).mono ?_
        rintro e y2 ⟨rfl, hb⟩
        have bb := hide hb
        have B3 := hide (B2.out.trans (bb.out.mono B2.out.size))
        clear B2
        have T2 := hide (T1.out.below bb.out)
        clear T1
        clear bb
        clear hb CB
        have hsl := T2.out.sl
        have hgk : ¬ (k : Int) < (g : Int) := by omega
        have hat : ∀ i, i < k1 → ∃ b off, la = some ⟨b, off, none⟩ ∧ y2.cell? ⟨b, off + i, none⟩ = some (.int .i64 (ls.getD i 0)) := fun i hi => hsl i (by rw [HK.out]; exact hi)
        have HAT := hide hat
        clear hsl hat
        by_cases hlt : k < k1
        · have hltI : (k : Int) < (k1 : Int) := by omega
          obtain ⟨b, off, rfl, hc⟩ := HAT.out k hlt
          have hst := H3.out hlt
          obtain ⟨y, hy⟩ : ∃ y, y = ls.getD k 0 := ⟨_, rfl⟩
          rw [← hy] at hc hst
          clear hy
          by_cases hgt : g < k
          · have hgtI : (g : Int) < (k : Int) := by omega
            obtain ⟨b', off', e', hc'⟩ := HAT.out (k - 1) (by omega)
            cases e'
            have hbl := H4.out hgt
            obtain ⟨y', hy'⟩ : ∃ y, y = ls.getD (k - 1) 0 := ⟨_, rfl⟩
            rw [← hy'] at hc' hbl
            have hki : (k : Int) - 1 = ((k - 1 : Nat) : Int) := by omega
            have hki2 : ((k - 1 : Nat) : Int) < (k1 : Int) := by omega
            have hge : ¬ t ≤ y' := by omega
            clear hy'
            go_wp2_with fail
            go_ret
            exact ⟨rfl, B3.out⟩
          · have hgtI : ¬ (g : Int) < (k : Int) := by omega
            go_wp2_with fail
            go_ret
            exact ⟨rfl, B3.out⟩
        · have hltI : ¬ (k : Int) < (k1 : Int) := by omega
          by_cases hgt : g < k
          · have hgtI : (g : Int) < (k : Int) := by omega
            obtain ⟨b', off', rfl, hc'⟩ := HAT.out (k - 1) (by omega)
            have hbl := H4.out hgt
            obtain ⟨y', hy'⟩ : ∃ y, y = ls.getD (k - 1) 0 := ⟨_, rfl⟩
            rw [← hy'] at hc' hbl
            have hki : (k : Int) - 1 = ((k - 1 : Nat) : Int) := by omega
            have hki2 : ((k - 1 : Nat) : Int) < (k1 : Int) := by omega
            have hge : ¬ t ≤ y' := by omega
            clear hy'
            go_wp2_with fail
            go_ret
            exact ⟨rfl, B3.out⟩
          · have hgtI : ¬ (g : Int) < (k : Int) := by omega
            go_wp2_with fail
            go_ret
            exact ⟨rfl, B3.out⟩
end Go.Proofs.Ythicdnkngpiccab.fnPosts
