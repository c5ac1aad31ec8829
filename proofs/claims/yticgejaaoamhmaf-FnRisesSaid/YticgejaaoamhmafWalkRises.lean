/-
  The walk of the law FnRises: it returns true at every two lists of bytes; memory that was there stays as it was.
-/
import Derived.Test.YticgejaaoamhmafL16Draw
import Derived.Test.YticgejaaoamhmafL16RsM
import Derived.Test.YticgejaaoamhmafL16GenP
import Derived.Test.YticgejaaoamhmafL16GenS
import Derived.Test.YticgejaaoamhmafL16Ris
import Derived.Test.YticgejaaoamhmafL16SRis
import Derived.Test.YticgejaaoamhmafL16Rate
import Derived.Test.YticgejaaoamhmafL16SRate
import Derived.Test.YticgejaaoamhmafL2Same
import Derived.Test.YticgejaaoamhmafL11Num
import Derived.Deep.DeepCutAuto
namespace Go.Proofs.Yticgejaaoamhmaf.fnRises
open Go.RowKit L1 L4 L16
set_option linter.unusedVariables false

theorem sl2_take {w : World} {a : Option Addr} {l : List (Int × Int)} (h : Sl2 w a l) (m : Nat) : Sl2 w a (l.take m) := fun i hi => by
  have hi2 : i < m ∧ i < l.length := by simp at hi; omega
  rw [getD_take16 l m i hi2.1]
  exact h i hi2.2
theorem sl2_drop {w : World} {g go : Nat} {l : List (Int × Int)} (h : Sl2 w (some ⟨g, go, none⟩) l) (m : Nat) : Sl2 w (some ⟨g, go + m * 2, none⟩) (l.drop m) := fun i hi => by
  have hi2 : m + i < l.length := by simp at hi; omega
  rw [getD_drop16 l m i]
  obtain ⟨b, off, e, h1, h2⟩ := h (m + i) hi2
  cases e
  exact ⟨g, go + m * 2, rfl, by rw [show go + m * 2 + i * 2 = go + (m + i) * 2 by omega]; exact h1, by rw [show go + m * 2 + i * 2 + 1 = go + (m + i) * 2 + 1 by omega]; exact h2⟩
open Classical in
set_option maxRecDepth 100000 in
set_option maxHeartbeats 8000000 in
theorem walk (a0 : Option Addr) (len0 cap0 : Nat) (z0 : List Int) (a1 : Option Addr) (len1 cap1 : Nat) (z1 : List Int) (w : World) (w0 : IsRow .u8 w a0 len0 cap0 z0) (hr0 : len0 ≤ 140737488351232) (w1 : IsRow .u8 w a1 len1 cap1 z1) (hr1 : len1 ≤ 140737488351232) :
    Calls Try.prog 3 #[.slice a0 len0 cap0, .slice a1 len1 cap1] w fun e w' => e = .returned (.bool true) ∧ Below w.heap.size w w' := by
  have S0 := hide (slb_of_row w0)
  have S1 := hide (slb_of_row w1)
  clear w0 w1
  by_cases hsz : 1048576 < (len0 : Int) + (len1 : Int)
  · go_enter Try.func3, Try.ntmps3
    go_wp2
    go_ret
    exact ⟨rfl, Below.refl _ _⟩
  have hl0 : len0 ≤ 1048576 := by omega
  have hl1 : len1 ≤ 1048576 := by omega
  go_enter Try.func3, Try.ntmps3
  go_wp2_with fail
  refine (drawRiseOf_any a0 len0 cap0 _ S0.out hl0).mono ?_
  rintro e v1 ⟨v, rfl, ho, hb⟩
  have B_1 := hide hb
  clear hb 
  obtain ⟨l, hll, hol⟩ := ho
  obtain ⟨n, hn⟩ : ∃ n, n = l.length := ⟨_, rfl⟩
  rw [← hn] at hll hol
  obtain ⟨la, lc, hv, sl, _⟩ := own_form2 hol
  subst hv
  have hA : ((∃ b off, la = some ⟨b, off, none⟩) ∨ (la = none ∧ n = 0 ∧ lc = 0)) ∧ n ≤ lc := by
    rcases hol.2 with ⟨hv, h0⟩ | ⟨g, cap, cur, hv, _, _, hc, _⟩
    · cases hv; exact ⟨.inr ⟨rfl, h0, rfl⟩, by omega⟩
    · cases hv; exact ⟨.inl ⟨g, 0, rfl⟩, hc⟩
  have hn2 : n ≤ 1048576 := by omega
  obtain ⟨c, hc⟩ : ∃ b : Bool, b = true ↔ Ctr l := ⟨decide (Ctr l), by simp⟩
  obtain ⟨R, hR⟩ : ∃ r, r = risR l := ⟨_, rfl⟩
  obtain ⟨Z, hZ⟩ : ∃ r, r = rstR l := ⟨_, rfl⟩
  obtain ⟨ru, hru⟩ : ∃ r, r = unR l := ⟨_, rfl⟩
  obtain ⟨rt, hrt⟩ : ∃ r, r = thR l := ⟨_, rfl⟩
  have CR := hide (fun wx hs => riseOf_any la l n lc wx hn.symm hs hn2 R hR c hc)
  have CRS := hide (fun wx hs => sRiseOf_any la l n lc wx hn.symm hs hn2 R hR c hc)
  have CZ := hide (fun wx hs => resetsIn_any la l n lc wx hn.symm hs hn2 Z hZ c hc)
  have CZS := hide (fun wx hs => sResetsIn_any la l n lc wx hn.symm hs hn2 Z hZ c hc)
  have CC := hide (fun wx hs => counterOk_any la l n lc wx hn.symm hs hn2 c hc)
  have cu := fun wx hs => unwrap_anyG la l n lc wx hA.1 hn.symm hs hn2 ru hru
  have cus := fun wx hs => sUnwrap_anyG la l n lc wx hn.symm hs hn2 hA.2 ru hru
  have ct := fun wx hs => thinOut_anyG la l n lc wx hn.symm hs hn2 hA.2 rt hrt
  have cts := fun wx hs => sThinOut_anyG la l n lc wx hn.symm hs hn2 hA.2 rt hrt
  obtain ⟨us, hus⟩ : ∃ x, x = ru.getD [] := ⟨_, rfl⟩
  obtain ⟨ku, hku⟩ : ∃ x, x = us.length := ⟨_, rfl⟩
  obtain ⟨bu, hbu⟩ : ∃ x, x = ru.isSome := ⟨_, rfl⟩
  obtain ⟨ts, hts⟩ : ∃ x, x = rt.getD [] := ⟨_, rfl⟩
  obtain ⟨kt, hkt⟩ : ∃ x, x = ts.length := ⟨_, rfl⟩
  obtain ⟨bt, hbt⟩ : ∃ x, x = rt.isSome := ⟨_, rfl⟩
  have hku2 : ku ≤ 1048576 := by rw [hku, hus, hru]; exact Nat.le_trans (unR_le l) (by omega)
  have hkt2 : kt ≤ 1048576 := by rw [hkt, hts, hrt]; exact Nat.le_trans (thR_le l) (by omega)
  simp only [RetS16, ← hus, ← hku, ← hbu] at cu cus
  simp only [RetS16, ← hts, ← hkt, ← hbt] at ct cts
  have CU := hide cu
  have CUS := hide cus
  have CT := hide ct
  have CTS := hide cts
  have HU : Hid (bu = true → Ctr l ∧ GoodS (unw l) ∧ us = unw l) := fun h => by
    rw [hbu, hru] at h
    unfold unR at h
    split at h
    · next h2 => refine ⟨h2.1, h2.2, ?_⟩; rw [hus, hru]; unfold unR; rw [if_pos h2]; rfl
    · cases h
  have HTT : Hid (c = true → ts = thn l n) := fun h => by rw [hts, hrt]; unfold thR; rw [if_pos (hc.1 h), hn]; rfl
  have HRZ : Hid (c = true → R = ris l n ∧ Z = rst l n) := fun h => ⟨by rw [hR]; unfold risR; rw [if_pos (hc.1 h), hn], by rw [hZ]; unfold rstR; rw [if_pos (hc.1 h), hn]⟩
  have HC := hide hc
  have HN := hide hn.symm
  have HKU := hide hku.symm
  have HKT := hide hkt.symm
  have HAA := hide hA
  have L0 := hide sl
  have e1 : (c != c) = false := by simp
  have e2 : (R != R) = false := by simp
  have e3 : (Z != Z) = false := by simp
  have e4 : (bu != bu) = false := by simp
  have e5 : (bt != bt) = false := by simp
  clear hc hR hZ hru hrt cu cus ct cts hus hku hbu hts hkt hbt hn hA sl hol
  go_wp2_with fail
  refine (CR.out _ L0.out).mono ?_
  rintro e v2 ⟨rfl, hb⟩
  have L_2 := hide (L0.out.below hb)
  have B_2 := hide (B_1.out.trans (hb.mono B_1.out.size))
  clear hb L0 B_1
  go_wp2_with fail
  refine (CRS.out _ L_2.out).mono ?_
  rintro e v3 ⟨rfl, hb⟩
  have L_3 := hide (L_2.out.below hb)
  have B_3 := hide (B_2.out.trans (hb.mono B_2.out.size))
  clear hb L_2 B_2
  go_wp2_with fail
  refine (CZ.out _ L_3.out).mono ?_
  rintro e v4 ⟨rfl, hb⟩
  have L_4 := hide (L_3.out.below hb)
  have B_4 := hide (B_3.out.trans (hb.mono B_3.out.size))
  clear hb L_3 B_3
  go_wp2_with fail
  refine (CZS.out _ L_4.out).mono ?_
  rintro e v5 ⟨rfl, hb⟩
  have L_5 := hide (L_4.out.below hb)
  have B_5 := hide (B_4.out.trans (hb.mono B_4.out.size))
  clear hb L_4 B_4
  go_wp2_with fail
  refine (CU.out _ L_5.out).mono ?_
  rintro e v6 ⟨uv, rfl, hou, hb⟩
  have L_6 := hide (L_5.out.below hb)
  have B_6 := hide (B_5.out.trans (hb.mono B_5.out.size))
  clear hb L_5 B_5
  obtain ⟨ua, uc, rfl, hsu, _⟩ := own_form2 hou
  have U0 := hide hsu
  clear hou hsu
  go_wp2_with fail
  refine (CUS.out _ L_6.out).mono ?_
  rintro e v7 ⟨mv, rfl, hom, hb⟩
  have L_7 := hide (L_6.out.below hb)
  have U_7 := hide (U0.out.below hb)
  have B_7 := hide (B_6.out.trans (hb.mono B_6.out.size))
  clear hb L_6 U0 B_6
  obtain ⟨ma, mc, rfl, hsm, _⟩ := own_form2 hom
  have M0 := hide hsm
  clear hom hsm
  go_wp2_with fail
  refine (CT.out _ L_7.out).mono ?_
  rintro e v8 ⟨tv, rfl, hot, hb⟩
  have L_8 := hide (L_7.out.below hb)
  have U_8 := hide (U_7.out.below hb)
  have M_8 := hide (M0.out.below hb)
  have B_8 := hide (B_7.out.trans (hb.mono B_7.out.size))
  clear hb L_7 U_7 M0 B_7
  obtain ⟨ta, tc, rfl, hst, _⟩ := own_form2 hot
  have T0 := hide hst
  clear hot hst
  go_wp2_with fail
  refine (CTS.out _ L_8.out).mono ?_
  rintro e v9 ⟨pv, rfl, hop, hb⟩
  have L_9 := hide (L_8.out.below hb)
  have U_9 := hide (U_8.out.below hb)
  have M_9 := hide (M_8.out.below hb)
  have T_9 := hide (T0.out.below hb)
  have B_9 := hide (B_8.out.trans (hb.mono B_8.out.size))
  clear hb L_8 U_8 M_8 T0 B_8
  obtain ⟨pa, pc, rfl, hsp, _⟩ := own_form2 hop
  have P0 := hide hsp
  clear hop hsp
  go_wp2_with fail
  refine (sameSamples_same _ _ us ku _ _ _ HKU.out U_9.out M_9.out hku2).mono ?_
  rintro e v10 ⟨rfl, hb⟩
  have L_10 := hide (L_9.out.below hb)
  have U_10 := hide (U_9.out.below hb)
  have M_10 := hide (M_9.out.below hb)
  have T_10 := hide (T_9.out.below hb)
  have P_10 := hide (P0.out.below hb)
  have B_10 := hide (B_9.out.trans (hb.mono B_9.out.size))
  clear hb L_9 U_9 M_9 T_9 P0 B_9
  go_wp2_with fail
  refine (sameSamples_same _ _ ts kt _ _ _ HKT.out T_10.out P_10.out hkt2).mono ?_
  rintro e v11 ⟨rfl, hb⟩
  have L_11 := hide (L_10.out.below hb)
  have U_11 := hide (U_10.out.below hb)
  have M_11 := hide (M_10.out.below hb)
  have T_11 := hide (T_10.out.below hb)
  have P_11 := hide (P_10.out.below hb)
  have B_11 := hide (B_10.out.trans (hb.mono B_10.out.size))
  clear hb L_10 U_10 M_10 T_10 P_10 B_10
  go_wp2_with fail
  refine (CC.out _ L_11.out).mono ?_
  rintro e v12 ⟨rfl, hb⟩
  have L_12 := hide (L_11.out.below hb)
  have U_12 := hide (U_11.out.below hb)
  have M_12 := hide (M_11.out.below hb)
  have T_12 := hide (T_11.out.below hb)
  have P_12 := hide (P_11.out.below hb)
  have B_12 := hide (B_11.out.trans (hb.mono B_11.out.size))
  clear hb L_11 U_11 M_11 T_11 P_11 B_11
  clear M_12 P_12
  by_cases hq : c = true ∧ 0 < n
  rotate_left
  · cases hcq : c with
    | false =>
      subst hcq
      go_wp2_with fail
      refine (drawRateOf_any a1 len1 cap1 _ (Slb.below S1.out B_12.out) hl1).mono ?_
      rintro e v13 ⟨v, per, rfl, ho, hb⟩
      have L_13 := hide (L_12.out.below hb)
      have U_13 := hide (U_12.out.below hb)
      have T_13 := hide (T_12.out.below hb)
      have B_13 := hide (B_12.out.trans (hb.mono B_12.out.size))
      clear hb L_12 U_12 T_12 B_12
      obtain ⟨l2, hl2, ho2⟩ := ho
      obtain ⟨qa, qc, rfl, hq2, _⟩ := own_form2 ho2
      obtain ⟨n2, hn2⟩ : ∃ n, n = l2.length := ⟨_, rfl⟩
      rw [← hn2] at hl2
      rw [← hn2]
      have Q0 := hide hq2
      obtain ⟨c2, hc2⟩ : ∃ b : Bool, b = true ↔ RateOk l2 per := ⟨decide (RateOk l2 per), by simp⟩
      obtain ⟨R2, hR2⟩ : ∃ r, r = rateR l2 per := ⟨_, rfl⟩
      have D1 := hide (fun wx hs => rateOf_any qa l2 n2 qc per wx hn2.symm hs (by omega) R2 hR2 c2 hc2)
      have D2 := hide (fun wx hs => sRateOf_any qa l2 n2 qc per wx hn2.symm hs (by omega) R2 hR2 c2 hc2)
      have hee : (c2 == c2) = true := by simp
      have hff : (R2 == R2) = true := by simp
      clear hc2 hR2 ho2 hq2 hn2
      go_wp2_with fail
      refine (D1.out _ Q0.out).mono ?_
      rintro e v14 ⟨rfl, hb⟩
      have Q_14 := hide (Q0.out.below hb)
      have B_14 := hide (B_13.out.trans (hb.mono B_13.out.size))
      clear hb Q0 B_13
      go_wp2_with fail
      refine (D2.out _ Q_14.out).mono ?_
      rintro e v15 ⟨rfl, hb⟩
      have Q_15 := hide (Q_14.out.below hb)
      have B_15 := hide (B_14.out.trans (hb.mono B_14.out.size))
      clear hb Q_14 B_14
      cases c2 with
      | true =>
        go_wp2
        go_ret
        exact ⟨by simp, B_15.out⟩
      | false =>
        go_wp2
        go_ret
        exact ⟨by simp, B_15.out⟩
    | true =>
      have hn0 : n = 0 := by
        by_cases h : n = 0
        · exact h
        · exact absurd ⟨hcq, by omega⟩ hq
      subst hcq
      subst hn0
      go_wp2_with fail
      refine (drawRateOf_any a1 len1 cap1 _ (Slb.below S1.out B_12.out) hl1).mono ?_
      rintro e v16 ⟨v, per, rfl, ho, hb⟩
      have L_16 := hide (L_12.out.below hb)
      have U_16 := hide (U_12.out.below hb)
      have T_16 := hide (T_12.out.below hb)
      have B_16 := hide (B_12.out.trans (hb.mono B_12.out.size))
      clear hb L_12 U_12 T_12 B_12
      obtain ⟨l2, hl2, ho2⟩ := ho
      obtain ⟨qa, qc, rfl, hq2, _⟩ := own_form2 ho2
      obtain ⟨n2, hn2⟩ : ∃ n, n = l2.length := ⟨_, rfl⟩
      rw [← hn2] at hl2
      rw [← hn2]
      have Q0 := hide hq2
      obtain ⟨c2, hc2⟩ : ∃ b : Bool, b = true ↔ RateOk l2 per := ⟨decide (RateOk l2 per), by simp⟩
      obtain ⟨R2, hR2⟩ : ∃ r, r = rateR l2 per := ⟨_, rfl⟩
      have D1 := hide (fun wx hs => rateOf_any qa l2 n2 qc per wx hn2.symm hs (by omega) R2 hR2 c2 hc2)
      have D2 := hide (fun wx hs => sRateOf_any qa l2 n2 qc per wx hn2.symm hs (by omega) R2 hR2 c2 hc2)
      have hee : (c2 == c2) = true := by simp
      have hff : (R2 == R2) = true := by simp
      clear hc2 hR2 ho2 hq2 hn2
      go_wp2_with fail
      refine (D1.out _ Q0.out).mono ?_
      rintro e v17 ⟨rfl, hb⟩
      have Q_17 := hide (Q0.out.below hb)
      have B_17 := hide (B_16.out.trans (hb.mono B_16.out.size))
      clear hb Q0 B_16
      go_wp2_with fail
      refine (D2.out _ Q_17.out).mono ?_
      rintro e v18 ⟨rfl, hb⟩
      have Q_18 := hide (Q_17.out.below hb)
      have B_18 := hide (B_17.out.trans (hb.mono B_17.out.size))
      clear hb Q_17 B_17
      cases c2 with
      | true =>
        go_wp2
        go_ret
        exact ⟨by simp, B_18.out⟩
      | false =>
        go_wp2
        go_ret
        exact ⟨by simp, B_18.out⟩
  obtain ⟨hcq, h0n⟩ := hq
  subst hcq
  have hct := HC.out.1 rfl
  obtain ⟨g, go, rfl⟩ : ∃ b off, la = some ⟨b, off, none⟩ := by
    rcases HAA.out.1 with h | h
    · exact h
    · omega
  have hlc := HAA.out.2
  obtain ⟨hRe, hZe⟩ := HRZ.out rfl
  have hRb := ris_bd hct n (by rw [HN.out]; exact Nat.le_refl _)
  have hZb := rst_bd l n
  have h40 := hct.len
  rw [HN.out] at h40
  have hpl : Z = 0 → R = vl l (n - 1) - vl l 0 := fun h => by rw [hRe]; exact ris_plain l n h0n (by rw [← hZe]; exact h)
  have hth := ris_thn hct HN.out h0n
  have hun := ris_unw hct n (by rw [HN.out]; exact Nat.le_refl _)
  have HTS := hide (HTT.out rfl)
  have HTR : Hid (Ctr ts ∧ R = risR ts ∧ Z = rstR ts) := hide (by
    rw [HTS.out]
    refine ⟨hth.1, ?_, ?_⟩
    · unfold risR; rw [if_pos hth.1, hth.2.1, hRe]
    · unfold rstR; rw [if_pos hth.1, hth.2.2, hZe])
  have HUR : Hid (bu = true → Ctr us ∧ R = risR us ∧ 0 = rstR us) := hide (fun h => by
    obtain ⟨h1, h2, h3⟩ := HU.out h
    have h4 := ctr_unw h1 h2
    rw [h3]
    refine ⟨h4, ?_, ?_⟩
    · unfold risR; rw [if_pos h4, unw_len, HN.out, hun.1, hRe]
    · unfold rstR; rw [if_pos h4, unw_len, HN.out, hun.2])
  rw [← hRe] at hRb
  rw [← hZe] at hZb
  have h0I : (0 : Int) < (n : Int) := by omega
  have hn0 : ¬ (n : Int) = 0 := by omega
  have HRE := hide hRe
  have HPL0 := hide hpl
  clear hRe hZe hth hun hpl
  go_wp2_with fail
  refine (numberOf_any a1 len1 cap1 _ (Slb.below S1.out B_12.out) hl1).mono ?_
  rintro e v19 ⟨⟨x, rfl, hx0, hx1⟩, hw⟩
  obtain ⟨k, hk⟩ : ∃ k : Nat, Int.tmod x (n : Int) = (k : Int) := ⟨(Int.tmod x (n : Int)).toNat, by have := Int.tmod_nonneg (n : Int) hx0; omega⟩
  have hkn : k < n := by have := Int.tmod_lt_of_pos x h0I; omega
  have hke : x % (n : Int) = (k : Int) := by rw [← hk, Int.tmod_eq_emod_of_nonneg hx0]
  have hwk : IntKind.i64.wrap (k : Int) = (k : Int) := wrap16 (by omega) (by omega)
  have hwk1 : IntKind.i64.wrap ((k : Int) + 1) = (k : Int) + 1 := wrap16 (by omega) (by omega)
  have hk1 : (0 : Int) ≤ (k : Int) + 1 := by omega
  have hkc : (k : Int) + 1 ≤ (lc : Int) := by omega
  have hkc2 : (k : Int) ≤ (lc : Int) := by omega
  have hkn2 : (k : Int) ≤ (n : Int) := by omega
  have hne : ¬ lc = k := by omega
  have hne2 : ¬ (lc : Int) = (k : Int) := by omega
  have hlt1 : (l.take (k + 1)).length = k + 1 := by rw [List.length_take, HN.out]; omega
  have hlt2 : (l.drop k).length = n - k := by rw [List.length_drop, HN.out]
  obtain ⟨R1, hR1⟩ : ∃ r, r = risR (l.take (k + 1)) := ⟨_, rfl⟩
  obtain ⟨R3, hR3⟩ : ∃ r, r = risR (l.drop k) := ⟨_, rfl⟩
  have CR1 := hide (fun wx (hs : Sl2 wx (some ⟨g, go, none⟩) l) => riseOf_any (some ⟨g, go, none⟩) (l.take (k + 1)) (k + 1) lc wx hlt1 (sl2_take hs (k + 1)) (by omega) R1 hR1 true ⟨fun _ => hct.take _, fun _ => rfl⟩)
  have CR3 := hide (fun wx (hs : Sl2 wx (some ⟨g, go, none⟩) l) => riseOf_any (some ⟨g, go + k * 2, none⟩) (l.drop k) (n - k) (lc - k) wx hlt2 (sl2_drop hs k) (by omega) R3 hR3 true ⟨fun _ => hct.drop _, fun _ => rfl⟩)
  have hpa := ris_parts HN.out hkn
  have hb1 := ris_bd (hct.take (k + 1)) (k + 1) (by rw [hlt1]; exact Nat.le_refl _)
  have hb3 := ris_bd (hct.drop k) (n - k) (by rw [hlt2]; exact Nat.le_refl _)
  have hR1e : R1 = ris (l.take (k + 1)) (k + 1) := by rw [hR1]; unfold risR; rw [if_pos (hct.take _), hlt1]
  have hR3e : R3 = ris (l.drop k) (n - k) := by rw [hR3]; unfold risR; rw [if_pos (hct.drop _), hlt2]
  rw [← hR1e, ← hR3e, ← HRE.out] at hpa
  rw [← hR1e] at hb1
  rw [← hR3e] at hb3
  have hwR : IntKind.i64.wrap (R1 + R3) = R := by rw [hpa]; exact wrap16 (by omega) (by omega)
  have hRn : ¬ R < 0 := by omega
  have HPL := HPL0
  have HPA := hide hpa
  obtain ⟨t1, ht1⟩ : ∃ t, t = n - 1 := ⟨_, rfl⟩
  have hr1 : (n : Int) - 1 = (t1 : Int) := by omega
  have hrw2 : IntKind.i64.wrap (t1 : Int) = (t1 : Int) := wrap16 (by omega) (by omega)
  have htn : (t1 : Int) < (n : Int) := by omega
  have htnN : t1 < n := by omega
  have hy1 := hct.val (k := t1) (by rw [HN.out]; exact htnN)
  have hy0 := hct.val (k := 0) (by rw [HN.out]; exact h0n)
  rw [← ht1] at HPL
  have hkn3 : ¬ (n : Int) < (k : Int) := by omega
  clear hR1 hR3 hR1e hR3e hpa HPL0 hlt1 hlt2 hx0 hx1 ht1 hct
  obtain rfl := hw
  go_wp2_with fail
  refine (CR1.out _ L_12.out).mono ?_
  rintro e v20 ⟨rfl, hb⟩
  have L_20 := hide (L_12.out.below hb)
  have U_20 := hide (U_12.out.below hb)
  have T_20 := hide (T_12.out.below hb)
  have B_20 := hide (B_12.out.trans (hb.mono B_12.out.size))
  clear hb L_12 U_12 T_12 B_12
  go_wp2_with fail
  refine (CR3.out _ L_20.out).mono ?_
  rintro e v21 ⟨rfl, hb⟩
  have L_21 := hide (L_20.out.below hb)
  have U_21 := hide (U_20.out.below hb)
  have T_21 := hide (T_20.out.below hb)
  have B_21 := hide (B_20.out.trans (hb.mono B_20.out.size))
  clear hb L_20 U_20 T_20 B_20
  obtain ⟨b1', o1', ee, _, c1⟩ := sl2_at L_21.out (k := t1) (by rw [HN.out]; exact htnN)
  cases ee
  obtain ⟨b1', o1', ee, _, c0⟩ := sl2_at L_21.out (k := 0) (by rw [HN.out]; exact h0n)
  cases ee
  try simp only [Nat.zero_mul, Nat.add_zero] at c0
  obtain ⟨y1, hy1e⟩ : ∃ y, y = vl l t1 := ⟨_, rfl⟩
  obtain ⟨y0, hy0e⟩ : ∃ y, y = vl l 0 := ⟨_, rfl⟩
  rw [← hy1e] at c1 hy1 HPL
  rw [← hy0e] at c0 hy0 HPL
  clear hy1e hy0e
  go_upto_region 18 with fail
  by_cases hz0 : Z = 0
  · have hRy : y1 - y0 = R := (HPL.out hz0).symm
    have hwy : IntKind.i64.wrap (y1 - y0) = R := by rw [hRy]; exact wrap16 (by omega) (by omega)
    have HRY := hide hRy
    clear hRy
    subst hz0
    go_quiet (fail)
    obtain ⟨v22, hWB, hb⟩ : ∃ WB, v21.drewN _ = WB ∧ Below v21.heap.size v21 WB := ⟨_, rfl, below_drew16 (Below.refl _ _) _⟩
    rw [hWB]
    clear hWB
    have L_22 := hide (L_21.out.below hb)
    have U_22 := hide (U_21.out.below hb)
    have T_22 := hide (T_21.out.below hb)
    have B_22 := hide (B_21.out.trans (hb.mono B_21.out.size))
    clear hb L_21 U_21 T_21 B_21
    cases hbq : bu with
    | false =>
      subst hbq
      have CT1 := hide (fun wx hs => riseOf_any ta ts kt tc wx HKT.out hs hkt2 R HTR.out.2.1 true ⟨fun _ => HTR.out.1, fun _ => rfl⟩)
      have CT2 := hide (fun wx hs => resetsIn_any ta ts kt tc wx HKT.out hs hkt2 _ HTR.out.2.2 true ⟨fun _ => HTR.out.1, fun _ => rfl⟩)
      go_wp2_with fail
      refine (CT1.out _ T_22.out).mono ?_
      rintro e v23 ⟨rfl, hb⟩
      have L_23 := hide (L_22.out.below hb)
      have U_23 := hide (U_22.out.below hb)
      have T_23 := hide (T_22.out.below hb)
      have B_23 := hide (B_22.out.trans (hb.mono B_22.out.size))
      clear hb L_22 U_22 T_22 B_22
      go_wp2_with fail
      refine (CT2.out _ T_23.out).mono ?_
      rintro e v24 ⟨rfl, hb⟩
      have L_24 := hide (L_23.out.below hb)
      have U_24 := hide (U_23.out.below hb)
      have T_24 := hide (T_23.out.below hb)
      have B_24 := hide (B_23.out.trans (hb.mono B_23.out.size))
      clear hb L_23 U_23 T_23 B_23
      go_wp2_with fail
      refine (drawRateOf_any a1 len1 cap1 _ (Slb.below S1.out B_24.out) hl1).mono ?_
      rintro e v25 ⟨v, per, rfl, ho, hb⟩
      have L_25 := hide (L_24.out.below hb)
      have U_25 := hide (U_24.out.below hb)
      have T_25 := hide (T_24.out.below hb)
      have B_25 := hide (B_24.out.trans (hb.mono B_24.out.size))
      clear hb L_24 U_24 T_24 B_24
      obtain ⟨l2, hl2, ho2⟩ := ho
      obtain ⟨qa, qc, rfl, hq2, _⟩ := own_form2 ho2
      obtain ⟨n2, hn2⟩ : ∃ n, n = l2.length := ⟨_, rfl⟩
      rw [← hn2] at hl2
      rw [← hn2]
      have Q0 := hide hq2
      obtain ⟨c2, hc2⟩ : ∃ b : Bool, b = true ↔ RateOk l2 per := ⟨decide (RateOk l2 per), by simp⟩
      obtain ⟨R2, hR2⟩ : ∃ r, r = rateR l2 per := ⟨_, rfl⟩
      have D1 := hide (fun wx hs => rateOf_any qa l2 n2 qc per wx hn2.symm hs (by omega) R2 hR2 c2 hc2)
      have D2 := hide (fun wx hs => sRateOf_any qa l2 n2 qc per wx hn2.symm hs (by omega) R2 hR2 c2 hc2)
      have hee : (c2 == c2) = true := by simp
      have hff : (R2 == R2) = true := by simp
      clear hc2 hR2 ho2 hq2 hn2
      go_wp2_with fail
      refine (D1.out _ Q0.out).mono ?_
      rintro e v26 ⟨rfl, hb⟩
      have Q_26 := hide (Q0.out.below hb)
      have B_26 := hide (B_25.out.trans (hb.mono B_25.out.size))
      clear hb Q0 B_25
      go_wp2_with fail
      refine (D2.out _ Q_26.out).mono ?_
      rintro e v27 ⟨rfl, hb⟩
      have Q_27 := hide (Q_26.out.below hb)
      have B_27 := hide (B_26.out.trans (hb.mono B_26.out.size))
      clear hb Q_26 B_26
      cases c2 with
      | true =>
        go_wp2
        go_ret
        exact ⟨by simp, B_27.out⟩
      | false =>
        go_wp2
        go_ret
        exact ⟨by simp, B_27.out⟩
    | true =>
      have HUX := hide (HUR.out hbq)
      subst hbq
      have CU1 := hide (fun wx hs => riseOf_any ua us ku uc wx HKU.out hs hku2 R HUX.out.2.1 true ⟨fun _ => HUX.out.1, fun _ => rfl⟩)
      have CU2 := hide (fun wx hs => resetsIn_any ua us ku uc wx HKU.out hs hku2 0 HUX.out.2.2 true ⟨fun _ => HUX.out.1, fun _ => rfl⟩)
      go_wp2_with fail
      refine (CU1.out _ U_22.out).mono ?_
      rintro e v28 ⟨rfl, hb⟩
      have L_28 := hide (L_22.out.below hb)
      have U_28 := hide (U_22.out.below hb)
      have T_28 := hide (T_22.out.below hb)
      have B_28 := hide (B_22.out.trans (hb.mono B_22.out.size))
      clear hb L_22 U_22 T_22 B_22
      go_wp2_with fail
      refine (CU2.out _ U_28.out).mono ?_
      rintro e v29 ⟨rfl, hb⟩
      have L_29 := hide (L_28.out.below hb)
      have U_29 := hide (U_28.out.below hb)
      have T_29 := hide (T_28.out.below hb)
      have B_29 := hide (B_28.out.trans (hb.mono B_28.out.size))
      clear hb L_28 U_28 T_28 B_28
      have CT1 := hide (fun wx hs => riseOf_any ta ts kt tc wx HKT.out hs hkt2 R HTR.out.2.1 true ⟨fun _ => HTR.out.1, fun _ => rfl⟩)
      have CT2 := hide (fun wx hs => resetsIn_any ta ts kt tc wx HKT.out hs hkt2 _ HTR.out.2.2 true ⟨fun _ => HTR.out.1, fun _ => rfl⟩)
      go_wp2_with fail
      refine (CT1.out _ T_29.out).mono ?_
      rintro e v30 ⟨rfl, hb⟩
      have L_30 := hide (L_29.out.below hb)
      have U_30 := hide (U_29.out.below hb)
      have T_30 := hide (T_29.out.below hb)
      have B_30 := hide (B_29.out.trans (hb.mono B_29.out.size))
      clear hb L_29 U_29 T_29 B_29
      go_wp2_with fail
      refine (CT2.out _ T_30.out).mono ?_
      rintro e v31 ⟨rfl, hb⟩
      have L_31 := hide (L_30.out.below hb)
      have U_31 := hide (U_30.out.below hb)
      have T_31 := hide (T_30.out.below hb)
      have B_31 := hide (B_30.out.trans (hb.mono B_30.out.size))
      clear hb L_30 U_30 T_30 B_30
      go_wp2_with fail
      refine (drawRateOf_any a1 len1 cap1 _ (Slb.below S1.out B_31.out) hl1).mono ?_
      rintro e v32 ⟨v, per, rfl, ho, hb⟩
      have L_32 := hide (L_31.out.below hb)
      have U_32 := hide (U_31.out.below hb)
      have T_32 := hide (T_31.out.below hb)
      have B_32 := hide (B_31.out.trans (hb.mono B_31.out.size))
      clear hb L_31 U_31 T_31 B_31
      obtain ⟨l2, hl2, ho2⟩ := ho
      obtain ⟨qa, qc, rfl, hq2, _⟩ := own_form2 ho2
      obtain ⟨n2, hn2⟩ : ∃ n, n = l2.length := ⟨_, rfl⟩
      rw [← hn2] at hl2
      rw [← hn2]
      have Q0 := hide hq2
      obtain ⟨c2, hc2⟩ : ∃ b : Bool, b = true ↔ RateOk l2 per := ⟨decide (RateOk l2 per), by simp⟩
      obtain ⟨R2, hR2⟩ : ∃ r, r = rateR l2 per := ⟨_, rfl⟩
      have D1 := hide (fun wx hs => rateOf_any qa l2 n2 qc per wx hn2.symm hs (by omega) R2 hR2 c2 hc2)
      have D2 := hide (fun wx hs => sRateOf_any qa l2 n2 qc per wx hn2.symm hs (by omega) R2 hR2 c2 hc2)
      have hee : (c2 == c2) = true := by simp
      have hff : (R2 == R2) = true := by simp
      clear hc2 hR2 ho2 hq2 hn2
      go_wp2_with fail
      refine (D1.out _ Q0.out).mono ?_
      rintro e v33 ⟨rfl, hb⟩
      have Q_33 := hide (Q0.out.below hb)
      have B_33 := hide (B_32.out.trans (hb.mono B_32.out.size))
      clear hb Q0 B_32
      go_wp2_with fail
      refine (D2.out _ Q_33.out).mono ?_
      rintro e v34 ⟨rfl, hb⟩
      have Q_34 := hide (Q_33.out.below hb)
      have B_34 := hide (B_33.out.trans (hb.mono B_33.out.size))
      clear hb Q_33 B_33
      cases c2 with
      | true =>
        go_wp2
        go_ret
        exact ⟨by simp, B_34.out⟩
      | false =>
        go_wp2
        go_ret
        exact ⟨by simp, B_34.out⟩
  · go_quiet (fail)
    obtain ⟨v35, hWB, hb⟩ : ∃ WB, v21.drewN _ = WB ∧ Below v21.heap.size v21 WB := ⟨_, rfl, below_drew16 (Below.refl _ _) _⟩
    rw [hWB]
    clear hWB
    have L_35 := hide (L_21.out.below hb)
    have U_35 := hide (U_21.out.below hb)
    have T_35 := hide (T_21.out.below hb)
    have B_35 := hide (B_21.out.trans (hb.mono B_21.out.size))
    clear hb L_21 U_21 T_21 B_21
    cases hbq : bu with
    | false =>
      subst hbq
      have CT1 := hide (fun wx hs => riseOf_any ta ts kt tc wx HKT.out hs hkt2 R HTR.out.2.1 true ⟨fun _ => HTR.out.1, fun _ => rfl⟩)
      have CT2 := hide (fun wx hs => resetsIn_any ta ts kt tc wx HKT.out hs hkt2 _ HTR.out.2.2 true ⟨fun _ => HTR.out.1, fun _ => rfl⟩)
      go_wp2_with fail
      refine (CT1.out _ T_35.out).mono ?_
      rintro e v36 ⟨rfl, hb⟩
      have L_36 := hide (L_35.out.below hb)
      have U_36 := hide (U_35.out.below hb)
      have T_36 := hide (T_35.out.below hb)
      have B_36 := hide (B_35.out.trans (hb.mono B_35.out.size))
      clear hb L_35 U_35 T_35 B_35
      go_wp2_with fail
      refine (CT2.out _ T_36.out).mono ?_
      rintro e v37 ⟨rfl, hb⟩
      have L_37 := hide (L_36.out.below hb)
      have U_37 := hide (U_36.out.below hb)
      have T_37 := hide (T_36.out.below hb)
      have B_37 := hide (B_36.out.trans (hb.mono B_36.out.size))
      clear hb L_36 U_36 T_36 B_36
      go_wp2_with fail
      refine (drawRateOf_any a1 len1 cap1 _ (Slb.below S1.out B_37.out) hl1).mono ?_
      rintro e v38 ⟨v, per, rfl, ho, hb⟩
      have L_38 := hide (L_37.out.below hb)
      have U_38 := hide (U_37.out.below hb)
      have T_38 := hide (T_37.out.below hb)
      have B_38 := hide (B_37.out.trans (hb.mono B_37.out.size))
      clear hb L_37 U_37 T_37 B_37
      obtain ⟨l2, hl2, ho2⟩ := ho
      obtain ⟨qa, qc, rfl, hq2, _⟩ := own_form2 ho2
      obtain ⟨n2, hn2⟩ : ∃ n, n = l2.length := ⟨_, rfl⟩
      rw [← hn2] at hl2
      rw [← hn2]
      have Q0 := hide hq2
      obtain ⟨c2, hc2⟩ : ∃ b : Bool, b = true ↔ RateOk l2 per := ⟨decide (RateOk l2 per), by simp⟩
      obtain ⟨R2, hR2⟩ : ∃ r, r = rateR l2 per := ⟨_, rfl⟩
      have D1 := hide (fun wx hs => rateOf_any qa l2 n2 qc per wx hn2.symm hs (by omega) R2 hR2 c2 hc2)
      have D2 := hide (fun wx hs => sRateOf_any qa l2 n2 qc per wx hn2.symm hs (by omega) R2 hR2 c2 hc2)
      have hee : (c2 == c2) = true := by simp
      have hff : (R2 == R2) = true := by simp
      clear hc2 hR2 ho2 hq2 hn2
      go_wp2_with fail
      refine (D1.out _ Q0.out).mono ?_
      rintro e v39 ⟨rfl, hb⟩
      have Q_39 := hide (Q0.out.below hb)
      have B_39 := hide (B_38.out.trans (hb.mono B_38.out.size))
      clear hb Q0 B_38
      go_wp2_with fail
      refine (D2.out _ Q_39.out).mono ?_
      rintro e v40 ⟨rfl, hb⟩
      have Q_40 := hide (Q_39.out.below hb)
      have B_40 := hide (B_39.out.trans (hb.mono B_39.out.size))
      clear hb Q_39 B_39
      cases c2 with
      | true =>
        go_wp2
        go_ret
        exact ⟨by simp, B_40.out⟩
      | false =>
        go_wp2
        go_ret
        exact ⟨by simp, B_40.out⟩
    | true =>
      have HUX := hide (HUR.out hbq)
      subst hbq
      have CU1 := hide (fun wx hs => riseOf_any ua us ku uc wx HKU.out hs hku2 R HUX.out.2.1 true ⟨fun _ => HUX.out.1, fun _ => rfl⟩)
      have CU2 := hide (fun wx hs => resetsIn_any ua us ku uc wx HKU.out hs hku2 0 HUX.out.2.2 true ⟨fun _ => HUX.out.1, fun _ => rfl⟩)
      go_wp2_with fail
      refine (CU1.out _ U_35.out).mono ?_
      rintro e v41 ⟨rfl, hb⟩
      have L_41 := hide (L_35.out.below hb)
      have U_41 := hide (U_35.out.below hb)
      have T_41 := hide (T_35.out.below hb)
      have B_41 := hide (B_35.out.trans (hb.mono B_35.out.size))
      clear hb L_35 U_35 T_35 B_35
      go_wp2_with fail
      refine (CU2.out _ U_41.out).mono ?_
      rintro e v42 ⟨rfl, hb⟩
      have L_42 := hide (L_41.out.below hb)
      have U_42 := hide (U_41.out.below hb)
      have T_42 := hide (T_41.out.below hb)
      have B_42 := hide (B_41.out.trans (hb.mono B_41.out.size))
      clear hb L_41 U_41 T_41 B_41
      have CT1 := hide (fun wx hs => riseOf_any ta ts kt tc wx HKT.out hs hkt2 R HTR.out.2.1 true ⟨fun _ => HTR.out.1, fun _ => rfl⟩)
      have CT2 := hide (fun wx hs => resetsIn_any ta ts kt tc wx HKT.out hs hkt2 _ HTR.out.2.2 true ⟨fun _ => HTR.out.1, fun _ => rfl⟩)
      go_wp2_with fail
      refine (CT1.out _ T_42.out).mono ?_
      rintro e v43 ⟨rfl, hb⟩
      have L_43 := hide (L_42.out.below hb)
      have U_43 := hide (U_42.out.below hb)
      have T_43 := hide (T_42.out.below hb)
      have B_43 := hide (B_42.out.trans (hb.mono B_42.out.size))
      clear hb L_42 U_42 T_42 B_42
      go_wp2_with fail
      refine (CT2.out _ T_43.out).mono ?_
      rintro e v44 ⟨rfl, hb⟩
      have L_44 := hide (L_43.out.below hb)
      have U_44 := hide (U_43.out.below hb)
      have T_44 := hide (T_43.out.below hb)
      have B_44 := hide (B_43.out.trans (hb.mono B_43.out.size))
      clear hb L_43 U_43 T_43 B_43
      go_wp2_with fail
      refine (drawRateOf_any a1 len1 cap1 _ (Slb.below S1.out B_44.out) hl1).mono ?_
      rintro e v45 ⟨v, per, rfl, ho, hb⟩
      have L_45 := hide (L_44.out.below hb)
      have U_45 := hide (U_44.out.below hb)
      have T_45 := hide (T_44.out.below hb)
      have B_45 := hide (B_44.out.trans (hb.mono B_44.out.size))
      clear hb L_44 U_44 T_44 B_44
      obtain ⟨l2, hl2, ho2⟩ := ho
      obtain ⟨qa, qc, rfl, hq2, _⟩ := own_form2 ho2
      obtain ⟨n2, hn2⟩ : ∃ n, n = l2.length := ⟨_, rfl⟩
      rw [← hn2] at hl2
      rw [← hn2]
      have Q0 := hide hq2
      obtain ⟨c2, hc2⟩ : ∃ b : Bool, b = true ↔ RateOk l2 per := ⟨decide (RateOk l2 per), by simp⟩
      obtain ⟨R2, hR2⟩ : ∃ r, r = rateR l2 per := ⟨_, rfl⟩
      have D1 := hide (fun wx hs => rateOf_any qa l2 n2 qc per wx hn2.symm hs (by omega) R2 hR2 c2 hc2)
      have D2 := hide (fun wx hs => sRateOf_any qa l2 n2 qc per wx hn2.symm hs (by omega) R2 hR2 c2 hc2)
      have hee : (c2 == c2) = true := by simp
      have hff : (R2 == R2) = true := by simp
      clear hc2 hR2 ho2 hq2 hn2
      go_wp2_with fail
      refine (D1.out _ Q0.out).mono ?_
      rintro e v46 ⟨rfl, hb⟩
      have Q_46 := hide (Q0.out.below hb)
      have B_46 := hide (B_45.out.trans (hb.mono B_45.out.size))
      clear hb Q0 B_45
      go_wp2_with fail
      refine (D2.out _ Q_46.out).mono ?_
      rintro e v47 ⟨rfl, hb⟩
      have Q_47 := hide (Q_46.out.below hb)
      have B_47 := hide (B_46.out.trans (hb.mono B_46.out.size))
      clear hb Q_46 B_46
      cases c2 with
      | true =>
        go_wp2
        go_ret
        exact ⟨by simp, B_47.out⟩
      | false =>
        go_wp2
        go_ret
        exact ⟨by simp, B_47.out⟩
end Go.Proofs.Yticgejaaoamhmaf.fnRises
