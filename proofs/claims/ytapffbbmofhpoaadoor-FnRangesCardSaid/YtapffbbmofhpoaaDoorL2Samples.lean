/-
  Contract: impl.samplesOf: the samples that bends and changes tell, in new memory, and true, where they are good; else no list and false.
-/
import Derived.Test.YtapffbbmofhpoaaDoorL2Parts
import Derived.Test.YtapffbbmofhpoaaDoorL2Good
import Derived.Test.YtapffbbmofhpoaaDoorL2Deltas
import Derived.Test.YtapffbbmofhpoaaDoorL2Rows
namespace Go.Proofs.YtapffbbmofhpoaaDoor.L1
open Go.RowKit
set_option linter.unusedVariables false

set_option maxRecDepth 100000 in
set_option maxHeartbeats 4000000 in
theorem samplesOf_any (a : Option Addr) (xs : List Int) (m cap : Nat) (w : World) (hr : xs.length = 2 * m) (hm : m ≤ 40) (hs : Sl w a xs) (hokx : OkL xs) (r : Option (List (Int × Int))) (hres : r = ofPairs xs) :
    Calls Tryd.prog 102 #[.slice a (2 * m) cap] w fun e w' => RetS w r e w' := by
  obtain ⟨B0, hB0⟩ : ∃ B0, B0 = w := ⟨_, rfl⟩
  rw [← hB0]
  have hle := inter_ev m xs hr
  have S1 := hide (fun a cap w hs => sumsOf_any a (ev xs) m cap w hle.2.1 hs (by omega))
  have S2 := hide (fun a cap w hs => sumsOf_any a (sm 0 (ev xs)) m cap w (by rw [sm_len, hle.2.1]) hs (by omega))
  have S3 := hide (fun a cap w hs => sumsOf_any a (od xs) m cap w hle.2.2 hs (by omega))
  have hokev := okL_ev m hr hokx
  have HOE := hide hokev
  have HLE := hide hle
  obtain ⟨i0, hi, hz0, hz1, hz2⟩ := info_parts info_int
  obtain ⟨i1, hi1, hy0, hy1, hy2⟩ := info_parts info_smpS
  have HSR := hide hs
  have HRL := hide hr
  have HR := hide hr
  have HRES := hide hres
  clear hs hr hres hle hokx hokev
  rw [← hB0] at HSR
  clear hB0
  go_enter Tryd.func102, Tryd.ntmps102
  go_wp2
  go_loopw [4, 5, 6] (fun ot ov i wr => ∃ (k j : Nat), k ≤ m ∧ j = 2 * k + 0 ∧ i = .int .i64 j ∧ Two B0.heap.size wr ot ov k ((ev xs).take k) ((od xs).take k) ∧ Below B0.heap.size B0 wr) (fun _ _ i _ => 2 * m + 0 - (intOf i).toNat)
  case atStart => exact ⟨0, 0, Nat.zero_le _, rfl, rfl, two_nil _ _, Below.refl _ _⟩
  case round =>
    obtain ⟨k, j, hk, hj, rfl, htwo, hbel⟩ := hrel
    obtain ⟨oa, ocap, qa, qcap, rfl, rfl, _, _⟩ := htwo.form
    by_cases hlt : k < m
    · obtain ⟨b, off, hab, hc0⟩ := HSR.out j (by rw [HRL.out]; omega)
      cases hab
      obtain ⟨b', off', hbo, hd0⟩ := HSR.out (j + 1) (by rw [HRL.out]; omega)
      cases hbo
      have hev := ev_get m xs HR.out k hlt
      have he1 : (xs).getD j 0 = (ev xs).getD k 0 := by rw [hj]; exact hev.1.symm
      have he2 : (xs).getD (j + 1) 0 = (od xs).getD k 0 := by rw [hj]; exact hev.2.symm
      have hc : wr.cell? ⟨b, off + j, none⟩ = some (.int .i64 ((ev xs).getD k 0)) := by
        rw [hbel.cell (p := ⟨b, off + j, none⟩) (blk_lt hc0), hc0, he1]
      have hd : wr.cell? ⟨b, off + (j + 1), none⟩ = some (.int .i64 ((od xs).getD k 0)) := by
        rw [hbel.cell (p := ⟨b, off + (j + 1), none⟩) (blk_lt hd0), hd0, he2]
      have HDB := hide (blk_lt hd0)
      have hltI : (j : Int) < ((2 * m : Nat) : Int) := by omega
      have hltI1 : (j : Int) + 1 < ((2 * m : Nat) : Int) := by omega
      have hj0 : (0 : Int) ≤ (j : Int) := by omega
      have hj1 : (0 : Int) ≤ (j : Int) + 1 := by omega
      have hle := inter_ev m xs HR.out
      have ht1 := ltake_snoc (ev xs) k (by rw [hle.2.1]; exact hlt)
      have ht2 := ltake_snoc (od xs) k (by rw [hle.2.2]; exact hlt)
      obtain ⟨x, hx⟩ : ∃ x, x = (ev xs).getD k 0 := ⟨_, rfl⟩
      obtain ⟨y, hy⟩ : ∃ y, y = (od xs).getD k 0 := ⟨_, rfl⟩
      rw [← hx] at hc ht1
      rw [← hy] at hd ht2
      obtain ⟨ts, hts⟩ : ∃ ts, ts = (ev xs).take k := ⟨_, rfl⟩
      obtain ⟨vs, hvs⟩ : ∃ vs, vs = (od xs).take k := ⟨_, rfl⟩
      rw [← hts] at ht1 htwo
      rw [← hvs] at ht2 htwo
      have HT1 := hide ht1
      have HT2 := hide ht2
      have HJ := hide hj
      have hbs := hbel.size
      have HTW := hide htwo
      have HD := hide hd
      have hjm : j ≤ 100 := by omega
      clear hc0 hd0 hx hy ht1 ht2 htwo hts hvs he1 he2 hev hle hj hd
      go_wp2_with (first
        | (at_builtin; refine wpList_append_own_at _ rfl _ _ 32 rfl B0.heap.size 3 i0 (.int .i64 0) 1 8 Tryd.underlying32 hi hz0 hz1 hz2 rfl (by decide) _ _ _ rfl (HTW.out.1.alloc _) ⟨wr.heap.size, 0, none⟩ 1 1 [.int .i64 x] rfl rfl (cell_one_new _ _ _) (by intro u hu; simp at hu; subst hu; rfl) (by unfold maxLen; omega) (by omega) (by simp; omega) ?_)
        | go_in)
      intro v3 w3 hown3 hgrow3 _ hblk3
      have F3 := two_firstS HTW.out hgrow3 hown3 (by simpa using hblk3)
      obtain ⟨hb3, HF3⟩ := F3
      have hd3 : w3.cell? ⟨b, off + (j + 1), none⟩ = some (.int .i64 y) := (hb3.cell (p := ⟨b, off + (j + 1), none⟩) HDB.out).trans HD.out
      have hb3' := hbel.trans hb3
      have hs3 := hb3'.size
      clear hown3 hgrow3 hblk3 hb3
      obtain ⟨g3, c3, rfl⟩ := ownsRow_succ' HF3.out.1
      go_wp2_with (first
        | (at_builtin; refine wpList_append_own_at _ rfl _ _ 32 rfl B0.heap.size 3 i0 (.int .i64 0) 1 8 Tryd.underlying32 hi hz0 hz1 hz2 rfl (by decide) _ _ _ rfl (HF3.out.2.1.alloc _) ⟨w3.heap.size, 0, none⟩ 1 1 [.int .i64 y] rfl rfl (cell_one_new _ _ _) (by intro u hu; simp at hu; subst hu; rfl) (by unfold maxLen; omega) (by omega) (by simp; omega) ?_)
        | go_in)
      intro v4 w4 hown4 hgrow4 _ hblk4
      have F4 := hide (two_second HF3.out hgrow4 hown4 (by simpa using hblk4))
      have hb4 := hb3'.trans (below_app hs3 hgrow4 (fun g hg => (HF3.out.2.1.lt g hg).1))
      clear hown4 hgrow4 hblk4
      go_wp2
      go_roundw
      case rel => exact ⟨k + 1, j + 2, by omega, by rw [HJ.out]; omega, by go_num, by rw [HT1.out, HT2.out]; simpa using F4.out, hb4⟩
      case measure => have := HJ.out; simp [intOf]; omega
    · obtain rfl : m = k := by omega
      have hle := inter_ev m xs HR.out
      have e1 : (ev xs).take m = ev xs := List.take_of_length_le (by rw [hle.2.1]; omega)
      have e2 : (od xs).take m = od xs := List.take_of_length_le (by rw [hle.2.2]; omega)
      rw [e1, e2] at htwo
      have hltI : ¬ (j : Int) < ((2 * m : Nat) : Int) := by omega
      obtain ⟨ta, tc, va, vc, e3, e4, hst, hsv⟩ := htwo.form
      cases e3
      cases e4
      have HT := hide hst
      have HV := hide hsv
      clear e1 e2 htwo hst hsv hle hj
      by_cases ok1 : OkL (sm 0 (ev xs))
      · have r1 := sRes_yes (by rw [HLE.out.2.1]; exact hm) HOE.out.1 ok1
        simp only [r1, RetL, Option.isSome_some, Option.getD_some, sm_len, HLE.out.2.1] at S1
        by_cases ok2 : OkL (sm 0 (sm 0 (ev xs)))
        · have r2 := sRes_yes (by rw [sm_len, HLE.out.2.1]; exact hm) ok1 ok2
          simp only [r2, RetL, Option.isSome_some, Option.getD_some, sm_len, HLE.out.2.1] at S2
          by_cases ok3 : OkL (sm 0 (od xs))
          · have r3 := sRes_yes (by rw [HLE.out.2.2]; exact hm) HOE.out.2 ok3
            simp only [r3, RetL, Option.isSome_some, Option.getD_some, sm_len, HLE.out.2.2] at S3
            clear r1 r2 r3 ok1 ok2 ok3
            go_wp2_with fail
            refine (S1.out _ _ _ HT.out).mono ?_
            rintro e w2 ⟨v2, rfl, ho2, hb2⟩
            obtain ⟨s1, k1, rfl, sl1, _⟩ := own_form ho2
            have V2 := hide (HV.out.below hb2)
            have T2 := hide sl1
            have B2 := hide (hbel.trans (hb2.mono hbel.size))
            clear ho2 sl1 hb2
            go_wp2_with fail
            refine (S2.out _ _ _ T2.out).mono ?_
            rintro e w3 ⟨v3, rfl, ho3, hb3⟩
            obtain ⟨s2, k2, rfl, sl2, _⟩ := own_form ho3
            have V3 := hide (V2.out.below hb3)
            have T3 := hide sl2
            have B3 := hide (B2.out.trans (hb3.mono B2.out.size))
            clear ho3 sl2 hb3
            go_wp2_with fail
            refine (S3.out _ _ _ V3.out).mono ?_
            rintro e w4 ⟨v4, rfl, ho4, hb4⟩
            obtain ⟨s3, k3, rfl, sl3, _⟩ := own_form ho4
            have T4 := hide (T3.out.below hb4)
            have V4 := hide sl3
            have B4 := hide (B3.out.trans (hb4.mono B3.out.size))
            clear ho4 sl3 hb4
            clear HT HV V2 T2 B2 T3 V3 B3 S1 S2 S3 hbel hltI
            obtain ⟨W2, hW2⟩ : ∃ W2, W2 = w4 := ⟨_, rfl⟩
            rw [← hW2] at T4 V4 B4 ⊢
            clear hW2
            go_wp2
            go_loopw [11, 58] (fun o i wr => ∃ k : Nat, k ≤ m ∧ i = .int .i64 k ∧ wr.ownsRow W2.heap.size 50 2 o k (flat2 ((unS (ev xs) (od xs)).take k)) ∧ Below W2.heap.size W2 wr) (fun _ i _ => m - (intOf i).toNat)
            case atStart => exact ⟨0, Nat.zero_le _, rfl, World.ownsRow_nil _ _ _ _, Below.refl _ _⟩
            case round =>
              obtain ⟨k, hk, rfl, hown, hbel2⟩ := hrel
              obtain ⟨oa, ocap, rfl, _, _⟩ := own_formS hown
              by_cases hlt : k < m
              · obtain ⟨bb, bo, rfl, hcx0⟩ := T4.out k (by rw [sm_len, sm_len, HLE.out.2.1]; exact hlt)
                obtain ⟨cb, co, rfl, hcy0⟩ := V4.out k (by rw [sm_len, HLE.out.2.2]; exact hlt)
                have hcx := (hbel2.cell (p := ⟨bb, bo + k, none⟩) (blk_lt hcx0)).trans hcx0
                have hcy := (hbel2.cell (p := ⟨cb, co + k, none⟩) (blk_lt hcy0)).trans hcy0
                have HBB := hide (blk_lt hcx0)
                have HCB := hide (blk_lt hcy0)
                have htk : (unS (ev xs) (od xs)).take (k + 1) = (unS (ev xs) (od xs)).take k ++ [((sm 0 (sm 0 (ev xs))).getD k 0, (sm 0 (od xs)).getD k 0)] := zip_take _ _ k (by rw [sm_len, sm_len, sm_len, HLE.out.2.1, HLE.out.2.2]) (by rw [sm_len, sm_len, HLE.out.2.1]; exact hlt)
                obtain ⟨x, hx⟩ : ∃ x, x = (sm 0 (sm 0 (ev xs))).getD k 0 := ⟨_, rfl⟩
                obtain ⟨y, hy⟩ : ∃ y, y = (sm 0 (od xs)).getD k 0 := ⟨_, rfl⟩
                rw [← hx] at hcx htk
                rw [← hy] at hcy htk
                obtain ⟨ns, hns⟩ : ∃ ns, ns = (unS (ev xs) (od xs)).take k := ⟨_, rfl⟩
                rw [← hns] at htk hown
                have HTK := hide htk
                have HROW := hide hown
                have hltI : (k : Int) < (m : Int) := by omega
                have hk0 : (0 : Int) ≤ (k : Int) := by omega
                have hsz2 := hbel2.size
                clear hcx0 hcy0 hx hy htk hns hown
                go_wp2_with (first
                  | (at_builtin; refine wpList_append_own _ rfl _ _ 41 rfl W2.heap.size 50 i1 (.agg #[.int .i64 0, .int .i64 0]) 2 16 Tryd.underlying41 hi1 hy0 hy1 hy2 rfl (by decide) _ _ _ rfl (HROW.out.alloc _) ⟨wr.heap.size, 0, none⟩ 1 1 [.int .i64 x, .int .i64 y] rfl rfl (cell_two_newS _ _ _ _) (by intro u hu; simp at hu; rcases hu with rfl | rfl <;> rfl) (by unfold maxLen; omega) (by omega) (by simp; omega) ?_)
                  | go_in)
                intro v6 w6 hown6 hgrow6 _
                have hb6 := hbel2.trans (below_app hsz2 hgrow6 (fun g hg => (HROW.out.lt g hg).1))
                have hown7 : w6.ownsRow W2.heap.size 50 2 v6 (k + 1) (flat2 ((unS (ev xs) (od xs)).take (k + 1))) := by rw [HTK.out, flat2_append]; simpa [flat2] using hown6
                clear hown6 hgrow6
                go_wp2
                go_roundw
                case rel => exact ⟨k + 1, by omega, by go_num, hown7, hb6⟩
                case measure => simp [intOf]; omega
              · obtain rfl : m = k := by omega
                have e1 : (unS (ev xs) (od xs)).take m = unS (ev xs) (od xs) := List.take_of_length_le (by rw [unS_len (by rw [HLE.out.2.1, HLE.out.2.2]), HLE.out.2.1]; omega)
                rw [e1] at hown
                obtain ⟨oa', ocap', eo, hsl, hlen⟩ := own_formS hown
                cases eo
                have hltI : ¬ (m : Int) < (m : Int) := by omega
                have HO := hide (own_baseS hown B4.out.size)
                have HSL := hide hsl
                have BW := hide (B4.out.trans (hbel2.mono B4.out.size))
                have HLN := hide hlen
                clear e1 hown hsl hlen
                by_cases hg : GoodS (unS (ev xs) (od xs))
                · have C9 := hide (goodSamples_any oa (unS (ev xs) (od xs)) m ocap wr HLN.out HSL.out (by omega) true (by simp [hg]))
                  have HRN : Hid (r = some (unS (ev xs) (od xs))) := by rw [show r = _ from HRES.out]; exact ofPairs_some hg
                  clear hg
                  go_wp2_with fail
                  refine C9.out.mono ?_
                  rintro e w9 ⟨rfl, hb9⟩
                  have HO9 := hide (own_belowS HO.out hb9)
                  have B9 := hide (BW.out.trans (hb9.mono BW.out.size))
                  clear hb9
                  go_wp2
                  go_ret2
                  exact ⟨_, by rw [HRN.out]; rfl, by rw [HRN.out]; simp only [Option.getD_some]; rw [HLN.out]; exact HO9.out, B9.out⟩
                · have C9 := hide (goodSamples_any oa (unS (ev xs) (od xs)) m ocap wr HLN.out HSL.out (by omega) false (by simp [hg]))
                  have HRN : Hid (r = none) := by rw [show r = _ from HRES.out]; exact ofPairs_none hg
                  clear hg
                  go_wp2_with fail
                  refine C9.out.mono ?_
                  rintro e w9 ⟨rfl, hb9⟩
                  have B9 := hide (BW.out.trans (hb9.mono BW.out.size))
                  clear hb9
                  go_wp2
                  go_ret2
                  exact ⟨_, by rw [HRN.out]; rfl, by rw [HRN.out]; exact World.ownsRow_nil _ _ _ _, B9.out⟩
          · have r3 := sRes_no (xs := od xs) (fun h => ok3 h)
            simp only [r3, RetL, Option.isSome_none, Option.getD_none] at S3
            have HRN : Hid (r = none) := by rw [show r = _ from HRES.out]; exact ofPairs_none (fun hg => ok3 (good_sums (by rw [HLE.out.2.1, HLE.out.2.2]) hg).2.2)
            clear r1 r2 r3 ok1 ok2 ok3
            go_wp2_with fail
            refine (S1.out _ _ _ HT.out).mono ?_
            rintro e w2 ⟨v2, rfl, ho2, hb2⟩
            obtain ⟨s1, k1, rfl, sl1, _⟩ := own_form ho2
            have V2 := hide (HV.out.below hb2)
            have T2 := hide sl1
            have B2 := hide (hbel.trans (hb2.mono hbel.size))
            clear ho2 sl1 hb2
            go_wp2_with fail
            refine (S2.out _ _ _ T2.out).mono ?_
            rintro e w3 ⟨v3, rfl, ho3, hb3⟩
            obtain ⟨s2, k2, rfl, sl2, _⟩ := own_form ho3
            have V3 := hide (V2.out.below hb3)
            have T3 := hide sl2
            have B3 := hide (B2.out.trans (hb3.mono B2.out.size))
            clear ho3 sl2 hb3
            go_wp2_with fail
            refine (S3.out _ _ _ V3.out).mono ?_
            rintro e w4 ⟨v4, rfl, ho4, hb4⟩
            clear ho4
            have BN := hide (B3.out.trans (hb4.mono B3.out.size))
            clear hb4
            go_wp2
            go_ret2
            exact ⟨_, by rw [HRN.out]; rfl, by rw [HRN.out]; exact World.ownsRow_nil _ _ _ _, BN.out⟩
        · have r2 := sRes_no (xs := sm 0 (ev xs)) (fun h => ok2 h)
          simp only [r2, RetL, Option.isSome_none, Option.getD_none] at S2
          have HRN : Hid (r = none) := by rw [show r = _ from HRES.out]; exact ofPairs_none (fun hg => ok2 (good_sums (by rw [HLE.out.2.1, HLE.out.2.2]) hg).2.1)
          clear r1 r2 ok1 ok2
          go_wp2_with fail
          refine (S1.out _ _ _ HT.out).mono ?_
          rintro e w2 ⟨v2, rfl, ho2, hb2⟩
          obtain ⟨s1, k1, rfl, sl1, _⟩ := own_form ho2
          have V2 := hide (HV.out.below hb2)
          have T2 := hide sl1
          have B2 := hide (hbel.trans (hb2.mono hbel.size))
          clear ho2 sl1 hb2
          go_wp2_with fail
          refine (S2.out _ _ _ T2.out).mono ?_
          rintro e w3 ⟨v3, rfl, ho3, hb3⟩
          clear ho3
          have BN := hide (B2.out.trans (hb3.mono B2.out.size))
          clear hb3
          go_wp2
          go_ret2
          exact ⟨_, by rw [HRN.out]; rfl, by rw [HRN.out]; exact World.ownsRow_nil _ _ _ _, BN.out⟩
      · have r1 := sRes_no (xs := ev xs) (fun h => ok1 h)
        simp only [r1, RetL, Option.isSome_none, Option.getD_none] at S1
        have HRN : Hid (r = none) := by rw [show r = _ from HRES.out]; exact ofPairs_none (fun hg => ok1 (good_sums (by rw [HLE.out.2.1, HLE.out.2.2]) hg).1)
        clear r1 ok1
        go_wp2_with fail
        refine (S1.out _ _ _ HT.out).mono ?_
        rintro e w2 ⟨v2, rfl, ho2, hb2⟩
        clear ho2
        have BN := hide (hbel.trans (hb2.mono hbel.size))
        clear hb2
        go_wp2
        go_ret2
        exact ⟨_, by rw [HRN.out]; rfl, by rw [HRN.out]; exact World.ownsRow_nil _ _ _ _, BN.out⟩
end Go.Proofs.YtapffbbmofhpoaaDoor.L1
