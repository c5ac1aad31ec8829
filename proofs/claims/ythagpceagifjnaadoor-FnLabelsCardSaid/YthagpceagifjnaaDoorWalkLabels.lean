/-
  The walk of the law FnLabels: it returns true at every two lists of bytes; memory that was there stays as it was.
-/
import Derived.Test.YthagpceagifjnaaDoorL1Slb
import Derived.Test.YthagpceagifjnaaDoorL3DrawsL
import Derived.Test.YthagpceagifjnaaDoorL3Text
import Derived.Test.YthagpceagifjnaaDoorL3SText
import Derived.Test.YthagpceagifjnaaDoorL3Read
import Derived.Test.YthagpceagifjnaaDoorL3SRead
import Derived.Test.YthagpceagifjnaaDoorL3Back
import Derived.Test.YthagpceagifjnaaDoorL3SameL
import Derived.Test.YthagpceagifjnaaDoorL3Merge
import Derived.Test.YthagpceagifjnaaDoorL3SpecMergeN
import Derived.Test.YthagpceagifjnaaDoorL3Again
import Derived.Test.YthagpceagifjnaaDoorL3Hash
import Derived.Test.YthagpceagifjnaaDoorL3Good
import Derived.Deep.DeepCutAuto
namespace Go.Proofs.YthagpceagifjnaaDoor.fnLabels
open Go.RowKit L1 L3 L4
set_option linter.unusedVariables false

theorem tx_some (l : List Lb) : (txRes l).isSome = true ↔ GoodL l := by
  unfold txRes
  split
  · rename_i h; simp [h]
  · rename_i h; simp [h]
theorem ltext_small {l : List Lb} (h : GoodL l) : (ltext l).size ≤ 200 := by
  have := tx_size l
  unfold txRes at this
  rw [if_pos h] at this
  exact this
theorem good_wide {l : List Lb} (h : GoodL l) : ∀ j, j < l.length → (l.getD j eL).1.size ≤ 9223372036854775807 ∧ (l.getD j eL).2.size ≤ 9223372036854775807 := fun j hj => by
  have := good_sizes h j hj
  omega
theorem mrg_len (a b : List Lb) : ((mrgRes a b).getD []).length ≤ 6 := by
  unfold mrgRes
  split
  · rename_i h; exact h.2.2
  · exact Nat.zero_le _
theorem own_texts2 {w : World} {B m : Nat} {v : Value} (h : OwnLb w B v m) : ∃ (l : List Lb) (oa : Option Addr) (ocap : Nat), v = .slice oa l.length ocap ∧ l.length ≤ m ∧ SlL w oa l ∧ (∀ j, j < l.length → (l.getD j eL).1.size ≤ 9223372036854775807 ∧ (l.getD j eL).2.size ≤ 9223372036854775807) ∧ ((oa = none ∧ l = [] ∧ ocap = 0) ∨ ((∃ b o, oa = some ⟨b, o, none⟩) ∧ l.length ≤ ocap ∧ ocap ≤ 9223372036854775807)) := by
  obtain ⟨l, hl, hp, ho⟩ := h
  have h2 := ho.2
  obtain ⟨oa, ocap, e, hs, _⟩ := own_formL ho
  refine ⟨l, oa, ocap, e, hl, hs, fun j hj => ?_, ?_⟩
  · have := hp (l.getD j eL) (by simp [List.getD, List.getElem?_eq_getElem hj])
    omega
  · rcases h2 with ⟨hv, h0⟩ | ⟨g, cap, cur, hv, _, _, hc, hm, _⟩
    · rw [e] at hv
      obtain ⟨h1, _, h3⟩ := Value.slice.inj hv
      exact .inl ⟨h1, List.eq_nil_of_length_eq_zero h0, h3⟩
    · rw [e] at hv
      obtain ⟨h1, _, h3⟩ := Value.slice.inj hv
      subst h3
      exact .inr ⟨⟨_, _, h1⟩, hc, by unfold maxLen at hm; omega⟩
theorem specMerge_own (a1 a2 : Option Addr) (a b : List Lb) (n1 n2 c1 c2 : Nat) (w : World) (hn1 : a.length = n1) (hs1 : SlL w a1 a) (hn2 : b.length = n2) (hs2 : SlL w a2 b) (hm1 : n1 ≤ 1048576) (hm2 : n2 ≤ 1048576)
    (hx : (a1 = none ∧ a = [] ∧ c1 = 0) ∨ ((∃ b o, a1 = some ⟨b, o, none⟩) ∧ n1 ≤ c1 ∧ c1 ≤ 9223372036854775807))
    (ht1 : ∀ j, j < a.length → (a.getD j eL).1.size ≤ 9223372036854775807 ∧ (a.getD j eL).2.size ≤ 9223372036854775807) (ht2 : ∀ j, j < b.length → (b.getD j eL).1.size ≤ 9223372036854775807 ∧ (b.getD j eL).2.size ≤ 9223372036854775807) (r : Option (List Lb)) (hr : r = mrgRes a b) :
    Calls Tryd.prog 69 #[.slice a1 n1 c1, .slice a2 n2 c2] w fun e w' => RetLb w r e w' := by
  rcases hx with ⟨rfl, rfl, rfl⟩ | ⟨⟨b1, o1, rfl⟩, hc1, hc2⟩
  · obtain rfl : n1 = 0 := by rw [← hn1]; rfl
    exact specMerge_nil a2 b n2 c2 w hn2 hs2 hm2 ht2 r hr
  · exact specMerge_opt b1 o1 a2 a b n1 n2 c1 c2 w hn1 hs1 hn2 hs2 hm1 hm2 hc1 hc2 ht1 ht2 r hr

set_option maxRecDepth 100000 in
set_option maxHeartbeats 4000000 in
theorem walk (a0 : Option Addr) (len0 cap0 : Nat) (z0 : List Int) (a1 : Option Addr) (len1 cap1 : Nat) (z1 : List Int) (w : World) (w0 : IsRow .u8 w a0 len0 cap0 z0) (hr0 : len0 ≤ 140737488351232) (w1 : IsRow .u8 w a1 len1 cap1 z1) (hr1 : len1 ≤ 140737488351232) :
    Calls Tryd.prog 7 #[.slice a0 len0 cap0, .slice a1 len1 cap1] w fun e w' => e = .returned (.bool true) ∧ Below w.heap.size w w' := by
  have S0 := hide (L1.slb_of_row w0)
  have S1 := hide (L1.slb_of_row w1)
  clear w0 w1
  by_cases hsz : 1048576 < (len0 : Int) + (len1 : Int)
  · go_enter Tryd.func7, Tryd.ntmps7
    go_wp2
    go_ret
    exact ⟨rfl, Below.refl _ _⟩
  have hl0 : len0 ≤ 1048576 := by omega
  have hl1 : len1 ≤ 1048576 := by omega
  go_enter Tryd.func7, Tryd.ntmps7
  go_wp2_with fail
  refine (drawTextL_any a0 len0 cap0 _ S0.out hl0).mono ?_
  rintro e v1 ⟨v, rfl, ho, hb⟩
  obtain ⟨l, la, lc, rfl, hl, sl, hst⟩ := own_texts ho
  obtain ⟨n, hn⟩ : ∃ n, n = l.length := ⟨_, rfl⟩
  rw [← hn] at hl ⊢
  obtain ⟨T, hT⟩ : ∃ T, T = (txRes l).getD ByteArray.empty := ⟨_, rfl⟩
  obtain ⟨ok, hok⟩ : ∃ ok, ok = (txRes l).isSome := ⟨_, rfl⟩
  have CA := hide (fun wx h => labelsText_any la l n lc wx hn.symm h (by omega) hst _ rfl)
  have CB := hide (fun wx h => specText_any la l n lc wx hn.symm h (by omega) hst _ rfl)
  simp only [← hT, ← hok] at CA CB
  have CC := hide (fun wx h => goodLabels_any la l n lc wx hn.symm h (by omega) hst ok (by rw [hok]; exact tx_some l))
  have HOK : Hid (ok = true → GoodL l ∧ T = ltext l) := hide (fun h => by
    have hg := (tx_some l).1 (by rw [← hok]; exact h)
    exact ⟨hg, by rw [hT]; unfold txRes; rw [if_pos hg]; rfl⟩)
  have HN := hide hn.symm
  clear hn ho hT hok hst
  have B0 := hide (hb)
  have L0 := hide (sl)
  clear hb sl
  go_wp2_with fail
  refine (unhide CA _ L0.out).mono ?_
  rintro e v2 ⟨rfl, hb⟩
  have bb := hide (hb)
  have B1 := hide (B0.out.trans (bb.out.mono B0.out.size))
  clear B0
  have L1 := hide (L0.out.below bb.out)
  clear L0
  clear bb
  clear hb
  go_wp2_with fail
  refine (unhide CB _ L1.out).mono ?_
  rintro e v3 ⟨rfl, hb⟩
  have bb := hide (hb)
  have B2 := hide (B1.out.trans (bb.out.mono B1.out.size))
  clear B1
  have L2 := hide (L1.out.below bb.out)
  clear L1
  clear bb
  clear hb
  go_wp2_with fail
  refine (unhide CC _ L2.out).mono ?_
  rintro e v3b ⟨rfl, hb⟩
  have bb := hide (hb)
  have B3 := hide (B2.out.trans (bb.out.mono B2.out.size))
  clear B2
  have L3 := hide (L2.out.below bb.out)
  clear L2
  clear bb
  clear hb
  clear CA CB CC
  go_upto_if 64 with fail
  go_cut [] (fun wx => Below w.heap.size w wx)
  case first =>
    cases ok with
    | false =>
      go_wp2_with fail
      go_meet
      exact B3.out
    | true =>
      obtain ⟨hg, hT⟩ := HOK.out (by first | rfl | trivial)
      have hr := rd_back hg
      have hTs : T.size ≤ 1048576 := by rw [hT]; have := ltext_small hg; omega
      rw [← hT] at hr
      have CA := hide (fun wx => implRead_any T wx hTs)
      unfold RetLb at CA
      simp only [hr, Option.isSome_some, Option.getD_some] at CA
      rw [HN.out] at CA
      clear hr hT hg hTs
      go_wp2_with fail
      refine (unhide CA _).mono ?_
      rintro e v4 ⟨bv, rfl, ho, hb⟩
      obtain ⟨ba, bc, rfl, sb, _⟩ := own_formL ho
      have bb := hide (hb)
      have B4 := hide (B3.out.trans (bb.out.mono B3.out.size))
      clear B3
      have L4 := hide (L3.out.below bb.out)
      clear L3
      clear bb
      have K0 := hide (sb)
      clear hb ho sb CA
      go_wp2_with fail
      refine (sameLabels_same ba la l n _ _ _ HN.out K0.out L4.out (by omega)).mono ?_
      rintro e v5 ⟨rfl, hb⟩
      have bb := hide (hb)
      have B5 := hide (B4.out.trans (bb.out.mono B4.out.size))
      clear B4
      have L5 := hide (L4.out.below bb.out)
      clear L4
      have K1 := hide (K0.out.below bb.out)
      clear K0
      clear bb
      clear hb
      go_wp2_with fail
      go_meet
      exact B5.out
  case rest =>
    have B0 := hide hcut
    clear hcut HN HOK B3 L3
    go_wp2_with fail
    refine (drawReadL_any a1 len1 cap1 _ (L1.Slb.below S1.out B0.out) hl1).mono ?_
    rintro e x1 ⟨u, rfl, hu, hb⟩
    have bb := hide (hb)
    have B1 := hide (B0.out.trans (bb.out.mono B0.out.size))
    clear B0
    clear bb
    clear hb
    have hrl := rd_len u
    have CA := hide (fun wx => implRead_any u wx (by omega))
    have CB := hide (fun wx => specRead_any u wx (by omega))
    unfold RetLb at CA CB
    obtain ⟨is, his⟩ : ∃ is, is = (rdRes u).isSome := ⟨_, rfl⟩
    obtain ⟨R, hR⟩ : ∃ R, R = (rdRes u).getD [] := ⟨_, rfl⟩
    obtain ⟨m, hm⟩ : ∃ m, m = R.length := ⟨_, rfl⟩
    have HIS : Hid (is = true → GoodL R ∧ ltext R = u) := hide (fun h => by
      obtain ⟨r, hr⟩ := Option.isSome_iff_exists.1 (his.symm.trans h)
      have := rd_text hr
      rw [hr] at hR
      rw [hR]; exact this)
    rw [← hR, ← hm] at hrl
    simp only [← his, ← hR, ← hm] at CA CB
    have HM := hide hm.symm
    clear his hR hm
    go_wp2_with fail
    refine (unhide CA _).mono ?_
    rintro e x2 ⟨rv, rfl, ho, hb⟩
    obtain ⟨ra, rc, rfl, ss, _⟩ := own_formL ho
    have bb := hide (hb)
    have B2 := hide (B1.out.trans (bb.out.mono B1.out.size))
    clear B1
    clear bb
    have R0 := hide (ss)
    clear hb ho ss CA
    go_wp2_with fail
    refine (unhide CB _).mono ?_
    rintro e x3 ⟨qv, rfl, ho, hb⟩
    obtain ⟨qa, qc, rfl, ss, _⟩ := own_formL ho
    have bb := hide (hb)
    have B3 := hide (B2.out.trans (bb.out.mono B2.out.size))
    clear B2
    have R1 := hide (R0.out.below bb.out)
    clear R0
    clear bb
    have Q0 := hide (ss)
    clear hb ho ss CB
    go_wp2_with fail
    refine (sameLabels_same ra qa R m _ _ _ HM.out R1.out Q0.out (by omega)).mono ?_
    rintro e x4 ⟨rfl, hb⟩
    have bb := hide (hb)
    have B4 := hide (B3.out.trans (bb.out.mono B3.out.size))
    clear B3
    have R2 := hide (R1.out.below bb.out)
    clear R1
    clear Q0
    clear bb
    clear hb
    go_upto_if 99 with fail
    go_cut [] (fun wx => Below w.heap.size w wx)
    case first =>
      cases is with
      | false =>
        go_wp2_with fail
        go_meet
        exact B4.out
      | true =>
        obtain ⟨hg, hT⟩ := HIS.out (by first | rfl | trivial)
        have CA := hide (fun wx h => labelsText_any ra R m rc wx HM.out h (by omega) (good_wide hg) _ rfl)
        have htx : txRes R = some u := by unfold txRes; rw [if_pos hg, hT]
        simp only [htx, Option.isSome_some, Option.getD_some] at CA
        clear hg hT htx
        go_wp2_with fail
        refine (unhide CA _ R2.out).mono ?_
        rintro e x5 ⟨rfl, hb⟩
        have bb := hide (hb)
        have B5 := hide (B4.out.trans (bb.out.mono B4.out.size))
        clear B4
        have R3 := hide (R2.out.below bb.out)
        clear R2
        clear bb
        clear hb
        go_wp2_with fail
        go_meet
        exact B5.out
    case rest =>
      have B0 := hide hcut
      clear hcut HIS HM B4 R2
      go_wp2_with fail
      refine (drawMergeL_any a1 len1 cap1 _ (L1.Slb.below S1.out B0.out) hl1).mono ?_
      rintro e y1 ⟨p, q, rfl, hp, hq, hb⟩
      obtain ⟨xs, xa, xc, rfl, hxl, sx, hxt, hxc⟩ := own_texts2 hp
      obtain ⟨ys, ya, yc, rfl, hyl, sy, hyt⟩ := own_texts hq
      obtain ⟨nx, hnx⟩ : ∃ n, n = xs.length := ⟨_, rfl⟩
      obtain ⟨ny, hny⟩ : ∃ n, n = ys.length := ⟨_, rfl⟩
      rw [← hnx] at hxl hxc ⊢
      rw [← hny] at hyl ⊢
      have CA := hide (fun wx h1 h2 => merge_opt xa ya xs ys nx ny xc yc wx hnx.symm h1 hny.symm h2 (by omega) (by omega) hxt hyt _ rfl)
      have CB := hide (fun wx h1 h2 => specMerge_own xa ya xs ys nx ny xc yc wx hnx.symm h1 hny.symm h2 (by omega) (by omega) hxc hxt hyt _ rfl)
      unfold RetLb at CA CB
      obtain ⟨one, hone⟩ : ∃ b, b = (mrgRes xs ys).isSome := ⟨_, rfl⟩
      obtain ⟨M, hM⟩ : ∃ M, M = (mrgRes xs ys).getD [] := ⟨_, rfl⟩
      obtain ⟨k, hk⟩ : ∃ k, k = M.length := ⟨_, rfl⟩
      have hkl := mrg_len xs ys
      rw [← hM, ← hk] at hkl
      have HONE : Hid (one = true → GoodL M ∧ mrgRes M ys = some M) := hide (fun h => by
        obtain ⟨r, hr⟩ := Option.isSome_iff_exists.1 (hone.symm.trans h)
        have := mrg_again hr
        rw [hr] at hM
        rw [hM]; exact this)
      have HYT := hide hyt
      have HY := hide hny.symm
      have HK := hide hk.symm
      simp only [← hone, ← hM, ← hk] at CA CB
      clear hone hM hk hnx hny hxt hyt hp hq hxc
      have bb := hide (hb)
      have B1 := hide (B0.out.trans (bb.out.mono B0.out.size))
      clear B0
      clear bb
      have X0 := hide (sx)
      have Y0 := hide (sy)
      clear hb sx sy
      go_wp2_with fail
      refine (unhide CA _ X0.out Y0.out).mono ?_
      rintro e y2 ⟨mv, rfl, ho, hb⟩
      obtain ⟨ma, mc, rfl, ss, _⟩ := own_formL ho
      have bb := hide (hb)
      have B2 := hide (B1.out.trans (bb.out.mono B1.out.size))
      clear B1
      have X1 := hide (X0.out.below bb.out)
      clear X0
      have Y1 := hide (Y0.out.below bb.out)
      clear Y0
      clear bb
      have M0 := hide (ss)
      clear hb ho ss CA
      go_wp2_with fail
      refine (unhide CB _ X1.out Y1.out).mono ?_
      rintro e y3 ⟨nv, rfl, ho, hb⟩
      obtain ⟨na, nc, rfl, ss, _⟩ := own_formL ho
      have bb := hide (hb)
      have B3 := hide (B2.out.trans (bb.out.mono B2.out.size))
      clear B2
      have X2 := hide (X1.out.below bb.out)
      clear X1
      have Y2 := hide (Y1.out.below bb.out)
      clear Y1
      have M1 := hide (M0.out.below bb.out)
      clear M0
      clear bb
      have N0 := hide (ss)
      clear hb ho ss CB
      go_wp2_with fail
      refine (sameLabels_same ma na M k _ _ _ HK.out M1.out N0.out (by omega)).mono ?_
      rintro e y4 ⟨rfl, hb⟩
      have bb := hide (hb)
      have B4 := hide (B3.out.trans (bb.out.mono B3.out.size))
      clear B3
      clear X2
      have Y3 := hide (Y2.out.below bb.out)
      clear Y2
      have M2 := hide (M1.out.below bb.out)
      clear M1
      clear N0
      clear bb
      clear hb
      go_upto_if 138 with fail
      go_cut [] (fun wx => Below w.heap.size w wx)
      case first =>
        cases one with
        | false =>
          go_wp2_with fail
          go_meet
          exact B4.out
        | true =>
          obtain ⟨hg, hag⟩ := HONE.out (by first | rfl | trivial)
          have CA := hide (fun wx h1 h2 => merge_opt ma ya M ys k ny mc yc wx HK.out h1 HY.out h2 (by omega) (by omega) (good_wide hg) HYT.out _ rfl)
          unfold RetLb at CA
          simp only [hag, Option.isSome_some, Option.getD_some] at CA
          rw [HK.out] at CA
          have CC := hide (fun wx h => goodLabels_any ma M k mc wx HK.out h (by omega) (good_wide hg) true (by simp [hg]))
          clear hg hag
          go_wp2_with fail
          refine (unhide CA _ M2.out Y3.out).mono ?_
          rintro e y5 ⟨gv, rfl, ho, hb⟩
          obtain ⟨ga, gc, rfl, ss, _⟩ := own_formL ho
          have bb := hide (hb)
          have B5 := hide (B4.out.trans (bb.out.mono B4.out.size))
          clear B4
          have Y4 := hide (Y3.out.below bb.out)
          clear Y3
          have M3 := hide (M2.out.below bb.out)
          clear M2
          clear bb
          have G0 := hide (ss)
          clear hb ho ss CA
          go_wp2_with fail
          refine (unhide CC _ M3.out).mono ?_
          rintro e y6 ⟨rfl, hb⟩
          have bb := hide (hb)
          have B6 := hide (B5.out.trans (bb.out.mono B5.out.size))
          clear B5
          have Y5 := hide (Y4.out.below bb.out)
          clear Y4
          have M4 := hide (M3.out.below bb.out)
          clear M3
          have G1 := hide (G0.out.below bb.out)
          clear G0
          clear bb
          clear hb
          go_wp2_with fail
          refine (sameLabels_same ga ma M k _ _ _ HK.out G1.out M4.out (by omega)).mono ?_
          rintro e y7 ⟨rfl, hb⟩
          have bb := hide (hb)
          have B7 := hide (B6.out.trans (bb.out.mono B6.out.size))
          clear B6
          have Y6 := hide (Y5.out.below bb.out)
          clear Y5
          have M5 := hide (M4.out.below bb.out)
          clear M4
          have G2 := hide (G1.out.below bb.out)
          clear G1
          clear bb
          clear hb
          go_wp2_with fail
          go_meet
          exact B7.out
      case rest =>
        have B0 := hide hcut
        clear hcut HONE HK HY HYT B4 Y3 M2
        go_wp2_with fail
        refine (drawHashL_any a1 len1 cap1 _ (L1.Slb.below S1.out B0.out) hl1).mono ?_
        rintro e z1 ⟨u, rfl, hu, hb⟩
        have bb := hide (hb)
        have B1 := hide (B0.out.trans (bb.out.mono B0.out.size))
        clear B0
        clear bb
        clear hb
        obtain ⟨h, hh⟩ : ∃ h, h = hsh (bts u 0) u.size := ⟨_, rfl⟩
        have CA := hide (fun wx => hashText_in u wx (by omega))
        have CB := hide (fun wx => specHash_in u wx (by omega))
        rw [← hh] at CA CB
        clear hh
        go_wp2_with fail
        refine (unhide CA _).mono ?_
        rintro e z2 ⟨rfl, rfl⟩
        go_wp2_with fail
        refine (unhide CB _).mono ?_
        rintro e z3 ⟨rfl, rfl⟩
        go_wp2
        go_ret
        exact ⟨rfl, B1.out⟩
end Go.Proofs.YthagpceagifjnaaDoor.fnLabels
