/-
  The walk of the law FnChunks: it returns true at every two lists of bytes, where the table of worths lies in memory; memory that was there stays as it was.
-/
import Derived.Test.YtkjljkfjcngkcaaDoorL1Same
import Derived.Test.YtkjljkfjcngkcaaDoorL2Same
import Derived.Test.YtkjljkfjcngkcaaDoorL2OneMore
import Derived.Test.YtkjljkfjcngkcaaDoorL2Draws
import Derived.Test.YtkjljkfjcngkcaaDoorL2DrawDeltas
import Derived.Test.YtkjljkfjcngkcaaDoorL2Enc
import Derived.Test.YtkjljkfjcngkcaaDoorL2ChunkSize
import Derived.Test.YtkjljkfjcngkcaaDoorL2Dec
import Derived.Test.YtkjljkfjcngkcaaDoorL2SpecDec
import Derived.Test.YtkjljkfjcngkcaaDoorL2App
import Derived.Test.YtkjljkfjcngkcaaDoorL2SpecDeltas
import Derived.Deep.DeepCutAuto
namespace Go.Proofs.YtkjljkfjcngkcaaDoor.fnChunks
open Go.RowKit L1
set_option linter.unusedVariables false

theorem dec_enc {l : List (Int × Int)} (h : GoodS l) : dcRes (bts (strOfNums (cat (nums l))) 0) = some l := by
  rw [bts_str _ (cat_bytes _ (okL_mem' (okL_nums h))), dcRes_cat h]
theorem sums_back {xs ys : List Int} (h : dRes xs = some ys) : sRes ys = some xs := by
  unfold dRes at h
  split at h
  · rename_i hh
    rw [Option.some.injEq] at h
    subst h
    unfold sRes
    rw [sm_dl, if_pos ⟨by rw [dl_len]; exact hh.1, hh.2.2, hh.2.1⟩]
  · cases h
theorem enc_size {l : List (Int × Int)} (h : GoodS l) : (cat (nums l)).length ≤ 486 := by
  have h1 := cat_len (nums l)
  have h2 := nums_len l
  have := h.1
  omega

set_option maxRecDepth 100000 in
set_option maxHeartbeats 4000000 in
theorem walk (a0 : Option Addr) (len0 cap0 : Nat) (z0 : List Int) (a1 : Option Addr) (len1 cap1 : Nat) (z1 : List Int) (w : World) (w0 : IsRow .u8 w a0 len0 cap0 z0) (hr0 : len0 ≤ 140737488351232) (w1 : IsRow .u8 w a1 len1 cap1 z1) (hr1 : len1 ≤ 140737488351232) (ht : Tab w) :
    Calls Tryd.prog 5 #[.slice a0 len0 cap0, .slice a1 len1 cap1] w fun e w' => e = .returned (.bool true) ∧ Below w.heap.size w w' := by
  have S0 := hide (slb_of_row w0)
  have S1 := hide (slb_of_row w1)
  have HT := hide ht
  clear w0 w1 ht
  by_cases hsz : 1048576 < (len0 : Int) + (len1 : Int)
  · go_enter Tryd.func5, Tryd.ntmps5
    go_wp2
    go_ret
    exact ⟨rfl, Below.refl _ _⟩
  · have hl0 : len0 ≤ 1048576 := by omega
    have hl1 : len1 ≤ 1048576 := by omega
    go_enter Tryd.func5, Tryd.ntmps5
    go_wp2_with fail
    refine (drawEncodeChunk_any a0 len0 cap0 _ S0.out hl0).mono ?_
    rintro e v1 ⟨lv, rfl, ⟨l, hl, hbd, ho⟩, hb⟩
    obtain ⟨n, hn⟩ : ∃ n, n = l.length := ⟨_, rfl⟩
    rw [← hn] at ho hl
    obtain ⟨la, lc, rfl, sl, _⟩ := own_formS ho
    have hex : ∃ (S : ByteArray) (m : Nat) (ok : Bool),
        (∀ wx, Sl2 wx la l → Tab wx → Calls Tryd.prog 35 #[.slice la n lc] wx fun e w' => e = .returned (.tuple #[.string S, .bool ok]) ∧ Below wx.heap.size wx w') ∧
        (∀ wx, Sl2 wx la l → Calls Tryd.prog 36 #[.slice la n lc] wx fun e w' => e = .returned (.tuple #[.string S, .bool ok]) ∧ Below wx.heap.size wx w') ∧
        (∀ wx, Sl2 wx la l → Tab wx → Calls Tryd.prog 37 #[.slice la n lc] wx fun e w' => e = .returned (.tuple #[.int .i64 (m : Int), .bool ok]) ∧ Below wx.heap.size wx w') ∧
        (∀ wx, Sl2 wx la l → Calls Tryd.prog 38 #[.slice la n lc] wx fun e w' => e = .returned (.tuple #[.int .i64 (m : Int), .bool ok]) ∧ Below wx.heap.size wx w') ∧
        (∀ wx, Sl2 wx la l → Calls Tryd.prog 39 #[.slice la n lc] wx fun e w' => e = .returned (.bool ok) ∧ Below wx.heap.size wx w') ∧
        (ok = true → GoodS l ∧ S = strOfNums (cat (nums l)) ∧ m = (cat (nums l)).length) := by
      have hn' := hn.symm
      by_cases hg : GoodS l
      · exact ⟨_, _, true, fun wx h t => encodeChunk_yes la l n lc wx hn' h hg t, fun wx h => specEncode_yes la l n lc wx hn' h hg, fun wx h t => chunkSize_yes la l n lc wx hn' h hg t, fun wx h => specSize_yes la l n lc wx hn' h hg, fun wx h => goodSamples_any la l n lc wx hn' h (by omega) true (by simp [hg]), fun _ => ⟨hg, rfl, rfl⟩⟩
      · exact ⟨_, 0, false, fun wx h t => encodeChunk_no la l n lc wx hn' h (by omega) hg, fun wx h => specEncode_no la l n lc wx hn' h (by omega) hg, fun wx h t => chunkSize_no la l n lc wx hn' h (by omega) hg, fun wx h => specSize_no la l n lc wx hn' h (by omega) hg, fun wx h => goodSamples_any la l n lc wx hn' h (by omega) false (by simp [hg]), fun h => by cases h⟩
    obtain ⟨S, m, ok, c1, c2, c3, c4, c5, hok⟩ := hex
    have CA := hide c1
    have CB := hide c2
    have CC := hide c3
    have CD := hide c4
    have CE := hide c5
    have HOK := hide hok
    have HN := hide hn.symm
    clear c1 c2 c3 c4 c5 hok hn ho
    have B0 := hide hb
    have L0 := hide sl
    clear hb sl hbd
    go_wp2_with fail
    refine (unhide CA _ L0.out (HT.out.below B0.out)).mono ?_
    rintro e v2 ⟨rfl, hb⟩
    have bb := hide hb
    have B1 := hide (B0.out.trans (bb.out.mono B0.out.size))
    clear B0
    have L1 := hide (L0.out.below bb.out)
    clear L0
    clear bb
    clear hb CA
    go_wp2_with fail
    refine (unhide CB _ L1.out).mono ?_
    rintro e v3 ⟨rfl, hb⟩
    have bb := hide hb
    have B2 := hide (B1.out.trans (bb.out.mono B1.out.size))
    clear B1
    have L2 := hide (L1.out.below bb.out)
    clear L1
    clear bb
    clear hb CB
    go_wp2_with fail
    refine (unhide CC _ L2.out (HT.out.below B2.out)).mono ?_
    rintro e v4 ⟨rfl, hb⟩
    have bb := hide hb
    have B3 := hide (B2.out.trans (bb.out.mono B2.out.size))
    clear B2
    have L3 := hide (L2.out.below bb.out)
    clear L2
    clear bb
    clear hb CC
    go_wp2_with fail
    refine (unhide CD _ L3.out).mono ?_
    rintro e v5 ⟨rfl, hb⟩
    have bb := hide hb
    have B4 := hide (B3.out.trans (bb.out.mono B3.out.size))
    clear B3
    have L4 := hide (L3.out.below bb.out)
    clear L3
    clear bb
    clear hb CD
    go_wp2_with fail
    refine (unhide CE _ L4.out).mono ?_
    rintro e v6 ⟨rfl, hb⟩
    have bb := hide hb
    have B5 := hide (B4.out.trans (bb.out.mono B4.out.size))
    clear B4
    have L5 := hide (L4.out.below bb.out)
    clear L4
    clear bb
    clear hb CE
    go_upto_if 91 with fail
    go_cut [] (fun wx => Below w.heap.size w wx)
    case first =>
      cases ok with
      | false =>
        go_wp2_with fail
        go_meet
        exact B5.out
      | true =>
        obtain ⟨hg, hS, hm⟩ := HOK.out rfl
        have hSm : S.size = m := by rw [hS, strOfNums_size, hm]
        have hm486 : m ≤ 486 := by rw [hm]; exact enc_size hg
        have hd : dcRes (bts S 0) = some l := by rw [hS]; exact dec_enc hg
        have c1 := fun wx t => decodeChunk_any S wx (by omega) t
        simp only [hd, RetS, Option.isSome_some, Option.getD_some, HN.out] at c1
        have c2 := fun (x : Int × Int) wx t => appendChunk_any S x.1 x.2 wx (by omega) t
        simp only [hd] at c2
        have hn40 : n ≤ 40 := by have := hg.1; have := HN.out; omega
        have HG := hide hg
        have HM := hide hm
        have CA := hide c1
        have CB := hide c2
        clear c1 c2 hd hS hm hg
        go_wp2_with fail
        refine (unhide CA _ (HT.out.below B5.out)).mono ?_
        rintro e v7 ⟨bv, rfl, hob, hb⟩
        obtain ⟨ba, bc, rfl, sb, _⟩ := own_formS hob
        have bb := hide hb
        have B6 := hide (B5.out.trans (bb.out.mono B5.out.size))
        clear B5
        have L6 := hide (L5.out.below bb.out)
        clear L5
        clear bb
        have K0 := hide sb
        clear hb hob sb CA
        go_wp2_with fail
        refine (sameSamples_same _ _ l n _ _ _ HN.out K0.out L6.out (by omega)).mono ?_
        rintro e v8 ⟨rfl, hb⟩
        have bb := hide hb
        have B7 := hide (B6.out.trans (bb.out.mono B6.out.size))
        clear B6
        have L7 := hide (L6.out.below bb.out)
        clear L6
        clear K0
        clear bb
        clear hb
        by_cases hn1 : 1 < (n : Int)
        · by_cases hn2 : (n : Int) < 40
          · obtain ⟨i1, hi1⟩ : ∃ i, n = i + 1 := ⟨n - 1, by omega⟩
            obtain ⟨i2, hi2⟩ : ∃ i, n = i + 2 := ⟨n - 2, by omega⟩
            have hj1 : (n : Int) - 1 = (i1 : Int) := by omega
            have hj2 : (n : Int) - 2 = (i2 : Int) := by omega
            have hk1 : (i1 : Int) < (n : Int) := by omega
            have hk2 : (i2 : Int) < (n : Int) := by omega
            obtain ⟨b1, o1, rfl, p1, q1⟩ := L7.out i1 (by rw [HN.out]; omega)
            obtain ⟨b2, o2, he, p2, q2⟩ := L7.out i2 (by rw [HN.out]; omega)
            cases he
            have g1 := (HG.out.2 i1 (by rw [HN.out]; omega)).1
            have g2 := (HG.out.2 i2 (by rw [HN.out]; omega)).1
            have e1 : i1 = l.length - 1 := by rw [HN.out]; omega
            have e2 : i2 = l.length - 2 := by rw [HN.out]; omega
            have hmore := fun (x : Int × Int) h1 h2 => cat_more (l := l) (x := x) (by rw [HN.out]; omega) (by rw [HN.out]; omega) h1 h2
            have hgood := fun (x : Int × Int) h1 h2 h3 => good_more (l := l) (x := x) HG.out (by rw [HN.out]; omega) (by rw [HN.out]; omega) h1 h2 h3
            rw [← e1, ← e2] at hmore hgood
            obtain ⟨⟨x1, y1⟩, hx1⟩ : ∃ p, l.getD i1 (0, 0) = p := ⟨_, rfl⟩
            obtain ⟨⟨x2, y2⟩, hx2⟩ : ∃ p, l.getD i2 (0, 0) = p := ⟨_, rfl⟩
            rw [hx1] at p1 q1 g1
            rw [hx2] at p2 q2 g2
            rw [hx1, hx2] at hmore hgood
            simp only at p1 q1 p2 q2 hmore hgood
            obtain ⟨g11, g12, g13, g14⟩ := g1
            obtain ⟨g21, g22, g23, g24⟩ := g2
            simp only at g11 g12 g13 g14 g21 g22 g23 g24
            have happ : ∃ (T : ByteArray) (three : Bool), (∀ wx, Tab wx → Calls Tryd.prog 42 #[.string S, .agg #[.int .i64 (2 * x1 - x2), .int .i64 y1]] wx fun e w' => e = .returned (.tuple #[.string T, .bool three]) ∧ Below wx.heap.size wx w') ∧ (2 * x1 - x2 ≤ 1000000000 → three = true ∧ T.size = m + 2) := by
              refine ⟨_, _, fun wx t => CB.out (2 * x1 - x2, y1) wx t, fun h => ?_⟩
              have hgg := hgood (2 * x1 - x2, y1) rfl rfl h
              rw [encB_yes hgg, encT_yes hgg]
              refine ⟨rfl, ?_⟩
              rw [strOfNums_size, hmore (2 * x1 - x2, y1) rfl rfl, HM.out]
            obtain ⟨T, three, c3, h3⟩ := happ
            have CC := hide c3
            have H3 := hide h3
            clear c3 h3 hmore hgood hx1 hx2 e1 e2 CB hi1 hi2 HG HM
            have hbx := (Below.refl v8.heap.size v8).alloc (Nat.le_refl _) (.cells #[.int .i64 x2, .int .i64 y2] 50)
            have p1' := (hbx.cell (p := ⟨b1, o1 + i1 * 2, none⟩) (blk_lt p1)).trans p1
            have q1' := (hbx.cell (p := ⟨b1, o1 + i1 * 2 + 1, none⟩) (blk_lt q1)).trans q1
            have hz8 := B7.out.size
            have hB3 : Below w.heap.size w (((v8.alloc (.cells #[.int .i64 x2, .int .i64 y2] 50)).alloc (.cells #[.int .i64 x1, .int .i64 y1] 50)).alloc (.cells #[.int .i64 (2 * x1 - x2), .int .i64 y1] 50)) :=
              ((B7.out.alloc hz8 _).alloc (by simp; omega) _).alloc (by simp; omega) _
            have hx3 : (((v8.alloc (.cells #[.int .i64 x2, .int .i64 y2] 50)).alloc (.cells #[.int .i64 x1, .int .i64 y1] 50)).alloc (.cells #[.int .i64 (2 * x1 - x2), .int .i64 y1] 50)).cell? ⟨v8.heap.size + 1 + 1, 0, none⟩ = some (.int .i64 (2 * x1 - x2)) := by
              have := cell_two_newS ((v8.alloc (.cells #[.int .i64 x2, .int .i64 y2] 50)).alloc (.cells #[.int .i64 x1, .int .i64 y1] 50)) (.int .i64 (2 * x1 - x2)) (.int .i64 y1) 50 0 _ rfl
              have e : ∀ (o1 o2 : Obj), ((v8.alloc o1).alloc o2).heap.size = v8.heap.size + 1 + 1 := fun o1 o2 => by rw [World.size_alloc, World.size_alloc]
              rw [e] at this
              exact this
            have HB3 := hide hB3
            have HX3 := hide hx3
            have HT3 := hide (HT.out.below hB3)
            clear hbx hB3 hx3
            go_wp2_with fail
            refine (unhide CC _ HT3.out).mono ?_
            rintro e w6 ⟨rfl, hb6⟩
            have hx6 := (hb6.cell (p := ⟨v8.heap.size + 1 + 1, 0, none⟩) (blk_lt HX3.out)).trans HX3.out
            have B99 := hide (HB3.out.trans (hb6.mono HB3.out.size))
            clear hb6 HB3 HX3 HT3 CC
            by_cases htm : 2 * x1 - x2 ≤ 1000000000
            · obtain ⟨rfl, hT⟩ := H3.out htm
              clear H3
              go_wp2_with fail
              go_meet
              exact B99.out
            · have htm' : decide (2 * x1 - x2 ≤ 1000000000) = false := decide_eq_false htm
              clear H3
              go_wp2_with fail
              go_meet
              exact B99.out
          · have hn2' : decide ((n : Int) < 40) = false := decide_eq_false hn2
            go_wp2_with fail
            go_meet
            exact B7.out
        · have hn1' : decide (1 < (n : Int)) = false := decide_eq_false hn1
          go_wp2_with fail
          go_meet
          exact B7.out
    case rest =>
      have B0 := hide hcut
      clear hcut HN HOK
      go_wp2_with fail
      refine (drawDecodeChunk_any a1 len1 cap1 _ (Slb.below S1.out B0.out) hl1).mono ?_
      rintro e x1 ⟨t, rfl, ht488, hb⟩
      have bb := hide hb
      have B1 := hide (B0.out.trans (bb.out.mono B0.out.size))
      clear B0
      clear bb
      clear hb
      have c1 := fun wx h => decodeChunk_any t wx (by omega) h
      have c2 := fun wx => specDecode_any t wx (by omega)
      have hlen := dcRes_len (t := bts t 0) (bts_mem t 0)
      obtain ⟨r, hr⟩ : ∃ r, r = dcRes (bts t 0) := ⟨_, rfl⟩
      obtain ⟨ys, hys⟩ : ∃ ys, ys = r.getD [] := ⟨_, rfl⟩
      obtain ⟨n1, hn1⟩ : ∃ n, n = ys.length := ⟨_, rfl⟩
      obtain ⟨two, h2⟩ : ∃ b, b = r.isSome := ⟨_, rfl⟩
      simp only [RetS, ← hr, ← hys, ← hn1, ← h2] at c1 c2
      rw [← hr, ← hys, ← hn1] at hlen
      have CA := hide c1
      have CB := hide c2
      have HR := hide hr
      have HYS := hide hys
      have HN1 := hide hn1.symm
      have H2 := hide h2
      clear c1 c2 hr hys hn1 h2
      go_wp2_with fail
      refine (unhide CA _ (HT.out.below B1.out)).mono ?_
      rintro e x2 ⟨dv, rfl, hod, hb⟩
      obtain ⟨da, dc, rfl, sd, _⟩ := own_formS hod
      have bb := hide hb
      have B2 := hide (B1.out.trans (bb.out.mono B1.out.size))
      clear B1
      clear bb
      have D0 := hide sd
      clear hb hod sd CA
      go_wp2_with fail
      refine (unhide CB _).mono ?_
      rintro e x3 ⟨ev, rfl, hoe, hb⟩
      obtain ⟨ea, ec, rfl, se, _⟩ := own_formS hoe
      have bb := hide hb
      have B3 := hide (B2.out.trans (bb.out.mono B2.out.size))
      clear B2
      have D1 := hide (D0.out.below bb.out)
      clear D0
      clear bb
      have E0 := hide se
      clear hb hoe se CB
      go_wp2_with fail
      refine (sameSamples_same _ _ ys n1 _ _ _ HN1.out D1.out E0.out (by omega)).mono ?_
      rintro e x4 ⟨rfl, hb⟩
      have bb := hide hb
      have B4 := hide (B3.out.trans (bb.out.mono B3.out.size))
      clear B3
      have D2 := hide (D1.out.below bb.out)
      clear D1
      clear E0
      clear bb
      clear hb
      go_upto_if 186 with fail
      go_cut [] (fun wx => Below w.heap.size w wx)
      case first =>
        cases two with
        | false =>
          go_wp2_with fail
          go_meet
          exact B4.out
        | true =>
          have hres : dcRes (bts t 0) = some ys := by
            have h1 := H2.out
            have h2 := HYS.out
            rw [← HR.out]
            cases r with
            | none => cases h1
            | some s => rw [h2]; rfl
          obtain ⟨hg, hcat⟩ := dcRes_some (bts_mem t 0) hres
          have c1 := fun wx (hs : Sl2 wx da ys) tt => encodeChunk_yes da ys n1 dc wx HN1.out hs hg tt
          rw [hcat, str_bts] at c1
          have CA := hide c1
          clear c1 hg hcat hres
          go_wp2_with fail
          refine (unhide CA _ D2.out (HT.out.below B4.out)).mono ?_
          rintro e x5 ⟨rfl, hb⟩
          have B9 := hide (B4.out.trans (hb.mono B4.out.size))
          clear hb CA
          go_wp2_with fail
          go_meet
          exact B9.out
      case rest =>
        have B0 := hide hcut
        clear hcut HR HYS HN1 H2
        try clear B4
        go_wp2_with fail
        refine (drawDeltasOf_any a1 len1 cap1 _ (Slb.below S1.out B0.out) hl1).mono ?_
        rintro e y1 ⟨vv, rfl, xs, hxl, hov, hb⟩
        obtain ⟨nv, hnv⟩ : ∃ n, n = xs.length := ⟨_, rfl⟩
        rw [← hnv] at hov hxl
        obtain ⟨va, vc, rfl, sv, _⟩ := own_form hov
        have bb := hide hb
        have B1 := hide (B0.out.trans (bb.out.mono B0.out.size))
        clear B0
        clear bb
        have V0 := hide sv
        clear hb hov sv
        have hback := fun ys => sums_back (xs := xs) (ys := ys)
        have hdl := dRes_len xs
        have hsl := sRes_len xs
        have c1 := fun wx (hs : Sl wx va xs) => deltasOf_any va xs nv vc wx hnv.symm hs (by omega)
        have c2 := fun wx (hs : Sl wx va xs) => specDeltas_any va xs nv vc wx hnv.symm hs (by omega)
        have c3 := fun wx (hs : Sl wx va xs) => sumsOf_any va xs nv vc wx hnv.symm hs (by omega)
        have c4 := fun wx (hs : Sl wx va xs) => specSums_any va xs nv vc wx hnv.symm hs (by omega)
        obtain ⟨r1, hr1'⟩ : ∃ r, r = dRes xs := ⟨_, rfl⟩
        obtain ⟨r2, hr2'⟩ : ∃ r, r = sRes xs := ⟨_, rfl⟩
        rw [← hr1'] at hdl hback
        rw [← hr2'] at hsl
        obtain ⟨es, hes⟩ : ∃ ys, ys = r1.getD [] := ⟨_, rfl⟩
        obtain ⟨us, hus⟩ : ∃ ys, ys = r2.getD [] := ⟨_, rfl⟩
        obtain ⟨ne, hne⟩ : ∃ n, n = es.length := ⟨_, rfl⟩
        obtain ⟨nu, hnu⟩ : ∃ n, n = us.length := ⟨_, rfl⟩
        obtain ⟨four, h4⟩ : ∃ b, b = r1.isSome := ⟨_, rfl⟩
        obtain ⟨six, h6⟩ : ∃ b, b = r2.isSome := ⟨_, rfl⟩
        simp only [RetL, ← hr1', ← hes, ← hne, ← h4] at c1 c2
        simp only [RetL, ← hr2', ← hus, ← hnu, ← h6] at c3 c4
        rw [← hes, ← hne] at hdl
        rw [← hus, ← hnu] at hsl
        have CA := hide c1
        have CB := hide c2
        have CC := hide c3
        have CD := hide c4
        have HB' := hide hback
        have HES := hide hes
        have HNE := hide hne.symm
        have HNU := hide hnu.symm
        have HNV := hide hnv.symm
        have H4 := hide h4
        clear c1 c2 c3 c4 hback hes hus hne hnu h4 h6 hr1' hr2' hnv
        go_wp2_with fail
        refine (unhide CA _ V0.out).mono ?_
        rintro e y2 ⟨ev1, rfl, ho, hb⟩
        obtain ⟨ea, ec, rfl, ss, _⟩ := own_form ho
        have bb := hide hb
        have B2 := hide (B1.out.trans (bb.out.mono B1.out.size))
        clear B1
        have V1 := hide (V0.out.below bb.out)
        clear V0
        clear bb
        have E0 := hide ss
        clear hb ho ss CA
        go_wp2_with fail
        refine (unhide CB _ V1.out).mono ?_
        rintro e y3 ⟨ev2, rfl, ho, hb⟩
        obtain ⟨fa, fc, rfl, ss, _⟩ := own_form ho
        have bb := hide hb
        have B3 := hide (B2.out.trans (bb.out.mono B2.out.size))
        clear B2
        have V2 := hide (V1.out.below bb.out)
        clear V1
        have E1 := hide (E0.out.below bb.out)
        clear E0
        clear bb
        have F0 := hide ss
        clear hb ho ss CB
        go_wp2_with fail
        refine (unhide CC _ V2.out).mono ?_
        rintro e y4 ⟨ev3, rfl, ho, hb⟩
        obtain ⟨ua, uc, rfl, ss, _⟩ := own_form ho
        have bb := hide hb
        have B4 := hide (B3.out.trans (bb.out.mono B3.out.size))
        clear B3
        have V3 := hide (V2.out.below bb.out)
        clear V2
        have E2 := hide (E1.out.below bb.out)
        clear E1
        have F1 := hide (F0.out.below bb.out)
        clear F0
        clear bb
        have U0 := hide ss
        clear hb ho ss CC
        go_wp2_with fail
        refine (unhide CD _ V3.out).mono ?_
        rintro e y5 ⟨ev4, rfl, ho, hb⟩
        obtain ⟨wa, wc, rfl, ss, _⟩ := own_form ho
        have bb := hide hb
        have B5 := hide (B4.out.trans (bb.out.mono B4.out.size))
        clear B4
        have V4 := hide (V3.out.below bb.out)
        clear V3
        have E3 := hide (E2.out.below bb.out)
        clear E2
        have F2 := hide (F1.out.below bb.out)
        clear F1
        have U1 := hide (U0.out.below bb.out)
        clear U0
        clear bb
        have W0 := hide ss
        clear hb ho ss CD
        go_wp2_with fail
        refine (sameInts_same _ _ es ne _ _ _ HNE.out E3.out F2.out (by omega)).mono ?_
        rintro e y6 ⟨rfl, hb⟩
        have bb := hide hb
        have B6 := hide (B5.out.trans (bb.out.mono B5.out.size))
        clear B5
        have V5 := hide (V4.out.below bb.out)
        clear V4
        have E4 := hide (E3.out.below bb.out)
        clear E3
        clear F2
        have U2 := hide (U1.out.below bb.out)
        clear U1
        have W1 := hide (W0.out.below bb.out)
        clear W0
        clear bb
        clear hb
        go_wp2_with fail
        refine (sameInts_same _ _ us nu _ _ _ HNU.out U2.out W1.out (by omega)).mono ?_
        rintro e y7 ⟨rfl, hb⟩
        have bb := hide hb
        have B7 := hide (B6.out.trans (bb.out.mono B6.out.size))
        clear B6
        have V6 := hide (V5.out.below bb.out)
        clear V5
        have E5 := hide (E4.out.below bb.out)
        clear E4
        clear U2
        clear W1
        clear bb
        clear hb
        cases four with
        | false =>
          go_wp2_with fail
          go_ret
          exact ⟨rfl, B7.out⟩
        | true =>
          have hsb : sRes es = some xs := HB'.out es (by
            have h1 := H4.out
            have h2 := HES.out
            cases r1 with
            | none => cases h1
            | some s => rw [h2]; rfl)
          have c1 := fun wx (hs : Sl wx ea es) => sumsOf_any ea es ne ec wx HNE.out hs (by omega)
          simp only [hsb, RetL, Option.isSome_some, Option.getD_some, HNV.out] at c1
          have CA := hide c1
          clear c1 hsb
          go_wp2_with fail
          refine (unhide CA _ E5.out).mono ?_
          rintro e y8 ⟨bv, rfl, ho, hb⟩
          obtain ⟨ba, bc, rfl, sb, _⟩ := own_form ho
          have bb := hide hb
          have B8 := hide (B7.out.trans (bb.out.mono B7.out.size))
          clear B7
          have V7 := hide (V6.out.below bb.out)
          clear V6
          clear E5
          clear bb
          have K0 := hide sb
          clear hb ho sb CA
          go_wp2_with fail
          refine (sameInts_same _ _ xs nv _ _ _ HNV.out K0.out V7.out (by omega)).mono ?_
          rintro e y9 ⟨rfl, hb⟩
          have bb := hide hb
          have B9 := hide (B8.out.trans (bb.out.mono B8.out.size))
          clear B8
          have V8 := hide (V7.out.below bb.out)
          clear V7
          have K1 := hide (K0.out.below bb.out)
          clear K0
          clear bb
          clear hb
          go_wp2_with fail
          go_ret
          exact ⟨rfl, B9.out⟩
end Go.Proofs.YtkjljkfjcngkcaaDoor.fnChunks
