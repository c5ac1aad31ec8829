/-
  The walk of the law FnVarints: it returns true at every two lists of bytes, where the table of worths lies in memory; memory that was there stays as it was.
-/
import Derived.Test.YtphkbnlappbjeaaDoorL1Same
import Derived.Test.YtphkbnlappbjeaaDoorL1Draws
import Derived.Test.YtphkbnlappbjeaaDoorL1Length
import Derived.Test.YtphkbnlappbjeaaDoorL1SpecPut
import Derived.Test.YtphkbnlappbjeaaDoorL1SpecGetV
import Derived.Test.YtphkbnlappbjeaaDoorL1PutAll
import Derived.Test.YtphkbnlappbjeaaDoorL1GetAll
import Derived.Deep.DeepCutAuto
namespace Go.Proofs.YtphkbnlappbjeaaDoor.fnVarints
open Go.RowKit L1
set_option linter.unusedVariables false

set_option maxRecDepth 100000 in
set_option maxHeartbeats 4000000 in
theorem walk (a0 : Option Addr) (len0 cap0 : Nat) (z0 : List Int) (a1 : Option Addr) (len1 cap1 : Nat) (z1 : List Int) (w : World) (w0 : IsRow .u8 w a0 len0 cap0 z0) (hr0 : len0 ≤ 140737488351232) (w1 : IsRow .u8 w a1 len1 cap1 z1) (hr1 : len1 ≤ 140737488351232) (ht : Tab w) :
    Calls Tryd.prog 3 #[.slice a0 len0 cap0, .slice a1 len1 cap1] w fun e w' => e = .returned (.bool true) ∧ Below w.heap.size w w' := by
  have S0 := hide (slb_of_row w0)
  have S1 := hide (slb_of_row w1)
  have HT := hide ht
  clear w0 w1 ht
  by_cases hsz : 1048576 < (len0 : Int) + (len1 : Int)
  · go_enter Tryd.func3, Tryd.ntmps3
    go_wp2
    go_ret
    exact ⟨rfl, Below.refl _ _⟩
  · have hl0 : len0 ≤ 1048576 := by omega
    have hl1 : len1 ≤ 1048576 := by omega
    go_enter Tryd.func3, Tryd.ntmps3
    go_wp2_with fail
    refine (drawPutVarint_any a0 len0 cap0 _ S0.out hl0).mono ?_
    rintro e v1 ⟨n, rfl, hn0, hn1, hb1⟩
    have B1 := hide hb1
    clear hb1
    have hnum : ∃ (S : ByteArray) (z k : Int) (ok : Bool),
        (∀ wx, Tab wx → Calls Tryd.prog 8 #[.int .i64 n] wx fun e w' => e = .returned (.tuple #[.string S, .bool ok]) ∧ Below wx.heap.size wx w') ∧
        (∀ wx, Calls Tryd.prog 9 #[.int .i64 n] wx fun e w' => e = .returned (.tuple #[.string S, .bool ok]) ∧ Below wx.heap.size wx w') ∧
        (∀ wx, Calls Tryd.prog 10 #[.int .i64 n] wx fun e w' => e = .returned (.tuple #[.int .i64 z, .bool ok]) ∧ wx = w') ∧
        (∀ wx, Calls Tryd.prog 11 #[.int .i64 n] wx fun e w' => e = .returned (.tuple #[.int .i64 z, .bool ok]) ∧ wx = w') ∧
        (∀ wx, Tab wx → Calls Tryd.prog 12 #[.int .i64 n] wx fun e w' => e = .returned (.tuple #[.int .i64 k, .bool ok]) ∧ wx = w') ∧
        (∀ wx, Calls Tryd.prog 13 #[.int .i64 n] wx fun e w' => e = .returned (.tuple #[.int .i64 k, .bool ok]) ∧ Below wx.heap.size wx w') ∧
        (ok = true → -1000000000000 ≤ n ∧ n ≤ 1000000000000 ∧ S = strOfNums (vd (zig n)) ∧ z = zig n ∧ k = ((vd (zig n)).length : Nat)) := by
      by_cases hr : -1000000000000 ≤ n ∧ n ≤ 1000000000000
      · exact ⟨_, _, _, true, fun wx ht => putVarint_yes n wx hr.1 hr.2 ht, fun wx => specPut_yes n wx hr.1 hr.2, fun wx => zigZag_yes n wx hr.1 hr.2, fun wx => specZig_yes n wx hr.1 hr.2, fun wx ht => len_yes n wx hr.1 hr.2 ht, fun wx => specLen_yes n wx hr.1 hr.2, fun _ => ⟨hr.1, hr.2, rfl, rfl, rfl⟩⟩
      · refine ⟨⟨#[]⟩, 0, 0, false, fun wx ht => (putVarint_no n wx hr).mono ?_, fun wx => (specPut_no n wx hr).mono ?_, fun wx => zigZag_no n wx hr, fun wx => specZig_no n wx hr, fun wx ht => len_no n wx hr, fun wx => (specLen_no n wx hr).mono ?_, fun h => by cases h⟩
        · rintro e w' ⟨rfl, rfl⟩; exact ⟨rfl, Below.refl _ _⟩
        · rintro e w' ⟨rfl, rfl⟩; exact ⟨rfl, Below.refl _ _⟩
        · rintro e w' ⟨rfl, rfl⟩; exact ⟨rfl, Below.refl _ _⟩
    obtain ⟨S, z, k, ok, c1, c2, c3, c4, c5, c6, hok⟩ := hnum
    have C1 := hide c1
    have C2 := hide c2
    have C3 := hide c3
    have C4 := hide c4
    have C5 := hide c5
    have C6 := hide c6
    have HOK := hide hok
    clear c1 c2 c3 c4 c5 c6 hok
    go_wp2_with fail
    refine (unhide C1 _ (HT.out.below B1.out)).mono ?_
    rintro e v2 ⟨rfl, hb⟩
    have B2 := hide (B1.out.trans (hb.mono B1.out.size))
    clear hb
    go_wp2_with fail
    refine (unhide C2 _).mono ?_
    rintro e v3 ⟨rfl, hb⟩
    have B3 := hide (B2.out.trans (hb.mono B2.out.size))
    clear hb
    go_wp2_with fail
    refine (unhide C3 _).mono ?_
    rintro e v4 ⟨rfl, rfl⟩
    go_wp2_with fail
    refine (unhide C4 _).mono ?_
    rintro e v5 ⟨rfl, rfl⟩
    go_wp2_with fail
    refine (unhide C5 _ (HT.out.below B3.out)).mono ?_
    rintro e v6 ⟨rfl, rfl⟩
    go_wp2_with fail
    refine (unhide C6 _).mono ?_
    rintro e v7 ⟨rfl, hb⟩
    have B7 := hide (B3.out.trans (hb.mono B3.out.size))
    clear hb
    go_upto_if 113 with fail
    go_cut [] (fun wx => Below w.heap.size w wx)
    case first =>
      cases ok with
      | false =>
        go_wp2_with fail
        go_meet
        exact B7.out
      | true =>
        obtain ⟨hr1', hr2', hS, hz, hk⟩ := HOK.out rfl
        subst hS hz hk
        have hg := get_back n v7 hr1' hr2' (HT.out.below B7.out)
        have hu := fun wx => unZigZag_yes (zig n) wx (zig_lo n) (zig_hi n hr1' hr2')
        rw [zag_zig] at hu
        have hh := half_le n
        have hlh := fun wx ht => len_yes (n.tdiv 2) wx (hh.2.1 hr1') (hh.2.2 hr2') ht
        have hmono := vd_mono _ _ (zig_lo (n.tdiv 2)) hh.1
        have hsz := strOfNums_size (vd (zig n))
        have hzl := zig_lo n
        have hvl : (vd (zig n)).length ≤ 6 := vdf_le 5 (zig n)
        have HGB := hide hg
        have HUU := hide hu
        have HLH := hide hlh
        have HH := hide hh
        clear hg hu hlh hh
        go_wp2_with fail
        refine (unhide HGB).mono ?_
        rintro e v8 ⟨rfl, rfl⟩
        go_wp2_with fail
        refine (unhide HUU _).mono ?_
        rintro e v9 ⟨rfl, rfl⟩
        go_wp2_with fail
        refine (unhide HLH _ (HT.out.below B7.out)).mono ?_
        rintro e v10 ⟨rfl, rfl⟩
        go_wp2_with fail
        go_meet
        exact B7.out
    case rest =>
      have BC := hide hcut
      clear hcut B1 B2 B3 B7 C1 C2 C3 C4 C5 C6 HOK
      go_wp2_with fail
      refine (drawGetVarint_any a1 len1 cap1 _ (S1.out.below BC.out) hl1).mono ?_
      rintro e x1 ⟨t, at_, rfl, ht40, hat0, hat1, hb⟩
      have D1 := hide (BC.out.trans (hb.mono BC.out.size))
      clear hb
      have hget : ∃ (x y : Int) (is : Bool),
          (∀ wx, Tab wx → Calls Tryd.prog 14 #[.string t, .int .i64 at_] wx fun e w' => e = .returned (.tuple #[.int .i64 x, .int .i64 y, .bool is]) ∧ wx = w') ∧
          (∀ wx, Calls Tryd.prog 17 #[.string t, .int .i64 at_] wx fun e w' => e = .returned (.tuple #[.int .i64 x, .int .i64 y, .bool is]) ∧ Below wx.heap.size wx w') ∧
          (is = true → ∃ (a m : Nat), at_ = (a : Int) ∧ y = (a : Int) + (m : Int) ∧ a + m ≤ t.size ∧ -1000000000000 ≤ x ∧ x ≤ 1000000000000 ∧ strOfNums (vd (zig x)) = t.extract a (a + m)) := by
        by_cases ho : at_ < 0 ∨ (t.size : Int) ≤ at_
        · exact ⟨0, 0, false, fun wx _ => getVarint_out t at_ wx ho, fun wx => (specGet_out t at_ wx ho).mono (by rintro e w' ⟨rfl, rfl⟩; exact ⟨rfl, Below.refl _ _⟩), fun h => by cases h⟩
        · obtain ⟨a, rfl⟩ : ∃ a : Nat, at_ = (a : Int) := ⟨at_.toNat, by omega⟩
          have ha : a < t.size := by omega
          have c1 := fun wx ht => getVarint_any t a wx ha (by unfold maxLen; omega) ht
          have c2 := fun wx => specGet_any t a wx ha (by omega)
          cases hgv : gv (bts t a) with
          | none =>
            simp only [hgv, gvRes] at c1 c2
            exact ⟨0, 0, false, c1, c2, fun h => by cases h⟩
          | some l =>
            simp only [hgv, gvRes] at c1 c2
            have hf := gv_form (bts_mem t a) hgv
            have hs := gv_some hgv
            rw [bts_len] at hs
            have htk := gv_take hgv
            have hzl := zag_lo (val l) (val_nonneg l) hf.2
            refine ⟨_, _, true, c1, c2, fun _ => ⟨a, l.length, rfl, by omega, by omega, hzl.1, hzl.2, ?_⟩⟩
            rw [zig_zag _ (val_nonneg l), hf.1]
            have hpc := str_piece t a l.length (by omega)
            rw [← htk] at hpc
            exact hpc
      obtain ⟨x, y, is, g1, g2, his⟩ := hget
      have GA := hide g1
      have GB := hide g2
      have HIS := hide his
      clear g1 g2 his
      go_wp2_with fail
      refine (unhide GA _ (HT.out.below D1.out)).mono ?_
      rintro e x2 ⟨rfl, rfl⟩
      go_wp2_with fail
      refine (unhide GB _).mono ?_
      rintro e x3 ⟨rfl, hb⟩
      have D3 := hide (D1.out.trans (hb.mono D1.out.size))
      clear hb
      go_upto_if 212 with fail
      go_cut [] (fun wx => Below w.heap.size w wx)
      case first =>
        cases is with
        | false =>
          go_wp2_with fail
          go_meet
          exact D3.out
        | true =>
          obtain ⟨a, m, rfl, rfl, hle, hx0, hx1, hstr⟩ := HIS.out rfl
          have hpv := fun wx ht => putVarint_yes x wx hx0 hx1 ht
          rw [hstr] at hpv
          have HPV := hide hpv
          have hl1' : ¬ (t.size : Int) < (a : Int) + (m : Int) := by omega
          have hslice : ∀ wx, (Instr.slice 9 (.string t) (some (.int .i64 (a : Int))) (some (.int .i64 ((a : Int) + (m : Int)))) none).run Tryd.prog wx = .ok (.string (t.extract a (a + m))) wx := fun wx => by
            have h := run_slice_string (P := Tryd.prog) wx 9 t .i64 .i64 (a : Int) ((a : Int) + (m : Int)) Tryd.underlying9 (by omega) (by omega) (by omega)
            rw [h]
            congr 4
          clear hpv hstr
          go_wp2_with fail
          refine (unhide HPV _ (HT.out.below D3.out)).mono ?_
          rintro e x4 ⟨rfl, hb⟩
          have D4 := hide (D3.out.trans (hb.mono D3.out.size))
          clear hb
          go_wp2_with fail
          go_meet
          exact D4.out
      case rest =>
        have DC := hide hcut
        clear hcut D1 D3 BC GA GB HIS
        go_wp2_with fail
        refine (drawPutAll_any a1 len1 cap1 _ (S1.out.below DC.out) hl1).mono ?_
        rintro e y1 ⟨lv, rfl, xs, hxl, ho, hb⟩
        obtain ⟨la, lc, rfl, hsl, hxn⟩ := own_form ho
        obtain ⟨n2, hn2⟩ : ∃ n2, n2 = xs.length := ⟨_, rfl⟩
        rw [← hn2] at hxl ⊢
        have E1 := hide (DC.out.trans (hb.mono DC.out.size))
        have L1' := hide hsl
        have HN2 := hide hn2
        clear ho hb hsl hxn hn2
        have hput : ∃ (U : ByteArray) (three : Bool),
            (∀ wx, Sl wx la xs → Tab wx → Calls Tryd.prog 19 #[.slice la n2 lc] wx fun e w' => e = .returned (.tuple #[.string U, .bool three]) ∧ Below wx.heap.size wx w') ∧
            (∀ wx, Sl wx la xs → Calls Tryd.prog 20 #[.slice la n2 lc] wx fun e w' => e = .returned (.tuple #[.string U, .bool three]) ∧ Below wx.heap.size wx w') ∧
            (three = true → n2 ≤ 60 ∧ OkL xs ∧ U = strOfNums (cat xs)) := by
          have hn := HN2.out.symm
          by_cases hok : n2 ≤ 60 ∧ OkL xs
          · exact ⟨_, true, fun wx h1 h2 => putAll_yes la xs n2 lc wx hn h1 hok.1 hok.2 h2, fun wx h1 => specPutAll_yes la xs n2 lc wx hn h1 hok.1 hok.2, fun _ => ⟨hok.1, hok.2, rfl⟩⟩
          · refine ⟨⟨#[]⟩, false, fun wx h1 h2 => ?_, fun wx h1 => (specPutAll_no la xs n2 lc wx hn h1 (by omega) hok).mono (by rintro e w' ⟨rfl, rfl⟩; exact ⟨rfl, Below.refl _ _⟩), fun h => by cases h⟩
            by_cases h60 : 60 < (n2 : Int)
            · exact (putAll_long la n2 lc wx h60 (by omega)).mono (by rintro e w' ⟨rfl, rfl⟩; exact ⟨rfl, Below.refl _ _⟩)
            · exact putAll_no la xs n2 lc wx hn h1 (by omega) (fun h => hok ⟨by omega, h⟩) h2
        obtain ⟨U, three, p1, p2, h3⟩ := hput
        have PA := hide p1
        have PB := hide p2
        have H3 := hide h3
        clear p1 p2 h3
        go_wp2_with fail
        refine (unhide PA _ L1'.out (HT.out.below E1.out)).mono ?_
        rintro e y2 ⟨rfl, hb⟩
        have L2 := hide (L1'.out.below hb)
        have E2 := hide (E1.out.trans (hb.mono E1.out.size))
        clear hb L1'
        go_wp2_with fail
        refine (unhide PB _ L2.out).mono ?_
        rintro e y3 ⟨rfl, hb⟩
        have L3 := hide (L2.out.below hb)
        have E3 := hide (E2.out.trans (hb.mono E2.out.size))
        clear hb L2
        go_wp2_with fail
        refine (drawGetAll_any a1 len1 cap1 _ (S1.out.below E3.out) hl1).mono ?_
        rintro e y4 ⟨X, rfl, hX40, hb⟩
        have L4 := hide (L3.out.below hb)
        have E4 := hide (E3.out.trans (hb.mono E3.out.size))
        clear hb L3
        have hga := fun wx ht => getAll_any X wx (by omega) ht
        have hgb := fun wx => specGetAll_any X wx (by omega)
        have hgl := gaRes_le (bts X 0)
        obtain ⟨r, hr⟩ : ∃ r, r = gaRes (bts X 0) := ⟨_, rfl⟩
        simp only [← hr] at hga hgb
        rw [← hr] at hgl
        obtain ⟨ys, hys⟩ : ∃ ys, ys = r.getD [] := ⟨_, rfl⟩
        obtain ⟨n3, hn3⟩ : ∃ n3, n3 = ys.length := ⟨_, rfl⟩
        obtain ⟨five, h5⟩ : ∃ five, five = r.isSome := ⟨_, rfl⟩
        simp only [RetL, ← hys, ← hn3, ← h5] at hga hgb
        rw [← hys, ← hn3] at hgl
        have QA := hide hga
        have QB := hide hgb
        have HN3 := hide hn3.symm
        clear hga hgb hr hys hn3 h5
        go_wp2_with fail
        refine (unhide QA _ (HT.out.below E4.out)).mono ?_
        rintro e y5 ⟨va, rfl, hoa, hb⟩
        obtain ⟨aa, ca, rfl, sa, _⟩ := own_form hoa
        have L5 := hide (L4.out.below hb)
        have SA := hide sa
        have E5 := hide (E4.out.trans (hb.mono E4.out.size))
        clear hb L4 hoa sa
        go_wp2_with fail
        refine (unhide QB _).mono ?_
        rintro e y6 ⟨vb, rfl, hob, hb⟩
        obtain ⟨ab, cb, rfl, sb, _⟩ := own_form hob
        have L6 := hide (L5.out.below hb)
        have SA6 := hide (SA.out.below hb)
        have SB := hide sb
        have E6 := hide (E5.out.trans (hb.mono E5.out.size))
        clear hb L5 hob sb SA
        go_wp2_with fail
        refine (sameInts_same _ _ ys n3 _ _ _ HN3.out SA6.out SB.out (by omega)).mono ?_
        rintro e y7 ⟨rfl, hb⟩
        have L7 := hide (L6.out.below hb)
        have E7 := hide (E6.out.trans (hb.mono E6.out.size))
        clear hb L6 SA6 SB
        cases three with
        | false =>
          go_wp2_with fail
          go_ret
          exact ⟨rfl, E7.out⟩
        | true =>
          obtain ⟨h60, hok, hU⟩ := H3.out rfl
          have hUs : U.size ≤ 360 := by
            rw [hU, strOfNums_size]
            have := cat_len xs
            have := HN2.out
            omega
          have hUI : (U.size : Int) ≤ 600 := by omega
          have hgu := fun wx ht => getAll_any U wx (by omega) ht
          have e1 : gaRes (bts U 0) = some xs := by
            rw [hU, bts_str _ (cat_bytes xs (okL_mem hok))]
            exact gaRes_cat hok (by have := HN2.out; omega)
          simp only [e1, RetL, Option.isSome_some, Option.getD_some, ← HN2.out] at hgu
          have QC := hide hgu
          clear hgu e1 hU hok
          go_wp2_with fail
          refine (unhide QC _ (HT.out.below E7.out)).mono ?_
          rintro e y8 ⟨vc, rfl, hoc, hb⟩
          obtain ⟨ac, cc, rfl, sc, _⟩ := own_form hoc
          have L8 := hide (L7.out.below hb)
          have SC := hide sc
          have E8 := hide (E7.out.trans (hb.mono E7.out.size))
          clear hb L7 hoc sc
          go_wp2_with fail
          refine (sameInts_same _ _ xs n2 _ _ _ HN2.out.symm SC.out L8.out (by omega)).mono ?_
          rintro e y9 ⟨rfl, hb⟩
          have E9 := hide (E8.out.trans (hb.mono E8.out.size))
          clear hb
          go_wp2_with fail
          go_ret
          exact ⟨rfl, E9.out⟩
end Go.Proofs.YtphkbnlappbjeaaDoor.fnVarints
