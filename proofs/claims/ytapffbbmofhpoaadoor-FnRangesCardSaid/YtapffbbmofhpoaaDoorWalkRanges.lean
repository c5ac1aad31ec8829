/-
  The walk of the law FnRanges: it returns true at every two lists of bytes, where the table of worths lies in memory; memory that was there stays as it was.
-/
import Derived.Test.YtapffbbmofhpoaaDoorBundle2
import Derived.Test.YtapffbbmofhpoaaDoorBundle4
import Derived.Test.YtapffbbmofhpoaaDoorBundle7
import Derived.Deep.DeepCutAuto
import Derived.Deep.RegionHeld3
namespace Go.Proofs.YtapffbbmofhpoaaDoor.fnRanges
open Go.RowKit L1
set_option linter.unusedVariables false

theorem blk_ltR {w : World} {p : Addr} {v : Value} (h : w.cell? p = some v) : p.block < w.heap.size := by
  by_cases hb : p.block < w.heap.size
  · exact hb
  · simp [World.cell?, Array.getElem?_eq_none (show w.heap.size ≤ p.block by omega)] at h
theorem keep4R {wa wb W : World} {N : Nat} {p0 p1 p2 p3 : Addr} {v0 v1 v2 v3 : Value} (h : (wa.cell? p0 = some v0 ∧ wa.cell? p1 = some v1 ∧ wa.cell? p2 = some v2 ∧ wa.cell? p3 = some v3) ∧ Below N W wa) (hb : Below wa.heap.size wa wb) (hN : N ≤ W.heap.size) : (wb.cell? p0 = some v0 ∧ wb.cell? p1 = some v1 ∧ wb.cell? p2 = some v2 ∧ wb.cell? p3 = some v3) ∧ Below N W wb := by
  obtain ⟨⟨h0, h1, h2, h3⟩, hz⟩ := h
  exact ⟨⟨(hb.cell (blk_ltR h0)).trans h0, (hb.cell (blk_ltR h1)).trans h1, (hb.cell (blk_ltR h2)).trans h2, (hb.cell (blk_ltR h3)).trans h3⟩, hz.trans (hb.mono (Nat.le_trans hN hz.size))⟩

set_option maxRecDepth 100000 in
set_option maxHeartbeats 4000000 in
theorem walk (a0 : Option Addr) (len0 cap0 : Nat) (z0 : List Int) (a1 : Option Addr) (len1 cap1 : Nat) (z1 : List Int) (w : World) (w0 : IsRow .u8 w a0 len0 cap0 z0) (hr0 : len0 ≤ 140737488351232) (w1 : IsRow .u8 w a1 len1 cap1 z1) (hr1 : len1 ≤ 140737488351232) (ht : Tab w) :
    Calls Tryd.prog 6 #[.slice a0 len0 cap0, .slice a1 len1 cap1] w fun e w' => e = .returned (.bool true) ∧ Below w.heap.size w w' := by
  have S0 := hide (slb_of_row w0)
  have S1 := hide (slb_of_row w1)
  have HT := hide ht
  clear w0 w1 ht
  by_cases hsz : 1048576 < (len0 : Int) + (len1 : Int)
  · go_enter Tryd.func6, Tryd.ntmps6
    go_wp2
    go_ret
    exact ⟨rfl, Below.refl _ _⟩
  · have hl0 : len0 ≤ 1048576 := by omega
    have hl1 : len1 ≤ 1048576 := by omega
    obtain ⟨i1, hi1, hy0, hy1, hy2⟩ := info_parts info_smpS
    go_enter Tryd.func6, Tryd.ntmps6
    go_wp2_with fail
    refine (drawRangeOf_any a0 len0 cap0 _ S0.out hl0).mono ?_
    rintro e v1 ⟨s, x, y, rfl, hs, hx0, hx1, hy0', hy1', hb⟩
    obtain ⟨d, hd⟩ : ∃ d, d = dcRes (bts s 0) := ⟨_, rfl⟩
    have hlen := dcRes_len (t := bts s 0) (bts_mem s 0)
    have hgood : ∀ l, d = some l → GoodS l := fun l h => (dcRes_some (bts_mem s 0) (by rw [← hd]; exact h)).1
    have CR := hide (fun (u1 u2 : Int) wx (t : Tab wx) => rangeOf_any s u1 u2 wx (by omega) t _ rfl)
    have CS := hide (fun wx => specRange_any s x y wx (by omega) _ rfl)
    rw [← hd] at hlen CS CR
    obtain ⟨ok, hok⟩ : ∃ ok, ok = d.isSome := ⟨_, rfl⟩
    obtain ⟨l, hl⟩ : ∃ l, l = d.getD [] := ⟨_, rfl⟩
    have hR : ∀ u1 u2 : Int, (d.map (rg u1 u2)).isSome = ok ∧ (d.map (rg u1 u2)).getD [] = rg u1 u2 l := fun u1 u2 => by
      rw [hok, hl]
      cases d <;> exact ⟨rfl, rfl⟩
    simp only [RetS, (hR _ _).1, (hR _ _).2] at CR CS
    have hll : l.length ≤ 40 := by rw [hl]; exact hlen
    have HG : Hid (ok = true → GoodS l) := hide (fun h => by
      cases d with
      | none => rw [hok] at h; cases h
      | some l' => rw [hl]; exact hgood l' rfl)
    have hrl : ∀ u1 u2, (rg u1 u2 l).length ≤ 40 := fun u1 u2 => Nat.le_trans (rg_len u1 u2 l) hll
    have HRL := hide hrl
    obtain ⟨n, hn⟩ : ∃ n, n = (rg x y l).length := ⟨_, rfl⟩
    have hn40 : n ≤ 40 := by rw [hn]; exact hrl x y
    have CR0 := hide (CR.out x y)
    rw [← hn] at CS CR0
    have HN := hide hn.symm
    clear hd hlen hgood hok hl hR hll hrl hn
    have B0 := hide (hb)
    clear hb
    go_wp2_with fail
    refine (unhide CR0 _ (HT.out.below B0.out)).mono ?_
    rintro e v2 ⟨lv, rfl, ho, hb⟩
    obtain ⟨la, lc, rfl, ss, _⟩ := own_formS ho
    have bb := hide hb
    have B1 := hide (B0.out.trans (bb.out.mono B0.out.size))
    clear B0
    clear bb
    have L0 := hide (ss)
    clear hb ho ss
    go_wp2_with fail
    refine (unhide CS _).mono ?_
    rintro e v3 ⟨wv, rfl, ho, hb⟩
    obtain ⟨wa, wc, rfl, ss, _⟩ := own_formS ho
    have bb := hide hb
    have B2 := hide (B1.out.trans (bb.out.mono B1.out.size))
    clear B1
    have L1 := hide (L0.out.below bb.out)
    clear L0
    clear bb
    have W0 := hide (ss)
    clear hb ho ss
    go_wp2_with fail
    refine (sameSamples_same _ _ (rg x y l) n _ _ _ HN.out L1.out W0.out (by omega)).mono ?_
    rintro e v4 ⟨rfl, hb⟩
    have bb := hide hb
    have B3 := hide (B2.out.trans (bb.out.mono B2.out.size))
    clear B2
    have L2 := hide (L1.out.below bb.out)
    clear L1
    clear W0
    clear bb
    clear hb CR0 CS
    go_upto_region 8 with fail
    go_cut [73] (fun t wx => ∃ b : Bool, t = .bool b ∧ Hid (b = true → ok = true ∧ x ≤ y) ∧ Hid (Below w.heap.size w wx) ∧ Hid (Sl2 wx la (rg x y l)))
    case first =>
      cases ok with
      | false =>
        go_wp2_with fail
        go_meet
        case rel => exact ⟨false, rfl, hide (fun h => by cases h), hide B3.out, hide L2.out⟩
      | true =>
        by_cases hle : x ≤ y
        · go_wp2_with fail
          go_meet
          case rel => exact ⟨true, rfl, hide (fun _ => ⟨by first | rfl | trivial, by omega⟩), hide B3.out, hide L2.out⟩
        · have hle' : decide (x ≤ y) = false := decide_eq_false hle
          go_wp2_with fail
          go_meet
          case rel => exact ⟨false, rfl, hide (fun h => by cases h), hide B3.out, hide L2.out⟩
    case rest =>
    obtain ⟨cnd, rfl, HCND, B50, L50⟩ := hcut
    clear B3 L2
    go_upto_if 73 with fail
    go_cut [] (fun wx => Below w.heap.size w wx)
    case first =>
      cases cnd with
      | false =>
        go_wp2_with fail
        go_meet
        exact B50.out
      | true =>
        obtain ⟨rfl, hle⟩ := HCND.out rfl
        obtain ⟨D, hD⟩ : ∃ D, y - x + 1 = D := ⟨_, rfl⟩
        have hD0 : 1 ≤ D := by omega
        have hD1 : D ≤ 400 := by omega
        have hDn : ¬ D = 0 := by omega
        go_wp2_with fail
        refine (numberOf_any a1 len1 cap1 _ (Slb.below S1.out B50.out) hl1).mono ?_
        rintro e v5 ⟨⟨q, rfl, hq0, hq1⟩, rfl⟩
        obtain ⟨r, hr⟩ : ∃ r, q.tmod D = r := ⟨_, rfl⟩
        have hr' : r = q % D := by rw [← hr]; exact Int.tmod_eq_emod_of_nonneg hq0
        have hr0 : 0 ≤ r := by rw [hr']; exact Int.emod_nonneg _ (by omega)
        have hr1 : r < D := by rw [hr']; exact Int.emod_lt_of_pos _ (by omega)
        obtain ⟨mid, hmid⟩ : ∃ mid, x + r = mid := ⟨_, rfl⟩
        have hm0 : x ≤ mid := by omega
        have hm1 : mid ≤ y := by omega
        have hparts := rg_parts hm0 hm1 (goodS_up (HG.out (by first | rfl | trivial)))
        obtain ⟨n1, hn1⟩ : ∃ n1, n1 = (rg x mid l).length := ⟨_, rfl⟩
        obtain ⟨n2, hn2⟩ : ∃ n2, n2 = (rg mid y l).length := ⟨_, rfl⟩
        have hnn : n1 + n2 = n := by rw [hn1, hn2, ← HN.out, ← hparts, List.length_append]
        have hn140 : n1 ≤ 40 := by omega
        have hn240 : n2 ≤ 40 := by omega
        have CA := hide (CR.out x mid)
        have CB := hide (CR.out mid y)
        rw [← hn1] at CA
        rw [← hn2] at CB
        have HN1 := hide hn1.symm
        have HN2 := hide hn2.symm
        have HPA := hide hparts
        have HNN := hide hnn
        clear hr' hparts hn1 hn2 hnn hq0 hq1 CR HG HRL HCND
        go_wp2_with fail
        refine (unhide CA _ (HT.out.below B50.out)).mono ?_
        rintro e v6 ⟨av, rfl, ho, hb⟩
        obtain ⟨aa, ac, rfl, ss, _⟩ := own_formS ho
        have bb := hide hb
        have B51 := hide (B50.out.trans (bb.out.mono B50.out.size))
        clear B50
        have L51 := hide (L50.out.below bb.out)
        clear L50
        clear bb
        have A0 := hide (ss)
        clear hb ho ss
        go_wp2_with fail
        refine (unhide CB _ (HT.out.below B51.out)).mono ?_
        rintro e v7 ⟨bv, rfl, ho, hb⟩
        obtain ⟨ba, bc, rfl, ss, _⟩ := own_formS ho
        have bb := hide hb
        have B52 := hide (B51.out.trans (bb.out.mono B51.out.size))
        clear B51
        have L52 := hide (L51.out.below bb.out)
        clear L51
        have A1 := hide (A0.out.below bb.out)
        clear A0
        clear bb
        have C0 := hide (ss)
        clear hb ho ss
        clear CA CB
        have OE := hide (own_emptyS v7 v7.heap.size (Nat.le_refl _))
        have SA1 := hide (A1.out.below ((Below.refl v7.heap.size v7).alloc (Nat.le_refl _) (.cells #[] 50)))
        have hz7 : v7.heap.size ≤ (v7.alloc (.cells #[] 50)).heap.size := by simp
        go_wp2_with (first
          | (at_builtin; refine wpList_append_smp rfl _ _ rfl n1 v7.heap.size (some ⟨v7.heap.size, 0, none⟩) aa 0 0 n1 ac [] (rg x mid l) (Nat.zero_add _) rfl HN1.out (by omega) (by omega) rfl OE.out rfl SA1.out hz7 ?_)
          | go_in)
        intro a8 c8 v8 ho8 hg8
        have hb8 : Below v7.heap.size v7 v8 := ((Below.refl _ _).alloc (Nat.le_refl _) _).grown hg8 hz7 (fun g hg => by cases hg; exact Nat.le_refl _)
        have O8 := hide ho8
        have HB8 := hide hb8
        have SC8 := hide (C0.out.below hb8)
        have hz8 : v7.heap.size ≤ v8.heap.size := hb8.size
        clear hb8 ho8 hg8 OE SA1 hz7
        go_wp2_with (first
          | (at_builtin; refine wpList_append_smp rfl _ _ rfl n v7.heap.size a8 ba n1 c8 n2 bc ([] ++ rg x mid l) (rg mid y l) HNN.out HN1.out HN2.out (by omega) (by omega) rfl O8.out rfl SC8.out hz8 ?_)
          | go_in)
        intro a9 c9 v9 ho9 hg9
        have hb9 : Below v7.heap.size v7 v9 := HB8.out.trans ((Below.refl _ _).grown hg9 hz8 (fun g hg => (O8.out.lt g hg).1))
        obtain ⟨_, _, e9, s9, _⟩ := own_formS ho9
        cases e9
        simp only [HPA.out] at s9
        have L9 := hide (L52.out.below hb9)
        have B99 := hide (B52.out.trans (hb9.mono B52.out.size))
        have S9 := hide s9
        clear hb9 ho9 hg9 s9 O8 SC8 HB8
        go_wp2_with fail
        refine (sameSamples_same _ _ (rg x y l) n _ _ _ HN.out S9.out L9.out (by omega)).mono ?_
        rintro e v10 ⟨rfl, hb⟩
        have B100 := hide (B99.out.trans (hb.mono B99.out.size))
        clear hb
        go_wp2_with fail
        go_meet
        exact B100.out
    case rest =>
      have B0 := hide hcut
      clear hcut HN HG HRL CR hn40 HCND
      try clear L50
      go_wp2_with fail
      refine (drawAppendChunk_any a1 len1 cap1 _ (Slb.below S1.out B0.out) hl1).mono ?_
      rintro e x1 ⟨t, p, q, rfl, ht, hp0, hp1, hq0, hq1, hb⟩
      have bb := hide hb
      have B1 := hide (B0.out.trans (bb.out.mono B0.out.size))
      clear B0
      clear bb
      have hex : ∃ (T : ByteArray) (one : Bool), (∀ wx, Tab wx → Calls Tryd.prog 42 #[.string t, .agg #[.int .i64 p, .int .i64 q]] wx fun e w' => e = .returned (.tuple #[.string T, .bool one]) ∧ Below wx.heap.size wx w') ∧
          (∀ wx, Calls Tryd.prog 55 #[.string t, .agg #[.int .i64 p, .int .i64 q]] wx fun e w' => e = .returned (.tuple #[.string T, .bool one]) ∧ Below wx.heap.size wx w') ∧
          (one = true → ∃ l, dcRes (bts t 0) = some l ∧ GoodS (l ++ [(p, q)]) ∧ T = strOfNums (cat (nums (l ++ [(p, q)])))) := by
        refine ⟨_, _, fun wx h => appendChunk_any t p q wx (by omega) h, fun wx => specAppend_any t p q wx (by omega), fun h => ?_⟩
        cases hd : dcRes (bts t 0) with
        | none => rw [hd, both_left, encB_none] at h; cases h
        | some l =>
          by_cases hg : GoodS (l ++ [(p, q)])
          · exact ⟨l, rfl, hg, encT_yes hg⟩
          · rw [hd, encB_no hg] at h; cases h
      obtain ⟨T, one, c1, c2, hone⟩ := hex
      have CA := hide c1
      have CB := hide c2
      have HONE := hide hone
      have hx1z := (Below.refl x1.heap.size x1).alloc (Nat.le_refl _) (.cells #[.int .i64 p, .int .i64 q] 50)
      have HXZ := hide hx1z
      have hK := cell_two_newS x1 (.int .i64 p) (.int .i64 q) 50
      have hka : (x1.alloc (.cells #[.int .i64 p, .int .i64 q] 50)).cell? ⟨x1.heap.size, 0, none⟩ = some (.int .i64 p) := hK 0 _ rfl
      have hkb : (x1.alloc (.cells #[.int .i64 p, .int .i64 q] 50)).cell? ⟨x1.heap.size, 1, none⟩ = some (.int .i64 q) := hK 1 _ rfl
      have HKA := hide hka
      have HKB := hide hkb
      have BX := hide (B1.out.alloc B1.out.size (.cells #[.int .i64 p, .int .i64 q] 50))
      clear c1 c2 hone hb hx1z hK hka hkb
      go_wp2_with fail
      refine (unhide CA _ (HT.out.below BX.out)).mono ?_
      rintro e x2 ⟨rfl, hb⟩
      have ka0 := (hb.cell (blk_ltR HKA.out)).trans HKA.out
      have kb0 := (hb.cell (blk_ltR HKB.out)).trans HKB.out
      have BX0 := hide (BX.out.trans (hb.mono BX.out.size))
      clear hb BX HKA HKB HXZ CA B1
      go_wp2_with fail
      refine (unhide CB _).mono ?_
      rintro e x3 ⟨rfl, hb⟩
      have bb := hide hb
      have BX1 := hide (BX0.out.trans (bb.out.mono BX0.out.size))
      clear BX0
      have ka1 := (bb.out.cell (blk_ltR ka0)).trans ka0
      clear ka0
      have kb1 := (bb.out.cell (blk_ltR kb0)).trans kb0
      clear kb0
      clear bb
      clear hb CB
      go_wp2_with fail
      refine (drawJoinChunks_any a1 len1 cap1 _ (Slb.below S1.out BX1.out) hl1).mono ?_
      rintro e x4 ⟨ja, jb, rfl, hja, hjb, hb⟩
      have bb := hide hb
      have BX2 := hide (BX1.out.trans (bb.out.mono BX1.out.size))
      clear BX1
      have ka2 := (bb.out.cell (blk_ltR ka1)).trans ka1
      clear ka1
      have kb2 := (bb.out.cell (blk_ltR kb1)).trans kb1
      clear kb1
      clear bb
      clear hb
      have CJ := hide (fun wx h => joinChunks_any ja jb wx (by omega) (by omega) h)
      have CK := hide (fun wx => specJoin_any ja jb wx (by omega) (by omega))
      obtain ⟨jt, hjt⟩ : ∃ jt, jt = encT (both (dcRes (bts ja 0)) (dcRes (bts jb 0))) := ⟨_, rfl⟩
      obtain ⟨jo, hjo⟩ : ∃ jo, jo = encB (both (dcRes (bts ja 0)) (dcRes (bts jb 0))) := ⟨_, rfl⟩
      rw [← hjt, ← hjo] at CJ CK
      clear hjt hjo
      go_wp2_with fail
      refine (unhide CJ _ (HT.out.below BX2.out)).mono ?_
      rintro e x5 ⟨rfl, hb⟩
      have bb := hide hb
      have BX3 := hide (BX2.out.trans (bb.out.mono BX2.out.size))
      clear BX2
      have ka3 := (bb.out.cell (blk_ltR ka2)).trans ka2
      clear ka2
      have kb3 := (bb.out.cell (blk_ltR kb2)).trans kb2
      clear kb2
      clear bb
      clear hb CJ
      go_wp2_with fail
      refine (unhide CK _).mono ?_
      rintro e x6 ⟨rfl, hb⟩
      have bb := hide hb
      have BX4 := hide (BX3.out.trans (bb.out.mono BX3.out.size))
      clear BX3
      have ka4 := (bb.out.cell (blk_ltR ka3)).trans ka3
      clear ka3
      have kb4 := (bb.out.cell (blk_ltR kb3)).trans kb3
      clear kb3
      clear bb
      clear hb CK
      cases one with
      | false =>
        go_wp2_with fail
        go_ret
        exact ⟨rfl, BX4.out⟩
      | true =>
        obtain ⟨l, hdl, hg, hT⟩ := HONE.out rfl
        have hda : dcRes (bts T 0) = some (l ++ [(p, q)]) := by rw [hT]; exact dec_enc2 hg
        have hTs : T.size ≤ 486 := by rw [hT, strOfNums_size]; exact enc_size2 hg
        have hl40 : l.length + 1 ≤ 40 := by have := hg.1; simpa using this
        have c1 := fun wx h => decodeChunk_any t wx (by omega) h
        have c2 := fun wx h => decodeChunk_any T wx (by omega) h
        simp only [hdl, RetS, Option.isSome_some, Option.getD_some] at c1
        simp only [hda, RetS, Option.isSome_some, Option.getD_some] at c2
        obtain ⟨m, hm⟩ : ∃ m, m = l.length := ⟨_, rfl⟩
        obtain ⟨M, hMM⟩ : ∃ M, M = m + 1 := ⟨_, rfl⟩
        have hm1 : (l ++ [(p, q)]).length = M := by rw [hMM, hm]; simp
        have hmM : m < M := by omega
        have hM41 : M ≤ 40 := by have := hl40; omega
        have hq1' : (m : Int) + 1 = (M : Int) := by omega
        rw [hm1] at c2
        rw [← hm] at c1 hl40
        have CA := hide c1
        have CB := hide c2
        have HM := hide hm.symm
        have HM1 := hide hm1
        clear c1 c2 hdl hg hT hda hm hm1 HONE hMM
        go_wp2_with fail
        refine (unhide CA _ (HT.out.below BX4.out)).mono ?_
        rintro e x7 ⟨bv, rfl, ho, hb⟩
        obtain ⟨ba, bc, rfl, ss, _⟩ := own_formS ho
        have bb := hide hb
        have BX5 := hide (BX4.out.trans (bb.out.mono BX4.out.size))
        clear BX4
        have ka5 := (bb.out.cell (blk_ltR ka4)).trans ka4
        clear ka4
        have kb5 := (bb.out.cell (blk_ltR kb4)).trans kb4
        clear kb4
        clear bb
        have P0 := hide (ss)
        clear hb ho ss CA
        go_wp2_with fail
        refine (unhide CB _ (HT.out.below BX5.out)).mono ?_
        rintro e x8 ⟨cv, rfl, ho, hb⟩
        obtain ⟨ca, cc, rfl, ss, _⟩ := own_formS ho
        have hcap := own_capS ho
        have bb := hide hb
        have BX6 := hide (BX5.out.trans (bb.out.mono BX5.out.size))
        clear BX5
        have ka6 := (bb.out.cell (blk_ltR ka5)).trans ka5
        clear ka5
        have kb6 := (bb.out.cell (blk_ltR kb5)).trans kb5
        clear kb5
        have P1 := hide (P0.out.below bb.out)
        clear P0
        clear bb
        have Q0 := hide (ss)
        clear hb ho ss CB
        obtain ⟨b1, o1, rfl, r0, r1⟩ := Q0.out m (by rw [HM1.out]; omega)
        have hgm : (l ++ [(p, q)]).getD m (0, 0) = (p, q) := by rw [← HM.out]; simp [List.getD]
        rw [hgm] at r0 r1
        simp only at r0 r1
        have hslq : Hid (Sl2 x8 (some ⟨b1, o1, none⟩) l) := hide (fun i hi => by
          obtain ⟨b2, o2, e2, f0, f1⟩ := Q0.out i (by rw [HM1.out]; have := HM.out; omega)
          have e3 : (l ++ [(p, q)]).getD i (0, 0) = l.getD i (0, 0) := by simp [List.getD, List.getElem?_append_left hi]
          rw [e3] at f0 f1
          exact ⟨b2, o2, e2, f0, f1⟩)
        obtain ⟨c', hsl⟩ := slice_toS (some ⟨b1, o1, none⟩) M cc m (by omega) hcap (fun h => by cases h)
        have CE := hide (fun wx (hb : Below x8.heap.size x8 wx) => sameSamples_same (some ⟨b1, o1, none⟩) ba l m c' bc wx HM.out (hslq.out.below hb) (P1.out.below hb) (by omega))
        have hmlt : (m : Int) < (M : Int) := by omega
        have hm0' : (0 : Int) ≤ (m : Int) := by omega
        have hwM : IntKind.i64.wrap (M : Int) = (M : Int) := wrap_id (by omega) (by omega)
        clear hgm hslq hcap
        go_wp2
        go_region_held3 (fun wx => (wx.cell? ⟨b1, o1 + m * 2, none⟩ = some (.int .i64 p) ∧ wx.cell? ⟨b1, o1 + m * 2 + 1, none⟩ = some (.int .i64 q) ∧ wx.cell? ⟨x1.heap.size, 0, none⟩ = some (.int .i64 p) ∧ wx.cell? ⟨x1.heap.size, 1, none⟩ = some (.int .i64 q)) ∧ Below x8.heap.size x8 wx) (first | exact ⟨⟨r0, r1, ka6, kb6⟩, (Below.refl _ _).drew⟩ | exact keep4R (by assumption) (by assumption) (Nat.le_refl _)) ((go_at_call 41; refine (CE.out _ (by first | exact And.right (by assumption) | exact (Below.refl _ _).drew | exact Below.refl _ _)).mono ?_; rintro e x9 ⟨rfl, hb⟩))
        rename_i hHeld
        have B9 := hide (BX6.out.trans (hHeld.2.mono BX6.out.size))
        clear hHeld
        go_wp2
        go_ret
        exact ⟨rfl, B9.out⟩
end Go.Proofs.YtapffbbmofhpoaaDoor.fnRanges

