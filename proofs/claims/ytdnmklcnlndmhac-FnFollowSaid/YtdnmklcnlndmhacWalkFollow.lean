/-
  The walk of the law FnFollow: it returns true at every two lists of bytes; memory that was there stays as it was.
-/
import Derived.Test.YtdnmklcnlndmhacL7LawMath
import Derived.Test.YtdnmklcnlndmhacL7OwnEn
import Derived.Test.YtdnmklcnlndmhacL7Draws
import Derived.Test.YtdnmklcnlndmhacL7Same
import Derived.Test.YtdnmklcnlndmhacL7Follow
import Derived.Test.YtdnmklcnlndmhacL7SFollowL
import Derived.Test.YtdnmklcnlndmhacL7Match
import Derived.Test.YtdnmklcnlndmhacL7PartAt
import Derived.Test.YtdnmklcnlndmhacL7FindPart
import Derived.Test.YtdnmklcnlndmhacL7SFindPart
import Derived.Deep.DeepCutAuto
namespace Go.Proofs.Ytdnmklcnlndmhac.fnFollow
open Go.RowKit L1 L7
set_option linter.unusedVariables false

set_option maxRecDepth 100000 in
set_option maxHeartbeats 8000000 in
theorem walk (a0 : Option Addr) (len0 cap0 : Nat) (z0 : List Int) (a1 : Option Addr) (len1 cap1 : Nat) (z1 : List Int) (w : World) (w0 : IsRow .u8 w a0 len0 cap0 z0) (hr0 : len0 ≤ 140737488351232) (w1 : IsRow .u8 w a1 len1 cap1 z1) (hr1 : len1 ≤ 140737488351232) :
    Calls Try.prog 4 #[.slice a0 len0 cap0, .slice a1 len1 cap1] w fun e w' => e = .returned (.bool true) ∧ Below w.heap.size w w' := by
  have S0 := hide (slb_of_row w0)
  have S1 := hide (slb_of_row w1)
  clear w0 w1
  by_cases hsz : 1048576 < (len0 : Int) + (len1 : Int)
  · go_enter Try.func4, Try.ntmps4
    go_wp2
    go_ret
    exact ⟨rfl, Below.refl _ _⟩
  · have hl0 : len0 ≤ 1048576 := by omega
    have hl1 : len1 ≤ 1048576 := by omega
    go_enter Try.func4, Try.ntmps4
    go_wp2_with fail
    refine (drawFollow_any a0 len0 cap0 _ S0.out hl0).mono ?_
    rintro e u1 ⟨v1, v2, rfl, ho1, ho2, hb⟩
    obtain ⟨l, aa, n, ac, rfl, hn, hn41, hlt, hac, ha0, hls⟩ := own_en ho1
    obtain ⟨m, ba, k, bc, rfl, hk, hk45, hmt, hbc, hb0, hms⟩ := own_en ho2
    obtain ⟨ys, p, ok, hv⟩ : ∃ ys p ok, folR l m = (ys, p, ok) := ⟨_, _, _, rfl⟩
    have hlen := folR_len l m
    rw [hv] at hlen
    obtain ⟨my, hmy⟩ : ∃ my, ys.length = my := ⟨_, rfl⟩
    simp only [hmy] at hlen
    have c1 := fun (wx : World) (h1 : SlE wx aa l) (h2 : SlE wx ba m) => implFollow_any aa ba l m n ac k bc wx hn h1 (by omega) hlt hk h2 (by omega) hmt hac ha0 hbc hb0 ys p ok hv
    have c2 := fun (wx : World) (h1 : SlE wx aa l) (h2 : SlE wx ba m) => specFollow_any aa ba l m n ac k bc wx hn h1 (by omega) hlt hk h2 (by omega) hmt hac ha0 hbc hb0 ys p ok hv
    simp only [RetF, hmy] at c1 c2
    have CI := hide c1
    have CS := hide c2
    have HV := hide hv
    have HN := hide hn
    have HK := hide hk
    have HLT := hide hlt
    have HMT := hide hmt
    have HMY := hide hmy
    have B0 := hide hb
    have L0 := hide hls
    have M0 := hide hms
    clear c1 c2 hv hn hk hlt hmt hmy hb hls hms ho1 ho2
    go_wp2_with fail
    refine (CI.out _ L0.out M0.out).mono ?_
    rintro e v1 ⟨vx, rfl, hox, hb⟩
    obtain ⟨xa, xc, rfl, xs, _⟩ := own_formE hox
    have bb := hide hb
    have B1 := hide (B0.out.trans (bb.out.mono B0.out.size))
    clear B0
    have L1 := hide (L0.out.below bb.out)
    clear L0
    have M1 := hide (M0.out.below bb.out)
    clear M0
    clear bb
    clear hb
    have X0 := hide xs
    clear hox xs
    go_wp2_with fail
    refine (CS.out _ L1.out M1.out).mono ?_
    rintro e v2 ⟨vy, rfl, hoy, hb⟩
    obtain ⟨ya, yc, rfl, ys', _⟩ := own_formE hoy
    have bb := hide hb
    have B2 := hide (B1.out.trans (bb.out.mono B1.out.size))
    clear B1
    have L2 := hide (L1.out.below bb.out)
    clear L1
    have M2 := hide (M1.out.below bb.out)
    clear M1
    have X1 := hide (X0.out.below bb.out)
    clear X0
    clear bb
    clear hb
    have Y0 := hide ys'
    clear hoy ys'
    go_wp2_with fail
    refine (sameEntries_same _ _ ys my _ _ _ HMY.out X1.out Y0.out (by omega)).mono ?_
    rintro e v3 ⟨rfl, hb⟩
    have bb := hide hb
    have B3 := hide (B2.out.trans (bb.out.mono B2.out.size))
    clear B2
    have L3 := hide (L2.out.below bb.out)
    clear L2
    have M3 := hide (M2.out.below bb.out)
    clear M2
    have X2 := hide (X1.out.below bb.out)
    clear X1
    clear Y0
    clear bb
    clear hb
    go_upto_if 68 with fail
    go_cut [] (fun wx => Below w.heap.size w wx)
    case first =>
      cases ok with
      | false =>
        go_wp2_with fail
        go_meet
        exact B3.out
      | true =>
        have hgg : GoodE l ∧ GoodE m := by
          have := HV.out
          unfold folR at this
          split at this
          · rename_i h; exact h
          · simp at this
        have hfo : (fol l m).1 = ys ∧ (fol l m).2 = p := by
          have := HV.out
          unfold folR at this
          rw [if_pos hgg] at this
          simp at this
          exact this
        obtain ⟨mv, hmr, hmv⟩ := matR_of hgg
        have hpr : prtR l m = ((prt l m : Int), true) := by unfold prtR; rw [if_pos hgg]
        have hfs := fol_self hgg.2.mono
        rw [HK.out] at hfs
        have hself : folR m m = (m, (k : Int), true) := by unfold folR; rw [if_pos ⟨hgg.2, hgg.2⟩, hfs]
        have c1 := fun (wx : World) (h1 : SlE wx aa l) (h2 : SlE wx ba m) => implMatch_any aa ba l m n ac k bc wx HN.out h1 (by omega) HLT.out HK.out h2 (by omega) HMT.out mv true hmr
        have c2 := fun (wx : World) (h1 : SlE wx aa l) (h2 : SlE wx ba m) => implPartAt_any aa ba l m n ac k bc wx HN.out h1 (by omega) HLT.out HK.out h2 (by omega) HMT.out _ true hpr
        have c3 := fun (wx : World) (h2 : SlE wx ba m) => implFollow_any ba ba m m k bc k bc wx HK.out h2 (by omega) HMT.out HK.out h2 (by omega) HMT.out hbc hb0 hbc hb0 m (k : Int) true hself
        simp only [RetF, HK.out] at c3
        have hma : mv = true → ys = m ∧ p ≤ (prt l m : Int) := fun h => by
          have := fol_match hgg.1.mono hgg.2.mono (hmv.1 h)
          rw [hfo.1, hfo.2] at this
          exact this
        obtain ⟨pp, hpp⟩ : ∃ pp, pp = (prt l m : Int) := ⟨_, rfl⟩
        rw [← hpp] at hma
        simp only [← hpp] at c2
        have C1 := hide c1
        have C2 := hide c2
        have C3 := hide c3
        have HMA := hide hma
        clear c1 c2 c3 hgg hfo hmv hmr hpr hfs hself hma hpp
        go_wp2_with fail
        refine (C1.out _ L3.out M3.out).mono ?_
        rintro e v4 ⟨rfl, hb⟩
        have bb := hide hb
        have B4 := hide (B3.out.trans (bb.out.mono B3.out.size))
        clear B3
        have L4 := hide (L3.out.below bb.out)
        clear L3
        have M4 := hide (M3.out.below bb.out)
        clear M3
        have X3 := hide (X2.out.below bb.out)
        clear X2
        clear bb
        clear hb
        go_wp2_with fail
        refine (C2.out _ L4.out M4.out).mono ?_
        rintro e v5 ⟨rfl, hb⟩
        have bb := hide hb
        have B5 := hide (B4.out.trans (bb.out.mono B4.out.size))
        clear B4
        have L5 := hide (L4.out.below bb.out)
        clear L4
        have M5 := hide (M4.out.below bb.out)
        clear M4
        have X4 := hide (X3.out.below bb.out)
        clear X3
        clear bb
        clear hb
        cases mv with
        | true =>
          obtain ⟨hym, hpp⟩ := HMA.out rfl
          have hpn : ¬ pp < p := by omega
          have HYM : Hid (my = k) := by show my = k; rw [← HMY.out, hym, HK.out]
          have SX := X4.out
          rw [hym] at SX
          have HSX := hide SX
          have hmyk := HYM.out
          subst hmyk
          clear hym hpp SX HYM
          go_wp2_with fail
          refine (sameEntries_same _ _ m my _ _ _ HK.out HSX.out M5.out (by omega)).mono ?_
          rintro e v6 ⟨rfl, hb⟩
          have bb := hide hb
          have B6 := hide (B5.out.trans (bb.out.mono B5.out.size))
          clear B5
          have L6 := hide (L5.out.below bb.out)
          clear L5
          have M6 := hide (M5.out.below bb.out)
          clear M5
          have X5 := hide (X4.out.below bb.out)
          clear X4
          clear bb
          clear hb
          go_wp2_with fail
          refine (C3.out _ M6.out).mono ?_
          rintro e v7 ⟨vz, rfl, hoz, hb⟩
          obtain ⟨za, zc, rfl, zs, _⟩ := own_formE hoz
          have bb := hide hb
          have B7 := hide (B6.out.trans (bb.out.mono B6.out.size))
          clear B6
          have L7 := hide (L6.out.below bb.out)
          clear L6
          have M7 := hide (M6.out.below bb.out)
          clear M6
          have X6 := hide (X5.out.below bb.out)
          clear X5
          clear bb
          clear hb
          have Z0 := hide zs
          clear hoz zs
          go_wp2_with fail
          refine (sameEntries_same _ _ m my _ _ _ HK.out Z0.out M7.out (by omega)).mono ?_
          rintro e v8 ⟨rfl, hb⟩
          have bb := hide hb
          have B8 := hide (B7.out.trans (bb.out.mono B7.out.size))
          clear B7
          have L8 := hide (L7.out.below bb.out)
          clear L7
          have M8 := hide (M7.out.below bb.out)
          clear M7
          have X7 := hide (X6.out.below bb.out)
          clear X6
          have Z1 := hide (Z0.out.below bb.out)
          clear Z0
          clear bb
          clear hb
          go_wp2_with fail
          go_meet
          exact B8.out
        | false =>
          go_wp2_with fail
          refine (C3.out _ M5.out).mono ?_
          rintro e v6 ⟨vz, rfl, hoz, hb⟩
          obtain ⟨za, zc, rfl, zs, _⟩ := own_formE hoz
          have bb := hide hb
          have B6 := hide (B5.out.trans (bb.out.mono B5.out.size))
          clear B5
          have L6 := hide (L5.out.below bb.out)
          clear L5
          have M6 := hide (M5.out.below bb.out)
          clear M5
          have X5 := hide (X4.out.below bb.out)
          clear X4
          clear bb
          clear hb
          have Z0 := hide zs
          clear hoz zs
          go_wp2_with fail
          refine (sameEntries_same _ _ m k _ _ _ HK.out Z0.out M6.out (by omega)).mono ?_
          rintro e v7 ⟨rfl, hb⟩
          have bb := hide hb
          have B7 := hide (B6.out.trans (bb.out.mono B6.out.size))
          clear B6
          have L7 := hide (L6.out.below bb.out)
          clear L6
          have M7 := hide (M6.out.below bb.out)
          clear M6
          have X6 := hide (X5.out.below bb.out)
          clear X5
          have Z1 := hide (Z0.out.below bb.out)
          clear Z0
          clear bb
          clear hb
          go_wp2_with fail
          go_meet
          exact B7.out
    case rest =>
      have B0 := hide hcut
      clear hcut CI CS HV HN HK HLT HMT HMY
      go_wp2_with fail
      refine (drawFindPart_any a1 len1 cap1 _ (Slb.below S1.out B0.out) hl1).mono ?_
      rintro e x1 ⟨v1', v2', en, rfl, ho1, ho2, hen, hb⟩
      obtain ⟨l2, ca, n2, cc, rfl, hn, hn41', hlt, _, _, hls⟩ := own_en ho1
      obtain ⟨st, sa, q2, sc, rfl, hq, hq40, hss⟩ := own_st ho2
      have bb := hide hb
      have B1 := hide (B0.out.trans (bb.out.mono B0.out.size))
      clear B0
      clear bb
      have L0 := hide hls
      have S0 := hide hss
      obtain ⟨p2, q3, ok2, hv⟩ : ∃ p q ok, fndR l2 st en = (p, q, ok) := ⟨_, _, _, rfl⟩
      have hin : ok2 = true → p2 ≤ (n2 : Int) ∧ p2 ≤ en := fun h => by
        unfold fndR at hv
        split at hv
        · rename_i hg
          have := find_in (l := l2) hg.2
          cases hv
          rw [hn] at this
          exact this
        · cases hv; cases h
      have c1 := fun (wx : World) (h1 : SlE wx ca l2) (h2 : SlS wx sa st) => implFindPart_any ca sa l2 st n2 cc q2 sc en wx hn h1 (by omega) hlt hq h2 (by omega) p2 q3 ok2 hv
      have c2 := fun (wx : World) (h1 : SlE wx ca l2) (h2 : SlS wx sa st) => specFindPart_any ca sa l2 st n2 cc q2 sc en wx hn h1 (by omega) hlt hq h2 (by omega) p2 q3 ok2 hv
      have C1 := hide c1
      have C2 := hide c2
      have HIN := hide hin
      clear c1 c2 hv hn hlt hq hls hss ho1 ho2 hb hin
      go_wp2_with fail
      refine (C1.out _ L0.out S0.out).mono ?_
      rintro e v8 ⟨rfl, hb⟩
      have bb := hide hb
      have B2 := hide (B1.out.trans (bb.out.mono B1.out.size))
      clear B1
      have L1 := hide (L0.out.below bb.out)
      clear L0
      have S1 := hide (S0.out.below bb.out)
      clear S0
      clear bb
      clear hb
      go_wp2_with fail
      refine (C2.out _ L1.out S1.out).mono ?_
      rintro e v9 ⟨rfl, hb⟩
      have bb := hide hb
      have B3 := hide (B2.out.trans (bb.out.mono B2.out.size))
      clear B2
      have L2 := hide (L1.out.below bb.out)
      clear L1
      have S2 := hide (S1.out.below bb.out)
      clear S1
      clear bb
      clear hb
      cases ok2 with
      | true =>
        obtain ⟨i1, i2⟩ := HIN.out rfl
        go_wp2
        go_ret
        exact ⟨rfl, B3.out⟩
      | false =>
        go_wp2
        go_ret
        exact ⟨rfl, B3.out⟩
end Go.Proofs.Ytdnmklcnlndmhac.fnFollow
