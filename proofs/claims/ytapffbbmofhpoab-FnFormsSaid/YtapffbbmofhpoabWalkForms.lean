/-
  The walk of the law FnForms: it returns true at every two lists of bytes; memory that was there stays as it was.
-/
import Derived.Test.YtapffbbmofhpoabBundle1
import Derived.Test.YtapffbbmofhpoabBundle4
import Derived.Test.YtapffbbmofhpoabBundle5
import Derived.Test.YtapffbbmofhpoabBundle6
import Derived.Test.YtapffbbmofhpoabBundle7
import Derived.Deep.DeepCutAuto
namespace Go.Proofs.Ytapffbbmofhpoab.fnForms
open Go.RowKit L1 L4 L5
set_option linter.unusedVariables false

theorem okP_tx {j : Nat} {p : Pr} (h : okP j p) : p.t.size ≤ 1 := by
  rcases h with ⟨_, h, _⟩ | ⟨_, ⟨h, _⟩, _⟩ | ⟨_, h, _⟩ | ⟨_, h, _⟩
  · rw [h]; show 0 ≤ 1; omega
  · omega
  · rw [h]; show 0 ≤ 1; omega
  · rw [h]; show 0 ≤ 1; omega
theorem empty_iff (s : ByteArray) : s.toList.isEmpty = true ↔ s.size = 0 := by
  rw [ByteArray.toList_eq, List.isEmpty_iff_length_eq_zero]
  simp
open Classical in
set_option maxRecDepth 100000 in
set_option maxHeartbeats 4000000 in
theorem walk (a0 : Option Addr) (len0 cap0 : Nat) (z0 : List Int) (a1 : Option Addr) (len1 cap1 : Nat) (z1 : List Int) (w : World) (w0 : IsRow .u8 w a0 len0 cap0 z0) (hr0 : len0 ≤ 140737488351232) (w1 : IsRow .u8 w a1 len1 cap1 z1) (hr1 : len1 ≤ 140737488351232) :
    Calls Try.prog 5 #[.slice a0 len0 cap0, .slice a1 len1 cap1] w fun e w' => e = .returned (.bool true) ∧ Below w.heap.size w w' := by
  have S0 := hide (slb_of_row w0)
  have S1 := hide (slb_of_row w1)
  clear w0 w1
  by_cases hsz : 1048576 < (len0 : Int) + (len1 : Int)
  · go_enter Try.func5, Try.ntmps5
    go_wp2
    go_ret
    exact ⟨rfl, Below.refl _ _⟩
  have hl0 : len0 ≤ 1048576 := by omega
  have hl1 : len1 ≤ 1048576 := by omega
  go_enter Try.func5, Try.ntmps5
  go_wp2_with fail
  refine (drawFitsForm_any a0 len0 cap0 _ S0.out hl0).mono ?_
  rintro e v1 ⟨v, s, rfl, hs13, l, hl, htx, ho, hb⟩
  obtain ⟨n, hn⟩ : ∃ n, n = l.length := ⟨_, rfl⟩
  obtain ⟨fa, fc, rfl, sl, _⟩ := own_formP ho
  rw [← hn] at hl ⊢
  obtain ⟨hl1', hl15⟩ := hl
  obtain ⟨may, hmay⟩ : ∃ may : Bool, may = true ↔ GoodF l := ⟨decide (GoodF l), by simp⟩
  obtain ⟨ok, hok⟩ : ∃ ok : Bool, ok = true ↔ GoodF l ∧ s.size ≤ 12 ∧ Let s := ⟨decide (GoodF l ∧ s.size ≤ 12 ∧ Let s), by simp⟩
  obtain ⟨is, his⟩ : ∃ is : Bool, is = true ↔ ok = true ∧ Mt (whole l) (bts s 0) := ⟨decide (ok = true ∧ Mt (whole l) (bts s 0)), by simp⟩
  obtain ⟨em, hem⟩ : ∃ em : Bool, em = (may && nul (whole l)) := ⟨_, rfl⟩
  have CA := hide (fun wx h => implFitsForm_any fa l n fc s wx hn.symm h (by omega) htx (by omega) is ok hok his)
  have CB := hide (fun wx h => specFitsForm_any fa l n fc s wx hn.symm h (by omega) htx (by omega) is ok hok his)
  have CC := hide (fun wx h => implHasEmpty_any fa l n fc wx hn.symm h (by omega) htx em may hmay hem)
  have CD := hide (fun wx h => specHasEmpty_any fa l n fc wx hn.symm h (by omega) htx em may hmay hem)
  have CE := hide (fun wx h => goodForm_any fa l n fc wx hn.symm h (by omega) htx may hmay)
  have HN := hide hn.symm
  have HTX := hide htx
  have HMAY := hide hmay
  have HOK := hide hok
  have HIS := hide his
  have HEM := hide hem
  clear hmay hok his hem htx hn ho
  have B0 := hide (hb)
  have L0 := hide (sl)
  clear hb sl
  go_wp2_with fail
  refine (unhide CA _ L0.out).mono ?_
  rintro e v2 ⟨rfl, hb⟩
  have bb := hide (hb)
  have B1 := hide (B0.out.trans (bb.out.mono B0.out.size))
  clear B0
  have L1 := hide (L0.out.below bb.out)
  clear L0
  clear bb
  clear hb
  go_wp2_with fail
  refine (unhide CB _ L1.out).mono ?_
  rintro e v3 ⟨rfl, hb⟩
  have bb := hide (hb)
  have B2 := hide (B1.out.trans (bb.out.mono B1.out.size))
  clear B1
  have L2 := hide (L1.out.below bb.out)
  clear L1
  clear bb
  clear hb
  go_wp2_with fail
  refine (unhide CC _ L2.out).mono ?_
  rintro e v4 ⟨rfl, hb⟩
  have bb := hide (hb)
  have B3 := hide (B2.out.trans (bb.out.mono B2.out.size))
  clear B2
  have L3 := hide (L2.out.below bb.out)
  clear L2
  clear bb
  clear hb
  go_wp2_with fail
  refine (unhide CD _ L3.out).mono ?_
  rintro e v5 ⟨rfl, hb⟩
  have bb := hide (hb)
  have B4 := hide (B3.out.trans (bb.out.mono B3.out.size))
  clear B3
  have L4 := hide (L3.out.below bb.out)
  clear L3
  clear bb
  clear hb
  go_wp2_with fail
  refine (unhide CE _ L4.out).mono ?_
  rintro e v6 ⟨rfl, hb⟩
  have bb := hide (hb)
  have B5 := hide (B4.out.trans (bb.out.mono B4.out.size))
  clear B4
  have L5 := hide (L4.out.below bb.out)
  clear L4
  clear bb
  clear hb
  clear CA CB CC CD CE
  go_upto_if 96 with fail
  go_cut [] (fun wx => Below w.heap.size w wx)
  case first =>
    cases ok with
    | false =>
      go_wp2_with fail
      go_meet
      exact B5.out
    | true =>
      obtain ⟨hg, hs12, hlet⟩ := HOK.out.1 (by first | rfl | trivial)
      have hmt : is = true ↔ Mt (whole l) (bts s 0) := by have := HIS.out; simpa using this
      obtain rfl : may = true := HMAY.out.2 hg
      have hem2 : em = nul (whole l) := by have := HEM.out; simpa using this
      have HG := hide hg
      have HMT := hide hmt
      have HEM2 := hide hem2
      have HLET := hide hlet
      clear hg hmt hem2 hlet HOK HIS HEM HMAY
      go_upto_region 11 with fail
      go_cut [98] (fun t wx => ∃ b : Bool, t = .bool b ∧ Hid (b = true ↔ s.size = 0) ∧ Hid (Below w.heap.size w wx) ∧ Hid (SlP wx fa l))
      case first =>
        go_wp2_with fail
        go_meet
        case rel => exact ⟨_, rfl, hide (empty_iff s), hide B5.out, hide L5.out⟩
      case rest =>
      obtain ⟨emp, rfl, HE0, B40, L40⟩ := hcut
      clear B5 L5
      go_upto_if 98 with fail
      go_cut [] (fun wx => Hid (Below w.heap.size w wx) ∧ Hid (SlP wx fa l))
      case first =>
        cases emp with
        | true =>
          have hs0 := HE0.out.1 (by first | rfl | trivial)
          obtain rfl : s = ⟨#[]⟩ := by apply ByteArray.ext; exact Array.eq_empty_of_size_eq_zero hs0
          have hei : em = is := by
            rw [HEM2.out]
            have h1 := nul_iff (whole l)
            have h2 := HMT.out
            rw [show bts (⟨#[]⟩ : ByteArray) 0 = [] from rfl] at h2
            exact Bool.eq_iff_iff.2 (h1.trans h2.symm)
          subst hei
          clear HMT HEM2 HLET hs0 hs12 hs13 HE0
          go_wp2_with fail
          go_meet
          exact ⟨hide B40.out, hide L40.out⟩
        | false =>
          have hs0 : ¬ s.size = 0 := fun h => by have := HE0.out.2 h; first | cases this | exact absurd this (by simp)
          have hs1 : 0 < s.size := by omega
          have hfirst := bts_first hs1
          obtain ⟨c, hc⟩ : ∃ c, c = (bts s 0).getD 0 0 := ⟨_, rfl⟩
          have hcb : 0 ≤ c ∧ c ≤ 255 := by rw [hc]; have := bts_byte s 0 0; omega
          have hix : ∀ wx : World, (Instr.index 9 (.string s) (.int .i64 0)).run Try.prog wx = .ok (.int .u8 c) wx := fun wx => by
            rw [run_index_string wx 9 s .i64 0 Try.underlying9, dif_pos ⟨by omega, by omega⟩, hc, bts_at s 0 hs1]
            rfl
          obtain ⟨s1, hs1e⟩ : ∃ s1, s1 = s.extract 1 s.size := ⟨_, rfl⟩
          have hbt : bts s1 0 = (bts s 0).drop 1 := by rw [hs1e]; exact bts_from s 1 (by omega)
          have hs1z : s1.size + 1 = s.size := by have := congrArg List.length hbt; rw [bts_len, List.length_drop, bts_len] at this; omega
          have hslc : ∀ wx : World, (Instr.slice 9 (.string s) (some (.int .i64 1)) none none).run Try.prog wx = .ok (.string s1) wx := fun wx => by
            rw [hs1e]; exact slice_from wx s 1 (by omega)
          rw [← hc, ← hbt] at hfirst
          have hlet1 : Let s1 := fun k hk => by
            have := HLET.out (k + 1) (by omega)
            rw [hfirst, List.getD_cons_succ] at this
            exact this
          have hlr := leftRes_len l c
          have hlb := fun L => left_back (l := l) (L := L) (c := c)
          have CA := hide (fun wx h => implLeftOf_any fa l n fc c hcb wx HN.out h (by omega) HTX.out _ rfl)
          obtain ⟨r, hr⟩ : ∃ r, r = leftRes l c := ⟨_, rfl⟩
          rw [← hr] at hlr hlb CA
          unfold RetP at CA
          obtain ⟨X, hX⟩ : ∃ X, X = r.getD [] := ⟨_, rfl⟩
          obtain ⟨k, hk⟩ : ∃ k, k = X.length := ⟨_, rfl⟩
          obtain ⟨two, htwo⟩ : ∃ b, b = r.isSome := ⟨_, rfl⟩
          rw [← hX, ← hk] at hlr
          simp only [← hX, ← hk, ← htwo] at CA
          have HBK : Hid (two = true → GoodF X ∧ (is = true ↔ Mt (whole X) (bts s1 0))) := hide (fun h => by
            cases r with
            | none => rw [htwo] at h; cases h
            | some L =>
              obtain ⟨g1, g2⟩ := hlb L rfl
              rw [hX]
              refine ⟨g1, ?_⟩
              show is = true ↔ Mt (whole L) (bts s1 0)
              rw [g2, brz, ← hfirst]
              exact HMT.out)
          have HK := hide hk.symm
          have HLET1 := hide hlet1
          clear hfirst hc hbt hs1e hlet1 hlb hr hX hk htwo hs0 HMT HEM2 HLET HE0
          go_wp2_with fail
          refine (unhide CA _ L40.out).mono ?_
          rintro e x1 ⟨lv, rfl, ho, hb⟩
          obtain ⟨la, lc, rfl, ss, _⟩ := own_formP ho
          have bb := hide (hb)
          have B41 := hide (B40.out.trans (bb.out.mono B40.out.size))
          clear B40
          have L41 := hide (L40.out.below bb.out)
          clear L40
          clear bb
          have X0 := hide (ss)
          clear hb ho ss CA
          cases two with
          | false =>
            go_wp2_with fail
            go_meet
            exact ⟨hide B41.out, hide L41.out⟩
          | true =>
            obtain ⟨g1, g2⟩ := HBK.out (by first | rfl | trivial)
            have htx2 : TxP X := fun j hj => by
              have := okP_tx (g1.2.1 j hj)
              omega
            have CB := hide (fun wx h => implFitsForm_any la X k lc s1 wx HK.out h (by omega) htx2 (by omega) is true (by simp only [true_iff]; exact ⟨g1, by omega, HLET1.out⟩) (by simp only [true_and]; exact g2))
            clear g1 g2 htx2 HBK
            go_wp2_with fail
            refine (unhide CB _ X0.out).mono ?_
            rintro e x2 ⟨rfl, hb⟩
            have bb := hide (hb)
            have B42 := hide (B41.out.trans (bb.out.mono B41.out.size))
            clear B41
            have L42 := hide (L41.out.below bb.out)
            clear L41
            have X1 := hide (X0.out.below bb.out)
            clear X0
            clear bb
            clear hb
            go_wp2_with fail
            go_meet
            exact ⟨hide B42.out, hide L42.out⟩
      case rest =>
        obtain ⟨B50, L50⟩ := hcut
        clear HEM2 HE0 B40 L40
        have hnr := notRes_len l
        have hnb := fun N => not_back (l := l) (N := N)
        have CA := hide (fun wx h => implNotForm_any fa l n fc wx HN.out h (by omega) HTX.out _ rfl)
        obtain ⟨r, hr⟩ : ∃ r, r = notRes l := ⟨_, rfl⟩
        rw [← hr] at hnr hnb CA
        unfold RetP at CA
        obtain ⟨X, hX⟩ : ∃ X, X = r.getD [] := ⟨_, rfl⟩
        obtain ⟨k, hk⟩ : ∃ k, k = X.length := ⟨_, rfl⟩
        obtain ⟨two, htwo⟩ : ∃ b, b = r.isSome := ⟨_, rfl⟩
        rw [← hX, ← hk] at hnr
        simp only [← hX, ← hk, ← htwo] at CA
        obtain ⟨nt, hnt⟩ : ∃ nt : Bool, nt = !is := ⟨_, rfl⟩
        have HBK : Hid (two = true → GoodF X ∧ (nt = true ↔ Mt (whole X) (bts s 0))) := hide (fun h => by
          cases r with
          | none => rw [htwo] at h; cases h
          | some L =>
            obtain ⟨g1, g2⟩ := hnb L rfl
            rw [hX]
            refine ⟨g1, ?_⟩
            show nt = true ↔ Mt (whole L) (bts s 0)
            rw [g2]
            show nt = true ↔ ¬ Mt (whole l) (bts s 0)
            rw [← HMT.out, hnt]
            cases is <;> simp)
        have HK := hide hk.symm
        have hcmp : (nt == is) = false := by rw [hnt]; cases is <;> rfl
        clear hnb hr hX hk htwo hnt HMT
        go_wp2_with fail
        refine (unhide CA _ L50.out).mono ?_
        rintro e x1 ⟨lv, rfl, ho, hb⟩
        obtain ⟨la, lc, rfl, ss, _⟩ := own_formP ho
        have bb := hide (hb)
        have B51 := hide (B50.out.trans (bb.out.mono B50.out.size))
        clear B50
        have L51 := hide (L50.out.below bb.out)
        clear L50
        clear bb
        have X0 := hide (ss)
        clear hb ho ss CA
        cases two with
        | false =>
          go_wp2_with fail
          go_meet
          exact B51.out
        | true =>
          obtain ⟨g1, g2⟩ := HBK.out (by first | rfl | trivial)
          have htx2 : TxP X := fun j hj => by
            have := okP_tx (g1.2.1 j hj)
            omega
          have CB := hide (fun wx h => implFitsForm_any la X k lc s wx HK.out h (by omega) htx2 (by omega) nt true (by simp only [true_iff]; exact ⟨g1, by omega, HLET.out⟩) (by simp only [true_and]; exact g2))
          clear g1 g2 htx2 HBK
          go_wp2_with fail
          refine (unhide CB _ X0.out).mono ?_
          rintro e x2 ⟨rfl, hb⟩
          have bb := hide (hb)
          have B52 := hide (B51.out.trans (bb.out.mono B51.out.size))
          clear B51
          have L52 := hide (L51.out.below bb.out)
          clear L51
          have X1 := hide (X0.out.below bb.out)
          clear X0
          clear bb
          clear hb
          go_wp2_with fail
          go_meet
          exact B52.out
  case rest =>
    have B0 := hide hcut
    clear hcut HN HTX HMAY HOK HIS HEM B5 L5
    go_wp2_with fail
    refine (drawLeftOf_any a1 len1 cap1 _ (Slb.below S1.out B0.out) hl1).mono ?_
    rintro e y1 ⟨v, c, rfl, hc, l2, hl2, htx, ho, hb⟩
    obtain ⟨n2, hn2⟩ : ∃ n, n = l2.length := ⟨_, rfl⟩
    obtain ⟨ga, gc, rfl, sl, _⟩ := own_formP ho
    rw [← hn2] at hl2 ⊢
    have hlr := leftRes_len l2 c
    have CA := hide (fun wx h => implLeftOf_any ga l2 n2 gc c hc wx hn2.symm h (by omega) htx _ rfl)
    have CB := hide (fun wx h => specLeftOf_any ga l2 n2 gc c hc wx hn2.symm h (by omega) htx _ rfl)
    obtain ⟨r, hr⟩ : ∃ r, r = leftRes l2 c := ⟨_, rfl⟩
    rw [← hr] at hlr CA CB
    unfold RetP at CA CB
    obtain ⟨X, hX⟩ : ∃ X, X = r.getD [] := ⟨_, rfl⟩
    obtain ⟨k, hk⟩ : ∃ k, k = X.length := ⟨_, rfl⟩
    obtain ⟨two, htwo⟩ : ∃ b, b = r.isSome := ⟨_, rfl⟩
    rw [← hX, ← hk] at hlr
    simp only [← hX, ← hk, ← htwo] at CA CB
    have HK := hide hk.symm
    clear hr hX hk htwo ho htx hn2 hc
    have bb := hide (hb)
    have B1 := hide (B0.out.trans (bb.out.mono B0.out.size))
    clear B0
    clear bb
    have L0 := hide (sl)
    clear hb sl
    go_wp2_with fail
    refine (unhide CA _ L0.out).mono ?_
    rintro e y2 ⟨xv, rfl, ho, hb⟩
    obtain ⟨xa, xc, rfl, ss, _⟩ := own_formP ho
    have bb := hide (hb)
    have B2 := hide (B1.out.trans (bb.out.mono B1.out.size))
    clear B1
    have L1 := hide (L0.out.below bb.out)
    clear L0
    clear bb
    have X0 := hide (ss)
    clear hb ho ss CA
    go_wp2_with fail
    refine (unhide CB _ L1.out).mono ?_
    rintro e y3 ⟨yv, rfl, ho, hb⟩
    obtain ⟨ya, yc, rfl, ss, _⟩ := own_formP ho
    have bb := hide (hb)
    have B3 := hide (B2.out.trans (bb.out.mono B2.out.size))
    clear B2
    have L2 := hide (L1.out.below bb.out)
    clear L1
    have X1 := hide (X0.out.below bb.out)
    clear X0
    clear bb
    have Y0 := hide (ss)
    clear hb ho ss CB
    go_wp2_with fail
    refine (drawWordsOf_any a1 len1 cap1 _ (Slb.below S1.out B3.out) hl1).mono ?_
    rintro e y4 ⟨v, long, rfl, l3, hl3, htx, ho, hb⟩
    obtain ⟨n3, hn3⟩ : ∃ n, n = l3.length := ⟨_, rfl⟩
    obtain ⟨ha, hc', rfl, sl, _⟩ := own_formP ho
    rw [← hn3] at hl3 ⊢
    have hwl := wordsRes_len l3 long
    have hwb := fun ws => words_back (l := l3) (long := long) (ws := ws)
    have CA := hide (fun wx h => implWordsOf_any ha l3 n3 hc' long wx hn3.symm h (by omega) htx _ rfl)
    have CB := hide (fun wx h => specWordsOf_any ha l3 n3 hc' long wx hn3.symm h (by omega) htx _ rfl)
    obtain ⟨r3, hr3⟩ : ∃ r, r = wordsRes l3 long := ⟨_, rfl⟩
    rw [← hr3] at hwl hwb CA CB
    unfold RetW at CA CB
    obtain ⟨ws, hws⟩ : ∃ X, X = r3.getD [] := ⟨_, rfl⟩
    obtain ⟨k3, hk3⟩ : ∃ k, k = ws.length := ⟨_, rfl⟩
    obtain ⟨four, hfour⟩ : ∃ b, b = r3.isSome := ⟨_, rfl⟩
    rw [← hws, ← hk3] at hwl
    simp only [← hws, ← hk3, ← hfour] at CA CB
    have HBK : Hid (four = true → GoodF l3 ∧ ∀ j, j < ws.length → Mt (whole l3) (bts (ws.getD j e0) 0) ∧ (ws.getD j e0).size ≤ 12 ∧ Let (ws.getD j e0)) := hide (fun h => by
      cases r3 with
      | none => rw [hfour] at h; cases h
      | some L => rw [hws]; exact hwb L rfl)
    have HK3 := hide hk3.symm
    have HN3 := hide hn3.symm
    have HTX3 := hide htx
    clear hwb hr3 hws hk3 hfour ho htx hn3
    have bb := hide (hb)
    have B4 := hide (B3.out.trans (bb.out.mono B3.out.size))
    clear B3
    have L3 := hide (L2.out.below bb.out)
    clear L2
    have X2 := hide (X1.out.below bb.out)
    clear X1
    have Y1 := hide (Y0.out.below bb.out)
    clear Y0
    clear bb
    have M0 := hide (sl)
    clear hb sl
    go_wp2_with fail
    refine (unhide CA _ M0.out).mono ?_
    rintro e y5 ⟨pv, rfl, ho, hb⟩
    obtain ⟨pa, pc, rfl, ss, _⟩ := own_formT ho
    have bb := hide (hb)
    have B5 := hide (B4.out.trans (bb.out.mono B4.out.size))
    clear B4
    have L4 := hide (L3.out.below bb.out)
    clear L3
    have X3 := hide (X2.out.below bb.out)
    clear X2
    have Y2 := hide (Y1.out.below bb.out)
    clear Y1
    have M1 := hide (M0.out.below bb.out)
    clear M0
    clear bb
    have P0 := hide (ss)
    clear hb ho ss CA
    go_wp2_with fail
    refine (unhide CB _ M1.out).mono ?_
    rintro e y6 ⟨qv, rfl, ho, hb⟩
    obtain ⟨qa, qc, rfl, ss, _⟩ := own_formT ho
    have bb := hide (hb)
    have B6 := hide (B5.out.trans (bb.out.mono B5.out.size))
    clear B5
    have L5 := hide (L4.out.below bb.out)
    clear L4
    have X4 := hide (X3.out.below bb.out)
    clear X3
    have Y3 := hide (Y2.out.below bb.out)
    clear Y2
    have M2 := hide (M1.out.below bb.out)
    clear M1
    have P1 := hide (P0.out.below bb.out)
    clear P0
    clear bb
    have Q0 := hide (ss)
    clear hb ho ss CB
    go_wp2_with fail
    refine (sameForm_same xa ya X k _ _ _ HK.out X4.out Y3.out (by omega)).mono ?_
    rintro e y7 ⟨rfl, hb⟩
    have bb := hide (hb)
    have B7 := hide (B6.out.trans (bb.out.mono B6.out.size))
    clear B6
    have L6 := hide (L5.out.below bb.out)
    clear L5
    clear X4
    clear Y3
    have M3 := hide (M2.out.below bb.out)
    clear M2
    have P2 := hide (P1.out.below bb.out)
    clear P1
    have Q1 := hide (Q0.out.below bb.out)
    clear Q0
    clear bb
    clear hb
    go_wp2_with fail
    refine (sameTexts_same pa qa ws k3 _ _ _ HK3.out P2.out Q1.out (by omega)).mono ?_
    rintro e y8 ⟨rfl, hb⟩
    have bb := hide (hb)
    have B8 := hide (B7.out.trans (bb.out.mono B7.out.size))
    clear B7
    have L7 := hide (L6.out.below bb.out)
    clear L6
    have M4 := hide (M3.out.below bb.out)
    clear M3
    have P3 := hide (P2.out.below bb.out)
    clear P2
    clear Q1
    clear bb
    clear hb
    cases four with
    | false =>
      go_wp2_with fail
      go_ret
      exact ⟨rfl, B8.out⟩
    | true =>
      obtain ⟨hg3, hall⟩ := HBK.out (by first | rfl | trivial)
      have HALL := hide hall
      have CF := hide (fun t wx h (h1 : Mt (whole l3) (bts t 0)) (h2 : t.size ≤ 12) (h3 : Let t) => implFitsForm_any ha l3 n3 hc' t wx HN3.out h (by omega) HTX3.out (by omega) true true (by simp only [true_iff]; exact ⟨hg3, h2, h3⟩) (by simp only [true_and, true_iff]; exact h1))
      clear hg3 hall HBK
      go_wp2_with fail
      go_loopw [200] (fun i wr => ∃ j : Nat, j ≤ k3 ∧ i = .int .i64 j ∧ Below y8.heap.size y8 wr) (fun i _ => k3 - (intOf i).toNat)
      case atStart => exact ⟨0, Nat.zero_le _, rfl, Below.refl _ _⟩
      case round =>
        obtain ⟨j, hj, rfl, hbel⟩ := hrel
        by_cases hlt : j < k3
        · have hltI : (j : Int) < (k3 : Int) := by omega
          obtain ⟨b1, o1, rfl, h1⟩ := P3.out j (by rw [HK3.out]; exact hlt)
          have g0 := (hbel.cell (p := ⟨b1, o1 + j, none⟩) (blk_lt h1)).trans h1
          obtain ⟨m1, m2, m3⟩ := HALL.out j (by rw [HK3.out]; exact hlt)
          obtain ⟨t, ht⟩ : ∃ t, t = ws.getD j e0 := ⟨_, rfl⟩
          rw [← ht] at g0 m1 m2 m3
          have CG := hide (CF.out t wr (M4.out.below hbel) m1 m2 m3)
          have HB := hide hbel
          clear ht h1 m1 m2 m3 hbel
          go_wp2_with fail
          refine CG.out.mono ?_
          rintro e z1 ⟨rfl, hb⟩
          have HB2 := hide (HB.out.trans (hb.mono HB.out.size))
          clear hb CG
          go_wp2
          go_roundw
          case rel => exact ⟨j + 1, by omega, by go_num, HB2.out⟩
          case measure => simp [intOf]; omega
        · have hltI : ¬ (j : Int) < (k3 : Int) := by omega
          have HB := hide hbel
          clear hbel
          go_wp2
          go_ret
          exact ⟨rfl, B8.out.trans (HB.out.mono B8.out.size)⟩
end Go.Proofs.Ytapffbbmofhpoab.fnForms
