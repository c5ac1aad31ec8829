/-
  The walk of the law FnRing: it returns true at every two lists of bytes; memory that was there stays as it was.
-/
import Derived.Test.YtkjljkfjcngkcaaL3RingMath2
import Derived.Test.YtkjljkfjcngkcaaL3Draws2
import Derived.Test.YtkjljkfjcngkcaaL3Same
import Derived.Test.YtkjljkfjcngkcaaL3Drop
import Derived.Test.YtkjljkfjcngkcaaL3Owners
import Derived.Deep.DeepCutAuto
namespace Go.Proofs.Ytkjljkfjcngkcaa.fnRing
open Go.RowKit L1 L3
set_option linter.unusedVariables false

theorem rem_lo {x : Int} (h : 0 ≤ x) : 0 ≤ x.tmod 1009 := Int.tmod_nonneg _ h
theorem rem_hi (x : Int) : x.tmod 1009 ≤ 1008 := by have := Int.tmod_lt_of_pos x (show (0 : Int) < 1009 by omega); omega
theorem ownRes_of {l : List (Int × Int)} {h : Int} (ha : RingAsk l h) : ownRes l h = some (ownAt l h) := by unfold ownRes ownAt; rw [if_pos ha]
/-- What the law asks where an owner came. -/
theorem came {l s : List (Int × Int)} {o : Int} {ps : List Int} (e : addRes l o ps = some s) (h : Int) (h0 : 0 ≤ h) (h1 : h ≤ 1008) :
    GoodT s ∧ dropRes s o = some l ∧ (ownRes s h).isSome = true ∧ ((ownRes l h).isSome = false ∨ (ownRes s h).getD 0 = (ownRes l h).getD 0 ∨ (ownRes s h).getD 0 = o) := by
  obtain ⟨ask, hp, hg⟩ := addRes_inv e
  have hhas := came_has ask.2.2.1.1 hp
  have hs0 : 0 < s.length := by obtain ⟨j, hj, _⟩ := hhas; omega
  have hrs : RingAsk s h := ⟨hs0, hg, h0, h1⟩
  refine ⟨hg, ?_, by rw [ownRes_of hrs]; rfl, ?_⟩
  · unfold dropRes; rw [if_pos ⟨hg, hhas⟩, back (good_upS ask.1) (good_upS hg) ask.2.1 hp]
  · by_cases hl : 0 < l.length
    · right
      rw [ownRes_of hrs, ownRes_of ⟨hl, ask.1, h0, h1⟩]
      exact karger (good_upS ask.1) (good_upS hg) hp h hl
    · left
      unfold ownRes
      rw [if_neg (fun hh => hl hh.1)]; rfl
theorem own_form' {w : World} {base n cap : Nat} {a : Option Addr} {xs : List Int} (h : w.ownsRow base 3 1 (.slice a n cap) n (xs.map (Value.int .i64))) : Sl w a xs := by
  obtain ⟨a', c', e, hs, _⟩ := own_form h
  cases e
  exact hs
theorem own_cap {w : World} {base n cap b off : Nat} {xs : List Int} (h : w.ownsRow base 3 1 (.slice (some ⟨b, off, none⟩) n cap) n (xs.map (Value.int .i64))) : n ≤ cap := by
  obtain ⟨g, c, e, hc, _⟩ := own_some h (by simp)
  cases e
  exact hc
theorem sl_take {w : World} {a : Option Addr} {xs : List Int} (h : Sl w a xs) (k : Nat) : Sl w a (xs.take k) := fun i hi => by
  rw [List.length_take] at hi
  obtain ⟨b, off, ha, hc⟩ := h i (by omega)
  refine ⟨b, off, ha, ?_⟩
  rw [hc]
  congr 2
  simp [List.getD, show i < k by omega]

set_option maxRecDepth 100000 in
set_option maxHeartbeats 4000000 in
theorem walk (a0 : Option Addr) (len0 cap0 : Nat) (z0 : List Int) (a1 : Option Addr) (len1 cap1 : Nat) (z1 : List Int) (w : World) (w0 : IsRow .u8 w a0 len0 cap0 z0) (hr0 : len0 ≤ 140737488351232) (w1 : IsRow .u8 w a1 len1 cap1 z1) (hr1 : len1 ≤ 140737488351232) :
    Calls Try.prog 3 #[.slice a0 len0 cap0, .slice a1 len1 cap1] w fun e w' => e = .returned (.bool true) ∧ Below w.heap.size w w' := by
  have S0 := hide (slb_of_row w0)
  have S1 := hide (slb_of_row w1)
  clear w0 w1
  by_cases hsz : 1048576 < (len0 : Int) + (len1 : Int)
  · go_enter Try.func3, Try.ntmps3
    go_wp2
    go_ret
    exact ⟨rfl, Below.refl _ _⟩
  · have hl0 : len0 ≤ 1048576 := by omega
    have hl1 : len1 ≤ 1048576 := by omega
    go_enter Try.func3, Try.ntmps3
    go_wp2_with fail
    refine (drawAddOwner_any a0 len0 cap0 _ S0.out hl0).mono ?_
    rintro e v1 ⟨rv, o, pv, rfl, ⟨l, hl, ho⟩, ⟨ps, hps, hp⟩, hb⟩
    obtain ⟨n, hn⟩ : ∃ n, n = l.length := ⟨_, rfl⟩
    obtain ⟨m, hm⟩ : ∃ m, m = ps.length := ⟨_, rfl⟩
    rw [← hn] at ho hl
    rw [← hm] at hp hps
    obtain ⟨ra, rc, rfl, _, _⟩ := own_form2 ho
    obtain ⟨pa, pc, rfl, _, _⟩ := own_form hp
    have c1 := fun (wx : World) (h1 : wx.ownsRow w.heap.size 55 2 (.slice ra n rc) n (flat l)) (h2 : wx.ownsRow w.heap.size 3 1 (.slice pa m pc) m (ps.map (Value.int .i64))) => addOwner_own (B1 := w.heap.size) (B2 := w.heap.size) (.slice ra n rc) (.slice pa m pc) l ps o wx (by omega) (by rw [← hn]; exact h1) (by omega) (by rw [← hm]; exact h2)
    have c2 := fun (wx : World) (h1 : wx.ownsRow w.heap.size 55 2 (.slice ra n rc) n (flat l)) (h2 : wx.ownsRow w.heap.size 3 1 (.slice pa m pc) m (ps.map (Value.int .i64))) => specAdd_own (B1 := w.heap.size) (B2 := w.heap.size) (.slice ra n rc) (.slice pa m pc) l ps o wx (by omega) (by rw [← hn]; exact h1) (by omega) (by rw [← hm]; exact h2)
    have hsl := addRes_len l o ps
    obtain ⟨r, hr⟩ : ∃ r, r = addRes l o ps := ⟨_, rfl⟩
    obtain ⟨xs, hxs⟩ : ∃ xs, xs = r.getD [] := ⟨_, rfl⟩
    obtain ⟨nx, hnx⟩ : ∃ nx, nx = xs.length := ⟨_, rfl⟩
    obtain ⟨ok, hok⟩ : ∃ ok, ok = r.isSome := ⟨_, rfl⟩
    rw [← hr, ← hxs, ← hnx] at hsl
    simp only [RetT, ← hr, ← hxs, ← hnx, ← hok] at c1 c2
    obtain ⟨gd, hgd⟩ : ∃ gd : Bool, gd = true ↔ GoodT l := by classical exact ⟨decide (GoodT l), by simp⟩
    have CA := hide c1
    have CB := hide c2
    have HN := hide hn.symm
    have HX := hide hnx.symm
    have HR := hide hr
    have HXS := hide hxs
    have HOK := hide hok
    have HGD := hide hgd
    clear c1 c2 hn hm hnx hr hxs hok hgd
    have B0 := hide hb
    have R0 := hide ho
    have Q0 := hide hp
    clear hb ho hp
    go_wp2_with fail
    refine (unhide CA _ R0.out Q0.out).mono ?_
    rintro e v2 ⟨xv, rfl, hox, hb⟩
    obtain ⟨xa, xc, rfl, sx, _⟩ := own_form2 hox
    have bb := hide hb
    have B1 := hide (B0.out.trans (bb.out.mono B0.out.size))
    clear B0
    have R1 := hide (own_belowT R0.out bb.out)
    clear R0
    have Q1 := hide (own_belowT Q0.out bb.out)
    clear Q0
    clear bb
    have X0 := hide sx
    clear hb hox sx
    go_wp2_with fail
    refine (unhide CB _ R1.out Q1.out).mono ?_
    rintro e v3 ⟨yv, rfl, hoy, hb⟩
    obtain ⟨ya, yc, rfl, sy, _⟩ := own_form2 hoy
    clear CA CB
    have bb := hide hb
    have B2 := hide (B1.out.trans (bb.out.mono B1.out.size))
    clear B1
    have R2 := hide (own_belowT R1.out bb.out)
    clear R1
    clear Q1
    have X1 := hide (X0.out.below bb.out)
    clear X0
    clear bb
    have Y0 := hide sy
    clear hb hoy sy
    have T0 := hide (own_sl2 R2.out)
    go_wp2_with fail
    refine (sameRing_same _ _ xs nx _ _ _ HX.out X1.out Y0.out (by omega)).mono ?_
    rintro e v4 ⟨rfl, hb⟩
    have bb := hide hb
    have B3 := hide (B2.out.trans (bb.out.mono B2.out.size))
    clear B2
    have X2 := hide (X1.out.below bb.out)
    clear X1
    clear Y0
    have T1 := hide (T0.out.below bb.out)
    clear T0
    clear bb
    clear hb
    go_wp2_with fail
    refine (goodRing_any _ l n _ _ HN.out T1.out (by omega) gd HGD.out).mono ?_
    rintro e v5 ⟨rfl, hb⟩
    have bb := hide hb
    have B4 := hide (B3.out.trans (bb.out.mono B3.out.size))
    clear B3
    have X3 := hide (X2.out.below bb.out)
    clear X2
    have T2 := hide (T1.out.below bb.out)
    clear T1
    clear bb
    clear hb
    go_wp2_with fail
    refine (specGoodRing_any _ l n _ _ HN.out T2.out (by omega) gd HGD.out).mono ?_
    rintro e v6 ⟨rfl, hb⟩
    have bb := hide hb
    have B5 := hide (B4.out.trans (bb.out.mono B4.out.size))
    clear B4
    have X4 := hide (X3.out.below bb.out)
    clear X3
    have T3 := hide (T2.out.below bb.out)
    clear T2
    clear bb
    clear hb
    go_upto_if 83 with fail
    go_cut [] (fun wx => Below w.heap.size w wx)
    case first =>
      cases ok with
      | false =>
        go_wp2_with fail
        go_meet
        exact B5.out
      | true =>
        have hres : addRes l o ps = some xs := by
          have h1 := HOK.out
          have h2 := HXS.out
          rw [← HR.out]
          cases r with
          | none => cases h1
          | some s => rw [h2]; rfl
        go_wp2_with fail
        refine (numberOf_any a1 len1 cap1 _ (Slb.below S1.out B5.out) hl1).mono ?_
        rintro e v7 ⟨⟨x, rfl, hx0, hx1⟩, rfl⟩
        have hq0 := rem_lo hx0
        have hq1 := rem_hi x
        obtain ⟨h, hrem⟩ : ∃ h, x.tmod 1009 = h := ⟨_, rfl⟩
        rw [hrem] at hq0 hq1
        obtain ⟨hg, hd, htwo, hK⟩ := came hres h hq0 hq1
        have c1 := fun (wx : World) (hs : Sl2 wx ra l) => ownerOf_any ra l n rc h wx HN.out hs (by omega)
        have c2 := fun (wx : World) (hs : Sl2 wx xa xs) => ownerOf_any xa xs nx xc h wx HX.out hs (by omega)
        rw [htwo] at c2
        obtain ⟨pa', hpa⟩ : ∃ p, p = (ownRes l h).getD 0 := ⟨_, rfl⟩
        obtain ⟨pb, hpb⟩ : ∃ p, p = (ownRes xs h).getD 0 := ⟨_, rfl⟩
        obtain ⟨one, hone⟩ : ∃ p, p = (ownRes l h).isSome := ⟨_, rfl⟩
        simp only [← hpa, ← hone] at c1
        simp only [← hpb] at c2
        rw [← hpa, ← hpb, ← hone] at hK
        have c3 := fun (wx : World) (hs : Sl2 wx xa xs) => dropOwner_any xa xs nx xc o wx HX.out hs (by omega) _ hd.symm
        simp only [RetT, Option.isSome_some, Option.getD_some, HN.out] at c3
        have CA := hide c1
        have CB := hide c2
        have CC := hide c3
        have HG := hide hg
        have HK := hide hK
        clear c1 c2 c3 hd htwo hK hpa hpb hone hg hres
        go_wp2_with fail
        clear hrem
        refine (unhide CA _ T3.out).mono ?_
        rintro e v8 ⟨rfl, hb⟩
        have bb := hide hb
        have B6 := hide (B5.out.trans (bb.out.mono B5.out.size))
        clear B5
        have X5 := hide (X4.out.below bb.out)
        clear X4
        have T4 := hide (T3.out.below bb.out)
        clear T3
        clear bb
        clear hb CA
        go_wp2_with fail
        refine (unhide CB _ X5.out).mono ?_
        rintro e v9 ⟨rfl, hb⟩
        have bb := hide hb
        have B7 := hide (B6.out.trans (bb.out.mono B6.out.size))
        clear B6
        have X6 := hide (X5.out.below bb.out)
        clear X5
        have T5 := hide (T4.out.below bb.out)
        clear T4
        clear bb
        clear hb CB
        go_wp2_with fail
        refine (unhide CC _ X6.out).mono ?_
        rintro e v10 ⟨dv, rfl, hod, hb⟩
        obtain ⟨da, dc, rfl, sd, _⟩ := own_form2 hod
        have bb := hide hb
        have B8 := hide (B7.out.trans (bb.out.mono B7.out.size))
        clear B7
        have X7 := hide (X6.out.below bb.out)
        clear X6
        have T6 := hide (T5.out.below bb.out)
        clear T5
        clear bb
        have D0 := hide sd
        clear hb CC hod sd
        rcases HK.out with rfl | hK
        · clear HK
          go_wp2_with fail
          refine (sameRing_same _ _ l n _ _ _ HN.out D0.out T6.out (by omega)).mono ?_
          rintro e v11 ⟨rfl, hb⟩
          have bb := hide hb
          have B9 := hide (B8.out.trans (bb.out.mono B8.out.size))
          clear B8
          have X8 := hide (X7.out.below bb.out)
          clear X7
          clear T6
          clear D0
          clear bb
          clear hb
          go_wp2_with fail
          refine (goodRing_any _ xs nx _ _ HX.out X8.out (by omega) true (by simp [HG.out])).mono ?_
          rintro e v12 ⟨rfl, hb⟩
          have bb := hide hb
          have B10 := hide (B9.out.trans (bb.out.mono B9.out.size))
          clear B9
          clear X8
          clear bb
          clear hb
          go_wp2_with fail
          go_meet
          exact B10.out
        · by_cases hab : pb = pa'
          · subst hab
            clear hK HK
            cases one with
            | false =>
              go_wp2_with fail
              refine (sameRing_same _ _ l n _ _ _ HN.out D0.out T6.out (by omega)).mono ?_
              rintro e v11 ⟨rfl, hb⟩
              have bb := hide hb
              have B9 := hide (B8.out.trans (bb.out.mono B8.out.size))
              clear B8
              have X8 := hide (X7.out.below bb.out)
              clear X7
              clear T6
              clear D0
              clear bb
              clear hb
              go_wp2_with fail
              refine (goodRing_any _ xs nx _ _ HX.out X8.out (by omega) true (by simp [HG.out])).mono ?_
              rintro e v12 ⟨rfl, hb⟩
              have bb := hide hb
              have B10 := hide (B9.out.trans (bb.out.mono B9.out.size))
              clear B9
              clear X8
              clear bb
              clear hb
              go_wp2_with fail
              go_meet
              exact B10.out
            | true =>
              go_wp2_with fail
              refine (sameRing_same _ _ l n _ _ _ HN.out D0.out T6.out (by omega)).mono ?_
              rintro e v11 ⟨rfl, hb⟩
              have bb := hide hb
              have B9 := hide (B8.out.trans (bb.out.mono B8.out.size))
              clear B8
              have X8 := hide (X7.out.below bb.out)
              clear X7
              clear T6
              clear D0
              clear bb
              clear hb
              go_wp2_with fail
              refine (goodRing_any _ xs nx _ _ HX.out X8.out (by omega) true (by simp [HG.out])).mono ?_
              rintro e v12 ⟨rfl, hb⟩
              have bb := hide hb
              have B10 := hide (B9.out.trans (bb.out.mono B9.out.size))
              clear B9
              clear X8
              clear bb
              clear hb
              go_wp2_with fail
              go_meet
              exact B10.out
          · have hbo : pb = o := by rcases hK with h1 | h1; exact absurd h1 hab; exact h1
            subst hbo
            have hab' : (pb == pa') = false := by simp [hab]
            clear hK HK
            cases one with
            | false =>
              go_wp2_with fail
              refine (sameRing_same _ _ l n _ _ _ HN.out D0.out T6.out (by omega)).mono ?_
              rintro e v11 ⟨rfl, hb⟩
              have bb := hide hb
              have B9 := hide (B8.out.trans (bb.out.mono B8.out.size))
              clear B8
              have X8 := hide (X7.out.below bb.out)
              clear X7
              clear T6
              clear D0
              clear bb
              clear hb
              go_wp2_with fail
              refine (goodRing_any _ xs nx _ _ HX.out X8.out (by omega) true (by simp [HG.out])).mono ?_
              rintro e v12 ⟨rfl, hb⟩
              have bb := hide hb
              have B10 := hide (B9.out.trans (bb.out.mono B9.out.size))
              clear B9
              clear X8
              clear bb
              clear hb
              go_wp2_with fail
              go_meet
              exact B10.out
            | true =>
              go_wp2_with fail
              refine (sameRing_same _ _ l n _ _ _ HN.out D0.out T6.out (by omega)).mono ?_
              rintro e v11 ⟨rfl, hb⟩
              have bb := hide hb
              have B9 := hide (B8.out.trans (bb.out.mono B8.out.size))
              clear B8
              have X8 := hide (X7.out.below bb.out)
              clear X7
              clear T6
              clear D0
              clear bb
              clear hb
              go_wp2_with fail
              refine (goodRing_any _ xs nx _ _ HX.out X8.out (by omega) true (by simp [HG.out])).mono ?_
              rintro e v12 ⟨rfl, hb⟩
              have bb := hide hb
              have B10 := hide (B9.out.trans (bb.out.mono B9.out.size))
              clear B9
              clear X8
              clear bb
              clear hb
              go_wp2_with fail
              go_meet
              exact B10.out
    case rest =>
      have B0 := hide hcut
      clear hcut HN HX HR HXS HOK HGD
      go_wp2_with fail
      refine (drawOwnerOf_any a1 len1 cap1 _ (Slb.below S1.out B0.out) hl1).mono ?_
      rintro e x1 ⟨rv1, hash, rfl, ⟨l1, hz1, ho1⟩, hb⟩
      obtain ⟨n1, hn1⟩ : ∃ n, n = l1.length := ⟨_, rfl⟩
      rw [← hn1] at ho1 hz1
      obtain ⟨r1a, r1c, rfl, s1, _⟩ := own_form2 ho1
      have bb := hide hb
      have B1 := hide (B0.out.trans (bb.out.mono B0.out.size))
      clear B0
      clear bb
      have La0 := hide s1
      have HN1 := hide hn1.symm
      clear hb ho1 s1 hn1
      have c1 := fun (wx : World) (hs : Sl2 wx r1a l1) => ownerOf_any r1a l1 n1 r1c hash wx HN1.out hs (by omega)
      have c2 := fun (wx : World) (hs : Sl2 wx r1a l1) => specOwnerOf_any r1a l1 n1 r1c hash wx HN1.out hs (by omega)
      obtain ⟨p1, hp1⟩ : ∃ p, p = (ownRes l1 hash).getD 0 := ⟨_, rfl⟩
      obtain ⟨q1, hq1⟩ : ∃ p, p = (ownRes l1 hash).isSome := ⟨_, rfl⟩
      simp only [← hp1, ← hq1] at c1 c2
      have CA := hide c1
      have CB := hide c2
      clear c1 c2 hp1 hq1
      go_wp2_with fail
      refine (unhide CA _ La0.out).mono ?_
      rintro e y1 ⟨rfl, hb⟩
      have bb := hide hb
      have B2 := hide (B1.out.trans (bb.out.mono B1.out.size))
      clear B1
      have La1 := hide (La0.out.below bb.out)
      clear La0
      clear bb
      clear hb CA
      go_wp2_with fail
      refine (unhide CB _ La1.out).mono ?_
      rintro e y2 ⟨rfl, hb⟩
      have bb := hide hb
      have B3 := hide (B2.out.trans (bb.out.mono B2.out.size))
      clear B2
      clear La1
      clear bb
      clear hb CB
      go_wp2_with fail
      refine (drawOwnersOf_any a1 len1 cap1 _ (Slb.below S1.out B3.out) hl1).mono ?_
      rintro e x2 ⟨rv2, g, many, rfl, ⟨l2, hz2, ho2⟩, hb⟩
      obtain ⟨n2, hn2⟩ : ∃ n, n = l2.length := ⟨_, rfl⟩
      rw [← hn2] at ho2 hz2
      obtain ⟨r2a, r2c, rfl, s2, _⟩ := own_form2 ho2
      have bb := hide hb
      have B4 := hide (B3.out.trans (bb.out.mono B3.out.size))
      clear B3
      clear bb
      have Lb0 := hide s2
      have HN2 := hide hn2.symm
      clear hb ho2 s2 hn2
      have hlen := onRes_len l2 g many
      obtain ⟨r2, hr2⟩ : ∃ r, r = onRes l2 g many := ⟨_, rfl⟩
      have c1 := fun (wx : World) (hs : Sl2 wx r2a l2) => ownersOf_any r2a l2 n2 r2c g many wx HN2.out hs (by omega) r2 hr2
      have c2 := fun (wx : World) (hs : Sl2 wx r2a l2) => specOwners_any r2a l2 n2 r2c g many wx HN2.out hs (by omega) r2 hr2
      obtain ⟨xs, hxs⟩ : ∃ xs, xs = r2.getD [] := ⟨_, rfl⟩
      obtain ⟨m2, hm2⟩ : ∃ m, m = xs.length := ⟨_, rfl⟩
      obtain ⟨three, h3⟩ : ∃ b, b = r2.isSome := ⟨_, rfl⟩
      simp only [RetL, ← hxs, ← hm2, ← h3] at c1 c2
      rw [← hr2, ← hxs, ← hm2] at hlen
      have CA := hide c1
      have CB := hide c2
      have HR2 := hide hr2
      have HXS := hide hxs
      have HM2 := hide hm2.symm
      have H3 := hide h3
      clear c1 c2 hr2 hxs hm2 h3
      go_wp2_with fail
      refine (unhide CA _ Lb0.out).mono ?_
      rintro e y3 ⟨v3, rfl, ho3, hb⟩
      obtain ⟨la, lc, rfl, _, _⟩ := own_form ho3
      have bb := hide hb
      have B5 := hide (B4.out.trans (bb.out.mono B4.out.size))
      clear B4
      have Lb1 := hide (Lb0.out.below bb.out)
      clear Lb0
      clear bb
      have V0 := hide ho3
      clear hb CA ho3
      go_wp2_with fail
      refine (unhide CB _ Lb1.out).mono ?_
      rintro e y4 ⟨v4, rfl, ho4, hb⟩
      obtain ⟨lb, ld, rfl, s4, _⟩ := own_form ho4
      have bb := hide hb
      have B6 := hide (B5.out.trans (bb.out.mono B5.out.size))
      clear B5
      have Lb2 := hide (Lb1.out.below bb.out)
      clear Lb1
      have V1 := hide (own_belowT V0.out bb.out)
      clear V0
      clear bb
      have W0 := hide s4
      clear hb CB ho4 s4
      go_wp2_with fail
      refine (drawDropOwner_any a1 len1 cap1 _ (Slb.below S1.out B6.out) hl1).mono ?_
      rintro e x3 ⟨rv3, wd, rfl, ⟨l3, hz3, ho3⟩, hb⟩
      obtain ⟨n3, hn3⟩ : ∃ n, n = l3.length := ⟨_, rfl⟩
      rw [← hn3] at ho3 hz3
      obtain ⟨r3a, r3c, rfl, s3, _⟩ := own_form2 ho3
      have bb := hide hb
      have B7 := hide (B6.out.trans (bb.out.mono B6.out.size))
      clear B6
      have Lb3 := hide (Lb2.out.below bb.out)
      clear Lb2
      have V2 := hide (own_belowT V1.out bb.out)
      clear V1
      have W1 := hide (W0.out.below bb.out)
      clear W0
      clear bb
      have Lc0 := hide s3
      have HN3 := hide hn3.symm
      clear hb ho3 s3 hn3
      have hlen3 := dropRes_len l3 wd
      obtain ⟨r3, hr3⟩ : ∃ r, r = dropRes l3 wd := ⟨_, rfl⟩
      have c1 := fun (wx : World) (hs : Sl2 wx r3a l3) => dropOwner_any r3a l3 n3 r3c wd wx HN3.out hs (by omega) r3 hr3
      have c2 := fun (wx : World) (hs : Sl2 wx r3a l3) => specDrop_any r3a l3 n3 r3c wd wx HN3.out hs (by omega) r3 hr3
      obtain ⟨ys, hys⟩ : ∃ ys, ys = r3.getD [] := ⟨_, rfl⟩
      obtain ⟨m3, hm3⟩ : ∃ m, m = ys.length := ⟨_, rfl⟩
      obtain ⟨five, h5⟩ : ∃ b, b = r3.isSome := ⟨_, rfl⟩
      simp only [RetT, ← hys, ← hm3, ← h5] at c1 c2
      rw [← hr3, ← hys, ← hm3] at hlen3
      have CA := hide c1
      have CB := hide c2
      have HM3 := hide hm3.symm
      clear c1 c2 hr3 hys hm3 h5
      go_wp2_with fail
      refine (unhide CA _ Lc0.out).mono ?_
      rintro e y5 ⟨v5, rfl, ho5, hb⟩
      obtain ⟨ea, ec, rfl, s5, _⟩ := own_form2 ho5
      have bb := hide hb
      have B8 := hide (B7.out.trans (bb.out.mono B7.out.size))
      clear B7
      have Lb4 := hide (Lb3.out.below bb.out)
      clear Lb3
      have V3 := hide (own_belowT V2.out bb.out)
      clear V2
      have W2 := hide (W1.out.below bb.out)
      clear W1
      have Lc1 := hide (Lc0.out.below bb.out)
      clear Lc0
      clear bb
      have E0 := hide s5
      clear hb CA ho5 s5
      go_wp2_with fail
      refine (unhide CB _ Lc1.out).mono ?_
      rintro e y6 ⟨v6, rfl, ho6, hb⟩
      obtain ⟨fa, fc, rfl, s6, _⟩ := own_form2 ho6
      have bb := hide hb
      have B9 := hide (B8.out.trans (bb.out.mono B8.out.size))
      clear B8
      have Lb5 := hide (Lb4.out.below bb.out)
      clear Lb4
      have V4 := hide (own_belowT V3.out bb.out)
      clear V3
      have W3 := hide (W2.out.below bb.out)
      clear W2
      clear Lc1
      have E1 := hide (E0.out.below bb.out)
      clear E0
      clear bb
      have F0 := hide s6
      clear hb CB ho6 s6
      have SV := hide (own_form' V4.out)
      go_wp2_with fail
      refine (sameInts_same3 _ _ xs m2 _ _ _ HM2.out SV.out W3.out (by omega)).mono ?_
      rintro e y7 ⟨rfl, hb⟩
      clear SV
      have bb := hide hb
      have B10 := hide (B9.out.trans (bb.out.mono B9.out.size))
      clear B9
      have Lb6 := hide (Lb5.out.below bb.out)
      clear Lb5
      have V5 := hide (own_belowT V4.out bb.out)
      clear V4
      clear W3
      have E2 := hide (E1.out.below bb.out)
      clear E1
      have F1 := hide (F0.out.below bb.out)
      clear F0
      clear bb
      clear hb
      go_wp2_with fail
      refine (sameRing_same _ _ ys m3 _ _ _ HM3.out E2.out F1.out (by omega)).mono ?_
      rintro e y8 ⟨rfl, hb⟩
      have bb := hide hb
      have B11 := hide (B10.out.trans (bb.out.mono B10.out.size))
      clear B10
      have Lb7 := hide (Lb6.out.below bb.out)
      clear Lb6
      have V6 := hide (own_belowT V5.out bb.out)
      clear V5
      clear E2
      clear F1
      clear bb
      clear hb
      cases three with
      | false =>
        go_wp2_with fail
        go_ret
        exact ⟨rfl, B11.out⟩
      | true =>
        have hres : onRes l2 g many = some xs := by
          have h1 := H3.out
          have h2 := HXS.out
          rw [← HR2.out]
          cases r2 with
          | none => cases h1
          | some s => rw [h2]; rfl
        obtain ⟨ask, hm1, hm8, hml, hnd, t, ht⟩ := onRes_parts hres
        rw [HM2.out] at hml
        have c1 := fun (wx : World) (hs : Sl2 wx r2a l2) => ownerOf_yes r2a l2 n2 r2c g wx HN2.out hs (by omega) ask (ownAt l2 g) rfl
        have hfirst : xs.getD 0 0 = ownAt l2 g := by rw [ht]; rfl
        obtain ⟨fo, hfo⟩ : ∃ f, f = ownAt l2 g := ⟨_, rfl⟩
        rw [← hfo] at hfirst
        simp only [← hfo] at c1
        have CA := hide c1
        have HF := hide hfirst
        have HND := hide hnd
        clear c1 hres ht ask hfo hfirst hnd HR2 HXS H3
        subst hml
        have hm0 : (0 : Int) < (m2 : Int) := by omega
        go_wp2_with fail
        refine (unhide CA _ Lb7.out).mono ?_
        rintro e y9 ⟨rfl, hb⟩
        have bb := hide hb
        have B12 := hide (B11.out.trans (bb.out.mono B11.out.size))
        clear B11
        clear Lb7
        have V7 := hide (own_belowT V6.out bb.out)
        clear V6
        clear bb
        clear hb CA
        have hsl := own_form' V7.out
        obtain ⟨b, off, rfl, hc0⟩ := hsl 0 (by rw [HM2.out]; omega)
        have hcap : m2 ≤ lc := own_cap V7.out
        rw [HF.out, Nat.add_zero] at hc0
        have hcapI : (m2 : Int) ≤ (lc : Int) := by omega
        have SV := hide hsl
        clear hsl V7 HF
        go_wp2_with fail
        go_loopw [243] (fun i wr => ∃ k : Nat, k ≤ m2 ∧ i = .int .i64 k ∧ Sl wr (some ⟨b, off, none⟩) xs ∧ Below w.heap.size w wr) (fun i _ => m2 - (intOf i).toNat)
        case atStart => exact ⟨0, Nat.zero_le _, rfl, SV.out, B12.out⟩
        case round =>
          obtain ⟨k, hk, rfl, hsk, hbel⟩ := hrel
          by_cases hlt : k < m2
          · obtain ⟨b', off', he, hc⟩ := hsk k (by rw [HM2.out]; exact hlt)
            cases he
            have hno := nodup_not_take HND.out (i := k) (by rw [HM2.out]; exact hlt)
            obtain ⟨y, hy⟩ : ∃ y, y = xs.getD k 0 := ⟨_, rfl⟩
            rw [← hy] at hno hc
            have hlt' : (xs.take k).length = k := by rw [List.length_take, HM2.out]; omega
            have HCL := hide (fun (wx : World) (c : Nat) (hs : Sl wx (some ⟨b, off, none⟩) (xs.take k)) => (has_no (some ⟨b, off, none⟩) (xs.take k) k c y wx hlt' hs (by omega) hno).mono (fun e w' h => (⟨h.1, h.2.symm⟩ : e = .returned (.bool false) ∧ w' = wx)))
            have hltI : (k : Int) < (m2 : Int) := by omega
            have hk0 : (0 : Int) ≤ (k : Int) := by omega
            have hkc : (k : Int) ≤ (lc : Int) := by omega
            have HSK := hide hsk
            have HBL := hide hbel
            clear hno hlt' hy hsk hbel SV
            go_wp2_with fail
            go_quiet ((go_at_call 21; exact Calls.quiet_of_same (HCL.out _ _ ((sl_take HSK.out k).below (below_drewN (Below.refl _ _) _)))))
            go_wp2_with fail
            go_roundw
            case rel => exact ⟨k + 1, by omega, by go_num, HSK.out.below (below_drewN (Below.refl _ _) _), below_drewN HBL.out _⟩
            case measure => simp [intOf]; omega
          · have hltI : ¬ (k : Int) < (m2 : Int) := by omega
            have HBL := hide hbel
            clear hbel hsk SV
            go_wp2_with fail
            go_ret
            exact ⟨rfl, HBL.out⟩
end Go.Proofs.Ytkjljkfjcngkcaa.fnRing
