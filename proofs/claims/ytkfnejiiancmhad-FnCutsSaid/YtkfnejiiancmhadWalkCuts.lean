/-
  The walk of the law FnCuts: it returns true at every two lists of bytes; memory that was there stays as it was.
-/
import Derived.Test.YtkfnejiiancmhadBundle3
import Derived.Test.YtkfnejiiancmhadBundle5
import Derived.Test.YtkfnejiiancmhadBundle6
import Derived.Test.YtkfnejiiancmhadBundle7
import Derived.Deep.DeepCutAuto
namespace Go.Proofs.Ytkfnejiiancmhad.fnCuts
open Go.RowKit L1 L4 L11 Own
set_option linter.unusedVariables false

open Classical in
set_option maxRecDepth 100000 in
set_option maxHeartbeats 4000000 in
theorem walk (a0 : Option Addr) (len0 cap0 : Nat) (z0 : List Int) (a1 : Option Addr) (len1 cap1 : Nat) (z1 : List Int) (w : World) (w0 : IsRow .u8 w a0 len0 cap0 z0) (hr0 : len0 ≤ 140737488351232) (w1 : IsRow .u8 w a1 len1 cap1 z1) (hr1 : len1 ≤ 140737488351232) :
    Calls Try.prog 6 #[.slice a0 len0 cap0, .slice a1 len1 cap1] w fun e w' => e = .returned (.bool true) ∧ Below w.heap.size w w' := by
  have S0 := hide (slb_of_row w0)
  have S1 := hide (slb_of_row w1)
  clear w0 w1
  by_cases hsz : 1048576 < (len0 : Int) + (len1 : Int)
  · go_enter Try.func6, Try.ntmps6
    go_wp2
    go_ret
    exact ⟨rfl, Below.refl _ _⟩
  have hl0 : len0 ≤ 1048576 := by omega
  have hl1 : len1 ≤ 1048576 := by omega
  go_enter Try.func6, Try.ntmps6
  go_wp2_with fail
  refine (drawCut_any a0 len0 cap0 _ S0.out hl0).mono ?_
  rintro e v1 ⟨nn, k, v, K, rfl, hnb, hk41, ho, hK, hb⟩
  obtain ⟨l, hll, hol⟩ := ho
  obtain ⟨la, lc, hv, sl, _⟩ := own_form2 hol
  subst hv
  obtain ⟨Nn, hNn⟩ : ∃ Nn : Nat, nn = (Nn : Int) := ⟨nn.toNat, by omega⟩
  subst hNn
  obtain ⟨cr, hcr⟩ : ∃ cr, cr = coRes Nn l K := ⟨_, rfl⟩
  have hk2 : k ≤ 1048576 := by omega
  have hN2 : Nn ≤ 1048576 := by omega
  have hNI : (Nn : Int) ≤ 9223372036854775807 := by omega
  have ca := fun wx h => cutOf_any Nn la l k lc K wx hll h hk2 cr hcr
  have cb := fun wx h => specCutOf_any Nn la l k lc K wx hll h hk2 hNI cr hcr
  obtain ⟨cs, hcs⟩ : ∃ cs, cs = cr.getD [] := ⟨_, rfl⟩
  obtain ⟨cn, hcn⟩ : ∃ cn, cn = cs.length := ⟨_, rfl⟩
  obtain ⟨ok, hok⟩ : ∃ b, b = cr.isSome := ⟨_, rfl⟩
  simp only [RetL, ← hcs, ← hcn, ← hok] at ca cb
  have CA := hide ca
  have CB := hide cb
  have hcn2 : cn ≤ 1048576 := by
    rw [hcn, hcs, hcr]; unfold coRes
    split
    · simp only [Option.getD_some, clL_len]; exact hN2
    · simp
  have HOK : Hid (ok = true → GoodV Nn l ∧ ∃ Kn : Nat, K = (Kn : Int) ∧ Kn < k ∧ cs = clL (cE l Kn) Nn ∧ cn = Nn) := hide (fun h => by
    rw [hok, hcr] at h
    unfold coRes at h
    split at h
    · rename_i h2
      refine ⟨h2.1, K.toNat, by omega, by have := h2.2.2; omega, ?_⟩
      have e : cs = clL (cE l K.toNat) Nn := by rw [hcs, hcr]; unfold coRes; rw [if_pos h2]; rfl
      exact ⟨e, by rw [hcn, e, clL_len]⟩
    · cases h)
  have HCN := hide hcn.symm
  have HLL := hide hll
  have B1 := hide hb
  have L1 := hide sl
  clear ca cb hcs hcn hok hcr hb hol sl hll
  go_wp2_with fail
  refine (unhide CA _ L1.out).mono ?_
  rintro e v2 ⟨u1, rfl, ho, hb⟩
  obtain ⟨ca, cc, rfl, hco, _⟩ := own_form ho
  have B2 := hide (B1.out.trans (hb.mono B1.out.size))
  have L2 := hide (L1.out.below hb)
  have C2 := hide hco
  clear hb ho hco B1 L1
  go_wp2_with fail
  refine (unhide CB _ L2.out).mono ?_
  rintro e v3 ⟨u2, rfl, ho, hb⟩
  obtain ⟨da, dc, rfl, hdo, _⟩ := own_form ho
  have B3 := hide (B2.out.trans (hb.mono B2.out.size))
  have L3 := hide (L2.out.below hb)
  have C3 := hide (C2.out.below hb)
  have D3 := hide hdo
  clear hb ho hdo B2 L2 C2 CA CB
  go_wp2_with fail
  refine (sameInts_any ca da cs cn _ _ _ HCN.out C3.out D3.out hcn2).mono ?_
  rintro e v4 ⟨rfl, hb⟩
  have B4 := hide (B3.out.trans (hb.mono B3.out.size))
  have L4 := hide (L3.out.below hb)
  have C4 := hide (C3.out.below hb)
  clear hb B3 L3 C3 D3
  go_upto_if 70 with fail
  go_cut [] (fun wx => Below w.heap.size w wx)
  case first =>
    cases ok with
    | false =>
      go_wp2_with fail
      go_meet
      exact B4.out
    | true =>
      obtain ⟨hg, Kn, hKe, hKk, hce, hcne⟩ := HOK.out (by first | rfl | trivial)
      subst hKe
      have hlk := HLL.out
      have hc1 := cut_clk hg Kn (by omega)
      have CI := hide (fun wx u uc h1 h2 => isCut_any Nn la u l (clL (cE l Kn) Nn) k Nn lc uc wx hlk (clL_len _ _) h1 h2 hk2 hN2 true true (by simp; exact hc1.1) (by simp; exact hc1))
      have CC := hide (fun wx h => clocksOfI_any Nn la l k lc wx hlk h hk2 true (by simp; exact hg) k rfl)
      have hNt : (Nn : Int).toNat = Nn := rfl
      have HCE := hide hce
      have HCNE := hide hcne
      have HG := hide hg
      have hKI : (Kn : Int) < (k : Int) := by omega
      have hK0 : (0 : Int) ≤ (Kn : Int) := by omega
      have C4' : Hid (Sl v4 ca (clL (cE l Kn) Nn)) := by rw [← hce]; exact C4
      clear hg hc1 hce C4 HOK
      have CI2 : Hid (∀ wx, Sl2 wx la l → Sl wx ca (clL (cE l Kn) Nn) → Calls Try.prog 46 #[.int .i64 Nn, .slice la k lc, .slice ca cn cc] wx fun e w' => e = .returned (.tuple #[.bool true, .bool true]) ∧ Below wx.heap.size wx w') := by
        rw [HCNE.out]
        exact hide (fun wx h1 h2 => CI.out wx ca cc h1 h2)
      clear hcne
      go_wp2_with fail
      refine (unhide CI2 _ L4.out C4'.out).mono ?_
      rintro e v5 ⟨rfl, hb⟩
      have B5 := hide (B4.out.trans (hb.mono B4.out.size))
      have L5 := hide (L4.out.below hb)
      have C5 := hide (C4'.out.below hb)
      clear hb CI2
      go_wp2_with fail
      refine (unhide CC _ L5.out).mono ?_
      rintro e v6 ⟨cv, rfl, hs, hb⟩
      rw [hNt] at hs
      have B6 := hide (B5.out.trans (hb.mono B5.out.size))
      have L6 := hide (L5.out.below hb)
      have C6 := hide (C5.out.below hb)
      obtain ⟨bs, rs, hV⟩ := hs
      obtain ⟨oa, ocap, hov⟩ := hV.form
      subst hov
      obtain ⟨oq, hoq, hcell⟩ := hV.addr (by omega)
      subst hoq
      have e1 := hcell Kn hKk
      have s1 : Sl v6 (some ⟨bs Kn, 0, none⟩) (clL (cE l Kn) Nn) := hV.sl Kn hKk
      obtain ⟨d1, hd1⟩ : ∃ d, d = bs Kn := ⟨_, rfl⟩
      obtain ⟨p1, hp1⟩ : ∃ d, d = rs Kn := ⟨_, rfl⟩
      rw [← hd1] at e1 s1
      rw [← hp1] at e1
      have R6 := hide s1
      have CS := hide (fun wx h1 h2 => sameInts_any (some ⟨d1, 0, none⟩) ca (clL (cE l Kn) Nn) Nn p1 cc wx (clL_len _ _) h1 h2 hN2)
      have CS2 : Hid (∀ wx, Sl wx (some ⟨d1, 0, none⟩) (clL (cE l Kn) Nn) → Sl wx ca (clL (cE l Kn) Nn) → Calls Try.prog 38 #[.slice (some ⟨d1, 0, none⟩) Nn p1, .slice ca cn cc] wx fun e w' => e = .returned (.bool true) ∧ Below wx.heap.size wx w') := by rw [HCNE.out]; exact CS
      clear hb hV hcell s1 hd1 hp1 B5 L5 C5 CS CC
      go_wp2_with fail
      refine (unhide CS2 _ R6.out C6.out).mono ?_
      rintro e v7 ⟨rfl, hb⟩
      have B7 := hide (B6.out.trans (hb.mono B6.out.size))
      have L7 := hide (L6.out.below hb)
      have C7 := hide (C6.out.below hb)
      clear hb B6 L6 C6 R6 CS2 e1
      go_wp2_with fail
      refine (numberOf_any a1 len1 cap1 _ (Slb.below S1.out B7.out) hl1).mono ?_
      rintro e v8 ⟨⟨q, rfl, hq0, hq1⟩, rfl⟩
      have hkp : (0 : Int) < (k : Int) := by omega
      have hmod0 : 0 ≤ q % (k : Int) := Int.emod_nonneg _ (by omega)
      have hmod1 : q % (k : Int) < (k : Int) := Int.emod_lt_of_pos _ hkp
      obtain ⟨Mn, hMn⟩ : ∃ Mn : Nat, q % (k : Int) = (Mn : Int) := ⟨(q % (k : Int)).toNat, by omega⟩
      have htm : q.tmod (k : Int) = (Mn : Int) := by rw [Int.tmod_eq_emod_of_nonneg hq0]; exact hMn
      have hMk : Mn < k := by omega
      have hkne : ((k : Int) == 0) = false := by simp; omega
      have hkne2 : ¬ (k : Int) = 0 := by omega
      obtain ⟨cr2, hcr2⟩ : ∃ cr, cr = coRes Nn l (Mn : Int) := ⟨_, rfl⟩
      have he2 : cr2 = some (clL (cE l Mn) Nn) := by rw [hcr2]; unfold coRes; rw [if_pos ⟨HG.out, by omega, by have := HLL.out; omega⟩]; rfl
      have cd := fun wx h => cutOf_any Nn la l k lc (Mn : Int) wx HLL.out h hk2 cr2 hcr2
      simp only [RetL, he2, Option.isSome_some, Option.getD_some, clL_len] at cd
      have CD := hide cd
      have htwo := two_clk HG.out Kn Mn (by have := HLL.out; omega) (by have := HLL.out; omega)
      have cj := fun wx d dc h1 h2 => joinCuts_any ca d (clL (cE l Kn) Nn) (clL (cE l Mn) Nn) Nn Nn cc dc wx (clL_len _ _) (clL_len _ _) h1 h2 hN2 hN2 _ rfl
      have hj : jcRes (clL (cE l Kn) Nn) (clL (cE l Mn) Nn) = some (clL (jn (fnL (clL (cE l Kn) Nn)) (fnL (clL (cE l Mn) Nn))) Nn) := by unfold jcRes; rw [if_pos htwo, clL_len]
      simp only [RetL, hj, Option.isSome_some, Option.getD_some, clL_len] at cj
      have hcut2 := cut_join HG.out Kn Mn (by have := HLL.out; omega) (by have := HLL.out; omega)
      obtain ⟨J, hJ⟩ : ∃ J, J = clL (jn (fnL (clL (cE l Kn) Nn)) (fnL (clL (cE l Mn) Nn))) Nn := ⟨_, rfl⟩
      have hJl : J.length = Nn := by rw [hJ, clL_len]
      rw [← hJ] at hcut2
      simp only [← hJ] at cj
      have CJ : Hid (∀ wx d dc, Sl wx ca (clL (cE l Kn) Nn) → Sl wx d (clL (cE l Mn) Nn) → Calls Try.prog 48 #[.slice ca cn cc, .slice d Nn dc] wx fun e w' => ∃ v, e = .returned (.tuple #[v, .bool true]) ∧ w'.ownsRow wx.heap.size 3 1 v Nn (J.map (Value.int .i64)) ∧ Below wx.heap.size wx w') := by rw [HCNE.out]; exact hide cj
      have CK := hide (fun wx u uc h1 h2 => isCut_any Nn la u l J k Nn lc uc wx HLL.out hJl h1 h2 hk2 hN2 true true (by simp; exact hcut2.1) (by simp; exact hcut2))
      have HMN := hide hMn
      clear cd cj hj htwo hcut2 hJ hJl he2 hcr2 hMk hmod0 hmod1
      go_wp2_with fail
      refine (unhide CD _ L7.out).mono ?_
      rintro e v9 ⟨u3, rfl, ho, hb⟩
      obtain ⟨ea, ec, rfl, heo, _⟩ := own_form ho
      have B9 := hide (B7.out.trans (hb.mono B7.out.size))
      have L9 := hide (L7.out.below hb)
      have C9 := hide (C7.out.below hb)
      have E9 := hide heo
      clear hb ho heo B7 L7 C7 CD
      go_wp2_with fail
      refine (unhide CJ _ ea ec C9.out E9.out).mono ?_
      rintro e va ⟨u4, rfl, ho, hb⟩
      obtain ⟨ja, jc, rfl, hjo, _⟩ := own_form ho
      have BA := hide (B9.out.trans (hb.mono B9.out.size))
      have LA := hide (L9.out.below hb)
      have JA := hide hjo
      clear hb ho hjo B9 L9 C9 E9 CJ
      go_wp2_with fail
      refine (unhide CK _ ja jc LA.out JA.out).mono ?_
      rintro e vb ⟨rfl, hb⟩
      have BB := hide (BA.out.trans (hb.mono BA.out.size))
      clear hb BA LA JA CK
      go_wp2_with fail
      go_meet
      exact BB.out
  case rest =>
    have B0 := hide hcut
    clear hcut HOK HCN HLL B4 L4 C4
    go_wp2_with fail
    refine (drawIsCut_any a1 len1 cap1 _ (Slb.below S1.out B0.out) hl1).mono ?_
    rintro e x1 ⟨mm, k3, k4, v, u, rfl, hmb, hk3, hk4, ho1, ho2, hb⟩
    obtain ⟨es, hel, heo⟩ := ho1
    obtain ⟨us, hul, huo⟩ := ho2
    obtain ⟨fa, fc, rfl, hfs, _⟩ := own_form2 heo
    obtain ⟨ua, uc, rfl, hus, _⟩ := own_form huo
    obtain ⟨d, hd⟩ : ∃ d : Bool, d = true ↔ CutOk mm es us := ⟨decide (CutOk mm es us), by simp⟩
    obtain ⟨t, ht⟩ : ∃ t : Bool, t = true ↔ CutOk mm es us ∧ ClS es (uI us) := ⟨decide (CutOk mm es us ∧ ClS es (uI us)), by simp⟩
    have CA := hide (fun wx h1 h2 => isCut_any mm fa ua es us k3 k4 fc uc wx hel hul h1 h2 (by omega) (by omega) d t hd ht)
    have CB := hide (fun wx h1 h2 => specIsCut_any mm fa ua es us k3 k4 fc uc wx hel hul h1 h2 (by omega) (by omega) (by omega) d t hd ht)
    have F1 := hide hfs
    have U1 := hide hus
    have C1 := hide (B0.out.trans (hb.mono B0.out.size))
    clear hb heo huo hfs hus hd ht B0
    go_wp2_with fail
    refine (unhide CA _ F1.out U1.out).mono ?_
    rintro e x2 ⟨rfl, hb⟩
    have F2 := hide (F1.out.below hb)
    have U2 := hide (U1.out.below hb)
    have C2 := hide (C1.out.trans (hb.mono C1.out.size))
    clear hb F1 U1 C1
    go_wp2_with fail
    refine (unhide CB _ F2.out U2.out).mono ?_
    rintro e x3 ⟨rfl, hb⟩
    have C3 := hide (C2.out.trans (hb.mono C2.out.size))
    clear hb F2 U2 C2 CA CB
    go_wp2_with fail
    refine (drawJoin_any a1 len1 cap1 _ (Slb.below S1.out C3.out) hl1).mono ?_
    rintro e x4 ⟨ka, kb, u1, u2, rfl, hka, hkb, ho1, ho2, hb⟩
    obtain ⟨xs, hxl, hox⟩ := ho1
    obtain ⟨ys, hyl, hoy⟩ := ho2
    obtain ⟨xa, xc, rfl, hxs, _⟩ := own_form hox
    obtain ⟨ya, yc, rfl, hys, _⟩ := own_form hoy
    obtain ⟨jr, hjr⟩ : ∃ jr, jr = jcRes xs ys := ⟨_, rfl⟩
    have ca := fun wx h1 h2 => joinCuts_any xa ya xs ys ka kb xc yc wx hxl hyl h1 h2 (by omega) (by omega) jr hjr
    have cb := fun wx h1 h2 => specJoin_any xa ya xs ys ka kb xc yc wx hxl hyl h1 h2 (by omega) (by omega) jr hjr
    obtain ⟨js, hjs⟩ : ∃ js, js = jr.getD [] := ⟨_, rfl⟩
    obtain ⟨jn, hjn⟩ : ∃ jn, jn = js.length := ⟨_, rfl⟩
    obtain ⟨jo, hjo⟩ : ∃ b, b = jr.isSome := ⟨_, rfl⟩
    simp only [RetL, ← hjs, ← hjn, ← hjo] at ca cb
    have hjn2 : jn ≤ 1048576 := by
      rw [hjn, hjs, hjr]; unfold jcRes
      split
      · simp only [Option.getD_some, clL_len]; omega
      · simp
    have CA := hide ca
    have CB := hide cb
    have HJN := hide hjn.symm
    have X4 := hide hxs
    have Y4 := hide hys
    have C4 := hide (C3.out.trans (hb.mono C3.out.size))
    clear hb hox hoy hxs hys ca cb hjs hjn hjo hjr hxl hyl C3
    go_wp2_with fail
    refine (unhide CA _ X4.out Y4.out).mono ?_
    rintro e x5 ⟨w5, rfl, ho, hb⟩
    obtain ⟨pa, pc, rfl, hpo, _⟩ := own_form ho
    have X5 := hide (X4.out.below hb)
    have Y5 := hide (Y4.out.below hb)
    have P5 := hide hpo
    have C5 := hide (C4.out.trans (hb.mono C4.out.size))
    clear hb ho hpo X4 Y4 C4
    go_wp2_with fail
    refine (unhide CB _ X5.out Y5.out).mono ?_
    rintro e x6 ⟨w6, rfl, ho, hb⟩
    obtain ⟨qa, qc, rfl, hqo, _⟩ := own_form ho
    have P6 := hide (P5.out.below hb)
    have Q6 := hide hqo
    have C6 := hide (C5.out.trans (hb.mono C5.out.size))
    clear hb ho hqo X5 Y5 P5 C5 CA CB
    have CS := hide (fun wx h1 h2 => sameInts_any pa qa js jn pc qc wx HJN.out h1 h2 hjn2)
    have hdd : (d == d) = true := by simp
    have htt : (t == t) = true := by simp
    have hjj : (jo == jo) = true := by simp
    go_wp2_with fail
    refine (unhide CS _ P6.out Q6.out).mono ?_
    rintro e x7 ⟨rfl, hb⟩
    have C7 := hide (C6.out.trans (hb.mono C6.out.size))
    clear hb
    go_wp2
    go_ret
    exact ⟨rfl, C7.out⟩
end Go.Proofs.Ytkfnejiiancmhad.fnCuts
