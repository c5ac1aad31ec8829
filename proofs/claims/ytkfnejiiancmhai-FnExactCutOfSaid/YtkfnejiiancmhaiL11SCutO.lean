/-
  Contract: spec.CutOf.
-/
import Derived.Test.YtkfnejiiancmhaiL11First
import Derived.Test.YtkfnejiiancmhaiL11CutOM
import Derived.Test.YtkfnejiiancmhaiL11At
import Derived.Test.YtkfnejiiancmhaiL11CutO
import Derived.Test.YtkfnejiiancmhaiL11SGood
import Derived.RegionTactic
import Derived.BigRegion
namespace Go.Proofs.Ytkfnejiiancmhai.L11
open Go.RowKit L1 Own L4
set_option linter.unusedVariables false

theorem below_drewT {N : Nat} {w w' : World} (h : Below N w w') : ∀ q, Below N w (w'.drewN q)
  | 0 => h
  | q + 1 => (below_drewT h q).drew
theorem grown_drewN {w w' : World} {r : Option Nat} (h : w.grownBy w' r) : ∀ q, w.grownBy (w'.drewN q) r
  | 0 => h
  | q + 1 => ⟨(grown_drewN h q).os, (grown_drewN h q).tape, (grown_drewN h q).output, (grown_drewN h q).size, (grown_drewN h q).block⟩
theorem grown_set {w w' : World} {g i : Nat} (h : w.grownBy w' (some g)) (u : Value) : w.grownBy (w'.setCell ⟨g, i, none⟩ u) (some g) :=
  ⟨h.os, h.tape, h.output, by simpa using h.size, fun k hk hne => (Below.heap_setCell w' ⟨g, i, none⟩ u k (fun e => hne (by rw [e]))).trans (h.block k hk hne)⟩
theorem grown_cell {w w' : World} {g b o : Nat} {v : Value} (h : w.grownBy w' (some g)) (hc : w.cell? ⟨b, o, none⟩ = some v) (hne : b ≠ g) : w'.cell? ⟨b, o, none⟩ = some v :=
  (World.cell?_of_block (a := ⟨b, o, none⟩) (h.block b (blk_lt hc) (by simp; exact hne))).trans hc
theorem arr_drewN {t : TypeId} {n : Nat} {w : World} {base g : Nat} {E : Nat → Int} (h : Arr t n w base g E) : ∀ q, Arr t n (w.drewN q) base g E
  | 0 => h
  | q + 1 => (arr_drewN h q).drew
/-- The greatest numbers, by places. -/
def gE (l : List Ev) (ys : List Int) (j : Nat) : Nat → Int := fun i => gx l ys j (i : Int)
theorem gE_no (l : List Ev) (ys : List Int) (j i : Nat) (x : Nat) (hx : nd l (ys.getD j 0).toNat = (x : Int)) (h : ¬ gE l ys j x < cnt l (x : Int) ((ys.getD j 0).toNat + 1)) : gE l ys j i = gE l ys (j + 1) i := by
  unfold gE
  show _ = if _ then _ else _
  rw [if_neg]
  rintro ⟨h1, h2⟩
  have e : i = x := by omega
  subst e
  exact h h2
theorem gE_yes (l : List Ev) (ys : List Int) (j i : Nat) (x : Nat) (hx : nd l (ys.getD j 0).toNat = (x : Int)) (h : gE l ys j x < cnt l (x : Int) ((ys.getD j 0).toNat + 1)) : updI (gE l ys j) x (cnt l (x : Int) ((ys.getD j 0).toNat + 1)) i = gE l ys (j + 1) i := by
  unfold updI gE
  show _ = if _ then _ else _
  by_cases e : i = x
  · subst e
    rw [if_pos rfl, if_pos ⟨hx, h⟩]
  · rw [if_neg e, if_neg (fun h2 => e (by have := h2.1; omega))]
set_option maxRecDepth 100000 in
set_option maxHeartbeats 8000000 in
theorem specCutOf_any (N : Int) (a : Option Addr) (l : List (Int × Int)) (n cap : Nat) (K : Int) (w : World) (hn : l.length = n) (hs : Sl2 w a l) (hn2 : n ≤ 1048576) (hN : N ≤ 9223372036854775807) (r : Option (List Int)) (hr : r = coRes N l K) :
    Calls Try.prog 8 #[.int .i64 N, .slice a n cap, .int .i64 K] w fun e w' => RetL w r e w' := by
  have hno : ¬ (GoodV N l ∧ 0 ≤ K ∧ K < (l.length : Int)) → r = none := fun h => by rw [hr]; unfold coRes; rw [if_neg h]
  by_cases hg : GoodV N l
  case neg =>
    have CG := hide (fun w hs => specGoodEvents_any N a l n cap w hn hs hn2 hN false (by simp [hg]))
    have HR := hide (hno (fun h => hg h.1))
    have HS := hide hs
    clear hg hr hno hs hn
    go_enter Try.func8, Try.ntmps8
    go_wp2_with fail
    refine (CG.out _ HS.out).mono ?_
    rintro e w1 ⟨rfl, hb1⟩
    have B1 := hide hb1
    clear hb1
    go_wp2
    go_ret2
    exact ⟨_, by rw [HR.out]; rfl, by rw [HR.out]; exact World.ownsRow_nil _ _ _ _, B1.out⟩
  have CG := hide (fun w hs => specGoodEvents_any N a l n cap w hn hs hn2 hN true (by simp [hg]))
  by_cases hK0 : K < 0
  case pos =>
    have HR := hide (hno (fun h => by have := h.2.1; omega))
    have HS := hide hs
    clear hg hr hno hs hn
    go_enter Try.func8, Try.ntmps8
    go_wp2_with fail
    refine (CG.out _ HS.out).mono ?_
    rintro e w1 ⟨rfl, hb1⟩
    have B1 := hide hb1
    clear hb1
    go_wp2
    go_ret2
    exact ⟨_, by rw [HR.out]; rfl, by rw [HR.out]; exact World.ownsRow_nil _ _ _ _, B1.out⟩
  by_cases hK1 : (n : Int) ≤ K
  case pos =>
    have HR := hide (hno (fun h => by have := h.2.2; omega))
    have HS := hide hs
    clear hg hr hno hs hn
    go_enter Try.func8, Try.ntmps8
    go_wp2_with fail
    refine (CG.out _ HS.out).mono ?_
    rintro e w1 ⟨rfl, hb1⟩
    have B1 := hide hb1
    clear hb1
    go_wp2
    go_ret2
    exact ⟨_, by rw [HR.out]; rfl, by rw [HR.out]; exact World.ownsRow_nil _ _ _ _, B1.out⟩
  obtain ⟨Kn, hKn⟩ : ∃ Kn : Nat, K = (Kn : Int) := ⟨K.toNat, by omega⟩
  subst hKn
  obtain ⟨Nn, hNn⟩ : ∃ Nn : Nat, N = (Nn : Int) := ⟨N.toNat, by have := hg.1; omega⟩
  subst hNn
  have hN1 : 1 ≤ Nn := by have := hg.1; omega
  have hN5 : Nn ≤ 5 := by have := hg.2.1; omega
  have h40 : n ≤ 40 := by have := hg.2.2.1; omega
  have hKl : Kn < n := by omega
  have hNI : (0 : Int) ≤ (Nn : Int) := by omega
  have HR : Hid (r = some (clL (cE l Kn) Nn)) := by rw [hr]; unfold coRes; rw [if_pos ⟨hg, by omega, by omega⟩]; rfl
  obtain ⟨lb, lo, rfl, q1, q2⟩ := hs Kn (by omega)
  clear q1 q2
  have CF := hide (fun w hs => l11First_any (Nn : Int) lb lo l n cap Kn w hn hs hKl hg)
  have CA := hide (fun w hs => l11At_any Nn (some ⟨lb, lo, none⟩) l n cap w hn hs hg)
  obtain ⟨i1, hi1, hy0, hy1, hy2⟩ := info_parts info_int
  have HG := hide hg
  have HS := hide hs
  have HN := hide hn
  clear hg hr hno hs hn
  go_enter Try.func8, Try.ntmps8
  go_wp2_with fail
  refine (CG.out _ HS.out).mono ?_
  rintro e w1 ⟨rfl, hb1⟩
  have B1 := hide hb1
  clear hb1
  obtain ⟨wm, hmk, hown1, hg1⟩ := run_make_full (P := Try.prog) w1 w1.heap.size 24 3 i1 (.int .i64 0) 1 Try.underlying24 hi1 hy0 hy1 .i64 .i64 Nn (by rw [hy2]; omega) (by unfold maxLen; omega) (Nat.le_refl _)
  rw [made_lA] at hown1
  have hbm : Below w1.heap.size w1 wm := (Below.refl _ _).grown hg1 (Nat.le_refl _) (fun k hk => by cases hk)
  have A0 : Hid (Arr 3 Nn wm w.heap.size w1.heap.size (fun _ => 0)) := hide (own_baseT hown1 B1.out.size)
  have BM := hide (B1.out.trans (hbm.mono B1.out.size))
  have HGW := hide B1.out.size
  clear hown1 hg1 hbm CG
  go_upto_region 4 with fail
  obtain ⟨g, hge⟩ : ∃ g, g = w1.heap.size := ⟨_, rfl⟩
  rw [← hge] at A0 HGW ⊢
  clear hmk hge B1
  go_wp2_with fail
  refine (CA.out _ (HS.out.below BM.out)).mono ?_
  rintro e w2 ⟨va, rfl, hoa, hb2⟩
  have A2 := hide (A0.out.below hb2)
  have B2 := hide (BM.out.trans (hb2.mono BM.out.size))
  obtain ⟨aa, acap, rfl, hsa, hq8⟩ := own_form hoa
  clear hq8
  have HSA := hide hsa
  have HAG : Hid (∀ x : Addr, aa = some x → x.block ≠ g ∧ x.block < w2.heap.size) := hide (fun x hx => by
    have h1 := hoa.lt x.block (by rw [hx]; rfl)
    have h2 := A0.out.lt
    omega)
  clear hoa hb2 hsa A0 BM CA
  go_wp2_with fail
  refine (CF.out _ (HS.out.below B2.out)).mono ?_
  rintro e w3 ⟨vf, rfl, xs, hof, hmem, hpos, hl40, hb3⟩
  have A3 := hide (A2.out.below hb3)
  have h23 := hb3.size
  have hg2 := A2.out.lt
  have hof2 : ∀ q, vf.ownBlock = some q → w2.heap.size ≤ q := fun q hq => (hof.lt q hq).1
  have HOFG := hide hof2
  have B3 := hide (B2.out.trans (hb3.mono B2.out.size))
  have HSA3 := hide (HSA.out.below hb3)
  have hfg : ∀ q, vf.ownBlock = some q → g < q := fun q hq => by
    have h1 := (hof.lt q hq).1
    have h2 := A2.out.lt
    omega
  have HFG := hide hfg
  have HOF := hide hof
  have HCLK := hide (gx_clk l xs Kn hmem hpos)
  have hys : ∀ i, i < (xs ++ [(Kn : Int)]).length → ((xs ++ [(Kn : Int)]).getD i 0).toNat < n ∧ 0 ≤ (xs ++ [(Kn : Int)]).getD i 0 := fun i hi => by
    by_cases h : i < xs.length
    · have e : (xs ++ [(Kn : Int)]).getD i 0 = xs.getD i 0 := by simp [List.getD, List.getElem?_append_left h]
      rw [e]
      have hm2 : xs.getD i 0 ∈ xs := by simp only [List.getD, List.getElem?_eq_getElem h, Option.getD_some]; exact List.getElem_mem h
      obtain ⟨p, e2, ha⟩ := hpos _ hm2
      have := ha.lt
      omega
    · have hi2 : i = xs.length := by simp at hi; omega
      subst hi2
      have e : (xs ++ [(Kn : Int)]).getD xs.length 0 = (Kn : Int) := by simp [List.getD]
      rw [e]
      omega
  have HYS := hide hys
  obtain ⟨fa, fcap, hvf, hq9⟩ := ownL_form hof
  clear hq9
  subst hvf
  have hsz3 := B3.out.size
  clear hb3 hof hmem hpos hfg hys hof2 A2 B2 HSA CF
  obtain ⟨xn, hxn⟩ : ∃ xn, xn = xs.length := ⟨_, rfl⟩
  have HXN := hide hxn
  have HOF2 : Hid (w3.ownsRow w2.heap.size 3 1 (.slice fa xn fcap) xn (xs.map (Value.int .i64))) := by rw [hxn]; exact HOF
  rw [← hxn] at hl40 HFG HCLK HOFG ⊢
  clear hxn HOF
  go_wp2_with (first
    | (at_builtin; refine wpList_append_own_at _ rfl _ _ 24 rfl w2.heap.size 3 i1 (.int .i64 0) 1 8 Try.underlying24 hi1 hy0 hy1 hy2 rfl (by decide) _ _ _ rfl (HOF2.out.alloc _) ⟨w3.heap.size, 0, none⟩ 1 1 [.int .i64 (Kn : Int)] rfl rfl (cell_oneA _ _ rfl _ _) (by intro u hu; simp at hu; subst hu; rfl) (by unfold maxLen; omega) (by omega) (by simp; omega) ?_)
    | go_in)
  intro v5 w5 hown5 hgrow5 _ hat5
  have hal : Below w3.heap.size w3 (w3.alloc (.cells #[.int .i64 (Kn : Int)] 3)) := (Below.refl _ _).alloc (Nat.le_refl _) _
  have A5 : Hid (Arr 3 Nn w5 w.heap.size g (gE l (xs ++ [(Kn : Int)]) 0)) := hide (arr_grownA (A3.out.below hal) hgrow5 (fun e => by have := HFG.out g e; omega))
  have B5 : Hid (Below w.heap.size w w5) := hide ((B3.out.trans (hal.mono B3.out.size)).grown hgrow5 (by simp; omega) (fun q hq => by have h1 := HFG.out q hq; have h2 := HGW.out; omega))
  have HSA5 : Hid (Sl w5 aa (atL l n)) := hide (fun i hi => by
    obtain ⟨ab, ao, ha, hc⟩ := (HSA3.out.below hal) i hi
    refine ⟨ab, ao, ha, (World.cell?_of_block (a := ⟨ab, ao + i, none⟩) (hgrow5.block ab (blk_lt hc) (fun e => ?_))).trans hc⟩
    have h1 := (HAG.out ⟨ab, ao, none⟩ ha).2
    have h2 := HOFG.out ab e.symm
    simp only at h1
    omega)
  obtain ⟨ys, hyse⟩ : ∃ ys, ys = xs ++ [(Kn : Int)] := ⟨_, rfl⟩
  have hyl : ys.length = xn + 1 := by rw [hyse, List.length_append, HXN.out]; rfl
  have hown6 : w5.ownsRow w2.heap.size 3 1 v5 (xn + 1) (ys.map (Value.int .i64)) := by
    rw [hyse]
    simpa using hown5
  rw [← hyse] at A5 HYS HCLK
  have HYL := hide hyl
  obtain ⟨ya, ycap, hv5, hsy, hq7⟩ := own_form hown6
  clear hq7
  subst hv5
  have HYG : Hid (∀ x : Addr, ya = some x → x.block ≠ g) := hide (fun x hx => by
    have h1 := (hown6.lt x.block (by rw [hx]; rfl)).1
    omega)
  have HSY := hide hsy
  have HSL5 := hide (HS.out.below B5.out)
  have HLG : Hid (lb ≠ g) := hide (by
    obtain ⟨_, _, e, hc, _⟩ := HS.out Kn (by rw [HN.out]; exact hKl)
    simp only [Option.some.injEq, Addr.mk.injEq, and_true] at e
    have h1 := blk_lt hc
    have h2 := HGW.out
    omega)
  clear hown5 hgrow5 hat5 hal hyse hyl hown6 hsy A3 B3 HSA3 HOF2 HFG HOFG HXN hsz3 h23 hg2 xs
  go_wp2
  go_loopw [38] (fun i wr => ∃ j : Nat, j ≤ xn + 1 ∧ i = .int .i64 j ∧ Hid (Arr 3 Nn wr w.heap.size g (gE l ys j)) ∧ Hid (w5.grownBy wr (some g))) (fun i _ => xn + 1 - (intOf i).toNat)
  case atStart => exact ⟨0, by omega, rfl, A5, World.grownBy.refl _ _⟩
  case round =>
    obtain ⟨j, hj, rfl, HA, HW⟩ := hrel
    by_cases hlt : j < xn + 1
    · obtain ⟨hz1, hz0⟩ := HYS.out j (by rw [HYL.out]; exact hlt)
      obtain ⟨yb, yo, hye, hcy0⟩ := HSY.out j (by rw [HYL.out]; exact hlt)
      have hcy := grown_cell HW.out hcy0 (HYG.out ⟨yb, yo, none⟩ hye)
      subst hye
      obtain ⟨z, hz⟩ : ∃ z : Nat, ys.getD j 0 = (z : Int) := ⟨(ys.getD j 0).toNat, by omega⟩
      rw [hz] at hcy hz1
      have hzn : z < n := hz1
      have hv := HG.out.2.2.2 z (by rw [HN.out]; exact hzn)
      obtain ⟨x, hx⟩ : ∃ x : Nat, nd l z = (x : Int) := ⟨(nd l z).toNat, by have := hv.1; omega⟩
      have hxN : x < Nn := by have := hv.2.1; omega
      have hcl0 := (HSL5.out.two z (by rw [HN.out]; exact hzn)).1
      rw [hx] at hcl0
      have hcl := grown_cell HW.out hcl0 HLG.out
      obtain ⟨ab, ao, hae, hca0⟩ := HSA5.out z (by rw [atL_len]; exact hzn)
      have hca := grown_cell HW.out hca0 (HAG.out ⟨ab, ao, none⟩ hae).1
      subst hae
      rw [atL_get l n z hzn, hx] at hca
      have hco := HA.out.cell x hxN
      have hcf := HA.out.frozenAt x
      have hzt : (ys.getD j 0).toNat = z := by rw [hz]; rfl
      have hnx : nd l (ys.getD j 0).toNat = (x : Int) := by rw [hzt]; exact hx
      obtain ⟨av, hav⟩ : ∃ av, av = cnt l (x : Int) (z + 1) := ⟨_, rfl⟩
      obtain ⟨ov, hov⟩ : ∃ ov, ov = gE l ys j x := ⟨_, rfl⟩
      rw [← hav] at hca
      rw [← hov] at hco
      have hltI : (j : Int) < ((xn + 1 : Nat) : Int) := by omega
      have hj0 : (0 : Int) ≤ (j : Int) := by omega
      have hzI : (z : Int) < (n : Int) := by omega
      have hzI0 : (0 : Int) ≤ (z : Int) := by omega
      have hxI : (x : Int) < (Nn : Int) := by omega
      have hxI0 : (0 : Int) ≤ (x : Int) := by omega
      by_cases hgt : ov < av
      · have HAY : Hid (Arr 3 Nn (wr.setCell ⟨g, x, none⟩ (.int .i64 av)) w.heap.size g (gE l ys (j + 1))) := hide ((HA.out.set x av).congr (fun i _ => by
          have h1 := gE_yes l ys j i x hnx (by rw [hzt, ← hav, ← hov]; exact hgt)
          rw [hzt, ← hav] at h1
          exact h1))
        have HWY : Hid (w5.grownBy (wr.setCell ⟨g, x, none⟩ (.int .i64 av)) (some g)) := hide (grown_set HW.out _)
        clear hz hz1 hz0 hcy0 hcl0 hca0 hv hx hnx hzt hav hov HA HW
        go_wp2
        go_quiet (fail)
        go_wp2
        go_region
        go_wp2
        go_roundw
        case rel => exact ⟨j + 1, by omega, by go_num, by first | exact HAY.out | exact HAY.out.drew | exact arr_drewN HAY.out _ | exact (arr_drewN HAY.out _).drew, by first | exact HWY.out | exact grown_drewN HWY.out _ | exact grown_drewN HWY.out 1⟩
        case measure => simp [intOf]; omega
      · have HAN : Hid (Arr 3 Nn wr w.heap.size g (gE l ys (j + 1))) := hide (HA.out.congr (fun i _ => gE_no l ys j i x hnx (by rw [hzt, ← hav, ← hov]; exact hgt)))
        clear hz hz1 hz0 hcy0 hcl0 hca0 hv hx hnx hzt hav hov HA
        go_wp2
        go_quiet (fail)
        go_wp2
        go_roundw
        case rel => exact ⟨j + 1, by omega, by go_num, arr_drewN HAN.out _, grown_drewN HW.out _⟩
        case measure => simp [intOf]; omega
    · obtain rfl : j = xn + 1 := by omega
      have hltI : ¬ ((xn + 1 : Nat) : Int) < ((xn + 1 : Nat) : Int) := by omega
      have HO9 : Hid (wr.ownsRow w.heap.size 3 1 (.slice (some ⟨g, 0, none⟩) Nn Nn) Nn ((clL (cE l Kn) Nn).map (Value.int .i64))) := hide (by
        rw [clL_lA]
        exact HA.out.congr (fun i _ => HCLK.out (i : Int)))
      have B9 : Hid (Below w.heap.size w wr) := hide (B5.out.grown HW.out B5.out.size (fun q hq => by cases hq; exact HGW.out))
      clear HA HW
      go_wp2
      go_ret2
      exact ⟨_, by rw [HR.out]; rfl, by rw [HR.out]; simp only [Option.getD_some, clL_len]; exact HO9.out, B9.out⟩
end Go.Proofs.Ytkfnejiiancmhai.L11
