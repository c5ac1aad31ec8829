/-
  Lists that may be clocks. Nothing of the program's text is proved here.
  Contract: impl.CutOf.
  Contract: spec.CutOf.
  Contract: spec.l11Most, the greater numbers of two lists.
  Contract: spec.l1All.
  Contract: spec.l11Clock.
  Contracts: impl.JoinCuts, spec.JoinCuts.
  Lists of lists of ints in memory, each list in a block of its own. Nothing of the program's text is proved here but closed facts on its types.
-/
import Derived.Test.YtkfnejiiancmhadBundle2
import Derived.Test.YtkfnejiiancmhadBundle4
import Derived.Test.YtkfnejiiancmhadBundle3
import Derived.RegionTactic
import Derived.BigRegion
import Derived.Test.YtkfnejiiancmhadBundle1
import Derived.Maps.AppendAt
namespace Go.Proofs.Ytkfnejiiancmhad.L11
open Go.RowKit L1 Own
set_option linter.unusedVariables false

theorem own_baseJ {w : World} {b c n size : Nat} {e : TypeId} {v : Value} {xs : List Value} (h : w.ownsRow c e size v n xs) (hbc : b ≤ c) : w.ownsRow b e size v n xs := by
  refine ⟨h.1, ?_⟩
  rcases h.2 with h0 | ⟨g, cap, cur, hv, hg, r⟩
  · exact .inl h0
  · exact .inr ⟨g, cap, cur, hv, Nat.le_trans hbc hg, r⟩
/-- One clock is less than another. -/
def LsC (l m : List Int) : Prop := (∀ i, i < 5 → fnL l i ≤ fnL m i) ∧ ¬ ∀ i, i < 5 → fnL l i = fnL m i
/-- Two lists that may be clocks of the same nodes. -/
def TwoC (l m : List Int) : Prop := (OkC l ∧ OkC m) ∧ l.length = m.length
end Go.Proofs.Ytkfnejiiancmhad.L11

namespace Go.Proofs.Ytkfnejiiancmhad.L11
open Go.RowKit L1 Own
set_option linter.unusedVariables false

open Classical in
/-- What CutOf tells. -/
noncomputable def coRes (N : Int) (l : List Ev) (K : Int) : Option (List Int) := if GoodV N l ∧ 0 ≤ K ∧ K < (l.length : Int) then some (clL (cE l K.toNat) N.toNat) else none
set_option maxRecDepth 100000 in
set_option maxHeartbeats 4000000 in
theorem cutOf_any (N : Int) (a : Option Addr) (l : List (Int × Int)) (n cap : Nat) (K : Int) (w : World) (hn : l.length = n) (hs : Sl2 w a l) (hn2 : n ≤ 1048576) (r : Option (List Int)) (hr : r = coRes N l K) :
    Calls Try.prog 44 #[.int .i64 N, .slice a n cap, .int .i64 K] w fun e w' => RetL w r e w' := by
  have hno : ¬ (GoodV N l ∧ 0 ≤ K ∧ K < (l.length : Int)) → r = none := fun h => by rw [hr]; unfold coRes; rw [if_neg h]
  by_cases hg : GoodV N l
  case neg =>
    have CG := hide (fun w hs => goodEvents_any N a l n cap w hn hs hn2 false (by simp [hg]))
    have HR := hide (hno (fun h => hg h.1))
    have HS := hide hs
    clear hg hr hno hs hn
    go_enter Try.func44, Try.ntmps44
    go_wp2_with fail
    refine (CG.out _ HS.out).mono ?_
    rintro e w1 ⟨rfl, hb1⟩
    have B1 := hide hb1
    clear hb1
    go_wp2
    go_ret2
    exact ⟨_, by rw [HR.out]; rfl, by rw [HR.out]; exact World.ownsRow_nil _ _ _ _, B1.out⟩
  have CG := hide (fun w hs => goodEvents_any N a l n cap w hn hs hn2 true (by simp [hg]))
  by_cases hK : 0 ≤ K ∧ K < (n : Int)
  case neg =>
    have CA := hide (fun w => isBelow_any K (n : Int) w false (by simp; omega))
    have HR := hide (hno (fun h => hK (by rw [← hn]; exact h.2)))
    have HS := hide hs
    clear hg hr hno hs hn hK
    go_enter Try.func44, Try.ntmps44
    go_wp2_with fail
    refine (CG.out _ HS.out).mono ?_
    rintro e w1 ⟨rfl, hb1⟩
    have B1 := hide hb1
    clear hb1
    go_wp2_with fail
    refine (CA.out _).mono ?_
    rintro e w2 ⟨rfl, rfl⟩
    go_wp2
    go_ret2
    exact ⟨_, by rw [HR.out]; rfl, by rw [HR.out]; exact World.ownsRow_nil _ _ _ _, B1.out⟩
  have CA := hide (fun w => isBelow_any K (n : Int) w true (by simp; omega))
  obtain ⟨Kn, hKn⟩ : ∃ Kn : Nat, K = (Kn : Int) := ⟨K.toNat, by omega⟩
  subst hKn
  obtain ⟨Nn, hNn⟩ : ∃ Nn : Nat, N = (Nn : Int) := ⟨N.toNat, by have := hg.1; omega⟩
  subst hNn
  have hKl : Kn < n := by omega
  have HR : Hid (r = some (clL (cE l Kn) Nn)) := by rw [hr]; unfold coRes; rw [if_pos ⟨hg, by omega, by omega⟩]; rfl
  have CC := hide (fun w hs => clocksOf_any (Nn : Int) a l n cap w hn hs hg)
  have CL := hide (clockList_any (cE l Kn) Nn (by have := hg.1; omega) (by have := hg.2.1; omega))
  have HS := hide hs
  have hKI : (Kn : Int) < (n : Int) := by omega
  have hK0 : (0 : Int) ≤ (Kn : Int) := by omega
  clear hg hr hno hs hn hK
  go_enter Try.func44, Try.ntmps44
  go_wp2_with fail
  refine (CG.out _ HS.out).mono ?_
  rintro e w1 ⟨rfl, hb1⟩
  have B1 := hide hb1
  clear hb1
  go_wp2_with fail
  refine (CA.out _).mono ?_
  rintro e w2 ⟨rfl, rfl⟩
  go_wp2_with fail
  refine (CC.out _ (HS.out.below B1.out)).mono ?_
  rintro e w3 ⟨v, rfl, ho, hb3⟩
  have B3 := hide (B1.out.trans (hb3.mono B1.out.size))
  obtain ⟨oq, ocap, rfl⟩ : ∃ oq ocap, v = .slice (some ⟨oq, 0, none⟩) n ocap := by
    rcases ho.2 with ⟨hv, h0⟩ | ⟨q, cap, cur, hv, _⟩
    · omega
    · exact ⟨q, cap, hv⟩
  have p0 := ho.cells (g := oq) rfl (Kn * 5 + 0) _ (flat5_get (cE l) n Kn 0 hKl (by omega))
  have p1 := ho.cells (g := oq) rfl (Kn * 5 + 1) _ (flat5_get (cE l) n Kn 1 hKl (by omega))
  have p2 := ho.cells (g := oq) rfl (Kn * 5 + 2) _ (flat5_get (cE l) n Kn 2 hKl (by omega))
  have p3 := ho.cells (g := oq) rfl (Kn * 5 + 3) _ (flat5_get (cE l) n Kn 3 hKl (by omega))
  have p4 := ho.cells (g := oq) rfl (Kn * 5 + 4) _ (flat5_get (cE l) n Kn 4 hKl (by omega))
  rw [addr_add] at p0 p1 p2 p3 p4
  simp only [Nat.add_zero] at p0 p1 p2 p3 p4
  obtain ⟨E, hE⟩ : ∃ E : Nat → Int, E = cE l Kn := ⟨_, rfl⟩
  rw [← hE] at p0 p1 p2 p3 p4 CL HR
  clear ho hb3 hE CC CA CG B1
  go_wp2_with fail
  refine (CL.out _).mono ?_
  rintro e w4 ⟨v4, rfl, ho4, hb4⟩
  have B4 := hide (B3.out.trans (hb4.mono B3.out.size))
  have HO := hide (own_baseT ho4 B3.out.size)
  clear ho4 hb4
  go_wp2
  go_ret2
  exact ⟨_, by rw [HR.out]; rfl, by rw [HR.out]; simp only [Option.getD_some, clL_len]; exact HO.out, B4.out⟩
end Go.Proofs.Ytkfnejiiancmhad.L11

namespace Go.Proofs.Ytkfnejiiancmhad.L11
open Go.RowKit L1 Own L4
set_option linter.unusedVariables false

theorem below_drewT {N : Nat} {w w' : World} (h : Below N w w') : ∀ q, Below N w (w'.drewN q)
  | 0 => h
  | q + 1 => (below_drewT h q).drew
theorem grown_drewN {w w' : World} {r : Option Nat} (h : w.grownBy w' r) : ∀ q, w.grownBy (w'.drewN q) r
  | 0 => h
  | q + 1 => ⟨(grown_drewN h q).os, (grown_drewN h q).tape, (grown_drewN h q).output, (grown_drewN h q).size, (grown_drewN h q).block⟩
theorem grown_set {w w' : World} {g i : Nat} (h : w.grownBy w' (some g)) (u : Value) : w.grownBy (w'.setCell ⟨g, i, none⟩ u) (some g) :=
  ⟨h.os, h.tape, h.output, by simpa using h.size, fun k hk hne => (Below.heap_setCell w' ⟨g, i, none⟩ u k (fun e => hne (by rw [e]))).trans (h.block k hk hne)⟩
theorem grown_cell {w w' : World} {g b o : Nat} {v : Value} (h : w.grownBy w' (some g)) (hc : w.cell? ⟨b, o, none⟩ = some v) (hne : b ≠ g) : w'.cell? ⟨b, o, none⟩ = some v :=
  (World.cell?_of_block (a := ⟨b, o, none⟩) (h.block b (blk_lt hc) (by simp; exact hne))).trans hc
theorem arr_drewN {t : TypeId} {n : Nat} {w : World} {base g : Nat} {E : Nat → Int} (h : Arr t n w base g E) : ∀ q, Arr t n (w.drewN q) base g E
  | 0 => h
  | q + 1 => (arr_drewN h q).drew
/-- The greatest numbers, by places. -/
def gE (l : List Ev) (ys : List Int) (j : Nat) : Nat → Int := fun i => gx l ys j (i : Int)
theorem gE_no (l : List Ev) (ys : List Int) (j i : Nat) (x : Nat) (hx : nd l (ys.getD j 0).toNat = (x : Int)) (h : ¬ gE l ys j x < cnt l (x : Int) ((ys.getD j 0).toNat + 1)) : gE l ys j i = gE l ys (j + 1) i := by
  unfold gE
  show _ = if _ then _ else _
  rw [if_neg]
  rintro ⟨h1, h2⟩
  have e : i = x := by omega
  subst e
  exact h h2
theorem gE_yes (l : List Ev) (ys : List Int) (j i : Nat) (x : Nat) (hx : nd l (ys.getD j 0).toNat = (x : Int)) (h : gE l ys j x < cnt l (x : Int) ((ys.getD j 0).toNat + 1)) : updI (gE l ys j) x (cnt l (x : Int) ((ys.getD j 0).toNat + 1)) i = gE l ys (j + 1) i := by
  unfold updI gE
  show _ = if _ then _ else _
  by_cases e : i = x
  · subst e
    rw [if_pos rfl, if_pos ⟨hx, h⟩]
  · rw [if_neg e, if_neg (fun h2 => e (by have := h2.1; omega))]
set_option maxRecDepth 100000 in
set_option maxHeartbeats 8000000 in
theorem specCutOf_any (N : Int) (a : Option Addr) (l : List (Int × Int)) (n cap : Nat) (K : Int) (w : World) (hn : l.length = n) (hs : Sl2 w a l) (hn2 : n ≤ 1048576) (hN : N ≤ 9223372036854775807) (r : Option (List Int)) (hr : r = coRes N l K) :
    Calls Try.prog 45 #[.int .i64 N, .slice a n cap, .int .i64 K] w fun e w' => RetL w r e w' := by
  have hno : ¬ (GoodV N l ∧ 0 ≤ K ∧ K < (l.length : Int)) → r = none := fun h => by rw [hr]; unfold coRes; rw [if_neg h]
  by_cases hg : GoodV N l
  case neg =>
    have CG := hide (fun w hs => specGoodEvents_any N a l n cap w hn hs hn2 hN false (by simp [hg]))
    have HR := hide (hno (fun h => hg h.1))
    have HS := hide hs
    clear hg hr hno hs hn
    go_enter Try.func45, Try.ntmps45
    go_wp2_with fail
    refine (CG.out _ HS.out).mono ?_
    rintro e w1 ⟨rfl, hb1⟩
    have B1 := hide hb1
    clear hb1
    go_wp2
    go_ret2
    exact ⟨_, by rw [HR.out]; rfl, by rw [HR.out]; exact World.ownsRow_nil _ _ _ _, B1.out⟩
  have CG := hide (fun w hs => specGoodEvents_any N a l n cap w hn hs hn2 hN true (by simp [hg]))
  by_cases hK0 : K < 0
  case pos =>
    have HR := hide (hno (fun h => by have := h.2.1; omega))
    have HS := hide hs
    clear hg hr hno hs hn
    go_enter Try.func45, Try.ntmps45
    go_wp2_with fail
    refine (CG.out _ HS.out).mono ?_
    rintro e w1 ⟨rfl, hb1⟩
    have B1 := hide hb1
    clear hb1
    go_wp2
    go_ret2
    exact ⟨_, by rw [HR.out]; rfl, by rw [HR.out]; exact World.ownsRow_nil _ _ _ _, B1.out⟩
  by_cases hK1 : (n : Int) ≤ K
  case pos =>
    have HR := hide (hno (fun h => by have := h.2.2; omega))
    have HS := hide hs
    clear hg hr hno hs hn
    go_enter Try.func45, Try.ntmps45
    go_wp2_with fail
    refine (CG.out _ HS.out).mono ?_
    rintro e w1 ⟨rfl, hb1⟩
    have B1 := hide hb1
    clear hb1
    go_wp2
    go_ret2
    exact ⟨_, by rw [HR.out]; rfl, by rw [HR.out]; exact World.ownsRow_nil _ _ _ _, B1.out⟩
  obtain ⟨Kn, hKn⟩ : ∃ Kn : Nat, K = (Kn : Int) := ⟨K.toNat, by omega⟩
  subst hKn
  obtain ⟨Nn, hNn⟩ : ∃ Nn : Nat, N = (Nn : Int) := ⟨N.toNat, by have := hg.1; omega⟩
  subst hNn
  have hN1 : 1 ≤ Nn := by have := hg.1; omega
  have hN5 : Nn ≤ 5 := by have := hg.2.1; omega
  have h40 : n ≤ 40 := by have := hg.2.2.1; omega
  have hKl : Kn < n := by omega
  have hNI : (0 : Int) ≤ (Nn : Int) := by omega
  have HR : Hid (r = some (clL (cE l Kn) Nn)) := by rw [hr]; unfold coRes; rw [if_pos ⟨hg, by omega, by omega⟩]; rfl
  obtain ⟨lb, lo, rfl, q1, q2⟩ := hs Kn (by omega)
  clear q1 q2
  have CF := hide (fun w hs => l11First_any (Nn : Int) lb lo l n cap Kn w hn hs hKl hg)
  have CA := hide (fun w hs => l11At_any Nn (some ⟨lb, lo, none⟩) l n cap w hn hs hg)
  obtain ⟨i1, hi1, hy0, hy1, hy2⟩ := info_parts info_int
  have HG := hide hg
  have HS := hide hs
  have HN := hide hn
  clear hg hr hno hs hn
  go_enter Try.func45, Try.ntmps45
  go_wp2_with fail
  refine (CG.out _ HS.out).mono ?_
  rintro e w1 ⟨rfl, hb1⟩
  have B1 := hide hb1
  clear hb1
  obtain ⟨wm, hmk, hown1, hg1⟩ := run_make_full (P := Try.prog) w1 w1.heap.size 27 3 i1 (.int .i64 0) 1 Try.underlying27 hi1 hy0 hy1 .i64 .i64 Nn (by rw [hy2]; omega) (by unfold maxLen; omega) (Nat.le_refl _)
  rw [made_lA] at hown1
  have hbm : Below w1.heap.size w1 wm := (Below.refl _ _).grown hg1 (Nat.le_refl _) (fun k hk => by cases hk)
  have A0 : Hid (Arr 3 Nn wm w.heap.size w1.heap.size (fun _ => 0)) := hide (own_baseT hown1 B1.out.size)
  have BM := hide (B1.out.trans (hbm.mono B1.out.size))
  have HGW := hide B1.out.size
  clear hown1 hg1 hbm CG
  go_upto_region 4 with fail
  obtain ⟨g, hge⟩ : ∃ g, g = w1.heap.size := ⟨_, rfl⟩
  rw [← hge] at A0 HGW ⊢
  clear hmk hge B1
  go_wp2_with fail
  refine (CA.out _ (HS.out.below BM.out)).mono ?_
  rintro e w2 ⟨va, rfl, hoa, hb2⟩
  have A2 := hide (A0.out.below hb2)
  have B2 := hide (BM.out.trans (hb2.mono BM.out.size))
  obtain ⟨aa, acap, rfl, hsa, hq8⟩ := own_form hoa
  clear hq8
  have HSA := hide hsa
  have HAG : Hid (∀ x : Addr, aa = some x → x.block ≠ g ∧ x.block < w2.heap.size) := hide (fun x hx => by
    have h1 := hoa.lt x.block (by rw [hx]; rfl)
    have h2 := A0.out.lt
    omega)
  clear hoa hb2 hsa A0 BM CA
  go_wp2_with fail
  refine (CF.out _ (HS.out.below B2.out)).mono ?_
  rintro e w3 ⟨vf, rfl, xs, hof, hmem, hpos, hl40, hb3⟩
  have A3 := hide (A2.out.below hb3)
  have h23 := hb3.size
  have hg2 := A2.out.lt
  have hof2 : ∀ q, vf.ownBlock = some q → w2.heap.size ≤ q := fun q hq => (hof.lt q hq).1
  have HOFG := hide hof2
  have B3 := hide (B2.out.trans (hb3.mono B2.out.size))
  have HSA3 := hide (HSA.out.below hb3)
  have hfg : ∀ q, vf.ownBlock = some q → g < q := fun q hq => by
    have h1 := (hof.lt q hq).1
    have h2 := A2.out.lt
    omega
  have HFG := hide hfg
  have HOF := hide hof
  have HCLK := hide (gx_clk l xs Kn hmem hpos)
  have hys : ∀ i, i < (xs ++ [(Kn : Int)]).length → ((xs ++ [(Kn : Int)]).getD i 0).toNat < n ∧ 0 ≤ (xs ++ [(Kn : Int)]).getD i 0 := fun i hi => by
    by_cases h : i < xs.length
    · have e : (xs ++ [(Kn : Int)]).getD i 0 = xs.getD i 0 := by simp [List.getD, List.getElem?_append_left h]
      rw [e]
      have hm2 : xs.getD i 0 ∈ xs := by simp only [List.getD, List.getElem?_eq_getElem h, Option.getD_some]; exact List.getElem_mem h
      obtain ⟨p, e2, ha⟩ := hpos _ hm2
      have := ha.lt
      omega
    · have hi2 : i = xs.length := by simp at hi; omega
      subst hi2
      have e : (xs ++ [(Kn : Int)]).getD xs.length 0 = (Kn : Int) := by simp [List.getD]
      rw [e]
      omega
  have HYS := hide hys
  obtain ⟨fa, fcap, hvf, hq9⟩ := ownL_form hof
  clear hq9
  subst hvf
  have hsz3 := B3.out.size
  clear hb3 hof hmem hpos hfg hys hof2 A2 B2 HSA CF
  obtain ⟨xn, hxn⟩ : ∃ xn, xn = xs.length := ⟨_, rfl⟩
  have HXN := hide hxn
  have HOF2 : Hid (w3.ownsRow w2.heap.size 3 1 (.slice fa xn fcap) xn (xs.map (Value.int .i64))) := by rw [hxn]; exact HOF
  rw [← hxn] at hl40 HFG HCLK HOFG ⊢
  clear hxn HOF
  go_wp2_with (first
    | (at_builtin; refine wpList_append_own_at _ rfl _ _ 27 rfl w2.heap.size 3 i1 (.int .i64 0) 1 8 Try.underlying27 hi1 hy0 hy1 hy2 rfl (by decide) _ _ _ rfl (HOF2.out.alloc _) ⟨w3.heap.size, 0, none⟩ 1 1 [.int .i64 (Kn : Int)] rfl rfl (cell_oneA _ _ rfl _ _) (by intro u hu; simp at hu; subst hu; rfl) (by unfold maxLen; omega) (by omega) (by simp; omega) ?_)
    | go_in)
  intro v5 w5 hown5 hgrow5 _ hat5
  have hal : Below w3.heap.size w3 (w3.alloc (.cells #[.int .i64 (Kn : Int)] 3)) := (Below.refl _ _).alloc (Nat.le_refl _) _
  have A5 : Hid (Arr 3 Nn w5 w.heap.size g (gE l (xs ++ [(Kn : Int)]) 0)) := hide (arr_grownA (A3.out.below hal) hgrow5 (fun e => by have := HFG.out g e; omega))
  have B5 : Hid (Below w.heap.size w w5) := hide ((B3.out.trans (hal.mono B3.out.size)).grown hgrow5 (by simp; omega) (fun q hq => by have h1 := HFG.out q hq; have h2 := HGW.out; omega))
  have HSA5 : Hid (Sl w5 aa (atL l n)) := hide (fun i hi => by
    obtain ⟨ab, ao, ha, hc⟩ := (HSA3.out.below hal) i hi
    refine ⟨ab, ao, ha, (World.cell?_of_block (a := ⟨ab, ao + i, none⟩) (hgrow5.block ab (blk_lt hc) (fun e => ?_))).trans hc⟩
    have h1 := (HAG.out ⟨ab, ao, none⟩ ha).2
    have h2 := HOFG.out ab e.symm
    simp only at h1
    omega)
  obtain ⟨ys, hyse⟩ : ∃ ys, ys = xs ++ [(Kn : Int)] := ⟨_, rfl⟩
  have hyl : ys.length = xn + 1 := by rw [hyse, List.length_append, HXN.out]; rfl
  have hown6 : w5.ownsRow w2.heap.size 3 1 v5 (xn + 1) (ys.map (Value.int .i64)) := by
    rw [hyse]
    simpa using hown5
  rw [← hyse] at A5 HYS HCLK
  have HYL := hide hyl
  obtain ⟨ya, ycap, hv5, hsy, hq7⟩ := own_form hown6
  clear hq7
  subst hv5
  have HYG : Hid (∀ x : Addr, ya = some x → x.block ≠ g) := hide (fun x hx => by
    have h1 := (hown6.lt x.block (by rw [hx]; rfl)).1
    omega)
  have HSY := hide hsy
  have HSL5 := hide (HS.out.below B5.out)
  have HLG : Hid (lb ≠ g) := hide (by
    obtain ⟨_, _, e, hc, _⟩ := HS.out Kn (by rw [HN.out]; exact hKl)
    simp only [Option.some.injEq, Addr.mk.injEq, and_true] at e
    have h1 := blk_lt hc
    have h2 := HGW.out
    omega)
  clear hown5 hgrow5 hat5 hal hyse hyl hown6 hsy A3 B3 HSA3 HOF2 HFG HOFG HXN hsz3 h23 hg2 xs
  go_wp2
  go_loopw [38] (fun i wr => ∃ j : Nat, j ≤ xn + 1 ∧ i = .int .i64 j ∧ Hid (Arr 3 Nn wr w.heap.size g (gE l ys j)) ∧ Hid (w5.grownBy wr (some g))) (fun i _ => xn + 1 - (intOf i).toNat)
  case atStart => exact ⟨0, by omega, rfl, A5, World.grownBy.refl _ _⟩
  case round =>
    obtain ⟨j, hj, rfl, HA, HW⟩ := hrel
    by_cases hlt : j < xn + 1
    · obtain ⟨hz1, hz0⟩ := HYS.out j (by rw [HYL.out]; exact hlt)
      obtain ⟨yb, yo, hye, hcy0⟩ := HSY.out j (by rw [HYL.out]; exact hlt)
      have hcy := grown_cell HW.out hcy0 (HYG.out ⟨yb, yo, none⟩ hye)
      subst hye
      obtain ⟨z, hz⟩ : ∃ z : Nat, ys.getD j 0 = (z : Int) := ⟨(ys.getD j 0).toNat, by omega⟩
      rw [hz] at hcy hz1
      have hzn : z < n := hz1
      have hv := HG.out.2.2.2 z (by rw [HN.out]; exact hzn)
      obtain ⟨x, hx⟩ : ∃ x : Nat, nd l z = (x : Int) := ⟨(nd l z).toNat, by have := hv.1; omega⟩
      have hxN : x < Nn := by have := hv.2.1; omega
      have hcl0 := (HSL5.out.two z (by rw [HN.out]; exact hzn)).1
      rw [hx] at hcl0
      have hcl := grown_cell HW.out hcl0 HLG.out
      obtain ⟨ab, ao, hae, hca0⟩ := HSA5.out z (by rw [atL_len]; exact hzn)
      have hca := grown_cell HW.out hca0 (HAG.out ⟨ab, ao, none⟩ hae).1
      subst hae
      rw [atL_get l n z hzn, hx] at hca
      have hco := HA.out.cell x hxN
      have hcf := HA.out.frozenAt x
      have hzt : (ys.getD j 0).toNat = z := by rw [hz]; rfl
      have hnx : nd l (ys.getD j 0).toNat = (x : Int) := by rw [hzt]; exact hx
      obtain ⟨av, hav⟩ : ∃ av, av = cnt l (x : Int) (z + 1) := ⟨_, rfl⟩
      obtain ⟨ov, hov⟩ : ∃ ov, ov = gE l ys j x := ⟨_, rfl⟩
      rw [← hav] at hca
      rw [← hov] at hco
      have hltI : (j : Int) < ((xn + 1 : Nat) : Int) := by omega
      have hj0 : (0 : Int) ≤ (j : Int) := by omega
      have hzI : (z : Int) < (n : Int) := by omega
      have hzI0 : (0 : Int) ≤ (z : Int) := by omega
      have hxI : (x : Int) < (Nn : Int) := by omega
      have hxI0 : (0 : Int) ≤ (x : Int) := by omega
      by_cases hgt : ov < av
      · have HAY : Hid (Arr 3 Nn (wr.setCell ⟨g, x, none⟩ (.int .i64 av)) w.heap.size g (gE l ys (j + 1))) := hide ((HA.out.set x av).congr (fun i _ => by
          have h1 := gE_yes l ys j i x hnx (by rw [hzt, ← hav, ← hov]; exact hgt)
          rw [hzt, ← hav] at h1
          exact h1))
        have HWY : Hid (w5.grownBy (wr.setCell ⟨g, x, none⟩ (.int .i64 av)) (some g)) := hide (grown_set HW.out _)
        clear hz hz1 hz0 hcy0 hcl0 hca0 hv hx hnx hzt hav hov HA HW
        go_wp2
        go_quiet (fail)
        go_wp2
        go_region
        go_wp2
        go_roundw
        case rel => exact ⟨j + 1, by omega, by go_num, by first | exact HAY.out | exact HAY.out.drew | exact arr_drewN HAY.out _ | exact (arr_drewN HAY.out _).drew, by first | exact HWY.out | exact grown_drewN HWY.out _ | exact grown_drewN HWY.out 1⟩
        case measure => simp [intOf]; omega
      · have HAN : Hid (Arr 3 Nn wr w.heap.size g (gE l ys (j + 1))) := hide (HA.out.congr (fun i _ => gE_no l ys j i x hnx (by rw [hzt, ← hav, ← hov]; exact hgt)))
        clear hz hz1 hz0 hcy0 hcl0 hca0 hv hx hnx hzt hav hov HA
        go_wp2
        go_quiet (fail)
        go_wp2
        go_roundw
        case rel => exact ⟨j + 1, by omega, by go_num, arr_drewN HAN.out _, grown_drewN HW.out _⟩
        case measure => simp [intOf]; omega
    · obtain rfl : j = xn + 1 := by omega
      have hltI : ¬ ((xn + 1 : Nat) : Int) < ((xn + 1 : Nat) : Int) := by omega
      have HO9 : Hid (wr.ownsRow w.heap.size 3 1 (.slice (some ⟨g, 0, none⟩) Nn Nn) Nn ((clL (cE l Kn) Nn).map (Value.int .i64))) := hide (by
        rw [clL_lA]
        exact HA.out.congr (fun i _ => HCLK.out (i : Int)))
      have B9 : Hid (Below w.heap.size w wr) := hide (B5.out.grown HW.out B5.out.size (fun q hq => by cases hq; exact HGW.out))
      clear HA HW
      go_wp2
      go_ret2
      exact ⟨_, by rw [HR.out]; rfl, by rw [HR.out]; simp only [Option.getD_some, clL_len]; exact HO9.out, B9.out⟩
end Go.Proofs.Ytkfnejiiancmhad.L11

namespace Go.Proofs.Ytkfnejiiancmhad.L11
open Go.RowKit L1 Own
set_option linter.unusedVariables false

theorem own_mt11 (w : World) (base : Nat) (h : base ≤ w.heap.size) : (w.alloc (.cells #[] 3)).ownsRow base 3 1 (.slice (some ⟨w.heap.size, 0, none⟩) 0 0) 0 [] :=
  ⟨rfl, .inr ⟨w.heap.size, 0, #[], rfl, h, by show (w.heap.push _)[w.heap.size]? = _; exact Array.getElem?_push_size, Nat.le_refl _, by unfold maxLen; omega, rfl, rfl⟩⟩
theorem sl_clL {w : World} {a : Option Addr} {E : Nat → Int} {n : Nat} (h : Sl w a (clL E n)) (h1 : 1 ≤ n) : ∃ b off, a = some ⟨b, off, none⟩ ∧ ∀ i, i < n → w.cell? ⟨b, off + i, none⟩ = some (.int .i64 (E i)) := by
  obtain ⟨b, off, rfl, _⟩ := h 0 (by rw [clL_len]; omega)
  refine ⟨b, off, rfl, fun i hi => ?_⟩
  have := h.at i (by rw [clL_len]; exact hi)
  rw [this]
  simp [clL, List.getD, hi]
set_option maxRecDepth 100000 in
set_option maxHeartbeats 4000000 in
theorem l11Most_any (a b : Option Addr) (E F : Nat → Int) (n ca cb : Nat) (w : World) (ha : Sl w a (clL E n)) (hb : Sl w b (clL F n)) (h1 : 1 ≤ n) (hn2 : n ≤ 1048576) :
    Calls Try.prog 95 #[.slice a n ca, .slice b n cb] w fun e w' => ∃ v, e = .returned v ∧ w'.ownsRow w.heap.size 3 1 v n ((clL (jn E F) n).map (Value.int .i64)) ∧ Below w.heap.size w w' := by
  obtain ⟨i1, hi1, hy0, hy1, hy2⟩ := info_parts info_int
  obtain ⟨ab, ao, rfl, hA⟩ := sl_clL ha h1
  obtain ⟨bb, bo, rfl, hB⟩ := sl_clL hb h1
  have hnews : ∀ j u, ((clL E n).map (Value.int .i64))[j]? = some u → (w.alloc (.cells #[] 3)).cell? ((⟨ab, ao, none⟩ : Addr).add j) = some u := fun j u h => by
    rw [clL_lA] at h
    have hj : j < n := by
      by_cases h2 : j < n
      · exact h2
      · rw [List.getElem?_eq_none (by simp [lA]; omega)] at h; cases h
    rw [lA_get n E j hj] at h
    cases h
    have h3 := hA j hj
    have h4 := (((Below.refl w.heap.size w).alloc (Nat.le_refl _) (.cells #[] 3)).cell (p := ⟨ab, ao + j, none⟩) (blk_lt h3)).trans h3
    have e : (⟨ab, ao, none⟩ : Addr).add j = ⟨ab, ao + j, none⟩ := by unfold Addr.add; split <;> simp_all
    rw [e]
    exact h4
  have HNW := hide hnews
  have HB := hide hB
  clear hnews hA hB ha hb
  go_enter Try.func95, Try.ntmps95
  go_wp2_with (first
    | (at_builtin; refine wpList_append_own_at _ rfl _ _ 27 rfl w.heap.size 3 i1 (.int .i64 0) 1 8 Try.underlying27 hi1 hy0 hy1 hy2 rfl (by decide) _ _ _ rfl (own_mt11 w w.heap.size (Nat.le_refl _)) ⟨ab, ao, none⟩ n ca ((clL E n).map (Value.int .i64)) rfl (by simp [clL_len]) HNW.out (by intro u hu; simp at hu; obtain ⟨q, _, rfl⟩ := hu; rfl) (by unfold maxLen; omega) (by omega) (by simp) ?_)
    | go_in)
  intro v6 w6 hown6 hgrow6 hnil6 _
  have hb6 : Below w.heap.size w w6 := ((Below.refl _ _).alloc (Nat.le_refl _) _).grown hgrow6 (by simp) (fun q hq => (own_mt11 w w.heap.size (Nat.le_refl _)).lt q hq |>.1)
  have hown7 : w6.ownsRow w.heap.size 3 1 v6 n (lA n (jnK E F 0)) := by
    have h := hown6
    rw [clL_lA] at h
    exact h
  obtain ⟨g, cap, rfl⟩ : ∃ g cap, v6 = .slice (some ⟨g, 0, none⟩) n cap := by
    rcases hown7.2 with ⟨_, h0⟩ | ⟨g, cap, cur, hv, _⟩
    · omega
    · exact ⟨g, cap, hv⟩
  have HO := hide hown7
  have HB6 := hide hb6
  clear hown6 hgrow6 hnil6 hown7 hb6 HNW
  go_wp2
  go_loopw [13] (fun i wr => ∃ k : Nat, k ≤ n ∧ i = .int .i64 k ∧ Hid (wr.ownsRow w.heap.size 3 1 (.slice (some ⟨g, 0, none⟩) n cap) n (lA n (jnK E F k))) ∧ Hid (Below w.heap.size w wr)) (fun i _ => n - (intOf i).toNat)
  case atStart => exact ⟨0, Nat.zero_le _, rfl, HO, HB6⟩
  case round =>
    obtain ⟨k, hk, rfl, HR, HBL⟩ := hrel
    by_cases hlt : k < n
    · have hltI : (k : Int) < (n : Int) := by omega
      have hk0 : (0 : Int) ≤ (k : Int) := by omega
      have hb0 := HB.out k hlt
      have hcb := (HBL.out.cell (p := ⟨bb, bo + k, none⟩) (blk_lt hb0)).trans hb0
      have hca := (HR.out.cellAt k (by omega)).trans (lA_get n (jnK E F k) k hlt)
      rw [jnK_self] at hca
      have hfa := HR.out.frozenAt k
      have hsu := jnK_succ E F k
      have hge := (HR.out.lt g rfl).1
      obtain ⟨x, hx⟩ : ∃ x, x = E k := ⟨_, rfl⟩
      obtain ⟨y, hy⟩ : ∃ y, y = F k := ⟨_, rfl⟩
      rw [← hx] at hca hsu
      rw [← hy] at hcb hsu
      by_cases hxy : x < y
      · have HN : Hid ((wr.setCell ⟨g, k, none⟩ (.int .i64 y)).ownsRow w.heap.size 3 1 (.slice (some ⟨g, 0, none⟩) n cap) n (lA n (jnK E F (k + 1)))) := hide (by
          have h3 := (HR.out.stored k (.int .i64 y)).1
          rw [lA_upd] at h3
          have h4 : lA n (updI (jnK E F k) k y) = lA n (jnK E F (k + 1)) := lA_congr n _ _ (fun i _ => by rw [← hsu i, show max x y = y by omega])
          rw [h4] at h3
          exact h3)
        have HB2 : Hid (Below w.heap.size w (wr.setCell ⟨g, k, none⟩ (.int .i64 y))) := hide (HBL.out.setCell (p := ⟨g, k, none⟩) hge _)
        clear hx hy hsu hb0 HR HBL
        go_wp2
        go_roundw
        case rel => exact ⟨k + 1, by omega, by go_num, HN, HB2⟩
        case measure => simp [intOf]; omega
      · have HN : Hid (wr.ownsRow w.heap.size 3 1 (.slice (some ⟨g, 0, none⟩) n cap) n (lA n (jnK E F (k + 1)))) := hide (by
          have h4 : lA n (jnK E F k) = lA n (jnK E F (k + 1)) := lA_congr n _ _ (fun i _ => by
            rw [← hsu i]
            unfold updI
            by_cases e : i = k
            · subst e; rw [if_pos rfl, jnK_self, ← hx]; omega
            · rw [if_neg e])
          rw [← h4]
          exact HR.out)
        clear hx hy hsu hb0 HR
        go_wp2
        go_roundw
        case rel => exact ⟨k + 1, by omega, by go_num, HN, HBL⟩
        case measure => simp [intOf]; omega
    · obtain rfl : k = n := by omega
      have hltI : ¬ (k : Int) < (k : Int) := by omega
      have HF : Hid (wr.ownsRow w.heap.size 3 1 (.slice (some ⟨g, 0, none⟩) k cap) k ((clL (jn E F) k).map (Value.int .i64))) := hide (by
        rw [clL_lA]
        have h4 : lA k (jnK E F k) = lA k (jn E F) := lA_congr k _ _ (fun i hi => by unfold jnK jn; rw [if_pos hi])
        rw [← h4]
        exact HR.out)
      clear HR
      go_wp2
      go_ret
      exact ⟨_, rfl, HF.out, HBL.out⟩
end Go.Proofs.Ytkfnejiiancmhad.L11

namespace Go.Proofs.Ytkfnejiiancmhad.Own
open Go.RowKit L1
set_option linter.unusedVariables false

set_option maxRecDepth 100000 in
set_option maxHeartbeats 1000000 in
theorem l1All_any (a : Option Addr) (xs : List Int) (n cap : Nat) (lo hi : Int) (w : World) (hn : xs.length = n) (hs : Sl w a xs) (hn2 : n ≤ 1048576) (bb : Bool) (hbb : bb = true ↔ ∀ j, j < n → lo ≤ xs.getD j 0 ∧ xs.getD j 0 ≤ hi) :
    Calls Try.prog 110 #[.slice a n cap, .int .i64 lo, .int .i64 hi] w fun e w' => e = .returned (.bool bb) ∧ w = w' := by
  have HS := hide hs
  have HN := hide hn
  have HBB := hide hbb
  clear hs hn hbb
  go_enter Try.func110, Try.ntmps110
  go_wp2
  go_loop [11] (fun i => ∃ k : Nat, k ≤ n ∧ i = .int .i64 k ∧ Hid (∀ j, j < k → lo ≤ xs.getD j 0 ∧ xs.getD j 0 ≤ hi)) (fun i => n - (intOf i).toNat)
  case atStart => exact ⟨0, Nat.zero_le _, rfl, fun j hj => absurd hj (Nat.not_lt_zero _)⟩
  case round =>
    obtain ⟨k, hk, rfl, HJ⟩ := hrel
    by_cases hlt : k < n
    · obtain ⟨b, off, rfl, hc⟩ := HS.out k (by rw [HN.out]; exact hlt)
      have hltI : (k : Int) < (n : Int) := by omega
      obtain ⟨x, hx⟩ : ∃ x, x = xs.getD k 0 := ⟨_, rfl⟩
      rw [← hx] at hc
      have HX := hide hx.symm
      clear hx
      by_cases hle : lo ≤ x ∧ x ≤ hi
      · have C := hide (fun w => l1In_any x lo hi w true (by simp [hle]))
        have HLE := hide hle
        clear hle
        go_wp2_with fail
        refine (C.out _).mono ?_
        rintro e w1 ⟨rfl, rfl⟩
        go_wp2
        go_round
        case rel =>
          refine ⟨k + 1, by omega, by go_num, ?_⟩
          intro j hj
          by_cases e : j = k
          · subst e; rw [HX.out]; exact HLE.out
          · exact HJ.out j (by omega)
        case measure => simp [intOf]; omega
      · have C := hide (fun w => l1In_any x lo hi w false (by simp only [Bool.false_eq_true, false_iff]; exact hle))
        have HM : Hid (bb = false) := hide (bool_noT HBB.out (fun h => hle (by have := h k hlt; rw [HX.out] at this; exact this)))
        clear hle
        go_wp2_with fail
        refine (C.out _).mono ?_
        rintro e w1 ⟨rfl, rfl⟩
        go_wp2
        go_ret
        exact ⟨by rw [HM.out]; rfl, rfl⟩
    · have hltI : ¬ (k : Int) < (n : Int) := by omega
      have HM := hide (HBB.out.2 (fun j hj => HJ.out j (by omega)))
      go_wp2
      go_ret
      exact ⟨by rw [HM.out]; rfl, rfl⟩

end Go.Proofs.Ytkfnejiiancmhad.Own

namespace Go.Proofs.Ytkfnejiiancmhad.L11
open Go.RowKit L1 Own
set_option linter.unusedVariables false

set_option maxRecDepth 100000 in
set_option maxHeartbeats 4000000 in
theorem l11Clock_any (a : Option Addr) (l : List Int) (n cap : Nat) (w : World) (hn : l.length = n) (hs : Sl w a l) (hn2 : n ≤ 1048576) (b : Bool) (hb : b = true ↔ OkC l) :
    Calls Try.prog 87 #[.slice a n cap] w fun e w' => e = .returned (.bool b) ∧ w = w' := by
  by_cases h : 1 ≤ (n : Int) ∧ (n : Int) ≤ 5
  · have C1 := hide (fun w => l1In_any (n : Int) 1 5 w true (by simp; omega))
    have C2 := hide (l1All_any a l n cap 0 40 w hn hs hn2 b (hb.trans ⟨fun h j hj => h.2.2 j (by omega), fun h2 => ⟨by omega, by omega, fun j hj => h2 j (by omega)⟩⟩))
    clear hb hs hn h
    go_enter Try.func87, Try.ntmps87
    go_wp2_with fail
    refine (C1.out _).mono ?_
    rintro e w1 ⟨rfl, rfl⟩
    go_wp2_with fail
    refine C2.out.mono ?_
    rintro e w1 ⟨rfl, rfl⟩
    go_wp2
    go_ret
    exact ⟨rfl, rfl⟩
  · have C1 := hide (fun w => l1In_any (n : Int) 1 5 w false (by simp; omega))
    have E : Hid (b = false) := by
      cases b with
      | false => rfl
      | true => have h1 := (hb.1 rfl).1; have h2 := (hb.1 rfl).2.1; omega
    clear hb hs hn h
    go_enter Try.func87, Try.ntmps87
    go_wp2_with fail
    refine (C1.out _).mono ?_
    rintro e w1 ⟨rfl, rfl⟩
    go_wp2
    go_ret
    exact ⟨by rw [E.out]; rfl, rfl⟩
end Go.Proofs.Ytkfnejiiancmhad.L11

namespace Go.Proofs.Ytkfnejiiancmhad.L11
open Go.RowKit L1 Own
set_option linter.unusedVariables false

open Classical in
/-- What JoinCuts tells. -/
noncomputable def jcRes (l m : List Int) : Option (List Int) := if TwoC l m then some (clL (jn (fnL l) (fnL m)) l.length) else none
theorem clL_fnL (l : List Int) : clL (fnL l) l.length = l := by
  apply List.ext_getElem?
  intro j
  by_cases h : j < l.length
  · simp [clL, fnL, h, List.getD]
  · rw [List.getElem?_eq_none (by simp [clL]; omega), List.getElem?_eq_none (by omega)]
set_option maxRecDepth 100000 in
set_option maxHeartbeats 4000000 in
theorem joinCuts_any (a b : Option Addr) (l m : List Int) (n k ca cb : Nat) (w : World) (hn : l.length = n) (hk : m.length = k) (ha : Sl w a l) (hb : Sl w b m) (hn2 : n ≤ 1048576) (hk2 : k ≤ 1048576) (r : Option (List Int)) (hr : r = jcRes l m) :
    Calls Try.prog 48 #[.slice a n ca, .slice b k cb] w fun e w' => RetL w r e w' := by
  obtain ⟨ba, hba⟩ : ∃ ba : Bool, ba = true ↔ OkC l := by
    by_cases h : OkC l
    · exact ⟨true, by simp [h]⟩
    · exact ⟨false, by simp [h]⟩
  obtain ⟨bb, hbb⟩ : ∃ bb : Bool, bb = true ↔ OkC m := by
    by_cases h : OkC m
    · exact ⟨true, by simp [h]⟩
    · exact ⟨false, by simp [h]⟩
  obtain ⟨X, hX⟩ : ∃ X : Nat → Int, X = if ba then fnL l else fun _ => 0 := ⟨_, rfl⟩
  obtain ⟨Y, hY⟩ : ∃ Y : Nat → Int, Y = if bb then fnL m else fun _ => 0 := ⟨_, rfl⟩
  have hC := fun c hc => readClocks_any a b l m n k ca cb w hn hk ha hb hn2 hk2 ba hba X hX bb hbb Y hY c hc
  by_cases h2 : TwoC l m
  · obtain rfl : ba = true := hba.2 h2.1.1
    obtain rfl : bb = true := hbb.2 h2.1.2
    have hXe : X = fnL l := by rw [hX]; rfl
    have hYe : Y = fnL m := by rw [hY]; rfl
    have C := hide (hC true (by rw [← hn, ← hk]; simp; exact h2))
    have HR : Hid (r = some (clL (jn X Y) n)) := by rw [hr]; unfold jcRes; rw [if_pos h2, hXe, hYe, hn]; rfl
    have hn1 : 1 ≤ n := by have := h2.1.1.1; omega
    have hn5 : n ≤ 5 := by have := h2.1.1.2.1; omega
    have CJ := hide (joinClocks_any X Y)
    have CL := hide (clockList_any (jn X Y) n hn1 hn5)
    clear hC hr h2 hX hY hXe hYe hba hbb ha hb hn hk
    go_enter Try.func48, Try.ntmps48
    go_wp2_with fail
    refine C.out.mono ?_
    rintro e w1 ⟨rfl, hb1⟩
    have B1 := hide hb1
    clear hb1
    go_wp2_with fail
    refine (CJ.out _).mono ?_
    rintro e w2 ⟨rfl, hb2⟩
    have b3 := (B1.out.alloc B1.out.size (.cells #[.int .i64 (X 0), .int .i64 (X 1), .int .i64 (X 2), .int .i64 (X 3), .int .i64 (X 4)] 112)).alloc (by simp; have := B1.out.size; omega) (.cells #[.int .i64 (Y 0), .int .i64 (Y 1), .int .i64 (Y 2), .int .i64 (Y 3), .int .i64 (Y 4)] 112)
    have B2 := hide (b3.trans (hb2.mono b3.size))
    clear hb2 b3
    go_wp2_with fail
    refine (CL.out _).mono ?_
    rintro e w3 ⟨v, rfl, ho, hb3⟩
    have B3 := hide (B2.out.trans (hb3.mono B2.out.size))
    have HO := hide (own_baseJ ho B2.out.size)
    clear ho hb3
    go_wp2
    go_ret2
    exact ⟨_, by rw [HR.out]; rfl, by rw [HR.out]; simp only [Option.getD_some, clL_len]; exact HO.out, B3.out⟩
  · have C := hide (hC false (by rw [← hn, ← hk]; simp only [Bool.false_eq_true, false_iff]; exact h2))
    have HR : Hid (r = none) := by rw [hr]; unfold jcRes; rw [if_neg h2]; rfl
    clear hC hr h2 hX hY hba hbb ha hb hn hk
    go_enter Try.func48, Try.ntmps48
    go_wp2_with fail
    refine C.out.mono ?_
    rintro e w1 ⟨rfl, hb1⟩
    have B1 := hide hb1
    clear hb1
    go_wp2
    go_ret2
    exact ⟨_, by rw [HR.out]; rfl, by rw [HR.out]; exact World.ownsRow_nil _ _ _ _, (B1.out.alloc B1.out.size _).alloc (by simp; have := B1.out.size; omega) _⟩
set_option maxRecDepth 100000 in
set_option maxHeartbeats 4000000 in
theorem specJoin_any (a b : Option Addr) (l m : List Int) (n k ca cb : Nat) (w : World) (hn : l.length = n) (hk : m.length = k) (ha : Sl w a l) (hb : Sl w b m) (hn2 : n ≤ 1048576) (hk2 : k ≤ 1048576) (r : Option (List Int)) (hr : r = jcRes l m) :
    Calls Try.prog 52 #[.slice a n ca, .slice b k cb] w fun e w' => RetL w r e w' := by
  have hno : ¬ TwoC l m → r = none := fun h => by rw [hr]; unfold jcRes; rw [if_neg h]
  by_cases hA : OkC l
  case neg =>
    have C1 := hide (l11Clock_any a l n ca w hn ha hn2 false (by simp [hA]))
    have HR := hide (hno (fun h => hA h.1.1))
    clear hA hno hr ha hb hn hk
    go_enter Try.func52, Try.ntmps52
    go_wp2_with fail
    refine (C1.out).mono ?_
    rintro e w1 ⟨rfl, rfl⟩
    go_wp2
    go_ret2
    exact ⟨_, by rw [HR.out]; rfl, by rw [HR.out]; exact World.ownsRow_nil _ _ _ _, Below.refl _ _⟩
  have C1 := hide (l11Clock_any a l n ca w hn ha hn2 true (by simp [hA]))
  by_cases hB : OkC m
  case neg =>
    have C2 := hide (l11Clock_any b m k cb w hk hb hk2 false (by simp [hB]))
    have HR := hide (hno (fun h => hB h.1.2))
    clear hA hB hno hr ha hb hn hk
    go_enter Try.func52, Try.ntmps52
    go_wp2_with fail
    refine (C1.out).mono ?_
    rintro e w1 ⟨rfl, rfl⟩
    go_wp2_with fail
    refine (C2.out).mono ?_
    rintro e w1 ⟨rfl, rfl⟩
    go_wp2
    go_ret2
    exact ⟨_, by rw [HR.out]; rfl, by rw [HR.out]; exact World.ownsRow_nil _ _ _ _, Below.refl _ _⟩
  have C2 := hide (l11Clock_any b m k cb w hk hb hk2 true (by simp [hB]))
  by_cases hnk : n = k
  case neg =>
    have HR := hide (hno (fun h => hnk (by rw [← hn, ← hk]; exact h.2)))
    have hnkI : ((n : Int) != (k : Int)) = true := by simp; omega
    clear hA hB hno hr ha hb hn hk hnk
    go_enter Try.func52, Try.ntmps52
    go_wp2_with fail
    refine (C1.out).mono ?_
    rintro e w1 ⟨rfl, rfl⟩
    go_wp2_with fail
    refine (C2.out).mono ?_
    rintro e w1 ⟨rfl, rfl⟩
    go_wp2
    go_ret2
    exact ⟨_, by rw [HR.out]; rfl, by rw [HR.out]; exact World.ownsRow_nil _ _ _ _, Below.refl _ _⟩
  subst hnk
  have h2 : TwoC l m := ⟨⟨hA, hB⟩, by rw [hn, hk]⟩
  have HR : Hid (r = some (clL (jn (fnL l) (fnL m)) n)) := by rw [hr]; unfold jcRes; rw [if_pos h2, hn]; rfl
  have hnn : ((n : Int) != (n : Int)) = false := by simp
  have e1 : clL (fnL l) n = l := by rw [← hn]; exact clL_fnL l
  have e2 : clL (fnL m) n = m := by rw [← hk]; exact clL_fnL m
  have CM := hide (l11Most_any a b (fnL l) (fnL m) n ca cb w (by rw [e1]; exact ha) (by rw [e2]; exact hb) (by have := hA.1; omega) hn2)
  clear hA hB hno hr ha hb hn hk h2 e1 e2
  go_enter Try.func52, Try.ntmps52
  go_wp2_with fail
  refine (C1.out).mono ?_
  rintro e w1 ⟨rfl, rfl⟩
  go_wp2_with fail
  refine (C2.out).mono ?_
  rintro e w1 ⟨rfl, rfl⟩
  go_wp2_with fail
  refine CM.out.mono ?_
  rintro e w3 ⟨v, rfl, ho, hb3⟩
  have HO := hide ho
  have B3 := hide hb3
  clear ho hb3
  go_wp2
  go_ret2
  exact ⟨_, by rw [HR.out]; rfl, by rw [HR.out]; simp only [Option.getD_some, clL_len]; exact HO.out, B3.out⟩
end Go.Proofs.Ytkfnejiiancmhad.L11

namespace Go.Proofs.Ytkfnejiiancmhad.Own
open Go.RowKit L1
set_option linter.unusedVariables false

/-- The cells of a list of lists. -/
def lS (n N : Nat) (bs cs : Nat → Nat) : List Value := (List.range n).map fun i => Value.slice (some ⟨bs i, 0, none⟩) N (cs i)
theorem lS_len (n N : Nat) (bs cs : Nat → Nat) : (lS n N bs cs).length = n := by simp [lS]
theorem lS_get (n N : Nat) (bs cs : Nat → Nat) (i : Nat) (h : i < n) : (lS n N bs cs)[i]? = some (.slice (some ⟨bs i, 0, none⟩) N (cs i)) := by simp [lS, h]
theorem lS_congr (n N : Nat) (bs cs bs' cs' : Nat → Nat) (h : ∀ i, i < n → bs i = bs' i ∧ cs i = cs' i) : lS n N bs cs = lS n N bs' cs' := by
  unfold lS
  apply List.map_congr_left
  intro i hi
  have := h i (by simpa using hi)
  rw [this.1, this.2]
theorem lS_succ (n N : Nat) (bs cs : Nat → Nat) : lS (n + 1) N bs cs = lS n N bs cs ++ [.slice (some ⟨bs n, 0, none⟩) N (cs n)] := by simp [lS, List.range_succ]
/-- Lists of N ints, n of them, in blocks from B on and below T. -/
structure SV (w : World) (B T : Nat) (v : Value) (n N : Nat) (bs cs : Nat → Nat) (G : Nat → Nat → Int) : Prop where
  out : w.ownsRow B 27 1 v n (lS n N bs cs)
  top : ∀ q, v.ownBlock = some q → q < T
  row : ∀ i, i < n → w.ownsRow B 3 1 (.slice (some ⟨bs i, 0, none⟩) N (cs i)) N (lA N (G i))
  rtop : ∀ i, i < n → bs i < T
  inj : ∀ i j, i < n → j < n → bs i = bs j → i = j
def SW (w : World) (B T : Nat) (v : Value) (n N : Nat) (G : Nat → Nat → Int) : Prop := ∃ bs cs, SV w B T v n N bs cs G
theorem own_blkS {w w' : World} {base n c : Nat} {t : TypeId} {v : Value} {xs : List Value} (h : w.ownsRow base t c v n xs) (hb : ∀ q, v.ownBlock = some q → w'.heap[q]? = w.heap[q]?) : w'.ownsRow base t c v n xs := by
  refine ⟨h.1, ?_⟩
  rcases h.2 with h0 | ⟨q, cap, cur, hv, hbg, hh, rest⟩
  · exact .inl h0
  · exact .inr ⟨q, cap, cur, hv, hbg, (hb q (by rw [hv]; rfl)).trans hh, rest⟩
section
variable {w w' : World} {B T : Nat} {v : Value} {n N : Nat} {bs cs : Nat → Nat} {G : Nat → Nat → Int}
theorem SV.keep (h : SV w B T v n N bs cs G) (hb : ∀ q, B ≤ q → q < T → w'.heap[q]? = w.heap[q]?) : SV w' B T v n N bs cs G :=
  ⟨own_blkS h.out (fun q hq => hb q (h.out.lt q hq).1 (h.top q hq)), h.top, fun i hi => own_blkS (h.row i hi) (fun q hq => by
    have h1 := ((h.row i hi).lt q hq).1
    have h2 : bs i = q := by simpa [Value.ownBlock] using hq
    exact hb q h1 (by rw [← h2]; exact h.rtop i hi)), h.rtop, h.inj⟩
theorem SV.lt (h : SV w B T v n N bs cs G) : (∀ q, v.ownBlock = some q → q < w.heap.size) ∧ ∀ i, i < n → bs i < w.heap.size := ⟨fun q hq => (h.out.lt q hq).2, fun i hi => ((h.row i hi).lt (bs i) rfl).2⟩
theorem SV.below (h : SV w B T v n N bs cs G) (hb : Below w.heap.size w w') : SV w' B T v n N bs cs G :=
  ⟨own_blkS h.out (fun q hq => hb.block q (h.lt.1 q hq)), h.top, fun i hi => own_blkS (h.row i hi) (fun q hq => hb.block q (((h.row i hi).lt q hq).2)), h.rtop, h.inj⟩
theorem SV.form (h : SV w B T v n N bs cs G) : ∃ a cap, v = .slice a n cap := by
  rcases h.out.2 with ⟨hv, h0⟩ | ⟨q, cap, cur, hv, _⟩
  · subst h0; exact ⟨none, 0, hv⟩
  · exact ⟨_, cap, hv⟩
theorem SV.addr {a : Option Addr} {cap : Nat} (h : SV w B T (.slice a n cap) n N bs cs G) (hn : 0 < n) : ∃ g, a = some ⟨g, 0, none⟩ ∧ ∀ i, i < n → w.cell? ⟨g, i, none⟩ = some (.slice (some ⟨bs i, 0, none⟩) N (cs i)) := by
  rcases h.out.2 with ⟨hv, h0⟩ | ⟨q, cap', cur, hv, _⟩
  · omega
  · simp at hv
    refine ⟨q, hv.1, fun i hi => ?_⟩
    have h1 := h.out
    rw [hv.1] at h1
    have h2 := h1.cells (g := q) rfl i _ (lS_get n N bs cs i hi)
    rw [addr_add] at h2
    exact h2
theorem SV.sl (h : SV w B T v n N bs cs G) (i : Nat) (hi : i < n) : Sl w (some ⟨bs i, 0, none⟩) ((List.range N).map (G i)) := fun j hj => by
  have hj' : j < N := by simpa using hj
  have h1 := (h.row i hi).cellAt j (by omega)
  rw [lA_get N (G i) j hj'] at h1
  exact ⟨bs i, 0, rfl, by rw [Nat.zero_add, h1]; simp [List.getD, hj']⟩
/-- The row of lists and a list are two blocks. -/
theorem SV.two (h : SV w B T v n N bs cs G) (i : Nat) (hi : i < n) : v.ownBlock ≠ some (bs i) := fun e => by
  rcases h.out.2 with ⟨hv, _⟩ | ⟨q, cap, cur, hv, _, hh, _⟩
  · rw [hv] at e; cases e
  · rw [hv] at e
    have e2 : q = bs i := by simpa [Value.ownBlock] using e
    rcases (h.row i hi).2 with ⟨hv2, _⟩ | ⟨q2, cap2, cur2, hv2, _, hh2, _⟩
    · cases hv2
    · simp at hv2
      rw [e2] at hh
      rw [← hv2.1] at hh2
      rw [hh] at hh2
      simp at hh2
end
theorem SW.below {w w' : World} {B T : Nat} {v : Value} {n N : Nat} {G : Nat → Nat → Int} (h : SW w B T v n N G) (hb : Below w.heap.size w w') : SW w' B T v n N G := by
  obtain ⟨bs, cs, h⟩ := h
  exact ⟨bs, cs, h.below hb⟩
theorem SW.keep {w w' : World} {B T : Nat} {v : Value} {n N : Nat} {G : Nat → Nat → Int} (h : SW w B T v n N G) (hb : ∀ q, B ≤ q → q < T → w'.heap[q]? = w.heap[q]?) : SW w' B T v n N G := by
  obtain ⟨bs, cs, h⟩ := h
  exact ⟨bs, cs, h.keep hb⟩
theorem SW.zero {w : World} {B T : Nat} {v : Value} {N N' : Nat} {G : Nat → Nat → Int} (h : SW w B T v 0 N G) : SW w B T v 0 N' G := by
  obtain ⟨bs, cs, h⟩ := h
  exact ⟨bs, cs, h.out, h.top, fun i hi => absurd hi (Nat.not_lt_zero _), h.rtop, h.inj⟩
theorem SW.nil (w : World) (B T N : Nat) (G : Nat → Nat → Int) : SW w B T (.slice none 0 0) 0 N G :=
  ⟨fun _ => 0, fun _ => 0, World.ownsRow_nil _ _ _ _, (fun q hq => by cases hq), (fun i hi => by omega), (fun i hi => by omega), (fun i j hi => by omega)⟩
end Go.Proofs.Ytkfnejiiancmhad.Own
