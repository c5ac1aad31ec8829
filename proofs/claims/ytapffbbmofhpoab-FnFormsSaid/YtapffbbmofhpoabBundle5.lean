/-
  Contract: (*spec.l1Cur).formOf: some tree of so many levels.
  Contract: (*spec.l1Cur).formOf, a level up.
  Contracts: (*spec.l1Cur).form, spec.DrawGoodForm, spec.DrawFormText: some list of few parts, in new memory.
  Contracts: spec.l5Text, spec.FormText, impl.FormText: the text of a good form.
  Contract of the specification's spoilt: some text, not much longer.
  Contracts: laws.sameForm says that two lists alike are alike; spec.DrawReadForm: some text that is not long; spec.DrawNotForm.
  Contracts: spec.DrawFitsForm, spec.DrawWordsOf, laws.sameTexts.
  Contract: spec.DrawLeftOf: some list of few parts in new memory, and a letter.
-/
import Derived.Test.YtapffbbmofhpoabBundle4
import Derived.Test.YtapffbbmofhpoabBundle3
import Derived.Test.YtapffbbmofhpoabBundle2
import Derived.Test.YtapffbbmofhpoabBundle1
import Derived.Deep.QuietTactic
import Derived.BigQuiet
import Derived.Deep.RegionWith
import Derived.Deep.DeepCutAuto
import Derived.Deep.DeepMust
namespace Go.Proofs.Ytapffbbmofhpoab.L5
open Go.RowKit L1 L4
set_option linter.unusedVariables false

theorem lit_rowT' (w : World) (g : Nat) (cs : Array Value) (xs : List ByteArray) (hg : w.heap.size = g) (h : cs.toList = xs.map Value.string) : SlT (w.alloc (.cells cs 9)) (some ⟨g, 0, none⟩) xs := by
  subst hg
  exact lit_rowT w cs xs h
theorem lit_row' (w : World) (g : Nat) (cs : Array Value) (xs : List Int) (hg : w.heap.size = g) (h : cs.toList = xs.map (Value.int .i64)) : Sl (w.alloc (.cells cs 3)) (some ⟨g, 0, none⟩) xs := by
  subst hg
  exact lit_row w cs xs h
theorem tr_in2 {wr w' : World} {o : Obj} {p : Option Addr} {x : Sh} (h : Tr w' (fun c => (wr.alloc o).heap.size ≤ c) p x) : Tr w' (fun c => wr.heap.size < c) p x := h.mono (fun c hc => by simp at hc; omega)
theorem tr_in3 {wr w' : World} {gx : Nat} {p : Option Addr} {x : Sh} (h : Tr w' (fun c => wr.heap.size ≤ c) p x) (hg : gx < wr.heap.size) : Tr w' (fun c => gx < c) p x := h.mono (fun c hc => by omega)
theorem drp_two5 {w wr : World} {b N M gx d : Nat} {pa pb : Option Addr} {xa xb : Sh} (h : DN w wr b M gx 5 ByteArray.empty pa pb) (ta : Tr wr (fun c => gx < c) pa xa) (tb : Tr wr (fun c => gx < c) pb xb) (hM : M ≤ N + Kd (d + 1)) (hz : sz xa + sz xb + 1 ≤ 1 + 2 * Zd d) (ho : okS xa ∧ okS xb) : DrP w b N (d + 1) (.returned (.pointer (some ⟨gx, 0, none⟩))) wr :=
  ⟨_, .seq xa xb, rfl, ⟨gx, _, _, rfl, h.hx, h.fx.at, ta.mono (fun c hc => Nat.le_trans h.hx (Nat.le_of_lt hc)), tb.mono (fun c hc => Nat.le_trans h.hx (Nat.le_of_lt hc))⟩, by simp only [sz, Zd]; omega, ho, h.cur.mono hM, h.gr⟩
theorem drp_two6 {w wr : World} {b N M gx d : Nat} {pa pb : Option Addr} {xa xb : Sh} (h : DN w wr b M gx 6 ByteArray.empty pa pb) (ta : Tr wr (fun c => gx < c) pa xa) (tb : Tr wr (fun c => gx < c) pb xb) (hM : M ≤ N + Kd (d + 1)) (hz : sz xa + sz xb + 1 ≤ 1 + 2 * Zd d) (ho : okS xa ∧ okS xb) : DrP w b N (d + 1) (.returned (.pointer (some ⟨gx, 0, none⟩))) wr :=
  ⟨_, .alt xa xb, rfl, ⟨gx, _, _, rfl, h.hx, h.fx.at, ta.mono (fun c hc => Nat.le_trans h.hx (Nat.le_of_lt hc)), tb.mono (fun c hc => Nat.le_trans h.hx (Nat.le_of_lt hc))⟩, by simp only [sz, Zd]; omega, ho, h.cur.mono hM, h.gr⟩
theorem drp_one7 {w wr : World} {b N M gx d : Nat} {pa pb : Option Addr} {xa : Sh} (h : DN w wr b M gx 7 ByteArray.empty pa pb) (ta : Tr wr (fun c => gx < c) pa xa) (hM : M ≤ N + Kd (d + 1)) (hz : sz xa + 1 ≤ 1 + 2 * Zd d) (ho : okS xa) : DrP w b N (d + 1) (.returned (.pointer (some ⟨gx, 0, none⟩))) wr :=
  ⟨_, .many xa, rfl, ⟨gx, _, _, rfl, h.hx, h.fx.at, ta.mono (fun c hc => Nat.le_trans h.hx (Nat.le_of_lt hc))⟩, by simp only [sz, Zd]; omega, ho, h.cur.mono hM, h.gr⟩
theorem drp_one8 {w wr : World} {b N M gx d : Nat} {pa pb : Option Addr} {xa : Sh} (h : DN w wr b M gx 8 ByteArray.empty pa pb) (ta : Tr wr (fun c => gx < c) pa xa) (hM : M ≤ N + Kd (d + 1)) (hz : sz xa + 1 ≤ 1 + 2 * Zd d) (ho : okS xa) : DrP w b N (d + 1) (.returned (.pointer (some ⟨gx, 0, none⟩))) wr :=
  ⟨_, .inv xa, rfl, ⟨gx, _, _, rfl, h.hx, h.fx.at, ta.mono (fun c hc => Nat.le_trans h.hx (Nat.le_of_lt hc))⟩, by simp only [sz, Zd]; omega, ho, h.cur.mono hM, h.gr⟩
set_option maxRecDepth 100000 in
set_option maxHeartbeats 4000000 in
theorem formOf_zero : DC 0 := by
  intro b N w h hN
  have hbl := h.lt
  have HC := hide h
  simp only [Kd] at hN
  have HK : Kd 0 = 6 := rfl
  clear h
  show Calls Try.prog 124 #[.pointer (some ⟨b, 0, none⟩), .int .i64 0] w _
  go_enter Try.func124, Try.ntmps124
  go_wp2_with fail
  refine (pick_any b N _ _ HC.out (by omega) (by omega) (by omega)).mono ?_
  rintro e w1 ⟨x, rfl, hx0, hx1, hx8, hc1, hg1⟩
  have H1 := hide hc1
  have G1 := hide hg1
  have hne : w1.heap.size ≠ b := by have := hc1.lt; omega
  clear hc1 hg1
  go_wp2_with fail
  refine (among_any b (N + 2) w1.heap.size 5 5 [3, 3, 4, 2, 1] _ (H1.out.alloc _) (by omega) rfl (by omega) (by omega) hne (lit_row' _ _ _ _ rfl rfl)).mono ?_
  rintro e w2 ⟨j, hj, rfl, hc2, hg2⟩
  obtain ⟨hk1, hk2⟩ := lit5 j hj
  obtain ⟨kd, hkd⟩ : ∃ kd, kd = ([3, 3, 4, 2, 1] : List Int).getD j 0 := ⟨_, rfl⟩
  rw [← hkd] at hk1 hk2 ⊢
  have H2 := hide hc2
  have G2 := hide (L1.grown_trans G1.out (L1.grown_trans (L1.grown_alloc w1 _ b) hg2))
  clear hc2 hg2 hkd hj hne
  by_cases k1 : kd = 1
  · subst k1
    have D := hide (DN.new 1 hbl H2.out G2.out)
    have C2 := hide (fun w => l5Two_any 1 w false (iff_of_false (by simp) (by omega)))
    have C1 := hide (fun w => l5One_any 1 w false (iff_of_false (by simp) (by omega)))
    go_wp2_with fail
    refine (C2.out _).mono ?_
    rintro e w6 ⟨rfl, rfl⟩
    go_wp2_with fail
    refine (C1.out _).mono ?_
    rintro e w6b ⟨rfl, rfl⟩
    go_wp2
    go_ret
    exact drp_leaf D.out (by simp only [Kd]; omega) (by omega)
  by_cases k2 : kd = 2
  · subst k2
    have D := hide (DN.new 2 hbl H2.out G2.out)
    have C2 := hide (fun w => l5Two_any 2 w false (iff_of_false (by simp) (by omega)))
    have C1 := hide (fun w => l5One_any 2 w false (iff_of_false (by simp) (by omega)))
    go_wp2_with fail
    refine (C2.out _).mono ?_
    rintro e w6 ⟨rfl, rfl⟩
    go_wp2_with fail
    refine (C1.out _).mono ?_
    rintro e w6b ⟨rfl, rfl⟩
    go_wp2
    go_ret
    exact drp_leaf D.out (by simp only [Kd]; omega) (by omega)
  by_cases k4 : kd = 4
  · subst k4
    have D := hide (DN.new 4 hbl H2.out G2.out)
    have C2 := hide (fun w => l5Two_any 4 w false (iff_of_false (by simp) (by omega)))
    have C1 := hide (fun w => l5One_any 4 w false (iff_of_false (by simp) (by omega)))
    go_wp2_with fail
    refine (C2.out _).mono ?_
    rintro e w6 ⟨rfl, rfl⟩
    go_wp2_with fail
    refine (C1.out _).mono ?_
    rintro e w6b ⟨rfl, rfl⟩
    go_wp2
    go_ret
    exact drp_leaf D.out (by simp only [Kd]; omega) (by omega)
  by_cases k3 : kd = 3
  · subst k3
    have D := hide (DN.new 3 hbl H2.out G2.out)
    have n1c := D.out.fx.at.t
    have n1 := D.out.fx.frozen 1
    have hgx : w2.heap.size + 1 ≠ b := by have := D.out.hx; have := D.out.hb; omega
    go_wp2_with fail
    refine (of_any b (N + 2 + 2) (w2.heap.size + 1) 4 4 [⟨#[97]⟩, ⟨#[98]⟩, ⟨#[97]⟩, ⟨#[122]⟩] _ (D.out.cur.alloc _) (by omega) rfl (by omega) (by omega) hgx (lit_rowT' _ _ _ _ (by simp) rfl)).mono ?_
    rintro e w7 ⟨j, hj, rfl, hc7, hg7⟩
    obtain ⟨c, hc, ec⟩ := lit4 j hj
    rw [ec]
    have D7 := hide (D.out.move hc7 (L1.grown_trans (L1.grown_alloc _ _ b) hg7))
    have m1c := D7.out.fx.at.t
    have m1 := D7.out.fx.frozen 1
    have D8 := hide (D7.out.setT (one c))
    have HC8 := hide hc
    clear hc7 hg7 ec hc n1c n1
    go_wp2
    go_ret
    exact drp_letter D8.out (by omega) HC8.out
  omega
end Go.Proofs.Ytapffbbmofhpoab.L5

namespace Go.Proofs.Ytapffbbmofhpoab.L5
open Go.RowKit L1 L4
set_option linter.unusedVariables false

set_option maxRecDepth 100000 in
set_option maxHeartbeats 8000000 in
theorem formOf_succ (d : Nat) (hd : d ≤ 1000) (IH : DC d) : DC (d + 1) := by
  intro b N w h hN
  have hbl := h.lt
  have HC := hide h
  simp only [Kd] at hN
  have HK := Kd_le d
  have hdI : ¬ ((d : Int) + 1) = 0 := by omega
  have hdb : (((d : Int) + 1) == 0) = false := by simpa using hdI
  have hdm : (d : Int) + 1 - 1 = (d : Int) := by omega
  clear h
  rw [show ((d + 1 : Nat) : Int) = (d : Int) + 1 by omega]
  go_enter Try.func124, Try.ntmps124
  go_wp2_with fail
  refine (pick_any b N _ _ HC.out (by omega) (by omega) (by omega)).mono ?_
  rintro e w1 ⟨x, rfl, hx0, hx1, hx8, hc1, hg1⟩
  have hx7 : x < 8 := hx8 (by omega)
  have H1 := hide hc1
  have G1 := hide hg1
  clear hc1 hg1 hx8
  by_cases k1 : x = 0
  · subst k1
    have D := hide (DN.new 1 hbl H1.out G1.out)
    have C2 := hide (fun w => l5Two_any 1 w false (iff_of_false (by simp) (by omega)))
    have C1 := hide (fun w => l5One_any 1 w false (iff_of_false (by simp) (by omega)))
    go_wp2_with fail
    refine (C2.out _).mono ?_
    rintro e w6 ⟨rfl, rfl⟩
    go_wp2_with fail
    refine (C1.out _).mono ?_
    rintro e w6b ⟨rfl, rfl⟩
    go_wp2
    go_ret
    exact drp_leaf D.out (by simp only [Kd]; omega) (by omega)
  by_cases k2 : x = 1
  · subst k2
    have D := hide (DN.new 2 hbl H1.out G1.out)
    have C2 := hide (fun w => l5Two_any 2 w false (iff_of_false (by simp) (by omega)))
    have C1 := hide (fun w => l5One_any 2 w false (iff_of_false (by simp) (by omega)))
    go_wp2_with fail
    refine (C2.out _).mono ?_
    rintro e w6 ⟨rfl, rfl⟩
    go_wp2_with fail
    refine (C1.out _).mono ?_
    rintro e w6b ⟨rfl, rfl⟩
    go_wp2
    go_ret
    exact drp_leaf D.out (by simp only [Kd]; omega) (by omega)
  by_cases k4 : x = 3
  · subst k4
    have D := hide (DN.new 4 hbl H1.out G1.out)
    have C2 := hide (fun w => l5Two_any 4 w false (iff_of_false (by simp) (by omega)))
    have C1 := hide (fun w => l5One_any 4 w false (iff_of_false (by simp) (by omega)))
    go_wp2_with fail
    refine (C2.out _).mono ?_
    rintro e w6 ⟨rfl, rfl⟩
    go_wp2_with fail
    refine (C1.out _).mono ?_
    rintro e w6b ⟨rfl, rfl⟩
    go_wp2
    go_ret
    exact drp_leaf D.out (by simp only [Kd]; omega) (by omega)
  by_cases k3 : x = 2
  · subst k3
    have D := hide (DN.new 3 hbl H1.out G1.out)
    have n1c := D.out.fx.at.t
    have n1 := D.out.fx.frozen 1
    have hgx : w1.heap.size + 1 ≠ b := by have := D.out.hx; have := D.out.hb; omega
    go_wp2_with fail
    refine (of_any b (N + 2) (w1.heap.size + 1) 4 4 [⟨#[97]⟩, ⟨#[98]⟩, ⟨#[97]⟩, ⟨#[122]⟩] _ (D.out.cur.alloc _) (by omega) rfl (by omega) (by omega) hgx (lit_rowT' _ _ _ _ (by simp) rfl)).mono ?_
    rintro e w7 ⟨j, hj, rfl, hc7, hg7⟩
    obtain ⟨c, hc, ec⟩ := lit4 j hj
    rw [ec]
    have D7 := hide (D.out.move hc7 (L1.grown_trans (L1.grown_alloc _ _ b) hg7))
    have m1c := D7.out.fx.at.t
    have m1 := D7.out.fx.frozen 1
    have D8 := hide (D7.out.setT (one c))
    have HC8 := hide hc
    clear hc7 hg7 ec hc n1c n1
    go_wp2
    go_ret
    exact drp_letter D8.out (by simp only [Kd]; omega) HC8.out
  by_cases k5 : x = 4
  · subst k5
    have D := hide (DN.new 5 hbl H1.out G1.out)
    have C2 := hide (fun w => l5Two_any 5 w true (iff_of_true rfl (by omega)))
    have C1 := hide (fun w => l5One_any 5 w false (iff_of_false (by simp) (by omega)))
    go_wp2_with fail
    refine (C2.out _).mono ?_
    rintro e w6 ⟨rfl, rfl⟩
    go_wp2_with fail
    refine (IH b (N + 2) _ D.out.cur (by omega)).mono ?_
    rintro e w7 ⟨pa, xa, rfl, ta, za, oa, ca, ga⟩
    have D7 := hide (D.out.move ca ga)
    have m2c := D7.out.fx.at.a
    have m2 := D7.out.fx.frozen 2
    have D8 := hide (D7.out.setA pa)
    have TA := hide ((tr_in2 ta).set (p := ⟨w1.heap.size, 2, none⟩) (fun c hc e => by simp only at e; omega) (.pointer pa))
    clear ca ga ta
    go_wp2_with fail
    refine (IH b (N + 2 + Kd d) _ D8.out.cur (by omega)).mono ?_
    rintro e w9 ⟨pb, xb, rfl, tb, zb, ob, cb, gb⟩
    have D9 := hide (D8.out.move cb gb)
    have m3c := D9.out.fx.at.b
    have m3 := D9.out.fx.frozen 3
    have D10 := hide (D9.out.setB pb)
    have hbx : b < w1.heap.size := Nat.lt_of_lt_of_le D.out.hb D.out.hx
    have TA2 := hide ((TA.out.grown gb (fun c hc e => by cases e; omega)).set (p := ⟨w1.heap.size, 3, none⟩) (fun c hc e => by simp only at e; omega) (.pointer pb))
    have TB := hide ((tr_in3 tb D8.out.fx.lt).set (p := ⟨w1.heap.size, 3, none⟩) (fun c hc e => by simp only at e; omega) (.pointer pb))
    have HZ : Hid (sz xa + sz xb + 1 ≤ 1 + 2 * Zd d) := hide (by omega)
    have HO := hide (And.intro oa ob)
    clear cb gb tb za zb oa ob
    go_wp2
    go_ret
    exact drp_two5 D10.out TA2.out TB.out (by simp only [Kd]; omega) HZ.out HO.out
  by_cases k6 : x = 5
  · subst k6
    have D := hide (DN.new 6 hbl H1.out G1.out)
    have C2 := hide (fun w => l5Two_any 6 w true (iff_of_true rfl (by omega)))
    have C1 := hide (fun w => l5One_any 6 w false (iff_of_false (by simp) (by omega)))
    go_wp2_with fail
    refine (C2.out _).mono ?_
    rintro e w6 ⟨rfl, rfl⟩
    go_wp2_with fail
    refine (IH b (N + 2) _ D.out.cur (by omega)).mono ?_
    rintro e w7 ⟨pa, xa, rfl, ta, za, oa, ca, ga⟩
    have D7 := hide (D.out.move ca ga)
    have m2c := D7.out.fx.at.a
    have m2 := D7.out.fx.frozen 2
    have D8 := hide (D7.out.setA pa)
    have TA := hide ((tr_in2 ta).set (p := ⟨w1.heap.size, 2, none⟩) (fun c hc e => by simp only at e; omega) (.pointer pa))
    clear ca ga ta
    go_wp2_with fail
    refine (IH b (N + 2 + Kd d) _ D8.out.cur (by omega)).mono ?_
    rintro e w9 ⟨pb, xb, rfl, tb, zb, ob, cb, gb⟩
    have D9 := hide (D8.out.move cb gb)
    have m3c := D9.out.fx.at.b
    have m3 := D9.out.fx.frozen 3
    have D10 := hide (D9.out.setB pb)
    have hbx : b < w1.heap.size := Nat.lt_of_lt_of_le D.out.hb D.out.hx
    have TA2 := hide ((TA.out.grown gb (fun c hc e => by cases e; omega)).set (p := ⟨w1.heap.size, 3, none⟩) (fun c hc e => by simp only at e; omega) (.pointer pb))
    have TB := hide ((tr_in3 tb D8.out.fx.lt).set (p := ⟨w1.heap.size, 3, none⟩) (fun c hc e => by simp only at e; omega) (.pointer pb))
    have HZ : Hid (sz xa + sz xb + 1 ≤ 1 + 2 * Zd d) := hide (by omega)
    have HO := hide (And.intro oa ob)
    clear cb gb tb za zb oa ob
    go_wp2
    go_ret
    exact drp_two6 D10.out TA2.out TB.out (by simp only [Kd]; omega) HZ.out HO.out
  by_cases k7 : x = 6
  · subst k7
    have D := hide (DN.new 7 hbl H1.out G1.out)
    have C2 := hide (fun w => l5Two_any 7 w false (iff_of_false (by simp) (by omega)))
    have C1 := hide (fun w => l5One_any 7 w true (iff_of_true rfl (by omega)))
    go_wp2_with fail
    refine (C2.out _).mono ?_
    rintro e w6 ⟨rfl, rfl⟩
    go_wp2_with fail
    refine (C1.out _).mono ?_
    rintro e w6b ⟨rfl, rfl⟩
    go_wp2_with fail
    refine (IH b (N + 2) _ D.out.cur (by omega)).mono ?_
    rintro e w7 ⟨pa, xa, rfl, ta, za, oa, ca, ga⟩
    have D7 := hide (D.out.move ca ga)
    have m2c := D7.out.fx.at.a
    have m2 := D7.out.fx.frozen 2
    have D8 := hide (D7.out.setA pa)
    have TA := hide ((tr_in2 ta).set (p := ⟨w1.heap.size, 2, none⟩) (fun c hc e => by simp only at e; omega) (.pointer pa))
    have HZ : Hid (sz xa + 1 ≤ 1 + 2 * Zd d) := hide (by omega)
    have HO := hide oa
    clear ca ga ta za oa
    go_wp2
    go_ret
    exact drp_one7 D8.out TA.out (by simp only [Kd]; omega) HZ.out HO.out
  by_cases k8 : x = 7
  · subst k8
    have D := hide (DN.new 8 hbl H1.out G1.out)
    have C2 := hide (fun w => l5Two_any 8 w false (iff_of_false (by simp) (by omega)))
    have C1 := hide (fun w => l5One_any 8 w true (iff_of_true rfl (by omega)))
    go_wp2_with fail
    refine (C2.out _).mono ?_
    rintro e w6 ⟨rfl, rfl⟩
    go_wp2_with fail
    refine (C1.out _).mono ?_
    rintro e w6b ⟨rfl, rfl⟩
    go_wp2_with fail
    refine (IH b (N + 2) _ D.out.cur (by omega)).mono ?_
    rintro e w7 ⟨pa, xa, rfl, ta, za, oa, ca, ga⟩
    have D7 := hide (D.out.move ca ga)
    have m2c := D7.out.fx.at.a
    have m2 := D7.out.fx.frozen 2
    have D8 := hide (D7.out.setA pa)
    have TA := hide ((tr_in2 ta).set (p := ⟨w1.heap.size, 2, none⟩) (fun c hc e => by simp only at e; omega) (.pointer pa))
    have HZ : Hid (sz xa + 1 ≤ 1 + 2 * Zd d) := hide (by omega)
    have HO := hide oa
    clear ca ga ta za oa
    go_wp2
    go_ret
    exact drp_one8 D8.out TA.out (by simp only [Kd]; omega) HZ.out HO.out
  omega
theorem formOf_any : ∀ d, d ≤ 1000 → DC d
  | 0, _ => formOf_zero
  | d + 1, h => formOf_succ d (by omega) (formOf_any d (by omega))
end Go.Proofs.Ytapffbbmofhpoab.L5

namespace Go.Proofs.Ytapffbbmofhpoab.L5
open Go.RowKit L1 L4
set_option linter.unusedVariables false

theorem flatP_setA : ∀ (l : List Pr) (i : Nat) (y : Int), (flatP l).set (i * 4 + 2) (.int .i64 y) = flatP (l.set i { l.getD i eP with a := y })
  | [], i, y => by simp [flatP]
  | p :: l, 0, y => by simp [flatP]
  | p :: l, i + 1, y => by
    have ih := flatP_setA l i y
    rw [show (i + 1) * 4 + 2 = (i * 4 + 2) + 1 + 1 + 1 + 1 by omega]
    simp only [flatP, List.set_cons_succ, List.getD_cons_succ, ih]
theorem txP_snoc {l : List Pr} {p : Pr} (h : TxP l) (hp : p.t.size ≤ 9223372036854775807) : TxP (l ++ [p]) := fun j hj => by
  by_cases e : j < l.length
  · rw [show (l ++ [p]).getD j eP = l.getD j eP by simp [List.getD, List.getElem?_append_left e]]
    exact h j e
  · obtain rfl : j = l.length := by simp at hj; omega
    rw [show (l ++ [p]).getD l.length eP = p by simp [List.getD]]
    exact hp
theorem txP_flat : ∀ (x : Sh) (l : List Pr), TxP l → TxP (flat x l)
  | .none, l, h => txP_snoc h (by show 0 ≤ _; omega)
  | .empty, l, h => txP_snoc h (by show 0 ≤ _; omega)
  | .letter c, l, h => txP_snoc h (by show (one c).size ≤ _; unfold one; rw [strOfNums_size]; simp)
  | .any, l, h => txP_snoc h (by show 0 ≤ _; omega)
  | .seq a b, l, h => txP_snoc (txP_flat b _ (txP_flat a l h)) (by show 0 ≤ _; omega)
  | .alt a b, l, h => txP_snoc (txP_flat b _ (txP_flat a l h)) (by show 0 ≤ _; omega)
  | .many a, l, h => txP_snoc (txP_flat a l h) (by show 0 ≤ _; omega)
  | .inv a, l, h => txP_snoc (txP_flat a l h) (by show 0 ≤ _; omega)
theorem txP_setA {l : List Pr} (h : TxP l) (i : Nat) (y : Int) : TxP (l.set i { l.getD i eP with a := y }) := fun j hj => by
  have hj' : j < l.length := by simpa using hj
  by_cases e : j = i
  · subst e
    rw [show (l.set j { l.getD j eP with a := y }).getD j eP = { l.getD j eP with a := y } by simp [List.getD, hj']]
    exact h j hj'
  · rw [show (l.set i { l.getD i eP with a := y }).getD j eP = l.getD j eP by simp [List.getD, List.getElem?_set_ne (Ne.symm e)]]
    exact h j hj'
theorem grown_none {w w' : World} (h : w.grownBy w' none) : Below w.heap.size w w' := ⟨h.os, h.tape, h.output, h.size, fun k hk => h.block k hk (fun e => by cases e)⟩
/-- A drawn list of parts in new memory. -/
def DrF (w : World) (b M : Nat) (v : Value) (w' : World) : Prop := ∃ l : List Pr, (1 ≤ l.length ∧ l.length ≤ 15) ∧ TxP l ∧ OwP w' w.heap.size v l ∧ Cur w' b M ∧ w.grownBy w' (some b)

set_option maxRecDepth 100000 in
set_option maxHeartbeats 2000000 in
theorem drForm_any (b N : Nat) (w : World) (h : Cur w b N) (hN : N ≤ 100000) :
    Calls Try.prog 81 #[.pointer (some ⟨b, 0, none⟩)] w fun e w' => ∃ v, e = .returned v ∧ DrF w b (N + 96) v w' := by
  have hbw := h.lt
  have C1 := hide (formOf_any 3 (by omega) b N w h (by simp [Kd]; omega))
  clear h
  go_enter Try.func81, Try.ntmps81
  go_wp2_with fail
  refine C1.out.mono ?_
  rintro e w1 ⟨p, x, rfl, htr, hz, hok, hc1, hg1⟩
  have hz15 : sz x ≤ 15 := by simpa [Zd] using hz
  have hlen := flat_len x []
  simp only [List.length_nil, Nat.zero_add] at hlen
  have hsp := sz_pos x
  have C2 := hide (l5Flat_any x _ p w1.heap.size (.slice none 0 0) [] w1 htr (fun g _ e => by cases e) (World.ownsRow_nil _ _ _ _) (Nat.le_refl _) (by simp; omega))
  have H1 := hide (show Cur w1 b (N + 90) from hc1)
  have G1 := hide hg1
  have TX := hide (txP_flat x [] (fun j hj => by simp at hj))
  clear hc1 hg1 htr hz hok
  go_wp2_with fail
  refine C2.out.mono ?_
  rintro e w2 ⟨v, rfl, ho, hg, _⟩
  obtain ⟨l, hl⟩ : ∃ l, l = flat x [] := ⟨_, rfl⟩
  rw [← hl] at ho hlen TX
  obtain ⟨n, hn⟩ : ∃ n, n = l.length := ⟨_, rfl⟩
  have hn1 : 1 ≤ n := by omega
  have hn15 : n ≤ 15 := by omega
  have hb2 := grown_none hg
  have H2 := hide (H1.out.below hb2)
  have G2 := hide (L1.grown_trans G1.out (L1.below_grown hb2))
  have hsz1 := G1.out.size
  have OW := hide (show OwP w2 w.heap.size v l from own_baseT ho hsz1)
  obtain ⟨fa, fc, rfl⟩ := (show ∃ fa fc, v = .slice fa n fc by obtain ⟨y, z, e, _⟩ := own_formP ho; exact ⟨y, z, by rw [hn]; exact e⟩)
  have HN := hide hn.symm
  clear ho hg hb2 hl hlen H1 G1 C2 hn
  go_wp2_with fail
  refine (one_any b _ 20 _ H2.out (by omega) (by omega) (by omega)).mono ?_
  rintro e w3 ⟨t, rfl, hc3, hg3⟩
  have H3 := hide hc3
  have G3 := hide (L1.grown_trans G2.out hg3)
  have OW3 := hide (OW.out.grown hg3 (fun g hg e => by cases e; have := (OW.out.lt b hg).1; omega))
  clear hc3 hg3 H2 G2 OW
  cases t with
  | false =>
    go_wp2
    go_ret
    exact ⟨_, rfl, l, ⟨by rw [HN.out]; exact hn1, by rw [HN.out]; exact hn15⟩, TX.out, OW3.out, H3.out.mono (by omega), G3.out⟩
  | true =>
    go_wp2_with fail
    refine (pick_any b _ (n : Int) _ H3.out (by omega) (by omega) (by omega)).mono ?_
    rintro e w4 ⟨i0, rfl, hi0, _, hi1, hc4, hg4⟩
    have hi1' := hi1 (by omega)
    obtain ⟨i, rfl⟩ : ∃ i : Nat, i0 = (i : Int) := ⟨i0.toNat, by omega⟩
    have H4 := hide hc4
    have G4 := hide (L1.grown_trans G3.out hg4)
    have OW4 := hide (OW3.out.grown hg4 (fun g hg e => by cases e; have := (OW3.out.lt b hg).1; omega))
    clear hc4 hg4 hi1 H3 G3 OW3
    go_wp2_with fail
    refine (pick_any b _ 9 _ H4.out (by omega) (by omega) (by omega)).mono ?_
    rintro e w5 ⟨y, rfl, hy0, _, hy1, hc5, hg5⟩
    have hy1' := hy1 (by omega)
    have H5 := hide hc5
    have G5 := hide (L1.grown_trans G4.out hg5)
    have OW5 := hide (OW4.out.grown hg5 (fun g hg e => by cases e; have := (OW4.out.lt b hg).1; omega))
    clear hc5 hg5 hy1 H4 G4 OW4
    obtain ⟨g, rfl⟩ : ∃ g, fa = some ⟨g, 0, none⟩ := by
      rcases OW5.out.2 with ⟨hv, h0⟩ | ⟨g, cap2, cur, hv, _⟩
      · have := HN.out; omega
      · cases hv; exact ⟨g, rfl⟩
    have hin : i < n := by omega
    have hgB := (OW5.out.lt g rfl).1
    have how : w5.ownsRow w.heap.size 116 4 (.slice (some ⟨g, 0, none⟩) n fc) n (flatP l) := by have := OW5.out; unfold OwP at this; rw [HN.out] at this; exact this
    have hst := how.stored (i * 4 + 2) (.int .i64 (y - 1))
    have hcl := how.cellAt (i * 4 + 2) (by omega)
    have hfr := how.frozenAt (i * 4 + 2)
    rw [(flatP_get l i (by rw [HN.out]; exact hin)).2.2.1] at hcl
    have hlt : (i : Int) < (n : Int) := by omega
    have R : Hid (DrF w b (N + 96) (.slice (some ⟨g, 0, none⟩) n fc) (w5.setCell ⟨g, i * 4 + 2, none⟩ (.int .i64 (y - 1)))) := by
      refine ⟨l.set i { l.getD i eP with a := y - 1 }, ⟨by simp; rw [HN.out]; exact hn1, by simp; rw [HN.out]; exact hn15⟩, txP_setA TX.out i _, ?_, ?_, ?_⟩
      · show World.ownsRow _ _ _ _ _ (l.set i _).length _
        rw [List.length_set, HN.out, ← flatP_setA]
        exact hst.1
      · have : Cur (w5.setCell ⟨g, i * 4 + 2, none⟩ (.int .i64 (y - 1))) b _ := H5.out.kept fun k hk => Below.heap_setCell _ _ _ _ (by show k ≠ g; omega)
        exact this.mono (by omega)
      · exact L5.grown_trans G5.out hst.2 (fun q hq => by cases hq; exact .inr hgB)
    clear how hst
    go_wp2
    go_ret
    exact ⟨_, rfl, R.out⟩

/-- A drawn list of parts, for the caller. -/
def DrG (w : World) (v : Value) (w' : World) : Prop := ∃ l : List Pr, (1 ≤ l.length ∧ l.length ≤ 15) ∧ TxP l ∧ OwP w' w.heap.size v l ∧ Below w.heap.size w w'
theorem cur_newF {w : World} {a : Option Addr} {n cap : Nat} (h : Slb w w.heap.size a n) (hn : n ≤ 1048576) : Cur (w.alloc (Obj.cells #[.slice a n cap, .int .i64 0, .int .u64 0] 80)) w.heap.size 0 := by
  refine ⟨a, n, cap, 0, 0, ?_, Nat.le_refl _, hn, ?_⟩
  · show (w.heap.push _)[w.heap.size]? = _
    exact Array.getElem?_push_size
  · intro i hi
    obtain ⟨bb, off, x, ha, hb, hc, hx⟩ := h i hi
    exact ⟨bb, off, x, ha, hb, (((Below.refl w.heap.size w).alloc (Nat.le_refl _) _).cell (p := ⟨bb, off + i, none⟩) hb).trans hc, hx⟩
theorem grown_to_belowF {w w' : World} {o : Obj} (h : (w.alloc o).grownBy w' (some w.heap.size)) : Below w.heap.size w w' := by
  have hal := (Below.refl w.heap.size w).alloc (Nat.le_refl _) o
  refine ⟨h.os.trans hal.os, h.tape.trans hal.tape, h.output.trans hal.output, Nat.le_trans hal.size h.size, fun k hk => (h.block k (Nat.lt_of_lt_of_le hk hal.size) (fun e => ?_)).trans (hal.block k hk)⟩
  cases e
  omega

set_option maxRecDepth 100000 in
set_option maxHeartbeats 1000000 in
theorem drawGoodForm_any (a : Option Addr) (n cap : Nat) (w : World) (h : Slb w w.heap.size a n) (hn : n ≤ 1048576) :
    Calls Try.prog 101 #[.slice a n cap] w fun e w' => ∃ v, e = .returned v ∧ DrG w v w' := by
  have HC := hide (cur_newF (cap := cap) h hn)
  clear h
  go_enter Try.func101, Try.ntmps101
  go_wp2_with fail
  refine (drForm_any _ _ _ HC.out (by omega)).mono ?_
  rintro e w1 ⟨v, rfl, l, hl, ht, ho, hc, hg⟩
  have R := hide (show DrG w v w1 from ⟨l, hl, ht, own_baseT ho (by simp), grown_to_belowF hg⟩)
  obtain ⟨fa, fc, rfl⟩ := (show ∃ fa fc, v = .slice fa l.length fc by obtain ⟨y, z, e, _⟩ := own_formP ho; exact ⟨y, z, e⟩)
  clear hl ht ho hc hg
  go_wp2
  go_ret
  exact ⟨_, rfl, R.out⟩

set_option maxRecDepth 100000 in
set_option maxHeartbeats 1000000 in
theorem drawFormText_any (a : Option Addr) (n cap : Nat) (w : World) (h : Slb w w.heap.size a n) (hn : n ≤ 1048576) :
    Calls Try.prog 47 #[.slice a n cap] w fun e w' => ∃ v, e = .returned v ∧ DrG w v w' := by
  have HC := hide (drawGoodForm_any a n cap w h hn)
  clear h
  go_enter Try.func47, Try.ntmps47
  go_wp2_with fail
  refine HC.out.mono ?_
  rintro e w1 ⟨v, rfl, hd⟩
  have R := hide hd
  obtain ⟨l, hl, ht, ho, hb⟩ := hd
  obtain ⟨fa, fc, rfl⟩ := (show ∃ fa fc, v = .slice fa l.length fc by obtain ⟨y, z, e, _⟩ := own_formP ho; exact ⟨y, z, e⟩)
  clear hl ht ho hb
  go_wp2
  go_ret
  exact ⟨_, rfl, R.out⟩
end Go.Proofs.Ytapffbbmofhpoab.L5

namespace Go.Proofs.Ytapffbbmofhpoab.L5
open Go.RowKit L1 L4
set_option linter.unusedVariables false

set_option maxRecDepth 100000 in
set_option maxHeartbeats 8000000 in
theorem l5Text_any (S : Nat → Prop) : ∀ (x : Sh) (p : Option Addr) (w : World), Tr w S p x → okS x → sz x ≤ 1000000 → Calls Try.prog 103 #[.pointer p] w fun e w' => e = .returned (.string (tx x)) ∧ Below w.heap.size w w'
  | .none, p, w, ⟨g, pa, pb, e, _, hf⟩, _, _ => by
    subst e
    have c0 := hf.k
    have c1 := hf.t
    clear hf
    go_enter Try.func103, Try.ntmps103
    go_wp2
    go_ret
    exact ⟨rfl, Below.refl _ _⟩
  | .empty, p, w, ⟨g, pa, pb, e, _, hf⟩, _, _ => by
    subst e
    have c0 := hf.k
    have c1 := hf.t
    clear hf
    go_enter Try.func103, Try.ntmps103
    go_wp2
    go_ret
    exact ⟨rfl, Below.refl _ _⟩
  | .letter c, p, w, ⟨g, pa, pb, e, _, hf⟩, _, _ => by
    subst e
    have c0 := hf.k
    have c1 := hf.t
    clear hf
    go_enter Try.func103, Try.ntmps103
    go_wp2
    go_ret
    exact ⟨rfl, Below.refl _ _⟩
  | .any, p, w, ⟨g, pa, pb, e, _, hf⟩, _, _ => by
    subst e
    have c0 := hf.k
    have c1 := hf.t
    clear hf
    go_enter Try.func103, Try.ntmps103
    go_wp2
    go_ret
    exact ⟨rfl, Below.refl _ _⟩
  | .seq a b, p, w, ⟨g, pa, pb, e, _, hf, ta, tb⟩, hok, hsz => by
    subst e
    simp only [sz] at hsz
    have IA := hide (fun w h => l5Text_any S a pa w h hok.1 (by omega))
    have IB := hide (fun w h => l5Text_any S b pb w h hok.2 (by omega))
    have TA := hide ta
    have TB := hide tb
    have ha := tx_size a
    have hb := tx_size b
    have c0 := hf.k
    have c2 := hf.a
    have c3 := hf.b
    obtain ⟨A, hA⟩ : ∃ A, A = tx a := ⟨_, rfl⟩
    obtain ⟨B, hB⟩ : ∃ B, B = tx b := ⟨_, rfl⟩
    have HR : Hid (tx (.seq a b) = ((⟨#[40]⟩ : ByteArray) ++ A ++ B) ++ (⟨#[41]⟩ : ByteArray)) := hide (by rw [hA, hB]; rfl)
    simp only [← hA] at IA ha
    simp only [← hB] at IB hb
    rw [HR.out]
    have q0 : ∀ w : World, (Op.stringOp .add (⟨#[40]⟩ : ByteArray) (A)).run Try.prog w = .ok (.string ((⟨#[40]⟩ : ByteArray) ++ (A))) w := fun w => run_string_add_sum w _ _ (by simp only [one_sz]; omega)
    have q1 : ∀ w : World, (Op.stringOp .add ((⟨#[40]⟩ : ByteArray) ++ (A)) (B)).run Try.prog w = .ok (.string (((⟨#[40]⟩ : ByteArray) ++ (A)) ++ (B))) w := fun w => run_string_add_sum w _ _ (by simp only [ByteArray.size_append, one_sz]; omega)
    have q2 : ∀ w : World, (Op.stringOp .add (((⟨#[40]⟩ : ByteArray) ++ (A)) ++ (B)) (⟨#[41]⟩ : ByteArray)).run Try.prog w = .ok (.string ((((⟨#[40]⟩ : ByteArray) ++ (A)) ++ (B)) ++ (⟨#[41]⟩ : ByteArray))) w := fun w => run_string_add_sum w _ _ (by simp only [ByteArray.size_append, one_sz]; omega)
    clear hA hB ha hb hok hsz HR hf ta tb
    go_enter Try.func103, Try.ntmps103
    go_wp2
    go_region_held3 (fun wx => (wx.cell? ⟨g, 2, none⟩ = some (.pointer pa) ∧ wx.cell? ⟨g, 3, none⟩ = some (.pointer pb)) ∧ Below w.heap.size w wx) (first | exact ⟨⟨c2, c3⟩, (Below.refl _ _).drew⟩ | exact keep1T (by assumption) (by assumption) (Nat.le_refl _)) (first | (go_at_call_of 103 (Value.pointer pa); refine (IA.out _ (TA.out.below (show (_ ∧ _) ∧ Below w.heap.size w _ by assumption).2)).mono ?_; rintro e w1 ⟨rfl, hb⟩) | (go_at_call_of 103 (Value.pointer pb); refine (IB.out _ (TB.out.below (show (_ ∧ _) ∧ Below w.heap.size w _ by assumption).2)).mono ?_; rintro e w1 ⟨rfl, hb⟩))
    rename_i hHeld
    have B1 := hide hHeld.2
    clear hHeld
    go_wp2
    go_ret
    exact ⟨rfl, B1.out⟩
  | .alt a b, p, w, ⟨g, pa, pb, e, _, hf, ta, tb⟩, hok, hsz => by
    subst e
    simp only [sz] at hsz
    have IA := hide (fun w h => l5Text_any S a pa w h hok.1 (by omega))
    have IB := hide (fun w h => l5Text_any S b pb w h hok.2 (by omega))
    have TA := hide ta
    have TB := hide tb
    have ha := tx_size a
    have hb := tx_size b
    have c0 := hf.k
    have c2 := hf.a
    have c3 := hf.b
    obtain ⟨A, hA⟩ : ∃ A, A = tx a := ⟨_, rfl⟩
    obtain ⟨B, hB⟩ : ∃ B, B = tx b := ⟨_, rfl⟩
    have HR : Hid (tx (.alt a b) = (((⟨#[91]⟩ : ByteArray) ++ A) ++ (⟨#[124]⟩ : ByteArray) ++ B) ++ (⟨#[93]⟩ : ByteArray)) := hide (by rw [hA, hB]; rfl)
    simp only [← hA] at IA ha
    simp only [← hB] at IB hb
    rw [HR.out]
    have q0 : ∀ w : World, (Op.stringOp .add (⟨#[91]⟩ : ByteArray) (A)).run Try.prog w = .ok (.string ((⟨#[91]⟩ : ByteArray) ++ (A))) w := fun w => run_string_add_sum w _ _ (by simp only [one_sz]; omega)
    have q1 : ∀ w : World, (Op.stringOp .add ((⟨#[91]⟩ : ByteArray) ++ (A)) (⟨#[124]⟩ : ByteArray)).run Try.prog w = .ok (.string (((⟨#[91]⟩ : ByteArray) ++ (A)) ++ (⟨#[124]⟩ : ByteArray))) w := fun w => run_string_add_sum w _ _ (by simp only [ByteArray.size_append, one_sz]; omega)
    have q2 : ∀ w : World, (Op.stringOp .add (((⟨#[91]⟩ : ByteArray) ++ (A)) ++ (⟨#[124]⟩ : ByteArray)) (B)).run Try.prog w = .ok (.string ((((⟨#[91]⟩ : ByteArray) ++ (A)) ++ (⟨#[124]⟩ : ByteArray)) ++ (B))) w := fun w => run_string_add_sum w _ _ (by simp only [ByteArray.size_append, one_sz]; omega)
    have q3 : ∀ w : World, (Op.stringOp .add ((((⟨#[91]⟩ : ByteArray) ++ (A)) ++ (⟨#[124]⟩ : ByteArray)) ++ (B)) (⟨#[93]⟩ : ByteArray)).run Try.prog w = .ok (.string (((((⟨#[91]⟩ : ByteArray) ++ (A)) ++ (⟨#[124]⟩ : ByteArray)) ++ (B)) ++ (⟨#[93]⟩ : ByteArray))) w := fun w => run_string_add_sum w _ _ (by simp only [ByteArray.size_append, one_sz]; omega)
    clear hA hB ha hb hok hsz HR hf ta tb
    go_enter Try.func103, Try.ntmps103
    go_wp2
    go_region_held3 (fun wx => (wx.cell? ⟨g, 2, none⟩ = some (.pointer pa) ∧ wx.cell? ⟨g, 3, none⟩ = some (.pointer pb)) ∧ Below w.heap.size w wx) (first | exact ⟨⟨c2, c3⟩, (Below.refl _ _).drew⟩ | exact keep1T (by assumption) (by assumption) (Nat.le_refl _)) (first | (go_at_call_of 103 (Value.pointer pa); refine (IA.out _ (TA.out.below (show (_ ∧ _) ∧ Below w.heap.size w _ by assumption).2)).mono ?_; rintro e w1 ⟨rfl, hb⟩) | (go_at_call_of 103 (Value.pointer pb); refine (IB.out _ (TB.out.below (show (_ ∧ _) ∧ Below w.heap.size w _ by assumption).2)).mono ?_; rintro e w1 ⟨rfl, hb⟩))
    rename_i hHeld
    have B1 := hide hHeld.2
    clear hHeld
    go_wp2
    go_ret
    exact ⟨rfl, B1.out⟩
  | .many a, p, w, ⟨g, pa, pb, e, _, hf, ta⟩, hok, hsz => by
    subst e
    simp only [sz] at hsz
    have IA := hide (l5Text_any S a pa w ta hok (by omega))
    have ha := tx_size a
    have c0 := hf.k
    have c2 := hf.a
    have ha2 : ((tx a).size : Int) ≤ 3000000 := by omega
    clear ha hok hsz hf ta
    go_enter Try.func103, Try.ntmps103
    go_wp2_with fail
    refine IA.out.mono ?_
    rintro e w1 ⟨rfl, hb1⟩
    have B1 := hide hb1
    clear hb1
    go_wp2
    go_ret
    exact ⟨rfl, B1.out⟩
  | .inv a, p, w, ⟨g, pa, pb, e, _, hf, ta⟩, hok, hsz => by
    subst e
    simp only [sz] at hsz
    have IA := hide (l5Text_any S a pa w ta hok (by omega))
    have ha := tx_size a
    have c0 := hf.k
    have c2 := hf.a
    have ha2 : ((tx a).size : Int) ≤ 3000000 := by omega
    clear ha hok hsz hf ta
    go_enter Try.func103, Try.ntmps103
    go_wp2_with fail
    refine IA.out.mono ?_
    rintro e w1 ⟨rfl, hb1⟩
    have B1 := hide hb1
    clear hb1
    go_wp2
    go_ret
    exact ⟨rfl, B1.out⟩
open Classical in
set_option maxRecDepth 100000 in
set_option maxHeartbeats 2000000 in
theorem specFormText_any (a : Option Addr) (l : List Pr) (n cap : Nat) (w : World) (hn : l.length = n) (hs : SlP w a l) (hn2 : n ≤ 1048576) (hst : TxP l) (b2 : Bool) (t : ByteArray) (h2 : b2 = true ↔ GoodF l) (h1 : t = if b2 = true then tx (whole l) else ByteArray.empty) :
    Calls Try.prog 49 #[.slice a n cap] w fun e w' => e = .returned (.tuple #[.string t, .bool b2]) ∧ Below w.heap.size w w' := by
  have C1 := hide (specGoodForm_any a l n cap w hn hs hn2 hst b2 h2)
  by_cases hg : GoodF l
  · obtain rfl : b2 = true := h2.2 hg
    have C2 := hide (fun w hs => l5Tree_whole a l n cap w hn hg hs)
    have HOK := hide (okS_whole hg)
    have HSZ : Hid (sz (whole l) ≤ 1000000) := hide (by rw [whole_size hg]; have := hg.1; omega)
    have HS := hide hs
    rw [if_pos rfl] at h1
    have H1 := hide h1
    have hnI : (1 : Int) ≤ (n : Int) := by have := hg.1; omega
    clear hn hs hst h2 h1 hg
    go_enter Try.func49, Try.ntmps49
    go_wp2_with fail
    refine C1.out.mono ?_
    rintro e w1 ⟨rfl, hb1⟩
    have B1 := hide hb1
    clear hb1
    go_wp2_with fail
    refine (C2.out _ (HS.out.below B1.out)).mono ?_
    rintro e w2 ⟨p, rfl, ht, hb2⟩
    have B2 := hide (B1.out.trans (hb2.mono B1.out.size))
    have C3 := hide (l5Text_any _ _ _ _ ht HOK.out HSZ.out)
    clear hb2 ht
    go_wp2_with fail
    refine C3.out.mono ?_
    rintro e w3 ⟨rfl, hb3⟩
    have B3 := hide (B2.out.trans (hb3.mono B2.out.size))
    clear hb3
    go_wp2
    go_ret2
    exact ⟨by rw [H1.out]; rfl, B3.out⟩
  · obtain rfl : b2 = false := bool_noT h2 hg
    rw [if_neg (by simp)] at h1
    subst h1
    clear hn hs hst h2 hg
    go_enter Try.func49, Try.ntmps49
    go_wp2_with fail
    refine C1.out.mono ?_
    rintro e w1 ⟨rfl, hb1⟩
    go_wp2
    go_ret2
    exact ⟨rfl, hb1⟩
open Classical in
set_option maxRecDepth 100000 in
set_option maxHeartbeats 2000000 in
theorem implFormText_any (a : Option Addr) (l : List Pr) (n cap : Nat) (w : World) (hn : l.length = n) (hs : SlP w a l) (hn2 : n ≤ 1048576) (hst : TxP l) (b2 : Bool) (t : ByteArray) (h2 : b2 = true ↔ GoodF l) (h1 : t = if b2 = true then tx (whole l) else ByteArray.empty) :
    Calls Try.prog 48 #[.slice a n cap] w fun e w' => e = .returned (.tuple #[.string t, .bool b2]) ∧ Below w.heap.size w w' := by
  have C1 := hide (goodForm_any a l n cap w hn hs hn2 hst b2 h2)
  by_cases hg : GoodF l
  · obtain rfl : b2 = true := h2.2 hg
    have C2 := hide (fun w hs => shapeOf_any a l n cap w hn hs hg)
    have HOK := hide (okS_whole hg)
    have HSZ : Hid (sz (whole l) ≤ 1000000) := hide (by rw [whole_size hg]; have := hg.1; omega)
    have HS := hide hs
    rw [if_pos rfl] at h1
    have H1 := hide h1
    have hnI : (1 : Int) ≤ (n : Int) := by have := hg.1; omega
    clear hn hs hst h2 h1 hg
    go_enter Try.func48, Try.ntmps48
    go_wp2_with fail
    refine C1.out.mono ?_
    rintro e w1 ⟨rfl, hb1⟩
    have B1 := hide hb1
    clear hb1
    go_wp2_with fail
    refine (C2.out _ (HS.out.below B1.out)).mono ?_
    rintro e w2 ⟨rfl, hb2⟩
    have B2 := hide (B1.out.trans (hb2.mono B1.out.size))
    clear hb2
    go_wp2_with fail
    refine (textOf_any _ _ HOK.out HSZ.out).mono ?_
    rintro e w3 ⟨rfl, hb3⟩
    have B3 := hide (B2.out.trans (hb3.mono B2.out.size))
    clear hb3
    go_wp2
    go_ret2
    exact ⟨by rw [H1.out]; rfl, B3.out⟩
  · obtain rfl : b2 = false := bool_noT h2 hg
    rw [if_neg (by simp)] at h1
    subst h1
    clear hn hs hst h2 hg
    go_enter Try.func48, Try.ntmps48
    go_wp2_with fail
    refine C1.out.mono ?_
    rintro e w1 ⟨rfl, hb1⟩
    go_wp2
    go_ret2
    exact ⟨rfl, hb1⟩
end Go.Proofs.Ytapffbbmofhpoab.L5

namespace Go.Proofs.Ytapffbbmofhpoab.L1
open Go.RowKit
set_option linter.unusedVariables false

theorem grown_then_below {a b c : World} {r : Option Nat} (h : a.grownBy b r) (k : Below a.heap.size b c) : a.grownBy c r :=
  ⟨k.os.trans h.os, k.tape.trans h.tape, k.output.trans h.output, Nat.le_trans h.size k.size, fun i hi hn => (k.block i hi).trans (h.block i hi hn)⟩
theorem Cur.keptBelow {w w' : World} {b N B : Nat} (h : Cur w b N) (hb : Below B w w') (hB : b < B) : Cur w' b N := h.kept fun k hk => hb.block k (by omega)
theorem one_conv (w : World) (x : Int) :
    (convert 22 9 (.slice (some ⟨w.heap.size, 0, none⟩) 1 1)).run Try.prog (w.alloc (.cells #[.int .u8 x] 5)) = .ok (.string (strOfNums [x])) (w.alloc (.cells #[.int .u8 x] 5)) :=
  run_convert_bytes_arg _ 22 5 Try.underlying22 Try.underlying5 w.heap.size 0 1 1 [x] rfl (fun i hi => by
    obtain rfl : i = 0 := by omega
    simp) 9 Try.underlying9

set_option maxRecDepth 100000 in
set_option maxHeartbeats 1000000 in
theorem spoilt_any (b N : Nat) (t wi : ByteArray) (w : World) (h : Cur w b N) (hN : N ≤ 10000000) (ht : t.size ≤ 100000) (hw1 : 1 ≤ wi.size) (hw2 : wi.size ≤ 100) :
    Calls Try.prog 105 #[.pointer (some ⟨b, 0, none⟩), .string t, .string wi] w fun e w' => ∃ (u : ByteArray), e = .returned (.string u) ∧ u.size ≤ t.size + 2 ∧ Cur w' b (N + 14) ∧ w.grownBy w' (some b) := by
  have HC := hide h
  clear h
  go_enter Try.func105, Try.ntmps105
  go_wp2_with fail
  refine (pick_any b N _ _ HC.out (by omega) (by omega) (by omega)).mono ?_
  rintro e w1 ⟨x, rfl, hx0, hx1, hx2, hc1, hg1⟩
  have hx3 : x < 3 := hx2 (by omega)
  obtain ⟨k0, rfl⟩ : ∃ k : Nat, x = (k : Int) := ⟨x.toNat, by omega⟩
  have hk0 : k0 ≤ 2 := by omega
  have H1 := hide hc1
  have G1 := hide hg1
  clear hc1 hg1 hx2
  go_wp2
  go_loopw [1, 7] (fun o i wr => ∃ (k : Nat) (u : ByteArray), k ≤ 2 ∧ u.size + k ≤ t.size + 2 ∧ i = .int .i64 (k : Int) ∧ o = .string u ∧ Hid (Cur wr b (N + 14 - 6 * k)) ∧ Hid (w.grownBy wr (some b))) (fun _ i _ => (intOf i).toNat)
  case atStart => exact ⟨k0, t, hk0, by omega, rfl, rfl, H1.out.mono (by omega), G1.out⟩
  case round =>
    obtain ⟨k, u, hk, hu, rfl, rfl, HCr, HGr⟩ := hrel
    by_cases hlt : 0 < k
    · have hltI : (0 : Int) < (k : Int) := by omega
      by_cases hu0 : 0 < u.size
      · have huI : (0 : Int) < (u.size : Int) := by omega
        go_wp2_with fail
        refine (pick_any b (N + 14 - 6 * k) _ _ HCr.out (by omega) (by omega) (by omega)).mono ?_
        rintro e w2 ⟨i, rfl, hi0, hi1, hi2, hc2, hg2⟩
        have hi3 : i < (u.size : Int) := hi2 (by omega)
        obtain ⟨j, rfl⟩ : ∃ j : Nat, i = (j : Int) := ⟨i.toNat, by omega⟩
        have hj : j < u.size := by omega
        have H2 := hide hc2
        have G2 := hide (grown_trans HGr.out hg2)
        clear hc2 hg2 hi2 HCr HGr
        go_wp2_with fail
        refine (pick_any b (N + 14 - 6 * k + 2) _ _ H2.out (by omega) (by omega) (by omega)).mono ?_
        rintro e w3 ⟨i2, rfl, hp0, hp1, hp2, hc3, hg3⟩
        have hp3 : i2 < (wi.size : Int) := hp2 (by omega)
        obtain ⟨q, rfl⟩ : ∃ q : Nat, i2 = (q : Int) := ⟨i2.toNat, by omega⟩
        have hq : q < wi.size := by omega
        have H3 := hide hc3
        have G3 := hide (grown_trans G2.out hg3)
        have hcv := one_conv w3 ((wi[q]'hq).toNat : Int)
        have hWs : (strOfNums [((wi[q]'hq).toNat : Int)]).size = 1 := by rw [strOfNums_size]; rfl
        obtain ⟨Wd, hWd⟩ : ∃ Wd, Wd = strOfNums [((wi[q]'hq).toNat : Int)] := ⟨_, rfl⟩
        rw [← hWd] at hcv hWs
        have hWs2 : Wd.size ≤ 1 := by omega
        have hus : u.size ≤ 100002 := by omega
        have C3 := hide (H3.out.alloc (Obj.cells #[Value.int .u8 ((wi[q]'hq).toNat : Int)] 5))
        have D3 := hide (grown_trans G3.out (grown_alloc w3 (Obj.cells #[Value.int .u8 ((wi[q]'hq).toNat : Int)] 5) b))
        clear hc3 hg3 hp2 H2 G2 H3 G3 hWd hWs
        go_wp2_with fail
        refine (pick_any b (N + 14 - 6 * k + 4) _ _ C3.out (by omega) (by omega) (by omega)).mono ?_
        rintro e w4 ⟨z, rfl, hz0, hz1, hz2, hc4, hg4⟩
        have hz3 : z < 3 := hz2 (by omega)
        have H4 := hide hc4
        have G4 := hide (grown_trans D3.out hg4)
        have hj0I : (0 : Int) ≤ (j : Int) := by omega
        have hj1I : (j : Int) ≤ (u.size : Int) := by omega
        have hj2I : (j : Int) + 1 ≤ (u.size : Int) := by omega
        have hs1 := @ByteArray.size_extract u 0 j
        have hs2 := @ByteArray.size_extract u j u.size
        have hs3 := @ByteArray.size_extract u (j + 1) u.size
        have hb1 : (u.extract 0 j).size ≤ 100002 := by omega
        have hb2 : (u.extract j u.size).size ≤ 100002 := by omega
        have hb3 : (u.extract (j + 1) u.size).size ≤ 100002 := by omega
        have hz : z = 0 ∨ z = 1 ∨ z = 2 := by omega
        have HS := hide (And.intro hs1 (And.intro hs2 hs3))
        clear hc4 hg4 hz2 C3 D3 hs1 hs2 hs3 hcv
        rcases hz with rfl | rfl | rfl
        · go_wp2
          go_quiet (fail)
          go_wp2
          go_roundw
          case rel =>
            refine ⟨k - 1, _, by omega, ?_, by go_num, rfl, (H4.out.kept (fun _ _ => rfl)).mono (by omega), grown_trans G4.out ⟨rfl, rfl, rfl, Nat.le_refl _, fun _ _ _ => rfl⟩⟩
            have := HS.out
            simp only [ByteArray.size_append]
            omega
          case measure => simp [intOf]; omega
        · go_wp2
          go_quiet (fail)
          go_wp2
          go_roundw
          case rel =>
            refine ⟨k - 1, _, by omega, ?_, by go_num, rfl, (H4.out.kept (fun _ _ => rfl)).mono (by omega), grown_trans G4.out ⟨rfl, rfl, rfl, Nat.le_refl _, fun _ _ _ => rfl⟩⟩
            have := HS.out
            simp only [ByteArray.size_append]
            omega
          case measure => simp [intOf]; omega
        · go_wp2
          go_quiet (fail)
          go_wp2
          go_roundw
          case rel =>
            refine ⟨k - 1, _, by omega, ?_, by go_num, rfl, (H4.out.kept (fun _ _ => rfl)).mono (by omega), grown_trans G4.out ⟨rfl, rfl, rfl, Nat.le_refl _, fun _ _ _ => rfl⟩⟩
            have := HS.out
            simp only [ByteArray.size_append]
            omega
          case measure => simp [intOf]; omega
      · have huI : ¬ (0 : Int) < (u.size : Int) := by omega
        go_wp2
        go_ret
        exact ⟨_, rfl, by omega, HCr.out.mono (by omega), HGr.out⟩
    · have hltI : ¬ (0 : Int) < (k : Int) := by omega
      go_wp2
      go_ret
      exact ⟨_, rfl, by omega, HCr.out.mono (by omega), HGr.out⟩
end Go.Proofs.Ytapffbbmofhpoab.L1

namespace Go.Proofs.Ytapffbbmofhpoab.L5
open Go.RowKit L1 L4
set_option linter.unusedVariables false

theorem below_drewT {N : Nat} {w w' : World} (h : Below N w w') : ∀ q, Below N w (w'.drewN q)
  | 0 => h
  | q + 1 => (below_drewT h q).drew
set_option maxRecDepth 100000 in
set_option maxHeartbeats 1000000 in
theorem sameForm_same (a b : Option Addr) (xs : List Pr) (n c1 c2 : Nat) (w : World) (hn : xs.length = n) (ha : SlP w a xs) (hb : SlP w b xs) (hn2 : n ≤ 1048576) :
    Calls Try.prog 45 #[.slice a n c1, .slice b n c2] w fun e w' => e = .returned (.bool true) ∧ Below w.heap.size w w' := by
  have HA := hide ha
  have HB := hide hb
  have HN := hide hn
  clear ha hb hn
  go_enter Try.func45, Try.ntmps45
  go_wp2
  go_loopw [13] (fun i wr => ∃ k : Nat, k ≤ n ∧ i = .int .i64 k ∧ Below w.heap.size w wr) (fun i _ => n - (intOf i).toNat)
  case atStart => exact ⟨0, Nat.zero_le _, rfl, Below.refl _ _⟩
  case round =>
    obtain ⟨k, hk, rfl, hbel⟩ := hrel
    by_cases hlt : k < n
    · obtain ⟨b1, o1, rfl, h1⟩ := HA.out k (by rw [HN.out]; exact hlt)
      obtain ⟨b2, o2, rfl, h2⟩ := HB.out k (by rw [HN.out]; exact hlt)
      have g0 := (hbel.cell (p := ⟨b1, o1 + k * 4, none⟩) (blk_lt h1.k)).trans h1.k
      have g1 := (hbel.cell (p := ⟨b1, o1 + k * 4 + 1, none⟩) (blk_lt h1.k)).trans h1.t
      have g2 := (hbel.cell (p := ⟨b1, o1 + k * 4 + 2, none⟩) (blk_lt h1.k)).trans h1.a
      have g3 := (hbel.cell (p := ⟨b1, o1 + k * 4 + 3, none⟩) (blk_lt h1.k)).trans h1.b
      have g4 := (hbel.cell (p := ⟨b2, o2 + k * 4, none⟩) (blk_lt h2.k)).trans h2.k
      have g5 := (hbel.cell (p := ⟨b2, o2 + k * 4 + 1, none⟩) (blk_lt h2.k)).trans h2.t
      have g6 := (hbel.cell (p := ⟨b2, o2 + k * 4 + 2, none⟩) (blk_lt h2.k)).trans h2.a
      have g7 := (hbel.cell (p := ⟨b2, o2 + k * 4 + 3, none⟩) (blk_lt h2.k)).trans h2.b
      obtain ⟨p, hp⟩ : ∃ p, p = xs.getD k eP := ⟨_, rfl⟩
      rw [← hp] at g0 g1 g2 g3 g4 g5 g6 g7
      obtain ⟨pk, pt, pa, pb⟩ := p
      simp only at g0 g1 g2 g3 g4 g5 g6 g7
      have hltI : (k : Int) < (n : Int) := by omega
      have hk0 : (0 : Int) ≤ (k : Int) := by omega
      clear h1 h2 hp
      go_wp2
      go_quiet (fail)
      go_wp2
      go_roundw
      case rel => exact ⟨k + 1, by omega, by go_num, below_drewT hbel _⟩
      case measure => simp [intOf]; omega
    · have hltI : ¬ (k : Int) < (n : Int) := by omega
      go_wp2
      go_ret
      exact ⟨rfl, hbel⟩

set_option maxRecDepth 100000 in
set_option maxHeartbeats 1000000 in
theorem drawNotForm_any (a : Option Addr) (n cap : Nat) (w : World) (h : Slb w w.heap.size a n) (hn : n ≤ 1048576) :
    Calls Try.prog 53 #[.slice a n cap] w fun e w' => ∃ v, e = .returned v ∧ DrG w v w' := by
  have HC := hide (drawGoodForm_any a n cap w h hn)
  clear h
  go_enter Try.func53, Try.ntmps53
  go_wp2_with fail
  refine HC.out.mono ?_
  rintro e w1 ⟨v, rfl, hd⟩
  have R := hide hd
  obtain ⟨l, hl, ht, ho, hb⟩ := hd
  obtain ⟨fa, fc, rfl⟩ := (show ∃ fa fc, v = .slice fa l.length fc by obtain ⟨y, z, e, _⟩ := own_formP ho; exact ⟨y, z, e⟩)
  clear hl ht ho hb
  go_wp2
  go_ret
  exact ⟨_, rfl, R.out⟩

/-- spec.FormText of few parts: a text that is not long. -/
theorem specFormText_few (a : Option Addr) (l : List Pr) (n cap : Nat) (w : World) (hn : l.length = n) (hs : SlP w a l) (hn2 : n ≤ 24) (hst : TxP l) :
    Calls Try.prog 49 #[.slice a n cap] w fun e w' => ∃ (t : ByteArray) (ok : Bool), e = .returned (.tuple #[.string t, .bool ok]) ∧ t.size ≤ 72 ∧ Below w.heap.size w w' := by
  by_cases hg : GoodF l
  · refine (specFormText_any a l n cap w hn hs (by omega) hst true _ (by simp [hg]) rfl).mono ?_
    rintro e w' ⟨rfl, hb⟩
    refine ⟨_, _, rfl, ?_, hb⟩
    rw [if_pos rfl]
    have h1 := tx_size (whole l)
    have h2 := whole_size hg
    omega
  · refine (specFormText_any a l n cap w hn hs (by omega) hst false _ (by simp [hg]) rfl).mono ?_
    rintro e w' ⟨rfl, hb⟩
    exact ⟨_, _, rfl, by show 0 ≤ 72; omega, hb⟩

set_option maxRecDepth 100000 in
set_option maxHeartbeats 1000000 in
theorem drawReadForm_any (a : Option Addr) (n cap : Nat) (w : World) (h : Slb w w.heap.size a n) (hn : n ≤ 1048576) :
    Calls Try.prog 51 #[.slice a n cap] w fun e w' => ∃ u : ByteArray, e = .returned (.string u) ∧ u.size ≤ 1000 ∧ Below w.heap.size w w' := by
  have HC := hide (cur_newF (cap := cap) h hn)
  clear h
  go_enter Try.func51, Try.ntmps51
  go_wp2_with fail
  refine (drForm_any _ _ _ HC.out (by omega)).mono ?_
  rintro e w1 ⟨v, rfl, l, hl, ht, ho, hc, hg⟩
  obtain ⟨m, hm⟩ : ∃ m, m = l.length := ⟨_, rfl⟩
  obtain ⟨fa, fc, rfl, hsl, _⟩ := own_formP ho
  rw [← hm] at hl ⊢
  have CE := hide (specFormText_few fa l m fc w1 hm.symm hsl (by omega) ht)
  have C1 := hide hc
  have G1 := hide hg
  clear hc hg ho hsl ht hm HC
  go_wp2_with fail
  refine CE.out.mono ?_
  rintro e w2 ⟨t, ok, rfl, htz, hb2⟩
  have C2 := hide (C1.out.below hb2)
  have G2 := hide (L1.grown_trans G1.out (L1.below_grown hb2))
  clear hb2 C1 G1 CE
  go_wp2_with fail
  refine (one_any _ _ 3 _ C2.out (by omega) (by omega) (by omega)).mono ?_
  rintro e w3 ⟨q, rfl, hc3, hg3⟩
  have C3 := hide hc3
  have G3 := hide (L1.grown_trans G2.out hg3)
  clear hc3 hg3 C2 G2
  cases q with
  | false =>
    go_wp2
    go_ret
    exact ⟨t, rfl, by omega, grown_to_belowF G3.out⟩
  | true =>
    go_wp2_with fail
    refine (spoilt_any _ _ t _ _ C3.out (by omega) (by omega) (by decide) (by decide)).mono ?_
    rintro e w4 ⟨u, rfl, hu, hc4, hg4⟩
    have G4 := hide (L1.grown_trans G3.out hg4)
    clear hc4 hg4 C3 G3
    go_wp2
    go_ret
    exact ⟨u, rfl, by omega, grown_to_belowF G4.out⟩
end Go.Proofs.Ytapffbbmofhpoab.L5

namespace Go.Proofs.Ytapffbbmofhpoab.L5
open Go.RowKit L1 L4
set_option linter.unusedVariables false

set_option maxRecDepth 100000 in
set_option maxHeartbeats 1000000 in
theorem sameTexts_same (a b : Option Addr) (xs : List ByteArray) (n c1 c2 : Nat) (w : World) (hn : xs.length = n) (ha : SlT w a xs) (hb : SlT w b xs) (hn2 : n ≤ 1048576) :
    Calls Try.prog 46 #[.slice a n c1, .slice b n c2] w fun e w' => e = .returned (.bool true) ∧ Below w.heap.size w w' := by
  have HA := hide ha
  have HB := hide hb
  have HN := hide hn
  clear ha hb hn
  go_enter Try.func46, Try.ntmps46
  go_wp2
  go_loopw [13] (fun i wr => ∃ k : Nat, k ≤ n ∧ i = .int .i64 k ∧ Below w.heap.size w wr) (fun i _ => n - (intOf i).toNat)
  case atStart => exact ⟨0, Nat.zero_le _, rfl, Below.refl _ _⟩
  case round =>
    obtain ⟨k, hk, rfl, hbel⟩ := hrel
    by_cases hlt : k < n
    · obtain ⟨b1, o1, rfl, h1⟩ := HA.out k (by rw [HN.out]; exact hlt)
      obtain ⟨b2, o2, rfl, h2⟩ := HB.out k (by rw [HN.out]; exact hlt)
      have g0 := (hbel.cell (p := ⟨b1, o1 + k, none⟩) (blk_lt h1)).trans h1
      have g1 := (hbel.cell (p := ⟨b2, o2 + k, none⟩) (blk_lt h2)).trans h2
      obtain ⟨p, hp⟩ : ∃ p, p = xs.getD k e0 := ⟨_, rfl⟩
      rw [← hp] at g0 g1
      have hltI : (k : Int) < (n : Int) := by omega
      have hk0 : (0 : Int) ≤ (k : Int) := by omega
      clear h1 h2 hp
      go_wp2
      go_quiet (fail)
      go_wp2
      go_roundw
      case rel => exact ⟨k + 1, by omega, by go_num, below_drewT hbel _⟩
      case measure => simp [intOf]; omega
    · have hltI : ¬ (k : Int) < (n : Int) := by omega
      go_wp2
      go_ret
      exact ⟨rfl, hbel⟩

set_option maxRecDepth 100000 in
set_option maxHeartbeats 1000000 in
theorem drawWordsOf_any (a : Option Addr) (n cap : Nat) (w : World) (h : Slb w w.heap.size a n) (hn : n ≤ 1048576) :
    Calls Try.prog 42 #[.slice a n cap] w fun e w' => ∃ v, ∃ y : Int, e = .returned (.tuple #[v, .int .i64 y]) ∧ DrG w v w' := by
  have HC := hide (cur_newF (cap := cap) h hn)
  clear h
  go_enter Try.func42, Try.ntmps42
  go_wp2_with fail
  refine (drForm_any _ _ _ HC.out (by omega)).mono ?_
  rintro e w1 ⟨v, rfl, l, hl, ht, ho, hc, hg⟩
  obtain ⟨fa, fc, rfl⟩ := (show ∃ fa fc, v = .slice fa l.length fc by obtain ⟨y, z, e, _⟩ := own_formP ho; exact ⟨y, z, e⟩)
  have C1 := hide hc
  have G1 := hide hg
  have OW := hide ho
  have HL := hide hl
  have TX := hide ht
  clear hc hg ho hl ht HC
  go_wp2_with fail
  refine (pick_any _ _ 6 _ C1.out (by omega) (by omega) (by omega)).mono ?_
  rintro e w2 ⟨y, rfl, hy0, _, hy1, hc2, hg2⟩
  have hy1' := hy1 (by omega)
  have R := hide (show DrG w (.slice fa l.length fc) w2 from ⟨l, HL.out, TX.out, own_baseT (OW.out.grown hg2 (fun g hg e => by cases e; have := (OW.out.lt _ hg).1; simp at this; omega)) (by simp), grown_to_belowF (L1.grown_trans G1.out hg2)⟩)
  clear hc2 hg2 hy1 OW C1 G1 HL TX
  go_wp2
  go_ret2
  exact ⟨_, _, rfl, R.out⟩

theorem lit4s (j : Nat) (hj : j < 4) : (([⟨#[97]⟩, ⟨#[98]⟩, ⟨#[97, 98]⟩, ⟨#[122]⟩] : List ByteArray).getD j e0).size ≤ 2 := by
  match j, hj with
  | 0, _ => decide
  | 1, _ => decide
  | 2, _ => decide
  | 3, _ => decide
theorem lit2s (j : Nat) (hj : j < 2) : (([⟨#[65]⟩, ⟨#[97, 97, 97, 97, 97, 97, 97, 97, 97, 97, 97, 97, 97]⟩] : List ByteArray).getD j e0).size ≤ 13 := by
  match j, hj with
  | 0, _ => decide
  | 1, _ => decide

set_option maxRecDepth 100000 in
set_option maxHeartbeats 2000000 in
theorem drawFitsForm_any (a : Option Addr) (n cap : Nat) (w : World) (h : Slb w w.heap.size a n) (hn : n ≤ 1048576) :
    Calls Try.prog 32 #[.slice a n cap] w fun e w' => ∃ v, ∃ s : ByteArray, e = .returned (.tuple #[v, .string s]) ∧ s.size ≤ 13 ∧ DrG w v w' := by
  have HC := hide (cur_newF (cap := cap) h hn)
  clear h
  go_enter Try.func32, Try.ntmps32
  go_wp2_with fail
  refine (pick_any _ _ 6 _ HC.out (by omega) (by omega) (by omega)).mono ?_
  rintro e w1 ⟨x0, rfl, hx0, _, hx6, hc1, hg1⟩
  have hx6' := hx6 (by omega)
  obtain ⟨k0, rfl⟩ : ∃ k0 : Nat, x0 = (k0 : Int) := ⟨x0.toNat, by omega⟩
  have C1 := hide (hc1.mono (show _ ≤ 10 by omega))
  have G1 := hide hg1
  have hk5 : k0 ≤ 5 := by omega
  clear hc1 hg1 hx6 HC
  go_wp2_with fail
  go_loopw [5, 6] (fun sv nv wr => ∃ (k : Nat) (s : ByteArray), k ≤ 5 ∧ sv = .string s ∧ nv = .int .i64 k ∧ s.size + 2 * k ≤ 10 ∧ Hid (Cur wr w.heap.size (20 - 2 * k)) ∧ Hid ((w.alloc (.cells #[.slice a n cap, .int .i64 0, .int .u64 0] 80)).grownBy wr (some w.heap.size))) (fun _ nv _ => (intOf nv).toNat)
  case atStart => exact ⟨k0, ⟨#[]⟩, hk5, rfl, rfl, by show 0 + 2 * k0 ≤ 10; omega, C1.out.mono (by omega), G1.out⟩
  case round =>
    obtain ⟨k, s, hk, rfl, rfl, hs, HCr, HG⟩ := hrel
    by_cases hlt : 0 < k
    · have hltI : (0 : Int) < (k : Int) := by omega
      have hbw := HCr.out.lt
      have SA := hide (lit_rowT wr #[.string ⟨#[97]⟩, .string ⟨#[98]⟩, .string ⟨#[97, 98]⟩, .string ⟨#[122]⟩] [⟨#[97]⟩, ⟨#[98]⟩, ⟨#[97, 98]⟩, ⟨#[122]⟩] rfl)
      have CA := hide (HCr.out.alloc (.cells #[.string ⟨#[97]⟩, .string ⟨#[98]⟩, .string ⟨#[97, 98]⟩, .string ⟨#[122]⟩] 9))
      have GA := hide (L1.grown_alloc wr (.cells #[.string ⟨#[97]⟩, .string ⟨#[98]⟩, .string ⟨#[97, 98]⟩, .string ⟨#[122]⟩] 9) w.heap.size)
      clear C1 G1
      go_wp2_with fail
      refine (of_any _ _ wr.heap.size 4 4 [⟨#[97]⟩, ⟨#[98]⟩, ⟨#[97, 98]⟩, ⟨#[122]⟩] _ CA.out (by omega) rfl (by omega) (by omega) (by omega) SA.out).mono ?_
      rintro e w2 ⟨j, hj, rfl, hc2, hg2⟩
      have hz := lit4s j hj
      obtain ⟨t, htt⟩ : ∃ t, t = ([⟨#[97]⟩, ⟨#[98]⟩, ⟨#[97, 98]⟩, ⟨#[122]⟩] : List ByteArray).getD j e0 := ⟨_, rfl⟩
      rw [← htt] at hz ⊢
      have q0 : ∀ w : World, (Op.stringOp .add s t).run Try.prog w = .ok (.string (s ++ t)) w := fun w => run_string_add_sum w _ _ (by omega)
      have hst : (s ++ t).size = s.size + t.size := ByteArray.size_append
      have C2 := hide (hc2.mono (show _ ≤ 20 - 2 * (k - 1) by omega))
      have G2 := hide (L1.grown_trans (L1.grown_trans HG.out GA.out) hg2)
      have hz2 : (s ++ t).size + 2 * (k - 1) ≤ 10 := by omega
      obtain ⟨st, hst2⟩ : ∃ st, s ++ t = st := ⟨_, rfl⟩
      rw [hst2] at hz2
      simp only [hst2] at q0
      clear htt hc2 hg2 SA CA GA hj hst HCr HG hst2
      go_wp2_with fail
      go_roundw
      case rel => exact ⟨k - 1, st, by omega, rfl, by congr 1; omega, hz2, C2.out, G2.out⟩
      case measure => simp [intOf]; omega
    · have hltI : ¬ (0 : Int) < (k : Int) := by omega
      have hs10 : s.size ≤ 10 := by omega
      have C3 := hide (HCr.out.mono (show 20 - 2 * k ≤ 20 by omega))
      clear C1 G1 HCr
      go_wp2_with fail
      refine (one_any _ _ 20 _ C3.out (by omega) (by omega) (by omega)).mono ?_
      rintro e w2 ⟨t, rfl, hc2, hg2⟩
      have C4 := hide hc2
      have G4 := hide (L1.grown_trans HG.out hg2)
      clear hc2 hg2 C3 HG
      cases t with
      | false =>
        go_wp2_with fail
        refine (drForm_any _ _ _ C4.out (by omega)).mono ?_
        rintro e w3 ⟨v, rfl, l, hl, ht, ho, hc, hg⟩
        obtain ⟨fa, fc, rfl⟩ := (show ∃ fa fc, v = .slice fa l.length fc by obtain ⟨y, z, e, _⟩ := own_formP ho; exact ⟨y, z, e⟩)
        have hgs := G4.out.size
        have R := hide (show DrG w (.slice fa l.length fc) w3 from ⟨l, hl, ht, own_baseT ho (by simp at hgs; omega), grown_to_belowF (L1.grown_trans G4.out hg)⟩)
        clear hl ht ho hc hg
        go_wp2
        go_ret2
        exact ⟨_, s, rfl, by omega, R.out⟩
      | true =>
        have hbw := C4.out.lt
        have SA := hide (lit_rowT w2 #[.string ⟨#[65]⟩, .string ⟨#[97, 97, 97, 97, 97, 97, 97, 97, 97, 97, 97, 97, 97]⟩] [⟨#[65]⟩, ⟨#[97, 97, 97, 97, 97, 97, 97, 97, 97, 97, 97, 97, 97]⟩] rfl)
        have CA := hide (C4.out.alloc (.cells #[.string ⟨#[65]⟩, .string ⟨#[97, 97, 97, 97, 97, 97, 97, 97, 97, 97, 97, 97, 97]⟩] 9))
        have GA := hide (L1.grown_alloc w2 (.cells #[.string ⟨#[65]⟩, .string ⟨#[97, 97, 97, 97, 97, 97, 97, 97, 97, 97, 97, 97, 97]⟩] 9) w.heap.size)
        go_wp2_with fail
        refine (of_any _ _ w2.heap.size 2 2 [⟨#[65]⟩, ⟨#[97, 97, 97, 97, 97, 97, 97, 97, 97, 97, 97, 97, 97]⟩] _ CA.out (by omega) rfl (by omega) (by omega) (by omega) SA.out).mono ?_
        rintro e w3 ⟨j, hj, rfl, hc3, hg3⟩
        have hz := lit2s j hj
        obtain ⟨t, htt⟩ : ∃ t, t = ([⟨#[65]⟩, ⟨#[97, 97, 97, 97, 97, 97, 97, 97, 97, 97, 97, 97, 97]⟩] : List ByteArray).getD j e0 := ⟨_, rfl⟩
        rw [← htt] at hz ⊢
        have C5 := hide hc3
        have G5 := hide (L1.grown_trans (L1.grown_trans G4.out GA.out) hg3)
        clear htt hc3 hg3 SA CA GA hj C4 G4
        go_wp2_with fail
        refine (drForm_any _ _ _ C5.out (by omega)).mono ?_
        rintro e w4 ⟨v, rfl, l, hl, ht, ho, hc, hg⟩
        obtain ⟨fa, fc, rfl⟩ := (show ∃ fa fc, v = .slice fa l.length fc by obtain ⟨y, z, e, _⟩ := own_formP ho; exact ⟨y, z, e⟩)
        have hgs := G5.out.size
        have R := hide (show DrG w (.slice fa l.length fc) w4 from ⟨l, hl, ht, own_baseT ho (by simp at hgs; omega), grown_to_belowF (L1.grown_trans G5.out hg)⟩)
        clear hl ht ho hc hg
        go_wp2
        go_ret2
        exact ⟨_, t, rfl, hz, R.out⟩
end Go.Proofs.Ytapffbbmofhpoab.L5

namespace Go.Proofs.Ytapffbbmofhpoab.L5
open Go.RowKit L1 L4
set_option linter.unusedVariables false

theorem slT_grown {w w' : World} {b g : Nat} {xs : List ByteArray} (h : SlT w (some ⟨g, 0, none⟩) xs) (hg : w.grownBy w' (some b)) (hne : g ≠ b) : SlT w' (some ⟨g, 0, none⟩) xs := fun i hi => by
  obtain ⟨b', off, e, hc⟩ := h i hi
  cases e
  refine ⟨g, 0, rfl, ?_⟩
  rw [World.cell?_of_block (w := w) (hg.block g (blk_lt hc) (fun e => by cases e; exact hne rfl))]
  exact hc
theorem slT_drew {w : World} {a : Option Addr} {xs : List ByteArray} (h : SlT w a xs) : SlT w.drew a xs := fun i hi => h i hi
/-- Where DrawLeftOf stands behind its form. -/
structure LO (W : World) (b : Nat) (fa : Option Addr) (n fc : Nat) (w1 : World) : Prop where
  ex : ∃ l : List Pr, l.length = n ∧ (1 ≤ n ∧ n ≤ 15) ∧ TxP l ∧ OwP w1 W.heap.size (.slice fa n fc) l
  cur : Cur w1 b 96
  gr : W.grownBy w1 (some b)
theorem LO.alloc {W : World} {b : Nat} {fa : Option Addr} {n fc : Nat} {w1 : World} (h : LO W b fa n fc w1) (o : Obj) : LO W b fa n fc (w1.alloc o) := by
  obtain ⟨l, h1, h2, h3, h4⟩ := h.ex
  exact ⟨⟨l, h1, h2, h3, own_belowT h4 ((Below.refl _ _).alloc (Nat.le_refl _) _)⟩, h.cur.alloc o, L1.grown_trans h.gr (L1.grown_alloc w1 o b)⟩
theorem LO.step {W : World} {b : Nat} {fa : Option Addr} {n fc : Nat} {w1 w2 : World} (h : LO W b fa n fc w1) (hb : b < W.heap.size) (hg : w1.grownBy w2 (some b)) : ∃ l : List Pr, l.length = n ∧ (1 ≤ n ∧ n ≤ 15) ∧ TxP l ∧ OwP w2 W.heap.size (.slice fa n fc) l ∧ W.grownBy w2 (some b) := by
  obtain ⟨l, h1, h2, h3, h4⟩ := h.ex
  exact ⟨l, h1, h2, h3, h4.grown hg (fun g hg e => by cases e; have := (h4.lt _ hg).1; omega), L1.grown_trans h.gr hg⟩
theorem lit4c (j : Nat) (hj : j < 4) (P : Program) : ∃ c : Int, (0 ≤ c ∧ c ≤ 255) ∧ ∀ (t : TypeId) (w : World), P.underlying t = some .string → (Instr.index t (.string (([⟨#[97]⟩, ⟨#[98]⟩, ⟨#[122]⟩, ⟨#[65]⟩] : List ByteArray).getD j e0)) (.int .i64 0)).run P w = .ok (.int .u8 c) w := by
  match j, hj with
  | 0, _ => exact ⟨97, by omega, fun t w ht => by rw [run_index_string w t _ .i64 0 ht]; rfl⟩
  | 1, _ => exact ⟨98, by omega, fun t w ht => by rw [run_index_string w t _ .i64 0 ht]; rfl⟩
  | 2, _ => exact ⟨122, by omega, fun t w ht => by rw [run_index_string w t _ .i64 0 ht]; rfl⟩
  | 3, _ => exact ⟨65, by omega, fun t w ht => by rw [run_index_string w t _ .i64 0 ht]; rfl⟩

set_option maxRecDepth 100000 in
set_option maxHeartbeats 2000000 in
theorem drawLeftOf_any (a : Option Addr) (n cap : Nat) (w : World) (h : Slb w w.heap.size a n) (hn : n ≤ 1048576) :
    Calls Try.prog 40 #[.slice a n cap] w fun e w' => ∃ v, ∃ c : Int, e = .returned (.tuple #[v, .int .u8 c]) ∧ (0 ≤ c ∧ c ≤ 255) ∧ DrG w v w' := by
  obtain ⟨W, hW⟩ : ∃ W, W = w.alloc (.cells #[.slice a n cap, .int .i64 0, .int .u64 0] 80) := ⟨_, rfl⟩
  have HC : Hid (Cur W w.heap.size 0) := by rw [hW]; exact hide (cur_newF (cap := cap) h hn)
  have hWs : W.heap.size = w.heap.size + 1 := by rw [hW]; simp
  have HW := hide hW
  have CF : Hid (∀ wx, Below W.heap.size W wx → Calls Try.prog 81 #[.pointer (some ⟨w.heap.size, 0, none⟩)] wx fun e w1 => ∃ fa m fc, e = .returned (.slice fa m fc) ∧ LO W w.heap.size fa m fc w1 ∧ wx.grownBy w1 (some w.heap.size)) := hide (fun wx hb => by
    refine (drForm_any w.heap.size 0 wx (HC.out.below hb) (by omega)).mono ?_
    rintro e w1 ⟨v, rfl, l, hl, ht, ho, hc, hg⟩
    obtain ⟨fa, fc, rfl, _⟩ := own_formP ho
    exact ⟨fa, _, fc, rfl, ⟨⟨l, rfl, hl, ht, own_baseT ho hb.size⟩, hc, L1.grown_trans (L1.below_grown hb) hg⟩, hg⟩)
  have CO : Hid (∀ (g : Nat) (fa : Option Addr) (m fc : Nat) wx, LO W w.heap.size fa m fc wx → W.heap.size ≤ g → SlT wx (some ⟨g, 0, none⟩) [⟨#[97]⟩, ⟨#[98]⟩, ⟨#[122]⟩, ⟨#[65]⟩] → Calls Try.prog 79 #[.pointer (some ⟨w.heap.size, 0, none⟩), .slice (some ⟨g, 0, none⟩) 4 4] wx fun e w2 => ∃ t : ByteArray, e = .returned (.string t) ∧ ∃ c : Int, (∀ wy : World, (Instr.index 9 (.string t) (.int .i64 0)).run Try.prog wy = .ok (.int .u8 c) wy) ∧ (0 ≤ c ∧ c ≤ 255) ∧ Hid (DrG w (.slice fa m fc) w2)) := hide (fun g fa m fc wx hl hg hs => by
    refine (of_any w.heap.size 96 g 4 4 _ wx hl.cur (by omega) rfl (by omega) (by omega) (by omega) hs).mono ?_
    rintro e w2 ⟨j, hj, rfl, hc2, hg2⟩
    obtain ⟨c, hc, hix⟩ := lit4c j hj Try.prog
    obtain ⟨l, h1, h2, h3, h4, h5⟩ := hl.step (by omega) hg2
    refine ⟨_, rfl, c, fun wy => hix 9 wy Try.underlying9, hc, hide ⟨l, by rw [h1]; exact h2, h3, ?_, ?_⟩⟩
    · show World.ownsRow _ _ _ _ _ _ _
      rw [h1]
      have := h4
      unfold OwP at this
      rw [h1] at this
      exact own_baseT this (by omega)
    · rw [HW.out] at h5
      exact grown_to_belowF h5)
  clear h HC
  clear hWs HW
  subst hW
  go_enter Try.func40, Try.ntmps40
  go_upto_region 2 with fail
  go_region_with (first
    | (go_at_call 81; refine (CF.out _ ?_).mono ?_; (first | exact Below.refl _ _ | exact (Below.refl _ _).drew | exact ((Below.refl _ _).drew).drew | exact (Below.refl _ _).alloc (Nat.le_refl _) _ | exact ((Below.refl _ _).alloc (Nat.le_refl _) _).drew | exact ((Below.refl _ _).drew).alloc (Nat.le_refl _) _ | exact (((Below.refl _ _).drew).alloc (Nat.le_refl _) _).drew); rintro e w1 ⟨fa, m, fc, rfl, hlo, hgf⟩)
    | (go_at_call 79; go_must (refine (CO.out _ fa m fc _ ?_ ?_ ?_).mono ?_; (first | exact hlo | exact hlo.alloc _); (first | exact hlo.gr.size | exact (by simp)); (first | exact lit_rowT' _ _ _ _ rfl rfl | (refine slT_grown ?_ hgf (by omega); exact lit_rowT' _ _ _ _ (by simp) rfl) | (refine slT_grown ?_ hgf (by omega); exact slT_drew (lit_rowT' _ _ _ _ (by simp) rfl)) | exact slT_drew (lit_rowT' _ _ _ _ rfl rfl)); rintro e w2 ⟨t, rfl, c, hix, hcc, hdr⟩)))
  all_goals (
    go_wp2
    go_ret2
    exact ⟨_, c, rfl, hcc, hdr.out⟩)
end Go.Proofs.Ytapffbbmofhpoab.L5
