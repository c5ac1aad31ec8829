/-
  Contract: (*spec.l1Cur).formOf, a level up.
  Contracts: (*spec.l1Cur).form, spec.DrawGoodForm, spec.DrawFormText: some list of few parts, in new memory.
  Contracts: impl.shapeOfPart, impl.shapeOf: the tree of a good form.
  Contracts: impl.namedBy, impl.goodPart: whether a part is good at its place.
  Contract: impl.GoodForm: whether a form is good.
  Contract: spec.l1In: whether a number lies between two.
  Contracts: spec.l5Part, spec.GoodForm: whether a form is good.
  Contracts: spec.l5Text, spec.FormText, impl.FormText: the text of a good form.
-/
import Derived.Test.YtapffbbmofhpoabBundle3
import Derived.Test.YtapffbbmofhpoabBundle2
import Derived.Deep.QuietTactic
import Derived.BigQuiet
import Derived.Maps.AppendAt
import Derived.Test.YtapffbbmofhpoabBundle1
namespace Go.Proofs.Ytapffbbmofhpoab.L5
open Go.RowKit L1 L4
set_option linter.unusedVariables false

set_option maxRecDepth 100000 in
set_option maxHeartbeats 8000000 in
theorem formOf_succ (d : Nat) (hd : d ≤ 1000) (IH : DC d) : DC (d + 1) := by
  intro b N w h hN
  have hbl := h.lt
  have HC := hide h
  simp only [Kd] at hN
  have HK := Kd_le d
  have hdI : ¬ ((d : Int) + 1) = 0 := by omega
  have hdb : (((d : Int) + 1) == 0) = false := by simpa using hdI
  have hdm : (d : Int) + 1 - 1 = (d : Int) := by omega
  clear h
  rw [show ((d + 1 : Nat) : Int) = (d : Int) + 1 by omega]
  go_enter Try.func124, Try.ntmps124
  go_wp2_with fail
  refine (pick_any b N _ _ HC.out (by omega) (by omega) (by omega)).mono ?_
  rintro e w1 ⟨x, rfl, hx0, hx1, hx8, hc1, hg1⟩
  have hx7 : x < 8 := hx8 (by omega)
  have H1 := hide hc1
  have G1 := hide hg1
  clear hc1 hg1 hx8
  by_cases k1 : x = 0
  · subst k1
    have D := hide (DN.new 1 hbl H1.out G1.out)
    have C2 := hide (fun w => l5Two_any 1 w false (iff_of_false (by simp) (by omega)))
    have C1 := hide (fun w => l5One_any 1 w false (iff_of_false (by simp) (by omega)))
    go_wp2_with fail
    refine (C2.out _).mono ?_
    rintro e w6 ⟨rfl, rfl⟩
    go_wp2_with fail
    refine (C1.out _).mono ?_
    rintro e w6b ⟨rfl, rfl⟩
    go_wp2
    go_ret
    exact drp_leaf D.out (by simp only [Kd]; omega) (by omega)
  by_cases k2 : x = 1
  · subst k2
    have D := hide (DN.new 2 hbl H1.out G1.out)
    have C2 := hide (fun w => l5Two_any 2 w false (iff_of_false (by simp) (by omega)))
    have C1 := hide (fun w => l5One_any 2 w false (iff_of_false (by simp) (by omega)))
    go_wp2_with fail
    refine (C2.out _).mono ?_
    rintro e w6 ⟨rfl, rfl⟩
    go_wp2_with fail
    refine (C1.out _).mono ?_
    rintro e w6b ⟨rfl, rfl⟩
    go_wp2
    go_ret
    exact drp_leaf D.out (by simp only [Kd]; omega) (by omega)
  by_cases k4 : x = 3
  · subst k4
    have D := hide (DN.new 4 hbl H1.out G1.out)
    have C2 := hide (fun w => l5Two_any 4 w false (iff_of_false (by simp) (by omega)))
    have C1 := hide (fun w => l5One_any 4 w false (iff_of_false (by simp) (by omega)))
    go_wp2_with fail
    refine (C2.out _).mono ?_
    rintro e w6 ⟨rfl, rfl⟩
    go_wp2_with fail
    refine (C1.out _).mono ?_
    rintro e w6b ⟨rfl, rfl⟩
    go_wp2
    go_ret
    exact drp_leaf D.out (by simp only [Kd]; omega) (by omega)
  by_cases k3 : x = 2
  · subst k3
    have D := hide (DN.new 3 hbl H1.out G1.out)
    have n1c := D.out.fx.at.t
    have n1 := D.out.fx.frozen 1
    have hgx : w1.heap.size + 1 ≠ b := by have := D.out.hx; have := D.out.hb; omega
    go_wp2_with fail
    refine (of_any b (N + 2) (w1.heap.size + 1) 4 4 [⟨#[97]⟩, ⟨#[98]⟩, ⟨#[97]⟩, ⟨#[122]⟩] _ (D.out.cur.alloc _) (by omega) rfl (by omega) (by omega) hgx (lit_rowT' _ _ _ _ (by simp) rfl)).mono ?_
    rintro e w7 ⟨j, hj, rfl, hc7, hg7⟩
    obtain ⟨c, hc, ec⟩ := lit4 j hj
    rw [ec]
    have D7 := hide (D.out.move hc7 (L1.grown_trans (L1.grown_alloc _ _ b) hg7))
    have m1c := D7.out.fx.at.t
    have m1 := D7.out.fx.frozen 1
    have D8 := hide (D7.out.setT (one c))
    have HC8 := hide hc
    clear hc7 hg7 ec hc n1c n1
    go_wp2
    go_ret
    exact drp_letter D8.out (by simp only [Kd]; omega) HC8.out
  by_cases k5 : x = 4
  · subst k5
    have D := hide (DN.new 5 hbl H1.out G1.out)
    have C2 := hide (fun w => l5Two_any 5 w true (iff_of_true rfl (by omega)))
    have C1 := hide (fun w => l5One_any 5 w false (iff_of_false (by simp) (by omega)))
    go_wp2_with fail
    refine (C2.out _).mono ?_
    rintro e w6 ⟨rfl, rfl⟩
    go_wp2_with fail
    refine (IH b (N + 2) _ D.out.cur (by omega)).mono ?_
    rintro e w7 ⟨pa, xa, rfl, ta, za, oa, ca, ga⟩
    have D7 := hide (D.out.move ca ga)
    have m2c := D7.out.fx.at.a
    have m2 := D7.out.fx.frozen 2
    have D8 := hide (D7.out.setA pa)
    have TA := hide ((tr_in2 ta).set (p := ⟨w1.heap.size, 2, none⟩) (fun c hc e => by simp only at e; omega) (.pointer pa))
    clear ca ga ta
    go_wp2_with fail
    refine (IH b (N + 2 + Kd d) _ D8.out.cur (by omega)).mono ?_
    rintro e w9 ⟨pb, xb, rfl, tb, zb, ob, cb, gb⟩
    have D9 := hide (D8.out.move cb gb)
    have m3c := D9.out.fx.at.b
    have m3 := D9.out.fx.frozen 3
    have D10 := hide (D9.out.setB pb)
    have hbx : b < w1.heap.size := Nat.lt_of_lt_of_le D.out.hb D.out.hx
    have TA2 := hide ((TA.out.grown gb (fun c hc e => by cases e; omega)).set (p := ⟨w1.heap.size, 3, none⟩) (fun c hc e => by simp only at e; omega) (.pointer pb))
    have TB := hide ((tr_in3 tb D8.out.fx.lt).set (p := ⟨w1.heap.size, 3, none⟩) (fun c hc e => by simp only at e; omega) (.pointer pb))
    have HZ : Hid (sz xa + sz xb + 1 ≤ 1 + 2 * Zd d) := hide (by omega)
    have HO := hide (And.intro oa ob)
    clear cb gb tb za zb oa ob
    go_wp2
    go_ret
    exact drp_two5 D10.out TA2.out TB.out (by simp only [Kd]; omega) HZ.out HO.out
  by_cases k6 : x = 5
  · subst k6
    have D := hide (DN.new 6 hbl H1.out G1.out)
    have C2 := hide (fun w => l5Two_any 6 w true (iff_of_true rfl (by omega)))
    have C1 := hide (fun w => l5One_any 6 w false (iff_of_false (by simp) (by omega)))
    go_wp2_with fail
    refine (C2.out _).mono ?_
    rintro e w6 ⟨rfl, rfl⟩
    go_wp2_with fail
    refine (IH b (N + 2) _ D.out.cur (by omega)).mono ?_
    rintro e w7 ⟨pa, xa, rfl, ta, za, oa, ca, ga⟩
    have D7 := hide (D.out.move ca ga)
    have m2c := D7.out.fx.at.a
    have m2 := D7.out.fx.frozen 2
    have D8 := hide (D7.out.setA pa)
    have TA := hide ((tr_in2 ta).set (p := ⟨w1.heap.size, 2, none⟩) (fun c hc e => by simp only at e; omega) (.pointer pa))
    clear ca ga ta
    go_wp2_with fail
    refine (IH b (N + 2 + Kd d) _ D8.out.cur (by omega)).mono ?_
    rintro e w9 ⟨pb, xb, rfl, tb, zb, ob, cb, gb⟩
    have D9 := hide (D8.out.move cb gb)
    have m3c := D9.out.fx.at.b
    have m3 := D9.out.fx.frozen 3
    have D10 := hide (D9.out.setB pb)
    have hbx : b < w1.heap.size := Nat.lt_of_lt_of_le D.out.hb D.out.hx
    have TA2 := hide ((TA.out.grown gb (fun c hc e => by cases e; omega)).set (p := ⟨w1.heap.size, 3, none⟩) (fun c hc e => by simp only at e; omega) (.pointer pb))
    have TB := hide ((tr_in3 tb D8.out.fx.lt).set (p := ⟨w1.heap.size, 3, none⟩) (fun c hc e => by simp only at e; omega) (.pointer pb))
    have HZ : Hid (sz xa + sz xb + 1 ≤ 1 + 2 * Zd d) := hide (by omega)
    have HO := hide (And.intro oa ob)
    clear cb gb tb za zb oa ob
    go_wp2
    go_ret
    exact drp_two6 D10.out TA2.out TB.out (by simp only [Kd]; omega) HZ.out HO.out
  by_cases k7 : x = 6
  · subst k7
    have D := hide (DN.new 7 hbl H1.out G1.out)
    have C2 := hide (fun w => l5Two_any 7 w false (iff_of_false (by simp) (by omega)))
    have C1 := hide (fun w => l5One_any 7 w true (iff_of_true rfl (by omega)))
    go_wp2_with fail
    refine (C2.out _).mono ?_
    rintro e w6 ⟨rfl, rfl⟩
    go_wp2_with fail
    refine (C1.out _).mono ?_
    rintro e w6b ⟨rfl, rfl⟩
    go_wp2_with fail
    refine (IH b (N + 2) _ D.out.cur (by omega)).mono ?_
    rintro e w7 ⟨pa, xa, rfl, ta, za, oa, ca, ga⟩
    have D7 := hide (D.out.move ca ga)
    have m2c := D7.out.fx.at.a
    have m2 := D7.out.fx.frozen 2
    have D8 := hide (D7.out.setA pa)
    have TA := hide ((tr_in2 ta).set (p := ⟨w1.heap.size, 2, none⟩) (fun c hc e => by simp only at e; omega) (.pointer pa))
    have HZ : Hid (sz xa + 1 ≤ 1 + 2 * Zd d) := hide (by omega)
    have HO := hide oa
    clear ca ga ta za oa
    go_wp2
    go_ret
    exact drp_one7 D8.out TA.out (by simp only [Kd]; omega) HZ.out HO.out
  by_cases k8 : x = 7
  · subst k8
    have D := hide (DN.new 8 hbl H1.out G1.out)
    have C2 := hide (fun w => l5Two_any 8 w false (iff_of_false (by simp) (by omega)))
    have C1 := hide (fun w => l5One_any 8 w true (iff_of_true rfl (by omega)))
    go_wp2_with fail
    refine (C2.out _).mono ?_
    rintro e w6 ⟨rfl, rfl⟩
    go_wp2_with fail
    refine (C1.out _).mono ?_
    rintro e w6b ⟨rfl, rfl⟩
    go_wp2_with fail
    refine (IH b (N + 2) _ D.out.cur (by omega)).mono ?_
    rintro e w7 ⟨pa, xa, rfl, ta, za, oa, ca, ga⟩
    have D7 := hide (D.out.move ca ga)
    have m2c := D7.out.fx.at.a
    have m2 := D7.out.fx.frozen 2
    have D8 := hide (D7.out.setA pa)
    have TA := hide ((tr_in2 ta).set (p := ⟨w1.heap.size, 2, none⟩) (fun c hc e => by simp only at e; omega) (.pointer pa))
    have HZ : Hid (sz xa + 1 ≤ 1 + 2 * Zd d) := hide (by omega)
    have HO := hide oa
    clear ca ga ta za oa
    go_wp2
    go_ret
    exact drp_one8 D8.out TA.out (by simp only [Kd]; omega) HZ.out HO.out
  omega
theorem formOf_any : ∀ d, d ≤ 1000 → DC d
  | 0, _ => formOf_zero
  | d + 1, h => formOf_succ d (by omega) (formOf_any d (by omega))
end Go.Proofs.Ytapffbbmofhpoab.L5

namespace Go.Proofs.Ytapffbbmofhpoab.L5
open Go.RowKit L1 L4
set_option linter.unusedVariables false

theorem flatP_setA : ∀ (l : List Pr) (i : Nat) (y : Int), (flatP l).set (i * 4 + 2) (.int .i64 y) = flatP (l.set i { l.getD i eP with a := y })
  | [], i, y => by simp [flatP]
  | p :: l, 0, y => by simp [flatP]
  | p :: l, i + 1, y => by
    have ih := flatP_setA l i y
    rw [show (i + 1) * 4 + 2 = (i * 4 + 2) + 1 + 1 + 1 + 1 by omega]
    simp only [flatP, List.set_cons_succ, List.getD_cons_succ, ih]
theorem txP_snoc {l : List Pr} {p : Pr} (h : TxP l) (hp : p.t.size ≤ 9223372036854775807) : TxP (l ++ [p]) := fun j hj => by
  by_cases e : j < l.length
  · rw [show (l ++ [p]).getD j eP = l.getD j eP by simp [List.getD, List.getElem?_append_left e]]
    exact h j e
  · obtain rfl : j = l.length := by simp at hj; omega
    rw [show (l ++ [p]).getD l.length eP = p by simp [List.getD]]
    exact hp
theorem txP_flat : ∀ (x : Sh) (l : List Pr), TxP l → TxP (flat x l)
  | .none, l, h => txP_snoc h (by show 0 ≤ _; omega)
  | .empty, l, h => txP_snoc h (by show 0 ≤ _; omega)
  | .letter c, l, h => txP_snoc h (by show (one c).size ≤ _; unfold one; rw [strOfNums_size]; simp)
  | .any, l, h => txP_snoc h (by show 0 ≤ _; omega)
  | .seq a b, l, h => txP_snoc (txP_flat b _ (txP_flat a l h)) (by show 0 ≤ _; omega)
  | .alt a b, l, h => txP_snoc (txP_flat b _ (txP_flat a l h)) (by show 0 ≤ _; omega)
  | .many a, l, h => txP_snoc (txP_flat a l h) (by show 0 ≤ _; omega)
  | .inv a, l, h => txP_snoc (txP_flat a l h) (by show 0 ≤ _; omega)
theorem txP_setA {l : List Pr} (h : TxP l) (i : Nat) (y : Int) : TxP (l.set i { l.getD i eP with a := y }) := fun j hj => by
  have hj' : j < l.length := by simpa using hj
  by_cases e : j = i
  · subst e
    rw [show (l.set j { l.getD j eP with a := y }).getD j eP = { l.getD j eP with a := y } by simp [List.getD, hj']]
    exact h j hj'
  · rw [show (l.set i { l.getD i eP with a := y }).getD j eP = l.getD j eP by simp [List.getD, List.getElem?_set_ne (Ne.symm e)]]
    exact h j hj'
theorem grown_none {w w' : World} (h : w.grownBy w' none) : Below w.heap.size w w' := ⟨h.os, h.tape, h.output, h.size, fun k hk => h.block k hk (fun e => by cases e)⟩
/-- A drawn list of parts in new memory. -/
def DrF (w : World) (b M : Nat) (v : Value) (w' : World) : Prop := ∃ l : List Pr, (1 ≤ l.length ∧ l.length ≤ 15) ∧ TxP l ∧ OwP w' w.heap.size v l ∧ Cur w' b M ∧ w.grownBy w' (some b)

set_option maxRecDepth 100000 in
set_option maxHeartbeats 2000000 in
theorem drForm_any (b N : Nat) (w : World) (h : Cur w b N) (hN : N ≤ 100000) :
    Calls Try.prog 81 #[.pointer (some ⟨b, 0, none⟩)] w fun e w' => ∃ v, e = .returned v ∧ DrF w b (N + 96) v w' := by
  have hbw := h.lt
  have C1 := hide (formOf_any 3 (by omega) b N w h (by simp [Kd]; omega))
  clear h
  go_enter Try.func81, Try.ntmps81
  go_wp2_with fail
  refine C1.out.mono ?_
  rintro e w1 ⟨p, x, rfl, htr, hz, hok, hc1, hg1⟩
  have hz15 : sz x ≤ 15 := by simpa [Zd] using hz
  have hlen := flat_len x []
  simp only [List.length_nil, Nat.zero_add] at hlen
  have hsp := sz_pos x
  have C2 := hide (l5Flat_any x _ p w1.heap.size (.slice none 0 0) [] w1 htr (fun g _ e => by cases e) (World.ownsRow_nil _ _ _ _) (Nat.le_refl _) (by simp; omega))
  have H1 := hide (show Cur w1 b (N + 90) from hc1)
  have G1 := hide hg1
  have TX := hide (txP_flat x [] (fun j hj => by simp at hj))
  clear hc1 hg1 htr hz hok
  go_wp2_with fail
  refine C2.out.mono ?_
  rintro e w2 ⟨v, rfl, ho, hg, _⟩
  obtain ⟨l, hl⟩ : ∃ l, l = flat x [] := ⟨_, rfl⟩
  rw [← hl] at ho hlen TX
  obtain ⟨n, hn⟩ : ∃ n, n = l.length := ⟨_, rfl⟩
  have hn1 : 1 ≤ n := by omega
  have hn15 : n ≤ 15 := by omega
  have hb2 := grown_none hg
  have H2 := hide (H1.out.below hb2)
  have G2 := hide (L1.grown_trans G1.out (L1.below_grown hb2))
  have hsz1 := G1.out.size
  have OW := hide (show OwP w2 w.heap.size v l from own_baseT ho hsz1)
  obtain ⟨fa, fc, rfl⟩ := (show ∃ fa fc, v = .slice fa n fc by obtain ⟨y, z, e, _⟩ := own_formP ho; exact ⟨y, z, by rw [hn]; exact e⟩)
  have HN := hide hn.symm
  clear ho hg hb2 hl hlen H1 G1 C2 hn
  go_wp2_with fail
  refine (one_any b _ 20 _ H2.out (by omega) (by omega) (by omega)).mono ?_
  rintro e w3 ⟨t, rfl, hc3, hg3⟩
  have H3 := hide hc3
  have G3 := hide (L1.grown_trans G2.out hg3)
  have OW3 := hide (OW.out.grown hg3 (fun g hg e => by cases e; have := (OW.out.lt b hg).1; omega))
  clear hc3 hg3 H2 G2 OW
  cases t with
  | false =>
    go_wp2
    go_ret
    exact ⟨_, rfl, l, ⟨by rw [HN.out]; exact hn1, by rw [HN.out]; exact hn15⟩, TX.out, OW3.out, H3.out.mono (by omega), G3.out⟩
  | true =>
    go_wp2_with fail
    refine (pick_any b _ (n : Int) _ H3.out (by omega) (by omega) (by omega)).mono ?_
    rintro e w4 ⟨i0, rfl, hi0, _, hi1, hc4, hg4⟩
    have hi1' := hi1 (by omega)
    obtain ⟨i, rfl⟩ : ∃ i : Nat, i0 = (i : Int) := ⟨i0.toNat, by omega⟩
    have H4 := hide hc4
    have G4 := hide (L1.grown_trans G3.out hg4)
    have OW4 := hide (OW3.out.grown hg4 (fun g hg e => by cases e; have := (OW3.out.lt b hg).1; omega))
    clear hc4 hg4 hi1 H3 G3 OW3
    go_wp2_with fail
    refine (pick_any b _ 9 _ H4.out (by omega) (by omega) (by omega)).mono ?_
    rintro e w5 ⟨y, rfl, hy0, _, hy1, hc5, hg5⟩
    have hy1' := hy1 (by omega)
    have H5 := hide hc5
    have G5 := hide (L1.grown_trans G4.out hg5)
    have OW5 := hide (OW4.out.grown hg5 (fun g hg e => by cases e; have := (OW4.out.lt b hg).1; omega))
    clear hc5 hg5 hy1 H4 G4 OW4
    obtain ⟨g, rfl⟩ : ∃ g, fa = some ⟨g, 0, none⟩ := by
      rcases OW5.out.2 with ⟨hv, h0⟩ | ⟨g, cap2, cur, hv, _⟩
      · have := HN.out; omega
      · cases hv; exact ⟨g, rfl⟩
    have hin : i < n := by omega
    have hgB := (OW5.out.lt g rfl).1
    have how : w5.ownsRow w.heap.size 116 4 (.slice (some ⟨g, 0, none⟩) n fc) n (flatP l) := by have := OW5.out; unfold OwP at this; rw [HN.out] at this; exact this
    have hst := how.stored (i * 4 + 2) (.int .i64 (y - 1))
    have hcl := how.cellAt (i * 4 + 2) (by omega)
    have hfr := how.frozenAt (i * 4 + 2)
    rw [(flatP_get l i (by rw [HN.out]; exact hin)).2.2.1] at hcl
    have hlt : (i : Int) < (n : Int) := by omega
    have R : Hid (DrF w b (N + 96) (.slice (some ⟨g, 0, none⟩) n fc) (w5.setCell ⟨g, i * 4 + 2, none⟩ (.int .i64 (y - 1)))) := by
      refine ⟨l.set i { l.getD i eP with a := y - 1 }, ⟨by simp; rw [HN.out]; exact hn1, by simp; rw [HN.out]; exact hn15⟩, txP_setA TX.out i _, ?_, ?_, ?_⟩
      · show World.ownsRow _ _ _ _ _ (l.set i _).length _
        rw [List.length_set, HN.out, ← flatP_setA]
        exact hst.1
      · have : Cur (w5.setCell ⟨g, i * 4 + 2, none⟩ (.int .i64 (y - 1))) b _ := H5.out.kept fun k hk => Below.heap_setCell _ _ _ _ (by show k ≠ g; omega)
        exact this.mono (by omega)
      · exact L5.grown_trans G5.out hst.2 (fun q hq => by cases hq; exact .inr hgB)
    clear how hst
    go_wp2
    go_ret
    exact ⟨_, rfl, R.out⟩

/-- A drawn list of parts, for the caller. -/
def DrG (w : World) (v : Value) (w' : World) : Prop := ∃ l : List Pr, (1 ≤ l.length ∧ l.length ≤ 15) ∧ TxP l ∧ OwP w' w.heap.size v l ∧ Below w.heap.size w w'
theorem cur_newF {w : World} {a : Option Addr} {n cap : Nat} (h : Slb w w.heap.size a n) (hn : n ≤ 1048576) : Cur (w.alloc (Obj.cells #[.slice a n cap, .int .i64 0, .int .u64 0] 80)) w.heap.size 0 := by
  refine ⟨a, n, cap, 0, 0, ?_, Nat.le_refl _, hn, ?_⟩
  · show (w.heap.push _)[w.heap.size]? = _
    exact Array.getElem?_push_size
  · intro i hi
    obtain ⟨bb, off, x, ha, hb, hc, hx⟩ := h i hi
    exact ⟨bb, off, x, ha, hb, (((Below.refl w.heap.size w).alloc (Nat.le_refl _) _).cell (p := ⟨bb, off + i, none⟩) hb).trans hc, hx⟩
theorem grown_to_belowF {w w' : World} {o : Obj} (h : (w.alloc o).grownBy w' (some w.heap.size)) : Below w.heap.size w w' := by
  have hal := (Below.refl w.heap.size w).alloc (Nat.le_refl _) o
  refine ⟨h.os.trans hal.os, h.tape.trans hal.tape, h.output.trans hal.output, Nat.le_trans hal.size h.size, fun k hk => (h.block k (Nat.lt_of_lt_of_le hk hal.size) (fun e => ?_)).trans (hal.block k hk)⟩
  cases e
  omega

set_option maxRecDepth 100000 in
set_option maxHeartbeats 1000000 in
theorem drawGoodForm_any (a : Option Addr) (n cap : Nat) (w : World) (h : Slb w w.heap.size a n) (hn : n ≤ 1048576) :
    Calls Try.prog 101 #[.slice a n cap] w fun e w' => ∃ v, e = .returned v ∧ DrG w v w' := by
  have HC := hide (cur_newF (cap := cap) h hn)
  clear h
  go_enter Try.func101, Try.ntmps101
  go_wp2_with fail
  refine (drForm_any _ _ _ HC.out (by omega)).mono ?_
  rintro e w1 ⟨v, rfl, l, hl, ht, ho, hc, hg⟩
  have R := hide (show DrG w v w1 from ⟨l, hl, ht, own_baseT ho (by simp), grown_to_belowF hg⟩)
  obtain ⟨fa, fc, rfl⟩ := (show ∃ fa fc, v = .slice fa l.length fc by obtain ⟨y, z, e, _⟩ := own_formP ho; exact ⟨y, z, e⟩)
  clear hl ht ho hc hg
  go_wp2
  go_ret
  exact ⟨_, rfl, R.out⟩

set_option maxRecDepth 100000 in
set_option maxHeartbeats 1000000 in
theorem drawFormText_any (a : Option Addr) (n cap : Nat) (w : World) (h : Slb w w.heap.size a n) (hn : n ≤ 1048576) :
    Calls Try.prog 47 #[.slice a n cap] w fun e w' => ∃ v, e = .returned v ∧ DrG w v w' := by
  have HC := hide (drawGoodForm_any a n cap w h hn)
  clear h
  go_enter Try.func47, Try.ntmps47
  go_wp2_with fail
  refine HC.out.mono ?_
  rintro e w1 ⟨v, rfl, hd⟩
  have R := hide hd
  obtain ⟨l, hl, ht, ho, hb⟩ := hd
  obtain ⟨fa, fc, rfl⟩ := (show ∃ fa fc, v = .slice fa l.length fc by obtain ⟨y, z, e, _⟩ := own_formP ho; exact ⟨y, z, e⟩)
  clear hl ht ho hb
  go_wp2
  go_ret
  exact ⟨_, rfl, R.out⟩
end Go.Proofs.Ytapffbbmofhpoab.L5

namespace Go.Proofs.Ytapffbbmofhpoab.L5
open Go.RowKit L1 L4
set_option linter.unusedVariables false
attribute [local go_sem] mk_noText mk_emptyText mk_oneLetter mk_anyLetter mk_thenShape mk_eitherShape mk_manyShape mk_notShape as_noText_noText as_noText_emptyText as_noText_oneLetter as_noText_anyLetter as_noText_thenShape as_noText_eitherShape as_noText_manyShape as_noText_notShape as_emptyText_noText as_emptyText_emptyText as_emptyText_oneLetter as_emptyText_anyLetter as_emptyText_thenShape as_emptyText_eitherShape as_emptyText_manyShape as_emptyText_notShape as_oneLetter_noText as_oneLetter_emptyText as_oneLetter_oneLetter as_oneLetter_anyLetter as_oneLetter_thenShape as_oneLetter_eitherShape as_oneLetter_manyShape as_oneLetter_notShape as_anyLetter_noText as_anyLetter_emptyText as_anyLetter_oneLetter as_anyLetter_anyLetter as_anyLetter_thenShape as_anyLetter_eitherShape as_anyLetter_manyShape as_anyLetter_notShape as_thenShape_noText as_thenShape_emptyText as_thenShape_oneLetter as_thenShape_anyLetter as_thenShape_thenShape as_thenShape_eitherShape as_thenShape_manyShape as_thenShape_notShape as_eitherShape_noText as_eitherShape_emptyText as_eitherShape_oneLetter as_eitherShape_anyLetter as_eitherShape_thenShape as_eitherShape_eitherShape as_eitherShape_manyShape as_eitherShape_notShape as_manyShape_noText as_manyShape_emptyText as_manyShape_oneLetter as_manyShape_anyLetter as_manyShape_thenShape as_manyShape_eitherShape as_manyShape_manyShape as_manyShape_notShape as_notShape_noText as_notShape_emptyText as_notShape_oneLetter as_notShape_anyLetter as_notShape_thenShape as_notShape_eitherShape as_notShape_manyShape as_notShape_notShape
/-- A list of shapes lies in memory. -/
def SlS (w : World) (a : Option Addr) (m : List Sh) : Prop := ∀ i, i < m.length → ∃ b off, a = some ⟨b, off, none⟩ ∧ w.cell? ⟨b, off + i, none⟩ = some (sv (m.getD i .none))
theorem SlS.below {w w' : World} {a : Option Addr} {xs : List Sh} (h : SlS w a xs) (hb : Below w.heap.size w w') : SlS w' a xs := fun i hi => by
  obtain ⟨b, off, ha, hc⟩ := h i hi
  exact ⟨b, off, ha, (hb.cell (p := ⟨b, off + i, none⟩) (blk_lt hc)).trans hc⟩
theorem sv_get (m : List Sh) (i : Nat) (h : i < m.length) : (m.map sv)[i]? = some (sv (m.getD i .none)) := by
  rw [List.getElem?_map, List.getElem?_eq_getElem h]
  simp [List.getD, List.getElem?_eq_getElem h]
theorem own_slS {w : World} {base n cap : Nat} {a : Option Addr} {m : List Sh} (h : w.ownsRow base 107 1 (.slice a n cap) n (m.map sv)) : SlS w a m := fun i hi => by
  have hl := h.1
  simp at hl
  rcases h.2 with ⟨hv, h0⟩ | ⟨g, c, cur, hv, _⟩
  · omega
  · cases hv
    have := h.cells (g := g) rfl i _ (sv_get m i hi)
    rw [addr_add] at this
    exact ⟨g, 0, rfl, by simpa using this⟩
theorem info_shape : (Try.prog.info? 107).map (fun i => (i.zero, i.size, i.bytes)) = some (some .nilIface, 1, 16) := by kernel_rfl
theorem below_drewS {B : Nat} {a w : World} (h : Below B a w) (n : Nat) : Below B a (w.drewN n) := h.trans ⟨rfl, rfl, rfl, Nat.le_refl _, fun _ _ => rfl⟩
theorem ret_val {u v : Value} (h : u = v) : Ending.returned u = .returned v := by rw [h]
set_option maxRecDepth 100000 in
set_option maxHeartbeats 2000000 in
theorem sop_1 (t : ByteArray) (a b : Int) (x : Option Addr) (n cap : Nat) (w : World) :
    Calls Try.prog 127 #[.agg #[.int .i64 1, .string t, .int .i64 a, .int .i64 b], .slice x n cap] w fun e w' => e = .returned (.iface 175 (.agg #[])) ∧ Below w.heap.size w w' := by
  go_enter Try.func127, Try.ntmps127
  go_wp2
  go_ret
  exact ⟨rfl, (Below.refl _ _).alloc (Nat.le_refl _) _⟩
set_option maxRecDepth 100000 in
set_option maxHeartbeats 2000000 in
theorem sop_2 (t : ByteArray) (a b : Int) (x : Option Addr) (n cap : Nat) (w : World) :
    Calls Try.prog 127 #[.agg #[.int .i64 2, .string t, .int .i64 a, .int .i64 b], .slice x n cap] w fun e w' => e = .returned (.iface 162 (.agg #[])) ∧ Below w.heap.size w w' := by
  go_enter Try.func127, Try.ntmps127
  go_wp2
  go_ret
  exact ⟨rfl, (Below.refl _ _).alloc (Nat.le_refl _) _⟩
set_option maxRecDepth 100000 in
set_option maxHeartbeats 2000000 in
theorem sop_4 (t : ByteArray) (a b : Int) (x : Option Addr) (n cap : Nat) (w : World) :
    Calls Try.prog 127 #[.agg #[.int .i64 4, .string t, .int .i64 a, .int .i64 b], .slice x n cap] w fun e w' => e = .returned (.iface 173 (.agg #[])) ∧ Below w.heap.size w w' := by
  go_enter Try.func127, Try.ntmps127
  go_wp2
  go_ret
  exact ⟨rfl, (Below.refl _ _).alloc (Nat.le_refl _) _⟩
set_option maxRecDepth 100000 in
set_option maxHeartbeats 2000000 in
theorem sop_3 (t : ByteArray) (c : Int) (hc : c = ltr t) (ht : t.size = 1) (a b : Int) (x : Option Addr) (n cap : Nat) (w : World) :
    Calls Try.prog 127 #[.agg #[.int .i64 3, .string t, .int .i64 a, .int .i64 b], .slice x n cap] w fun e w' => e = .returned (.iface 170 (.agg #[.int .u8 c])) ∧ Below w.heap.size w w' := by
  have h0 : (0 : Int) < (t.size : Int) := by omega
  have hb : ((t[0]'(by omega)).toNat : Int) = c := by rw [hc]; exact (bts_at t 0 (by omega)).symm
  clear hc
  go_enter Try.func127, Try.ntmps127
  go_wp2
  go_ret
  exact ⟨rfl, (Below.refl _ _).alloc (Nat.le_refl _) _⟩
set_option maxRecDepth 100000 in
set_option maxHeartbeats 2000000 in
theorem sop_5 (t : ByteArray) (a b : Nat) (g off n cap : Nat) (w : World) (X Y : Sh) (ha : a < n) (hb : b < n) (hg : g < w.heap.size) (h1 : w.cell? ⟨g, off + a, none⟩ = some (sv X)) (h2 : w.cell? ⟨g, off + b, none⟩ = some (sv Y)) :
    Calls Try.prog 127 #[.agg #[.int .i64 5, .string t, .int .i64 (a : Int), .int .i64 (b : Int)], .slice (some ⟨g, off, none⟩) n cap] w fun e w' => e = .returned (.iface 166 (.agg #[sv X, sv Y])) ∧ Below w.heap.size w w' := by
  have ha2 : (a : Int) < (n : Int) := by omega
  have hb2 : (b : Int) < (n : Int) := by omega
  go_enter Try.func127, Try.ntmps127
  go_wp2
  go_quiet (fail)
  go_wp2
  go_ret
  exact ⟨rfl, below_drewS ((Below.refl _ _).alloc (Nat.le_refl _) _) _⟩
set_option maxRecDepth 100000 in
set_option maxHeartbeats 2000000 in
theorem sop_6 (t : ByteArray) (a b : Nat) (g off n cap : Nat) (w : World) (X Y : Sh) (ha : a < n) (hb : b < n) (hg : g < w.heap.size) (h1 : w.cell? ⟨g, off + a, none⟩ = some (sv X)) (h2 : w.cell? ⟨g, off + b, none⟩ = some (sv Y)) :
    Calls Try.prog 127 #[.agg #[.int .i64 6, .string t, .int .i64 (a : Int), .int .i64 (b : Int)], .slice (some ⟨g, off, none⟩) n cap] w fun e w' => e = .returned (.iface 167 (.agg #[sv X, sv Y])) ∧ Below w.heap.size w w' := by
  have ha2 : (a : Int) < (n : Int) := by omega
  have hb2 : (b : Int) < (n : Int) := by omega
  go_enter Try.func127, Try.ntmps127
  go_wp2
  go_quiet (fail)
  go_wp2
  go_ret
  exact ⟨rfl, below_drewS ((Below.refl _ _).alloc (Nat.le_refl _) _) _⟩
set_option maxRecDepth 100000 in
set_option maxHeartbeats 2000000 in
theorem sop_7 (t : ByteArray) (a : Nat) (b : Int) (g off n cap : Nat) (w : World) (X : Sh) (ha : a < n) (hg : g < w.heap.size) (h1 : w.cell? ⟨g, off + a, none⟩ = some (sv X)) :
    Calls Try.prog 127 #[.agg #[.int .i64 7, .string t, .int .i64 (a : Int), .int .i64 b], .slice (some ⟨g, off, none⟩) n cap] w fun e w' => e = .returned (.iface 164 (.agg #[sv X])) ∧ Below w.heap.size w w' := by
  have ha2 : (a : Int) < (n : Int) := by omega
  go_enter Try.func127, Try.ntmps127
  go_wp2
  go_ret
  exact ⟨rfl, (Below.refl _ _).alloc (Nat.le_refl _) _⟩
set_option maxRecDepth 100000 in
set_option maxHeartbeats 2000000 in
theorem sop_8 (t : ByteArray) (a : Nat) (b : Int) (g off n cap : Nat) (w : World) (X : Sh) (ha : a < n) (hg : g < w.heap.size) (h1 : w.cell? ⟨g, off + a, none⟩ = some (sv X)) :
    Calls Try.prog 127 #[.agg #[.int .i64 8, .string t, .int .i64 (a : Int), .int .i64 b], .slice (some ⟨g, off, none⟩) n cap] w fun e w' => e = .returned (.iface 168 (.agg #[sv X])) ∧ Below w.heap.size w w' := by
  have ha2 : (a : Int) < (n : Int) := by omega
  go_enter Try.func127, Try.ntmps127
  go_wp2
  go_ret
  exact ⟨rfl, (Below.refl _ _).alloc (Nat.le_refl _) _⟩
theorem shapeOfPart_any (p : Pr) (i : Nat) (x : Option Addr) (cap : Nat) (m : List Sh) (w : World) (hok : okP i p) (hm : m.length = i) (hs : SlS w x m) :
    Calls Try.prog 127 #[svP p, .slice x i cap] w fun e w' => e = .returned (sv (shp p m)) ∧ Below w.heap.size w w' := by
  obtain ⟨k, t, a, b⟩ := p
  rcases hok with o | o | o | o
  · simp only at o
    rcases o.1 with rfl | rfl | rfl
    · rw [shp_1 rfl]; exact sop_1 t a b x i cap w
    · rw [shp_2 rfl]; exact sop_2 t a b x i cap w
    · rw [shp_4 rfl]; exact sop_4 t a b x i cap w
  · simp only at o
    obtain ⟨rfl, ht, _⟩ := o
    rw [shp_3 rfl]; exact sop_3 t (ltr t) rfl ht.1 a b x i cap w
  · simp only at o
    obtain ⟨ok, _, oa, ob⟩ := o
    obtain ⟨qa, rfl⟩ : ∃ q : Nat, a = (q : Int) := ⟨a.toNat, by omega⟩
    obtain ⟨qb, rfl⟩ : ∃ q : Nat, b = (q : Int) := ⟨b.toNat, by omega⟩
    obtain ⟨g, off, rfl, h1⟩ := hs qa (by omega)
    obtain ⟨g', off', e, h2⟩ := hs qb (by omega)
    cases e
    rcases ok with rfl | rfl
    · rw [shp_5 rfl]; exact sop_5 t qa qb g off i cap w _ _ (by omega) (by omega) (blk_lt h1) h1 h2
    · rw [shp_6 rfl]; exact sop_6 t qa qb g off i cap w _ _ (by omega) (by omega) (blk_lt h1) h1 h2
  · simp only at o
    obtain ⟨ok, _, oa, ob⟩ := o
    obtain ⟨qa, rfl⟩ : ∃ q : Nat, a = (q : Int) := ⟨a.toNat, by omega⟩
    obtain ⟨g, off, rfl, h1⟩ := hs qa (by omega)
    rcases ok with rfl | rfl
    · rw [shp_7 rfl]; exact sop_7 t qa b g off i cap w _ (by omega) (blk_lt h1) h1
    · rw [shp_8 rfl]; exact sop_8 t qa b g off i cap w _ (by omega) (blk_lt h1) h1
theorem sv_one (m : List Sh) : ∀ u ∈ m.map sv, u.oneCell' = true := fun u hu => by
  obtain ⟨x, _, rfl⟩ := List.mem_map.1 hu
  rfl
theorem cell_one_newS (w : World) (p : Value) (t : TypeId) : ∀ j u, [p][j]? = some u → (w.alloc (.cells #[p] t)).cell? ((⟨w.heap.size, 0, none⟩ : Addr).add j) = some u := by
  intro j u h
  rw [addr_add]
  match j, h with
  | 0, h => simp at h; subst h; simp
  | j + 1, h => simp at h
set_option maxRecDepth 100000 in
set_option maxHeartbeats 4000000 in
theorem shapeOf_any (a : Option Addr) (l : List Pr) (n cap : Nat) (w : World) (hn : l.length = n) (hs : SlP w a l) (hg : GoodF l) :
    Calls Try.prog 84 #[.slice a n cap] w fun e w' => e = .returned (sv (whole l)) ∧ Below w.heap.size w w' := by
  obtain ⟨i1, hi1, hy0, hy1, hy2⟩ := info_parts info_shape
  have hn24 : n ≤ 24 := by have := hg.1; omega
  have hn1 : 1 ≤ n := by have := hg.1; omega
  have HG := hide hg
  have HS := hide hs
  have HN := hide hn
  have HW : Hid (whole l = (made l).getD (n - 1) .none) := hide (by unfold whole T; rw [hn])
  clear hg hs hn
  go_enter Try.func84, Try.ntmps84
  go_wp2
  go_loopw [3, 8] (fun v i wr => ∃ k : Nat, k ≤ n ∧ i = .int .i64 k ∧ Hid (wr.ownsRow w.heap.size 107 1 v k ((made (l.take k)).map sv)) ∧ Hid (Below w.heap.size w wr)) (fun _ i _ => n - (intOf i).toNat)
  case atStart => exact ⟨0, Nat.zero_le _, rfl, World.ownsRow_nil _ _ _ _, Below.refl _ _⟩
  case round =>
    obtain ⟨k, hk, rfl, HO, HB⟩ := hrel
    obtain ⟨a3, c3, rfl⟩ := own_shapeT HO.out
    by_cases hlt : k < n
    · obtain ⟨b, off, rfl, hA0⟩ := HS.out k (by rw [HN.out]; exact hlt)
      have hA := hA0.base HB.out (blk_lt hA0.k)
      have hok := HG.out.2.1 k (by rw [HN.out]; exact hlt)
      have hml : (made (l.take k)).length = k := by rw [made_len, List.length_take, HN.out]; omega
      have hsn : made (l.take (k + 1)) = made (l.take k) ++ [shp (l.getD k eP) (made (l.take k))] := by rw [take_snoc l k (by rw [HN.out]; exact hlt), made_snoc]
      obtain ⟨p, hp⟩ : ∃ p, p = l.getD k eP := ⟨_, rfl⟩
      rw [← hp] at hA hok hsn
      have hc0 := hA.k
      have hc1 := hA.t
      have hc2 := hA.a
      have hc3 := hA.b
      have hltI : (k : Int) < (n : Int) := by omega
      obtain ⟨m, hm⟩ : ∃ m, m = made (l.take k) := ⟨_, rfl⟩
      rw [← hm] at hml hsn HO
      have HSN := hide hsn
      have S0 := hide (own_slS HO.out)
      have B1 := hide (HB.out.alloc HB.out.size (.cells #[.int .i64 p.k, .string p.t, .int .i64 p.a, .int .i64 p.b] 116))
      have A1 := hide ((Below.refl wr.heap.size wr).alloc (Nat.le_refl _) (.cells #[.int .i64 p.k, .string p.t, .int .i64 p.a, .int .i64 p.b] 116))
      have O1 := hide (HO.out.alloc (.cells #[.int .i64 p.k, .string p.t, .int .i64 p.a, .int .i64 p.b] 116))
      have HOK := hide hok
      have HML := hide hml
      clear hA0 hA hp hsn hok hm hml
      go_wp2_with fail
      refine (shapeOfPart_any p k a3 c3 m _ HOK.out HML.out (S0.out.below A1.out)).mono ?_
      rintro e w1 ⟨rfl, hb1⟩
      have B2 := hide (B1.out.trans (hb1.mono B1.out.size))
      have O2 := hide (own_belowT O1.out hb1)
      have hz2 := B2.out.size
      obtain ⟨X, hX⟩ : ∃ X, X = shp p m := ⟨_, rfl⟩
      rw [← hX] at HSN ⊢
      clear hb1 hX
      go_wp2_with (first
        | (at_builtin; refine wpList_append_own _ rfl _ _ 157 rfl w.heap.size 107 i1 .nilIface 1 16 Try.underlying157 hi1 hy0 hy1 hy2 rfl (by decide) _ _ _ rfl (O2.out.alloc _) ⟨w1.heap.size, 0, none⟩ 1 1 [sv X] rfl rfl (cell_one_newS _ _ _) (by intro u hu; simp at hu; subst hu; rfl) (by unfold maxLen; omega) (by omega) (by simp; omega) ?_)
        | go_in)
      intro v3 w3 hown3 hgrow3 _
      have hb3 := B2.out.trans (((Below.refl _ _).alloc hz2 _).grown hgrow3 (by simp; omega) (fun g hg => (O2.out.lt g hg).1))
      obtain ⟨a4, c4, rfl⟩ := own_shapeT hown3
      have O3 : Hid (w3.ownsRow w.heap.size 107 1 (.slice a4 (k + 1) c4) (k + 1) ((made (l.take (k + 1))).map sv)) := hide (by rw [HSN.out, List.map_append]; exact hown3)
      have B3 := hide hb3
      clear hown3 hgrow3 hb3
      go_wp2
      go_roundw
      case rel => exact ⟨k + 1, by omega, by go_num, O3, B3⟩
      case measure => simp [intOf]; omega
    · obtain rfl : k = n := by omega
      have hltI : ¬ (k : Int) < (k : Int) := by omega
      have e1 : l.take k = l := List.take_of_length_le (by rw [HN.out]; exact Nat.le_refl _)
      rw [e1] at HO
      obtain ⟨b, off, rfl, hc⟩ := own_slS HO.out (k - 1) (by rw [made_len, HN.out]; omega)
      rw [← HW.out] at hc
      obtain ⟨q, hq⟩ : ∃ q : Nat, k = q + 1 := ⟨k - 1, by omega⟩
      subst hq
      have hqs : q + 1 - 1 = q := by omega
      rw [hqs] at hc
      have hq1 : ((q + 1 : Nat) : Int) - 1 = (q : Int) := by omega
      have hq2 : (q : Int) < ((q + 1 : Nat) : Int) := by omega
      obtain ⟨X, hX⟩ : ∃ X, X = whole l := ⟨_, rfl⟩
      rw [← hX] at hc
      have HX := hide hX
      clear hX e1 hqs
      go_wp2
      go_ret
      exact ⟨by rw [← HX.out]; rfl, HB.out⟩
end Go.Proofs.Ytapffbbmofhpoab.L5

namespace Go.Proofs.Ytapffbbmofhpoab.L5
open Go.RowKit L1 L4
set_option linter.unusedVariables false

/-- The numbers that a part names. -/
def nb (p : Pr) : List Int := if p.k = 5 ∨ p.k = 6 then [p.a, p.b] else if p.k = 7 ∨ p.k = 8 then [p.a] else []
theorem nb_len (p : Pr) : (nb p).length ≤ 2 := by unfold nb; split <;> (try split) <;> simp
theorem ok1 {i : Nat} {t : ByteArray} {k a b : Int} (hk : k = 1 ∨ k = 2 ∨ k = 4) : okP i ⟨k, t, a, b⟩ ↔ t.toList = [] ∧ a = 0 ∧ b = 0 := by
  rcases hk with rfl | rfl | rfl <;> simp [okP, ba_nil]
theorem ok3 {i : Nat} {t : ByteArray} {a b : Int} : okP i ⟨3, t, a, b⟩ ↔ (t.size = 1 ∧ okc (ltr t)) ∧ a = 0 ∧ b = 0 := by simp [okP, okc]
theorem ok5 {i : Nat} {t : ByteArray} {k a b : Int} (hk : k = 5 ∨ k = 6) : okP i ⟨k, t, a, b⟩ ↔ t.toList = [] ∧ (0 ≤ a ∧ a < (i : Int)) ∧ (0 ≤ b ∧ b < (i : Int)) := by
  rcases hk with rfl | rfl <;> simp [okP, ba_nil]
theorem ok7 {i : Nat} {t : ByteArray} {k a b : Int} (hk : k = 7 ∨ k = 8) : okP i ⟨k, t, a, b⟩ ↔ t.toList = [] ∧ (0 ≤ a ∧ a < (i : Int)) ∧ b = 0 := by
  rcases hk with rfl | rfl <;> simp [okP, ba_nil]
theorem ok_nb {i : Nat} {p : Pr} (h : okP i p) : ∀ j, j < (nb p).length → 0 ≤ (nb p).getD j 0 ∧ (nb p).getD j 0 < (i : Int) := by
  intro j hj
  have h2 := nb_len p
  unfold nb at hj ⊢
  rcases h with o | o | o | o
  · rw [if_neg (by omega), if_neg (by omega)] at hj; simp at hj
  · rw [if_neg (by omega), if_neg (by omega)] at hj; simp at hj
  · rw [if_pos (by omega)] at hj ⊢
    match j, hj with
    | 0, _ => exact o.2.2.1
    | 1, _ => exact o.2.2.2
  · rw [if_neg (by omega), if_pos (by omega)] at hj ⊢
    match j, hj with
    | 0, _ => exact o.2.2.1
theorem let_one {t : ByteArray} (h : t.size = 1) : Let t ↔ okc (ltr t) := by
  constructor
  · intro hl; exact hl 0 (by omega)
  · intro h0 k hk
    obtain rfl : k = 0 := by omega
    exact h0
set_option maxRecDepth 100000 in
set_option maxHeartbeats 400000 in
theorem namedBy_two (k : Int) (hk : k = 5 ∨ k = 6) (t : ByteArray) (a b : Int) (w : World) :
    Calls Try.prog 92 #[.agg #[.int .i64 k, .string t, .int .i64 a, .int .i64 b]] w fun e w' => ∃ x n cap, e = .returned (.slice x n cap) ∧ Sl w' x [a, b] ∧ n = 2 ∧ Below w.heap.size w w' ∧ ∀ y, x = some y → w.heap.size ≤ y.block := by
  rcases hk with rfl | rfl
  · go_enter Try.func92, Try.ntmps92
    go_wp2
    go_ret
    refine ⟨_, _, _, rfl, fun i hi => ⟨_, _, rfl, ?_⟩, rfl, ((Below.refl _ _).alloc (Nat.le_refl _) _).alloc (by simp) _, fun y hy => by cases hy; simp⟩
    match i, hi with
    | 0, _ => simp
    | 1, _ => simp
  · go_enter Try.func92, Try.ntmps92
    go_wp2
    go_ret
    refine ⟨_, _, _, rfl, fun i hi => ⟨_, _, rfl, ?_⟩, rfl, ((Below.refl _ _).alloc (Nat.le_refl _) _).alloc (by simp) _, fun y hy => by cases hy; simp⟩
    match i, hi with
    | 0, _ => simp
    | 1, _ => simp
set_option maxRecDepth 100000 in
set_option maxHeartbeats 400000 in
theorem namedBy_one (k : Int) (hk : k = 7 ∨ k = 8) (t : ByteArray) (a b : Int) (w : World) :
    Calls Try.prog 92 #[.agg #[.int .i64 k, .string t, .int .i64 a, .int .i64 b]] w fun e w' => ∃ x n cap, e = .returned (.slice x n cap) ∧ Sl w' x [a] ∧ n = 1 ∧ Below w.heap.size w w' ∧ ∀ y, x = some y → w.heap.size ≤ y.block := by
  rcases hk with rfl | rfl
  · go_enter Try.func92, Try.ntmps92
    go_wp2
    go_ret
    refine ⟨_, _, _, rfl, fun i hi => ⟨_, _, rfl, ?_⟩, rfl, ((Below.refl _ _).alloc (Nat.le_refl _) _).alloc (by simp) _, fun y hy => by cases hy; simp⟩
    match i, hi with
    | 0, _ => simp
  · go_enter Try.func92, Try.ntmps92
    go_wp2
    go_ret
    refine ⟨_, _, _, rfl, fun i hi => ⟨_, _, rfl, ?_⟩, rfl, ((Below.refl _ _).alloc (Nat.le_refl _) _).alloc (by simp) _, fun y hy => by cases hy; simp⟩
    match i, hi with
    | 0, _ => simp
set_option maxRecDepth 100000 in
set_option maxHeartbeats 400000 in
theorem namedBy_no (k : Int) (h5 : (k == 5) = false) (h6 : (k == 6) = false) (h7 : (k == 7) = false) (h8 : (k == 8) = false) (t : ByteArray) (a b : Int) (w : World) :
    Calls Try.prog 92 #[.agg #[.int .i64 k, .string t, .int .i64 a, .int .i64 b]] w fun e w' => ∃ x n cap, e = .returned (.slice x n cap) ∧ Sl w' x [] ∧ n = 0 ∧ Below w.heap.size w w' ∧ ∀ y, x = some y → w.heap.size ≤ y.block := by
  go_enter Try.func92, Try.ntmps92
  go_wp2
  go_ret
  exact ⟨_, _, _, rfl, fun i hi => by simp at hi, rfl, (Below.refl _ _).alloc (Nat.le_refl _) _, fun y hy => by cases hy⟩
theorem namedBy_any (p : Pr) (w : World) :
    Calls Try.prog 92 #[svP p] w fun e w' => ∃ x n cap, e = .returned (.slice x n cap) ∧ Sl w' x (nb p) ∧ n = (nb p).length ∧ Below w.heap.size w w' ∧ ∀ y, x = some y → w.heap.size ≤ y.block := by
  obtain ⟨k, t, a, b⟩ := p
  unfold nb
  by_cases h5 : k = 5 ∨ k = 6
  · rw [if_pos h5]
    exact namedBy_two k h5 t a b w
  · rw [if_neg h5]
    by_cases h7 : k = 7 ∨ k = 8
    · rw [if_pos h7]
      exact namedBy_one k h7 t a b w
    · rw [if_neg h7]
      exact namedBy_no k (by simp; omega) (by simp; omega) (by simp; omega) (by simp; omega) t a b w
theorem three_true {bb : Bool} {p q r : Prop} (h : bb = true ↔ p ∧ q ∧ r) (h1 : p) (h2 : q) (h3 : r) : true = bb := (h.2 ⟨h1, h2, h3⟩).symm
theorem three_f1 {bb : Bool} {p q r : Prop} (h : bb = true ↔ p ∧ q ∧ r) (h1 : ¬ p) : false = bb := (bool_noT h (fun x => h1 x.1)).symm
theorem three_f2 {bb : Bool} {p q r : Prop} (h : bb = true ↔ p ∧ q ∧ r) (h1 : ¬ q) : false = bb := (bool_noT h (fun x => h1 x.2.1)).symm
theorem three_f3 {bb : Bool} {p q r : Prop} (h : bb = true ↔ p ∧ q ∧ r) (h1 : ¬ r) : false = bb := (bool_noT h (fun x => h1 x.2.2)).symm
set_option maxRecDepth 100000 in
set_option maxHeartbeats 4000000 in
theorem goodPart_any (p : Pr) (i : Nat) (w : World) (hx : p.t.size ≤ 9223372036854775807) (bb : Bool) (hbb : bb = true ↔ okP i p) :
    Calls Try.prog 91 #[svP p, .int .i64 (i : Int)] w fun e w' => e = .returned (.bool bb) ∧ Below w.heap.size w w' := by
  have HBB := hide hbb
  have C := hide (fun w => namedBy_any p w)
  have HB0 : Hid (Below w.heap.size w (w.alloc (.cells #[.int .i64 p.k, .string p.t, .int .i64 p.a, .int .i64 p.b] 116))) := hide ((Below.refl _ _).alloc (Nat.le_refl _) _)
  have HLT : Hid (w.heap.size < (w.alloc (.cells #[.int .i64 p.k, .string p.t, .int .i64 p.a, .int .i64 p.b] 116)).heap.size) := by refine hide ?_; simp
  have HC : Hid (AtP (w.alloc (.cells #[.int .i64 p.k, .string p.t, .int .i64 p.a, .int .i64 p.b] 116)) w.heap.size 0 p) := by
    refine hide ⟨?_, ?_, ?_, ?_⟩ <;> simp
  clear hbb
  go_enter Try.func91, Try.ntmps91
  go_wp2_with fail
  refine (C.out _).mono ?_
  rintro e w1 ⟨x, n, cap, rfl, hs, hn, hb1, _⟩
  have HP1 := hide (HC.out.base hb1 HLT.out)
  have B1 := hide (HB0.out.trans (hb1.mono HB0.out.size))
  have HS := hide hs
  have HN := hide hn
  have hn2 : n ≤ 2 := by rw [hn]; exact nb_len p
  have hsz1 : w.heap.size < w1.heap.size := Nat.lt_of_lt_of_le HLT.out hb1.size
  have HZ := hide hsz1
  clear hs hn hb1 hsz1 C
  go_wp2
  go_loopw [10] (fun i' wr => ∃ k : Nat, k ≤ n ∧ i' = .int .i64 k ∧ wr = w1 ∧ Hid (∀ j, j < k → 0 ≤ (nb p).getD j 0 ∧ (nb p).getD j 0 < (i : Int))) (fun i' _ => n - (intOf i').toNat)
  case atStart => exact ⟨0, Nat.zero_le _, rfl, by first | rfl | trivial, fun j hj => absurd hj (Nat.not_lt_zero _)⟩
  case round =>
    obtain ⟨k, hk, rfl, rfl, HJ⟩ := hrel
    by_cases hlt : k < n
    · obtain ⟨b, off, rfl, hc⟩ := HS.out k (by rw [← HN.out]; exact hlt)
      have hltI : (k : Int) < (n : Int) := by omega
      obtain ⟨v, hv⟩ : ∃ v, v = (nb p).getD k 0 := ⟨_, rfl⟩
      rw [← hv] at hc
      have HV := hide hv
      clear hv
      by_cases hok : 0 ≤ v ∧ v < (i : Int)
      · have C2 := hide (fun w => isAhead_any v i w true (iff_of_true rfl hok))
        have HOK := hide hok
        clear hok
        go_wp2_with fail
        refine (C2.out _).mono ?_
        rintro e w2 ⟨rfl, rfl⟩
        go_wp2
        go_roundw
        case rel =>
          refine ⟨k + 1, by omega, by go_num, by first | rfl | trivial, ?_⟩
          intro j hj
          by_cases e : j = k
          · subst e; rw [← HV.out]; exact HOK.out
          · exact HJ.out j (by omega)
        case measure => simp [intOf]; omega
      · have C2 := hide (fun w => isAhead_any v i w false (iff_of_false (by simp) hok))
        have E := hide (bool_noT HBB.out (fun h => hok (by rw [HV.out]; exact ok_nb h k (by rw [← HN.out]; exact hlt))))
        clear hok
        go_wp2_with fail
        refine (C2.out _).mono ?_
        rintro e w2 ⟨rfl, rfl⟩
        go_wp2
        go_ret
        exact ⟨by rw [E.out]; rfl, B1.out⟩
    · obtain rfl : k = n := by omega
      have hltI : ¬ (k : Int) < (k : Int) := by omega
      have d0 := HP1.out.k
      have d1 := HP1.out.t
      have d2 := HP1.out.a
      have d3 := HP1.out.b
      simp only [Nat.zero_add] at d0 d1 d2 d3
      obtain ⟨pk, pt, pa, pb⟩ := p
      simp only at d0 d1 d2 d3 hx
      have HNB : Hid (∀ j, j < (nb ⟨pk, pt, pa, pb⟩).length → 0 ≤ (nb ⟨pk, pt, pa, pb⟩).getD j 0 ∧ (nb ⟨pk, pt, pa, pb⟩).getD j 0 < (i : Int)) := hide (fun j hj => HJ.out j (by rw [HN.out]; exact hj))
      by_cases hk1 : pk = 1
      · subst hk1
        have HQ := hide (HBB.out.trans (ok1 (.inl rfl)))
        go_wp2
        all_goals
          go_ret
          refine ⟨ret_bool ?_, B1.out⟩
          first
          | exact three_true HQ.out (by assumption) (by first | assumption | trivial) (by first | assumption | trivial)
          | exact three_f1 HQ.out (by assumption)
          | exact three_f2 HQ.out (by assumption)
          | exact three_f3 HQ.out (by assumption)
      by_cases hk2 : pk = 2
      · subst hk2
        have HQ := hide (HBB.out.trans (ok1 (.inr (.inl rfl))))
        go_wp2
        all_goals
          go_ret
          refine ⟨ret_bool ?_, B1.out⟩
          first
          | exact three_true HQ.out (by assumption) (by first | assumption | trivial) (by first | assumption | trivial)
          | exact three_f1 HQ.out (by assumption)
          | exact three_f2 HQ.out (by assumption)
          | exact three_f3 HQ.out (by assumption)
      by_cases hk4 : pk = 4
      · subst hk4
        have HQ := hide (HBB.out.trans (ok1 (.inr (.inr rfl))))
        go_wp2
        all_goals
          go_ret
          refine ⟨ret_bool ?_, B1.out⟩
          first
          | exact three_true HQ.out (by assumption) (by first | assumption | trivial) (by first | assumption | trivial)
          | exact three_f1 HQ.out (by assumption)
          | exact three_f2 HQ.out (by assumption)
          | exact three_f3 HQ.out (by assumption)
      by_cases hk5 : pk = 5 ∨ pk = 6
      · have hnb : nb ⟨pk, pt, pa, pb⟩ = [pa, pb] := by unfold nb; rw [if_pos hk5]
        have HA : Hid (0 ≤ pa ∧ pa < (i : Int)) := hide (by have := HNB.out 0; rw [hnb] at this; exact this (by simp))
        have HB : Hid (0 ≤ pb ∧ pb < (i : Int)) := hide (by have := HNB.out 1; rw [hnb] at this; exact this (by simp))
        have HQ := hide (HBB.out.trans (ok5 hk5))
        clear hnb
        rcases hk5 with rfl | rfl
        · go_wp2
          all_goals
            go_ret
            refine ⟨ret_bool ?_, B1.out⟩
            first
            | exact three_true HQ.out (by assumption) HA.out HB.out
            | exact three_f1 HQ.out (by assumption)
        · go_wp2
          all_goals
            go_ret
            refine ⟨ret_bool ?_, B1.out⟩
            first
            | exact three_true HQ.out (by assumption) HA.out HB.out
            | exact three_f1 HQ.out (by assumption)
      by_cases hk7 : pk = 7 ∨ pk = 8
      · have hnb : nb ⟨pk, pt, pa, pb⟩ = [pa] := by unfold nb; rw [if_neg (by simp only; omega), if_pos hk7]
        have HA : Hid (0 ≤ pa ∧ pa < (i : Int)) := hide (by have := HNB.out 0; rw [hnb] at this; exact this (by simp))
        have HQ := hide (HBB.out.trans (ok7 hk7))
        clear hnb
        rcases hk7 with rfl | rfl
        · go_wp2
          all_goals
            go_ret
            refine ⟨ret_bool ?_, B1.out⟩
            first
            | exact three_true HQ.out (by assumption) HA.out (by first | assumption | trivial)
            | exact three_f1 HQ.out (by assumption)
            | exact three_f3 HQ.out (by assumption)
        · go_wp2
          all_goals
            go_ret
            refine ⟨ret_bool ?_, B1.out⟩
            first
            | exact three_true HQ.out (by assumption) HA.out (by first | assumption | trivial)
            | exact three_f1 HQ.out (by assumption)
            | exact three_f3 HQ.out (by assumption)
      by_cases hk3 : pk = 3
      · subst hk3
        have HQ := hide (HBB.out.trans ok3)
        clear hk1 hk2 hk4 hk5 hk7
        by_cases h1 : (pt.size : Int) = 1
        · have hs1 : pt.size = 1 := by omega
          by_cases hl : okc (ltr pt)
          · have C3 := hide (fun w => isFitted_any pt w hx true (iff_of_true rfl ⟨by omega, (let_one hs1).2 hl⟩))
            have HL := hide (And.intro hs1 hl)
            have hnn : (pt.toList == pt.toList) = true := by simp
            clear hl hs1
            go_wp2_with fail
            refine (C3.out _).mono ?_
            rintro e w2 ⟨rfl, hb2⟩
            have A2 := HP1.out.base hb2 HZ.out
            have f0 := A2.k
            have f1 := A2.t
            have f2 := A2.a
            have f3 := A2.b
            simp only [Nat.zero_add] at f0 f1 f2 f3
            have B2 := hide (B1.out.trans (hb2.mono B1.out.size))
            clear hb2 A2
            go_wp2
            all_goals
              go_ret
              refine ⟨ret_bool ?_, B2.out⟩
              first
              | exact three_true HQ.out HL.out (by first | assumption | trivial) (by first | assumption | trivial)
              | exact three_f2 HQ.out (by assumption)
              | exact three_f3 HQ.out (by assumption)
          · have C3 := hide (fun w => isFitted_any pt w hx false (iff_of_false (by simp) (fun h => hl ((let_one hs1).1 h.2))))
            have E := hide (bool_noT HQ.out (fun h => hl h.1.2))
            clear hl hs1
            go_wp2_with fail
            refine (C3.out _).mono ?_
            rintro e w2 ⟨rfl, hb2⟩
            have B2 := hide (B1.out.trans (hb2.mono B1.out.size))
            clear hb2
            go_wp2
            go_ret
            exact ⟨by rw [E.out]; rfl, B2.out⟩
        · have E := hide (bool_noT HQ.out (fun h => h1 (by have := h.1.1; omega)))
          have h1b : ((pt.size : Int) == 1) = false := by simpa using h1
          clear h1
          go_wp2
          go_ret
          exact ⟨by rw [E.out]; rfl, B1.out⟩
      have e1 : (pk == 1) = false := by simpa using hk1
      have e2 : (pk == 2) = false := by simpa using hk2
      have e3 : (pk == 3) = false := by simpa using hk3
      have e4 : (pk == 4) = false := by simpa using hk4
      have e5 : (pk == 5) = false := by simp; omega
      have e6 : (pk == 6) = false := by simp; omega
      have e7 : (pk == 7) = false := by simp; omega
      have e8 : (pk == 8) = false := by simp; omega
      have E := hide (bool_noT HBB.out (fun h => by have := okP_kind h; simp only at this; omega))
      clear hk1 hk2 hk3 hk4 hk5 hk7
      go_wp2
      go_ret
      exact ⟨by rw [E.out]; rfl, B1.out⟩
end Go.Proofs.Ytapffbbmofhpoab.L5

namespace Go.Proofs.Ytapffbbmofhpoab.L5
open Go.RowKit L1 L4
set_option linter.unusedVariables false

/-- How often a number stands in a list. -/
def cn (xs : List Int) (i : Int) : Int := (xs.map fun x => if x = i then (1 : Int) else 0).sum
theorem cn_nb (p : Pr) (i : Int) : cn (nb p) i = nm p i := by
  unfold nb
  by_cases h5 : p.k = 5 ∨ p.k = 6
  · rw [if_pos h5, nm_two h5]
    simp [cn]
    omega
  · rw [if_neg h5]
    by_cases h7 : p.k = 7 ∨ p.k = 8
    · rw [if_pos h7, nm_one h7]
      simp [cn]
    · rw [if_neg h7]
      unfold nm
      rw [if_neg (by omega), if_neg (by omega)]
      rfl
theorem cn_snoc (xs : List Int) (j : Nat) (hj : j < xs.length) (i : Int) : cn (xs.take (j + 1)) i = cn (xs.take j) i + (if xs.getD j 0 = i then 1 else 0) := by
  unfold cn
  rw [List.take_succ_eq_append_getElem hj, List.map_append, List.sum_append]
  simp [List.getD, List.getElem?_eq_getElem hj]
theorem cn_range (xs : List Int) (i : Int) : 0 ≤ cn xs i ∧ cn xs i ≤ (xs.length : Int) := by
  induction xs with
  | nil => simp [cn]
  | cons x l ih =>
    simp only [cn, List.map_cons, List.sum_cons, List.length_cons] at ih ⊢
    split <;> omega
/-- A list of counts. -/
def Cnt (m : Nat) (f : Int → Int) (ys : List Int) : Prop := ys.length = m ∧ ∀ i, i < m → ys.getD i 0 = f (i : Int)
theorem Cnt.bump {m : Nat} {f g : Int → Int} {ys : List Int} (h : Cnt m f ys) (x : Int) (hx : 0 ≤ x) (hg : ∀ i, g i = f i + (if x = i then 1 else 0)) : Cnt m g (ys.set x.toNat (ys.getD x.toNat 0 + 1)) := by
  refine ⟨by simpa using h.1, fun i hi => ?_⟩
  rw [hg, ← h.2 i hi]
  by_cases e : x = (i : Int)
  · subst e
    rw [if_pos rfl]
    simp only [Int.toNat_natCast, List.getD, List.getElem?_set_self (show i < ys.length by rw [h.1]; exact hi), Option.getD_some]
  · rw [if_neg e]
    simp only [List.getD, List.getElem?_set_ne (show x.toNat ≠ i by omega)]
    omega
theorem sl_set {w : World} {a : Option Addr} {xs : List Int} {p : Addr} {u : Value} (h : Sl w a xs) (hne : ∀ x, a = some x → x.block ≠ p.block) : Sl (w.setCell p u) a xs := fun i hi => by
  obtain ⟨b, off, ha, hc⟩ := h i hi
  refine ⟨b, off, ha, ?_⟩
  have := hne _ ha
  rw [World.cell?_of_block (w := w) (Below.heap_setCell w p u b this)]
  exact hc
theorem heap_big {w w' : World} {g : Nat} (h : g < w.heap.size) (hb : Below w.heap.size w w') : g < w'.heap.size := Nat.lt_of_lt_of_le h hb.size
end Go.Proofs.Ytapffbbmofhpoab.L5
namespace Go.Proofs.Ytapffbbmofhpoab.L5
open Go.RowKit L1 L4
abbrev rowA (g : Nat) (ys : List Int) (w : World) (base : Nat) : Prop := w.ownsRow base 114 1 (.slice (some ⟨g, 0, none⟩) 24 24) 24 (ys.map (Value.int .i64))
theorem rowA_new (w : World) : rowA w.heap.size (List.replicate 24 0) (w.alloc (.cells #[.int .i64 0, .int .i64 0, .int .i64 0, .int .i64 0, .int .i64 0, .int .i64 0, .int .i64 0, .int .i64 0, .int .i64 0, .int .i64 0, .int .i64 0, .int .i64 0, .int .i64 0, .int .i64 0, .int .i64 0, .int .i64 0, .int .i64 0, .int .i64 0, .int .i64 0, .int .i64 0, .int .i64 0, .int .i64 0, .int .i64 0, .int .i64 0] 114)) w.heap.size :=
  ⟨rfl, .inr ⟨w.heap.size, 24, _, rfl, Nat.le_refl _, by show (w.heap.push _)[w.heap.size]? = _; exact Array.getElem?_push_size, Nat.le_refl _, by unfold maxLen; omega, rfl, rfl⟩⟩
theorem ints_get {ys : List Int} {i : Nat} (h : i < ys.length) : (ys.map (Value.int .i64))[i]? = some (.int .i64 (ys.getD i 0)) := by
  rw [List.getElem?_map, List.getElem?_eq_getElem h]
  simp [List.getD, List.getElem?_eq_getElem h]
theorem slice24 (w : World) (g k : Nat) (h1 : 1 ≤ k) (h24 : k ≤ 24) : (Instr.sliceAt 114 (.pointer (some ⟨g, 0, none⟩)) none (some (.int .i64 ((k : Int) - 1))) none).run Try.prog w = .ok (.slice (some ⟨g, 0, none⟩) (k - 1) 24) w := by
  have hl : Try.prog.arrayLen 114 = 24 := by kernel_rfl
  have hu : Try.prog.underlying 114 = some (.array (Try.prog.arrayLen 114) (Try.prog.elem 114)) := by kernel_rfl
  have hsz : (sizeOf (Try.prog.elem 114)).run Try.prog w = .ok 1 w := by kernel_rfl
  rw [run_sliceAt_array_h w 114 ⟨g, 0, none⟩ hu .i64 ((k : Int) - 1) (by omega) (by rw [hl]; omega), hsz, hl]
  have e : ((k : Int) - 1).toNat = k - 1 := by omega
  rw [e]
  simp [slicedAt, Result.andThen, Addr.add]
theorem rep0 (n i : Nat) : (List.replicate n (0 : Int)).getD i 0 = 0 := by
  simp only [List.getD, List.getElem?_replicate]
  split <;> rfl
theorem cnt_step (l : List Pr) (k : Nat) (hk : k < l.length) (i : Int) : cnt (l.take (k + 1)) i = cnt (l.take k) i + cn (nb (l.getD k eP)) i := by
  rw [take_snoc l k hk, cnt_snoc, cn_nb]
set_option maxRecDepth 100000 in
set_option maxHeartbeats 8000000 in
theorem goodForm_any (a : Option Addr) (l : List Pr) (n cap : Nat) (w : World) (hn : l.length = n) (hs : SlP w a l) (hn2 : n ≤ 1048576) (hst : TxP l) (bb : Bool) (hbb : bb = true ↔ GoodF l) :
    Calls Try.prog 37 #[.slice a n cap] w fun e w' => e = .returned (.bool bb) ∧ Below w.heap.size w w' := by
  have HBB := hide hbb
  have HST := hide hst
  clear hbb hst
  by_cases h1 : (n : Int) < 1
  · have hno : ¬ GoodF l := fun h => by have := h.1; omega
    have HNO := hide hno
    clear hs hn hno
    go_enter Try.func37, Try.ntmps37
    go_wp2
    go_ret
    exact ⟨by rw [bool_noT HBB.out HNO.out]; rfl, Below.refl _ _⟩
  by_cases h20 : 24 < (n : Int)
  · have hno : ¬ GoodF l := fun h => by have := h.1; omega
    have HNO := hide hno
    clear hs hn hno
    go_enter Try.func37, Try.ntmps37
    go_wp2
    go_ret
    exact ⟨by rw [bool_noT HBB.out HNO.out]; rfl, Below.refl _ _⟩
  have HS := hide hs
  have HN := hide hn
  have HNEW := hide (rowA_new w)
  have HBN : Hid (Below w.heap.size w (w.alloc (.cells #[.int .i64 0, .int .i64 0, .int .i64 0, .int .i64 0, .int .i64 0, .int .i64 0, .int .i64 0, .int .i64 0, .int .i64 0, .int .i64 0, .int .i64 0, .int .i64 0, .int .i64 0, .int .i64 0, .int .i64 0, .int .i64 0, .int .i64 0, .int .i64 0, .int .i64 0, .int .i64 0, .int .i64 0, .int .i64 0, .int .i64 0, .int .i64 0] 114))) := hide ((Below.refl _ _).alloc (Nat.le_refl _) _)
  clear hs hn
  go_enter Try.func37, Try.ntmps37
  go_wp2
  go_loopw [20] (fun i wr => ∃ (k : Nat) (ys : List Int), k ≤ n ∧ i = .int .i64 k ∧ Hid (∀ j, j < k → okP j (l.getD j eP)) ∧ Hid (Cnt 24 (fun i => cnt (l.take k) i) ys) ∧ Hid (rowA w.heap.size ys wr w.heap.size) ∧ Hid (Below w.heap.size w wr) ∧ Hid (w.heap.size < wr.heap.size)) (fun i _ => n - (intOf i).toNat)
  case atStart => exact ⟨0, List.replicate 24 0, Nat.zero_le _, rfl, fun j hj => absurd hj (Nat.not_lt_zero _), ⟨by simp, fun i hi => by rw [rep0]; simp [cnt]⟩, HNEW.out, HBN.out, by refine hide ?_; simp⟩
  case round =>
    obtain ⟨k, ys, hk, rfl, HJ, HY, HR, HB, HZ⟩ := hrel
    by_cases hlt : k < n
    · obtain ⟨b, off, rfl, hA0⟩ := HS.out k (by rw [HN.out]; exact hlt)
      have hA := hA0.base HB.out (blk_lt hA0.k)
      have hsx := HST.out k (by rw [HN.out]; exact hlt)
      have hstep := cnt_step l k (by rw [HN.out]; exact hlt)
      obtain ⟨p, hp⟩ : ∃ p, p = l.getD k eP := ⟨_, rfl⟩
      rw [← hp] at hA hsx hstep
      have hc0 := hA.k
      have hc1 := hA.t
      have hc2 := hA.a
      have hc3 := hA.b
      have hltI : (k : Int) < (n : Int) := by omega
      have HP := hide hp.symm
      have HSTEP := hide hstep
      have HSZ : Hid (wr.heap.size < (wr.alloc (.cells #[.int .i64 p.k, .string p.t, .int .i64 p.a, .int .i64 p.b] 116)).heap.size) := by refine hide ?_; simp
      have HPB : Hid (AtP (wr.alloc (.cells #[.int .i64 p.k, .string p.t, .int .i64 p.a, .int .i64 p.b] 116)) wr.heap.size 0 p) := by
        refine hide ⟨?_, ?_, ?_, ?_⟩ <;> simp
      have B1 := hide (HB.out.alloc HB.out.size (.cells #[.int .i64 p.k, .string p.t, .int .i64 p.a, .int .i64 p.b] 116))
      have R1 := hide (HR.out.alloc (.cells #[.int .i64 p.k, .string p.t, .int .i64 p.a, .int .i64 p.b] 116))
      clear hA0 hA hp hstep
      by_cases hok : okP k p
      · have C := hide (fun w => goodPart_any p k w hsx true (iff_of_true rfl hok))
        have HOK := hide hok
        clear hok hsx
        go_wp2_with fail
        refine (C.out _).mono ?_
        rintro e w1 ⟨rfl, hb1⟩
        have P1 := HPB.out.base hb1 HSZ.out
        have d0 := P1.k
        have d1 := P1.t
        have d2 := P1.a
        have d3 := P1.b
        simp only [Nat.zero_add] at d0 d1 d2 d3
        have B2 := hide (B1.out.trans (hb1.mono B1.out.size))
        have R2 := hide (own_belowT R1.out hb1)
        have Z2 : Hid (w.heap.size < w1.heap.size) := hide (by have h1 := HZ.out; have h2 := HSZ.out; have h3 := hb1.size; omega)
        clear hb1 P1
        go_wp2_with fail
        refine (namedBy_any p _).mono ?_
        rintro e w2 ⟨x, m, c2, rfl, hs2, hm, hb2, hf2⟩
        have HX : Hid (∀ y, x = some y → y.block ≠ w.heap.size) := hide (fun y hy => by
          have h1 := hf2 y hy
          have h2 := Z2.out
          omega)
        have B3 := hide (B2.out.trans (hb2.mono B2.out.size))
        have R3 := hide (own_belowT R2.out hb2)
        have Z3 : Hid (w.heap.size < w2.heap.size) := hide (by have h1 := Z2.out; have h3 := hb2.size; omega)
        have hm2 : m ≤ 2 := by rw [hm]; exact nb_len p
        have HM := hide hm
        have S3 := hide hs2
        clear hb2 hs2 hm hf2
        go_wp2
        go_loopw [32] (fun i wr' => ∃ (j : Nat) (zs : List Int), j ≤ m ∧ i = .int .i64 j ∧ Hid (Cnt 24 (fun i => cnt (l.take k) i + cn ((nb p).take j) i) zs) ∧ Hid (rowA w.heap.size zs wr' w.heap.size) ∧ Hid (Below w.heap.size w wr') ∧ Hid (w.heap.size < wr'.heap.size) ∧ Hid (Sl wr' x (nb p))) (fun i _ => m - (intOf i).toNat)
        case atStart => exact ⟨0, ys, Nat.zero_le _, rfl, hide (by simpa [cn] using HY.out), R3, B3, Z3, S3⟩
        case round =>
          obtain ⟨j, zs, hj, rfl, HQ, HR4, HB4, HZ4, HS4⟩ := hrel
          by_cases hjm : j < m
          · obtain ⟨b', off', rfl, hcv⟩ := HS4.out j (by rw [← HM.out]; exact hjm)
            have hv := ok_nb HOK.out j (by rw [← HM.out]; exact hjm)
            have hcs := cn_snoc (nb p) j (by rw [← HM.out]; exact hjm)
            obtain ⟨q, hq⟩ : ∃ q : Nat, (nb p).getD j 0 = (q : Int) := ⟨((nb p).getD j 0).toNat, by omega⟩
            rw [hq] at hcv hv hcs
            have hq24 : q < 24 := by omega
            have hjI : (j : Int) < (m : Int) := by omega
            have hqI : (q : Int) < 24 := by omega
            have hz : zs.getD q 0 = cnt (l.take k) (q : Int) + cn ((nb p).take j) (q : Int) := HQ.out.2 q hq24
            have hzr : 0 ≤ zs.getD q 0 ∧ zs.getD q 0 ≤ 100 := by
              rw [hz]
              have h1 := cnt_range (l.take k) (q : Int)
              have h2 := cn_range ((nb p).take j) (q : Int)
              have h3 := nb_len p
              simp only [List.length_take] at h1 h2
              omega
            have hcz := HR4.out.cellAt q (by omega)
            rw [ints_get (by rw [HQ.out.1]; exact hq24)] at hcz
            have hfr := HR4.out.frozenAt q
            have hst := HR4.out.stored q (.int .i64 (zs.getD q 0 + 1))
            have hbump := HQ.out.bump (q : Int) (by omega) (g := fun i => cnt (l.take k) i + cn ((nb p).take (j + 1)) i) (fun i => by rw [hcs]; omega)
            simp only [Int.toNat_natCast] at hbump
            have R5 : Hid (rowA w.heap.size (zs.set q (zs.getD q 0 + 1)) (wr.setCell ⟨w.heap.size, q, none⟩ (.int .i64 (zs.getD q 0 + 1))) w.heap.size) := hide (by rw [rowA, List.map_set]; exact hst.1)
            have B5 := hide (HB4.out.setCell (p := ⟨w.heap.size, q, none⟩) (Nat.le_refl _) (.int .i64 (zs.getD q 0 + 1)))
            have S5 := hide (sl_set (p := ⟨w.heap.size, q, none⟩) (u := .int .i64 (zs.getD q 0 + 1)) HS4.out HX.out)
            have HBUMP := hide hbump
            obtain ⟨c, hc⟩ : ∃ c, c = zs.getD q 0 := ⟨_, rfl⟩
            rw [← hc] at hcz hzr R5 B5 S5 HBUMP
            obtain ⟨hz0, hz1⟩ := hzr
            clear hc hbump hst hz hcs hq hv
            go_wp2
            go_roundw
            case rel => exact ⟨j + 1, _, by omega, by go_num, HBUMP, R5, B5, by refine hide ?_; simpa using HZ4.out, S5⟩
            case measure => simp [intOf]; omega
          · obtain rfl : j = m := by omega
            have hjI : ¬ (j : Int) < (j : Int) := by omega
            go_wp2
            go_roundw
            case rel =>
              refine ⟨k + 1, zs, by omega, by go_num, ?_, ?_, HR4, HB4, HZ4⟩
              · intro i hi
                by_cases e : i = k
                · subst e; rw [HP.out]; exact HOK.out
                · exact HJ.out i (by omega)
              · refine hide ⟨HQ.out.1, fun i hi => ?_⟩
                have h1 : zs.getD i 0 = cnt (l.take k) (i : Int) + cn ((nb p).take j) (i : Int) := HQ.out.2 i hi
                rw [h1, HM.out, List.take_length]
                exact (HSTEP.out (i : Int)).symm
            case measure => simp [intOf]; omega
      · have C := hide (fun w => goodPart_any p k w hsx false (iff_of_false (by simp) hok))
        have hno : ¬ GoodF l := fun h => hok (by have := h.2.1 k (by rw [HN.out]; exact hlt); rw [HP.out] at this; exact this)
        have HNO := hide hno
        clear hok hsx hno
        go_wp2_with fail
        refine (C.out _).mono ?_
        rintro e w1 ⟨rfl, hb1⟩
        have B2 := hide (B1.out.trans (hb1.mono B1.out.size))
        clear hb1
        go_wp2
        go_ret
        exact ⟨by rw [bool_noT HBB.out HNO.out]; rfl, B2.out⟩
    · obtain rfl : k = n := by omega
      have hltI : ¬ (k : Int) < (k : Int) := by omega
      have hsl := slice24 wr w.heap.size k (by omega) (by omega)
      have HK := hide (show 1 ≤ k ∧ k ≤ 24 from ⟨by omega, by omega⟩)
      have HG : Hid (GoodF l ↔ ∀ i : Nat, i < k - 1 → ys.getD i 0 = 1) := hide (by
        have hN := HN.out
        have hY : ∀ i : Nat, i < k - 1 → ys.getD i 0 = cnt l (i : Int) := fun i hi => by
          rw [HY.out.2 i (by have := HK.out; omega), ← hN, List.take_length]
        constructor
        · intro h i hi
          rw [hY i hi]
          exact h.2.2 i (by omega)
        · intro h
          exact ⟨by have := HK.out; omega, fun j hj => HJ.out j (by omega), fun i hi => by rw [← hY i (by omega)]; exact h i (by omega)⟩)
      obtain ⟨r, hr⟩ : ∃ r, r = k - 1 := ⟨_, rfl⟩
      rw [← hr] at hsl HG
      have hr24 : r < 24 := by omega
      clear hr
      go_wp2
      go_loopw [48] (fun i wr' => ∃ (j : Nat), j ≤ r ∧ i = .int .i64 j ∧ wr' = wr ∧ Hid (∀ i : Nat, i < j → ys.getD i 0 = 1)) (fun i _ => r - (intOf i).toNat)
      case atStart => exact ⟨0, Nat.zero_le _, rfl, by first | rfl | trivial, fun j hj => absurd hj (Nat.not_lt_zero _)⟩
      case round =>
        obtain ⟨j, hj, rfl, rfl, HD⟩ := hrel
        by_cases hjm : j < r
        · have hjI : (j : Int) < (r : Int) := by omega
          have hcz := HR.out.cellAt j (by omega)
          rw [ints_get (by rw [HY.out.1]; omega)] at hcz
          obtain ⟨c, hc⟩ : ∃ c, c = ys.getD j 0 := ⟨_, rfl⟩
          rw [← hc] at hcz
          have HC := hide hc
          clear hc
          by_cases h1 : c = 1
          · subst h1
            go_wp2
            go_roundw
            case rel =>
              refine ⟨j + 1, by omega, by go_num, by first | rfl | trivial, ?_⟩
              intro i hi
              by_cases e : i = j
              · subst e; exact HC.out.symm
              · exact HD.out i (by omega)
            case measure => simp [intOf]; omega
          · have E := hide (bool_noT (HBB.out.trans HG.out) (fun h => h1 (by rw [HC.out]; exact h j hjm)))
            have h1b : (c == 1) = false := by simpa using h1
            clear h1
            go_wp2
            go_ret
            exact ⟨by rw [E.out]; rfl, HB.out⟩
        · have hjI : ¬ (j : Int) < (r : Int) := by omega
          have E := hide ((HBB.out.trans HG.out).2 (fun i hi => HD.out i (by omega)))
          go_wp2
          go_ret
          exact ⟨by rw [E.out]; rfl, HB.out⟩
end Go.Proofs.Ytapffbbmofhpoab.L5

namespace Go.Proofs.Ytapffbbmofhpoab.L4
open Go.RowKit L1
set_option linter.unusedVariables false

set_option maxRecDepth 100000 in
set_option maxHeartbeats 400000 in
theorem l1In_any (x lo hi : Int) (w : World) (b : Bool) (hb : b = true ↔ lo ≤ x ∧ x ≤ hi) :
    Calls Try.prog 62 #[.int .i64 x, .int .i64 lo, .int .i64 hi] w fun e w' => e = .returned (.bool b) ∧ w = w' := by
  by_cases h1 : lo ≤ x
  · by_cases h2 : x ≤ hi
    · obtain rfl : b = true := hb.2 ⟨h1, h2⟩
      clear hb
      go_enter Try.func62, Try.ntmps62
      go_wp2
      go_ret
      exact ⟨rfl, rfl⟩
    · obtain rfl : b = false := bool_noT hb (fun h => h2 h.2)
      clear hb
      go_enter Try.func62, Try.ntmps62
      go_wp2
      go_ret
      exact ⟨rfl, rfl⟩
  · obtain rfl : b = false := bool_noT hb (fun h => h1 h.1)
    clear hb
    go_enter Try.func62, Try.ntmps62
    go_wp2
    go_ret
    exact ⟨rfl, rfl⟩

end Go.Proofs.Ytapffbbmofhpoab.L4

namespace Go.Proofs.Ytapffbbmofhpoab.L5
open Go.RowKit L1 L4
set_option linter.unusedVariables false

set_option maxRecDepth 100000 in
set_option maxHeartbeats 4000000 in
theorem l5Part_any (p : Pr) (i : Nat) (w : World) (hx : p.t.size ≤ 9223372036854775807) (hi : i ≤ 1048576) (bb : Bool) (hbb : bb = true ↔ okP i p) :
    Calls Try.prog 128 #[svP p, .int .i64 (i : Int)] w fun e w' => e = .returned (.bool bb) ∧ Below w.heap.size w w' := by
  obtain ⟨pk, pt, pa, pb⟩ := p
  simp only at hx
  have HBB := hide hbb
  have HB0 : Hid (Below w.heap.size w (w.alloc (.cells #[.int .i64 pk, .string pt, .int .i64 pa, .int .i64 pb] 116))) := hide ((Below.refl _ _).alloc (Nat.le_refl _) _)
  have hi0 : -1 ≤ (i : Int) - 1 := by omega
  clear hbb
  by_cases h5 : pk = 5 ∨ pk = 6
  · have HQ := hide (HBB.out.trans (ok5 h5))
    have C1 := hide (fun w => l5Two_any pk w true (iff_of_true rfl h5))
    by_cases ht : pt.toList = []
    · by_cases ha : 0 ≤ pa ∧ pa < (i : Int)
      · have CA := hide (fun w => l1In_any pa 0 ((i : Int) - 1) w true (iff_of_true rfl (by omega)))
        by_cases hb : 0 ≤ pb ∧ pb < (i : Int)
        · have CB := hide (fun w => l1In_any pb 0 ((i : Int) - 1) w true (iff_of_true rfl (by omega)))
          have E := hide (HQ.out.2 ⟨ht, ha, hb⟩)
          clear ha hb h5
          go_enter Try.func128, Try.ntmps128
          go_wp2_with fail
          refine (C1.out _).mono ?_
          rintro e w1 ⟨rfl, rfl⟩
          go_wp2_with fail
          refine (CA.out _).mono ?_
          rintro e w1 ⟨rfl, rfl⟩
          go_wp2_with fail
          refine (CB.out _).mono ?_
          rintro e w1 ⟨rfl, rfl⟩
          go_wp2
          go_ret
          exact ⟨ret_bool E.out.symm, HB0.out⟩
        · have CB := hide (fun w => l1In_any pb 0 ((i : Int) - 1) w false (iff_of_false (by simp) (by omega)))
          have E := hide (bool_noT HQ.out (fun h => hb h.2.2))
          clear ha hb h5
          go_enter Try.func128, Try.ntmps128
          go_wp2_with fail
          refine (C1.out _).mono ?_
          rintro e w1 ⟨rfl, rfl⟩
          go_wp2_with fail
          refine (CA.out _).mono ?_
          rintro e w1 ⟨rfl, rfl⟩
          go_wp2_with fail
          refine (CB.out _).mono ?_
          rintro e w1 ⟨rfl, rfl⟩
          go_wp2
          go_ret
          exact ⟨ret_bool E.out.symm, HB0.out⟩
      · have CA := hide (fun w => l1In_any pa 0 ((i : Int) - 1) w false (iff_of_false (by simp) (by omega)))
        have E := hide (bool_noT HQ.out (fun h => ha h.2.1))
        clear ha h5
        go_enter Try.func128, Try.ntmps128
        go_wp2_with fail
        refine (C1.out _).mono ?_
        rintro e w1 ⟨rfl, rfl⟩
        go_wp2_with fail
        refine (CA.out _).mono ?_
        rintro e w1 ⟨rfl, rfl⟩
        go_wp2
        go_ret
        exact ⟨ret_bool E.out.symm, HB0.out⟩
    · have E := hide (bool_noT HQ.out (fun h => ht h.1))
      clear h5
      go_enter Try.func128, Try.ntmps128
      go_wp2_with fail
      refine (C1.out _).mono ?_
      rintro e w1 ⟨rfl, rfl⟩
      go_wp2
      go_ret
      exact ⟨ret_bool E.out.symm, HB0.out⟩
  have C1 := hide (fun w => l5Two_any pk w false (iff_of_false (by simp) h5))
  by_cases h7 : pk = 7 ∨ pk = 8
  · have HQ := hide (HBB.out.trans (ok7 h7))
    have C2 := hide (fun w => l5One_any pk w true (iff_of_true rfl h7))
    by_cases ht : pt.toList = []
    · by_cases ha : 0 ≤ pa ∧ pa < (i : Int)
      · have CA := hide (fun w => l1In_any pa 0 ((i : Int) - 1) w true (iff_of_true rfl (by omega)))
        have E : Hid ((pb == 0) = bb) := hide (by
          by_cases hb : pb = 0
          · rw [HQ.out.2 ⟨ht, ha, hb⟩]; simpa using hb
          · rw [bool_noT HQ.out (fun h => hb h.2.2)]; simpa using hb)
        clear ha h5 h7
        go_enter Try.func128, Try.ntmps128
        go_wp2_with fail
        refine (C1.out _).mono ?_
        rintro e w1 ⟨rfl, rfl⟩
        go_wp2_with fail
        refine (C2.out _).mono ?_
        rintro e w1 ⟨rfl, rfl⟩
        go_wp2_with fail
        refine (CA.out _).mono ?_
        rintro e w1 ⟨rfl, rfl⟩
        go_wp2
        go_ret
        exact ⟨ret_bool E.out, HB0.out⟩
      · have CA := hide (fun w => l1In_any pa 0 ((i : Int) - 1) w false (iff_of_false (by simp) (by omega)))
        have E := hide (bool_noT HQ.out (fun h => ha h.2.1))
        clear ha h5 h7
        go_enter Try.func128, Try.ntmps128
        go_wp2_with fail
        refine (C1.out _).mono ?_
        rintro e w1 ⟨rfl, rfl⟩
        go_wp2_with fail
        refine (C2.out _).mono ?_
        rintro e w1 ⟨rfl, rfl⟩
        go_wp2_with fail
        refine (CA.out _).mono ?_
        rintro e w1 ⟨rfl, rfl⟩
        go_wp2
        go_ret
        exact ⟨ret_bool E.out.symm, HB0.out⟩
    · have E := hide (bool_noT HQ.out (fun h => ht h.1))
      clear h5 h7
      go_enter Try.func128, Try.ntmps128
      go_wp2_with fail
      refine (C1.out _).mono ?_
      rintro e w1 ⟨rfl, rfl⟩
      go_wp2_with fail
      refine (C2.out _).mono ?_
      rintro e w1 ⟨rfl, rfl⟩
      go_wp2
      go_ret
      exact ⟨ret_bool E.out.symm, HB0.out⟩
  have C2 := hide (fun w => l5One_any pk w false (iff_of_false (by simp) h7))
  by_cases h3 : pk = 3
  · subst h3
    have HQ := hide (HBB.out.trans ok3)
    clear h5 h7
    by_cases h1 : (pt.size : Int) = 1
    · have hs1 : pt.size = 1 := by omega
      by_cases hl : okc (ltr pt)
      · have C3 := hide (fun w => l5Letters_any pt w hx true (iff_of_true rfl ((let_one hs1).2 hl)))
        by_cases ha : pa = 0
        · subst ha
          have E : Hid ((pb == 0) = bb) := hide (by
            by_cases hb : pb = 0
            · rw [HQ.out.2 ⟨⟨hs1, hl⟩, rfl, hb⟩]; simpa using hb
            · rw [bool_noT HQ.out (fun h => hb h.2.2)]; simpa using hb)
          clear hl hs1
          go_enter Try.func128, Try.ntmps128
          go_wp2_with fail
          refine (C1.out _).mono ?_
          rintro e w1 ⟨rfl, rfl⟩
          go_wp2_with fail
          refine (C2.out _).mono ?_
          rintro e w1 ⟨rfl, rfl⟩
          go_wp2_with fail
          refine (C3.out _).mono ?_
          rintro e w1 ⟨rfl, rfl⟩
          go_wp2
          go_ret
          exact ⟨ret_bool E.out, HB0.out⟩
        · have E := hide (bool_noT HQ.out (fun h => ha h.2.1))
          have hab : (pa == 0) = false := by simpa using ha
          clear hl hs1 ha
          go_enter Try.func128, Try.ntmps128
          go_wp2_with fail
          refine (C1.out _).mono ?_
          rintro e w1 ⟨rfl, rfl⟩
          go_wp2_with fail
          refine (C2.out _).mono ?_
          rintro e w1 ⟨rfl, rfl⟩
          go_wp2_with fail
          refine (C3.out _).mono ?_
          rintro e w1 ⟨rfl, rfl⟩
          go_wp2
          go_ret
          exact ⟨ret_bool E.out.symm, HB0.out⟩
      · have C3 := hide (fun w => l5Letters_any pt w hx false (iff_of_false (by simp) (fun h => hl ((let_one hs1).1 h))))
        have E := hide (bool_noT HQ.out (fun h => hl h.1.2))
        clear hl hs1
        go_enter Try.func128, Try.ntmps128
        go_wp2_with fail
        refine (C1.out _).mono ?_
        rintro e w1 ⟨rfl, rfl⟩
        go_wp2_with fail
        refine (C2.out _).mono ?_
        rintro e w1 ⟨rfl, rfl⟩
        go_wp2_with fail
        refine (C3.out _).mono ?_
        rintro e w1 ⟨rfl, rfl⟩
        go_wp2
        go_ret
        exact ⟨ret_bool E.out.symm, HB0.out⟩
    · have E := hide (bool_noT HQ.out (fun h => h1 (by have := h.1.1; omega)))
      have h1b : ((pt.size : Int) == 1) = false := by simpa using h1
      clear h1
      go_enter Try.func128, Try.ntmps128
      go_wp2_with fail
      refine (C1.out _).mono ?_
      rintro e w1 ⟨rfl, rfl⟩
      go_wp2_with fail
      refine (C2.out _).mono ?_
      rintro e w1 ⟨rfl, rfl⟩
      go_wp2
      go_ret
      exact ⟨ret_bool E.out.symm, HB0.out⟩
  have e3 : (pk == 3) = false := by simpa using h3
  by_cases h1 : 1 ≤ pk ∧ pk ≤ 4
  · have C3 := hide (fun w => l1In_any pk 1 4 w true (iff_of_true rfl h1))
    have HQ := hide (HBB.out.trans (ok1 (by omega)))
    by_cases ht : pt.toList = []
    · by_cases ha : pa = 0
      · subst ha
        have E : Hid ((pb == 0) = bb) := hide (by
          by_cases hb : pb = 0
          · rw [HQ.out.2 ⟨ht, rfl, hb⟩]; simpa using hb
          · rw [bool_noT HQ.out (fun h => hb h.2.2)]; simpa using hb)
        clear h1 h3 h5 h7
        go_enter Try.func128, Try.ntmps128
        go_wp2_with fail
        refine (C1.out _).mono ?_
        rintro e w1 ⟨rfl, rfl⟩
        go_wp2_with fail
        refine (C2.out _).mono ?_
        rintro e w1 ⟨rfl, rfl⟩
        go_wp2_with fail
        refine (C3.out _).mono ?_
        rintro e w1 ⟨rfl, rfl⟩
        go_wp2
        go_ret
        exact ⟨ret_bool E.out, HB0.out⟩
      · have E := hide (bool_noT HQ.out (fun h => ha h.2.1))
        have hab : (pa == 0) = false := by simpa using ha
        clear h1 h3 h5 h7 ha
        go_enter Try.func128, Try.ntmps128
        go_wp2_with fail
        refine (C1.out _).mono ?_
        rintro e w1 ⟨rfl, rfl⟩
        go_wp2_with fail
        refine (C2.out _).mono ?_
        rintro e w1 ⟨rfl, rfl⟩
        go_wp2_with fail
        refine (C3.out _).mono ?_
        rintro e w1 ⟨rfl, rfl⟩
        go_wp2
        go_ret
        exact ⟨ret_bool E.out.symm, HB0.out⟩
    · have E := hide (bool_noT HQ.out (fun h => ht h.1))
      clear h1 h3 h5 h7
      go_enter Try.func128, Try.ntmps128
      go_wp2_with fail
      refine (C1.out _).mono ?_
      rintro e w1 ⟨rfl, rfl⟩
      go_wp2_with fail
      refine (C2.out _).mono ?_
      rintro e w1 ⟨rfl, rfl⟩
      go_wp2_with fail
      refine (C3.out _).mono ?_
      rintro e w1 ⟨rfl, rfl⟩
      go_wp2
      go_ret
      exact ⟨ret_bool E.out.symm, HB0.out⟩
  · have C3 := hide (fun w => l1In_any pk 1 4 w false (iff_of_false (by simp) h1))
    have E := hide (bool_noT HBB.out (fun h => by have := okP_kind h; simp only at this; omega))
    clear h1 h3 h5 h7
    go_enter Try.func128, Try.ntmps128
    go_wp2_with fail
    refine (C1.out _).mono ?_
    rintro e w1 ⟨rfl, rfl⟩
    go_wp2_with fail
    refine (C2.out _).mono ?_
    rintro e w1 ⟨rfl, rfl⟩
    go_wp2_with fail
    refine (C3.out _).mono ?_
    rintro e w1 ⟨rfl, rfl⟩
    go_wp2
    go_ret
    exact ⟨ret_bool E.out.symm, HB0.out⟩

/-- A list of counts in new memory. -/
abbrev rowN (g m : Nat) (ys : List Int) (w : World) (base : Nat) : Prop := w.ownsRow base 3 1 (.slice (some ⟨g, 0, none⟩) m m) m (ys.map (Value.int .i64))
set_option maxRecDepth 100000 in
set_option maxHeartbeats 8000000 in
theorem specGoodForm_any (a : Option Addr) (l : List Pr) (n cap : Nat) (w : World) (hn : l.length = n) (hs : SlP w a l) (hn2 : n ≤ 1048576) (hst : TxP l) (bb : Bool) (hbb : bb = true ↔ GoodF l) :
    Calls Try.prog 85 #[.slice a n cap] w fun e w' => e = .returned (.bool bb) ∧ Below w.heap.size w w' := by
  obtain ⟨i0, hi, hz0, hz1, hz2⟩ := info_parts info_int
  obtain ⟨w1, hmk, hown1, hg1⟩ := run_make_full (P := Try.prog) w w.heap.size 23 3 i0 (.int .i64 0) 1 Try.underlying23 hi hz0 hz1 .i64 .i64 n (by rw [hz2]; omega) (by unfold maxLen; omega) (Nat.le_refl _)
  rw [made_ints] at hown1
  have hb1 : Below w.heap.size w w1 := (Below.refl _ _).grown hg1 (Nat.le_refl _) (fun k hk => by cases hk)
  have HZ1 : Hid (w.heap.size < w1.heap.size) := hide (hown1.lt _ rfl).2
  have HNEW := hide hown1
  have HBN := hide hb1
  have HBB := hide hbb
  have HST := hide hst
  have HS := hide hs
  have HN := hide hn
  clear hown1 hg1 hs hn hbb hst hb1 hi hz0 hz1 hz2
  go_enter Try.func85, Try.ntmps85
  go_wp2
  go_loopw [13] (fun i wr => ∃ (k : Nat) (ys : List Int), k ≤ n ∧ i = .int .i64 k ∧ Hid (∀ j, j < k → okP j (l.getD j eP)) ∧ Hid (Cnt n (fun i => cnt (l.take k) i) ys) ∧ Hid (rowN w.heap.size n ys wr w.heap.size) ∧ Hid (Below w.heap.size w wr) ∧ Hid (w.heap.size < wr.heap.size)) (fun i _ => n - (intOf i).toNat)
  case atStart => exact ⟨0, List.replicate n 0, Nat.zero_le _, rfl, fun j hj => absurd hj (Nat.not_lt_zero _), ⟨by simp, fun i hi => by rw [rep0]; simp [cnt]⟩, HNEW.out, HBN.out, HZ1⟩
  case round =>
    obtain ⟨k, ys, hk, rfl, HJ, HY, HR, HB, HZ⟩ := hrel
    by_cases hlt : k < n
    · obtain ⟨b, off, rfl, hA0⟩ := HS.out k (by rw [HN.out]; exact hlt)
      have hA := hA0.base HB.out (blk_lt hA0.k)
      have hsx := HST.out k (by rw [HN.out]; exact hlt)
      have hstep : ∀ i : Int, cnt (l.take (k + 1)) i = cnt (l.take k) i + nm (l.getD k eP) i := fun i => by rw [take_snoc l k (by rw [HN.out]; exact hlt), cnt_snoc]
      obtain ⟨⟨pk, pt, pa, pb⟩, hp⟩ : ∃ p, p = l.getD k eP := ⟨_, rfl⟩
      rw [← hp] at hA hsx hstep
      simp only at hsx
      have hc0 := hA.k
      have hc1 := hA.t
      have hc2 := hA.a
      have hc3 := hA.b
      simp only at hc0 hc1 hc2 hc3
      have hltI : (k : Int) < (n : Int) := by omega
      have HP := hide hp.symm
      have HSTEP := hide hstep
      have HSZ : Hid (wr.heap.size < (wr.alloc (.cells #[.int .i64 pk, .string pt, .int .i64 pa, .int .i64 pb] 116)).heap.size) := by refine hide ?_; simp
      have HPB : Hid (AtP (wr.alloc (.cells #[.int .i64 pk, .string pt, .int .i64 pa, .int .i64 pb] 116)) wr.heap.size 0 ⟨pk, pt, pa, pb⟩) := by
        refine hide ⟨?_, ?_, ?_, ?_⟩ <;> simp
      have B1 := hide (HB.out.alloc HB.out.size (.cells #[.int .i64 pk, .string pt, .int .i64 pa, .int .i64 pb] 116))
      have R1 := hide (HR.out.alloc (.cells #[.int .i64 pk, .string pt, .int .i64 pa, .int .i64 pb] 116))
      clear hA0 hA hp hstep
      by_cases hok : okP k ⟨pk, pt, pa, pb⟩
      · have C := hide (fun w => l5Part_any ⟨pk, pt, pa, pb⟩ k w hsx (by omega) true (iff_of_true rfl hok))
        have HJ2 : Hid (∀ j, j < k + 1 → okP j (l.getD j eP)) := by
          intro i hi
          by_cases e : i = k
          · subst e; rw [HP.out]; exact hok
          · exact HJ.out i (by omega)
        go_wp2_with fail
        refine (C.out _).mono ?_
        rintro e w2 ⟨rfl, hb2⟩
        have P1 := HPB.out.base hb2 HSZ.out
        have d0 := P1.k
        have d1 := P1.t
        have d2 := P1.a
        have d3 := P1.b
        simp only [Nat.zero_add] at d0 d1 d2 d3
        have B2 := hide (B1.out.trans (hb2.mono B1.out.size))
        have R2 := hide (own_belowT R1.out hb2)
        have Z2 : Hid (w.heap.size < w2.heap.size) := hide (by have h1 := HZ.out; have h2 := HSZ.out; have h3 := hb2.size; omega)
        have hne : ¬ wr.heap.size = w.heap.size := by have := HZ.out; omega
        clear hb2 P1 hc0 hc1 hc2 hc3
        have hrange : ∀ (zs : List Int) (q : Nat) (f : Int → Int), zs.getD q 0 = cnt (l.take k) (q : Int) + f (q : Int) → 0 ≤ f (q : Int) → f (q : Int) ≤ 1 → 0 ≤ zs.getD q 0 ∧ zs.getD q 0 ≤ 100000000 := fun zs q f e h0 h1 => by
          have h2 := cnt_range (l.take k) (q : Int)
          simp only [List.length_take] at h2
          omega
        have HRG := hide hrange
        clear hrange
        by_cases h5 : pk = 5 ∨ pk = 6
        · have hk5 := (ok5 h5).1 hok
          obtain ⟨qa, hqa⟩ : ∃ q : Nat, pa = (q : Int) := ⟨pa.toNat, by omega⟩
          obtain ⟨qb, hqb⟩ : ∃ q : Nat, pb = (q : Int) := ⟨pb.toNat, by omega⟩
          subst hqa
          subst hqb
          have hqan : qa < n := by omega
          have hqbn : qb < n := by omega
          have hqaI : (qa : Int) < (n : Int) := by omega
          have hqbI : (qb : Int) < (n : Int) := by omega
          have C5 := hide (fun w => l5Two_any pk w true (iff_of_true rfl h5))
          have hnm := nm_two (p := ⟨pk, pt, (qa : Int), (qb : Int)⟩) h5
          have hz : ys.getD qb 0 = cnt (l.take k) (qb : Int) + 0 := (show ys.getD qb 0 = cnt (l.take k) (qb : Int) from HY.out.2 qb hqbn).trans (by omega)
          have hzr := HRG.out ys qb (fun _ => 0) hz (by omega) (by omega)
          have hcz := R2.out.cellAt qb (by omega)
          rw [ints_get (by rw [HY.out.1]; exact hqbn)] at hcz
          have hfr := R2.out.frozenAt qb
          have hst := R2.out.stored qb (.int .i64 (ys.getD qb 0 + 1))
          have hbump := HY.out.bump (qb : Int) (by omega) (g := fun i => cnt (l.take k) i + (if (qb : Int) = i then 1 else 0)) (fun i => rfl)
          simp only [Int.toNat_natCast] at hbump
          have R3 : Hid (rowN w.heap.size n (ys.set qb (ys.getD qb 0 + 1)) (w2.setCell ⟨w.heap.size, qb, none⟩ (.int .i64 (ys.getD qb 0 + 1))) w.heap.size) := hide (by rw [rowN, List.map_set]; exact hst.1)
          have B3 := hide (B2.out.setCell (p := ⟨w.heap.size, qb, none⟩) (Nat.le_refl _) (.int .i64 (ys.getD qb 0 + 1)))
          have Z3 : Hid (w.heap.size < (w2.setCell ⟨w.heap.size, qb, none⟩ (.int .i64 (ys.getD qb 0 + 1))).heap.size) := by refine hide ?_; simpa using Z2.out
          have HBUMP := hide hbump
          obtain ⟨c, hc⟩ : ∃ c, c = ys.getD qb 0 := ⟨_, rfl⟩
          rw [← hc] at hcz hzr R3 B3 Z3 HBUMP
          obtain ⟨hz0, hz1⟩ := hzr
          have HNM := hide hnm
          have HC := hide hc
          obtain ⟨zs, hzs⟩ : ∃ zs, zs = ys.set qb (c + 1) := ⟨_, rfl⟩
          rw [← hzs] at R3 HBUMP
          have hya : zs.getD qa 0 = cnt (l.take k) (qa : Int) + (if (qb : Int) = (qa : Int) then 1 else 0) := HBUMP.out.2 qa hqan
          have hyr := HRG.out zs qa (fun _ => if (qb : Int) = (qa : Int) then 1 else 0) hya (by split <;> omega) (by split <;> omega)
          have hcy := R3.out.cellAt qa (by omega)
          rw [ints_get (by rw [HBUMP.out.1]; exact hqan)] at hcy
          have hfy := R3.out.frozenAt qa
          have hsy := R3.out.stored qa (.int .i64 (zs.getD qa 0 + 1))
          have hbump2 := HBUMP.out.bump (qa : Int) (by omega) (g := fun i => cnt (l.take (k + 1)) i) (fun i => by rw [HSTEP.out, HNM.out]; simp only; omega)
          simp only [Int.toNat_natCast] at hbump2
          have R4 : Hid (rowN w.heap.size n (zs.set qa (zs.getD qa 0 + 1)) ((w2.setCell ⟨w.heap.size, qb, none⟩ (.int .i64 (c + 1))).setCell ⟨w.heap.size, qa, none⟩ (.int .i64 (zs.getD qa 0 + 1))) w.heap.size) := hide (by rw [rowN, List.map_set]; exact hsy.1)
          have B4 := hide (B3.out.setCell (p := ⟨w.heap.size, qa, none⟩) (Nat.le_refl _) (.int .i64 (zs.getD qa 0 + 1)))
          have Z4 : Hid (w.heap.size < ((w2.setCell ⟨w.heap.size, qb, none⟩ (.int .i64 (c + 1))).setCell ⟨w.heap.size, qa, none⟩ (.int .i64 (zs.getD qa 0 + 1))).heap.size) := by refine hide ?_; simpa using Z2.out
          have HBUMP2 := hide hbump2
          obtain ⟨y, hy⟩ : ∃ y, y = zs.getD qa 0 := ⟨_, rfl⟩
          rw [← hy] at hcy hyr R4 B4 Z4 HBUMP2
          obtain ⟨hy0, hy1⟩ := hyr
          have HKEEP := hide (And.intro hcy hfy)
          clear hc hbump hst hz hnm hzs hya hsy hbump2 hy hok hk5 hcy hfy h5
          go_wp2_with fail
          refine (C5.out _).mono ?_
          rintro e w3 ⟨rfl, rfl⟩
          go_wp2_with fail
          refine (C5.out _).mono ?_
          rintro e w3 ⟨rfl, rfl⟩
          have hcy := HKEEP.out.1
          have hfy := HKEEP.out.2
          go_wp2
          go_roundw
          case rel => exact ⟨k + 1, _, by omega, by go_num, HJ2, HBUMP2, R4, B4, Z4⟩
          case measure => simp [intOf]; omega
        have C5 := hide (fun w => l5Two_any pk w false (iff_of_false (by simp) h5))
        by_cases h7 : pk = 7 ∨ pk = 8
        · have hk7 := (ok7 h7).1 hok
          obtain ⟨qa, hqa⟩ : ∃ q : Nat, pa = (q : Int) := ⟨pa.toNat, by omega⟩
          subst hqa
          have hqan : qa < n := by omega
          have hqaI : (qa : Int) < (n : Int) := by omega
          have C7 := hide (fun w => l5One_any pk w true (iff_of_true rfl h7))
          have hnm := nm_one (p := ⟨pk, pt, (qa : Int), pb⟩) h7
          have hz : ys.getD qa 0 = cnt (l.take k) (qa : Int) + 0 := (show ys.getD qa 0 = cnt (l.take k) (qa : Int) from HY.out.2 qa hqan).trans (by omega)
          have hzr := HRG.out ys qa (fun _ => 0) hz (by omega) (by omega)
          have hcz := R2.out.cellAt qa (by omega)
          rw [ints_get (by rw [HY.out.1]; exact hqan)] at hcz
          have hfr := R2.out.frozenAt qa
          have hst := R2.out.stored qa (.int .i64 (ys.getD qa 0 + 1))
          have hbump := HY.out.bump (qa : Int) (by omega) (g := fun i => cnt (l.take (k + 1)) i) (fun i => by rw [HSTEP.out, hnm])
          simp only [Int.toNat_natCast] at hbump
          have R3 : Hid (rowN w.heap.size n (ys.set qa (ys.getD qa 0 + 1)) (w2.setCell ⟨w.heap.size, qa, none⟩ (.int .i64 (ys.getD qa 0 + 1))) w.heap.size) := hide (by rw [rowN, List.map_set]; exact hst.1)
          have B3 := hide (B2.out.setCell (p := ⟨w.heap.size, qa, none⟩) (Nat.le_refl _) (.int .i64 (ys.getD qa 0 + 1)))
          have Z3 : Hid (w.heap.size < (w2.setCell ⟨w.heap.size, qa, none⟩ (.int .i64 (ys.getD qa 0 + 1))).heap.size) := by refine hide ?_; simpa using Z2.out
          have HBUMP := hide hbump
          obtain ⟨c, hc⟩ : ∃ c, c = ys.getD qa 0 := ⟨_, rfl⟩
          rw [← hc] at hcz hzr R3 B3 Z3 HBUMP
          obtain ⟨hz0, hz1⟩ := hzr
          clear hc hbump hst hz hnm hok hk7 h5 h7
          go_wp2_with fail
          refine (C5.out _).mono ?_
          rintro e w3 ⟨rfl, rfl⟩
          go_wp2_with fail
          refine (C5.out _).mono ?_
          rintro e w3 ⟨rfl, rfl⟩
          go_wp2_with fail
          refine (C7.out _).mono ?_
          rintro e w3 ⟨rfl, rfl⟩
          go_wp2
          go_roundw
          case rel => exact ⟨k + 1, _, by omega, by go_num, HJ2, HBUMP, R3, B3, Z3⟩
          case measure => simp [intOf]; omega
        have C7 := hide (fun w => l5One_any pk w false (iff_of_false (by simp) h7))
        have hnm : ∀ i, nm ⟨pk, pt, pa, pb⟩ i = 0 := nm_no (p := ⟨pk, pt, pa, pb⟩) (by have := okP_kind hok; simp only at this ⊢; omega)
        have HY2 : Hid (Cnt n (fun i => cnt (l.take (k + 1)) i) ys) := hide ⟨HY.out.1, fun i hi => by
          have h : ys.getD i 0 = cnt (l.take k) (i : Int) := HY.out.2 i hi
          show _ = cnt (l.take (k + 1)) (i : Int)
          rw [h, HSTEP.out, hnm]
          omega⟩
        clear hok h5 h7 hnm
        go_wp2_with fail
        refine (C5.out _).mono ?_
        rintro e w3 ⟨rfl, rfl⟩
        go_wp2_with fail
        refine (C5.out _).mono ?_
        rintro e w3 ⟨rfl, rfl⟩
        go_wp2_with fail
        refine (C7.out _).mono ?_
        rintro e w3 ⟨rfl, rfl⟩
        go_wp2
        go_roundw
        case rel => exact ⟨k + 1, ys, by omega, by go_num, HJ2, HY2, R2, B2, Z2⟩
        case measure => simp [intOf]; omega
      · have C := hide (fun w => l5Part_any ⟨pk, pt, pa, pb⟩ k w hsx (by omega) false (iff_of_false (by simp) hok))
        have hno : ¬ GoodF l := fun h => hok (by have := h.2.1 k (by rw [HN.out]; exact hlt); rw [HP.out] at this; exact this)
        have HNO := hide hno
        clear hok hsx hno
        go_wp2_with fail
        refine (C.out _).mono ?_
        rintro e w1 ⟨rfl, hb1⟩
        have B2 := hide (B1.out.trans (hb1.mono B1.out.size))
        clear hb1
        go_wp2
        go_ret
        exact ⟨by rw [bool_noT HBB.out HNO.out]; rfl, B2.out⟩
    · obtain rfl : k = n := by omega
      have hltI : ¬ (k : Int) < (k : Int) := by omega
      have HG : Hid (GoodF l ↔ (∀ i : Nat, i + 1 < k → ys.getD i 0 = 1) ∧ 1 ≤ k ∧ k ≤ 24) := hide (by
        have hN := HN.out
        have hY : ∀ i : Nat, i + 1 < k → ys.getD i 0 = cnt l (i : Int) := fun i hi => by
          rw [HY.out.2 i (by omega), ← hN, List.take_length]
        constructor
        · intro h
          refine ⟨fun i hi => ?_, by have := h.1; omega⟩
          rw [hY i hi]
          exact h.2.2 i (by omega)
        · intro h
          exact ⟨by omega, fun j hj => HJ.out j (by omega), fun i hi => by rw [← hY i (by omega)]; exact h.1 i (by omega)⟩)
      go_wp2
      go_loopw [50] (fun i wr' => ∃ (j : Nat), j ≤ k ∧ i = .int .i64 j ∧ wr' = wr ∧ Hid (∀ i : Nat, i < j → i + 1 < k → ys.getD i 0 = 1)) (fun i _ => k - (intOf i).toNat)
      case atStart => exact ⟨0, Nat.zero_le _, rfl, by first | rfl | trivial, fun j hj => absurd hj (Nat.not_lt_zero _)⟩
      case round =>
        obtain ⟨j, hj, rfl, rfl, HD⟩ := hrel
        by_cases hjm : j < k
        · have hjI : (j : Int) < (k : Int) := by omega
          have hcz := HR.out.cellAt j (by omega)
          rw [ints_get (by rw [HY.out.1]; omega)] at hcz
          obtain ⟨c, hc⟩ : ∃ c, c = ys.getD j 0 := ⟨_, rfl⟩
          rw [← hc] at hcz
          have HC := hide hc
          clear hc
          by_cases hl : (j : Int) < (k : Int) - 1
          · by_cases h1 : c = 1
            · subst h1
              go_wp2
              go_roundw
              case rel =>
                refine ⟨j + 1, by omega, by go_num, by first | rfl | trivial, ?_⟩
                intro i hi hi2
                by_cases e : i = j
                · subst e; exact HC.out.symm
                · exact HD.out i (by omega) hi2
              case measure => simp [intOf]; omega
            · have E := hide (bool_noT (HBB.out.trans HG.out) (fun h => h1 (by rw [HC.out]; exact h.1 j (by omega))))
              have h1b : (c == 1) = false := by simpa using h1
              clear h1
              go_wp2
              go_ret
              exact ⟨by rw [E.out]; rfl, HB.out⟩
          · go_wp2
            go_roundw
            case rel =>
              refine ⟨j + 1, by omega, by go_num, by first | rfl | trivial, ?_⟩
              intro i hi hi2
              exact HD.out i (by omega) hi2
            case measure => simp [intOf]; omega
        · have hjI : ¬ (j : Int) < (k : Int) := by omega
          have hgg : GoodF l ↔ 1 ≤ (k : Int) ∧ (k : Int) ≤ 24 := HG.out.trans ⟨fun h => by have := h.2; omega, fun h => ⟨fun i hi => HD.out i (by omega) hi, by omega⟩⟩
          have C := hide (fun w => l1In_any (k : Int) 1 24 w bb (HBB.out.trans hgg))
          clear hgg
          go_wp2_with fail
          refine (C.out _).mono ?_
          rintro e w3 ⟨rfl, rfl⟩
          go_wp2
          go_ret
          exact ⟨rfl, HB.out⟩
end Go.Proofs.Ytapffbbmofhpoab.L5

namespace Go.Proofs.Ytapffbbmofhpoab.L5
open Go.RowKit L1 L4
set_option linter.unusedVariables false

set_option maxRecDepth 100000 in
set_option maxHeartbeats 8000000 in
theorem l5Text_any (S : Nat → Prop) : ∀ (x : Sh) (p : Option Addr) (w : World), Tr w S p x → okS x → sz x ≤ 1000000 → Calls Try.prog 103 #[.pointer p] w fun e w' => e = .returned (.string (tx x)) ∧ Below w.heap.size w w'
  | .none, p, w, ⟨g, pa, pb, e, _, hf⟩, _, _ => by
    subst e
    have c0 := hf.k
    have c1 := hf.t
    clear hf
    go_enter Try.func103, Try.ntmps103
    go_wp2
    go_ret
    exact ⟨rfl, Below.refl _ _⟩
  | .empty, p, w, ⟨g, pa, pb, e, _, hf⟩, _, _ => by
    subst e
    have c0 := hf.k
    have c1 := hf.t
    clear hf
    go_enter Try.func103, Try.ntmps103
    go_wp2
    go_ret
    exact ⟨rfl, Below.refl _ _⟩
  | .letter c, p, w, ⟨g, pa, pb, e, _, hf⟩, _, _ => by
    subst e
    have c0 := hf.k
    have c1 := hf.t
    clear hf
    go_enter Try.func103, Try.ntmps103
    go_wp2
    go_ret
    exact ⟨rfl, Below.refl _ _⟩
  | .any, p, w, ⟨g, pa, pb, e, _, hf⟩, _, _ => by
    subst e
    have c0 := hf.k
    have c1 := hf.t
    clear hf
    go_enter Try.func103, Try.ntmps103
    go_wp2
    go_ret
    exact ⟨rfl, Below.refl _ _⟩
  | .seq a b, p, w, ⟨g, pa, pb, e, _, hf, ta, tb⟩, hok, hsz => by
    subst e
    simp only [sz] at hsz
    have IA := hide (fun w h => l5Text_any S a pa w h hok.1 (by omega))
    have IB := hide (fun w h => l5Text_any S b pb w h hok.2 (by omega))
    have TA := hide ta
    have TB := hide tb
    have ha := tx_size a
    have hb := tx_size b
    have c0 := hf.k
    have c2 := hf.a
    have c3 := hf.b
    obtain ⟨A, hA⟩ : ∃ A, A = tx a := ⟨_, rfl⟩
    obtain ⟨B, hB⟩ : ∃ B, B = tx b := ⟨_, rfl⟩
    have HR : Hid (tx (.seq a b) = ((⟨#[40]⟩ : ByteArray) ++ A ++ B) ++ (⟨#[41]⟩ : ByteArray)) := hide (by rw [hA, hB]; rfl)
    simp only [← hA] at IA ha
    simp only [← hB] at IB hb
    rw [HR.out]
    have q0 : ∀ w : World, (Op.stringOp .add (⟨#[40]⟩ : ByteArray) (A)).run Try.prog w = .ok (.string ((⟨#[40]⟩ : ByteArray) ++ (A))) w := fun w => run_string_add_sum w _ _ (by simp only [one_sz]; omega)
    have q1 : ∀ w : World, (Op.stringOp .add ((⟨#[40]⟩ : ByteArray) ++ (A)) (B)).run Try.prog w = .ok (.string (((⟨#[40]⟩ : ByteArray) ++ (A)) ++ (B))) w := fun w => run_string_add_sum w _ _ (by simp only [ByteArray.size_append, one_sz]; omega)
    have q2 : ∀ w : World, (Op.stringOp .add (((⟨#[40]⟩ : ByteArray) ++ (A)) ++ (B)) (⟨#[41]⟩ : ByteArray)).run Try.prog w = .ok (.string ((((⟨#[40]⟩ : ByteArray) ++ (A)) ++ (B)) ++ (⟨#[41]⟩ : ByteArray))) w := fun w => run_string_add_sum w _ _ (by simp only [ByteArray.size_append, one_sz]; omega)
    clear hA hB ha hb hok hsz HR hf ta tb
    go_enter Try.func103, Try.ntmps103
    go_wp2
    go_region_held3 (fun wx => (wx.cell? ⟨g, 2, none⟩ = some (.pointer pa) ∧ wx.cell? ⟨g, 3, none⟩ = some (.pointer pb)) ∧ Below w.heap.size w wx) (first | exact ⟨⟨c2, c3⟩, (Below.refl _ _).drew⟩ | exact keep1T (by assumption) (by assumption) (Nat.le_refl _)) (first | (go_at_call_of 103 (Value.pointer pa); refine (IA.out _ (TA.out.below (show (_ ∧ _) ∧ Below w.heap.size w _ by assumption).2)).mono ?_; rintro e w1 ⟨rfl, hb⟩) | (go_at_call_of 103 (Value.pointer pb); refine (IB.out _ (TB.out.below (show (_ ∧ _) ∧ Below w.heap.size w _ by assumption).2)).mono ?_; rintro e w1 ⟨rfl, hb⟩))
    rename_i hHeld
    have B1 := hide hHeld.2
    clear hHeld
    go_wp2
    go_ret
    exact ⟨rfl, B1.out⟩
  | .alt a b, p, w, ⟨g, pa, pb, e, _, hf, ta, tb⟩, hok, hsz => by
    subst e
    simp only [sz] at hsz
    have IA := hide (fun w h => l5Text_any S a pa w h hok.1 (by omega))
    have IB := hide (fun w h => l5Text_any S b pb w h hok.2 (by omega))
    have TA := hide ta
    have TB := hide tb
    have ha := tx_size a
    have hb := tx_size b
    have c0 := hf.k
    have c2 := hf.a
    have c3 := hf.b
    obtain ⟨A, hA⟩ : ∃ A, A = tx a := ⟨_, rfl⟩
    obtain ⟨B, hB⟩ : ∃ B, B = tx b := ⟨_, rfl⟩
    have HR : Hid (tx (.alt a b) = (((⟨#[91]⟩ : ByteArray) ++ A) ++ (⟨#[124]⟩ : ByteArray) ++ B) ++ (⟨#[93]⟩ : ByteArray)) := hide (by rw [hA, hB]; rfl)
    simp only [← hA] at IA ha
    simp only [← hB] at IB hb
    rw [HR.out]
    have q0 : ∀ w : World, (Op.stringOp .add (⟨#[91]⟩ : ByteArray) (A)).run Try.prog w = .ok (.string ((⟨#[91]⟩ : ByteArray) ++ (A))) w := fun w => run_string_add_sum w _ _ (by simp only [one_sz]; omega)
    have q1 : ∀ w : World, (Op.stringOp .add ((⟨#[91]⟩ : ByteArray) ++ (A)) (⟨#[124]⟩ : ByteArray)).run Try.prog w = .ok (.string (((⟨#[91]⟩ : ByteArray) ++ (A)) ++ (⟨#[124]⟩ : ByteArray))) w := fun w => run_string_add_sum w _ _ (by simp only [ByteArray.size_append, one_sz]; omega)
    have q2 : ∀ w : World, (Op.stringOp .add (((⟨#[91]⟩ : ByteArray) ++ (A)) ++ (⟨#[124]⟩ : ByteArray)) (B)).run Try.prog w = .ok (.string ((((⟨#[91]⟩ : ByteArray) ++ (A)) ++ (⟨#[124]⟩ : ByteArray)) ++ (B))) w := fun w => run_string_add_sum w _ _ (by simp only [ByteArray.size_append, one_sz]; omega)
    have q3 : ∀ w : World, (Op.stringOp .add ((((⟨#[91]⟩ : ByteArray) ++ (A)) ++ (⟨#[124]⟩ : ByteArray)) ++ (B)) (⟨#[93]⟩ : ByteArray)).run Try.prog w = .ok (.string (((((⟨#[91]⟩ : ByteArray) ++ (A)) ++ (⟨#[124]⟩ : ByteArray)) ++ (B)) ++ (⟨#[93]⟩ : ByteArray))) w := fun w => run_string_add_sum w _ _ (by simp only [ByteArray.size_append, one_sz]; omega)
    clear hA hB ha hb hok hsz HR hf ta tb
    go_enter Try.func103, Try.ntmps103
    go_wp2
    go_region_held3 (fun wx => (wx.cell? ⟨g, 2, none⟩ = some (.pointer pa) ∧ wx.cell? ⟨g, 3, none⟩ = some (.pointer pb)) ∧ Below w.heap.size w wx) (first | exact ⟨⟨c2, c3⟩, (Below.refl _ _).drew⟩ | exact keep1T (by assumption) (by assumption) (Nat.le_refl _)) (first | (go_at_call_of 103 (Value.pointer pa); refine (IA.out _ (TA.out.below (show (_ ∧ _) ∧ Below w.heap.size w _ by assumption).2)).mono ?_; rintro e w1 ⟨rfl, hb⟩) | (go_at_call_of 103 (Value.pointer pb); refine (IB.out _ (TB.out.below (show (_ ∧ _) ∧ Below w.heap.size w _ by assumption).2)).mono ?_; rintro e w1 ⟨rfl, hb⟩))
    rename_i hHeld
    have B1 := hide hHeld.2
    clear hHeld
    go_wp2
    go_ret
    exact ⟨rfl, B1.out⟩
  | .many a, p, w, ⟨g, pa, pb, e, _, hf, ta⟩, hok, hsz => by
    subst e
    simp only [sz] at hsz
    have IA := hide (l5Text_any S a pa w ta hok (by omega))
    have ha := tx_size a
    have c0 := hf.k
    have c2 := hf.a
    have ha2 : ((tx a).size : Int) ≤ 3000000 := by omega
    clear ha hok hsz hf ta
    go_enter Try.func103, Try.ntmps103
    go_wp2_with fail
    refine IA.out.mono ?_
    rintro e w1 ⟨rfl, hb1⟩
    have B1 := hide hb1
    clear hb1
    go_wp2
    go_ret
    exact ⟨rfl, B1.out⟩
  | .inv a, p, w, ⟨g, pa, pb, e, _, hf, ta⟩, hok, hsz => by
    subst e
    simp only [sz] at hsz
    have IA := hide (l5Text_any S a pa w ta hok (by omega))
    have ha := tx_size a
    have c0 := hf.k
    have c2 := hf.a
    have ha2 : ((tx a).size : Int) ≤ 3000000 := by omega
    clear ha hok hsz hf ta
    go_enter Try.func103, Try.ntmps103
    go_wp2_with fail
    refine IA.out.mono ?_
    rintro e w1 ⟨rfl, hb1⟩
    have B1 := hide hb1
    clear hb1
    go_wp2
    go_ret
    exact ⟨rfl, B1.out⟩
open Classical in
set_option maxRecDepth 100000 in
set_option maxHeartbeats 2000000 in
theorem specFormText_any (a : Option Addr) (l : List Pr) (n cap : Nat) (w : World) (hn : l.length = n) (hs : SlP w a l) (hn2 : n ≤ 1048576) (hst : TxP l) (b2 : Bool) (t : ByteArray) (h2 : b2 = true ↔ GoodF l) (h1 : t = if b2 = true then tx (whole l) else ByteArray.empty) :
    Calls Try.prog 49 #[.slice a n cap] w fun e w' => e = .returned (.tuple #[.string t, .bool b2]) ∧ Below w.heap.size w w' := by
  have C1 := hide (specGoodForm_any a l n cap w hn hs hn2 hst b2 h2)
  by_cases hg : GoodF l
  · obtain rfl : b2 = true := h2.2 hg
    have C2 := hide (fun w hs => l5Tree_whole a l n cap w hn hg hs)
    have HOK := hide (okS_whole hg)
    have HSZ : Hid (sz (whole l) ≤ 1000000) := hide (by rw [whole_size hg]; have := hg.1; omega)
    have HS := hide hs
    rw [if_pos rfl] at h1
    have H1 := hide h1
    have hnI : (1 : Int) ≤ (n : Int) := by have := hg.1; omega
    clear hn hs hst h2 h1 hg
    go_enter Try.func49, Try.ntmps49
    go_wp2_with fail
    refine C1.out.mono ?_
    rintro e w1 ⟨rfl, hb1⟩
    have B1 := hide hb1
    clear hb1
    go_wp2_with fail
    refine (C2.out _ (HS.out.below B1.out)).mono ?_
    rintro e w2 ⟨p, rfl, ht, hb2⟩
    have B2 := hide (B1.out.trans (hb2.mono B1.out.size))
    have C3 := hide (l5Text_any _ _ _ _ ht HOK.out HSZ.out)
    clear hb2 ht
    go_wp2_with fail
    refine C3.out.mono ?_
    rintro e w3 ⟨rfl, hb3⟩
    have B3 := hide (B2.out.trans (hb3.mono B2.out.size))
    clear hb3
    go_wp2
    go_ret2
    exact ⟨by rw [H1.out]; rfl, B3.out⟩
  · obtain rfl : b2 = false := bool_noT h2 hg
    rw [if_neg (by simp)] at h1
    subst h1
    clear hn hs hst h2 hg
    go_enter Try.func49, Try.ntmps49
    go_wp2_with fail
    refine C1.out.mono ?_
    rintro e w1 ⟨rfl, hb1⟩
    go_wp2
    go_ret2
    exact ⟨rfl, hb1⟩
open Classical in
set_option maxRecDepth 100000 in
set_option maxHeartbeats 2000000 in
theorem implFormText_any (a : Option Addr) (l : List Pr) (n cap : Nat) (w : World) (hn : l.length = n) (hs : SlP w a l) (hn2 : n ≤ 1048576) (hst : TxP l) (b2 : Bool) (t : ByteArray) (h2 : b2 = true ↔ GoodF l) (h1 : t = if b2 = true then tx (whole l) else ByteArray.empty) :
    Calls Try.prog 48 #[.slice a n cap] w fun e w' => e = .returned (.tuple #[.string t, .bool b2]) ∧ Below w.heap.size w w' := by
  have C1 := hide (goodForm_any a l n cap w hn hs hn2 hst b2 h2)
  by_cases hg : GoodF l
  · obtain rfl : b2 = true := h2.2 hg
    have C2 := hide (fun w hs => shapeOf_any a l n cap w hn hs hg)
    have HOK := hide (okS_whole hg)
    have HSZ : Hid (sz (whole l) ≤ 1000000) := hide (by rw [whole_size hg]; have := hg.1; omega)
    have HS := hide hs
    rw [if_pos rfl] at h1
    have H1 := hide h1
    have hnI : (1 : Int) ≤ (n : Int) := by have := hg.1; omega
    clear hn hs hst h2 h1 hg
    go_enter Try.func48, Try.ntmps48
    go_wp2_with fail
    refine C1.out.mono ?_
    rintro e w1 ⟨rfl, hb1⟩
    have B1 := hide hb1
    clear hb1
    go_wp2_with fail
    refine (C2.out _ (HS.out.below B1.out)).mono ?_
    rintro e w2 ⟨rfl, hb2⟩
    have B2 := hide (B1.out.trans (hb2.mono B1.out.size))
    clear hb2
    go_wp2_with fail
    refine (textOf_any _ _ HOK.out HSZ.out).mono ?_
    rintro e w3 ⟨rfl, hb3⟩
    have B3 := hide (B2.out.trans (hb3.mono B2.out.size))
    clear hb3
    go_wp2
    go_ret2
    exact ⟨by rw [H1.out]; rfl, B3.out⟩
  · obtain rfl : b2 = false := bool_noT h2 hg
    rw [if_neg (by simp)] at h1
    subst h1
    clear hn hs hst h2 hg
    go_enter Try.func48, Try.ntmps48
    go_wp2_with fail
    refine C1.out.mono ?_
    rintro e w1 ⟨rfl, hb1⟩
    go_wp2
    go_ret2
    exact ⟨rfl, hb1⟩
end Go.Proofs.Ytapffbbmofhpoab.L5
