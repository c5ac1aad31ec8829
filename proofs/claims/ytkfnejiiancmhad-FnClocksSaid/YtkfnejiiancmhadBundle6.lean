/-
  Contract: spec.LessClock.
  Plain facts on clocks as lists. Nothing of the program's text is proved here.
  Contract of the laws' own helper sameInts: it says that two lists of ints alike are alike.
  Contract of the laws' own helper sameRows on lists of lists of ints.
  Contracts of the specification's cursor (spec.l1Cur), from which the laws draw: next, pick, one, among. They say that a call returns, in which range its answer lies, and that it turns nothing but the cursor itself.
  Texts as lists of bytes. Nothing of the program's text is proved here.
  Helpers of the draws: a cursor that is new, rows that stay where one block is written into. Nothing of the program's text is proved here.
  Contract: spec.l1Cur.among: one of some numbers.
-/
import Derived.Test.YtkfnejiiancmhadBundle5
import Derived.Test.YtkfnejiiancmhadBundle3
import Derived.Test.YtkfnejiiancmhadBundle4
import Derived.Test.YtkfnejiiancmhadBundle2
import Derived.Deep.QuietTactic
import Derived.BigQuiet
import Derived.Deep.RegionHeld3
import Derived.Test.YtkfnejiiancmhadBundle1
import Derived.Lib.Builder
namespace Go.Proofs.Ytkfnejiiancmhad.L11
open Go.RowKit L1 Own
set_option linter.unusedVariables false

theorem bool_not {r sm : Bool} {p : Prop} (h : r = true ↔ ¬ p) (h2 : sm = true ↔ p) : r = !sm := by
  cases sm with
  | true => cases r with
    | true => exact absurd (h2.1 rfl) (h.1 rfl)
    | false => rfl
  | false => cases r with
    | true => rfl
    | false => exact absurd (h.2 (fun hp => by have := h2.2 hp; cases this)) (by intro e; cases e)
theorem lsC_iff {l m : List Int} {n : Nat} (hn : l.length = n) (hk : m.length = n) (h5 : n ≤ 5) : LsC l m ↔ (∀ j, j < n → l.getD j 0 ≤ m.getD j 0) ∧ ¬ l = m := by
  have hz : ∀ i, n ≤ i → fnL l i = fnL m i := fun i hi => by
    unfold fnL
    rw [List.getD, List.getD, List.getElem?_eq_none (by omega), List.getElem?_eq_none (by omega)]
  have h1 : (∀ i, i < 5 → fnL l i ≤ fnL m i) ↔ ∀ j, j < n → l.getD j 0 ≤ m.getD j 0 := by
    constructor
    · intro h j hj; exact h j (by omega)
    · intro h i _
      by_cases hi : i < n
      · exact h i hi
      · rw [hz i (by omega)]; exact Int.le_refl _
  have h2 : (∀ i, i < 5 → fnL l i = fnL m i) ↔ l = m := by
    constructor
    · intro h; exact list_same hk hn (fun j hj => h j (by omega))
    · intro h i _; rw [h]
  unfold LsC
  rw [h1, h2]
set_option maxRecDepth 100000 in
set_option maxHeartbeats 4000000 in
theorem specLess_any (a b : Option Addr) (l m : List Int) (n k ca cb : Nat) (w : World) (hn : l.length = n) (hk : m.length = k) (ha : Sl w a l) (hb : Sl w b m) (hn2 : n ≤ 1048576) (hk2 : k ≤ 1048576)
    (c r : Bool) (hc : c = true ↔ TwoC l m) (hr : r = true ↔ TwoC l m ∧ LsC l m) :
    Calls Try.prog 42 #[.slice a n ca, .slice b k cb] w fun e w' => e = .returned (.tuple #[.bool r, .bool c]) ∧ Below w.heap.size w w' := by
  have hc2 : c = true ↔ (OkC l ∧ OkC m) ∧ n = k := by rw [hc, ← hn, ← hk]; rfl
  have hrc : c = false → r = false := fun e => by
    subst e
    cases r with
    | false => rfl
    | true => exact absurd (hc.2 (hr.1 rfl).1) (by simp)
  by_cases hA : OkC l
  case neg =>
    have C1 := hide (l11Clock_any a l n ca w hn ha hn2 false (by simp [hA]))
    obtain rfl : c = false := by cases c with
      | false => rfl
      | true => exact absurd (hc2.1 rfl).1.1 hA
    obtain rfl := hrc rfl
    clear hA hc hr hc2 hrc ha hb hn hk
    go_enter Try.func42, Try.ntmps42
    go_wp2_with fail
    refine (C1.out).mono ?_
    rintro e w1 ⟨rfl, rfl⟩
    go_wp2
    go_ret2
    exact ⟨rfl, Below.refl _ _⟩
  have C1 := hide (l11Clock_any a l n ca w hn ha hn2 true (by simp [hA]))
  by_cases hB : OkC m
  case neg =>
    have C2 := hide (l11Clock_any b m k cb w hk hb hk2 false (by simp [hB]))
    obtain rfl : c = false := by cases c with
      | false => rfl
      | true => exact absurd (hc2.1 rfl).1.2 hB
    obtain rfl := hrc rfl
    clear hA hB hc hr hc2 hrc ha hb hn hk
    go_enter Try.func42, Try.ntmps42
    go_wp2_with fail
    refine (C1.out).mono ?_
    rintro e w1 ⟨rfl, rfl⟩
    go_wp2_with fail
    refine (C2.out).mono ?_
    rintro e w1 ⟨rfl, rfl⟩
    go_wp2
    go_ret2
    exact ⟨rfl, Below.refl _ _⟩
  have C2 := hide (l11Clock_any b m k cb w hk hb hk2 true (by simp [hB]))
  by_cases hnk : n = k
  case neg =>
    obtain rfl : c = false := by cases c with
      | false => rfl
      | true => exact absurd (hc2.1 rfl).2 hnk
    obtain rfl := hrc rfl
    have hnkI : ((n : Int) != (k : Int)) = true := by simp; omega
    clear hA hB hc hr hc2 hrc ha hb hn hk hnk
    go_enter Try.func42, Try.ntmps42
    go_wp2_with fail
    refine (C1.out).mono ?_
    rintro e w1 ⟨rfl, rfl⟩
    go_wp2_with fail
    refine (C2.out).mono ?_
    rintro e w1 ⟨rfl, rfl⟩
    go_wp2
    go_ret2
    exact ⟨rfl, Below.refl _ _⟩
  obtain rfl : c = true := hc2.2 ⟨⟨hA, hB⟩, hnk⟩
  subst hnk
  have hr2 : r = true ↔ (∀ j, j < n → l.getD j 0 ≤ m.getD j 0) ∧ ¬ l = m := by
    rw [hr]
    refine Iff.trans ⟨fun h => h.2, fun h => ⟨hc.1 rfl, h⟩⟩ (lsC_iff hn hk (by have := hA.2.1; omega))
  have hnn : ((n : Int) != (n : Int)) = false := by simp
  obtain ⟨sm, hsm⟩ : ∃ sm : Bool, sm = true ↔ l = m := ⟨decide (l = m), by simp⟩
  have CS := hide (fun w ha hb => l1Same_any a b l m n n ca cb w hn hk ha hb (by omega) (by omega) sm hsm)
  have HSM := hide hsm
  have HR := hide hr2
  have HA := hide ha
  have HB := hide hb
  have HN := hide hn
  have HK := hide hk
  clear hA hB hc hr hc2 hrc ha hb hn hk hr2 hsm
  go_enter Try.func42, Try.ntmps42
  go_wp2_with fail
  refine (C1.out).mono ?_
  rintro e w1 ⟨rfl, rfl⟩
  go_wp2_with fail
  refine (C2.out).mono ?_
  rintro e w1 ⟨rfl, rfl⟩
  go_wp2
  go_loopw [24] (fun i wr => ∃ j : Nat, j ≤ n ∧ i = .int .i64 j ∧ Hid (∀ q, q < j → l.getD q 0 ≤ m.getD q 0) ∧ Below w.heap.size w wr) (fun i _ => n - (intOf i).toNat)
  case atStart => exact ⟨0, Nat.zero_le _, rfl, fun j hj => absurd hj (Nat.not_lt_zero _), Below.refl _ _⟩
  case round =>
    obtain ⟨j, hj, rfl, HJ, hbel⟩ := hrel
    by_cases hlt : j < n
    · obtain ⟨b1, o1, rfl, h1⟩ := HA.out j (by rw [HN.out]; exact hlt)
      obtain ⟨b2, o2, rfl, h2⟩ := HB.out j (by rw [HK.out]; exact hlt)
      have g1 := (hbel.cell (p := ⟨b1, o1 + j, none⟩) (blk_lt h1)).trans h1
      have g2 := (hbel.cell (p := ⟨b2, o2 + j, none⟩) (blk_lt h2)).trans h2
      obtain ⟨x, hx⟩ : ∃ x, x = l.getD j 0 := ⟨_, rfl⟩
      obtain ⟨y, hy⟩ : ∃ y, y = m.getD j 0 := ⟨_, rfl⟩
      rw [← hx] at g1
      rw [← hy] at g2
      have hltI : (j : Int) < (n : Int) := by omega
      have hj0 : (0 : Int) ≤ (j : Int) := by omega
      have HX := hide hx
      have HY := hide hy
      clear h1 h2 hx hy
      by_cases hxy : y < x
      · have E : Hid (r = false) := by
          cases r with
          | false => rfl
          | true => have := (HR.out.1 rfl).1 j hlt; rw [← HX.out, ← HY.out] at this; omega
        go_wp2
        go_quiet (fail)
        go_wp2
        go_ret2
        exact ⟨by rw [E.out]; rfl, below_drewM hbel _⟩
      · have HJ2 : Hid (∀ q, q < j + 1 → l.getD q 0 ≤ m.getD q 0) := fun q hq => by
          by_cases e : q = j
          · subst e; rw [← HX.out, ← HY.out]; omega
          · exact HJ.out q (by omega)
        go_wp2
        go_quiet (fail)
        go_wp2
        go_roundw
        case rel => exact ⟨j + 1, by omega, by go_num, HJ2.out, below_drewM hbel _⟩
        case measure => simp [intOf]; omega
    · have hltI : ¬ (j : Int) < (n : Int) := by omega
      have E : Hid (r = !sm) := by
        have h3 : r = true ↔ ¬ l = m := HR.out.trans ⟨fun h => h.2, fun h => ⟨fun q hq => HJ.out q (by omega), h⟩⟩
        exact bool_not h3 HSM.out
      have HA2 := hide (HA.out.below hbel)
      have HB2 := hide (HB.out.below hbel)
      have B0 := hide hbel
      clear hbel
      go_wp2_with fail
      refine (CS.out _ HA2.out HB2.out).mono ?_
      rintro e w1 ⟨rfl, hb1⟩
      have B1 := hide (B0.out.trans (hb1.mono B0.out.size))
      clear hb1
      go_wp2
      go_ret2
      exact ⟨by rw [E.out]; rfl, B1.out⟩
end Go.Proofs.Ytkfnejiiancmhad.L11

namespace Go.Proofs.Ytkfnejiiancmhad.L11
open Go.RowKit L1 Own
set_option linter.unusedVariables false

theorem cnt_none {N : Int} {l : List Ev} (hg : GoodV N l) (i : Int) (hi : N ≤ i) : ∀ m, m ≤ l.length → cnt l i m = 0
  | 0, _ => rfl
  | m + 1, h => by
    have h1 := cnt_none hg i hi m (by omega)
    have h2 := (hg.2.2.2 m (by omega)).2.1
    show cnt l i m + _ = 0
    rw [h1, if_neg (by omega)]; rfl
theorem clk_none {N : Int} {l : List Ev} (hg : GoodV N l) (k : Nat) (hk : k < l.length) (i : Int) (hi : N ≤ i) : clk l k i = 0 := by
  have h1 := clk_le l k i
  have h2 := clk_nn l k i
  rw [cnt_none hg i hi (k + 1) (by omega)] at h1
  omega
theorem fnL_cE {Nn : Nat} {l : List Ev} (hg : GoodV (Nn : Int) l) (k : Nat) (hk : k < l.length) (i : Nat) : fnL (clL (cE l k) Nn) i = cE l k i := by
  unfold fnL
  by_cases h : i < Nn
  · simp [clL, List.getD, h]
  · rw [List.getD, List.getElem?_eq_none (by simp [clL]; omega)]
    exact (clk_none hg k hk (i : Int) (by omega)).symm
theorem okC_clk {Nn : Nat} {l : List Ev} (hg : GoodV (Nn : Int) l) (k : Nat) (hk : k < l.length) : OkC (clL (cE l k) Nn) := by
  have h1 := hg.1
  have h2 := hg.2.1
  refine ⟨by rw [clL_len]; omega, by rw [clL_len]; omega, fun j hj => ?_⟩
  have e : (clL (cE l k) Nn).getD j 0 = cE l k j := fnL_cE hg k hk j
  rw [e]
  have h3 := clk_le l k (j : Int)
  have h4 := cnt_le l (j : Int) (k + 1)
  have h5 := hg.2.2.1
  have h6 := clk_nn l k (j : Int)
  show 0 ≤ clk l k (j : Int) ∧ clk l k (j : Int) ≤ 40
  omega
theorem two_clk {Nn : Nat} {l : List Ev} (hg : GoodV (Nn : Int) l) (a b : Nat) (ha : a < l.length) (hb : b < l.length) : TwoC (clL (cE l a) Nn) (clL (cE l b) Nn) :=
  ⟨⟨okC_clk hg a ha, okC_clk hg b hb⟩, by rw [clL_len, clL_len]⟩
theorem ls_clk {Nn : Nat} {l : List Ev} (hg : GoodV (Nn : Int) l) (a b : Nat) (ha : a < l.length) (hb : b < l.length) : LsC (clL (cE l a) Nn) (clL (cE l b) Nn) ↔ Anc l a b := by
  rw [← anc_cE hg a b ha hb]
  unfold LsC
  simp only [fnL_cE hg a ha, fnL_cE hg b hb]
  rfl
end Go.Proofs.Ytkfnejiiancmhad.L11

namespace Go.Proofs.Ytkfnejiiancmhad.L4
open Go.RowKit L1
set_option linter.unusedVariables false

set_option maxRecDepth 100000 in
set_option maxHeartbeats 1000000 in
theorem sameInts_any (a b : Option Addr) (xs : List Int) (n c1 c2 : Nat) (w : World) (hn : xs.length = n) (ha : Sl w a xs) (hb : Sl w b xs) (hn2 : n ≤ 1048576) :
    Calls Try.prog 38 #[.slice a n c1, .slice b n c2] w fun e w' => e = .returned (.bool true) ∧ Below w.heap.size w w' := by
  have HA := hide ha
  have HB := hide hb
  have HN := hide hn
  clear ha hb hn
  go_enter Try.func38, Try.ntmps38
  go_wp2
  go_loopw [13] (fun i wr => ∃ k : Nat, k ≤ n ∧ i = .int .i64 k ∧ Below w.heap.size w wr) (fun i _ => n - (intOf i).toNat)
  case atStart => exact ⟨0, Nat.zero_le _, rfl, Below.refl _ _⟩
  case round =>
    obtain ⟨k, hk, rfl, hbel⟩ := hrel
    by_cases hlt : k < n
    · obtain ⟨b1, o1, rfl, h1⟩ := HA.out k (by rw [HN.out]; exact hlt)
      obtain ⟨b2, o2, rfl, h2⟩ := HB.out k (by rw [HN.out]; exact hlt)
      have g1 := (hbel.cell (p := ⟨b1, o1 + k, none⟩) (blk_lt h1)).trans h1
      have g2 := (hbel.cell (p := ⟨b2, o2 + k, none⟩) (blk_lt h2)).trans h2
      obtain ⟨x, hx⟩ : ∃ x, x = xs.getD k 0 := ⟨_, rfl⟩
      rw [← hx] at g1 g2
      have hltI : (k : Int) < (n : Int) := by omega
      have hk0 : (0 : Int) ≤ (k : Int) := by omega
      clear h1 h2 hx
      go_wp2
      go_quiet (fail)
      go_wp2
      go_roundw
      case rel => exact ⟨k + 1, by omega, by go_num, below_drewN hbel _⟩
      case measure => simp [intOf]; omega
    · have hltI : ¬ (k : Int) < (n : Int) := by omega
      go_wp2
      go_ret
      exact ⟨rfl, hbel⟩
end Go.Proofs.Ytkfnejiiancmhad.L4

namespace Go.Proofs.Ytkfnejiiancmhad.Own
open Go.RowKit L1 L4
set_option linter.unusedVariables false

theorem keepSR {wa wb : World} {B1 B2 O : Nat} {v1 v2 : Value} {N : Nat} {W : World} (h : wa.cell? ⟨B1, O, none⟩ = some v1 ∧ wa.cell? ⟨B2, O, none⟩ = some v2 ∧ Below N W wa) (hb : Below wa.heap.size wa wb) (hN : N ≤ W.heap.size) :
    wb.cell? ⟨B1, O, none⟩ = some v1 ∧ wb.cell? ⟨B2, O, none⟩ = some v2 ∧ Below N W wb :=
  ⟨(hb.cell (p := ⟨B1, O, none⟩) (blk_lt h.1)).trans h.1, (hb.cell (p := ⟨B2, O, none⟩) (blk_lt h.2.1)).trans h.2.1, h.2.2.trans (hb.mono (Nat.le_trans hN h.2.2.size))⟩
set_option maxRecDepth 100000 in
set_option maxHeartbeats 4000000 in
theorem sameRows_any (v u : Value) (n N : Nat) (G : Nat → Nat → Int) (B1 T1 B2 T2 : Nat) (w : World) (hn2 : n ≤ 1048576) (hN2 : N ≤ 1048576) (hv : SW w B1 T1 v n N G) (hu : SW w B2 T2 u n N G) :
    Calls Try.prog 37 #[v, u] w fun e w' => e = .returned (.bool true) ∧ Below w.heap.size w w' := by
  obtain ⟨bs, cs, h1⟩ := hv
  obtain ⟨bs2, cs2, h2⟩ := hu
  obtain ⟨a, c1, rfl⟩ := h1.form
  obtain ⟨b, c2, rfl⟩ := h2.form
  have H1 := hide h1
  have H2 := hide h2
  have hnn : ((n : Int) != (n : Int)) = false := by simp
  clear h1 h2
  go_enter Try.func37, Try.ntmps37
  go_wp2
  go_loopw [13] (fun i wr => ∃ k : Nat, k ≤ n ∧ i = .int .i64 k ∧ Below w.heap.size w wr) (fun i _ => n - (intOf i).toNat)
  case atStart => exact ⟨0, Nat.zero_le _, rfl, Below.refl _ _⟩
  case round =>
    obtain ⟨k, hk, rfl, hbel⟩ := hrel
    by_cases hlt : k < n
    · have q1 := H1.out.below hbel
      have q2 := H2.out.below hbel
      obtain ⟨g1, rfl, hc1⟩ := q1.addr (by omega)
      obtain ⟨g2, rfl, hc2⟩ := q2.addr (by omega)
      have e1 := hc1 k hlt
      have e2 := hc2 k hlt
      have s1 := q1.sl k hlt
      have s2 := q2.sl k hlt
      obtain ⟨d1, hd1⟩ : ∃ d, d = bs k := ⟨_, rfl⟩
      obtain ⟨d2, hd2⟩ : ∃ d, d = bs2 k := ⟨_, rfl⟩
      obtain ⟨p1, hp1⟩ : ∃ d, d = cs k := ⟨_, rfl⟩
      obtain ⟨p2, hp2⟩ : ∃ d, d = cs2 k := ⟨_, rfl⟩
      rw [← hd1] at e1 s1
      rw [← hp1] at e1
      rw [← hd2] at e2 s2
      rw [← hp2] at e2
      have CE : Hid (∀ wx, Below wr.heap.size wr wx → Calls Try.prog 38 #[.slice (some ⟨d1, 0, none⟩) N p1, .slice (some ⟨d2, 0, none⟩) N p2] wx fun e w' => e = .returned (.bool true) ∧ Below wx.heap.size wx w') := hide (fun wx hb => sameInts_any _ _ ((List.range N).map (G k)) N p1 p2 wx (by simp) (s1.below hb) (s2.below hb) hN2)
      have hltI : (k : Int) < (n : Int) := by omega
      have hk0 : (0 : Int) ≤ (k : Int) := by omega
      clear q1 q2 hc1 hc2 s1 s2 hd1 hd2 hp1 hp2
      go_wp2
      refine wp_region_held_drew (S := (fun wx => wx.cell? ⟨g1, k, none⟩ = some (.slice (some ⟨d1, 0, none⟩) N p1) ∧ wx.cell? ⟨g2, k, none⟩ = some (.slice (some ⟨d2, 0, none⟩) N p2) ∧ Below wr.heap.size wr wx)) (by kernel_rfl) ⟨e1, e2, (Below.refl _ _).drew⟩ (fun hHeld => ?_)
      refine wpAnyH_take (i := 0) (v := ?v1) rfl (by kernel_rfl) (by kernel_rfl) (by kernel_rfl) (fun _ _ _ h => h) (Or.inl ⟨by rfl, ?y1⟩) (by assumption) ?r1
      case y1 => (intro w hSw; (try dsimp only at hSw); go_simp; try (with_reducible rfl))
      simp only [List.getElem_toArray, List.getElem_cons_zero, Act.put, List.setIfInBounds_toArray, List.set_cons_zero, List.set_cons_succ]
      refine wpAnyH_take (i := 1) (v := ?v2) rfl (by kernel_rfl) (by kernel_rfl) (by kernel_rfl) (fun _ _ _ h => h) (Or.inl ⟨by rfl, ?y2⟩) (by assumption) ?r2
      case y2 => (intro w hSw; (try dsimp only at hSw); go_simp; try (with_reducible rfl))
      simp only [List.getElem_toArray, List.getElem_cons_succ, List.getElem_cons_zero, Act.put, List.setIfInBounds_toArray, List.set_cons_zero, List.set_cons_succ]
      refine wpAnyH_take (i := 2) (v := ?v3) rfl (by kernel_rfl) (by kernel_rfl) (by kernel_rfl) (fun _ _ _ h => h) (Or.inl ⟨by rfl, ?y3⟩) (by assumption) ?r3
      case y3 => (intro w hSw; (try dsimp only at hSw); go_simp; try (with_reducible rfl))
      simp only [List.getElem_toArray, List.getElem_cons_succ, List.getElem_cons_zero, Act.put, List.setIfInBounds_toArray, List.set_cons_zero, List.set_cons_succ]
      refine wpAnyH_take (i := 3) (v := ?v4) rfl (by kernel_rfl) (by kernel_rfl) (by kernel_rfl) (fun _ _ _ h => h) (Or.inl ⟨by rfl, ?y4⟩) (by assumption) ?r4
      case y4 => (intro w hSw; (try dsimp only at hSw); go_simp; try (with_reducible rfl))
      simp only [List.getElem_toArray, List.getElem_cons_succ, List.getElem_cons_zero, Act.put, List.setIfInBounds_toArray, List.set_cons_zero, List.set_cons_succ]
      refine wpAnyH_take (i := 4) (v := ?v5) rfl (by kernel_rfl) (by kernel_rfl) (by kernel_rfl) (fun _ _ _ h => h) (Or.inl ⟨by rfl, ?y5⟩) (by assumption) ?r5
      case y5 => (intro w hSw; (try dsimp only at hSw); go_simp; try (with_reducible rfl))
      simp only [List.getElem_toArray, List.getElem_cons_succ, List.getElem_cons_zero, Act.put, List.setIfInBounds_toArray, List.set_cons_zero, List.set_cons_succ]
      refine wpAnyH_take (i := 5) (v := ?v6) rfl (by kernel_rfl) (by kernel_rfl) (by kernel_rfl) (fun _ _ _ h => h) (Or.inl ⟨by rfl, ?y6⟩) (by assumption) ?r6
      case y6 => (intro w hSw; (try dsimp only at hSw); go_simp; try (with_reducible rfl))
      simp only [List.getElem_toArray, List.getElem_cons_succ, List.getElem_cons_zero, Act.put, List.setIfInBounds_toArray, List.set_cons_zero, List.set_cons_succ]
      refine wpAnyH_take (i := 6) (v := ?v7) rfl (by kernel_rfl) (by kernel_rfl) (by kernel_rfl) (fun _ _ _ h => h) (Or.inl ⟨by rfl, ?y7⟩) (by assumption) ?r7
      case y7 => (intro w hSw; (try dsimp only at hSw); go_simp; try (with_reducible rfl))
      simp only [List.getElem_toArray, List.getElem_cons_succ, List.getElem_cons_zero, Act.put, List.setIfInBounds_toArray, List.set_cons_zero, List.set_cons_succ]
      refine wpAnyH_take (i := 7) (v := ?v8) rfl (by kernel_rfl) (by kernel_rfl) (by kernel_rfl) (fun _ _ _ h => h) (Or.inl ⟨by rfl, ?y8⟩) (by assumption) ?r8
      case y8 => (intro w hSw; (try dsimp only at hSw); go_simp; try (with_reducible rfl))
      simp only [List.getElem_toArray, List.getElem_cons_succ, List.getElem_cons_zero, Act.put, List.setIfInBounds_toArray, List.set_cons_zero, List.set_cons_succ]
      refine wpAnyH_ready (rs := [8]) (by kernel_rfl) (by simp) ?_
      refine AllReadyH.cons rfl (fun K hK => ?_) AllReadyH.nil
      simp only [List.getElem_toArray, List.getElem_cons_succ, List.getElem_cons_zero]
      go_simp
      go_at_call 38
      refine (CE.out _ hHeld.2.2).mono ?_
      rintro e w1 ⟨rfl, hb⟩
      dsimp only
      refine hK.out _ _ ?_ (fun hHeld => ?_)
      · exact keepSR hHeld hb (Nat.le_refl _)
      clear hK K
      try simp only [Act.put, List.setIfInBounds_toArray, List.set_cons_zero, List.set_cons_succ]
      refine wpAnyH_take (i := 9) (v := ?v9) rfl (by kernel_rfl) (by kernel_rfl) (by kernel_rfl) (fun _ _ _ h => h) (Or.inl ⟨by rfl, ?y9⟩) (by assumption) ?r9
      case y9 => (intro w hSw; (try dsimp only at hSw); go_simp; try (with_reducible rfl))
      simp only [List.getElem_toArray, List.getElem_cons_succ, List.getElem_cons_zero, Act.put, List.setIfInBounds_toArray, List.set_cons_zero, List.set_cons_succ]
      refine wpAnyH_done (by kernel_rfl) ?_ _
      have B1 := hide (hbel.trans (hHeld.2.2.mono hbel.size))
      clear hHeld
      go_wp2
      go_roundw
      case rel => exact ⟨k + 1, by omega, by go_num, B1.out⟩
      case measure => simp [intOf]; omega
    · have hltI : ¬ (k : Int) < (n : Int) := by omega
      go_wp2
      go_ret
      exact ⟨rfl, hbel⟩
end Go.Proofs.Ytkfnejiiancmhad.Own

namespace Go.Proofs.Ytkfnejiiancmhad.L1
open Go.RowKit
set_option linter.unusedVariables false

/-- A list of bytes lies in memory, in a block below b. -/
def Slb (w : World) (b : Nat) (a : Option Addr) (n : Nat) : Prop :=
  ∀ i, i < n → ∃ bb off x, a = some ⟨bb, off, none⟩ ∧ bb < b ∧ w.cell? ⟨bb, off + i, none⟩ = some (.int .u8 x) ∧ 0 ≤ x ∧ x < 256
/-- A cursor lies in block b; it stands at most at N. -/
def Cur (w : World) (b N : Nat) : Prop :=
  ∃ (a : Option Addr) (n cap p : Nat) (sd : Int), w.heap[b]? = some (.cells #[.slice a n cap, .int .i64 (p : Int), .int .u64 sd] 89 (0, 0)) ∧ p ≤ N ∧ n ≤ 1048576 ∧ Slb w b a n
theorem Cur.mono {w : World} {b N M : Nat} (h : Cur w b N) (hm : N ≤ M) : Cur w b M := by
  obtain ⟨a, n, cap, p, sd, h1, h2, h3, h4⟩ := h
  exact ⟨a, n, cap, p, sd, h1, by omega, h3, h4⟩
theorem Cur.lt {w : World} {b N : Nat} (h : Cur w b N) : b < w.heap.size := by
  obtain ⟨a, n, cap, p, sd, h1, _⟩ := h
  exact (Array.getElem?_eq_some_iff.1 h1).1
/-- A cursor stays one where its own block and all below it are as they were. -/
theorem Cur.kept {w w' : World} {b N : Nat} (h : Cur w b N) (hb : ∀ k, k ≤ b → w'.heap[k]? = w.heap[k]?) : Cur w' b N := by
  obtain ⟨a, n, cap, p, sd, h1, h2, h3, h4⟩ := h
  refine ⟨a, n, cap, p, sd, by rw [hb b (Nat.le_refl _)]; exact h1, h2, h3, fun i hi => ?_⟩
  obtain ⟨bb, off, x, ha, hlt, hc, hx⟩ := h4 i hi
  exact ⟨bb, off, x, ha, hlt, by rw [World.cell?_of_block (w := w) (hb bb (by omega))]; exact hc, hx⟩
theorem Cur.below {w w' : World} {b N : Nat} (h : Cur w b N) (hb : Below w.heap.size w w') : Cur w' b N :=
  h.kept fun k hk => hb.block k (by have := h.lt; omega)
/-- Only block b has turned; nothing new was laid, or something. -/
theorem grown_trans {a b c : World} {r : Option Nat} (h : a.grownBy b r) (k : b.grownBy c r) : a.grownBy c r :=
  ⟨k.os.trans h.os, k.tape.trans h.tape, k.output.trans h.output, Nat.le_trans h.size k.size, fun i hi hn => (k.block i (Nat.lt_of_lt_of_le hi h.size) hn).trans (h.block i hi hn)⟩
theorem grown_below {a b : World} {r : Nat} (h : a.grownBy b (some r)) : Below r a b ∨ a.heap.size < r := by
  by_cases hr : r ≤ a.heap.size
  · exact .inl ⟨h.os, h.tape, h.output, h.size, fun k hk => h.block k (by omega) (by simp; omega)⟩
  · exact .inr (by omega)
theorem below_grown {a b : World} {r : Option Nat} (h : Below a.heap.size a b) : a.grownBy b r :=
  ⟨h.os, h.tape, h.output, h.size, fun k hk _ => h.block k hk⟩
theorem and255_bd (y : Int) : 0 ≤ wrap64 (bits .and .u64 y 255) ∧ wrap64 (bits .and .u64 y 255) ≤ 255 := by
  have h : bits .and .u64 y 255 = IntKind.u64.wrap ((BitVec.ofInt 64 y &&& BitVec.ofInt 64 255).toNat : Nat) := rfl
  have h2 : (BitVec.ofInt 64 y &&& BitVec.ofInt 64 255).toNat ≤ 255 := by
    rw [BitVec.toNat_and]
    exact Nat.and_le_right
  rw [h, IntKind.wrap_u64]
  generalize (BitVec.ofInt 64 y &&& BitVec.ofInt 64 255).toNat = m at h2
  unfold wrap64
  omega

theorem cur_step {w W' : World} {b N n cap p : Nat} {a : Option Addr} {sd s' : Int} (hbk : w.heap[b]? = some (.cells #[.slice a n cap, .int .i64 (p : Int), .int .u64 sd] 89 (0, 0))) (hp : p ≤ N) (hn : n ≤ 1048576) (hs : Slb w b a n)
    (hh : W'.heap = ((w.setCell ⟨b, 1, none⟩ (.int .i64 ((p : Int) + 1))).setCell ⟨b, 2, none⟩ (.int .u64 s')).heap) (ho : W'.os = w.os) (ht : W'.tape = w.tape) (hu : W'.output = w.output) :
    Cur W' b (N + 1) ∧ w.grownBy W' (some b) := by
  have h1 := heap_setCell_same w b 1 _ _ (.int .i64 ((p : Int) + 1)) hbk
  have h2 := heap_setCell_same _ b 2 _ _ (.int .u64 s') h1
  have hoth : ∀ k, k ≠ b → W'.heap[k]? = w.heap[k]? := fun k hk => by
    rw [hh, Below.heap_setCell _ _ _ _ (by simpa using hk), Below.heap_setCell _ _ _ _ (by simpa using hk)]
  refine ⟨⟨a, n, cap, p + 1, s', by rw [hh, h2]; rfl, by omega, hn, fun i hi => ?_⟩, ⟨ho, ht, hu, by rw [hh]; simp [World.setCell], fun k _ hk => hoth k (fun e => hk (by rw [e]))⟩⟩
  obtain ⟨bb, off, x, ha, hlt, hc, hx⟩ := hs i hi
  exact ⟨bb, off, x, ha, hlt, by rw [World.cell?_of_block (w := w) (hoth bb (by omega))]; exact hc, hx⟩

set_option maxRecDepth 100000 in
set_option maxHeartbeats 1000000 in
theorem next_any (b N : Nat) (w : World) (h : Cur w b N) (hN : N ≤ 1000000000000) :
    Calls Try.prog 96 #[.pointer (some ⟨b, 0, none⟩)] w fun e w' => ∃ x : Int, e = .returned (.int .i64 x) ∧ 0 ≤ x ∧ x ≤ 255 ∧ Cur w' b (N + 1) ∧ w.grownBy w' (some b) := by
  obtain ⟨a, n, cap, p, sd, hbk, hp, hn, hs⟩ := h
  have c0 : w.cell? ⟨b, 0, none⟩ = some (.slice a n cap) := Lib.cell_of_heap hbk 0
  have c1 : w.cell? ⟨b, 1, none⟩ = some (.int .i64 (p : Int)) := Lib.cell_of_heap hbk 1
  have c2 : w.cell? ⟨b, 2, none⟩ = some (.int .u64 sd) := Lib.cell_of_heap hbk 2
  have f1 := Lib.frozen_of_heap hbk 1
  have f2 := Lib.frozen_of_heap hbk 2
  have HB := hide hbk
  have HS := hide hs
  clear hbk hs
  by_cases hlt : p < n
  · obtain ⟨bb, off, x, rfl, hbb, hc, hx0, hx1⟩ := HS.out p hlt
    have hltI : (p : Int) < (n : Int) := by omega
    have hltJ : (p : Int) + 1 ≤ (n : Int) := by omega
    go_enter Try.func96, Try.ntmps96
    go_wp2
    go_quiet (fail)
    go_wp2
    go_quiet (fail)
    go_wp2
    go_quiet (fail)
    go_wp2
    go_ret
    exact ⟨x, rfl, hx0, by omega, cur_step HB.out hp hn HS.out rfl rfl rfl rfl⟩
  · have hltI : ¬ (p : Int) < (n : Int) := by omega
    have hltJ : ¬ (p : Int) + 1 ≤ (n : Int) := by omega
    go_enter Try.func96, Try.ntmps96
    go_wp2
    go_quiet (fail)
    go_wp2
    go_quiet (fail)
    go_wp2
    go_ret
    exact ⟨_, rfl, (and255_bd _).1, (and255_bd _).2, cur_step HB.out hp hn HS.out rfl rfl rfl rfl⟩

theorem emod_le_self (a n : Int) (ha : 0 ≤ a) (hn : 0 < n) : a % n ≤ a := by
  have h1 := Int.mul_ediv_add_emod a n
  have h2 : 0 ≤ n * (a / n) := Int.mul_nonneg (by omega) (Int.ediv_nonneg ha (by omega))
  omega

set_option maxRecDepth 100000 in
set_option maxHeartbeats 1000000 in
theorem pick_any (b N : Nat) (n : Int) (w : World) (h : Cur w b N) (hN : N ≤ 1000000000) (hn1 : -1000000000000 ≤ n) (hn2 : n ≤ 1000000000000) :
    Calls Try.prog 53 #[.pointer (some ⟨b, 0, none⟩), .int .i64 n] w fun e w' => ∃ x : Int, e = .returned (.int .i64 x) ∧ 0 ≤ x ∧ x ≤ 65535 ∧ (1 ≤ n → x < n) ∧ Cur w' b (N + 2) ∧ w.grownBy w' (some b) := by
  have HC := hide h
  clear h
  by_cases h1 : n ≤ 1
  · go_enter Try.func53, Try.ntmps53
    go_wp2
    go_ret
    exact ⟨0, rfl, by omega, by omega, by omega, HC.out.mono (by omega), ⟨rfl, rfl, rfl, Nat.le_refl _, fun _ _ _ => rfl⟩⟩
  · have h0 : 0 < n := by omega
    by_cases h200 : 200 < n
    · go_enter Try.func53, Try.ntmps53
      go_wp2_with fail
      refine (next_any b N _ HC.out (by omega)).mono ?_
      rintro e w1 ⟨x, rfl, hx0, hx1, hc1, hg1⟩
      have H1 := hide hc1
      have G1 := hide hg1
      clear hc1 hg1
      go_wp2_with fail
      refine (next_any b (N + 1) _ H1.out (by omega)).mono ?_
      rintro e w2 ⟨y, rfl, hy0, hy1, hc2, hg2⟩
      have H2 := hide hc2
      have G2 := hide (grown_trans G1.out hg2)
      have hm0 : 0 ≤ (x * 256 + y) % n := Int.emod_nonneg _ (by omega)
      have hm1 : (x * 256 + y) % n < n := Int.emod_lt_of_pos _ h0
      have hm2 : (x * 256 + y) % n ≤ x * 256 + y := emod_le_self _ _ (by omega) h0
      clear hc2 hg2
      go_wp2
      go_ret
      exact ⟨_, rfl, hm0, by omega, fun _ => hm1, H2.out, G2.out⟩
    · go_enter Try.func53, Try.ntmps53
      go_wp2_with fail
      refine (next_any b N _ HC.out (by omega)).mono ?_
      rintro e w1 ⟨x, rfl, hx0, hx1, hc1, hg1⟩
      have H1 := hide hc1
      have G1 := hide hg1
      have hm0 : 0 ≤ x % n := Int.emod_nonneg _ (by omega)
      have hm1 : x % n < n := Int.emod_lt_of_pos _ h0
      have hm2 : x % n ≤ x := emod_le_self _ _ (by omega) h0
      clear hc1 hg1
      go_wp2
      go_ret
      exact ⟨_, rfl, hm0, by omega, fun _ => hm1, H1.out.mono (by omega), G1.out⟩

set_option maxRecDepth 100000 in
set_option maxHeartbeats 400000 in
theorem one_any (b N : Nat) (n : Int) (w : World) (h : Cur w b N) (hN : N ≤ 1000000000) (hn1 : -1000000000000 ≤ n) (hn2 : n ≤ 1000000000000) :
    Calls Try.prog 86 #[.pointer (some ⟨b, 0, none⟩), .int .i64 n] w fun e w' => ∃ t : Bool, e = .returned (.bool t) ∧ Cur w' b (N + 2) ∧ w.grownBy w' (some b) := by
  have HC := hide h
  clear h
  go_enter Try.func86, Try.ntmps86
  go_wp2_with fail
  refine (pick_any b N _ _ HC.out hN hn1 hn2).mono ?_
  rintro e w1 ⟨x, rfl, hx0, hx1, _, hc1, hg1⟩
  have H1 := hide hc1
  have G1 := hide hg1
  clear hc1 hg1
  go_wp2
  go_ret
  exact ⟨_, rfl, H1.out, G1.out⟩

theorem lit_row (w : World) (cs : Array Value) (xs : List Int) (h : cs.toList = xs.map (Value.int .i64)) : Sl (w.alloc (.cells cs 3)) (some ⟨w.heap.size, 0, none⟩) xs := fun i hi => by
  refine ⟨w.heap.size, 0, rfl, ?_⟩
  have hb : (w.alloc (.cells cs 3)).heap[w.heap.size]? = some (.cells cs 3 (0, 0)) := by show (w.heap.push _)[w.heap.size]? = _; simp
  rw [Lib.cell_of_heap hb, Nat.zero_add, ← Array.getElem?_toList, h, List.getElem?_map, List.getElem?_eq_getElem hi]
  simp [List.getD, List.getElem?_eq_getElem hi]
theorem grown_alloc (w : World) (o : Obj) (b : Nat) : w.grownBy (w.alloc o) (some b) := World.grownBy_alloc w o (some b)
theorem Cur.alloc {w : World} {b N : Nat} (h : Cur w b N) (o : Obj) : Cur (w.alloc o) b N :=
  h.below ((Below.refl _ _).alloc (Nat.le_refl _) _)

end Go.Proofs.Ytkfnejiiancmhad.L1

namespace Go.Proofs.Ytkfnejiiancmhad.L1
open Go.RowKit
set_option linter.unusedVariables false

/-- A text's bytes from a place on. -/
def bts (s : ByteArray) (a : Nat) : List Int := (s.data.toList.drop a).map fun c => (c.toNat : Int)
theorem bts_len (s : ByteArray) (a : Nat) : (bts s a).length = s.size - a := by simp [bts]
theorem bts_get (s : ByteArray) (a k : Nat) (h : a + k < s.size) : (bts s a).getD k 0 = ((s[a + k]'h).toNat : Int) := by
  have h2 : a + k < s.data.toList.length := by simpa using h
  simp only [bts, List.getD, List.getElem?_map, List.getElem?_drop, List.getElem?_eq_getElem h2, Option.map_some, Option.getD_some]
  rfl
theorem bts_byte (s : ByteArray) (a k : Nat) : 0 ≤ (bts s a).getD k 0 ∧ (bts s a).getD k 0 < 256 := by
  by_cases h : a + k < s.size
  · rw [bts_get s a k h]
    have := (s[a + k]'h).toNat_lt
    omega
  · simp only [List.getD, List.getElem?_eq_none (show (bts s a).length ≤ k by rw [bts_len]; omega)]
    simp

/-- The text of digits that stand in a text is that piece of it. -/
theorem str_piece (s : ByteArray) (a j : Nat) (h : a + j ≤ s.size) : strOfNums ((bts s a).take j) = s.extract a (a + j) := by
  apply ByteArray.ext
  apply Array.toList_inj.1
  simp only [strOfNums, bts, ByteArray.data_extract, Array.toList_extract]
  rw [← List.map_take, List.map_map]
  have e : (fun n : Int => UInt8.ofNat n.toNat) ∘ (fun c : UInt8 => (c.toNat : Int)) = id := by
    funext c
    simp
  rw [e]
  simp
theorem str_inj : ∀ {l m : List Int}, (∀ x ∈ l, 0 ≤ x ∧ x < 256) → (∀ x ∈ m, 0 ≤ x ∧ x < 256) → strOfNums l = strOfNums m → l = m := by
  intro l m hl hm h
  have h2 : l.map (fun n : Int => UInt8.ofNat n.toNat) = m.map (fun n : Int => UInt8.ofNat n.toNat) := by
    have := congrArg (fun b => b.data.toList) h
    simpa [strOfNums] using this
  clear h
  induction l generalizing m with
  | nil => cases m with
    | nil => rfl
    | cons y m => simp at h2
  | cons x l ih =>
    cases m with
    | nil => simp at h2
    | cons y m =>
      simp only [List.map_cons, List.cons.injEq] at h2
      have hx := hl x (by simp)
      have hy := hm y (by simp)
      have e : x = y := by
        have := congrArg UInt8.toNat h2.1
        simp only [UInt8.toNat_ofNat'] at this
        omega
      rw [e, ih (fun u hu => hl u (by simp [hu])) (fun u hu => hm u (by simp [hu])) h2.2]
theorem toList_inj {A B : ByteArray} (h : A.toList = B.toList) : A = B := by
  rw [ByteArray.toList_eq, ByteArray.toList_eq] at h
  exact ByteArray.ext (Array.toList_inj.1 h)
theorem bts_mem (s : ByteArray) (a : Nat) : ∀ x ∈ bts s a, 0 ≤ x ∧ x < 256 := by
  intro x hx
  simp only [bts, List.mem_map] at hx
  obtain ⟨c, _, rfl⟩ := hx
  have := c.toNat_lt
  omega
end Go.Proofs.Ytkfnejiiancmhad.L1

namespace Go.Proofs.Ytkfnejiiancmhad.L4
open Go.RowKit L1
set_option linter.unusedVariables false

theorem cur_new {w : World} {a : Option Addr} {n cap : Nat} (h : Slb w w.heap.size a n) (hn : n ≤ 1048576) : Cur (w.alloc (Obj.cells #[.slice a n cap, .int .i64 0, .int .u64 0] 89)) w.heap.size 0 := by
  refine ⟨a, n, cap, 0, 0, by show (w.heap.push _)[w.heap.size]? = _; simp, Nat.le_refl _, hn, fun i hi => ?_⟩
  obtain ⟨bb, off, x, ha, hlt, hc, hx⟩ := h i hi
  exact ⟨bb, off, x, ha, hlt, by rw [World.cell?_of_block (w := w) (Below.heap_alloc _ _ _ hlt)]; exact hc, hx⟩
theorem grown_to_below {w w' : World} {o : Obj} (h : (w.alloc o).grownBy w' (some w.heap.size)) : Below w.heap.size w w' := by
  have h1 : Below w.heap.size (w.alloc o) w' := ⟨h.os, h.tape, h.output, h.size, fun k hk => h.block k (by simp; omega) (by simp; omega)⟩
  exact ((Below.refl _ _).alloc (Nat.le_refl _) _).trans h1
theorem Slb.below {w w' : World} {a : Option Addr} {n : Nat} (h : Slb w w.heap.size a n) (hb : Below w.heap.size w w') : Slb w' w'.heap.size a n := fun i hi => by
  obtain ⟨bb, off, x, ha, hlt, hc, hx⟩ := h i hi
  exact ⟨bb, off, x, ha, by have := hb.size; omega, by rw [hb.cell (p := ⟨bb, off + i, none⟩) hlt]; exact hc, hx⟩
theorem sl_len {w : World} {k : IntKind} {a : Option Addr} {len cap : Nat} {zs : List Int} (h : IsRow k w a len cap zs) : len ≤ 9223372036854775807 := by
  rcases h with ⟨_, rfl, _⟩ | ⟨x, _, hl, hm, _⟩
  · omega
  · unfold maxLen at hm; omega
theorem slb_of_row {w : World} {a : Option Addr} {len cap : Nat} {zs : List Int} (h : IsRow .u8 w a len cap zs) : Slb w w.heap.size a len := by
  rcases h with ⟨rfl, rfl, rfl, rfl⟩ | ⟨x, rfl, hl, hm, hz, hc, hwf⟩
  · exact fun i hi => absurd hi (Nat.not_lt_zero _)
  · intro i hi
    have hi' : i < zs.length := by omega
    have h0 := hc i hi'
    obtain ⟨b, off, spot⟩ := x
    have hspot : spot = none := by
      have h00 := hc 0 (by omega)
      simpa [Addr.add] using World.cell?_spot h00
    subst hspot
    have e : (⟨b, off, none⟩ : Addr).add i = ⟨b, off + i, none⟩ := by unfold Addr.add; split <;> simp_all
    rw [e] at h0
    have hw := hwf (zs.getD i 0) (by rw [List.getD, List.getElem?_eq_getElem hi']; simp)
    have hb := bounds_u8 hw
    exact ⟨b, off, zs.getD i 0, rfl, blk_lt h0, h0, by omega, by omega⟩


theorem own_grown4 {w w' : World} {base n b c : Nat} {t : TypeId} {v : Value} {ys : List Value} (h : w.ownsRow base t c v n ys) (hg : w.grownBy w' (some b)) (hb : b < base) : w'.ownsRow base t c v n ys := by
  refine ⟨h.1, ?_⟩
  rcases h.2 with h0 | ⟨g, cap, cur, rfl, hbg, hgg, r⟩
  · exact .inl h0
  · exact .inr ⟨g, cap, cur, rfl, hbg, by rw [hg.block g (Array.getElem?_eq_some_iff.1 hgg).1 (fun e => by cases e; omega)]; exact hgg, r⟩
theorem grown_low {a b c : World} {r : Option Nat} (h : a.grownBy b r) (k : Below a.heap.size b c) : a.grownBy c r :=
  ⟨k.os.trans h.os, k.tape.trans h.tape, k.output.trans h.output, Nat.le_trans h.size k.size, fun i hi hn => (k.block i hi).trans (h.block i hi hn)⟩
/-- Some ints that the caller owns. -/
def OwnP (w : World) (B : Nat) (v : Value) (m : Nat) : Prop := ∃ xs : List Int, xs.length ≤ m ∧ w.ownsRow B 3 1 v xs.length (xs.map (Value.int .i64))
theorem OwnP.grown {w w' : World} {B b m : Nat} {v : Value} (h : OwnP w B v m) (hg : w.grownBy w' (some b)) (hb : b < B) : OwnP w' B v m := by
  obtain ⟨xs, hl, ho⟩ := h
  exact ⟨xs, hl, own_grown4 ho hg hb⟩
theorem OwnP.base {w : World} {B B' m : Nat} {v : Value} (h : OwnP w B v m) (hB : B' ≤ B) : OwnP w B' v m := by
  obtain ⟨xs, hl, ho⟩ := h
  exact ⟨xs, hl, own_baseT ho hB⟩

end Go.Proofs.Ytkfnejiiancmhad.L4

namespace Go.Proofs.Ytkfnejiiancmhad.L1
open Go.RowKit
set_option linter.unusedVariables false

set_option maxRecDepth 100000 in
set_option maxHeartbeats 400000 in
theorem among_any (b N g m cap : Nat) (xs : List Int) (w : World) (h : Cur w b N) (hN : N ≤ 1000000000) (hxs : xs.length = m) (h1 : 1 ≤ m) (h2 : m ≤ 1000) (hg : g ≠ b) (hs : Sl w (some ⟨g, 0, none⟩) xs) :
    Calls Try.prog 71 #[.pointer (some ⟨b, 0, none⟩), .slice (some ⟨g, 0, none⟩) m cap] w fun e w' => ∃ j, j < m ∧ e = .returned (.int .i64 (xs.getD j 0)) ∧ Cur w' b (N + 2) ∧ w.grownBy w' (some b) := by
  have HC := hide h
  have HS := hide hs
  have HX := hide hxs
  clear h hs hxs
  go_enter Try.func71, Try.ntmps71
  go_wp2_with fail
  refine (pick_any b N _ _ HC.out hN (by omega) (by omega)).mono ?_
  rintro e w1 ⟨x, rfl, hx0, hx1, hxm, hc1, hg1⟩
  have hxm' : x < (m : Int) := hxm (by omega)
  clear hxm
  obtain ⟨j, rfl⟩ : ∃ j : Nat, x = (j : Int) := ⟨x.toNat, by omega⟩
  have hc0 := HS.out.at j (by rw [HX.out]; omega)
  have hc : w1.cell? ⟨g, 0 + j, none⟩ = some (.int .i64 (xs.getD j 0)) := by
    rw [World.cell?_of_block (w := w) (hg1.block g (blk_lt hc0) (by simpa using hg))]
    exact hc0
  simp only [Nat.zero_add] at hc
  have H1 := hide hc1
  have G1 := hide hg1
  have hj : j < m := by omega
  obtain ⟨y, hy⟩ : ∃ y, y = xs.getD j 0 := ⟨_, rfl⟩
  rw [← hy] at hc
  have HY := hide hy
  clear hc1 hg1 hc0 hy
  go_wp2
  go_ret
  exact ⟨j, hj, by rw [← HY.out]; rfl, H1.out, G1.out⟩

end Go.Proofs.Ytkfnejiiancmhad.L1
