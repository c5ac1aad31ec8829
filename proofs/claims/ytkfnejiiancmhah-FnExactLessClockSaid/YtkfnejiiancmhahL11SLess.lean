/-
  Contracts: spec.l11Clock, spec.LessClock.
-/
import Derived.Test.YtkfnejiiancmhahL11LessI
import Derived.Test.YtkfnejiiancmhahAllI
import Derived.Test.YtkfnejiiancmhahSameI
namespace Go.Proofs.Ytkfnejiiancmhah.L11
open Go.RowKit L1 Own
set_option linter.unusedVariables false

set_option maxRecDepth 100000 in
set_option maxHeartbeats 4000000 in
theorem l11Clock_any (a : Option Addr) (l : List Int) (n cap : Nat) (w : World) (hn : l.length = n) (hs : Sl w a l) (hn2 : n ≤ 1048576) (b : Bool) (hb : b = true ↔ OkC l) :
    Calls Try.prog 43 #[.slice a n cap] w fun e w' => e = .returned (.bool b) ∧ w = w' := by
  by_cases h : 1 ≤ (n : Int) ∧ (n : Int) ≤ 5
  · have C1 := hide (fun w => l1In_any (n : Int) 1 5 w true (by simp; omega))
    have C2 := hide (l1All_any a l n cap 0 40 w hn hs hn2 b (hb.trans ⟨fun h j hj => h.2.2 j (by omega), fun h2 => ⟨by omega, by omega, fun j hj => h2 j (by omega)⟩⟩))
    clear hb hs hn h
    go_enter Try.func43, Try.ntmps43
    go_wp2_with fail
    refine (C1.out _).mono ?_
    rintro e w1 ⟨rfl, rfl⟩
    go_wp2_with fail
    refine C2.out.mono ?_
    rintro e w1 ⟨rfl, rfl⟩
    go_wp2
    go_ret
    exact ⟨rfl, rfl⟩
  · have C1 := hide (fun w => l1In_any (n : Int) 1 5 w false (by simp; omega))
    have E : Hid (b = false) := by
      cases b with
      | false => rfl
      | true => have h1 := (hb.1 rfl).1; have h2 := (hb.1 rfl).2.1; omega
    clear hb hs hn h
    go_enter Try.func43, Try.ntmps43
    go_wp2_with fail
    refine (C1.out _).mono ?_
    rintro e w1 ⟨rfl, rfl⟩
    go_wp2
    go_ret
    exact ⟨by rw [E.out]; rfl, rfl⟩
theorem bool_not {r sm : Bool} {p : Prop} (h : r = true ↔ ¬ p) (h2 : sm = true ↔ p) : r = !sm := by
  cases sm with
  | true => cases r with
    | true => exact absurd (h2.1 rfl) (h.1 rfl)
    | false => rfl
  | false => cases r with
    | true => rfl
    | false => exact absurd (h.2 (fun hp => by have := h2.2 hp; cases this)) (by intro e; cases e)
theorem lsC_iff {l m : List Int} {n : Nat} (hn : l.length = n) (hk : m.length = n) (h5 : n ≤ 5) : LsC l m ↔ (∀ j, j < n → l.getD j 0 ≤ m.getD j 0) ∧ ¬ l = m := by
  have hz : ∀ i, n ≤ i → fnL l i = fnL m i := fun i hi => by
    unfold fnL
    rw [List.getD, List.getD, List.getElem?_eq_none (by omega), List.getElem?_eq_none (by omega)]
  have h1 : (∀ i, i < 5 → fnL l i ≤ fnL m i) ↔ ∀ j, j < n → l.getD j 0 ≤ m.getD j 0 := by
    constructor
    · intro h j hj; exact h j (by omega)
    · intro h i _
      by_cases hi : i < n
      · exact h i hi
      · rw [hz i (by omega)]; exact Int.le_refl _
  have h2 : (∀ i, i < 5 → fnL l i = fnL m i) ↔ l = m := by
    constructor
    · intro h; exact list_same hk hn (fun j hj => h j (by omega))
    · intro h i _; rw [h]
  unfold LsC
  rw [h1, h2]
set_option maxRecDepth 100000 in
set_option maxHeartbeats 4000000 in
theorem specLess_any (a b : Option Addr) (l m : List Int) (n k ca cb : Nat) (w : World) (hn : l.length = n) (hk : m.length = k) (ha : Sl w a l) (hb : Sl w b m) (hn2 : n ≤ 1048576) (hk2 : k ≤ 1048576)
    (c r : Bool) (hc : c = true ↔ TwoC l m) (hr : r = true ↔ TwoC l m ∧ LsC l m) :
    Calls Try.prog 22 #[.slice a n ca, .slice b k cb] w fun e w' => e = .returned (.tuple #[.bool r, .bool c]) ∧ Below w.heap.size w w' := by
  have hc2 : c = true ↔ (OkC l ∧ OkC m) ∧ n = k := by rw [hc, ← hn, ← hk]; rfl
  have hrc : c = false → r = false := fun e => by
    subst e
    cases r with
    | false => rfl
    | true => exact absurd (hc.2 (hr.1 rfl).1) (by simp)
  by_cases hA : OkC l
  case neg =>
    have C1 := hide (l11Clock_any a l n ca w hn ha hn2 false (by simp [hA]))
    obtain rfl : c = false := by cases c with
      | false => rfl
      | true => exact absurd (hc2.1 rfl).1.1 hA
    obtain rfl := hrc rfl
    clear hA hc hr hc2 hrc ha hb hn hk
    go_enter Try.func22, Try.ntmps22
    go_wp2_with fail
    refine (C1.out).mono ?_
    rintro e w1 ⟨rfl, rfl⟩
    go_wp2
    go_ret2
    exact ⟨rfl, Below.refl _ _⟩
  have C1 := hide (l11Clock_any a l n ca w hn ha hn2 true (by simp [hA]))
  by_cases hB : OkC m
  case neg =>
    have C2 := hide (l11Clock_any b m k cb w hk hb hk2 false (by simp [hB]))
    obtain rfl : c = false := by cases c with
      | false => rfl
      | true => exact absurd (hc2.1 rfl).1.2 hB
    obtain rfl := hrc rfl
    clear hA hB hc hr hc2 hrc ha hb hn hk
    go_enter Try.func22, Try.ntmps22
    go_wp2_with fail
    refine (C1.out).mono ?_
    rintro e w1 ⟨rfl, rfl⟩
    go_wp2_with fail
    refine (C2.out).mono ?_
    rintro e w1 ⟨rfl, rfl⟩
    go_wp2
    go_ret2
    exact ⟨rfl, Below.refl _ _⟩
  have C2 := hide (l11Clock_any b m k cb w hk hb hk2 true (by simp [hB]))
  by_cases hnk : n = k
  case neg =>
    obtain rfl : c = false := by cases c with
      | false => rfl
      | true => exact absurd (hc2.1 rfl).2 hnk
    obtain rfl := hrc rfl
    have hnkI : ((n : Int) != (k : Int)) = true := by simp; omega
    clear hA hB hc hr hc2 hrc ha hb hn hk hnk
    go_enter Try.func22, Try.ntmps22
    go_wp2_with fail
    refine (C1.out).mono ?_
    rintro e w1 ⟨rfl, rfl⟩
    go_wp2_with fail
    refine (C2.out).mono ?_
    rintro e w1 ⟨rfl, rfl⟩
    go_wp2
    go_ret2
    exact ⟨rfl, Below.refl _ _⟩
  obtain rfl : c = true := hc2.2 ⟨⟨hA, hB⟩, hnk⟩
  subst hnk
  have hr2 : r = true ↔ (∀ j, j < n → l.getD j 0 ≤ m.getD j 0) ∧ ¬ l = m := by
    rw [hr]
    refine Iff.trans ⟨fun h => h.2, fun h => ⟨hc.1 rfl, h⟩⟩ (lsC_iff hn hk (by have := hA.2.1; omega))
  have hnn : ((n : Int) != (n : Int)) = false := by simp
  obtain ⟨sm, hsm⟩ : ∃ sm : Bool, sm = true ↔ l = m := ⟨decide (l = m), by simp⟩
  have CS := hide (fun w ha hb => l1Same_any a b l m n n ca cb w hn hk ha hb (by omega) (by omega) sm hsm)
  have HSM := hide hsm
  have HR := hide hr2
  have HA := hide ha
  have HB := hide hb
  have HN := hide hn
  have HK := hide hk
  clear hA hB hc hr hc2 hrc ha hb hn hk hr2 hsm
  go_enter Try.func22, Try.ntmps22
  go_wp2_with fail
  refine (C1.out).mono ?_
  rintro e w1 ⟨rfl, rfl⟩
  go_wp2_with fail
  refine (C2.out).mono ?_
  rintro e w1 ⟨rfl, rfl⟩
  go_wp2
  go_loopw [24] (fun i wr => ∃ j : Nat, j ≤ n ∧ i = .int .i64 j ∧ Hid (∀ q, q < j → l.getD q 0 ≤ m.getD q 0) ∧ Below w.heap.size w wr) (fun i _ => n - (intOf i).toNat)
  case atStart => exact ⟨0, Nat.zero_le _, rfl, fun j hj => absurd hj (Nat.not_lt_zero _), Below.refl _ _⟩
  case round =>
    obtain ⟨j, hj, rfl, HJ, hbel⟩ := hrel
    by_cases hlt : j < n
    · obtain ⟨b1, o1, rfl, h1⟩ := HA.out j (by rw [HN.out]; exact hlt)
      obtain ⟨b2, o2, rfl, h2⟩ := HB.out j (by rw [HK.out]; exact hlt)
      have g1 := (hbel.cell (p := ⟨b1, o1 + j, none⟩) (blk_lt h1)).trans h1
      have g2 := (hbel.cell (p := ⟨b2, o2 + j, none⟩) (blk_lt h2)).trans h2
      obtain ⟨x, hx⟩ : ∃ x, x = l.getD j 0 := ⟨_, rfl⟩
      obtain ⟨y, hy⟩ : ∃ y, y = m.getD j 0 := ⟨_, rfl⟩
      rw [← hx] at g1
      rw [← hy] at g2
      have hltI : (j : Int) < (n : Int) := by omega
      have hj0 : (0 : Int) ≤ (j : Int) := by omega
      have HX := hide hx
      have HY := hide hy
      clear h1 h2 hx hy
      by_cases hxy : y < x
      · have E : Hid (r = false) := by
          cases r with
          | false => rfl
          | true => have := (HR.out.1 rfl).1 j hlt; rw [← HX.out, ← HY.out] at this; omega
        go_wp2
        go_quiet (fail)
        go_wp2
        go_ret2
        exact ⟨by rw [E.out]; rfl, below_drewM hbel _⟩
      · have HJ2 : Hid (∀ q, q < j + 1 → l.getD q 0 ≤ m.getD q 0) := fun q hq => by
          by_cases e : q = j
          · subst e; rw [← HX.out, ← HY.out]; omega
          · exact HJ.out q (by omega)
        go_wp2
        go_quiet (fail)
        go_wp2
        go_roundw
        case rel => exact ⟨j + 1, by omega, by go_num, HJ2.out, below_drewM hbel _⟩
        case measure => simp [intOf]; omega
    · have hltI : ¬ (j : Int) < (n : Int) := by omega
      have E : Hid (r = !sm) := by
        have h3 : r = true ↔ ¬ l = m := HR.out.trans ⟨fun h => h.2, fun h => ⟨fun q hq => HJ.out q (by omega), h⟩⟩
        exact bool_not h3 HSM.out
      have HA2 := hide (HA.out.below hbel)
      have HB2 := hide (HB.out.below hbel)
      have B0 := hide hbel
      clear hbel
      go_wp2_with fail
      refine (CS.out _ HA2.out HB2.out).mono ?_
      rintro e w1 ⟨rfl, hb1⟩
      have B1 := hide (B0.out.trans (hb1.mono B0.out.size))
      clear hb1
      go_wp2
      go_ret2
      exact ⟨by rw [E.out]; rfl, B1.out⟩
end Go.Proofs.Ytkfnejiiancmhah.L11
