/-
  Contract: impl.hasEmpty: whether the empty text fits a shape.
-/
import Derived.Test.YtkdiffpbljohkayL5Shape
namespace Go.Proofs.Ytkdiffpbljohkay.L5
open Go.RowKit L1 L4
set_option linter.unusedVariables false
attribute [local go_sem] mk_noText mk_emptyText mk_oneLetter mk_anyLetter mk_thenShape mk_eitherShape mk_manyShape mk_notShape as_noText_noText as_noText_emptyText as_noText_oneLetter as_noText_anyLetter as_noText_thenShape as_noText_eitherShape as_noText_manyShape as_noText_notShape as_emptyText_noText as_emptyText_emptyText as_emptyText_oneLetter as_emptyText_anyLetter as_emptyText_thenShape as_emptyText_eitherShape as_emptyText_manyShape as_emptyText_notShape as_oneLetter_noText as_oneLetter_emptyText as_oneLetter_oneLetter as_oneLetter_anyLetter as_oneLetter_thenShape as_oneLetter_eitherShape as_oneLetter_manyShape as_oneLetter_notShape as_anyLetter_noText as_anyLetter_emptyText as_anyLetter_oneLetter as_anyLetter_anyLetter as_anyLetter_thenShape as_anyLetter_eitherShape as_anyLetter_manyShape as_anyLetter_notShape as_thenShape_noText as_thenShape_emptyText as_thenShape_oneLetter as_thenShape_anyLetter as_thenShape_thenShape as_thenShape_eitherShape as_thenShape_manyShape as_thenShape_notShape as_eitherShape_noText as_eitherShape_emptyText as_eitherShape_oneLetter as_eitherShape_anyLetter as_eitherShape_thenShape as_eitherShape_eitherShape as_eitherShape_manyShape as_eitherShape_notShape as_manyShape_noText as_manyShape_emptyText as_manyShape_oneLetter as_manyShape_anyLetter as_manyShape_thenShape as_manyShape_eitherShape as_manyShape_manyShape as_manyShape_notShape as_notShape_noText as_notShape_emptyText as_notShape_oneLetter as_notShape_anyLetter as_notShape_thenShape as_notShape_eitherShape as_notShape_manyShape as_notShape_notShape
theorem ret_boolE {bb c : Bool} (h : c = bb) : Ending.returned (.bool c) = .returned (.bool bb) := by rw [h]
set_option maxRecDepth 100000 in
set_option maxHeartbeats 4000000 in
theorem hasEmpty_any : ∀ (x : Sh) (w : World), Calls Try.prog 64 #[sv x] w fun e w' => e = .returned (.bool (nul x)) ∧ Below w.heap.size w w'
  | .none, w => by
    show Calls Try.prog 64 #[.iface 105 (.agg #[])] w _
    go_enter Try.func64, Try.ntmps64
    go_wp2
    go_ret
    exact ⟨rfl, Below.refl _ _⟩
  | .empty, w => by
    show Calls Try.prog 64 #[.iface 101 (.agg #[])] w _
    go_enter Try.func64, Try.ntmps64
    go_wp2
    go_ret
    exact ⟨rfl, Below.refl _ _⟩
  | .letter c, w => by
    show Calls Try.prog 64 #[.iface 91 (.agg #[.int .u8 c])] w _
    go_enter Try.func64, Try.ntmps64
    go_wp2
    go_ret
    exact ⟨rfl, Below.refl _ _⟩
  | .any, w => by
    show Calls Try.prog 64 #[.iface 102 (.agg #[])] w _
    go_enter Try.func64, Try.ntmps64
    go_wp2
    go_ret
    exact ⟨rfl, Below.refl _ _⟩
  | .seq a b, w => by
    have IA := hide (hasEmpty_any a)
    have IB := hide (hasEmpty_any b)
    show Calls Try.prog 64 #[.iface 93 (.agg #[sv a, sv b])] w _
    have HB0 := hide ((Below.refl w.heap.size w).alloc (Nat.le_refl _) (.cells #[sv a, sv b] 93))
    have HC : Hid ((w.alloc (.cells #[sv a, sv b] 93)).cell? ⟨w.heap.size, 1, none⟩ = some (sv b)) := by refine hide ?_; simp
    have HL : Hid (w.heap.size < (w.alloc (.cells #[sv a, sv b] 93)).heap.size) := by refine hide ?_; simp
    cases ha : nul a with
    | true =>
      have HA := hide ha
      clear ha
      go_enter Try.func64, Try.ntmps64
      go_wp2_with fail
      refine (IA.out _).mono ?_
      rintro e w1 ⟨rfl, hb1⟩
      rw [HA.out]
      have hc := (hb1.cell (p := ⟨w.heap.size, 1, none⟩) HL.out).trans HC.out
      have B1 := hide (HB0.out.trans (hb1.mono HB0.out.size))
      clear hb1
      go_wp2_with fail
      refine (IB.out _).mono ?_
      rintro e w2 ⟨rfl, hb2⟩
      have B2 := hide (B1.out.trans (hb2.mono B1.out.size))
      clear hb2
      go_wp2
      go_ret
      exact ⟨ret_boolE (by simp [nul, HA.out]), B2.out⟩
    | false =>
      have HA := hide ha
      clear ha
      go_enter Try.func64, Try.ntmps64
      go_wp2_with fail
      refine (IA.out _).mono ?_
      rintro e w1 ⟨rfl, hb1⟩
      rw [HA.out]
      have B1 := hide (HB0.out.trans (hb1.mono HB0.out.size))
      clear hb1
      go_wp2
      go_ret
      exact ⟨ret_boolE (by simp [nul, HA.out]), B1.out⟩
  | .alt a b, w => by
    have IA := hide (hasEmpty_any a)
    have IB := hide (hasEmpty_any b)
    show Calls Try.prog 64 #[.iface 96 (.agg #[sv a, sv b])] w _
    have HB0 := hide ((Below.refl w.heap.size w).alloc (Nat.le_refl _) (.cells #[sv a, sv b] 96))
    have HC : Hid ((w.alloc (.cells #[sv a, sv b] 96)).cell? ⟨w.heap.size, 1, none⟩ = some (sv b)) := by refine hide ?_; simp
    have HL : Hid (w.heap.size < (w.alloc (.cells #[sv a, sv b] 96)).heap.size) := by refine hide ?_; simp
    cases ha : nul a with
    | false =>
      have HA := hide ha
      clear ha
      go_enter Try.func64, Try.ntmps64
      go_wp2_with fail
      refine (IA.out _).mono ?_
      rintro e w1 ⟨rfl, hb1⟩
      rw [HA.out]
      have hc := (hb1.cell (p := ⟨w.heap.size, 1, none⟩) HL.out).trans HC.out
      have B1 := hide (HB0.out.trans (hb1.mono HB0.out.size))
      clear hb1
      go_wp2_with fail
      refine (IB.out _).mono ?_
      rintro e w2 ⟨rfl, hb2⟩
      have B2 := hide (B1.out.trans (hb2.mono B1.out.size))
      clear hb2
      go_wp2
      go_ret
      exact ⟨ret_boolE (by simp [nul, HA.out]), B2.out⟩
    | true =>
      have HA := hide ha
      clear ha
      go_enter Try.func64, Try.ntmps64
      go_wp2_with fail
      refine (IA.out _).mono ?_
      rintro e w1 ⟨rfl, hb1⟩
      rw [HA.out]
      have B1 := hide (HB0.out.trans (hb1.mono HB0.out.size))
      clear hb1
      go_wp2
      go_ret
      exact ⟨ret_boolE (by simp [nul, HA.out]), B1.out⟩
  | .many a, w => by
    show Calls Try.prog 64 #[.iface 98 (.agg #[sv a])] w _
    go_enter Try.func64, Try.ntmps64
    go_wp2
    go_ret
    exact ⟨rfl, Below.refl _ _⟩
  | .inv a, w => by
    have IA := hide (hasEmpty_any a)
    show Calls Try.prog 64 #[.iface 99 (.agg #[sv a])] w _
    have HB0 := hide ((Below.refl w.heap.size w).alloc (Nat.le_refl _) (.cells #[sv a] 99))
    go_enter Try.func64, Try.ntmps64
    go_wp2_with fail
    refine (IA.out _).mono ?_
    rintro e w1 ⟨rfl, hb1⟩
    have B1 := hide (HB0.out.trans (hb1.mono HB0.out.size))
    clear hb1
    go_wp2
    go_ret
    exact ⟨rfl, B1.out⟩
end Go.Proofs.Ytkdiffpbljohkay.L5
