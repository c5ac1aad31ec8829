/-
  The walk of the law FnExactGammaBits: it returns true at every int, where the library's table of shifts lies in memory; memory that was there stays as it was.
-/
import Derived.Test.YtlhmailmgpocbasDoorL1Gamma
namespace Go.Proofs.YtlhmailmgpocbasDoor.fnExactGammaBits
open Go.RowKit L1
set_option linter.unusedVariables false

set_option maxHeartbeats 400000 in
theorem walk (a0 : Int) (w : World) (w0 : (Lit.int .i64 a0).wf = true) (ht : Tab64 w) :
    Calls Tryd.prog 7 #[.int .i64 a0] w fun e w' => e = .returned (.bool true) ∧ Below w.heap.size w w' := by
  have HT := hide ht
  clear ht w0
  by_cases h : 1 ≤ a0 ∧ a0 ≤ 1000000
  · obtain ⟨h1, h2⟩ := h
    go_enter Tryd.func7, Tryd.ntmps7
    go_wp2_with fail
    refine (specBits_yes _ _ h1 h2).mono ?_
    rintro e w1 ⟨rfl, hb1⟩
    go_wp2_with fail
    refine (bits_yes _ _ h1 h2 (HT.out.below hb1)).mono ?_
    rintro e w2 ⟨rfl, hb2⟩
    go_wp2
    go_ret
    exact ⟨rfl, hb1.trans (hb2.mono hb1.size)⟩
  · go_enter Tryd.func7, Tryd.ntmps7
    go_wp2_with fail
    refine (specBits_no _ _ h).mono ?_
    rintro e w1 ⟨rfl, rfl⟩
    go_wp2_with fail
    refine (bits_no _ _ h).mono ?_
    rintro e w2 ⟨rfl, rfl⟩
    go_wp2
    go_ret
    exact ⟨rfl, Below.refl _ _⟩
end Go.Proofs.YtlhmailmgpocbasDoor.fnExactGammaBits
