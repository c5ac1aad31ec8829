/-
  Contract: impl.isLetterOrDigit.
-/
import Derived.Test.YtohcjafklfemfamL3Lab
import Derived.Test.YtohcjafklfemfamL3Word1
namespace Go.Proofs.Ytohcjafklfemfam.L3
open Go.RowKit L1
set_option linter.unusedVariables false

set_option maxRecDepth 100000 in
set_option maxHeartbeats 400000 in
theorem isLetterOrDigit_any (r : Int) (w : World) (bb : Bool) (hb : bb = true ↔ okB true r) :
    Calls Try.prog 100 #[.int .i32 r] w fun e w' => e = .returned (.bool bb) ∧ w = w' := by
  by_cases hl : okB false r
  · obtain rfl : bb = true := hb.2 (by unfold okB at *; simp at hl; exact .inl hl)
    have C := hide (isLetter_any r w true (by simp [hl]))
    clear hb hl
    go_enter Try.func100, Try.ntmps100
    go_wp2_with fail
    refine C.out.mono ?_
    rintro e w1 ⟨rfl, rfl⟩
    go_wp2
    go_ret
    exact ⟨rfl, rfl⟩
  · have C := hide (isLetter_any r w false (by simp [hl]))
    by_cases h1 : 48 ≤ r
    · by_cases h2 : r ≤ 57
      · obtain rfl : bb = true := hb.2 (.inr ⟨rfl, h1, h2⟩)
        clear hb hl
        go_enter Try.func100, Try.ntmps100
        go_wp2_with fail
        refine C.out.mono ?_
        rintro e w1 ⟨rfl, rfl⟩
        go_wp2
        go_ret
        exact ⟨rfl, rfl⟩
      · obtain rfl : bb = false := bool_noT hb (by unfold okB at *; simp at *; omega)
        clear hb hl
        go_enter Try.func100, Try.ntmps100
        go_wp2_with fail
        refine C.out.mono ?_
        rintro e w1 ⟨rfl, rfl⟩
        go_wp2
        go_ret
        exact ⟨by first | rfl | simp [h2], rfl⟩
    · obtain rfl : bb = false := bool_noT hb (by unfold okB at *; simp at *; omega)
      clear hb hl
      go_enter Try.func100, Try.ntmps100
      go_wp2_with fail
      refine C.out.mono ?_
      rintro e w1 ⟨rfl, rfl⟩
      go_wp2
      go_ret
      exact ⟨by first | rfl | simp [h1], rfl⟩

end Go.Proofs.Ytohcjafklfemfam.L3
