/-
  The walk of the law FnExactHashText: it returns true at every text; memory that was there stays as it was.
-/
import Derived.Test.YtkjljkfjcngkcavL3Hash
namespace Go.Proofs.Ytkjljkfjcngkcav.fnExactHashText
open Go.RowKit L1 L3
set_option linter.unusedVariables false

set_option maxRecDepth 100000 in
set_option maxHeartbeats 400000 in
theorem walk (a0 : ByteArray) (w : World) (w0 : a0.size ≤ maxLen) :
    Calls Try.prog 3 #[.string a0] w fun e w' => e = .returned (.bool true) ∧ Below w.heap.size w w' := by
  unfold maxLen at w0
  by_cases hsz : 1048576 < (a0.size : Int)
  · go_enter Try.func3, Try.ntmps3
    go_wp2
    go_ret
    exact ⟨rfl, Below.refl _ _⟩
  · by_cases h6 : 600 < (a0.size : Int)
    · have C1 := hide (specHash_out a0 w h6)
      have C2 := hide (hashText_out a0 w h6)
      go_enter Try.func3, Try.ntmps3
      go_wp2_with fail
      refine C1.out.mono ?_
      rintro e w1 ⟨rfl, rfl⟩
      go_wp2_with fail
      refine C2.out.mono ?_
      rintro e w1 ⟨rfl, rfl⟩
      go_wp2
      go_ret
      exact ⟨rfl, Below.refl _ _⟩
    · have C1 := specHash_in a0 w (by omega)
      have C2 := hashText_in a0 w (by omega)
      obtain ⟨h, hh⟩ : ∃ h, h = hsh (bts a0 0) a0.size := ⟨_, rfl⟩
      rw [← hh] at C1 C2
      have D1 := hide C1
      have D2 := hide C2
      clear C1 C2 hh
      go_enter Try.func3, Try.ntmps3
      go_wp2_with fail
      refine D1.out.mono ?_
      rintro e w1 ⟨rfl, rfl⟩
      go_wp2_with fail
      refine D2.out.mono ?_
      rintro e w1 ⟨rfl, rfl⟩
      go_wp2
      go_ret
      exact ⟨rfl, Below.refl _ _⟩
end Go.Proofs.Ytkjljkfjcngkcav.fnExactHashText
