/-
  The walk of the law FnExactReadGamma: it returns true at every text; memory that was there stays as it was.
-/
import Derived.Test.YtlhmailmgpocbasL1SpecGamma
namespace Go.Proofs.Ytlhmailmgpocbas.fnExactReadGamma
open Go.RowKit L1
set_option linter.unusedVariables false

set_option maxHeartbeats 400000 in
theorem walk (a0 : ByteArray) (w : World) (w0 : a0.size ≤ maxLen) :
    Calls Try.prog 3 #[.string a0] w fun e w' => e = .returned (.bool true) ∧ Below w.heap.size w w' := by
  unfold maxLen at w0
  by_cases hsz : 1048576 < (a0.size : Int)
  · go_enter Try.func3, Try.ntmps3
    go_wp2
    go_ret
    exact ⟨rfl, Below.refl _ _⟩
  · have hs : a0.size ≤ 1048576 := by omega
    have c1 := specGamma_any a0 w hs
    have c2 := fun w => readGamma_any a0 w hs
    obtain ⟨x, y, z, hx⟩ : ∃ x y z, rgRes (rg (bts a0 0)) = .tuple #[.int .i64 x, .int .i64 y, .bool z] := by
      cases rg (bts a0 0) with
      | none => exact ⟨_, _, _, rfl⟩
      | some l => exact ⟨_, _, _, rfl⟩
    rw [hx] at c1
    simp only [hx] at c2
    have C1 := hide c1
    have C2 := hide c2
    clear c1 c2 hx
    go_enter Try.func3, Try.ntmps3
    go_wp2_with fail
    refine (unhide C1).mono ?_
    rintro e w1 ⟨rfl, hb1⟩
    go_wp2_with fail
    refine (unhide C2 _).mono ?_
    rintro e w2 ⟨rfl, rfl⟩
    go_wp2
    go_ret
    exact ⟨rfl, hb1⟩
end Go.Proofs.Ytlhmailmgpocbas.fnExactReadGamma
