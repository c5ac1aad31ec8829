/-
  Contracts: impl.majority, spec.l8Majority: half, down, and one, of few nodes.
-/
import Derived.Test.YtapffbbmofhpobdL4Base
namespace Go.Proofs.Ytapffbbmofhpobd.L8
open Go.RowKit L1 L4
set_option linter.unusedVariables false

/-- Of so many nodes, so many are a majority. -/
def MajP (N m : Int) : Prop := (N = 1 ∧ m = 1) ∨ (N = 2 ∧ m = 2) ∨ (N = 3 ∧ m = 2) ∨ (N = 4 ∧ m = 3) ∨ (N = 5 ∧ m = 3)
theorem majP_ex {N : Int} (h1 : 1 ≤ N) (h2 : N ≤ 5) : ∃ m, MajP N m := by
  rcases (show N = 1 ∨ N = 2 ∨ N = 3 ∨ N = 4 ∨ N = 5 by omega) with rfl | rfl | rfl | rfl | rfl
  · exact ⟨1, .inl ⟨rfl, rfl⟩⟩
  · exact ⟨2, .inr (.inl ⟨rfl, rfl⟩)⟩
  · exact ⟨2, .inr (.inr (.inl ⟨rfl, rfl⟩))⟩
  · exact ⟨3, .inr (.inr (.inr (.inl ⟨rfl, rfl⟩)))⟩
  · exact ⟨3, .inr (.inr (.inr (.inr ⟨rfl, rfl⟩)))⟩
theorem MajP.lo {N m : Int} (h : MajP N m) : 1 ≤ N ∧ N ≤ 5 ∧ 1 ≤ m ∧ m ≤ 3 ∧ N < 2 * m := by unfold MajP at h; omega

set_option maxRecDepth 100000 in
set_option maxHeartbeats 400000 in
theorem majority_any (N m : Int) (w : World) (h : MajP N m) :
    Calls Try.prog 50 #[.int .i64 N] w fun e w' => e = .returned (.int .i64 m) ∧ w = w' := by
  rcases h with ⟨rfl, rfl⟩ | ⟨rfl, rfl⟩ | ⟨rfl, rfl⟩ | ⟨rfl, rfl⟩ | ⟨rfl, rfl⟩ <;>
  · go_enter Try.func50, Try.ntmps50
    go_wp2
    go_ret
    exact ⟨rfl, rfl⟩

set_option maxRecDepth 100000 in
set_option maxHeartbeats 400000 in
theorem l8Majority_any (N m : Int) (w : World) (h : MajP N m) :
    Calls Try.prog 23 #[.int .i64 N] w fun e w' => e = .returned (.int .i64 m) ∧ w = w' := by
  rcases h with ⟨rfl, rfl⟩ | ⟨rfl, rfl⟩ | ⟨rfl, rfl⟩ | ⟨rfl, rfl⟩ | ⟨rfl, rfl⟩ <;>
  · go_enter Try.func23, Try.ntmps23
    go_wp2
    go_ret
    exact ⟨rfl, rfl⟩
end Go.Proofs.Ytapffbbmofhpobd.L8
