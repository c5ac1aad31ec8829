/-
  The walk of the law FnExactWayAt: it returns true at any three numbers; memory that was there stays as it was.
-/
import Derived.Test.YtfjbiihiaoobhajL12Way
import Derived.Test.YtfjbiihiaoobhajL12SWay
namespace Go.Proofs.Ytfjbiihiaoobhaj.fnExactWayAt
open Go.RowKit L1 Own L12
set_option linter.unusedVariables false

theorem way_ex (N f t : Int) : ∃ r ok, WayIs N f t r ok := by
  by_cases h : IsWay N f t
  · exact ⟨_, true, fun _ => ⟨rfl, rfl⟩, fun h' => absurd h h'⟩
  · exact ⟨0, false, fun h' => absurd h' h, fun _ => ⟨rfl, rfl⟩⟩
set_option maxRecDepth 100000 in
set_option maxHeartbeats 2000000 in
theorem walk (N f t : Int) (w : World) (w0 : (Lit.int .i64 N).wf = true) (w1 : (Lit.int .i64 f).wf = true) (w2 : (Lit.int .i64 t).wf = true) :
    Calls Try.prog 6 #[.int .i64 N, .int .i64 f, .int .i64 t] w fun e w' => e = .returned (.bool true) ∧ Below w.heap.size w w' := by
  obtain ⟨r, ok, hr⟩ := way_ex N f t
  have h1 : (r != r) = false := by simp
  have h2 : (ok != ok) = false := by simp
  have HR := hide hr
  clear hr w0 w1 w2
  go_enter Try.func6, Try.ntmps6
  go_wp2_with fail
  refine (sWayAt_any N f t _ r ok HR.out).mono ?_
  rintro e w1 ⟨rfl, rfl⟩
  go_wp2_with fail
  refine (wayAt_any N f t _ r ok HR.out).mono ?_
  rintro e w1 ⟨rfl, rfl⟩
  go_wp2
  go_ret
  exact ⟨rfl, Below.refl _ _⟩
end Go.Proofs.Ytfjbiihiaoobhaj.fnExactWayAt
