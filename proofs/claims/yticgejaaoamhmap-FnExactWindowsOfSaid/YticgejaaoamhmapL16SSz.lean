/-
  Contracts: spec.l16Size.
-/
import Derived.Test.YticgejaaoamhmapL16Ctr
namespace Go.Proofs.Yticgejaaoamhmap.L16
open Go.RowKit L1
set_option linter.unusedVariables false

set_option maxRecDepth 100000 in
set_option maxHeartbeats 400000 in
theorem l16Size_any (x : Int) (w : World) (bb : Bool) (hbb : bb = true ↔ 1 ≤ x ∧ x ≤ 1000000) :
    Calls Try.prog 34 #[.int .i64 x] w fun e w' => e = .returned (.bool bb) ∧ w' = w := by
  by_cases h : 1 ≤ x ∧ x ≤ 1000000
  · obtain rfl : bb = true := hbb.2 h
    have CI := hide (fun w => l1In_yes x 1 1000000 w h.1 h.2)
    clear hbb h
    go_enter Try.func34, Try.ntmps34
    go_wp2_with fail
    refine (CI.out _).mono ?_
    rintro e w1 ⟨rfl, rfl⟩
    go_wp2
    go_ret
    exact ⟨rfl, rfl⟩
  · obtain rfl : bb = false := bool_no hbb h
    have CI := hide (fun w => l1In_no x 1 1000000 w h)
    clear hbb h
    go_enter Try.func34, Try.ntmps34
    go_wp2_with fail
    refine (CI.out _).mono ?_
    rintro e w1 ⟨rfl, rfl⟩
    go_wp2
    go_ret
    exact ⟨rfl, rfl⟩
end Go.Proofs.Yticgejaaoamhmap.L16
