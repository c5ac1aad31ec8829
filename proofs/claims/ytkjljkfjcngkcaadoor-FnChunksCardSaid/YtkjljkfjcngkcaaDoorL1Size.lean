/-
  Contract: impl.LengthOf: how many digits to 128 a number's ZigZag has, and true; outside -1000000000000..1000000000000 0 and false.
-/
import Derived.Test.YtkjljkfjcngkcaaDoorL1PutVarint
namespace Go.Proofs.YtkjljkfjcngkcaaDoor.L1
open Go.RowKit
set_option linter.unusedVariables false

set_option maxRecDepth 100000 in
set_option maxHeartbeats 400000 in
theorem len_yes (n : Int) (w : World) (h1 : -1000000000000 ≤ n) (h2 : n ≤ 1000000000000) (ht : Tab w) :
    Calls Tryd.prog 13 #[.int .i64 n] w fun e w' => e = .returned (.tuple #[.int .i64 ((vd (zig n)).length : Nat), .bool true]) ∧ w = w' := by
  have zc := fun w => zigZag_yes n w h1 h2
  have dc := digitsOf_any (zig n) w (zig_lo n) (zig_hi n h1 h2) ht
  have ZC := hide zc
  have DC := hide dc
  clear zc dc ht h1 h2
  go_enter Tryd.func13, Tryd.ntmps13
  go_wp2_with (first | (go_at_call 11; refine (unhide ZC _).mono ?_; rintro e w' ⟨rfl, rfl⟩) | (go_at_call 74; refine (unhide DC).mono ?_; rintro e w' ⟨rfl, rfl⟩))
  go_ret2
  exact ⟨rfl, rfl⟩
set_option maxRecDepth 100000 in
set_option maxHeartbeats 400000 in
theorem len_no (n : Int) (w : World) (h : ¬ (-1000000000000 ≤ n ∧ n ≤ 1000000000000)) :
    Calls Tryd.prog 13 #[.int .i64 n] w fun e w' => e = .returned (.tuple #[.int .i64 0, .bool false]) ∧ w = w' := by
  have zc := fun w => zigZag_no n w h
  have ZC := hide zc
  clear zc h
  go_enter Tryd.func13, Tryd.ntmps13
  go_wp2_with (go_at_call 11; refine (unhide ZC _).mono ?_; rintro e w' ⟨rfl, rfl⟩)
  go_ret2
  exact ⟨rfl, rfl⟩
end Go.Proofs.YtkjljkfjcngkcaaDoor.L1
