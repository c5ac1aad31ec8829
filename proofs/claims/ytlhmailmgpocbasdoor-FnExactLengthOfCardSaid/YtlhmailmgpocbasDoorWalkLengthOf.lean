/-
  The walk of the law FnExactLengthOf: it returns true at every int, where the table of worths lies in memory; memory that was there stays as it was.
-/
import Derived.Test.YtlhmailmgpocbasDoorL1PutVarint
import Derived.Test.YtlhmailmgpocbasDoorL1Varint
namespace Go.Proofs.YtlhmailmgpocbasDoor.fnExactLengthOf
open Go.RowKit L1
set_option linter.unusedVariables false

set_option maxHeartbeats 400000 in
theorem len_yes (n : Int) (w : World) (h1 : -1000000000000 ≤ n) (h2 : n ≤ 1000000000000) (ht : Tab w) :
    Calls Tryd.prog 19 #[.int .i64 n] w fun e w' => e = .returned (.tuple #[.int .i64 ((vd (zig n)).length : Nat), .bool true]) ∧ w = w' := by
  have zc := fun w => zigZag_yes n w h1 h2
  have dc := digitsOf_any (zig n) w (zig_lo n) (zig_hi n h1 h2) ht
  have ZC := hide zc
  have DC := hide dc
  clear zc dc ht h1 h2
  go_enter Tryd.func19, Tryd.ntmps19
  go_wp2_with (first | (go_at_call 32; refine (unhide ZC _).mono ?_; rintro e w' ⟨rfl, rfl⟩) | (go_at_call 33; refine (unhide DC).mono ?_; rintro e w' ⟨rfl, rfl⟩))
  go_ret2
  exact ⟨rfl, rfl⟩
set_option maxHeartbeats 400000 in
theorem len_no (n : Int) (w : World) (h : ¬ (-1000000000000 ≤ n ∧ n ≤ 1000000000000)) :
    Calls Tryd.prog 19 #[.int .i64 n] w fun e w' => e = .returned (.tuple #[.int .i64 0, .bool false]) ∧ w = w' := by
  have zc := fun w => zigZag_no n w h
  have ZC := hide zc
  clear zc h
  go_enter Tryd.func19, Tryd.ntmps19
  go_wp2_with (go_at_call 32; refine (unhide ZC _).mono ?_; rintro e w' ⟨rfl, rfl⟩)
  go_ret2
  exact ⟨rfl, rfl⟩
set_option maxHeartbeats 400000 in
theorem specLen_yes (n : Int) (w : World) (h1 : -1000000000000 ≤ n) (h2 : n ≤ 1000000000000) :
    Calls Tryd.prog 18 #[.int .i64 n] w fun e w' => e = .returned (.tuple #[.int .i64 ((vd (zig n)).length : Nat), .bool true]) ∧ Below w.heap.size w w' := by
  have hsz := strOfNums_size (vd (zig n))
  go_enter Tryd.func18, Tryd.ntmps18
  go_wp2_with (first | (go_at_call 31; refine (l1Varint_any _ _ h1 h2).mono ?_; rintro e w1 ⟨rfl, hb⟩) | go_in)
  go_ret2
  exact ⟨rfl, by assumption⟩
set_option maxHeartbeats 400000 in
theorem specLen_no (n : Int) (w : World) (h : ¬ (-1000000000000 ≤ n ∧ n ≤ 1000000000000)) :
    Calls Tryd.prog 18 #[.int .i64 n] w fun e w' => e = .returned (.tuple #[.int .i64 0, .bool false]) ∧ w = w' := by
  by_cases h1 : -1000000000000 ≤ n
  · have h2 : ¬ n ≤ 1000000000000 := fun h2 => h ⟨h1, h2⟩
    clear h
    go_enter Tryd.func18, Tryd.ntmps18
    go_wp2
    go_ret2
    exact ⟨rfl, rfl⟩
  · clear h
    go_enter Tryd.func18, Tryd.ntmps18
    go_wp2
    go_ret2
    exact ⟨rfl, rfl⟩

set_option maxHeartbeats 400000 in
theorem walk (a0 : Int) (w : World) (w0 : (Lit.int .i64 a0).wf = true) (ht : Tab w) :
    Calls Tryd.prog 6 #[.int .i64 a0] w fun e w' => e = .returned (.bool true) ∧ Below w.heap.size w w' := by
  have HT := hide ht
  clear ht w0
  by_cases h : -1000000000000 ≤ a0 ∧ a0 ≤ 1000000000000
  · obtain ⟨h1, h2⟩ := h
    go_enter Tryd.func6, Tryd.ntmps6
    go_wp2_with fail
    refine (specLen_yes _ _ h1 h2).mono ?_
    rintro e w1 ⟨rfl, hb1⟩
    go_wp2_with fail
    refine (len_yes _ _ h1 h2 (HT.out.below hb1)).mono ?_
    rintro e w2 ⟨rfl, rfl⟩
    go_wp2
    go_ret
    exact ⟨rfl, hb1⟩
  · go_enter Tryd.func6, Tryd.ntmps6
    go_wp2_with fail
    refine (specLen_no _ _ h).mono ?_
    rintro e w1 ⟨rfl, rfl⟩
    go_wp2_with fail
    refine (len_no _ _ h).mono ?_
    rintro e w2 ⟨rfl, rfl⟩
    go_wp2
    go_ret
    exact ⟨rfl, Below.refl _ _⟩
end Go.Proofs.YtlhmailmgpocbasDoor.fnExactLengthOf
