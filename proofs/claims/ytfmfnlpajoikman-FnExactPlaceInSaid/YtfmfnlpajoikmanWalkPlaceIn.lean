/-
  The walk of the law FnExactPlaceIn: it returns true at every row and name; memory that was there stays as it was.
-/
import Derived.Test.YtfmfnlpajoikmanL15PlaceIn
namespace Go.Proofs.Ytfmfnlpajoikman.fnExactPlaceIn
open Go.RowKit L1 L15
set_option linter.unusedVariables false

open Classical in
set_option maxRecDepth 100000 in
set_option maxHeartbeats 400000 in
theorem walk (a0 : Int) (a1 : ByteArray) (w : World) (w0 : (Lit.int .i64 a0).wf = true) (w1 : a1.size ≤ maxLen) :
    Calls Try.prog 6 #[.int .i64 a0, .string a1] w fun e w' => e = .returned (.bool true) ∧ Below w.heap.size w w' := by
  unfold maxLen at w1
  clear w0
  by_cases hsz : 1048576 < (a1.size : Int)
  · go_enter Try.func6, Try.ntmps6
    go_wp2
    go_ret
    exact ⟨rfl, Below.refl _ _⟩
  · obtain ⟨ok, hok⟩ : ∃ ok : Bool, ok = true ↔ (0 ≤ a0 ∧ a0 ≤ 2) ∧ L3.Word false a1 := ⟨decide ((0 ≤ a0 ∧ a0 ≤ 2) ∧ L3.Word false a1), by simp⟩
    obtain ⟨p, hp⟩ : ∃ p : Int, p = if ok then plc a0 a1 else 0 := ⟨_, rfl⟩
    have C1 := hide (fun wx => specPlaceIn_any a0 a1 wx (by omega) p ok hok hp)
    have C2 := hide (fun wx => implPlaceIn_any a0 a1 wx (by omega) p ok hok hp)
    have hoo : (ok != ok) = false := by simp
    have hpp : (p != p) = false := by simp
    clear hok hp
    go_enter Try.func6, Try.ntmps6
    go_wp2_with fail
    refine (C1.out _).mono ?_
    rintro e w1 ⟨rfl, rfl⟩
    go_wp2_with fail
    refine (C2.out _).mono ?_
    rintro e w1 ⟨rfl, hb⟩
    go_wp2
    go_ret
    exact ⟨rfl, hb⟩
end Go.Proofs.Ytfmfnlpajoikman.fnExactPlaceIn
