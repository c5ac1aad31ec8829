/-
  Contract: spec.l1In.
-/
import Derived.Test.YtfmfnlpajoikmaoL1Sl
namespace Go.Proofs.Ytfmfnlpajoikmao.Own
open Go.RowKit L1
set_option linter.unusedVariables false

theorem bool_noT {b : Bool} {p : Prop} (h : b = true ↔ p) (hp : ¬ p) : b = false := by
  cases b with
  | false => rfl
  | true => exact absurd (h.1 rfl) hp
set_option maxRecDepth 100000 in
set_option maxHeartbeats 400000 in
theorem l1In_any (x lo hi : Int) (w : World) (b : Bool) (hb : b = true ↔ lo ≤ x ∧ x ≤ hi) :
    Calls Try.prog 42 #[.int .i64 x, .int .i64 lo, .int .i64 hi] w fun e w' => e = .returned (.bool b) ∧ w = w' := by
  by_cases h1 : lo ≤ x
  · by_cases h2 : x ≤ hi
    · obtain rfl : b = true := hb.2 ⟨h1, h2⟩
      clear hb
      go_enter Try.func42, Try.ntmps42
      go_wp2
      go_ret
      exact ⟨rfl, rfl⟩
    · obtain rfl : b = false := bool_noT hb (fun h => h2 h.2)
      clear hb
      go_enter Try.func42, Try.ntmps42
      go_wp2
      go_ret
      exact ⟨rfl, rfl⟩
  · obtain rfl : b = false := bool_noT hb (fun h => h1 h.1)
    clear hb
    go_enter Try.func42, Try.ntmps42
    go_wp2
    go_ret
    exact ⟨rfl, rfl⟩

end Go.Proofs.Ytfmfnlpajoikmao.Own
