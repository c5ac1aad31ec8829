/-
  Contract: impl.isBelow.
-/
import Derived.Test.YtfjbiihiaoobhaiL1Sl
namespace Go.Proofs.Ytfjbiihiaoobhai.L12
open Go.RowKit L1
set_option linter.unusedVariables false

theorem bool_no12 {b : Bool} {p : Prop} (h : b = true ↔ p) (hp : ¬ p) : b = false := by
  cases b with
  | false => rfl
  | true => exact absurd (h.1 rfl) hp
theorem dec_ex12 (p : Prop) : ∃ b : Bool, b = true ↔ p := by classical exact ⟨decide p, by simp⟩
set_option maxRecDepth 100000 in
set_option maxHeartbeats 400000 in
theorem isBelow_any (x hi : Int) (w : World) (b : Bool) (hb : b = true ↔ 0 ≤ x ∧ x < hi) :
    Calls Try.prog 47 #[.int .i64 x, .int .i64 hi] w fun e w' => e = .returned (.bool b) ∧ w = w' := by
  by_cases h1 : 0 ≤ x
  · by_cases h2 : x < hi
    · obtain rfl : b = true := hb.2 ⟨h1, h2⟩
      clear hb
      go_enter Try.func47, Try.ntmps47
      go_wp2
      go_ret
      exact ⟨rfl, rfl⟩
    · obtain rfl : b = false := bool_no12 hb (fun h => h2 h.2)
      clear hb
      go_enter Try.func47, Try.ntmps47
      go_wp2
      go_ret
      exact ⟨rfl, rfl⟩
  · obtain rfl : b = false := bool_no12 hb (fun h => h1 h.1)
    clear hb
    go_enter Try.func47, Try.ntmps47
    go_wp2
    go_ret
    exact ⟨rfl, rfl⟩

end Go.Proofs.Ytfjbiihiaoobhai.L12
