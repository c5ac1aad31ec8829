/-
  The walk of the law FnExactJudgeTold: it returns true at every two numbers; memory stays as it was.
-/
import Derived.Test.YthmekhhfihjclagL1Base
import Derived.Below
namespace Go.Proofs.Ythmekhhfihjclag.fnExactJudgeTold
open Go.RowKit L1
set_option linter.unusedVariables false

set_option maxRecDepth 100000 in
set_option maxHeartbeats 1000000 in
theorem walk (a b : Int) (w : World) (wa : (Lit.int .i64 a).wf = true) (wb : (Lit.int .i64 b).wf = true) :
    Calls Try.prog 8 #[.int .i64 a, .int .i64 b] w fun e w' => e = .returned (.bool true) ∧ Below w.heap.size w w' := by
  clear wa wb
  by_cases c1 : 0 ≤ a
  · by_cases c2 : a ≤ 1000
    · by_cases c3 : 0 ≤ b
      · by_cases c4 : b ≤ 1000
        · rcases Int.lt_trichotomy a b with h | h | h
          · have h2 : ¬ b < a := by omega
            have h3 : (b == a) = false := by simp; omega
            have h4 : ¬ b ≤ a := by omega
            go_enter Try.func8, Try.ntmps8
            go_wp2
            go_ret
            exact ⟨rfl, by repeat (first | exact Below.refl _ _ | apply Below.drew | apply Below.drewN)⟩
          · subst h
            have h2 : ¬ a < a := by omega
            go_enter Try.func8, Try.ntmps8
            go_wp2
            go_ret
            exact ⟨rfl, by repeat (first | exact Below.refl _ _ | apply Below.drew | apply Below.drewN)⟩
          · have h2 : ¬ a < b := by omega
            have h3 : (b == a) = false := by simp; omega
            go_enter Try.func8, Try.ntmps8
            go_wp2
            go_ret
            exact ⟨rfl, by repeat (first | exact Below.refl _ _ | apply Below.drew | apply Below.drewN)⟩
        · have c5 : 1000 < b := by omega
          go_enter Try.func8, Try.ntmps8
          go_wp2
          go_ret
          exact ⟨rfl, by repeat (first | exact Below.refl _ _ | apply Below.drew | apply Below.drewN)⟩
      · have c5 : b < 0 := by omega
        go_enter Try.func8, Try.ntmps8
        go_wp2
        go_ret
        exact ⟨rfl, by repeat (first | exact Below.refl _ _ | apply Below.drew | apply Below.drewN)⟩
    · have c5 : 1000 < a := by omega
      go_enter Try.func8, Try.ntmps8
      go_wp2
      go_ret
      exact ⟨rfl, by repeat (first | exact Below.refl _ _ | apply Below.drew | apply Below.drewN)⟩
  · have c5 : a < 0 := by omega
    go_enter Try.func8, Try.ntmps8
    go_wp2
    go_ret
    exact ⟨rfl, by repeat (first | exact Below.refl _ _ | apply Below.drew | apply Below.drewN)⟩
end Go.Proofs.Ythmekhhfihjclag.fnExactJudgeTold
