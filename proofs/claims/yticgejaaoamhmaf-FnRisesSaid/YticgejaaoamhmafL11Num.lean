/-
  Contract of the laws' own helper laws.numberOf: it tells some number.
-/
import Derived.Test.YticgejaaoamhmafL3Cur
namespace Go.Proofs.Yticgejaaoamhmaf.L1
open Go.RowKit
set_option linter.unusedVariables false

set_option maxRecDepth 100000 in
set_option maxHeartbeats 1000000 in
theorem numberOf_any (a : Option Addr) (n cap : Nat) (w : World) (h : Slb w w.heap.size a n) (hn : n ≤ 1048576) :
    Calls Try.prog 17 #[.slice a n cap] w fun e w' => (∃ x : Int, e = .returned (.int .i64 x) ∧ 0 ≤ x ∧ x < 1000003) ∧ w = w' := by
  have HS := hide h
  clear h
  go_enter Try.func17, Try.ntmps17
  go_wp2
  go_loop [3, 8] (fun m i => ∃ (k : Nat) (x : Int), k ≤ n ∧ i = .int .i64 k ∧ m = .int .i64 x ∧ 0 ≤ x ∧ x < 1000003) (fun _ i => n - (intOf i).toNat)
  case atStart => exact ⟨0, 0, Nat.zero_le _, rfl, rfl, by omega, by omega⟩
  case round =>
    obtain ⟨k, x, hk, rfl, rfl, hx0, hx1⟩ := hrel
    by_cases hlt : k < n
    · obtain ⟨bb, off, y, rfl, hbb, hc, hy0, hy1⟩ := HS.out k hlt
      have hltI : (k : Int) < (n : Int) := by omega
      have hq : Int.tmod (31 * x + y) 1000003 = (31 * x + y) % 1000003 := Int.tmod_eq_emod_of_nonneg (by omega)
      obtain ⟨z, hz⟩ : ∃ z, z = (31 * x + y) % 1000003 := ⟨_, rfl⟩
      have hz0 : 0 ≤ z ∧ z < 1000003 := by omega
      rw [← hz] at hq
      clear hz
      go_wp2
      go_round
      case rel => exact ⟨k + 1, z, by omega, by go_num, rfl, hz0.1, hz0.2⟩
      case measure => simp [intOf]; omega
    · have hltI : ¬ (k : Int) < (n : Int) := by omega
      go_wp2
      go_ret
      exact ⟨⟨x, rfl, hx0, hx1⟩, rfl⟩
end Go.Proofs.Yticgejaaoamhmaf.L1
