/-
  Contract: spec.l1All.
-/
import Derived.Test.YtfmfnlpajoikmanIn
namespace Go.Proofs.Ytfmfnlpajoikman.Own
open Go.RowKit L1
set_option linter.unusedVariables false

set_option maxRecDepth 100000 in
set_option maxHeartbeats 1000000 in
theorem l1All_any (a : Option Addr) (xs : List Int) (n cap : Nat) (lo hi : Int) (w : World) (hn : xs.length = n) (hs : Sl w a xs) (hn2 : n ≤ 1048576) (bb : Bool) (hbb : bb = true ↔ ∀ j, j < n → lo ≤ xs.getD j 0 ∧ xs.getD j 0 ≤ hi) :
    Calls Try.prog 62 #[.slice a n cap, .int .i64 lo, .int .i64 hi] w fun e w' => e = .returned (.bool bb) ∧ w = w' := by
  have HS := hide hs
  have HN := hide hn
  have HBB := hide hbb
  clear hs hn hbb
  go_enter Try.func62, Try.ntmps62
  go_wp2
  go_loop [11] (fun i => ∃ k : Nat, k ≤ n ∧ i = .int .i64 k ∧ Hid (∀ j, j < k → lo ≤ xs.getD j 0 ∧ xs.getD j 0 ≤ hi)) (fun i => n - (intOf i).toNat)
  case atStart => exact ⟨0, Nat.zero_le _, rfl, fun j hj => absurd hj (Nat.not_lt_zero _)⟩
  case round =>
    obtain ⟨k, hk, rfl, HJ⟩ := hrel
    by_cases hlt : k < n
    · obtain ⟨b, off, rfl, hc⟩ := HS.out k (by rw [HN.out]; exact hlt)
      have hltI : (k : Int) < (n : Int) := by omega
      obtain ⟨x, hx⟩ : ∃ x, x = xs.getD k 0 := ⟨_, rfl⟩
      rw [← hx] at hc
      have HX := hide hx.symm
      clear hx
      by_cases hle : lo ≤ x ∧ x ≤ hi
      · have C := hide (fun w => l1In_any x lo hi w true (by simp [hle]))
        have HLE := hide hle
        clear hle
        go_wp2_with fail
        refine (C.out _).mono ?_
        rintro e w1 ⟨rfl, rfl⟩
        go_wp2
        go_round
        case rel =>
          refine ⟨k + 1, by omega, by go_num, ?_⟩
          intro j hj
          by_cases e : j = k
          · subst e; rw [HX.out]; exact HLE.out
          · exact HJ.out j (by omega)
        case measure => simp [intOf]; omega
      · have C := hide (fun w => l1In_any x lo hi w false (by simp only [Bool.false_eq_true, false_iff]; exact hle))
        have HM : Hid (bb = false) := hide (bool_noT HBB.out (fun h => hle (by have := h k hlt; rw [HX.out] at this; exact this)))
        clear hle
        go_wp2_with fail
        refine (C.out _).mono ?_
        rintro e w1 ⟨rfl, rfl⟩
        go_wp2
        go_ret
        exact ⟨by rw [HM.out]; rfl, rfl⟩
    · have hltI : ¬ (k : Int) < (n : Int) := by omega
      have HM := hide (HBB.out.2 (fun j hj => HJ.out j (by omega)))
      go_wp2
      go_ret
      exact ⟨by rw [HM.out]; rfl, rfl⟩

end Go.Proofs.Ytfmfnlpajoikman.Own
