/-
  Contract: spec.l1All at the bounds -1000000000000 and 1000000000000.
-/
import Derived.Test.YtapffbbmofhpoaaDoorL1Cat
import Derived.Deep.RegionHeld3
namespace Go.Proofs.YtapffbbmofhpoaaDoor.L1
open Go.RowKit
set_option linter.unusedVariables false

set_option maxRecDepth 100000 in
set_option maxHeartbeats 1000000 in
theorem l1All_yes (a : Option Addr) (xs : List Int) (n cap : Nat) (w : World) (hn : xs.length = n) (hs : Sl w a xs) (hn2 : n ≤ 1048576) (hok : OkL xs) :
    Calls Tryd.prog 85 #[.slice a n cap, .int .i64 (-1000000000000), .int .i64 1000000000000] w fun e w' => e = .returned (.bool true) ∧ w = w' := by
  have HS := hide hs
  have HN := hide hn
  have HK := hide hok
  clear hs hn hok
  go_enter Tryd.func85, Tryd.ntmps85
  go_wp2
  go_loop [11] (fun i => ∃ k : Nat, k ≤ n ∧ i = .int .i64 k) (fun i => n - (intOf i).toNat)
  case atStart => exact ⟨0, Nat.zero_le _, rfl⟩
  case round =>
    obtain ⟨k, hk, rfl⟩ := hrel
    by_cases hlt : k < n
    · obtain ⟨b, off, rfl, hc⟩ := HS.out k (by rw [HN.out]; exact hlt)
      have hx := HK.out k (by rw [HN.out]; exact hlt)
      obtain ⟨x, hxe⟩ : ∃ x, x = xs.getD k 0 := ⟨_, rfl⟩
      rw [← hxe] at hc hx
      obtain ⟨hx1, hx2⟩ := hx
      have hltI : (k : Int) < (n : Int) := by omega
      clear hxe
      go_wp2
      go_round
      case rel => exact ⟨k + 1, by omega, by go_num⟩
      case measure => simp [intOf]; omega
    · have hltI : ¬ (k : Int) < (n : Int) := by omega
      go_wp2
      go_ret
      exact ⟨rfl, rfl⟩

set_option maxRecDepth 100000 in
set_option maxHeartbeats 1000000 in
theorem l1All_no (a : Option Addr) (xs : List Int) (n cap : Nat) (w : World) (hn : xs.length = n) (hs : Sl w a xs) (hn2 : n ≤ 1048576) (hno : ¬ OkL xs) :
    Calls Tryd.prog 85 #[.slice a n cap, .int .i64 (-1000000000000), .int .i64 1000000000000] w fun e w' => e = .returned (.bool false) ∧ w = w' := by
  have HS := hide hs
  have HN := hide hn
  have HK := hide hno
  clear hs hn hno
  go_enter Tryd.func85, Tryd.ntmps85
  go_wp2
  go_loop [11] (fun i => ∃ k : Nat, k ≤ n ∧ i = .int .i64 k ∧ Hid (∀ j, j < k → -1000000000000 ≤ xs.getD j 0 ∧ xs.getD j 0 ≤ 1000000000000)) (fun i => n - (intOf i).toNat)
  case atStart => exact ⟨0, Nat.zero_le _, rfl, fun j hj => absurd hj (Nat.not_lt_zero _)⟩
  case round =>
    obtain ⟨k, hk, rfl, HJ⟩ := hrel
    by_cases hlt : k < n
    · obtain ⟨b, off, rfl, hc⟩ := HS.out k (by rw [HN.out]; exact hlt)
      have hnext : -1000000000000 ≤ xs.getD k 0 → xs.getD k 0 ≤ 1000000000000 → ∀ j, j < k + 1 → -1000000000000 ≤ xs.getD j 0 ∧ xs.getD j 0 ≤ 1000000000000 := fun h1 h2 j hj => by
        by_cases e : j = k
        · subst e; exact ⟨h1, h2⟩
        · exact HJ.out j (by omega)
      obtain ⟨x, hxe⟩ : ∃ x, x = xs.getD k 0 := ⟨_, rfl⟩
      rw [← hxe] at hc hnext
      have HX := hide hnext
      have hltI : (k : Int) < (n : Int) := by omega
      clear hxe hnext
      by_cases h1 : -1000000000000 ≤ x
      · by_cases h2 : x ≤ 1000000000000
        · go_wp2
          go_round
          case rel => exact ⟨k + 1, by omega, by go_num, HX.out h1 h2⟩
          case measure => simp [intOf]; omega
        · go_wp2
          go_ret
          exact ⟨rfl, rfl⟩
      · go_wp2
        go_ret
        exact ⟨rfl, rfl⟩
    · exfalso
      exact HK.out (fun j hj => HJ.out j (by rw [HN.out] at hj; omega))
end Go.Proofs.YtapffbbmofhpoaaDoor.L1
