/-
  Contract: impl.digitsOf tells how many digits to 128 a number from 0 to 2000000000000 has, where the table of worths holds what its initialiser lays.
-/
import Derived.Test.YtapffbbmofhpoaaDoorL1Tab
namespace Go.Proofs.YtapffbbmofhpoaaDoor.L1
open Go.RowKit
set_option linter.unusedVariables false

set_option maxRecDepth 100000 in
set_option maxHeartbeats 400000 in
theorem digitsOf_any (z : Int) (w : World) (h0 : 0 ≤ z) (h1 : z ≤ 2000000000000) (ht : Tab w) :
    Calls Tryd.prog 74 #[.int .i64 z] w fun e w' => e = .returned (.int .i64 ((vd z).length : Nat)) ∧ w = w' := by
  have hpos := vdf_pos 5 z
  have hle := vdf_le 5 z
  have hlen := vdf_len 5 z
  change 1 ≤ (vd z).length at hpos
  change (vd z).length ≤ 6 at hle
  change ∀ k : Nat, 0 ≤ z → 1 ≤ k → (k < (vd z).length ↔ k ≤ 5 ∧ wor k ≤ z) at hlen
  have HL := hide hlen
  have HT := hide ht
  clear hlen ht
  generalize (vd z).length = m at *
  go_enter Tryd.func74, Tryd.ntmps74
  go_wp2
  go_loop [3] (fun i => ∃ k : Nat, 1 ≤ k ∧ k ≤ m ∧ i = .int .i64 k) (fun i => 6 - (intOf i).toNat)
  case atStart => exact ⟨1, by omega, by omega, rfl⟩
  case round =>
    obtain ⟨k, hk1, hk2, rfl⟩ := hrel
    by_cases hlt : k < m
    · have h := (unhide HL k h0 hk1).1 hlt
      have hc := unhide HT k (by omega)
      have h6 : (k : Int) < 6 := by omega
      have hw := h.2
      clear h
      go_wp2
      go_round
      case rel => exact ⟨k + 1, by omega, by omega, by go_num⟩
      case measure => simp [intOf]; omega
    · obtain rfl : k = m := by omega
      by_cases h6 : (k : Int) < 6
      · have hc := unhide HT k (by omega)
        have hw : ¬ wor k ≤ z := fun h => by have := (unhide HL k h0 hk1).2 ⟨by omega, h⟩; omega
        go_wp2
        go_ret
        exact ⟨rfl, rfl⟩
      · go_wp2
        go_ret
        exact ⟨rfl, rfl⟩
end Go.Proofs.YtapffbbmofhpoaaDoor.L1
