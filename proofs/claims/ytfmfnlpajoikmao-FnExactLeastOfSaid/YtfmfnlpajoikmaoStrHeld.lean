/-
  Contract of the laws' own helper heldStringS.
-/
import Derived.Test.YtfmfnlpajoikmaoStrMk
import Derived.Deep.RegionHeld3
namespace Go.Proofs.Ytfmfnlpajoikmao.Str
open Go.RowKit L1 L3
set_option linter.unusedVariables false

set_option maxRecDepth 100000 in
set_option maxHeartbeats 4000000 in
theorem heldStringS_from (a : Option Addr) (n cap : Nat) (w : World) (c : Int) (hcl0 : 0 < c) (hch : c ≤ 1073741824) (hn2 : n ≤ 1048576) (hs : SlS w a (mkS c n)) :
    Calls Try.prog 37 #[.slice a n cap, .int .i64 c] w fun e w' => e = .returned (.int .i64 (c + (n : Int))) ∧ Below w.heap.size w w' := by
  have HS := hide hs
  clear hs
  go_enter Try.func37, Try.ntmps37
  go_wp2
  go_loopw [1, 5] (fun k i wr => ∃ j : Nat, j ≤ n ∧ i = .int .i64 j ∧ k = .int .i64 (c + (j : Int)) ∧ Below w.heap.size w wr) (fun _ i _ => n - (intOf i).toNat)
  case atStart => exact ⟨0, by omega, rfl, by simp, Below.refl _ _⟩
  case round =>
    obtain ⟨j, hj, rfl, rfl, hbel⟩ := hrel
    by_cases hlt : j < n
    · obtain ⟨b, off, rfl, hc0⟩ := HS.out j (by rw [mkS_len]; exact hlt)
      rw [mkS_get c n j hlt] at hc0
      have hc := (hbel.cell (p := ⟨b, off + j, none⟩) (blk_lt hc0)).trans hc0
      have hltI : (j : Int) < (n : Int) := by omega
      have hj0 : (0 : Int) ≤ (j : Int) := by omega
      have C1 := hide (fun w => markText_any (c + (j : Int)) w (by omega) (by omega))
      obtain ⟨x, hx⟩ : ∃ x, x = mkT (c + (j : Int)) := ⟨_, rfl⟩
      rw [← hx] at hc
      simp only [← hx] at C1
      have hxx : (x.toList == x.toList) = true := by simp
      have B0 := hide hbel
      clear hc0 hx hbel
      go_wp2
      go_region_held3 (fun wx => wx.cell? ⟨b, off + j, none⟩ = some (.string x) ∧ Below wr.heap.size wr wx) (first | exact ⟨hc, (Below.refl _ _).drew⟩ | exact keep1S (by assumption) (by assumption) (Nat.le_refl _)) ((go_at_call 41; refine (C1.out _).mono ?_; rintro e w1 ⟨rfl, hb⟩))
      rename_i hHeld
      have B2 := hide (B0.out.trans (hHeld.2.mono B0.out.size))
      clear hHeld hc
      go_wp2
      go_roundw
      case rel => exact ⟨j + 1, by omega, by go_num, by go_num, B2.out⟩
      case measure => simp [intOf]; omega
    · have hltI : ¬ (j : Int) < (n : Int) := by omega
      obtain rfl : j = n := by omega
      go_wp2
      go_ret
      exact ⟨rfl, hbel⟩
end Go.Proofs.Ytfmfnlpajoikmao.Str
