/-
  Contract of the laws' own helper heldToldS.
-/
import Derived.Test.YthmekhhfihjclafTriMk
import Derived.Deep.RegionHeld3
namespace Go.Proofs.Ythmekhhfihjclaf.Tri
open Go.RowKit L1 L3
set_option linter.unusedVariables false

set_option maxRecDepth 100000 in
set_option maxHeartbeats 2000000 in
theorem heldToldS_any (a : Option Addr) (n cap : Nat) (w : World) (c : Int) (hc0 : 0 < c) (hc1 : c ≤ 1073741824) (hn2 : n ≤ 1048576) (hs : Sl3 w a (mk3 c n)) :
    Calls Try.prog 21 #[.slice a n cap, .int .i64 c] w fun e w' => e = .returned (.int .i64 (c + 3 * (n : Int))) ∧ Below w.heap.size w w' := by
  have HS := hide hs
  clear hs
  go_enter Try.func21, Try.ntmps21
  go_wp2
  go_loopw [1, 5] (fun k i wr => ∃ j : Nat, j ≤ n ∧ i = .int .i64 j ∧ k = .int .i64 (c + 3 * (j : Int)) ∧ Below w.heap.size w wr) (fun _ i _ => n - (intOf i).toNat)
  case atStart => exact ⟨0, by omega, rfl, by simp, Below.refl _ _⟩
  case round =>
    obtain ⟨j, hj, rfl, rfl, hbel⟩ := hrel
    by_cases hlt : j < n
    · obtain ⟨b, off, rfl, hc0', he0, hd0⟩ := HS.out j (by rw [mk3_len]; exact hlt)
      rw [mk3_get c n j hlt] at hc0' hd0 he0
      have hc := (hbel.cell (p := ⟨b, off + j * 3, none⟩) (blk_lt hc0')).trans hc0'
      have he := (hbel.cell (p := ⟨b, off + j * 3 + 1, none⟩) (blk_lt he0)).trans he0
      have hd := (hbel.cell (p := ⟨b, off + j * 3 + 2, none⟩) (blk_lt hd0)).trans hd0
      have hltI : (j : Int) < (n : Int) := by omega
      have hj0 : (0 : Int) ≤ (j : Int) := by omega
      have C2 := hide (fun w => markText_any (c + 3 * (j : Int) + 1 + 1) w (by omega) (by omega))
      obtain ⟨y, hy⟩ : ∃ y, y = mkT (c + 3 * (j : Int) + 1 + 1) := ⟨_, rfl⟩
      simp only [← hy] at C2 hd
      have hyy : (y.toList == y.toList) = true := by simp
      have B0 := hide hbel
      clear hc0' hd0 he0 hy hbel
      go_wp2
      go_region_held3 (fun wx => wx.cell? ⟨b, off + j * 3 + 2, none⟩ = some (.string y) ∧ Below wr.heap.size wr wx) (first | exact ⟨hd, (Below.refl _ _).drew⟩ | exact keep1T (by assumption) (by assumption) (Nat.le_refl _)) ((go_at_call 26; refine (C2.out _).mono ?_; rintro e w1 ⟨rfl, hb⟩))
      rename_i hHeld
      have B2 := hide (B0.out.trans (hHeld.2.mono B0.out.size))
      clear hHeld hd
      go_wp2
      go_roundw
      case rel => exact ⟨j + 1, by omega, by go_num, by simp; omega, B2.out⟩
      case measure => simp [intOf]; omega
    · have hltI : ¬ (j : Int) < (n : Int) := by omega
      obtain rfl : j = n := by omega
      go_wp2
      go_ret
      exact ⟨rfl, hbel⟩
end Go.Proofs.Ythmekhhfihjclaf.Tri
