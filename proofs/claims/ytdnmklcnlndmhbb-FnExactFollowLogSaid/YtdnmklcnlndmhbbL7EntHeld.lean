/-
  Contract of the laws' own helper heldEntryS: it finds what markEntryS has written.
-/
import Derived.Test.YtdnmklcnlndmhbbL7EntMark
namespace Go.Proofs.Ytdnmklcnlndmhbb.L7
open Go.RowKit L1 L3
set_option linter.unusedVariables false


theorem keep1E {wa wb : World} {B1 O1 N : Nat} {v1 : Value} {W : World} (h : wa.cell? ⟨B1, O1, none⟩ = some v1 ∧ Below N W wa) (hb : Below wa.heap.size wa wb) (hN : N ≤ W.heap.size) :
    wb.cell? ⟨B1, O1, none⟩ = some v1 ∧ Below N W wb :=
  ⟨(hb.cell (p := ⟨B1, O1, none⟩) (blk_lt h.1)).trans h.1, h.2.trans (hb.mono (Nat.le_trans hN h.2.size))⟩

set_option maxRecDepth 100000 in
set_option maxHeartbeats 2000000 in
theorem heldEntryS_any (a : Option Addr) (n cap : Nat) (w : World) (hn2 : n ≤ 1048576) (hs : SlE w a (mkE 1 n)) :
    Calls Try.prog 24 #[.slice a n cap, .int .i64 1] w fun e w' => e = .returned (.int .i64 (1 + 2 * (n : Int))) ∧ Below w.heap.size w w' := by
  have HS := hide hs
  clear hs
  go_enter Try.func24, Try.ntmps24
  go_wp2
  go_loopw [1, 5] (fun k i wr => ∃ j : Nat, j ≤ n ∧ i = .int .i64 j ∧ k = .int .i64 (1 + 2 * (j : Int)) ∧ Below w.heap.size w wr) (fun _ i _ => n - (intOf i).toNat)
  case atStart => exact ⟨0, by omega, rfl, rfl, Below.refl _ _⟩
  case round =>
    obtain ⟨j, hj, rfl, rfl, hbel⟩ := hrel
    by_cases hlt : j < n
    · obtain ⟨b, off, rfl, hc0, hd0⟩ := HS.out j (by rw [mkE_len]; exact hlt)
      rw [mkE_get 1 n j hlt] at hc0 hd0
      have hc := (hbel.cell (p := ⟨b, off + j * 2, none⟩) (blk_lt hc0)).trans hc0
      have hd := (hbel.cell (p := ⟨b, off + j * 2 + 1, none⟩) (blk_lt hd0)).trans hd0
      have hltI : (j : Int) < (n : Int) := by omega
      have hj0 : (0 : Int) ≤ (j : Int) := by omega
      have C2 := hide (fun w => markText_any (1 + 2 * (j : Int) + 1) w (by omega) (by omega))
      obtain ⟨y, hy⟩ : ∃ y, y = mkT (1 + 2 * (j : Int) + 1) := ⟨_, rfl⟩
      simp only [← hy] at C2 hd
      have hyy : (y.toList == y.toList) = true := by simp
      have B0 := hide hbel
      clear hc0 hd0 hy hbel
      go_wp2
      go_region_held3 (fun wx => wx.cell? ⟨b, off + j * 2 + 1, none⟩ = some (.string y) ∧ Below wr.heap.size wr wx) (first | exact ⟨hd, (Below.refl _ _).drew⟩ | exact keep1E (by assumption) (by assumption) (Nat.le_refl _)) ((go_at_call 48; refine (C2.out _).mono ?_; rintro e w1 ⟨rfl, hb⟩))
      rename_i hHeld
      have B2 := hide (B0.out.trans (hHeld.2.mono B0.out.size))
      clear hHeld hd
      go_wp2
      go_roundw
      case rel => exact ⟨j + 1, by omega, by go_num, by simp; omega, B2.out⟩
      case measure => simp [intOf]; omega
    · have hltI : ¬ (j : Int) < (n : Int) := by omega
      obtain rfl : j = n := by omega
      go_wp2
      go_ret
      exact ⟨rfl, hbel⟩
end Go.Proofs.Ytdnmklcnlndmhbb.L7
