/-
  Contract of the laws' own helper heldLabelS: it finds the texts that markLabelS has written.
-/
import Derived.Test.YtohcjafklfemfalL3LabMark
namespace Go.Proofs.Ytohcjafklfemfal.L3
open Go.RowKit L1
set_option linter.unusedVariables false

theorem keep1L {wa wb : World} {B1 O1 N : Nat} {v1 : Value} {W : World} (h : wa.cell? ⟨B1, O1, none⟩ = some v1 ∧ Below N W wa) (hb : Below wa.heap.size wa wb) (hN : N ≤ W.heap.size) :
    wb.cell? ⟨B1, O1, none⟩ = some v1 ∧ Below N W wb :=
  ⟨(hb.cell (p := ⟨B1, O1, none⟩) (blk_lt h.1)).trans h.1, h.2.trans (hb.mono (Nat.le_trans hN h.2.size))⟩

set_option maxRecDepth 100000 in
set_option maxHeartbeats 2000000 in
theorem heldLabelS_any (a : Option Addr) (n cap : Nat) (w : World) (hn2 : n ≤ 1048576) (hs : SlL w a (mkL 1 n)) :
    Calls Try.prog 36 #[.slice a n cap, .int .i64 1] w fun e w' => e = .returned (.int .i64 (1 + 2 * (n : Int))) ∧ Below w.heap.size w w' := by
  have HS := hide hs
  clear hs
  go_enter Try.func36, Try.ntmps36
  go_wp2
  go_loopw [1, 5] (fun k i wr => ∃ j : Nat, j ≤ n ∧ i = .int .i64 j ∧ k = .int .i64 (1 + 2 * (j : Int)) ∧ Below w.heap.size w wr) (fun _ i _ => n - (intOf i).toNat)
  case atStart => exact ⟨0, by omega, rfl, rfl, Below.refl _ _⟩
  case round =>
    obtain ⟨j, hj, rfl, rfl, hbel⟩ := hrel
    by_cases hlt : j < n
    · obtain ⟨b, off, rfl, hc0, hd0⟩ := HS.out j (by rw [mkL_len]; exact hlt)
      rw [mkL_get 1 n j hlt] at hc0 hd0
      have hc := (hbel.cell (p := ⟨b, off + j * 2, none⟩) (blk_lt hc0)).trans hc0
      have hd := (hbel.cell (p := ⟨b, off + j * 2 + 1, none⟩) (blk_lt hd0)).trans hd0
      have hltI : (j : Int) < (n : Int) := by omega
      have hj0 : (0 : Int) ≤ (j : Int) := by omega
      have C1 := hide (fun w => markText_any (1 + 2 * (j : Int)) w (by omega) (by omega))
      have C2 := hide (fun w => markText_any (1 + 2 * (j : Int) + 1) w (by omega) (by omega))
      obtain ⟨x, hx⟩ : ∃ x, x = mkT (1 + 2 * (j : Int)) := ⟨_, rfl⟩
      obtain ⟨y, hy⟩ : ∃ y, y = mkT (1 + 2 * (j : Int) + 1) := ⟨_, rfl⟩
      simp only [← hx] at C1 hc
      simp only [← hy] at C2 hd
      have hxx : (x.toList == x.toList) = true := by simp
      have hyy : (y.toList == y.toList) = true := by simp
      have HD := hide hd
      have B0 := hide hbel
      clear hc0 hd0 hx hy hd hbel
      go_wp2
      go_region_held3 (fun wx => wx.cell? ⟨b, off + j * 2, none⟩ = some (.string x) ∧ Below wr.heap.size wr wx) (first | exact ⟨hc, (Below.refl _ _).drew⟩ | exact keep1L (by assumption) (by assumption) (Nat.le_refl _)) ((go_at_call 72; refine (C1.out _).mono ?_; rintro e w1 ⟨rfl, hb⟩))
      rename_i hHeld
      have hb1 := hHeld.2
      have hd1 := (hHeld.2.cell (p := ⟨b, off + j * 2 + 1, none⟩) (blk_lt HD.out)).trans HD.out
      clear hHeld hc
      go_wp2
      go_region_held3 (fun wx => wx.cell? ⟨b, off + j * 2 + 1, none⟩ = some (.string y) ∧ Below wr.heap.size wr wx) (first | exact ⟨hd1, hb1.drew⟩ | exact keep1L (by assumption) (by assumption) (Nat.le_refl _)) ((go_at_call 72; refine (C2.out _).mono ?_; rintro e w1 ⟨rfl, hb⟩))
      rename_i hHeld
      have B2 := hide (B0.out.trans (hHeld.2.mono B0.out.size))
      clear hHeld hd1
      go_wp2
      go_roundw
      case rel => exact ⟨j + 1, by omega, by go_num, by simp; omega, B2.out⟩
      case measure => simp [intOf]; omega
    · have hltI : ¬ (j : Int) < (n : Int) := by omega
      obtain rfl : j = n := by omega
      go_wp2
      go_ret
      exact ⟨rfl, hbel⟩
end Go.Proofs.Ytohcjafklfemfal.L3
