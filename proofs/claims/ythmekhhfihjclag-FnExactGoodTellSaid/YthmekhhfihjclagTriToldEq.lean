/-
  Contracts of the laws' own helpers eqTold, eqToldS.
-/
import Derived.Test.YthmekhhfihjclagTri
import Derived.Deep.RegionHeld3
namespace Go.Proofs.Ythmekhhfihjclag.Tri
open Go.RowKit L1
set_option linter.unusedVariables false

set_option maxRecDepth 100000 in
set_option maxHeartbeats 400000 in
theorem eqTold_same (x z : Int) (y : ByteArray) (w : World) :
    Calls Try.prog 89 #[.agg #[.int .i64 x, .int .i64 z, .string y], .agg #[.int .i64 x, .int .i64 z, .string y]] w fun e w' => e = .returned (.bool true) ∧ Below w.heap.size w w' := by
  go_enter Try.func89, Try.ntmps89
  go_wp2
  go_ret
  exact ⟨rfl, ((Below.refl _ _).alloc (Nat.le_refl _) _).alloc (by simp) _⟩

theorem keep6Told {wa wb : World} {B1 O1 B2 O2 N : Nat} {v1 v2 v3 v4 v5 v6 : Value} {W : World} (h : wa.cell? ⟨B1, O1, none⟩ = some v1 ∧ wa.cell? ⟨B1, O1 + 1, none⟩ = some v2 ∧ wa.cell? ⟨B1, O1 + 2, none⟩ = some v3 ∧ wa.cell? ⟨B2, O2, none⟩ = some v4 ∧ wa.cell? ⟨B2, O2 + 1, none⟩ = some v5 ∧ wa.cell? ⟨B2, O2 + 2, none⟩ = some v6 ∧ Below N W wa) (hb : Below wa.heap.size wa wb) (hN : N ≤ W.heap.size) :
    wb.cell? ⟨B1, O1, none⟩ = some v1 ∧ wb.cell? ⟨B1, O1 + 1, none⟩ = some v2 ∧ wb.cell? ⟨B1, O1 + 2, none⟩ = some v3 ∧ wb.cell? ⟨B2, O2, none⟩ = some v4 ∧ wb.cell? ⟨B2, O2 + 1, none⟩ = some v5 ∧ wb.cell? ⟨B2, O2 + 2, none⟩ = some v6 ∧ Below N W wb := by
  obtain ⟨h1, h2, h3, h4, h5, h6, h7⟩ := h
  exact ⟨(hb.cell (p := ⟨B1, O1, none⟩) (blk_lt h1)).trans h1, (hb.cell (p := ⟨B1, O1 + 1, none⟩) (blk_lt h2)).trans h2, (hb.cell (p := ⟨B1, O1 + 2, none⟩) (blk_lt h3)).trans h3, (hb.cell (p := ⟨B2, O2, none⟩) (blk_lt h4)).trans h4, (hb.cell (p := ⟨B2, O2 + 1, none⟩) (blk_lt h5)).trans h5, (hb.cell (p := ⟨B2, O2 + 2, none⟩) (blk_lt h6)).trans h6, h7.trans (hb.mono (Nat.le_trans hN h7.size))⟩

set_option maxRecDepth 100000 in
set_option maxHeartbeats 1000000 in
theorem eqToldS_same (a b : Option Addr) (xs : List Tr) (n c1 c2 : Nat) (w : World) (hn : xs.length = n) (ha : Sl3 w a xs) (hb : Sl3 w b xs) (hn2 : n ≤ 1048576) :
    Calls Try.prog 56 #[.slice a n c1, .slice b n c2] w fun e w' => e = .returned (.bool true) ∧ Below w.heap.size w w' := by
  have HA := hide ha
  have HB := hide hb
  have HN := hide hn
  clear ha hb hn
  go_enter Try.func56, Try.ntmps56
  go_wp2
  go_loopw [5] (fun i wr => ∃ k : Nat, k ≤ n ∧ i = .int .i64 k ∧ Below w.heap.size w wr) (fun i _ => n - (intOf i).toNat)
  case atStart => exact ⟨0, Nat.zero_le _, rfl, Below.refl _ _⟩
  case round =>
    obtain ⟨k, hk, rfl, hbel⟩ := hrel
    by_cases hlt : k < n
    · obtain ⟨b1, o1, rfl, h1, h1', h1''⟩ := HA.out k (by rw [HN.out]; exact hlt)
      obtain ⟨b2, o2, rfl, h2, h2', h2''⟩ := HB.out k (by rw [HN.out]; exact hlt)
      have g1 := (hbel.cell (p := ⟨b1, o1 + k * 3, none⟩) (blk_lt h1)).trans h1
      have g1' := (hbel.cell (p := ⟨b1, o1 + k * 3 + 1, none⟩) (blk_lt h1')).trans h1'
      have g1'' := (hbel.cell (p := ⟨b1, o1 + k * 3 + 2, none⟩) (blk_lt h1'')).trans h1''
      have g2 := (hbel.cell (p := ⟨b2, o2 + k * 3, none⟩) (blk_lt h2)).trans h2
      have g2' := (hbel.cell (p := ⟨b2, o2 + k * 3 + 1, none⟩) (blk_lt h2')).trans h2'
      have g2'' := (hbel.cell (p := ⟨b2, o2 + k * 3 + 2, none⟩) (blk_lt h2'')).trans h2''
      obtain ⟨x, hx⟩ : ∃ x, x = (xs.getD k e3).1 := ⟨_, rfl⟩
      obtain ⟨z, hz⟩ : ∃ z, z = (xs.getD k e3).2.1 := ⟨_, rfl⟩
      obtain ⟨y, hy⟩ : ∃ y, y = (xs.getD k e3).2.2 := ⟨_, rfl⟩
      rw [← hx] at g1 g2
      rw [← hz] at g1' g2'
      rw [← hy] at g1'' g2''
      have hltI : (k : Int) < (n : Int) := by omega
      have hk0 : (0 : Int) ≤ (k : Int) := by omega
      clear h1 h2 h1' h2' h1'' h2'' hx hy hz
      go_wp2
      go_region_held3 (fun wx => wx.cell? ⟨b1, o1 + k * 3, none⟩ = some (.int .i64 x) ∧ wx.cell? ⟨b1, o1 + k * 3 + 1, none⟩ = some (.int .i64 z) ∧ wx.cell? ⟨b1, o1 + k * 3 + 2, none⟩ = some (.string y) ∧ wx.cell? ⟨b2, o2 + k * 3, none⟩ = some (.int .i64 x) ∧ wx.cell? ⟨b2, o2 + k * 3 + 1, none⟩ = some (.int .i64 z) ∧ wx.cell? ⟨b2, o2 + k * 3 + 2, none⟩ = some (.string y) ∧ Below wr.heap.size wr wx) (first | exact ⟨g1, g1', g1'', g2, g2', g2'', (Below.refl _ _).drew⟩ | exact keep6Told (by assumption) (by assumption) (Nat.le_refl _)) ((go_at_call 89; refine (eqTold_same x z y _).mono ?_; rintro e w1 ⟨rfl, hb⟩))
      rename_i hHeld
      have B1 := hide (hbel.trans (hHeld.2.2.2.2.2.2.mono hbel.size))
      clear hHeld
      go_wp2
      go_roundw
      case rel => exact ⟨k + 1, by omega, by go_num, B1.out⟩
      case measure => simp [intOf]; omega
    · have hltI : ¬ (k : Int) < (n : Int) := by omega
      go_wp2
      go_ret
      exact ⟨rfl, hbel⟩
end Go.Proofs.Ythmekhhfihjclag.Tri
