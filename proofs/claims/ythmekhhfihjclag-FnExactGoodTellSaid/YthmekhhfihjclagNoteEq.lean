/-
  Contracts of the laws' own helpers eqNote, eqNoteS.
-/
import Derived.Test.YthmekhhfihjclagNote
import Derived.Test.YthmekhhfihjclagTriToldEq
import Derived.Deep.RegionHeld3
namespace Go.Proofs.Ythmekhhfihjclag.Nte
open Go.RowKit L1 Tri
set_option linter.unusedVariables false

set_option maxRecDepth 100000 in
set_option maxHeartbeats 1000000 in
theorem eqNote_same (q : Bool) (x z : Int) (y : ByteArray) (w : World) :
    Calls Try.prog 88 #[.agg #[.bool q, .int .i64 x, .int .i64 z, .string y], .agg #[.bool q, .int .i64 x, .int .i64 z, .string y]] w fun e w' => e = .returned (.bool true) ∧ Below w.heap.size w w' := by
  have HB : Hid (∀ A B, Below w.heap.size w ((w.alloc A).alloc B)) := hide (fun A B => ((Below.refl _ _).alloc (Nat.le_refl _) _).alloc (by simp) _)
  go_enter Try.func88, Try.ntmps88
  go_wp2_with fail
  refine (eqTold_same x z y _).mono ?_
  rintro e w1 ⟨rfl, hb⟩
  have B := hide ((HB.out _ _).trans (hb.mono (HB.out _ _).size))
  clear hb
  go_wp2
  go_ret
  exact ⟨rfl, B.out⟩

theorem keep8N {wa wb : World} {B1 O1 B2 O2 N : Nat} {v1 v2 v3 v4 v5 v6 v7 v8 : Value} {W : World} (h : wa.cell? ⟨B1, O1, none⟩ = some v1 ∧ wa.cell? ⟨B1, O1 + 1, none⟩ = some v2 ∧ wa.cell? ⟨B1, O1 + 2, none⟩ = some v3 ∧ wa.cell? ⟨B1, O1 + 3, none⟩ = some v4 ∧ wa.cell? ⟨B2, O2, none⟩ = some v5 ∧ wa.cell? ⟨B2, O2 + 1, none⟩ = some v6 ∧ wa.cell? ⟨B2, O2 + 2, none⟩ = some v7 ∧ wa.cell? ⟨B2, O2 + 3, none⟩ = some v8 ∧ Below N W wa) (hb : Below wa.heap.size wa wb) (hN : N ≤ W.heap.size) :
    wb.cell? ⟨B1, O1, none⟩ = some v1 ∧ wb.cell? ⟨B1, O1 + 1, none⟩ = some v2 ∧ wb.cell? ⟨B1, O1 + 2, none⟩ = some v3 ∧ wb.cell? ⟨B1, O1 + 3, none⟩ = some v4 ∧ wb.cell? ⟨B2, O2, none⟩ = some v5 ∧ wb.cell? ⟨B2, O2 + 1, none⟩ = some v6 ∧ wb.cell? ⟨B2, O2 + 2, none⟩ = some v7 ∧ wb.cell? ⟨B2, O2 + 3, none⟩ = some v8 ∧ Below N W wb := by
  obtain ⟨h1, h2, h3, h4, h5, h6, h7, h8, h9⟩ := h
  exact ⟨(hb.cell (p := ⟨B1, O1, none⟩) (blk_lt h1)).trans h1, (hb.cell (p := ⟨B1, O1 + 1, none⟩) (blk_lt h2)).trans h2, (hb.cell (p := ⟨B1, O1 + 2, none⟩) (blk_lt h3)).trans h3, (hb.cell (p := ⟨B1, O1 + 3, none⟩) (blk_lt h4)).trans h4, (hb.cell (p := ⟨B2, O2, none⟩) (blk_lt h5)).trans h5, (hb.cell (p := ⟨B2, O2 + 1, none⟩) (blk_lt h6)).trans h6, (hb.cell (p := ⟨B2, O2 + 2, none⟩) (blk_lt h7)).trans h7, (hb.cell (p := ⟨B2, O2 + 3, none⟩) (blk_lt h8)).trans h8, h9.trans (hb.mono (Nat.le_trans hN h9.size))⟩
set_option maxRecDepth 100000 in
set_option maxHeartbeats 1000000 in
theorem eqNoteS_same (a b : Option Addr) (xs : List Nt) (n c1 c2 : Nat) (w : World) (hn : xs.length = n) (ha : Sl4 w a xs) (hb : Sl4 w b xs) (hn2 : n ≤ 1048576) :
    Calls Try.prog 55 #[.slice a n c1, .slice b n c2] w fun e w' => e = .returned (.bool true) ∧ Below w.heap.size w w' := by
  have HA := hide ha
  have HB := hide hb
  have HN := hide hn
  clear ha hb hn
  go_enter Try.func55, Try.ntmps55
  go_wp2
  go_loopw [5] (fun i wr => ∃ k : Nat, k ≤ n ∧ i = .int .i64 k ∧ Below w.heap.size w wr) (fun i _ => n - (intOf i).toNat)
  case atStart => exact ⟨0, Nat.zero_le _, rfl, Below.refl _ _⟩
  case round =>
    obtain ⟨k, hk, rfl, hbel⟩ := hrel
    by_cases hlt : k < n
    · obtain ⟨b1, o1, rfl, h1, h2, h3, h4⟩ := HA.out k (by rw [HN.out]; exact hlt)
      obtain ⟨b2, o2, rfl, h5, h6, h7, h8⟩ := HB.out k (by rw [HN.out]; exact hlt)
      have g1 := (hbel.cell (p := ⟨b1, o1 + k * 4, none⟩) (blk_lt h1)).trans h1
      have g2 := (hbel.cell (p := ⟨b1, o1 + k * 4 + 1, none⟩) (blk_lt h2)).trans h2
      have g3 := (hbel.cell (p := ⟨b1, o1 + k * 4 + 2, none⟩) (blk_lt h3)).trans h3
      have g4 := (hbel.cell (p := ⟨b1, o1 + k * 4 + 3, none⟩) (blk_lt h4)).trans h4
      have g5 := (hbel.cell (p := ⟨b2, o2 + k * 4, none⟩) (blk_lt h5)).trans h5
      have g6 := (hbel.cell (p := ⟨b2, o2 + k * 4 + 1, none⟩) (blk_lt h6)).trans h6
      have g7 := (hbel.cell (p := ⟨b2, o2 + k * 4 + 2, none⟩) (blk_lt h7)).trans h7
      have g8 := (hbel.cell (p := ⟨b2, o2 + k * 4 + 3, none⟩) (blk_lt h8)).trans h8
      obtain ⟨q, hq⟩ : ∃ q, q = (xs.getD k e4).1 := ⟨_, rfl⟩
      obtain ⟨x, hx⟩ : ∃ x, x = (xs.getD k e4).2.1 := ⟨_, rfl⟩
      obtain ⟨z, hz⟩ : ∃ z, z = (xs.getD k e4).2.2.1 := ⟨_, rfl⟩
      obtain ⟨y, hy⟩ : ∃ y, y = (xs.getD k e4).2.2.2 := ⟨_, rfl⟩
      rw [← hq] at g1 g5
      rw [← hx] at g2 g6
      rw [← hz] at g3 g7
      rw [← hy] at g4 g8
      have hltI : (k : Int) < (n : Int) := by omega
      have hk0 : (0 : Int) ≤ (k : Int) := by omega
      clear h1 h2 h3 h4 h5 h6 h7 h8 hq hx hy hz
      go_wp2
      go_region_held3 (fun wx => wx.cell? ⟨b1, o1 + k * 4, none⟩ = some (.bool q) ∧ wx.cell? ⟨b1, o1 + k * 4 + 1, none⟩ = some (.int .i64 x) ∧ wx.cell? ⟨b1, o1 + k * 4 + 2, none⟩ = some (.int .i64 z) ∧ wx.cell? ⟨b1, o1 + k * 4 + 3, none⟩ = some (.string y) ∧ wx.cell? ⟨b2, o2 + k * 4, none⟩ = some (.bool q) ∧ wx.cell? ⟨b2, o2 + k * 4 + 1, none⟩ = some (.int .i64 x) ∧ wx.cell? ⟨b2, o2 + k * 4 + 2, none⟩ = some (.int .i64 z) ∧ wx.cell? ⟨b2, o2 + k * 4 + 3, none⟩ = some (.string y) ∧ Below wr.heap.size wr wx) (first | exact ⟨g1, g2, g3, g4, g5, g6, g7, g8, (Below.refl _ _).drew⟩ | exact keep8N (by assumption) (by assumption) (Nat.le_refl _)) ((go_at_call 88; refine (eqNote_same q x z y _).mono ?_; rintro e w1 ⟨rfl, hb⟩))
      rename_i hHeld
      have B1 := hide (hbel.trans (hHeld.2.2.2.2.2.2.2.2.mono hbel.size))
      clear hHeld
      go_wp2
      go_roundw
      case rel => exact ⟨k + 1, by omega, by go_num, B1.out⟩
      case measure => simp [intOf]; omega
    · have hltI : ¬ (k : Int) < (n : Int) := by omega
      go_wp2
      go_ret
      exact ⟨rfl, hbel⟩
end Go.Proofs.Ythmekhhfihjclag.Nte
