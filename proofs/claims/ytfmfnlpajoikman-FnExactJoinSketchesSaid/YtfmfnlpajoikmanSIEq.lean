/-
  Contract of the laws' own helper eqIntSS.
-/
import Derived.Test.YtfmfnlpajoikmanSI
import Derived.Test.YtfmfnlpajoikmanL1Eq
import Derived.Deep.RegionHeld3
namespace Go.Proofs.Ytfmfnlpajoikman.Sli
open Go.RowKit L1 Own
set_option linter.unusedVariables false

theorem keepSI {wa wb : World} {B1 O1 B2 O2 N : Nat} {v1 v2 : Value} {W : World} (h : (wa.cell? ⟨B1, O1, none⟩ = some v1 ∧ wa.cell? ⟨B2, O2, none⟩ = some v2) ∧ Below N W wa) (hb : Below wa.heap.size wa wb) (hN : N ≤ W.heap.size) : (wb.cell? ⟨B1, O1, none⟩ = some v1 ∧ wb.cell? ⟨B2, O2, none⟩ = some v2) ∧ Below N W wb := by
  obtain ⟨⟨h1, h2⟩, h3⟩ := h
  exact ⟨⟨(hb.cell (p := ⟨B1, O1, none⟩) (blk_lt h1)).trans h1, (hb.cell (p := ⟨B2, O2, none⟩) (blk_lt h2)).trans h2⟩, h3.trans (hb.mono (Nat.le_trans hN h3.size))⟩
set_option maxRecDepth 100000 in
set_option maxHeartbeats 2000000 in
theorem eqIntSS_same (a b : Option Addr) (ls : List (List Int)) (n c1 c2 : Nat) (w : World) (hn : ls.length = n) (ha : SlSI w a ls) (hb : SlSI w b ls) (hn2 : n ≤ 1048576) (hls : ∀ i, i < ls.length → (ls.getD i []).length ≤ 1048576) :
    Calls Try.prog 42 #[.slice a n c1, .slice b n c2] w fun e w' => e = .returned (.bool true) ∧ Below w.heap.size w w' := by
  have HA := hide ha
  have HB := hide hb
  have HN := hide hn
  have HLS := hide hls
  clear ha hb hn hls
  go_enter Try.func42, Try.ntmps42
  go_wp2
  go_loopw [5] (fun i wr => ∃ k : Nat, k ≤ n ∧ i = .int .i64 k ∧ Below w.heap.size w wr) (fun i _ => n - (intOf i).toNat)
  case atStart => exact ⟨0, Nat.zero_le _, rfl, Below.refl _ _⟩
  case round =>
    obtain ⟨k, hk, rfl, hbel⟩ := hrel
    by_cases hlt : k < n
    · obtain ⟨b1, o1, rfl, x1, q1, h1, s1⟩ := HA.out k (by rw [HN.out]; exact hlt)
      obtain ⟨b2, o2, rfl, x2, q2, h2, s2⟩ := HB.out k (by rw [HN.out]; exact hlt)
      have g1 := (hbel.cell (p := ⟨b1, o1 + k, none⟩) (blk_lt h1)).trans h1
      have g2 := (hbel.cell (p := ⟨b2, o2 + k, none⟩) (blk_lt h2)).trans h2
      have t1 := s1.below hbel
      have t2 := s2.below hbel
      have hlx := HLS.out k (by rw [HN.out]; exact hlt)
      obtain ⟨l, hl⟩ : ∃ l, l = ls.getD k [] := ⟨_, rfl⟩
      rw [← hl] at g1 g2 t1 t2 hlx
      obtain ⟨m, hmm⟩ : ∃ m, m = l.length := ⟨_, rfl⟩
      rw [← hmm] at g1 g2 hlx
      have hltI : (k : Int) < (n : Int) := by omega
      have hk0 : (0 : Int) ≤ (k : Int) := by omega
      have C := hide (fun wx (hb : Below wr.heap.size wr wx) => eqIntS_same x1 x2 l m q1 q2 wx hmm.symm (t1.below hb) (t2.below hb) hlx)
      clear h1 h2 s1 s2 t1 t2 hl hmm
      go_wp2
      go_region_held3 (fun wx => (wx.cell? ⟨b1, o1 + k, none⟩ = some (.slice x1 m q1) ∧ wx.cell? ⟨b2, o2 + k, none⟩ = some (.slice x2 m q2)) ∧ Below wr.heap.size wr wx) (first | exact ⟨⟨g1, g2⟩, (Below.refl _ _).drew⟩ | exact keepSI (by assumption) (by assumption) (Nat.le_refl _)) ((go_at_call 49; refine (C.out _ (by first | exact And.right (by assumption) | exact (Below.refl _ _).drew | exact Below.refl _ _)).mono ?_; rintro e w1 ⟨rfl, hb⟩))
      rename_i hHeld
      have B1 := hide (hbel.trans (hHeld.2.mono hbel.size))
      clear hHeld
      go_wp2
      go_roundw
      case rel => exact ⟨k + 1, by omega, by go_num, B1.out⟩
      case measure => simp [intOf]; omega
    · have hltI : ¬ (k : Int) < (n : Int) := by omega
      go_wp2
      go_ret
      exact ⟨rfl, hbel⟩
end Go.Proofs.Ytfmfnlpajoikman.Sli
