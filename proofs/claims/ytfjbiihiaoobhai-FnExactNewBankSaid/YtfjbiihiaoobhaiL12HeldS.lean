/-
  Contracts of the laws' own helpers laws.heldIntSS, laws.heldBoolSS.
-/
import Derived.Test.YtfjbiihiaoobhaiL12MarkM
import Derived.Deep.DeepCutAuto
namespace Go.Proofs.Ytfjbiihiaoobhai.L12
open Go.RowKit L1 L4 L9 Own Sli
set_option linter.unusedVariables false

set_option maxRecDepth 100000 in
set_option maxHeartbeats 4000000 in
theorem held_I (a : Option Addr) (n cp : Nat) (c : Int) (G : List (List Int)) (w : World) (hn : G.length = n) (hc0 : 0 ≤ c) (hc1 : c ≤ 10000000) (hz : SmS G) (hF : SlSI w a (mkUp mkC c G n)) :
    Calls Try.prog 61 #[.slice a n cp, .int .i64 c] w fun e w' => e = .returned (.int .i64 (c + (pre G n : Int))) ∧ Below w.heap.size w w' := by
  have hn5 : n ≤ 1048576 := by have := hz.n; omega
  have HC : Hid (∀ i, i < n → ∃ b off ai ci, a = some ⟨b, off, none⟩ ∧ w.cell? ⟨b, off + i, none⟩ = some (.slice ai (G.getD i []).length ci) ∧ Sl w ai (mkC (c + (pre G i : Int)) (G.getD i []).length)) := hide (fun i hi => by
    obtain ⟨b, off, ea, ai, ci, hc, hs⟩ := hF i (by rw [mkUp_len, hn]; exact hi)
    have e1 : (mkUp mkC c G n).getD i [] = mkC (c + (pre G i : Int)) (G.getD i []).length := by rw [mkUp_get mkC c G n i (by omega), if_pos hi]
    rw [e1, mkC_len] at hc
    rw [e1] at hs
    exact ⟨b, off, ai, ci, ea, hc, hs⟩)
  have HZ := hide hz
  have HN := hide hn
  clear hF hz hn
  go_enter Try.func61, Try.ntmps61
  go_wp2
  go_loopw [1, 5] (fun k i wr => ∃ j : Nat, j ≤ n ∧ i = .int .i64 j ∧ k = .int .i64 (c + (pre G j : Int)) ∧ Hid (Below w.heap.size w wr)) (fun _ i _ => n - (intOf i).toNat)
  case atStart => exact ⟨0, Nat.zero_le _, rfl, by simp [pre], hide (Below.refl _ _)⟩
  case round =>
    obtain ⟨j, hj, rfl, rfl, HB⟩ := hrel
    by_cases hlt : j < n
    · obtain ⟨b, off, ai, ci, rfl, hc0', hs0⟩ := HC.out j hlt
      have hc := (HB.out.cell (p := ⟨b, off + j, none⟩) (blk_lt hc0')).trans hc0'
      have hs := hs0.below HB.out
      have hltI : (j : Int) < (n : Int) := by omega
      have hj0 : (0 : Int) ≤ (j : Int) := by omega
      have hjG : j < G.length := by rw [HN.out]; exact hlt
      have hl40 := HZ.out.s j hjG
      have hp : pre G j ≤ 1048576 := Nat.le_trans (pre_mono G j _ (Nat.le_of_lt hjG)) HZ.out.p
      obtain ⟨mm, hm⟩ : ∃ mm, mm = (G.getD j []).length := ⟨_, rfl⟩
      have hps : pre G (j + 1) = pre G j + mm := by rw [hm]; rfl
      rw [← hm] at hc hl40 hs
      have C := hide (heldIntS_from ai mm ci (c + (pre G j : Int)) wr (by omega) (by omega) (by omega) hs)
      have HPS := hide hps
      have hcn : ¬ c + (pre G j : Int) + (mm : Int) < 0 := by omega
      clear hm hps hc0' hs hs0
      go_wp2_with fail
      refine C.out.mono ?_
      rintro e w1 ⟨rfl, hb1⟩
      have H1 := hide (HB.out.trans (hb1.mono HB.out.size))
      clear hb1 C
      go_wp2
      go_roundw
      case rel => exact ⟨j + 1, by omega, by go_num, by rw [HPS.out]; simp; omega, H1⟩
      case measure => simp [intOf]; omega
    · obtain rfl : j = n := by omega
      have hltI : ¬ (j : Int) < (j : Int) := by omega
      go_wp2
      go_ret
      exact ⟨rfl, HB.out⟩
set_option maxRecDepth 100000 in
set_option maxHeartbeats 4000000 in
theorem held_B (a : Option Addr) (n cp : Nat) (c : Int) (G : List (List Bool)) (w : World) (hn : G.length = n) (hc0 : 0 ≤ c) (hc1 : c ≤ 10000000) (hz : SmS G) (hF : SlSB w a (mkUp mkB c G n)) :
    Calls Try.prog 62 #[.slice a n cp, .int .i64 c] w fun e w' => e = .returned (.int .i64 (c + (pre G n : Int))) ∧ Below w.heap.size w w' := by
  have hn5 : n ≤ 1048576 := by have := hz.n; omega
  have HC : Hid (∀ i, i < n → ∃ b off ai ci, a = some ⟨b, off, none⟩ ∧ w.cell? ⟨b, off + i, none⟩ = some (.slice ai (G.getD i []).length ci) ∧ SlB w ai (mkB (c + (pre G i : Int)) (G.getD i []).length)) := hide (fun i hi => by
    obtain ⟨b, off, ea, ai, ci, hc, hs⟩ := hF i (by rw [mkUp_len, hn]; exact hi)
    have e1 : (mkUp mkB c G n).getD i [] = mkB (c + (pre G i : Int)) (G.getD i []).length := by rw [mkUp_get mkB c G n i (by omega), if_pos hi]
    rw [e1, mkB_len] at hc
    rw [e1] at hs
    exact ⟨b, off, ai, ci, ea, hc, hs⟩)
  have HZ := hide hz
  have HN := hide hn
  clear hF hz hn
  go_enter Try.func62, Try.ntmps62
  go_wp2
  go_loopw [1, 5] (fun k i wr => ∃ j : Nat, j ≤ n ∧ i = .int .i64 j ∧ k = .int .i64 (c + (pre G j : Int)) ∧ Hid (Below w.heap.size w wr)) (fun _ i _ => n - (intOf i).toNat)
  case atStart => exact ⟨0, Nat.zero_le _, rfl, by simp [pre], hide (Below.refl _ _)⟩
  case round =>
    obtain ⟨j, hj, rfl, rfl, HB⟩ := hrel
    by_cases hlt : j < n
    · obtain ⟨b, off, ai, ci, rfl, hc0', hs0⟩ := HC.out j hlt
      have hc := (HB.out.cell (p := ⟨b, off + j, none⟩) (blk_lt hc0')).trans hc0'
      have hs := hs0.below HB.out
      have hltI : (j : Int) < (n : Int) := by omega
      have hj0 : (0 : Int) ≤ (j : Int) := by omega
      have hjG : j < G.length := by rw [HN.out]; exact hlt
      have hl40 := HZ.out.s j hjG
      have hp : pre G j ≤ 1048576 := Nat.le_trans (pre_mono G j _ (Nat.le_of_lt hjG)) HZ.out.p
      obtain ⟨mm, hm⟩ : ∃ mm, mm = (G.getD j []).length := ⟨_, rfl⟩
      have hps : pre G (j + 1) = pre G j + mm := by rw [hm]; rfl
      rw [← hm] at hc hl40 hs
      have C := hide (heldBoolS_from ai mm ci (c + (pre G j : Int)) wr (by omega) (by omega) (by omega) hs)
      have HPS := hide hps
      have hcn : ¬ c + (pre G j : Int) + (mm : Int) < 0 := by omega
      clear hm hps hc0' hs hs0
      go_wp2_with fail
      refine C.out.mono ?_
      rintro e w1 ⟨rfl, hb1⟩
      have H1 := hide (HB.out.trans (hb1.mono HB.out.size))
      clear hb1 C
      go_wp2
      go_roundw
      case rel => exact ⟨j + 1, by omega, by go_num, by rw [HPS.out]; simp; omega, H1⟩
      case measure => simp [intOf]; omega
    · obtain rfl : j = n := by omega
      have hltI : ¬ (j : Int) < (j : Int) := by omega
      go_wp2
      go_ret
      exact ⟨rfl, HB.out⟩
end Go.Proofs.Ytfjbiihiaoobhai.L12
