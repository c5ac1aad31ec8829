/-
  Contract of the laws' own helper laws.heldNodeS: it finds the marks of nodes.
-/
import Derived.Test.YtapffbbmofhpobcL8NdMark
namespace Go.Proofs.Ytapffbbmofhpobc.L8
open Go.RowKit L1 L4
set_option linter.unusedVariables false

set_option maxRecDepth 100000 in
set_option maxHeartbeats 1000000 in
theorem heldIntS_from (a : Option Addr) (n cap : Nat) (c : Int) (w : World) (hc0 : 0 ≤ c) (hc1 : c ≤ 4294967296) (hn2 : n ≤ 1048576) (hs : Sl w a (mkC c n)) :
    Calls Try.prog 69 #[.slice a n cap, .int .i64 c] w fun e w' => e = .returned (.int .i64 (c + (n : Int))) ∧ Below w.heap.size w w' := by
  have HS := hide hs
  clear hs
  go_enter Try.func69, Try.ntmps69
  go_wp2
  go_loop [1, 5] (fun k i => ∃ j : Nat, j ≤ n ∧ i = .int .i64 j ∧ k = .int .i64 (c + (j : Int))) (fun _ i => n - (intOf i).toNat)
  case atStart => exact ⟨0, by omega, rfl, by simp⟩
  case round =>
    obtain ⟨j, hj, rfl, rfl⟩ := hrel
    by_cases hlt : j < n
    · obtain ⟨b, off, rfl, hc⟩ := HS.out j (by rw [mkC_len]; exact hlt)
      rw [mkC_get c n j hlt] at hc
      have hltI : (j : Int) < (n : Int) := by omega
      go_wp2
      go_round
      case rel => exact ⟨j + 1, by omega, by go_num, by go_num⟩
      case measure => simp [intOf]; omega
    · have hltI : ¬ (j : Int) < (n : Int) := by omega
      obtain rfl : j = n := by omega
      go_wp2
      go_ret
      exact ⟨rfl, Below.refl _ _⟩

set_option maxRecDepth 100000 in
set_option maxHeartbeats 2000000 in
theorem heldNodeS_any (c0 : Int) (hc0 : 0 ≤ c0) (a : Option Addr) (n cap : Nat) (L : List Nd) (w : World) (hLn : L.length = n) (hn2 : n ≤ 1048576) (hk : ∀ i, i ≤ n → kn c0 L i ≤ 2147483648) (hX : ∀ i, i < n → (gn L i).h.length ≤ 1048576) (hs : SlN w a (mkns c0 L)) :
    Calls Try.prog 46 #[.slice a n cap, .int .i64 c0] w fun e w' => e = .returned (.int .i64 (kn c0 L n)) ∧ Below w.heap.size w w' := by
  have HS := hide hs
  have HLN := hide hLn
  have HK := hide hk
  have HX := hide hX
  clear hs hLn hk hX
  go_enter Try.func46, Try.ntmps46
  go_wp2
  go_loopw [1, 5] (fun k i wr => ∃ j : Nat, j ≤ n ∧ i = .int .i64 j ∧ k = .int .i64 (kn c0 L j) ∧ Below w.heap.size w wr) (fun _ i _ => n - (intOf i).toNat)
  case atStart => exact ⟨0, Nat.zero_le _, rfl, rfl, Below.refl _ _⟩
  case round =>
    obtain ⟨j, hj, rfl, rfl, hbel⟩ := hrel
    by_cases hlt : j < n
    · obtain ⟨b, off, rfl, ai, ci, hat⟩ := HS.out.below hbel j (by rw [mkns_len, HLN.out]; exact hlt)
      have hmk := mkns_get c0 L j (by rw [HLN.out]; exact hlt)
      rw [hmk] at hat
      obtain ⟨d0, d1, d2, d3, d4, d5⟩ := hat
      unfold mkn at d0 d1 d2 d3 d4 d5
      simp only [mkC_len] at d0 d1 d2 d3 d4 d5
      have hltI : (j : Int) < (n : Int) := by omega
      have hj0 : (0 : Int) ≤ (j : Int) := by omega
      have hpos := kn_pos c0 hc0 L j
      have hkle := HK.out (j + 1) (by omega)
      have hkn : kn c0 L (j + 1) = kn c0 L j + 4 + ((gn L j).h.length : Int) := rfl
      have hxl := HX.out j hlt
      obtain ⟨c, hc⟩ : ∃ c, c = kn c0 L j := ⟨_, rfl⟩
      obtain ⟨m, hm⟩ : ∃ m, m = (gn L j).h.length := ⟨_, rfl⟩
      rw [← hc] at d0 d1 d2 d4 d5 hpos hkn ⊢
      rw [← hm] at d3 d4 d5 hkn hxl
      rw [hkn] at hkle
      rw [show c + 3 = c + 1 + 1 + 1 by omega] at d4 d5
      rw [show c + 2 = c + 1 + 1 by omega] at d2
      have CX := hide (heldIntS_from ai m ci (c + 1 + 1 + 1) wr (by omega) (by omega) (by omega) d5)
      have h0 : ¬ (c + 1 + 1 + 1 + (m : Int)) < 0 := by omega
      have HKN := hide hkn
      have HB := hide hbel
      have D4 := hide d4
      clear hmk d5 hc hm hkn hbel d4
      go_wp2_with fail
      refine CX.out.mono ?_
      rintro e w4 ⟨rfl, hb4⟩
      have d4' := (hb4.cell (p := ⟨b, off + j * 5 + 4, none⟩) (blk_lt D4.out)).trans D4.out
      have B4 := hide (HB.out.trans (hb4.mono HB.out.size))
      clear hb4
      go_wp2
      go_roundw
      case rel => exact ⟨j + 1, by omega, by go_num, by rw [HKN.out]; go_num, B4.out⟩
      case measure => simp [intOf]; omega
    · obtain rfl : j = n := by omega
      have hltI : ¬ (j : Int) < (j : Int) := by omega
      obtain ⟨c, hc⟩ : ∃ c, c = kn c0 L j := ⟨_, rfl⟩
      rw [← hc]
      have HC := hide hc
      clear hc
      go_wp2
      go_ret
      exact ⟨by rw [← HC.out]; rfl, hbel⟩
end Go.Proofs.Ytapffbbmofhpobc.L8
