/-
  Contracts: how many samples are ahead of an At.
-/
import Derived.Test.YticgejaaoamhmapL16FilM
import Derived.Test.YticgejaaoamhmapL16Box
namespace Go.Proofs.Yticgejaaoamhmap.L16
open Go.RowKit L1
set_option linter.unusedVariables false

set_option maxRecDepth 100000 in
set_option maxHeartbeats 4000000 in
theorem countBefore_any (a : Option Addr) (l : List (Int × Int)) (n cap : Nat) (t : Int) (w : World) (hn : l.length = n) (hs : Sl2 w a l) (hn2 : n ≤ 1048576) (hc : Ctr l) (c : Nat) (hcc : c = cnt l t n) :
    Calls Try.prog 50 #[.agg #[.slice a n cap], .int .i64 t] w fun e w' => e = .returned (.int .i64 (c : Int)) ∧ Below w.heap.size w w' := by
  obtain ⟨W0, hW0⟩ : ∃ W0, BoxR w a n cap W0 := ⟨_, rfl⟩
  have k0 := hW0.cell
  have K0 := hide k0
  have B0 := hide hW0.below
  have HW := hide (show w.alloc (.cells #[.slice a n cap] 47) = W0 from hW0)
  have HS0 := hide (hs.below hW0.below)
  have HN := hide hn
  have HC := hide hc
  have HCC := hide hcc
  clear hW0 hs hn hc hcc
  go_enter Try.func50, Try.ntmps50
  go_upto_region 1 with fail
  rw [HW.out]
  go_upto_region 2 with fail
  clear k0
  go_loopw [10] (fun i wr => ∃ k : Nat, k ≤ n ∧ i = .int .i64 (k : Int) ∧ Hid (∀ j, j < k → at_ l j < t) ∧ Hid (Below W0.heap.size W0 wr)) (fun i _ => n - (intOf i).toNat)
  case atStart => exact ⟨0, Nat.zero_le _, rfl, fun j hj => absurd hj (Nat.not_lt_zero _), Below.refl _ _⟩
  case round =>
    obtain ⟨k, hk, rfl, HJ, BW⟩ := hrel
    by_cases hlt : k < n
    · have hltI : (k : Int) < (n : Int) := by omega
      have hkl : k < l.length := by rw [HN.out]; exact hlt
      obtain ⟨b, off, rfl, hx0, hv0⟩ := sl2_at HS0.out hkl
      have hcx := (BW.out.cell (p := ⟨b, off + k * 2, none⟩) (blk_lt hx0)).trans hx0
      have hcv := (BW.out.cell (p := ⟨b, off + k * 2 + 1, none⟩) (blk_lt hv0)).trans hv0
      have B2 := hide (BW.out.alloc BW.out.size (.cells #[.int .i64 (at_ l k), .int .i64 (vl l k)] 42 (0, 0)))
      by_cases h0 : t ≤ at_ l k
      · have E := hide (show c = k by rw [HCC.out, ← HN.out]; exact cnt_of HC.out (by omega) HJ.out (fun _ => h0))
        generalize at_ l k = x at hcx B2 h0
        generalize vl l k = y at hcv B2
        have B3 := hide (B0.out.trans (B2.out.mono B0.out.size))
        clear hx0 hv0 hkl
        go_wp2
        go_ret
        exact ⟨by rw [E.out]; rfl, B3.out⟩
      · have HJ2 : Hid (∀ j, j < k + 1 → at_ l j < t) := fun j hj => by
          by_cases e : j = k
          · rw [e]; omega
          · exact HJ.out j (by omega)
        generalize at_ l k = x at hcx B2 h0
        generalize vl l k = y at hcv B2
        clear hx0 hv0 hkl
        go_wp2
        go_roundw
        case rel => exact ⟨k + 1, by omega, by go_num, HJ2, B2⟩
        case measure => simp [intOf]; omega
    · have hltI : ¬ (k : Int) < (n : Int) := by omega
      obtain rfl : k = n := by omega
      have E := hide (show c = k by rw [HCC.out, ← HN.out]; exact cnt_of HC.out (by omega) (fun j hj => HJ.out j (by rw [← HN.out]; exact hj)) (fun h => absurd h (Nat.lt_irrefl _)))
      have k1 := (BW.out.cell (p := ⟨w.heap.size, 0, none⟩) (blk_lt K0.out)).trans K0.out
      have B3 := hide (B0.out.trans (BW.out.mono B0.out.size))
      go_wp2
      go_ret
      exact ⟨by rw [E.out]; rfl, B3.out⟩
end Go.Proofs.Yticgejaaoamhmap.L16
