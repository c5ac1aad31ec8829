/-
  Contract: impl.ReadGamma tells the number with whose bits a text begins, and how many bytes these are.
-/
import Derived.Test.YtlhmailmgpocbaaDoorL1ReadBits
namespace Go.Proofs.YtlhmailmgpocbaaDoor.L1
open Go.RowKit
set_option linter.unusedVariables false

def rgRes : Option (Int × Nat) → Value
  | none => .tuple #[.int .i64 0, .int .i64 0, .bool false]
  | some (v, n) => .tuple #[.int .i64 v, .int .i64 (n : Int), .bool true]

theorem bts_piece (s : ByteArray) (a n : Nat) (h : a + n ≤ s.size) : bts (s.extract a (a + n)) 0 = ((bts s 0).drop a).take n := by
  simp only [bts, ByteArray.data_extract, Array.toList_extract, List.drop_zero, ← List.map_drop, ← List.map_take]
  simp
theorem slice_piece (w : World) (s : ByteArray) (a : Nat) (h : 2 * a < s.size) :
    (Instr.slice 9 (.string s) (some (.int .i64 (a : Int))) (some (.int .i64 (2 * (a : Int) + 1))) none).run Tryd.prog w = .ok (.string (s.extract a (a + (a + 1)))) w := by
  have h := run_slice_string (P := Tryd.prog) w 9 s .i64 .i64 (a : Int) (2 * (a : Int) + 1) Tryd.underlying9 (by omega) (by omega) (by omega)
  rw [h]
  congr 4
  omega
attribute [local go_sem ↓] slice_piece

set_option maxHeartbeats 1000000 in
theorem readGamma_any (s : ByteArray) (w : World) (hs : s.size ≤ 1048576) :
    Calls Tryd.prog 27 #[.string s] w fun e w' => e = .returned (rgRes (rg (bts s 0))) ∧ w = w' := by
  have hl0 := bts_len s 0
  simp only [Nat.sub_zero] at hl0
  by_cases h600 : 600 < s.size
  · have e : rg (bts s 0) = none := by unfold rg; rw [if_neg (by omega)]
    rw [e]
    have h6I : 600 < (s.size : Int) := by omega
    clear e hl0
    go_enter Tryd.func27, Tryd.ntmps27
    go_wp2
    go_ret3
    exact ⟨rfl, rfl⟩
  · have h6I : ¬ 600 < (s.size : Int) := by omega
    have hzl := nz_le (bts s 0)
    have hin := nz_in (bts s 0)
    have hen := nz_end (bts s 0)
    have hrg : rg (bts s 0) = if 2 * nz (bts s 0) + 1 ≤ s.size then (bres (((bts s 0).drop (nz (bts s 0))).take (nz (bts s 0) + 1))).map fun v => (v, 2 * nz (bts s 0) + 1) else none := by
      unfold rg
      rw [hl0]
      by_cases h2 : 2 * nz (bts s 0) + 1 ≤ s.size
      · rw [if_pos h2, if_pos ⟨by omega, h2⟩]
      · rw [if_neg h2, if_neg (by omega)]
    have hpc := bts_piece s (nz (bts s 0)) (nz (bts s 0) + 1)
    have hpl := ByteArray.size_extract (a := s) (b := nz (bts s 0)) (e := nz (bts s 0) + (nz (bts s 0) + 1))
    obtain ⟨Z, hZ⟩ : ∃ Z, Z = nz (bts s 0) := ⟨_, rfl⟩
    rw [← hZ] at hzl hin hen hrg hpc hpl
    rw [hl0] at hzl hen
    have HI := hide hin
    have HE := hide hen
    have HR := hide hrg
    have HP := hide hpc
    have HQ := hide hpl
    clear hin hen hrg hpc hpl hZ hl0
    go_enter Tryd.func27, Tryd.ntmps27
    go_wp2
    go_loop [5] (fun i => ∃ k : Nat, k ≤ Z ∧ i = .int .i64 k) (fun i => s.size - (intOf i).toNat)
    case atStart => exact ⟨0, by omega, rfl⟩
    case round =>
      obtain ⟨k, hk, rfl⟩ := hrel
      by_cases hlt : k < Z
      · have hls : k < s.size := by omega
        have hlI : (k : Int) < (s.size : Int) := by omega
        have hb := (bts_get0 s k hls).symm.trans (HI.out k hlt)
        go_wp2
        go_round
        case rel => exact ⟨k + 1, by omega, by go_num⟩
        case measure => simp [intOf]; omega
      · obtain rfl : k = Z := by omega
        clear hlt hk
        by_cases hls : k < s.size
        · have hlI : (k : Int) < (s.size : Int) := by omega
          have hb := (bts_get0 s k hls).symm
          have hne := HE.out hls
          obtain ⟨b, hbe⟩ : ∃ b, b = (bts s 0).getD k 0 := ⟨_, rfl⟩
          rw [← hbe] at hb hne
          have hne' : (b == 48) = false := by simpa using hne
          clear hbe hne
          by_cases h2 : 2 * k < s.size
          · have h2I : ¬ (s.size : Int) < 2 * (k : Int) + 1 := by omega
            have h2J : (2 * (k : Int) + 1) ≤ (s.size : Int) := by omega
            have hc := readBits_any (s.extract k (k + (k + 1))) w (by rw [HQ.out]; omega)
            rw [HP.out (by omega)] at hc
            have hR := HR.out
            rw [if_pos (by omega)] at hR
            cases hbr : bres (((bts s 0).drop k).take (k + 1)) with
            | none =>
              rw [hbr] at hc hR
              simp only [rbRes] at hc
              have HC := hide hc
              have HRR := hide hR
              clear hc hR hbr
              go_wp2_with (go_at_call 53; refine (unhide HC).mono ?_; rintro e w1 ⟨rfl, rfl⟩)
              go_ret3
              rw [HRR.out]
              exact ⟨rfl, rfl⟩
            | some v =>
              rw [hbr] at hc hR
              simp only [rbRes] at hc
              have HC := hide hc
              have HRR := hide hR
              clear hc hR hbr
              go_wp2_with (go_at_call 53; refine (unhide HC).mono ?_; rintro e w1 ⟨rfl, rfl⟩)
              go_ret3
              rw [HRR.out]
              exact ⟨rfl, rfl⟩
          · have h2I : (s.size : Int) < 2 * (k : Int) + 1 := by omega
            have hR := HR.out
            rw [if_neg (by omega)] at hR
            have HRR := hide hR
            clear hR
            go_wp2
            go_ret3
            rw [HRR.out]
            exact ⟨rfl, rfl⟩
        · have hlI : ¬ (k : Int) < (s.size : Int) := by omega
          have h2I : (s.size : Int) < 2 * (k : Int) + 1 := by omega
          have hR := HR.out
          rw [if_neg (by omega)] at hR
          have HRR := hide hR
          clear hR
          go_wp2
          go_ret3
          rw [HRR.out]
          exact ⟨rfl, rfl⟩
end Go.Proofs.YtlhmailmgpocbaaDoor.L1
