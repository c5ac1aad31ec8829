/-
  Contract: impl.readBits tells the number with some binary digits, and true, where it is at most 1000000; else 0 and false.
-/
import Derived.Test.YtlhmailmgpocbaaDoorL1Bytes
import Derived.Test.YtlhmailmgpocbaaDoorL1Bits
namespace Go.Proofs.YtlhmailmgpocbaaDoor.L1
open Go.RowKit
set_option linter.unusedVariables false

def rbRes : Option Int → Value
  | none => .tuple #[.int .i64 0, .bool false]
  | some v => .tuple #[.int .i64 v, .bool true]

theorem bts_get0 (s : ByteArray) (k : Nat) (h : k < s.size) : (bts s 0).getD k 0 = ((s[k]'h).toNat : Int) := by
  have := bts_get s 0 k (by omega)
  simp only [Nat.zero_add] at this
  exact this

set_option maxHeartbeats 1000000 in
theorem readBits_any (s : ByteArray) (w : World) (hs : s.size ≤ 1048576) :
    Calls Tryd.prog 53 #[.string s] w fun e w' => e = .returned (rbRes (bres (bts s 0))) ∧ w = w' := by
  have htl := hide (bts_len s 0)
  go_enter Tryd.func53, Tryd.ntmps53
  go_wp2
  go_loop [4, 5] (fun n i => ∃ k : Nat, k ≤ s.size ∧ i = .int .i64 k ∧ n = .int .i64 (bval ((bts s 0).take k)) ∧ Hid (good ((bts s 0).take k) = true) ∧ bval ((bts s 0).take k) ≤ 1000000) (fun _ i => s.size - (intOf i).toNat)
  case atStart => exact ⟨0, by omega, rfl, rfl, rfl, by simp [bval, bstep]⟩
  case round =>
    obtain ⟨k, hk, rfl, rfl, HG, hv1⟩ := hrel
    have hv0 := (bval_bd HG.out).1
    by_cases hlt : k < s.size
    · have hltI : (k : Int) < (s.size : Int) := by omega
      have hb := bts_get0 s k hlt
      have ht1 := btake_one (bts s 0) k (by rw [htl.out]; omega)
      have hsn := bval_snoc ((bts s 0).take k) ((bts s 0).getD k 0)
      rw [← ht1] at hsn
      have hbad := bres_bad (bts s 0) k (by rw [htl.out]; omega)
      have hbig := bres_big (bts s 0) (k + 1)
      have hgs : ((bts s 0).getD k 0 = 48 ∨ (bts s 0).getD k 0 = 49) → good ((bts s 0).take (k + 1)) = true := fun h => by
        rw [ht1]; exact good_snoc.2 ⟨HG.out, h⟩
      obtain ⟨b, hbe⟩ : ∃ b, b = (bts s 0).getD k 0 := ⟨_, rfl⟩
      rw [← hbe] at hb hsn hbad hgs
      obtain ⟨v, hve⟩ : ∃ v, v = bval ((bts s 0).take k) := ⟨_, rfl⟩
      rw [← hve] at hsn hv0 hv1 ⊢
      have HS := hide hsn
      have HBD := hide hbad
      have HBG := hide hbig
      have HGS := hide hgs
      have hb' := hb.symm
      clear hbe hve hb ht1 hsn hbad hbig hgs
      by_cases h48 : b = 48
      · subst h48
        by_cases hgt : 1000000 < 2 * v
        · have hgt' : 1000000 < 2 * v + 0 := by omega
          go_wp2
          go_ret2
          rw [HBG.out (by rw [HS.out]; omega)]
          exact ⟨rfl, rfl⟩
        · go_wp2
          go_round
          case rel => exact ⟨k + 1, by omega, by go_num, by rw [HS.out]; go_num, HGS.out (.inl rfl), by rw [HS.out]; omega⟩
          case measure => simp [intOf]; omega
      · by_cases h49 : b = 49
        · subst h49
          by_cases hgt : 1000000 < 2 * v + 1
          · go_wp2
            go_ret2
            rw [HBG.out (by rw [HS.out]; omega)]
            exact ⟨rfl, rfl⟩
          · go_wp2
            go_round
            case rel => exact ⟨k + 1, by omega, by go_num, by rw [HS.out]; go_num, HGS.out (.inr rfl), by rw [HS.out]; omega⟩
            case measure => simp [intOf]; omega
        · have h48' : (b != 48) = true := by simpa using h48
          have h49' : (b != 49) = true := by simpa using h49
          have hn := hide (HBD.out h48 h49)
          clear h48 h49
          go_wp2
          go_ret2
          rw [hn.out]
          exact ⟨rfl, rfl⟩
    · have hltI : ¬ (k : Int) < (s.size : Int) := by omega
      have e : bres (bts s 0) = some (bval ((bts s 0).take k)) := by
        have hg := HG.out
        rw [List.take_of_length_le (by rw [htl.out]; omega)] at hg hv1 ⊢
        unfold bres
        rw [if_pos ⟨hg, hv1⟩]
      have E := hide e
      clear e
      go_wp2
      go_ret2
      rw [E.out]
      exact ⟨rfl, rfl⟩
end Go.Proofs.YtlhmailmgpocbaaDoor.L1
