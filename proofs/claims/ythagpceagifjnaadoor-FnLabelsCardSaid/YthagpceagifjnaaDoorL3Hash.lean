/-
  Contracts: impl.HashText and spec.HashText tell a text's hash, and true, where it has at most 600 bytes; else 0 and false.
-/
import Derived.Test.YthagpceagifjnaaDoorL1Bytes
namespace Go.Proofs.YthagpceagifjnaaDoor.L3
open Go.RowKit L1
set_option linter.unusedVariables false

/-- The hash of the first bytes. -/
def hsh (l : List Int) : Nat → Int
  | 0 => 7
  | k + 1 => Int.tmod (31 * hsh l k + l.getD k 0) 1009
theorem hsh_bd {l : List Int} (hl : ∀ k, 0 ≤ l.getD k 0) : ∀ k, 0 ≤ hsh l k ∧ hsh l k < 1009
  | 0 => by simp [hsh]
  | k + 1 => by
    have h1 := hsh_bd hl k
    have h2 := hl k
    unfold hsh
    rw [Int.tmod_eq_emod_of_nonneg (by omega)]
    omega
theorem bts_get0 (s : ByteArray) (k : Nat) (h : k < s.size) : (bts s 0).getD k 0 = ((s[k]'h).toNat : Int) := by
  have := bts_get s 0 k (by omega)
  simp only [Nat.zero_add] at this
  exact this

set_option maxRecDepth 100000 in
set_option maxHeartbeats 1000000 in
theorem hashText_in (s : ByteArray) (w : World) (hs : s.size ≤ 600) :
    Calls Tryd.prog 71 #[.string s] w fun e w' => e = .returned (.tuple #[.int .i64 (hsh (bts s 0) s.size), .bool true]) ∧ w = w' := by
  have hs' : ¬ 600 < (s.size : Int) := by omega
  have hbd := hide (hsh_bd (fun k => (bts_byte s 0 k).1))
  have hby := hide (bts_byte s 0)
  go_enter Tryd.func71, Tryd.ntmps71
  go_wp2
  go_loop [4, 5] (fun n i => ∃ k : Nat, k ≤ s.size ∧ i = .int .i64 k ∧ n = .int .i64 (hsh (bts s 0) k)) (fun _ i => s.size - (intOf i).toNat)
  case atStart => exact ⟨0, by omega, rfl, rfl⟩
  case round =>
    obtain ⟨k, hk, rfl, rfl⟩ := hrel
    by_cases hlt : k < s.size
    · have hltI : (k : Int) < (s.size : Int) := by omega
      have hb := bts_get0 s k hlt
      have h1 := hbd.out k
      have h2 := hby.out k
      have hn : Int.tmod (31 * hsh (bts s 0) k + (bts s 0).getD k 0) 1009 = hsh (bts s 0) (k + 1) := rfl
      obtain ⟨b, hbe⟩ : ∃ b, b = (bts s 0).getD k 0 := ⟨_, rfl⟩
      rw [← hbe] at hb hn h2
      obtain ⟨h, hhe⟩ : ∃ h, h = hsh (bts s 0) k := ⟨_, rfl⟩
      rw [← hhe] at hn h1 ⊢
      obtain ⟨h', hhe'⟩ : ∃ h, h = hsh (bts s 0) (k + 1) := ⟨_, rfl⟩
      rw [← hhe'] at hn
      have HE := hide hhe'
      have hb' := hb.symm
      clear hbe hhe hhe' hb
      go_wp2
      go_round
      case rel => exact ⟨k + 1, by omega, by go_num, by rw [HE.out]⟩
      case measure => simp [intOf]; omega
    · obtain rfl : k = s.size := by omega
      have hltI : ¬ (s.size : Int) < (s.size : Int) := by omega
      go_wp2
      go_ret2
      exact ⟨rfl, rfl⟩

set_option maxRecDepth 100000 in
set_option maxHeartbeats 1000000 in
theorem l3Hash_any (s : ByteArray) (w : World) (hs : s.size ≤ 600) :
    Calls Tryd.prog 124 #[.string s] w fun e w' => e = .returned (.int .i64 (hsh (bts s 0) s.size)) ∧ w = w' := by
  have hbd := hide (hsh_bd (fun k => (bts_byte s 0 k).1))
  have hby := hide (bts_byte s 0)
  go_enter Tryd.func124, Tryd.ntmps124
  go_wp2
  go_loop [3, 4] (fun n i => ∃ k : Nat, k ≤ s.size ∧ i = .int .i64 k ∧ n = .int .i64 (hsh (bts s 0) k)) (fun _ i => s.size - (intOf i).toNat)
  case atStart => exact ⟨0, by omega, rfl, rfl⟩
  case round =>
    obtain ⟨k, hk, rfl, rfl⟩ := hrel
    by_cases hlt : k < s.size
    · have hltI : (k : Int) < (s.size : Int) := by omega
      have hb := bts_get0 s k hlt
      have h1 := hbd.out k
      have h2 := hby.out k
      have hn : Int.tmod (31 * hsh (bts s 0) k + (bts s 0).getD k 0) 1009 = hsh (bts s 0) (k + 1) := rfl
      obtain ⟨b, hbe⟩ : ∃ b, b = (bts s 0).getD k 0 := ⟨_, rfl⟩
      rw [← hbe] at hb hn h2
      obtain ⟨h, hhe⟩ : ∃ h, h = hsh (bts s 0) k := ⟨_, rfl⟩
      rw [← hhe] at hn h1 ⊢
      obtain ⟨h', hhe'⟩ : ∃ h, h = hsh (bts s 0) (k + 1) := ⟨_, rfl⟩
      rw [← hhe'] at hn
      have HE := hide hhe'
      have hb' := hb.symm
      clear hbe hhe hhe' hb
      go_wp2
      go_round
      case rel => exact ⟨k + 1, by omega, by go_num, by rw [HE.out]⟩
      case measure => simp [intOf]; omega
    · obtain rfl : k = s.size := by omega
      have hltI : ¬ (s.size : Int) < (s.size : Int) := by omega
      go_wp2
      go_ret
      exact ⟨rfl, rfl⟩
set_option maxRecDepth 100000 in
set_option maxHeartbeats 1000000 in
theorem specHash_in (s : ByteArray) (w : World) (hs : s.size ≤ 600) :
    Calls Tryd.prog 72 #[.string s] w fun e w' => e = .returned (.tuple #[.int .i64 (hsh (bts s 0) s.size), .bool true]) ∧ w = w' := by
  have hs' : ¬ 600 < (s.size : Int) := by omega
  have C := hide (l3Hash_any s w hs)
  go_enter Tryd.func72, Tryd.ntmps72
  go_wp2_with fail
  refine C.out.mono ?_
  rintro e w1 ⟨rfl, rfl⟩
  go_wp2
  go_ret2
  exact ⟨rfl, rfl⟩
set_option maxRecDepth 100000 in
set_option maxHeartbeats 1000000 in
theorem hashText_out (s : ByteArray) (w : World) (hs' : 600 < (s.size : Int)) :
    Calls Tryd.prog 71 #[.string s] w fun e w' => e = .returned (.tuple #[.int .i64 0, .bool false]) ∧ w = w' := by
  go_enter Tryd.func71, Tryd.ntmps71
  go_wp2
  go_ret2
  exact ⟨rfl, rfl⟩
set_option maxRecDepth 100000 in
set_option maxHeartbeats 1000000 in
theorem specHash_out (s : ByteArray) (w : World) (hs' : 600 < (s.size : Int)) :
    Calls Tryd.prog 72 #[.string s] w fun e w' => e = .returned (.tuple #[.int .i64 0, .bool false]) ∧ w = w' := by
  go_enter Tryd.func72, Tryd.ntmps72
  go_wp2
  go_ret2
  exact ⟨rfl, rfl⟩
end Go.Proofs.YthagpceagifjnaaDoor.L3
