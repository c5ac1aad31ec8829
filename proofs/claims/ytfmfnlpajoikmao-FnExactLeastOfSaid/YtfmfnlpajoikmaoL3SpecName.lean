/-
  Contracts: spec.l1In, spec.l3Name.
-/
import Derived.Test.YtfmfnlpajoikmaoL3Word1
namespace Go.Proofs.Ytfmfnlpajoikmao.L3
open Go.RowKit L1
set_option linter.unusedVariables false

set_option maxRecDepth 100000 in
set_option maxHeartbeats 400000 in
theorem l1In_yes (x lo hi : Int) (w : World) (h1 : lo ≤ x) (h2 : x ≤ hi) :
    Calls Try.prog 42 #[.int .i64 x, .int .i64 lo, .int .i64 hi] w fun e w' => e = .returned (.bool true) ∧ w = w' := by
  go_enter Try.func42, Try.ntmps42
  go_wp2
  go_ret
  exact ⟨rfl, rfl⟩
set_option maxRecDepth 100000 in
set_option maxHeartbeats 400000 in
theorem l1In_no (x lo hi : Int) (w : World) (h : ¬ (lo ≤ x ∧ x ≤ hi)) :
    Calls Try.prog 42 #[.int .i64 x, .int .i64 lo, .int .i64 hi] w fun e w' => e = .returned (.bool false) ∧ w = w' := by
  by_cases h1 : lo ≤ x
  · have h2 : ¬ x ≤ hi := fun h2 => h ⟨h1, h2⟩
    clear h
    go_enter Try.func42, Try.ntmps42
    go_wp2
    go_ret
    exact ⟨rfl, rfl⟩
  · clear h
    go_enter Try.func42, Try.ntmps42
    go_wp2
    go_ret
    exact ⟨rfl, rfl⟩

set_option maxRecDepth 100000 in
set_option maxHeartbeats 2000000 in
theorem l3Name_any (s : ByteArray) (dig : Bool) (w : World) (hs : s.size ≤ 9223372036854775807) (bb : Bool) (hbb : bb = true ↔ Word dig s) :
    Calls Try.prog 23 #[.string s, .bool dig] w fun e w' => e = .returned (.bool bb) ∧ w = w' := by
  have HBB := hide hbb
  clear hbb
  go_enter Try.func23, Try.ntmps23
  go_wp2
  go_loop [5] (fun i => ∃ k : Nat, k ≤ s.size ∧ i = .int .i64 k ∧ Hid (∀ j, j < k → okB dig ((bts s 0).getD j 0))) (fun i => s.size - (intOf i).toNat)
  case atStart => exact ⟨0, Nat.zero_le _, rfl, fun j hj => absurd hj (Nat.not_lt_zero _)⟩
  case round =>
    obtain ⟨k, hk, rfl, HJ⟩ := hrel
    by_cases hlt : k < s.size
    · have hltI : (k : Int) < (s.size : Int) := by omega
      have hb := bts_at s k hlt
      obtain ⟨b, hbe⟩ : ∃ b, b = (bts s 0).getD k 0 := ⟨_, rfl⟩
      rw [← hbe] at hb
      have hb' := hb.symm
      have HBE := hide hbe.symm
      clear hbe hb
      by_cases hok : okB dig b
      · have R : Hid (∀ j, j < k + 1 → okB dig ((bts s 0).getD j 0)) := fun j hj => by
          by_cases e : j = k
          · subst e; rw [HBE.out]; exact hok
          · exact HJ.out j (by omega)
        by_cases ha : 97 ≤ b ∧ b ≤ 122
        · obtain ⟨ha1, ha2⟩ := ha
          clear hok
          go_wp2
          go_round
          case rel => exact ⟨k + 1, by omega, by go_num, R.out⟩
          case measure => simp [intOf]; omega
        · have hd : dig = true ∧ 48 ≤ b ∧ b ≤ 57 := hok.resolve_left ha
          obtain ⟨hd0, hd1, hd2⟩ := hd
          subst hd0
          have ha1 : ¬ 97 ≤ b := by omega
          clear hok ha
          go_wp2
          go_round
          case rel => exact ⟨k + 1, by omega, by go_num, R.out⟩
          case measure => simp [intOf]; omega
      · have E := hide (bool_noT HBB.out (fun h => hok (by rw [← HBE.out]; exact h.2 k hlt)))
        unfold okB at hok
        by_cases ha1 : 97 ≤ b
        · have ha2 : ¬ b ≤ 122 := by omega
          cases dig with
          | false =>
            clear hok
            go_wp2
            go_ret
            exact ⟨by rw [E.out]; rfl, rfl⟩
          | true =>
            have hd1 : 48 ≤ b := by omega
            have hd2 : ¬ b ≤ 57 := by omega
            clear hok
            go_wp2
            go_ret
            exact ⟨by rw [E.out]; rfl, rfl⟩
        · cases dig with
          | false =>
            clear hok
            go_wp2
            go_ret
            exact ⟨by rw [E.out]; rfl, rfl⟩
          | true =>
            by_cases hd1 : 48 ≤ b
            · have hd2 : ¬ b ≤ 57 := by simp at hok; omega
              clear hok
              go_wp2
              go_ret
              exact ⟨by rw [E.out]; rfl, rfl⟩
            · clear hok
              go_wp2
              go_ret
              exact ⟨by rw [E.out]; rfl, rfl⟩
    · obtain rfl : k = s.size := by omega
      have hltI : ¬ (s.size : Int) < (s.size : Int) := by omega
      by_cases h8 : 1 ≤ (s.size : Int) ∧ (s.size : Int) ≤ 8
      · have C := hide (fun w => l1In_yes (s.size : Int) 1 8 w h8.1 h8.2)
        have E := hide (HBB.out.2 ⟨by omega, HJ.out⟩)
        clear h8
        go_wp2_with fail
        refine (C.out _).mono ?_
        rintro e w1 ⟨rfl, rfl⟩
        go_wp2
        go_ret
        exact ⟨by rw [E.out]; rfl, rfl⟩
      · have C := hide (fun w => l1In_no (s.size : Int) 1 8 w h8)
        have E := hide (bool_noT HBB.out (fun h => h8 (by have := h.1; omega)))
        clear h8
        go_wp2_with fail
        refine (C.out _).mono ?_
        rintro e w1 ⟨rfl, rfl⟩
        go_wp2
        go_ret
        exact ⟨by rw [E.out]; rfl, rfl⟩

end Go.Proofs.Ytfmfnlpajoikmao.L3
