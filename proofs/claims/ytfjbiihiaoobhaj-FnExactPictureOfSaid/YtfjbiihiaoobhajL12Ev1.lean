/-
  Contract: impl.everyWay at impl.GoodBank's closure.
-/
import Derived.Test.YtfjbiihiaoobhajL12GMath
import Derived.Test.YtfjbiihiaoobhajL12Bel
import Derived.Deep.DeepCutAuto
namespace Go.Proofs.Ytfjbiihiaoobhaj.L12
open Go.RowKit L1 L9 Own Sli
set_option linter.unusedVariables false

set_option maxRecDepth 100000 in
set_option maxHeartbeats 4000000 in
theorem everyGood_any (n : Nat) (p : Addr) (w : World) (hn : n ≤ 5) (P : Nat → Nat → Bool) (hC : ∀ wx i j, Below w.heap.size w wx → i < n → j < n → i ≠ j → Calls Try.prog 44 #[.int .i64 (i : Nat), .int .i64 (j : Nat), .pointer (some p)] wx fun e w' => e = .returned (.bool (P i j)) ∧ Below wx.heap.size wx w') (b : Bool) (hb : b = true ↔ ∀ i j, i < n → j < n → i ≠ j → P i j = true) :
    Calls Try.prog 43 #[.int .i64 n, .func (.func 44) #[] #[.pointer (some p)]] w fun e w' => e = .returned (.bool b) ∧ Below w.heap.size w w' := by
  have HB := hide hb
  have C := hide hC
  clear hb hC
  go_enter Try.func43, Try.ntmps43
  go_wp2
  go_loopw [8] (fun t wr => ∃ i : Nat, i ≤ n ∧ t = .int .i64 i ∧ Hid (∀ x y, x < i → y < n → x ≠ y → P x y = true) ∧ Hid (Below w.heap.size w wr)) (fun t _ => n - (intOf t).toNat)
  case atStart => exact ⟨0, Nat.zero_le _, rfl, fun x y hx => absurd hx (Nat.not_lt_zero _), Below.refl _ _⟩
  case round =>
    obtain ⟨i, hi, rfl, HI, BI⟩ := hrel
    by_cases hlt : i < n
    · have hltI : (i : Int) < (n : Int) := by omega
      have i0 : (0 : Int) ≤ (i : Int) := by omega
      go_wp2
      go_loopw [12] (fun t wr => ∃ j : Nat, j ≤ n ∧ t = .int .i64 j ∧ Hid (∀ y, y < j → i ≠ y → P i y = true) ∧ Hid (Below w.heap.size w wr)) (fun t _ => n - (intOf t).toNat)
      case atStart => exact ⟨0, Nat.zero_le _, rfl, fun y hy => absurd hy (Nat.not_lt_zero _), BI⟩
      case round =>
        obtain ⟨j, hj, rfl, HJ, BJ⟩ := hrel
        by_cases hlt2 : j < n
        · have hltJ : (j : Int) < (n : Int) := by omega
          by_cases e : i = j
          · have e' : ((i : Int) != (j : Int)) = false := by simp; omega
            have NX : Hid (∀ y, y < j + 1 → i ≠ y → P i y = true) := hide (fun y hy hne => HJ.out y (by omega) hne)
            clear e
            go_wp2
            go_roundw
            case rel => exact ⟨j + 1, by omega, by go_num, NX, BJ⟩
            case measure => simp [intOf]; omega
          · have e' : ((i : Int) != (j : Int)) = true := by simp; omega
            have C1 := hide (C.out _ i j BJ.out hlt hlt2 e)
            cases hP : P i j with
            | true =>
              rw [hP] at C1
              have NX : Hid (∀ y, y < j + 1 → i ≠ y → P i y = true) := hide (fun y hy hne => by
                by_cases e2 : y = j
                · rw [e2]; exact hP
                · exact HJ.out y (by omega) hne)
              clear e hP
              go_wp2_with (go_at_call 44; refine C1.out.mono ?_; rintro e w1 ⟨rfl, hb1⟩; have B1 := hide (BJ.out.trans (hb1.mono BJ.out.size)); clear hb1)
              go_roundw
              case rel => exact ⟨j + 1, by omega, by go_num, NX, by assumption⟩
              case measure => simp [intOf]; omega
            | false =>
              rw [hP] at C1
              have HM : Hid (b = false) := hide (bool_no12 HB.out (fun h => by have := h i j hlt hlt2 e; rw [hP] at this; cases this))
              clear e hP
              go_wp2_with (go_at_call 44; refine C1.out.mono ?_; rintro e w1 ⟨rfl, hb1⟩; have B1 := hide (BJ.out.trans (hb1.mono BJ.out.size)); clear hb1)
              go_ret
              exact ⟨by rw [HM.out]; rfl, by assumption⟩
        · have hltJ : ¬ (j : Int) < (n : Int) := by omega
          have NX : Hid (∀ x y, x < i + 1 → y < n → x ≠ y → P x y = true) := hide (fun x y hx hy hne => by
            by_cases e : x = i
            · subst e; exact HJ.out y (by omega) hne
            · exact HI.out x y (by omega) hy hne)
          go_wp2
          go_roundw
          case rel => exact ⟨i + 1, by omega, by go_num, NX, BJ⟩
          case measure => simp [intOf]; omega
    · have hltI : ¬ (i : Int) < (n : Int) := by omega
      have HM := hide (HB.out.2 (fun x y hx hy hne => HI.out x y (by omega) hy hne))
      go_wp2
      go_ret
      exact ⟨by rw [HM.out]; rfl, BI.out⟩
end Go.Proofs.Ytfjbiihiaoobhaj.L12
