/-
  Contract: spec.l5Word: what a text of letters is.
-/
import Derived.Test.YtkdiffpbljohkayL5Word
namespace Go.Proofs.Ytkdiffpbljohkay.L5
open Go.RowKit L1 L4
set_option linter.unusedVariables false

set_option maxRecDepth 100000 in
set_option maxHeartbeats 1000000 in
theorem l5Word_any (s : ByteArray) (w : World) (hs : s.size ≤ 9223372036854775807) (bb : Bool) (hbb : bb = true ↔ s.size ≤ 12 ∧ Let s) :
    Calls Try.prog 42 #[.string s] w fun e w' => e = .returned (.bool bb) ∧ w = w' := by
  by_cases h12 : (s.size : Int) ≤ 12
  · have C := hide (fun w => l5Letters_any s w hs bb (hbb.trans ⟨fun h => h.2, fun h => ⟨by omega, h⟩⟩))
    by_cases h0 : s.toList = []
    · have e0 := ba_nil.1 h0
      obtain rfl : bb = true := hbb.2 ⟨by omega, fun k hk => by rw [e0] at hk; exact absurd hk (Nat.not_lt_zero _)⟩
      clear hbb e0
      go_enter Try.func42, Try.ntmps42
      go_wp2
      go_ret
      exact ⟨rfl, rfl⟩
    · have HE : Hid (s.toList.isEmpty = false) := by refine hide ?_; simpa using h0
      clear hbb
      go_enter Try.func42, Try.ntmps42
      go_wp2_with fail
      refine (C.out _).mono ?_
      rintro e w1 ⟨rfl, rfl⟩
      go_wp2
      go_ret
      exact ⟨ret_bool (by rw [HE.out]; rfl), rfl⟩
  · obtain rfl : bb = false := bool_noT hbb (fun h => h12 (by have := h.1; omega))
    clear hbb
    go_enter Try.func42, Try.ntmps42
    go_wp2
    go_ret
    exact ⟨rfl, rfl⟩
end Go.Proofs.Ytkdiffpbljohkay.L5
