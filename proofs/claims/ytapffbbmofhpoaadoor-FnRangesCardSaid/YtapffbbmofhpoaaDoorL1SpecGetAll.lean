/-
  Contract: spec.GetAll: of at most 600 bytes the numbers with this text, at most 60, in new memory, and true; else no list and false.
-/
import Derived.Test.YtapffbbmofhpoaaDoorL1SpecReadAll
namespace Go.Proofs.YtapffbbmofhpoaaDoor.L1
open Go.RowKit
set_option linter.unusedVariables false

set_option maxRecDepth 100000 in
set_option maxHeartbeats 1000000 in
theorem specGetAll_any (s : ByteArray) (w : World) (hs : s.size ≤ 1048576) :
    Calls Tryd.prog 24 #[.string s] w fun e w' => RetL w (gaRes (bts s 0)) e w' := by
  have hlen := bts_len s 0
  simp only [Nat.sub_zero] at hlen
  by_cases h600 : 600 < (s.size : Int)
  · have e : gaRes (bts s 0) = none := by unfold gaRes; rw [if_neg (by omega)]
    have E := hide e
    clear e hlen
    go_enter Tryd.func24, Tryd.ntmps24
    go_wp2
    go_ret2
    exact ⟨_, by rw [E.out]; rfl, by rw [E.out]; exact World.ownsRow_nil _ _ _ _, Below.refl _ _⟩
  · have hc := l1GetAll_any s w (by omega)
    cases hg : gall (bts s 0) with
    | none =>
      have e : gaRes (bts s 0) = none := by unfold gaRes; rw [if_pos (by omega), hg]; rfl
      rw [hg] at hc
      have E := hide e
      have HC := hide hc
      clear e hc hg hlen
      go_enter Tryd.func24, Tryd.ntmps24
      go_wp2_with fail
      refine (unhide HC).mono ?_
      rintro e w1 ⟨v, rfl, ho, hb1⟩
      clear ho
      simp only [Option.isSome_none]
      go_wp2
      go_ret2
      exact ⟨_, by rw [E.out]; rfl, by rw [E.out]; exact World.ownsRow_nil _ _ _ _, hb1⟩
    | some xs =>
      rw [hg] at hc
      by_cases h60 : xs.length ≤ 60
      · have e : gaRes (bts s 0) = some xs := by unfold gaRes; rw [if_pos (by omega), hg]; simp [h60]
        have h60I : ¬ 60 < (xs.length : Int) := by omega
        have E := hide e
        have HC := hide hc
        clear e hc hg hlen
        go_enter Tryd.func24, Tryd.ntmps24
        go_wp2_with fail
        refine (unhide HC).mono ?_
        rintro e w1 ⟨v, rfl, ho, hb1⟩
        simp only [Option.isSome_some, Option.getD_some] at ho ⊢
        obtain ⟨a, cap, rfl, _, _⟩ := own_form ho
        have HO := hide ho
        clear ho
        go_wp2
        go_ret2
        exact ⟨_, by rw [E.out]; rfl, by rw [E.out]; exact HO.out, hb1⟩
      · have e : gaRes (bts s 0) = none := by unfold gaRes; rw [if_pos (by omega), hg]; simp [h60]
        have h60I : 60 < (xs.length : Int) := by omega
        have E := hide e
        have HC := hide hc
        clear e hc hg hlen
        go_enter Tryd.func24, Tryd.ntmps24
        go_wp2_with fail
        refine (unhide HC).mono ?_
        rintro e w1 ⟨v, rfl, ho, hb1⟩
        simp only [Option.isSome_some, Option.getD_some] at ho ⊢
        obtain ⟨a, cap, rfl, _, _⟩ := own_form ho
        clear ho
        go_wp2
        go_ret2
        exact ⟨_, by rw [E.out]; rfl, by rw [E.out]; exact World.ownsRow_nil _ _ _ _, hb1⟩
end Go.Proofs.YtapffbbmofhpoaaDoor.L1
