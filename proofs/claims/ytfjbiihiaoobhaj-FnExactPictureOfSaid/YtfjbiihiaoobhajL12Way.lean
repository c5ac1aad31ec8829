/-
  Contract: impl.WayAt.
-/
import Derived.Test.YtfjbiihiaoobhajL12WayM
import Derived.Test.YtfjbiihiaoobhajL12Bel
namespace Go.Proofs.Ytfjbiihiaoobhaj.L12
open Go.RowKit L1
set_option linter.unusedVariables false

set_option maxRecDepth 100000 in
set_option maxHeartbeats 4000000 in
theorem wayAt_any (N f t : Int) (w : World) (r : Int) (ok : Bool) (hr : WayIs N f t r ok) :
    Calls Try.prog 17 #[.int .i64 N, .int .i64 f, .int .i64 t] w fun e w' => e = .returned (.tuple #[.int .i64 r, .bool ok]) ∧ w = w' := by
  by_cases h1 : N < 1
  · obtain ⟨rfl, rfl⟩ := hr.no (fun h => by have := h.1; omega)
    clear hr
    go_enter Try.func17, Try.ntmps17
    go_wp2
    go_ret2
    exact ⟨rfl, rfl⟩
  by_cases h2 : N > 5
  · obtain ⟨rfl, rfl⟩ := hr.no (fun h => by have := h.2.1; omega)
    clear hr
    have h2' : 5 < N := h2
    go_enter Try.func17, Try.ntmps17
    go_wp2
    go_ret2
    exact ⟨rfl, rfl⟩
  have h2' : ¬ 5 < N := h2
  by_cases h3 : 0 ≤ f ∧ f < N
  rotate_left
  · obtain ⟨rfl, rfl⟩ := hr.no (fun h => h3 ⟨h.2.2.1, h.2.2.2.1⟩)
    clear hr
    go_enter Try.func17, Try.ntmps17
    go_wp2_with fail
    refine (isBelow_any f N _ false (by simp; omega)).mono ?_
    rintro e w1 ⟨rfl, rfl⟩
    go_wp2
    go_ret2
    exact ⟨rfl, rfl⟩
  by_cases h4 : 0 ≤ t ∧ t < N
  rotate_left
  · obtain ⟨rfl, rfl⟩ := hr.no (fun h => h4 ⟨h.2.2.2.2.1, h.2.2.2.2.2.1⟩)
    clear hr
    obtain ⟨h3a, h3b⟩ := h3
    go_enter Try.func17, Try.ntmps17
    go_wp2_with fail
    refine (isBelow_any f N _ true (by simp; omega)).mono ?_
    rintro e w1 ⟨rfl, rfl⟩
    go_wp2_with fail
    refine (isBelow_any t N _ false (by simp; omega)).mono ?_
    rintro e w1 ⟨rfl, rfl⟩
    go_wp2
    go_ret2
    exact ⟨rfl, rfl⟩
  obtain ⟨h3a, h3b⟩ := h3
  obtain ⟨h4a, h4b⟩ := h4
  by_cases h5 : f = t
  · obtain ⟨rfl, rfl⟩ := hr.no (fun h => h.2.2.2.2.2.2 h5)
    clear hr
    subst h5
    go_enter Try.func17, Try.ntmps17
    go_wp2_with fail
    refine (isBelow_any f N _ true (by simp; omega)).mono ?_
    rintro e w1 ⟨rfl, rfl⟩
    go_wp2_with fail
    refine (isBelow_any f N _ true (by simp; omega)).mono ?_
    rintro e w1 ⟨rfl, rfl⟩
    go_wp2
    go_ret2
    exact ⟨rfl, rfl⟩
  have hway : IsWay N f t := ⟨by omega, by omega, h3a, h3b, h4a, h4b, h5⟩
  obtain ⟨rfl, hre⟩ := hr.yes hway
  obtain ⟨p0, p1⟩ := way_small hway
  obtain ⟨p, hp⟩ : ∃ p, f * N = p := ⟨_, rfl⟩
  rw [hp] at p0 p1 hre
  have h5' : (f == t) = false := by simp [h5]
  have HRE := hide hre
  clear hr hway hre
  go_enter Try.func17, Try.ntmps17
  go_wp2_with fail
  refine (isBelow_any f N _ true (by simp; omega)).mono ?_
  rintro e w1 ⟨rfl, rfl⟩
  go_wp2_with fail
  refine (isBelow_any t N _ true (by simp; omega)).mono ?_
  rintro e w1 ⟨rfl, rfl⟩
  go_wp2
  go_ret2
  exact ⟨by rw [HRE.out]; rfl, rfl⟩
end Go.Proofs.Ytfjbiihiaoobhaj.L12
