/-
  Contract: spec.l1Has.
-/
import Derived.Test.YtkfnejiiancmhaiIn
namespace Go.Proofs.Ytkfnejiiancmhai.Own
open Go.RowKit L1
set_option linter.unusedVariables false

set_option maxRecDepth 100000 in
set_option maxHeartbeats 1000000 in
theorem l1Has_any (a : Option Addr) (xs : List Int) (n cap : Nat) (o : Int) (w : World) (hn : xs.length = n) (hs : Sl w a xs) (hn2 : n ≤ 1048576) (bb : Bool) (hbb : bb = true ↔ o ∈ xs) :
    Calls Try.prog 59 #[.slice a n cap, .int .i64 o] w fun e w' => e = .returned (.bool bb) ∧ Below w.heap.size w w' := by
  have HS := hide hs
  have HN := hide hn
  have HBB := hide hbb
  clear hs hn hbb
  go_enter Try.func59, Try.ntmps59
  go_wp2
  go_loop [9] (fun i => ∃ k : Nat, k ≤ n ∧ i = .int .i64 k ∧ Hid (∀ j, j < k → xs.getD j 0 ≠ o)) (fun i => n - (intOf i).toNat)
  case atStart => exact ⟨0, Nat.zero_le _, rfl, fun j hj => absurd hj (Nat.not_lt_zero _)⟩
  case round =>
    obtain ⟨k, hk, rfl, HJ⟩ := hrel
    by_cases hlt : k < n
    · obtain ⟨b, off, rfl, hc⟩ := HS.out k (by rw [HN.out]; exact hlt)
      have hltI : (k : Int) < (n : Int) := by omega
      obtain ⟨x, hx⟩ : ∃ x, x = xs.getD k 0 := ⟨_, rfl⟩
      rw [← hx] at hc
      have HX := hide hx.symm
      clear hx
      by_cases hle : x = o
      · subst hle
        have hmem : x ∈ xs := by
          have h1 := HX.out
          have h2 : k < xs.length := by rw [HN.out]; exact hlt
          simp only [List.getD, List.getElem?_eq_getElem h2, Option.getD_some] at h1
          rw [← h1]
          exact List.getElem_mem h2
        have HM := hide (HBB.out.2 hmem)
        clear hmem
        go_wp2
        go_ret
        exact ⟨by rw [HM.out]; rfl, Below.refl _ _⟩
      · have hle' : (x == o) = false := by simpa using hle
        have HLE := hide hle
        clear hle
        go_wp2
        go_round
        case rel =>
          refine ⟨k + 1, by omega, by go_num, ?_⟩
          intro j hj
          by_cases e : j = k
          · subst e; rw [HX.out]; exact HLE.out
          · exact HJ.out j (by omega)
        case measure => simp [intOf]; omega
    · have hltI : ¬ (k : Int) < (n : Int) := by omega
      have hmem : o ∉ xs := fun h => by
        obtain ⟨j, hj, e⟩ := List.getElem_of_mem h
        refine HJ.out j (by rw [HN.out] at hj; omega) ?_
        simp only [List.getD, List.getElem?_eq_getElem hj, Option.getD_some]
        exact e
      have HM := hide (bool_noT HBB.out hmem)
      clear hmem
      go_wp2
      go_ret
      exact ⟨by rw [HM.out]; rfl, Below.refl _ _⟩
end Go.Proofs.Ytkfnejiiancmhai.Own
