/-
  Contracts: slices.Index and slices.Contains of ints.
-/
import Derived.Test.YtfjbiihiaoobhajL1Sl
namespace Go.Proofs.Ytfjbiihiaoobhaj.L1
open Go.RowKit
set_option linter.unusedVariables false

set_option maxRecDepth 100000 in
set_option maxHeartbeats 1000000 in
theorem index_any (a : Option Addr) (xs : List Int) (n cap : Nat) (o : Int) (w : World) (hn : xs.length = n) (hs : Sl w a xs) (hn2 : n ≤ 1048576) :
    Calls Try.prog 50 #[.slice a n cap, .int .i64 o] w fun e w' => (∃ k : Int, e = .returned (.int .i64 k) ∧ (0 ≤ k ↔ o ∈ xs)) ∧ w = w' := by
  have HS := hide hs
  have HN := hide hn
  clear hs hn
  go_enter Try.func50, Try.ntmps50
  go_wp2
  go_loop [8] (fun i => ∃ k : Nat, k ≤ n ∧ i = .int .i64 k ∧ Hid (∀ j, j < k → xs.getD j 0 ≠ o)) (fun i => n - (intOf i).toNat)
  case atStart => exact ⟨0, Nat.zero_le _, rfl, fun j hj => absurd hj (Nat.not_lt_zero _)⟩
  case round =>
    obtain ⟨k, hk, rfl, HJ⟩ := hrel
    by_cases hlt : k < n
    · obtain ⟨b, off, rfl, hc⟩ := HS.out k (by rw [HN.out]; exact hlt)
      have hltI : (k : Int) < (n : Int) := by omega
      obtain ⟨x, hx⟩ : ∃ x, x = xs.getD k 0 := ⟨_, rfl⟩
      rw [← hx] at hc
      have HX := hide hx.symm
      clear hx
      by_cases hle : o = x
      · subst hle
        have hmem : o ∈ xs := by
          have h1 := HX.out
          have h2 : k < xs.length := by rw [HN.out]; exact hlt
          simp only [List.getD, List.getElem?_eq_getElem h2, Option.getD_some] at h1
          rw [← h1]
          exact List.getElem_mem h2
        have HM := hide hmem
        clear hmem
        go_wp2
        go_ret
        exact ⟨⟨(k : Int), rfl, by simp [HM.out]⟩, rfl⟩
      · have hle' : (o == x) = false := by simpa using hle
        have HLE := hide hle
        clear hle
        go_wp2
        go_round
        case rel =>
          refine ⟨k + 1, by omega, by go_num, ?_⟩
          intro j hj
          by_cases e : j = k
          · subst e; rw [HX.out]; exact fun h => HLE.out h.symm
          · exact HJ.out j (by omega)
        case measure => simp [intOf]; omega
    · have hltI : ¬ (k : Int) < (n : Int) := by omega
      have hmem : o ∉ xs := fun h => by
        obtain ⟨j, hj, e⟩ := List.getElem_of_mem h
        refine HJ.out j (by rw [HN.out] at hj; omega) ?_
        simp only [List.getD, List.getElem?_eq_getElem hj, Option.getD_some]
        exact e
      have HM := hide hmem
      clear hmem
      go_wp2
      go_ret
      exact ⟨⟨-1, rfl, by simp [HM.out]⟩, rfl⟩
set_option maxRecDepth 100000 in
set_option maxHeartbeats 1000000 in
theorem contains_any (a : Option Addr) (xs : List Int) (n cap : Nat) (o : Int) (w : World) (hn : xs.length = n) (hs : Sl w a xs) (hn2 : n ≤ 1048576) (bb : Bool) (hbb : bb = true ↔ o ∈ xs) :
    Calls Try.prog 47 #[.slice a n cap, .int .i64 o] w fun e w' => e = .returned (.bool bb) ∧ Below w.heap.size w w' := by
  have C := hide (index_any a xs n cap o w hn hs hn2)
  have HBB := hide hbb
  clear hbb hs hn
  go_enter Try.func47, Try.ntmps47
  go_wp2_with fail
  refine C.out.mono ?_
  rintro e w1 ⟨⟨k, rfl, hk⟩, rfl⟩
  have hb : bb = decide (0 ≤ k) := by
    rw [Bool.eq_iff_iff, HBB.out]; simp [hk]
  have HB := hide hb
  clear hk hb
  go_wp2
  go_ret
  exact ⟨by rw [HB.out]; rfl, Below.refl _ _⟩
end Go.Proofs.Ytfjbiihiaoobhaj.L1
