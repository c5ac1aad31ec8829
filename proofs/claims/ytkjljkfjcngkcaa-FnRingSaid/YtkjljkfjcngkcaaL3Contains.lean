/-
  Contracts: slices.Index, slices.Contains and spec.l1Has over ints; impl.OwnersOf and spec.OwnersOf: the first unlike owners from a hash on, in new memory.
-/
import Derived.Test.YtkjljkfjcngkcaaL3First
import Derived.Maps.AppendAt
namespace Go.Proofs.Ytkjljkfjcngkcaa.L3
open Go.RowKit L1
set_option linter.unusedVariables false

/-- The owners that have been found after k tokens. -/
def onL (l : List (Int × Int)) (f : Nat) (many : Int) : Nat → List Int
  | 0 => []
  | k + 1 => if ((onL l f many k).length : Int) < many ∧ (l.getD ((f + k) % l.length) (0, 0)).2 ∉ onL l f many k then onL l f many k ++ [(l.getD ((f + k) % l.length) (0, 0)).2] else onL l f many k
theorem onL_len (l : List (Int × Int)) (f : Nat) (many : Int) (hm : 0 ≤ many) : ∀ k, ((onL l f many k).length : Int) ≤ many
  | 0 => by simpa [onL] using hm
  | k + 1 => by
    have := onL_len l f many hm k
    unfold onL
    split
    · rename_i h
      have := h.1
      simp only [List.length_append, List.length_cons, List.length_nil]
      omega
    · exact this
open Classical in
noncomputable def onRes (l : List (Int × Int)) (h many : Int) : Option (List Int) := if (RingAsk l h ∧ 1 ≤ many ∧ many ≤ 8) ∧ ¬ ((onL l (fst l h) many l.length).length : Int) < many then some (onL l (fst l h) many l.length) else none
theorem onRes_len (l : List (Int × Int)) (h many : Int) : ((onRes l h many).getD []).length ≤ 8 := by
  unfold onRes
  split
  · rename_i hh
    have := onL_len l (fst l h) many (by omega) l.length
    simp only [Option.getD_some]
    omega
  · simp
theorem cell_one_newT (w : World) (p : Value) (t : TypeId) : ∀ j u, [p][j]? = some u → (w.alloc (.cells #[p] t)).cell? ((⟨w.heap.size, 0, none⟩ : Addr).add j) = some u := by
  intro j u h
  rw [addr_add]
  match j, h with
  | 0, h => simp at h; subst h; simp
  | j + 1, h => simp at h
theorem rem_nat (f k n : Nat) : Int.tmod ((f : Int) + (k : Int)) (n : Int) = (((f + k) % n : Nat) : Int) := by
  rw [Int.tmod_eq_emod_of_nonneg (by omega), Int.natCast_emod]
  simp

set_option maxRecDepth 100000 in
set_option maxHeartbeats 1000000 in
theorem index_any (a : Option Addr) (xs : List Int) (n cap : Nat) (o : Int) (w : World) (hn : xs.length = n) (hs : Sl w a xs) (hn2 : n ≤ 1048576) :
    Calls Try.prog 44 #[.slice a n cap, .int .i64 o] w fun e w' => (∃ k : Int, e = .returned (.int .i64 k) ∧ (0 ≤ k ↔ o ∈ xs)) ∧ w = w' := by
  have HS := hide hs
  have HN := hide hn
  clear hs hn
  go_enter Try.func44, Try.ntmps44
  go_wp2
  go_loop [8] (fun i => ∃ k : Nat, k ≤ n ∧ i = .int .i64 k ∧ Hid (∀ j, j < k → xs.getD j 0 ≠ o)) (fun i => n - (intOf i).toNat)
  case atStart => exact ⟨0, Nat.zero_le _, rfl, fun j hj => absurd hj (Nat.not_lt_zero _)⟩
  case round =>
    obtain ⟨k, hk, rfl, HJ⟩ := hrel
    by_cases hlt : k < n
    · obtain ⟨b, off, rfl, hc⟩ := HS.out k (by rw [HN.out]; exact hlt)
      have hltI : (k : Int) < (n : Int) := by omega
      obtain ⟨x, hx⟩ : ∃ x, x = xs.getD k 0 := ⟨_, rfl⟩
      rw [← hx] at hc
      have HX := hide hx.symm
      clear hx
      by_cases hle : o = x
      · subst hle
        have hmem : o ∈ xs := by
          have h1 := HX.out
          have h2 : k < xs.length := by rw [HN.out]; exact hlt
          simp only [List.getD, List.getElem?_eq_getElem h2, Option.getD_some] at h1
          rw [← h1]
          exact List.getElem_mem h2
        have HM := hide hmem
        clear hmem
        go_wp2
        go_ret
        exact ⟨⟨(k : Int), rfl, by simp [HM.out]⟩, rfl⟩
      · have hle' : (o == x) = false := by simpa using hle
        have HLE := hide hle
        clear hle
        go_wp2
        go_round
        case rel =>
          refine ⟨k + 1, by omega, by go_num, ?_⟩
          intro j hj
          by_cases e : j = k
          · subst e; rw [HX.out]; exact fun h => HLE.out h.symm
          · exact HJ.out j (by omega)
        case measure => simp [intOf]; omega
    · have hltI : ¬ (k : Int) < (n : Int) := by omega
      have hmem : o ∉ xs := fun h => by
        obtain ⟨j, hj, e⟩ := List.getElem_of_mem h
        refine HJ.out j (by rw [HN.out] at hj; omega) ?_
        simp only [List.getD, List.getElem?_eq_getElem hj, Option.getD_some]
        exact e
      have HM := hide hmem
      clear hmem
      go_wp2
      go_ret
      exact ⟨⟨-1, rfl, by simp [HM.out]⟩, rfl⟩
set_option maxRecDepth 100000 in
set_option maxHeartbeats 1000000 in
theorem contains_any (a : Option Addr) (xs : List Int) (n cap : Nat) (o : Int) (w : World) (hn : xs.length = n) (hs : Sl w a xs) (hn2 : n ≤ 1048576) (bb : Bool) (hbb : bb = true ↔ o ∈ xs) :
    Calls Try.prog 37 #[.slice a n cap, .int .i64 o] w fun e w' => e = .returned (.bool bb) ∧ Below w.heap.size w w' := by
  have C := hide (index_any a xs n cap o w hn hs hn2)
  have HBB := hide hbb
  clear hbb hs hn
  go_enter Try.func37, Try.ntmps37
  go_wp2_with fail
  refine C.out.mono ?_
  rintro e w1 ⟨⟨k, rfl, hk⟩, rfl⟩
  have hb : bb = decide (0 ≤ k) := by
    rw [Bool.eq_iff_iff, HBB.out]; simp [hk]
  have HB := hide hb
  clear hk hb
  go_wp2
  go_ret
  exact ⟨by rw [HB.out]; rfl, Below.refl _ _⟩
set_option maxRecDepth 100000 in
set_option maxHeartbeats 1000000 in
theorem l1Has_any (a : Option Addr) (xs : List Int) (n cap : Nat) (o : Int) (w : World) (hn : xs.length = n) (hs : Sl w a xs) (hn2 : n ≤ 1048576) (bb : Bool) (hbb : bb = true ↔ o ∈ xs) :
    Calls Try.prog 38 #[.slice a n cap, .int .i64 o] w fun e w' => e = .returned (.bool bb) ∧ Below w.heap.size w w' := by
  have HS := hide hs
  have HN := hide hn
  have HBB := hide hbb
  clear hs hn hbb
  go_enter Try.func38, Try.ntmps38
  go_wp2
  go_loop [9] (fun i => ∃ k : Nat, k ≤ n ∧ i = .int .i64 k ∧ Hid (∀ j, j < k → xs.getD j 0 ≠ o)) (fun i => n - (intOf i).toNat)
  case atStart => exact ⟨0, Nat.zero_le _, rfl, fun j hj => absurd hj (Nat.not_lt_zero _)⟩
  case round =>
    obtain ⟨k, hk, rfl, HJ⟩ := hrel
    by_cases hlt : k < n
    · obtain ⟨b, off, rfl, hc⟩ := HS.out k (by rw [HN.out]; exact hlt)
      have hltI : (k : Int) < (n : Int) := by omega
      obtain ⟨x, hx⟩ : ∃ x, x = xs.getD k 0 := ⟨_, rfl⟩
      rw [← hx] at hc
      have HX := hide hx.symm
      clear hx
      by_cases hle : x = o
      · subst hle
        have hmem : x ∈ xs := by
          have h1 := HX.out
          have h2 : k < xs.length := by rw [HN.out]; exact hlt
          simp only [List.getD, List.getElem?_eq_getElem h2, Option.getD_some] at h1
          rw [← h1]
          exact List.getElem_mem h2
        have HM := hide (HBB.out.2 hmem)
        clear hmem
        go_wp2
        go_ret
        exact ⟨by rw [HM.out]; rfl, Below.refl _ _⟩
      · have hle' : (x == o) = false := by simpa using hle
        have HLE := hide hle
        clear hle
        go_wp2
        go_round
        case rel =>
          refine ⟨k + 1, by omega, by go_num, ?_⟩
          intro j hj
          by_cases e : j = k
          · subst e; rw [HX.out]; exact HLE.out
          · exact HJ.out j (by omega)
        case measure => simp [intOf]; omega
    · have hltI : ¬ (k : Int) < (n : Int) := by omega
      have hmem : o ∉ xs := fun h => by
        obtain ⟨j, hj, e⟩ := List.getElem_of_mem h
        refine HJ.out j (by rw [HN.out] at hj; omega) ?_
        simp only [List.getD, List.getElem?_eq_getElem hj, Option.getD_some]
        exact e
      have HM := hide (bool_noT HBB.out hmem)
      clear hmem
      go_wp2
      go_ret
      exact ⟨by rw [HM.out]; rfl, Below.refl _ _⟩
end Go.Proofs.Ytkjljkfjcngkcaa.L3
