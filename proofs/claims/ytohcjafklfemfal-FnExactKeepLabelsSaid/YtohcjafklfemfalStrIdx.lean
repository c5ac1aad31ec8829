/-
  Contracts: slices.Index and slices.Contains of texts.
-/
import Derived.Test.YtohcjafklfemfalStr
namespace Go.Proofs.Ytohcjafklfemfal.Str
open Go.RowKit L1
set_option linter.unusedVariables false

theorem ba_eq {x y : ByteArray} : x.toList = y.toList ↔ x = y := by
  constructor
  · intro h
    apply ByteArray.ext
    apply Array.toList_inj.1
    rw [← ByteArray.toList_eq, ← ByteArray.toList_eq, h]
  · rintro rfl
    rfl
theorem memS_get {xs : List ByteArray} {k : Nat} (h : k < xs.length) : xs.getD k e0 ∈ xs := by
  simp only [List.getD, List.getElem?_eq_getElem h, Option.getD_some]
  exact List.getElem_mem h
set_option maxRecDepth 100000 in
set_option maxHeartbeats 1000000 in
theorem indexS_any (a : Option Addr) (xs : List ByteArray) (n cap : Nat) (o : ByteArray) (w : World) (hn : xs.length = n) (hs : SlS w a xs) (hn2 : n ≤ 1048576) :
    Calls Try.prog 104 #[.slice a n cap, .string o] w fun e w' => (∃ k : Int, e = .returned (.int .i64 k) ∧ (0 ≤ k ↔ o ∈ xs)) ∧ w = w' := by
  have HS := hide hs
  have HN := hide hn
  clear hs hn
  go_enter Try.func104, Try.ntmps104
  go_wp2
  go_loop [8] (fun i => ∃ k : Nat, k ≤ n ∧ i = .int .i64 k ∧ Hid (∀ j, j < k → xs.getD j e0 ≠ o)) (fun i => n - (intOf i).toNat)
  case atStart => exact ⟨0, Nat.zero_le _, rfl, fun j hj => absurd hj (Nat.not_lt_zero _)⟩
  case round =>
    obtain ⟨k, hk, rfl, HJ⟩ := hrel
    by_cases hlt : k < n
    · obtain ⟨b, off, rfl, hc⟩ := HS.out k (by rw [HN.out]; exact hlt)
      have hltI : (k : Int) < (n : Int) := by omega
      have hmem := memS_get (xs := xs) (k := k) (by rw [HN.out]; exact hlt)
      obtain ⟨x, hx⟩ : ∃ x, x = xs.getD k e0 := ⟨_, rfl⟩
      rw [← hx] at hc hmem
      have HX := hide hx.symm
      clear hx
      by_cases hle : o = x
      · subst hle
        have HM := hide hmem
        have hoo : (o.toList == o.toList) = true := by simp
        clear hmem
        go_wp2
        go_ret
        exact ⟨⟨(k : Int), rfl, by simp [HM.out]⟩, rfl⟩
      · have hle' : (o.toList == x.toList) = false := by
          rw [beq_eq_false_iff_ne]
          exact fun h => hle (ba_eq.1 h)
        have HLE := hide hle
        clear hle hmem
        go_wp2
        go_round
        case rel =>
          refine ⟨k + 1, by omega, by go_num, ?_⟩
          intro j hj
          by_cases e : j = k
          · subst e; rw [HX.out]; exact fun h => HLE.out h.symm
          · exact HJ.out j (by omega)
        case measure => simp [intOf]; omega
    · have hltI : ¬ (k : Int) < (n : Int) := by omega
      have hmem : o ∉ xs := fun h => by
        obtain ⟨j, hj, e⟩ := List.getElem_of_mem h
        refine HJ.out j (by rw [HN.out] at hj; omega) ?_
        simp only [List.getD, List.getElem?_eq_getElem hj, Option.getD_some]
        exact e
      have HM := hide hmem
      clear hmem
      go_wp2
      go_ret
      exact ⟨⟨-1, rfl, by simp [HM.out]⟩, rfl⟩
set_option maxRecDepth 100000 in
set_option maxHeartbeats 1000000 in
theorem containsS_any (a : Option Addr) (xs : List ByteArray) (n cap : Nat) (o : ByteArray) (w : World) (hn : xs.length = n) (hs : SlS w a xs) (hn2 : n ≤ 1048576) (bb : Bool) (hbb : bb = true ↔ o ∈ xs) :
    Calls Try.prog 91 #[.slice a n cap, .string o] w fun e w' => e = .returned (.bool bb) ∧ w = w' := by
  have C := hide (indexS_any a xs n cap o w hn hs hn2)
  have HBB := hide hbb
  clear hbb hs hn
  go_enter Try.func91, Try.ntmps91
  go_wp2_with fail
  refine C.out.mono ?_
  rintro e w1 ⟨⟨k, rfl, hk⟩, rfl⟩
  have hb : bb = decide (0 ≤ k) := by
    rw [Bool.eq_iff_iff, HBB.out]; simp [hk]
  have HB := hide hb
  clear hk hb
  go_wp2
  go_ret
  exact ⟨by rw [HB.out]; rfl, rfl⟩
end Go.Proofs.Ytohcjafklfemfal.Str
