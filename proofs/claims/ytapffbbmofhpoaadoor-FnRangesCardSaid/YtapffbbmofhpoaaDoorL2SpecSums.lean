/-
  Contracts: spec.l2Deltas, spec.l2Sums: the differences, or the running sums, of at most 40 numbers, in new memory, where none runs over.
-/
import Derived.Test.YtapffbbmofhpoaaDoorL2Math
namespace Go.Proofs.YtapffbbmofhpoaaDoor.L1
open Go.RowKit
set_option linter.unusedVariables false

theorem wrap_id {z : Int} (h1 : -9223372036854775808 ≤ z) (h2 : z ≤ 9223372036854775807) : IntKind.i64.wrap z = z := by
  simp only [IntKind.wrap, IntKind.bits, IntKind.signed]
  simp
  omega
theorem dl_bd40 {xs : List Int} {n : Nat} (hn : xs.length = n) (h : OkL xs) : ∀ k, k < n → -4000000000000000000 ≤ (dl 0 xs).getD k 0 ∧ (dl 0 xs).getD k 0 ≤ 4000000000000000000 := fun k hk => by
  have := dl_bd (B := 1000000000000) (by omega) h k (by rw [dl_len]; omega)
  omega
theorem sm_bd40 {xs : List Int} {n : Nat} (hn : xs.length = n) (hn2 : n ≤ 40) (h : OkL xs) : ∀ k, k < n → -4000000000000000000 ≤ (sm 0 xs).getD k 0 ∧ (sm 0 xs).getD k 0 ≤ 4000000000000000000 := fun k hk => by
  have := sm_bd h (k + 1) (by omega)
  rw [List.getD_cons_succ] at this
  omega

set_option maxRecDepth 100000 in
set_option maxHeartbeats 1000000 in
theorem l2Deltas_any (a : Option Addr) (xs : List Int) (n cap : Nat) (w : World) (hn : xs.length = n) (hs : Sl w a xs) (hn2 : n ≤ 40) (hbd : ∀ k, k < n → -4000000000000000000 ≤ (dl 0 xs).getD k 0 ∧ (dl 0 xs).getD k 0 ≤ 4000000000000000000) :
    Calls Tryd.prog 109 #[.slice a n cap] w fun e w' => ∃ v, e = .returned v ∧ w'.ownsRow w.heap.size 3 1 v n ((dl 0 xs).map (Value.int .i64)) ∧ Below w.heap.size w w' := by
  obtain ⟨i0, hi, hz0, hz1, hz2⟩ := info_parts info_int
  have HS := hide hs
  have HN := hide hn
  have HB := hide hbd
  clear hs hn hbd
  go_enter Tryd.func109, Tryd.ntmps109
  go_wp2
  go_loopw [3, 4, 9] (fun o p i wr => ∃ k : Nat, k ≤ n ∧ i = .int .i64 k ∧ p = .int .i64 ((0 :: xs).getD k 0) ∧ wr.ownsRow w.heap.size 3 1 o k (((dl 0 xs).take k).map (Value.int .i64)) ∧ Below w.heap.size w wr) (fun _ _ i _ => n - (intOf i).toNat)
  case atStart => exact ⟨0, Nat.zero_le _, rfl, rfl, World.ownsRow_nil _ _ _ _, Below.refl _ _⟩
  case round =>
    obtain ⟨k, hk, rfl, rfl, hown, hbel⟩ := hrel
    obtain ⟨oa, ocap, rfl, _, _⟩ := own_form hown
    by_cases hlt : k < n
    · obtain ⟨b, off, rfl, hc0⟩ := HS.out k (by rw [HN.out]; exact hlt)
      have hc : wr.cell? ⟨b, off + k, none⟩ = some (.int .i64 (xs.getD k 0)) := by
        rw [hbel.cell (p := ⟨b, off + k, none⟩) (blk_lt hc0)]
        exact hc0
      have hd := dl_get xs 0 k (by rw [HN.out]; exact hlt)
      have hb := HB.out k hlt
      have hnext : (0 :: xs).getD (k + 1) 0 = xs.getD k 0 := List.getD_cons_succ
      have htk := ltake_snoc (dl 0 xs) k (by rw [dl_len, HN.out]; exact hlt)
      obtain ⟨x, hx⟩ : ∃ x, x = xs.getD k 0 := ⟨_, rfl⟩
      obtain ⟨p, hp⟩ : ∃ p, p = (0 :: xs).getD k 0 := ⟨_, rfl⟩
      rw [← hx] at hc hd hnext
      rw [← hp] at hd ⊢
      rw [hd] at htk hb
      obtain ⟨hb1, hb2⟩ := hb
      have hwr : IntKind.i64.wrap (x - p) = x - p := wrap_id (by omega) (by omega)
      have HTK := hide htk
      have HNX := hide hnext
      have hltI : (k : Int) < (n : Int) := by omega
      clear hd htk hnext hc0 hx hp
      go_wp2_with (first
        | (at_builtin; refine wpList_append_own _ rfl _ _ 32 rfl w.heap.size 3 i0 (.int .i64 0) 1 8 Tryd.underlying32 hi hz0 hz1 hz2 rfl (by decide) _ _ _ rfl (hown.alloc _) ⟨wr.heap.size, 0, none⟩ 1 1 [.int .i64 (x - p)] rfl rfl (cell_one_new _ _ _) (by intro u hu; simp at hu; subst hu; rfl) (by unfold maxLen; omega) (by omega) (by have := hbel.size; simp; omega) ?_)
        | go_in)
      intro v' w2 hown' hgrow _
      have hb2 : Below w.heap.size w w2 := (hbel.alloc hbel.size _).grown hgrow (by have := hbel.size; simp; omega) (fun k hk => (hown.lt k hk).1)
      have hown2 : w2.ownsRow w.heap.size 3 1 v' (k + 1) (((dl 0 xs).take (k + 1)).map (Value.int .i64)) := by rw [HTK.out]; simpa using hown'
      clear hown' hgrow hown
      go_wp2
      go_roundw
      case rel => exact ⟨k + 1, by omega, by go_num, by rw [HNX.out], hown2, hb2⟩
      case measure => simp [intOf]; omega
    · obtain rfl : k = n := by omega
      have e : (dl 0 xs).take k = dl 0 xs := List.take_of_length_le (by rw [dl_len, HN.out]; omega)
      rw [e] at hown
      have hltI : ¬ (k : Int) < (k : Int) := by omega
      have HO := hide hown
      clear e hown
      go_wp2
      go_ret
      exact ⟨_, rfl, HO.out, hbel⟩

set_option maxRecDepth 100000 in
set_option maxHeartbeats 1000000 in
theorem l2Sums_any (a : Option Addr) (xs : List Int) (n cap : Nat) (w : World) (hn : xs.length = n) (hs : Sl w a xs) (hn2 : n ≤ 40) (hbd : ∀ k, k < n → -4000000000000000000 ≤ (sm 0 xs).getD k 0 ∧ (sm 0 xs).getD k 0 ≤ 4000000000000000000) :
    Calls Tryd.prog 111 #[.slice a n cap] w fun e w' => ∃ v, e = .returned v ∧ w'.ownsRow w.heap.size 3 1 v n ((sm 0 xs).map (Value.int .i64)) ∧ Below w.heap.size w w' := by
  obtain ⟨i0, hi, hz0, hz1, hz2⟩ := info_parts info_int
  have HS := hide hs
  have HN := hide hn
  have HB := hide hbd
  clear hs hn hbd
  go_enter Tryd.func111, Tryd.ntmps111
  go_wp2
  go_loopw [3, 4, 9] (fun o p i wr => ∃ k : Nat, k ≤ n ∧ i = .int .i64 k ∧ p = .int .i64 ((0 :: sm 0 xs).getD k 0) ∧ wr.ownsRow w.heap.size 3 1 o k (((sm 0 xs).take k).map (Value.int .i64)) ∧ Below w.heap.size w wr) (fun _ _ i _ => n - (intOf i).toNat)
  case atStart => exact ⟨0, Nat.zero_le _, rfl, rfl, World.ownsRow_nil _ _ _ _, Below.refl _ _⟩
  case round =>
    obtain ⟨k, hk, rfl, rfl, hown, hbel⟩ := hrel
    obtain ⟨oa, ocap, rfl, _, _⟩ := own_form hown
    by_cases hlt : k < n
    · obtain ⟨b, off, rfl, hc0⟩ := HS.out k (by rw [HN.out]; exact hlt)
      have hc : wr.cell? ⟨b, off + k, none⟩ = some (.int .i64 (xs.getD k 0)) := by
        rw [hbel.cell (p := ⟨b, off + k, none⟩) (blk_lt hc0)]
        exact hc0
      have hd := sm_get xs 0 k (by rw [HN.out]; exact hlt)
      have hb := HB.out k hlt
      have hnext : (0 :: sm 0 xs).getD (k + 1) 0 = (sm 0 xs).getD k 0 := List.getD_cons_succ
      have htk := ltake_snoc (sm 0 xs) k (by rw [sm_len, HN.out]; exact hlt)
      obtain ⟨x, hx⟩ : ∃ x, x = xs.getD k 0 := ⟨_, rfl⟩
      obtain ⟨p, hp⟩ : ∃ p, p = (0 :: sm 0 xs).getD k 0 := ⟨_, rfl⟩
      rw [← hx] at hc hd
      rw [← hp] at hd ⊢
      rw [hd] at htk hb hnext
      obtain ⟨hb1, hb2⟩ := hb
      have hwr : IntKind.i64.wrap (p + x) = p + x := wrap_id (by omega) (by omega)
      have HTK := hide htk
      have HNX := hide hnext
      have hltI : (k : Int) < (n : Int) := by omega
      clear hd htk hnext hc0 hx hp
      go_wp2_with (first
        | (at_builtin; refine wpList_append_own _ rfl _ _ 32 rfl w.heap.size 3 i0 (.int .i64 0) 1 8 Tryd.underlying32 hi hz0 hz1 hz2 rfl (by decide) _ _ _ rfl (hown.alloc _) ⟨wr.heap.size, 0, none⟩ 1 1 [.int .i64 (p + x)] rfl rfl (cell_one_new _ _ _) (by intro u hu; simp at hu; subst hu; rfl) (by unfold maxLen; omega) (by omega) (by have := hbel.size; simp; omega) ?_)
        | go_in)
      intro v' w2 hown' hgrow _
      have hb2 : Below w.heap.size w w2 := (hbel.alloc hbel.size _).grown hgrow (by have := hbel.size; simp; omega) (fun k hk => (hown.lt k hk).1)
      have hown2 : w2.ownsRow w.heap.size 3 1 v' (k + 1) (((sm 0 xs).take (k + 1)).map (Value.int .i64)) := by rw [HTK.out]; simpa using hown'
      clear hown' hgrow hown
      go_wp2
      go_roundw
      case rel => exact ⟨k + 1, by omega, by go_num, by rw [HNX.out], hown2, hb2⟩
      case measure => simp [intOf]; omega
    · obtain rfl : k = n := by omega
      have e : (sm 0 xs).take k = sm 0 xs := List.take_of_length_le (by rw [sm_len, HN.out]; omega)
      rw [e] at hown
      have hltI : ¬ (k : Int) < (k : Int) := by omega
      have HO := hide hown
      clear e hown
      go_wp2
      go_ret
      exact ⟨_, rfl, HO.out, hbel⟩
end Go.Proofs.YtapffbbmofhpoaaDoor.L1
