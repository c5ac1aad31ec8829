/-
  Contract: spec.NewPoll.
-/
import Derived.Test.YtapffbbmofhpobcL8New
namespace Go.Proofs.Ytapffbbmofhpobc.L8
open Go.RowKit L1 L4
set_option linter.unusedVariables false


set_option maxRecDepth 100000 in
set_option maxHeartbeats 4000000 in
theorem specNewPoll_any (a : Option Addr) (xs : List Int) (n cap : Nat) (w : World) (hn : xs.length = n) (hs : Sl w a xs) (hn2 : n ≤ 1048576) (M : List NV) (ok : Bool) (hM : Ages xs → M = newM xs ∧ ok = true) (hM0 : ¬ Ages xs → M = [] ∧ ok = false) :
    Calls Try.prog 9 #[.slice a n cap] w (RetP w M ok) := by
  obtain ⟨i1, hi1, hy0, hy1, hy2⟩ := info_parts info_node
  have ZP := blkP (blk_new w (.cells #[.slice none 0 0, .slice none 0 0, .slice none 0 0] 27 (0, 0)))
  have ZB := hide ((Below.refl w.heap.size w).alloc (Nat.le_refl _) (.cells #[.slice none 0 0, .slice none 0 0, .slice none 0 0] 27 (0, 0)))
  by_cases h1 : 1 ≤ (n : Int) ∧ (n : Int) ≤ 5
  rotate_left
  · obtain ⟨rfl, rfl⟩ := hM0 (fun h => h1 ⟨by have := h.1; omega, by have := h.2.1; omega⟩)
    have C1 := hide (fun w => l1In_any (n : Int) 1 5 w false (by simp only [Bool.false_eq_true, false_iff]; exact h1))
    clear hs hn hM hM0 h1
    obtain ⟨z0, z1, z2, z3, z4, z5⟩ := ZP
    go_enter Try.func9, Try.ntmps9
    go_wp2_with fail
    refine (C1.out _).mono ?_
    rintro e w1 ⟨rfl, rfl⟩
    go_wp2
    refine bodyPost_ret (v := .tuple #[.agg #[.slice none 0 0, .slice none 0 0, .slice none 0 0], .bool false]) (by simp [results, Try.f9, go_sem, z0, z1, z2]) rfl (retP_none ?_)
    first | exact ZB.out | exact (((ZB.out.setCell (p := ⟨_, _, none⟩) (Nat.le_refl _) _).setCell (p := ⟨_, _, none⟩) (Nat.le_refl _) _).setCell (p := ⟨_, _, none⟩) (Nat.le_refl _) _)
  have C1 := hide (fun w => l1In_any (n : Int) 1 5 w true (by simp [h1]))
  obtain ⟨h1a, h1b⟩ := h1
  by_cases h2 : ∀ j, j < n → 0 ≤ xs.getD j 0 ∧ xs.getD j 0 ≤ 9
  rotate_left
  · obtain ⟨rfl, rfl⟩ := hM0 (fun h => h2 (fun j hj => h.2.2 j (by omega)))
    have C2 := hide (fun w hs => l1All_any a xs n cap 0 9 w hn hs hn2 false (by simp only [Bool.false_eq_true, false_iff]; exact h2))
    have HS := hide hs
    clear hs hn hM hM0 h2
    obtain ⟨z0, z1, z2, z3, z4, z5⟩ := ZP
    go_enter Try.func9, Try.ntmps9
    go_wp2_with fail
    refine (C1.out _).mono ?_
    rintro e w1 ⟨rfl, rfl⟩
    go_wp2_with fail
    refine (C2.out _ (HS.out.below ZB.out)).mono ?_
    rintro e w1 ⟨rfl, rfl⟩
    go_wp2
    refine bodyPost_ret (v := .tuple #[.agg #[.slice none 0 0, .slice none 0 0, .slice none 0 0], .bool false]) (by simp [results, Try.f9, go_sem, z0, z1, z2]) rfl (retP_none ?_)
    first | exact ZB.out | exact (((ZB.out.setCell (p := ⟨_, _, none⟩) (Nat.le_refl _) _).setCell (p := ⟨_, _, none⟩) (Nat.le_refl _) _).setCell (p := ⟨_, _, none⟩) (Nat.le_refl _) _)
  have C2 := hide (fun w hs => l1All_any a xs n cap 0 9 w hn hs hn2 true (by simp only [true_iff]; exact h2))
  obtain ⟨rfl, rfl⟩ := hM ⟨by omega, by omega, fun j hj => h2 j (by omega)⟩
  clear hM hM0 h2
  have HS := hide hs
  have HN := hide hn
  clear hs hn ZP
  go_enter Try.func9, Try.ntmps9
  go_wp2_with fail
  refine (C1.out _).mono ?_
  rintro e w1 ⟨rfl, rfl⟩
  go_wp2_with fail
  refine (C2.out _ (HS.out.below ZB.out)).mono ?_
  rintro e w1 ⟨rfl, rfl⟩
  go_wp2
  go_loopw [19] (fun i wr => ∃ k : Nat, k ≤ n ∧ i = .int .i64 k ∧ NewAt w xs k wr) (fun i _ => n - (intOf i).toNat)
  case atStart => exact ⟨0, Nat.zero_le _, rfl, newAt_start w xs⟩
  case round =>
    obtain ⟨k, hk, rfl, hat⟩ := hrel
    obtain ⟨va, vc, hown, hbel, hres, hvar⟩ := hat.parts
    obtain ⟨z0, z1, z2, z3, z4, z5⟩ := blkP hres
    obtain ⟨y0, y1, y2, y3, y4, y5⟩ := blkP hvar
    by_cases hlt : k < n
    · obtain ⟨b, off, rfl, hc0⟩ := HS.out k (by rw [HN.out]; exact hlt)
      have hc := (hbel.cell (p := ⟨b, off + k, none⟩) (blk_lt hc0)).trans hc0
      have hltI : (k : Int) < (n : Int) := by omega
      have hsn := newM_snoc xs k (by rw [HN.out]; exact hlt)
      obtain ⟨x, hx⟩ : ∃ x, x = xs.getD k 0 := ⟨_, rfl⟩
      rw [← hx] at hc hsn
      have HX := hide hx.symm
      have HSN := hide hsn
      have HO := hide hown
      have HB := hide hbel
      have HV := hide hvar
      have HR := hide hres
      have hsz : w.heap.size + 2 ≤ wr.heap.size := hat.sz
      clear hx hc0 hsn hown hbel hat hvar hres
      go_wp2_with (first
        | (at_builtin; refine wpList_append_own _ rfl _ _ 23 rfl (w.heap.size + 2) 70 i1 (.agg #[.int .i64 0, .int .i64 0, .int .i64 0, .slice none 0 0, .int .i64 0]) 5 56 Try.underlying23 hi1 hy0 hy1 hy2 rfl (by decide) _ _ _ rfl (HO.out.alloc _) ⟨wr.heap.size, 0, none⟩ 1 1 [.int .i64 0, .int .i64 (-1), .int .i64 x, .slice none 0 0, .int .i64 0] rfl rfl (cell_five_new _ _ _ _ _ _ _) (new_one x) (by unfold maxLen; omega) (by omega) (by simp; omega) ?_)
        | go_in)
      intro v6 w6 hown6 hgrow6 _
      obtain ⟨a6, c6, rfl⟩ := own_shapeT hown6
      have R := newAt_step HO.out HB.out HR.out HV.out hsz HSN.out hown6 hgrow6
      obtain ⟨⟨q0, q1⟩, R2⟩ := R
      have HR2 := hide R2
      clear hown6 hgrow6 R2
      go_wp2
      go_roundw
      case rel => exact ⟨k + 1, by omega, by go_num, HR2.out⟩
      case measure => simp [intOf]; omega
    · obtain rfl : k = n := by omega
      have hltI : ¬ (k : Int) < (k : Int) := by omega
      have e1 : xs.take k = xs := List.take_of_length_le (by rw [HN.out]; exact Nat.le_refl _)
      rw [e1] at hown
      have HO := hide (own_newM HN.out hown)
      have HB := hide hbel
      clear hown hbel e1 hat hvar hres
      go_wp2
      refine bodyPost_ret (v := .tuple #[.agg #[.slice va k vc, .slice none 0 0, .slice none 0 0], .bool true]) (by simp [results, Try.f9, go_sem, z0, z1, z2]) rfl ⟨_, rfl, ?_, ?_⟩
      · rw [newM_len, HN.out]
        have z : w.heap.size < w.heap.size + 2 := by omega
        exact ((((HO.out.setC ⟨_, _, none⟩ _ z).setC ⟨_, _, none⟩ _ z).setC ⟨_, _, none⟩ _ z)).base (by omega)
      · exact (((HB.out.setCell (p := ⟨_, _, none⟩) (Nat.le_refl _) _).setCell (p := ⟨_, _, none⟩) (Nat.le_refl _) _).setCell (p := ⟨_, _, none⟩) (Nat.le_refl _) _)
end Go.Proofs.Ytapffbbmofhpobc.L8
