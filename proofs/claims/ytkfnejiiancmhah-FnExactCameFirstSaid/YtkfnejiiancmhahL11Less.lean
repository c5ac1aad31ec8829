/-
  Contracts: impl.isAtMost, isLess.
-/
import Derived.Test.YtkfnejiiancmhahL11Join
import Derived.ChangeKeysEq
import Derived.Laws.StructEq
namespace Go.Proofs.Ytkfnejiiancmhah.L11
open Go.RowKit L1 Own
set_option linter.unusedVariables false

theorem info_int11 : (Try.prog.info? 3).map (fun i => (i.zero, i.size, i.bytes)) = some (some (.int .i64 0), 1, 8) := by kernel_rfl
theorem cells_int11 : Try.prog.cellsOf 3 = 1 := by kernel_rfl
set_option maxRecDepth 100000 in
theorem eq_clk (E F : Nat → Int) (b : Bool) (hb : b = true ↔ ∀ i, i < 5 → E i = F i) (w : World) : (Op.equalIn 10000 59 (cv E) (cv F)).run Try.prog w = .ok b w := by
  obtain ⟨i1, hi1, _, _, _⟩ := info_parts info_int11
  rw [Go.run_equalIn_array w 9999 _ _ Try.underlying59 hi1, cells_int11, show List.range 5 = [0, 1, 2, 3, 4] from rfl]
  have hall : (∀ i, i < 5 → E i = F i) ↔ E 0 = F 0 ∧ E 1 = F 1 ∧ E 2 = F 2 ∧ E 3 = F 3 ∧ E 4 = F 4 := by
    constructor
    · intro h; exact ⟨h 0 (by omega), h 1 (by omega), h 2 (by omega), h 3 (by omega), h 4 (by omega)⟩
    · rintro ⟨h0, h1, h2, h3, h4⟩ i hi
      match i, hi with
      | 0, _ => exact h0
      | 1, _ => exact h1
      | 2, _ => exact h2
      | 3, _ => exact h3
      | 4, _ => exact h4
  rw [hall] at hb
  have s0 : ∀ (a b : Int) (w : World), (Op.equalIn 9999 3 (.int .i64 a) (.int .i64 b)).run Try.prog w = .ok (a == b) w := fun a b w => run_equalIn_int w 9998 3 .i64 .i64 a b Try.underlying3
  have hp : ∀ (G : Nat → Int) (k : Nat) (hk : k < 5) (w : World), (part 3 #[.int .i64 (G 0), .int .i64 (G 1), .int .i64 (G 2), .int .i64 (G 3), .int .i64 (G 4)] (k * 1)).run Try.prog w = .ok (.int .i64 (G k)) w := fun G k hk w => by
    match k, hk with
    | 0, _ => simp [go_sem]
    | 1, _ => simp [go_sem]
    | 2, _ => simp [go_sem]
    | 3, _ => simp [go_sem]
    | 4, _ => simp [go_sem]
  simp only [Op.eqItems, Sem.run_bind, hp E 0 (by omega), hp E 1 (by omega), hp E 2 (by omega), hp E 3 (by omega), hp E 4 (by omega), hp F 0 (by omega), hp F 1 (by omega), hp F 2 (by omega), hp F 3 (by omega), hp F 4 (by omega), Result.andThen_ok, s0, Sem.run_ite, Sem.run_pure]
  cases b with
  | true =>
    obtain ⟨h0, h1, h2, h3, h4⟩ := hb.1 rfl
    simp [h0, h1, h2, h3, h4]
  | false =>
    have hno : ¬ (E 0 = F 0 ∧ E 1 = F 1 ∧ E 2 = F 2 ∧ E 3 = F 3 ∧ E 4 = F 4) := fun h => by have := hb.2 h; cases this
    by_cases h0 : E 0 = F 0
    · by_cases h1 : E 1 = F 1
      · by_cases h2 : E 2 = F 2
        · by_cases h3 : E 3 = F 3
          · by_cases h4 : E 4 = F 4
            · exact absurd ⟨h0, h1, h2, h3, h4⟩ hno
            · simp [h0, h1, h2, h3, h4]
          · simp [h0, h1, h2, h3]
        · simp [h0, h1, h2]
      · simp [h0, h1]
    · simp [h0]
set_option maxRecDepth 100000 in
set_option maxHeartbeats 4000000 in
theorem isAtMost_any (E F : Nat → Int) (w : World) (b : Bool) (hb : b = true ↔ ∀ i, i < 5 → E i ≤ F i) :
    Calls Try.prog 50 #[cv E, cv F] w fun e w' => e = .returned (.bool b) ∧ Below w.heap.size w w' := by
  have heq := eq_clk (jn E F) F b (hb.trans ⟨fun h i hi => by have := h i hi; unfold jn; omega, fun h i hi => by have := h i hi; unfold jn at this; omega⟩)
  have CJ := hide (joinClocks_any E F)
  clear hb
  go_enter Try.func50, Try.ntmps50
  go_wp2
  obtain ⟨W, hW⟩ : ∃ W, W = ((w.alloc (.cells #[.int .i64 (E 0), .int .i64 (E 1), .int .i64 (E 2), .int .i64 (E 3), .int .i64 (E 4)] 59)).alloc (.cells #[.int .i64 (F 0), .int .i64 (F 1), .int .i64 (F 2), .int .i64 (F 3), .int .i64 (F 4)] 59)) := ⟨_, rfl⟩
  rw [← hW]
  have hA : Clk W w.heap.size w.heap.size E := by rw [hW]; exact (clk_new w _ _ rfl (Nat.le_refl _) E).alloc _
  have hB : Clk W w.heap.size (w.heap.size + 1) F := by rw [hW]; exact clk_new _ _ _ (by simp) (by omega) F
  have hbel : Below w.heap.size w W := by rw [hW]; exact ((Below.refl _ _).alloc (Nat.le_refl _) _).alloc (by simp) _
  have gE0 := hA.cell 0 (by omega)
  have gE1 := hA.cell 1 (by omega)
  have gE2 := hA.cell 2 (by omega)
  have gE3 := hA.cell 3 (by omega)
  have gE4 := hA.cell 4 (by omega)
  have gF0 := hB.cell 0 (by omega)
  have gF1 := hB.cell 1 (by omega)
  have gF2 := hB.cell 2 (by omega)
  have gF3 := hB.cell 3 (by omega)
  have gF4 := hB.cell 4 (by omega)
  clear hW hA hB
  refine wp_region_held_drew (S := (fun wx => wx.cell? ⟨w.heap.size, 0, none⟩ = some (.int .i64 (E 0)) ∧ wx.cell? ⟨w.heap.size, 1, none⟩ = some (.int .i64 (E 1)) ∧ wx.cell? ⟨w.heap.size, 2, none⟩ = some (.int .i64 (E 2)) ∧ wx.cell? ⟨w.heap.size, 3, none⟩ = some (.int .i64 (E 3)) ∧ wx.cell? ⟨w.heap.size, 4, none⟩ = some (.int .i64 (E 4)) ∧ wx.cell? ⟨w.heap.size + 1, 0, none⟩ = some (.int .i64 (F 0)) ∧ wx.cell? ⟨w.heap.size + 1, 1, none⟩ = some (.int .i64 (F 1)) ∧ wx.cell? ⟨w.heap.size + 1, 2, none⟩ = some (.int .i64 (F 2)) ∧ wx.cell? ⟨w.heap.size + 1, 3, none⟩ = some (.int .i64 (F 3)) ∧ wx.cell? ⟨w.heap.size + 1, 4, none⟩ = some (.int .i64 (F 4)) ∧ Below w.heap.size w wx)) (by kernel_rfl) ⟨gE0, gE1, gE2, gE3, gE4, gF0, gF1, gF2, gF3, gF4, hbel.drew⟩ (fun hHeld => ?_)
  refine wpAnyH_take (i := 0) (v := ?v1) rfl (by kernel_rfl) (by kernel_rfl) (by kernel_rfl) (fun _ _ _ h => h) (Or.inl ⟨by rfl, ?y1⟩) (by assumption) ?r1
  case y1 => (intro w hSw; (try dsimp only at hSw); go_simp; try (with_reducible rfl))
  simp only [List.getElem_toArray, List.getElem_cons_zero, Act.put, List.setIfInBounds_toArray, List.set_cons_zero, List.set_cons_succ]
  refine wpAnyH_take (i := 1) (v := ?v2) rfl (by kernel_rfl) (by kernel_rfl) (by kernel_rfl) (fun _ _ _ h => h) (Or.inl ⟨by rfl, ?y2⟩) (by assumption) ?r2
  case y2 => (intro w hSw; (try dsimp only at hSw); go_simp; try (with_reducible rfl))
  simp only [List.getElem_toArray, List.getElem_cons_succ, List.getElem_cons_zero, Act.put, List.setIfInBounds_toArray, List.set_cons_zero, List.set_cons_succ]
  refine wpAnyH_take (i := 3) (v := ?v3) rfl (by kernel_rfl) (by kernel_rfl) (by kernel_rfl) (fun _ _ _ h => h) (Or.inl ⟨by rfl, ?y3⟩) (by assumption) ?r3
  case y3 => (intro w hSw; (try dsimp only at hSw); go_simp; try (with_reducible rfl))
  simp only [List.getElem_toArray, List.getElem_cons_succ, List.getElem_cons_zero, Act.put, List.setIfInBounds_toArray, List.set_cons_zero, List.set_cons_succ]
  refine wpAnyH_ready (rs := [2]) (by kernel_rfl) (by simp) ?_
  refine AllReadyH.cons rfl (fun K hK => ?_) AllReadyH.nil
  simp only [List.getElem_toArray, List.getElem_cons_succ, List.getElem_cons_zero]
  go_simp
  go_at_call 54
  refine (CJ.out _).mono ?_
  rintro e w1 ⟨rfl, hb1⟩
  dsimp only
  refine hK.out _ _ ?_ (fun hHeld => ?_)
  · exact ⟨(hb1.cell (p := ⟨w.heap.size, 0, none⟩) (blk_lt hHeld.1)).trans hHeld.1, (hb1.cell (p := ⟨w.heap.size, 1, none⟩) (blk_lt hHeld.2.1)).trans hHeld.2.1, (hb1.cell (p := ⟨w.heap.size, 2, none⟩) (blk_lt hHeld.2.2.1)).trans hHeld.2.2.1, (hb1.cell (p := ⟨w.heap.size, 3, none⟩) (blk_lt hHeld.2.2.2.1)).trans hHeld.2.2.2.1, (hb1.cell (p := ⟨w.heap.size, 4, none⟩) (blk_lt hHeld.2.2.2.2.1)).trans hHeld.2.2.2.2.1, (hb1.cell (p := ⟨w.heap.size + 1, 0, none⟩) (blk_lt hHeld.2.2.2.2.2.1)).trans hHeld.2.2.2.2.2.1, (hb1.cell (p := ⟨w.heap.size + 1, 1, none⟩) (blk_lt hHeld.2.2.2.2.2.2.1)).trans hHeld.2.2.2.2.2.2.1, (hb1.cell (p := ⟨w.heap.size + 1, 2, none⟩) (blk_lt hHeld.2.2.2.2.2.2.2.1)).trans hHeld.2.2.2.2.2.2.2.1, (hb1.cell (p := ⟨w.heap.size + 1, 3, none⟩) (blk_lt hHeld.2.2.2.2.2.2.2.2.1)).trans hHeld.2.2.2.2.2.2.2.2.1, (hb1.cell (p := ⟨w.heap.size + 1, 4, none⟩) (blk_lt hHeld.2.2.2.2.2.2.2.2.2.1)).trans hHeld.2.2.2.2.2.2.2.2.2.1, hHeld.2.2.2.2.2.2.2.2.2.2.trans (hb1.mono hHeld.2.2.2.2.2.2.2.2.2.2.size)⟩
  clear hK K
  try simp only [Act.put, List.setIfInBounds_toArray, List.set_cons_zero, List.set_cons_succ]
  refine wpAnyH_take (i := 4) (v := ?v4) rfl (by kernel_rfl) (by kernel_rfl) (by kernel_rfl) (fun _ _ _ h => h) (Or.inl ⟨by rfl, ?y4⟩) (by assumption) ?r4
  case y4 => (intro w hSw; (try dsimp only at hSw); go_simp; try (with_reducible rfl))
  simp only [List.getElem_toArray, List.getElem_cons_succ, List.getElem_cons_zero, Act.put, List.setIfInBounds_toArray, List.set_cons_zero, List.set_cons_succ]
  refine wpAnyH_take (i := 5) (v := ?v5) rfl (by kernel_rfl) (by kernel_rfl) (by kernel_rfl) (fun _ _ _ h => h) (Or.inl ⟨by rfl, ?y5⟩) (by assumption) ?r5
  case y5 => (intro w hSw; (try dsimp only at hSw); go_simp; try (with_reducible rfl))
  simp only [List.getElem_toArray, List.getElem_cons_succ, List.getElem_cons_zero, Act.put, List.setIfInBounds_toArray, List.set_cons_zero, List.set_cons_succ]
  refine wpAnyH_done (by kernel_rfl) ?_ _
  go_wp2
  go_ret
  exact ⟨rfl, hHeld.2.2.2.2.2.2.2.2.2.2⟩
set_option maxRecDepth 100000 in
set_option maxHeartbeats 4000000 in
theorem isLess_any (E F : Nat → Int) (w : World) (b : Bool) (hb : b = true ↔ (∀ i, i < 5 → E i ≤ F i) ∧ ¬ ∀ i, i < 5 → E i = F i) :
    Calls Try.prog 42 #[cv E, cv F] w fun e w' => e = .returned (.bool b) ∧ Below w.heap.size w w' := by
  by_cases he : ∀ i, i < 5 → E i = F i
  · have heq := eq_clk E F true (by simpa using he)
    have HB : Hid (b = false) := by
      cases b with
      | false => rfl
      | true => exact absurd he (hb.1 rfl).2
    clear hb he
    go_enter Try.func42, Try.ntmps42
    go_wp2
    go_ret
    exact ⟨by rw [HB.out]; rfl, ((Below.refl _ _).alloc (Nat.le_refl _) _).alloc (by simp) _⟩
  · have heq := eq_clk E F false (by simpa using he)
    have C := hide (fun w => isAtMost_any E F w b (hb.trans ⟨fun h => h.1, fun h => ⟨h, he⟩⟩))
    clear hb he
    go_enter Try.func42, Try.ntmps42
    go_wp2_with fail
    refine (C.out _).mono ?_
    rintro e w1 ⟨rfl, hb1⟩
    have B1 := hide hb1
    clear hb1
    go_wp2
    go_ret
    exact ⟨rfl, ((((Below.refl _ _).alloc (Nat.le_refl _) _).alloc (by simp) _).trans (B1.out.mono (by simp; omega)))⟩
end Go.Proofs.Ytkfnejiiancmhah.L11
