/-
  Contracts: impl.endsOf at two shapes, impl.fits, impl.FitsForm: whether a text of letters fits a form.
-/
import Derived.Test.YtkdiffpbljohkayL5EndsOf
import Derived.Test.YtkdiffpbljohkayL5ShapeOf
import Derived.Test.YtkdiffpbljohkayL5Good2
namespace Go.Proofs.Ytkdiffpbljohkay.L5
open Go.RowKit L1 L4
set_option linter.unusedVariables false
attribute [local go_sem] mk_noText mk_emptyText mk_oneLetter mk_anyLetter mk_thenShape mk_eitherShape mk_manyShape mk_notShape as_noText_noText as_noText_emptyText as_noText_oneLetter as_noText_anyLetter as_noText_thenShape as_noText_eitherShape as_noText_manyShape as_noText_notShape as_emptyText_noText as_emptyText_emptyText as_emptyText_oneLetter as_emptyText_anyLetter as_emptyText_thenShape as_emptyText_eitherShape as_emptyText_manyShape as_emptyText_notShape as_oneLetter_noText as_oneLetter_emptyText as_oneLetter_oneLetter as_oneLetter_anyLetter as_oneLetter_thenShape as_oneLetter_eitherShape as_oneLetter_manyShape as_oneLetter_notShape as_anyLetter_noText as_anyLetter_emptyText as_anyLetter_oneLetter as_anyLetter_anyLetter as_anyLetter_thenShape as_anyLetter_eitherShape as_anyLetter_manyShape as_anyLetter_notShape as_thenShape_noText as_thenShape_emptyText as_thenShape_oneLetter as_thenShape_anyLetter as_thenShape_thenShape as_thenShape_eitherShape as_thenShape_manyShape as_thenShape_notShape as_eitherShape_noText as_eitherShape_emptyText as_eitherShape_oneLetter as_eitherShape_anyLetter as_eitherShape_thenShape as_eitherShape_eitherShape as_eitherShape_manyShape as_eitherShape_notShape as_manyShape_noText as_manyShape_emptyText as_manyShape_oneLetter as_manyShape_anyLetter as_manyShape_thenShape as_manyShape_eitherShape as_manyShape_manyShape as_manyShape_notShape as_notShape_noText as_notShape_emptyText as_notShape_oneLetter as_notShape_anyLetter as_notShape_thenShape as_notShape_eitherShape as_notShape_manyShape as_notShape_notShape
theorem cell_two_at (w : World) (g : Nat) (hg : w.heap.size = g) (a b : Value) (t : TypeId) : (w.alloc (.cells #[a, b] t)).cell? ⟨g, 0, none⟩ = some a ∧ (w.alloc (.cells #[a, b] t)).cell? ⟨g, 1, none⟩ = some b := by
  subst hg
  exact ⟨by simp, by simp⟩
set_option maxRecDepth 100000 in
set_option maxHeartbeats 8000000 in
theorem ends_seq (a b : Sh) (IA : EC a) (IB : EC b) : EC (.seq a b) := by
  intro s w hs
  have HV : Hid (ev (bts s 0) (.seq a b) = thE (ev (bts s 0) a) (ev (bts s 0) b) 13) := hide rfl
  rw [HV.out]
  have hla := ev_lt (bts s 0) (by rw [bts_lenN]; exact hs) a
  have hlb := ev_lt (bts s 0) (by rw [bts_lenN]; exact hs) b
  have C1 := hide (fun w => IA s w hs)
  have C2 := hide (fun w => IB s w hs)
  obtain ⟨X, hX⟩ : ∃ X, X = ev (bts s 0) a := ⟨_, rfl⟩
  obtain ⟨Y, hY⟩ : ∃ Y, Y = ev (bts s 0) b := ⟨_, rfl⟩
  simp only [← hX] at C1 hla ⊢
  simp only [← hY] at C2 hlb ⊢
  have C3 := hide (fun w => then_any X Y hla hlb w)
  obtain ⟨V, hV⟩ : ∃ V, V = thE X Y 13 := ⟨_, rfl⟩
  simp only [← hV] at C3 ⊢
  show Calls Try.prog 68 #[.iface 93 (.agg #[sv a, sv b]), .string s] w _
  clear HV hX hY hV hla hlb IA IB
  go_enter Try.func68, Try.ntmps68
  go_wp2
  obtain ⟨W, hW⟩ : ∃ W, W = ((w.alloc (.cells #[.int .u16 0, .int .u16 0, .int .u16 0, .int .u16 0, .int .u16 0, .int .u16 0, .int .u16 0, .int .u16 0, .int .u16 0, .int .u16 0, .int .u16 0, .int .u16 0, .int .u16 0] 112)).alloc (.cells #[.int .u16 0, .int .u16 0, .int .u16 0, .int .u16 0, .int .u16 0, .int .u16 0, .int .u16 0, .int .u16 0, .int .u16 0, .int .u16 0, .int .u16 0, .int .u16 0, .int .u16 0] 112)).alloc (.cells #[sv a, sv b] 93) := ⟨_, rfl⟩
  rw [← hW]
  have hz : (((w.alloc (.cells #[.int .u16 0, .int .u16 0, .int .u16 0, .int .u16 0, .int .u16 0, .int .u16 0, .int .u16 0, .int .u16 0, .int .u16 0, .int .u16 0, .int .u16 0, .int .u16 0, .int .u16 0] 112)).alloc (.cells #[.int .u16 0, .int .u16 0, .int .u16 0, .int .u16 0, .int .u16 0, .int .u16 0, .int .u16 0, .int .u16 0, .int .u16 0, .int .u16 0, .int .u16 0, .int .u16 0, .int .u16 0] 112)).heap.size) = w.heap.size + 1 + 1 := by simp
  have HS0 : Hid (S2 w W (fun _ => 0)) := hide ((S2.new rfl).below (by rw [hW]; exact (Below.refl _ _).alloc (Nat.le_refl _) _))
  have c0 : W.cell? ⟨w.heap.size + 1 + 1, 0, none⟩ = some (sv a) := by rw [hW]; exact (cell_two_at _ _ hz _ _ _).1
  have c1 : W.cell? ⟨w.heap.size + 1 + 1, 1, none⟩ = some (sv b) := by rw [hW]; exact (cell_two_at _ _ hz _ _ _).2
  clear hW hz
  refine wp_region_held_drew (S := (fun wx : World => (wx.cell? ⟨w.heap.size + 1 + 1, 0, none⟩ = some (sv a) ∧ wx.cell? ⟨w.heap.size + 1 + 1, 1, none⟩ = some (sv b)) ∧ Below w.heap.size w wx)) (by kernel_rfl) ⟨⟨c0, c1⟩, HS0.out.bel.drew⟩ (fun hHeld => ?_)
  have HSd : Hid (S2 w W.drew (fun _ => 0)) := hide ⟨HS0.out.r, HS0.out.o, HS0.out.bel.drew⟩
  clear c0 c1
  refine wpAnyH_take (i := 0) (v := ?v1) rfl (by kernel_rfl) (by kernel_rfl) (by kernel_rfl) (fun _ _ _ h => h) (Or.inl ⟨by rfl, ?y1⟩) (by assumption) ?r1
  case y1 => (intro w hSw; (try dsimp only at hSw); go_simp; try (with_reducible rfl))
  simp only [List.getElem_toArray, List.getElem_cons_zero, Act.put, List.setIfInBounds_toArray, List.set_cons_zero, List.set_cons_succ]
  refine wpAnyH_take (i := 2) (v := ?v2) rfl (by kernel_rfl) (by kernel_rfl) (by kernel_rfl) (fun _ _ _ h => h) (Or.inl ⟨by rfl, ?y2⟩) (by assumption) ?r2
  case y2 => (intro w hSw; (try dsimp only at hSw); go_simp; try (with_reducible rfl))
  simp only [List.getElem_toArray, List.getElem_cons_succ, List.getElem_cons_zero, Act.put, List.setIfInBounds_toArray, List.set_cons_zero, List.set_cons_succ]
  refine wpAnyH_take (i := 4) (v := ?v3) rfl (by kernel_rfl) (by kernel_rfl) (by kernel_rfl) (fun _ _ _ h => h) (Or.inl ⟨by rfl, ?y3⟩) (by assumption) ?r3
  case y3 => (intro w hSw; (try dsimp only at hSw); go_simp; try (with_reducible rfl))
  simp only [List.getElem_toArray, List.getElem_cons_succ, List.getElem_cons_zero, Act.put, List.setIfInBounds_toArray, List.set_cons_zero, List.set_cons_succ]
  refine wpAnyH_take (i := 6) (v := ?v4) rfl (by kernel_rfl) (by kernel_rfl) (by kernel_rfl) (fun _ _ _ h => h) (Or.inl ⟨by rfl, ?y4⟩) (by assumption) ?r4
  case y4 => (intro w hSw; (try dsimp only at hSw); go_simp; try (with_reducible rfl))
  simp only [List.getElem_toArray, List.getElem_cons_succ, List.getElem_cons_zero, Act.put, List.setIfInBounds_toArray, List.set_cons_zero, List.set_cons_succ]
  refine wpAnyH_take (i := 1) (v := sv a) rfl (by kernel_rfl) (by kernel_rfl) (by kernel_rfl) (fun _ _ _ h => h) (Or.inl ⟨by rfl, ?y5⟩) (by assumption) ?r5
  case y5 => (intro w hSw; obtain ⟨⟨hq0, hq1⟩, hq2⟩ := hSw; go_simp; try (with_reducible rfl))
  simp only [List.getElem_toArray, List.getElem_cons_succ, List.getElem_cons_zero, Act.put, List.setIfInBounds_toArray, List.set_cons_zero, List.set_cons_succ]
  refine wpAnyH_take (i := 5) (v := sv b) rfl (by kernel_rfl) (by kernel_rfl) (by kernel_rfl) (fun _ _ _ h => h) (Or.inl ⟨by rfl, ?y6⟩) (by assumption) ?r6
  case y6 => (intro w hSw; obtain ⟨⟨hq0, hq1⟩, hq2⟩ := hSw; go_simp; try (with_reducible rfl))
  simp only [List.getElem_toArray, List.getElem_cons_succ, List.getElem_cons_zero, Act.put, List.setIfInBounds_toArray, List.set_cons_zero, List.set_cons_succ]
  refine wpAnyH_ready (rs := [3]) (by kernel_rfl) (by simp) ?_
  refine AllReadyH.cons rfl (fun K hK => ?_) AllReadyH.nil
  try simp only [List.getElem_toArray, List.getElem_cons_succ, List.getElem_cons_zero]
  go_simp
  go_at_call 68
  refine (C1.out _).mono ?_
  rintro e w1 ⟨rfl, hb⟩
  have HSw1 := hide (HSd.out.below hb)
  have hS3 : (fun wx : World => (wx.cell? ⟨w.heap.size + 1 + 1, 0, none⟩ = some (sv a) ∧ wx.cell? ⟨w.heap.size + 1 + 1, 1, none⟩ = some (sv b)) ∧ Below w.heap.size w wx) w1 := ⟨⟨(hb.cell (p := ⟨w.heap.size + 1 + 1, 0, none⟩) (blk_lt hHeld.1.1)).trans hHeld.1.1, (hb.cell (p := ⟨w.heap.size + 1 + 1, 1, none⟩) (blk_lt hHeld.1.2)).trans hHeld.1.2⟩, hHeld.2.trans (hb.mono hHeld.2.size)⟩
  clear hb
  dsimp only
  refine hK.out _ _ hS3 (fun hHeld => ?_)
  clear hK K
  try simp only [Act.put, List.setIfInBounds_toArray, List.set_cons_zero, List.set_cons_succ]
  refine wpAnyH_ready (rs := [7]) (by kernel_rfl) (by simp) ?_
  refine AllReadyH.cons rfl (fun K hK => ?_) AllReadyH.nil
  try simp only [List.getElem_toArray, List.getElem_cons_succ, List.getElem_cons_zero]
  go_simp
  go_at_call 68
  refine (C2.out _).mono ?_
  rintro e w2 ⟨rfl, hb⟩
  have HSw2 := hide (HSw1.out.below hb)
  have hS3 : (fun wx : World => (wx.cell? ⟨w.heap.size + 1 + 1, 0, none⟩ = some (sv a) ∧ wx.cell? ⟨w.heap.size + 1 + 1, 1, none⟩ = some (sv b)) ∧ Below w.heap.size w wx) w2 := ⟨⟨(hb.cell (p := ⟨w.heap.size + 1 + 1, 0, none⟩) (blk_lt hHeld.1.1)).trans hHeld.1.1, (hb.cell (p := ⟨w.heap.size + 1 + 1, 1, none⟩) (blk_lt hHeld.1.2)).trans hHeld.1.2⟩, hHeld.2.trans (hb.mono hHeld.2.size)⟩
  clear hb
  dsimp only
  refine hK.out _ _ hS3 (fun hHeld => ?_)
  clear hK K
  try simp only [Act.put, List.setIfInBounds_toArray, List.set_cons_zero, List.set_cons_succ]
  refine wpAnyH_ready (rs := [8]) (by kernel_rfl) (by simp) ?_
  refine AllReadyH.cons rfl (fun K hK => ?_) AllReadyH.nil
  try simp only [List.getElem_toArray, List.getElem_cons_succ, List.getElem_cons_zero]
  go_simp
  go_at_call 77
  refine (C3.out _).mono ?_
  rintro e w3 ⟨rfl, hb⟩
  have HSw3 := hide (HSw2.out.below hb)
  have hS3 : (fun wx : World => (wx.cell? ⟨w.heap.size + 1 + 1, 0, none⟩ = some (sv a) ∧ wx.cell? ⟨w.heap.size + 1 + 1, 1, none⟩ = some (sv b)) ∧ Below w.heap.size w wx) w3 := ⟨⟨(hb.cell (p := ⟨w.heap.size + 1 + 1, 0, none⟩) (blk_lt hHeld.1.1)).trans hHeld.1.1, (hb.cell (p := ⟨w.heap.size + 1 + 1, 1, none⟩) (blk_lt hHeld.1.2)).trans hHeld.1.2⟩, hHeld.2.trans (hb.mono hHeld.2.size)⟩
  clear hb
  dsimp only
  refine hK.out _ _ hS3 (fun hHeld => ?_)
  clear hK K
  try simp only [Act.put, List.setIfInBounds_toArray, List.set_cons_zero, List.set_cons_succ]
  have r0 := HSw3.out.r.cell 0 (by omega)
  have f0 := HSw3.out.r.frozenAt 0
  have r1 := HSw3.out.r.cell 1 (by omega)
  have f1 := HSw3.out.r.frozenAt 1
  have r2 := HSw3.out.r.cell 2 (by omega)
  have f2 := HSw3.out.r.frozenAt 2
  have r3 := HSw3.out.r.cell 3 (by omega)
  have f3 := HSw3.out.r.frozenAt 3
  have r4 := HSw3.out.r.cell 4 (by omega)
  have f4 := HSw3.out.r.frozenAt 4
  have r5 := HSw3.out.r.cell 5 (by omega)
  have f5 := HSw3.out.r.frozenAt 5
  have r6 := HSw3.out.r.cell 6 (by omega)
  have f6 := HSw3.out.r.frozenAt 6
  have r7 := HSw3.out.r.cell 7 (by omega)
  have f7 := HSw3.out.r.frozenAt 7
  have r8 := HSw3.out.r.cell 8 (by omega)
  have f8 := HSw3.out.r.frozenAt 8
  have r9 := HSw3.out.r.cell 9 (by omega)
  have f9 := HSw3.out.r.frozenAt 9
  have r10 := HSw3.out.r.cell 10 (by omega)
  have f10 := HSw3.out.r.frozenAt 10
  have r11 := HSw3.out.r.cell 11 (by omega)
  have f11 := HSw3.out.r.frozenAt 11
  have r12 := HSw3.out.r.cell 12 (by omega)
  have f12 := HSw3.out.r.frozenAt 12
  refine wpAnyH_ready (rs := [9]) (by kernel_rfl) (by simp) ?_
  refine AllReadyH.cons rfl (fun K hK => ?_) AllReadyH.nil
  try simp only [List.getElem_toArray, List.getElem_cons_succ, List.getElem_cons_zero]
  go_simp
  refine hK.out _ _ ?hs4 (fun hHeld => ?_)
  case hs4 => exact ⟨⟨(World.cell?_of_block (Below.heap_setCell _ ⟨w.heap.size, 12, none⟩ _ (w.heap.size + 1 + 1) (by simp only; omega))).trans ((World.cell?_of_block (Below.heap_setCell _ ⟨w.heap.size, 11, none⟩ _ (w.heap.size + 1 + 1) (by simp only; omega))).trans ((World.cell?_of_block (Below.heap_setCell _ ⟨w.heap.size, 10, none⟩ _ (w.heap.size + 1 + 1) (by simp only; omega))).trans ((World.cell?_of_block (Below.heap_setCell _ ⟨w.heap.size, 9, none⟩ _ (w.heap.size + 1 + 1) (by simp only; omega))).trans ((World.cell?_of_block (Below.heap_setCell _ ⟨w.heap.size, 8, none⟩ _ (w.heap.size + 1 + 1) (by simp only; omega))).trans ((World.cell?_of_block (Below.heap_setCell _ ⟨w.heap.size, 7, none⟩ _ (w.heap.size + 1 + 1) (by simp only; omega))).trans ((World.cell?_of_block (Below.heap_setCell _ ⟨w.heap.size, 6, none⟩ _ (w.heap.size + 1 + 1) (by simp only; omega))).trans ((World.cell?_of_block (Below.heap_setCell _ ⟨w.heap.size, 5, none⟩ _ (w.heap.size + 1 + 1) (by simp only; omega))).trans ((World.cell?_of_block (Below.heap_setCell _ ⟨w.heap.size, 4, none⟩ _ (w.heap.size + 1 + 1) (by simp only; omega))).trans ((World.cell?_of_block (Below.heap_setCell _ ⟨w.heap.size, 3, none⟩ _ (w.heap.size + 1 + 1) (by simp only; omega))).trans ((World.cell?_of_block (Below.heap_setCell _ ⟨w.heap.size, 2, none⟩ _ (w.heap.size + 1 + 1) (by simp only; omega))).trans ((World.cell?_of_block (Below.heap_setCell _ ⟨w.heap.size, 1, none⟩ _ (w.heap.size + 1 + 1) (by simp only; omega))).trans ((World.cell?_of_block (Below.heap_setCell _ ⟨w.heap.size, 0, none⟩ _ (w.heap.size + 1 + 1) (by simp only; omega))).trans (hHeld.1.1))))))))))))), (World.cell?_of_block (Below.heap_setCell _ ⟨w.heap.size, 12, none⟩ _ (w.heap.size + 1 + 1) (by simp only; omega))).trans ((World.cell?_of_block (Below.heap_setCell _ ⟨w.heap.size, 11, none⟩ _ (w.heap.size + 1 + 1) (by simp only; omega))).trans ((World.cell?_of_block (Below.heap_setCell _ ⟨w.heap.size, 10, none⟩ _ (w.heap.size + 1 + 1) (by simp only; omega))).trans ((World.cell?_of_block (Below.heap_setCell _ ⟨w.heap.size, 9, none⟩ _ (w.heap.size + 1 + 1) (by simp only; omega))).trans ((World.cell?_of_block (Below.heap_setCell _ ⟨w.heap.size, 8, none⟩ _ (w.heap.size + 1 + 1) (by simp only; omega))).trans ((World.cell?_of_block (Below.heap_setCell _ ⟨w.heap.size, 7, none⟩ _ (w.heap.size + 1 + 1) (by simp only; omega))).trans ((World.cell?_of_block (Below.heap_setCell _ ⟨w.heap.size, 6, none⟩ _ (w.heap.size + 1 + 1) (by simp only; omega))).trans ((World.cell?_of_block (Below.heap_setCell _ ⟨w.heap.size, 5, none⟩ _ (w.heap.size + 1 + 1) (by simp only; omega))).trans ((World.cell?_of_block (Below.heap_setCell _ ⟨w.heap.size, 4, none⟩ _ (w.heap.size + 1 + 1) (by simp only; omega))).trans ((World.cell?_of_block (Below.heap_setCell _ ⟨w.heap.size, 3, none⟩ _ (w.heap.size + 1 + 1) (by simp only; omega))).trans ((World.cell?_of_block (Below.heap_setCell _ ⟨w.heap.size, 2, none⟩ _ (w.heap.size + 1 + 1) (by simp only; omega))).trans ((World.cell?_of_block (Below.heap_setCell _ ⟨w.heap.size, 1, none⟩ _ (w.heap.size + 1 + 1) (by simp only; omega))).trans ((World.cell?_of_block (Below.heap_setCell _ ⟨w.heap.size, 0, none⟩ _ (w.heap.size + 1 + 1) (by simp only; omega))).trans (hHeld.1.2)))))))))))))⟩, (((((((((((((HSw3.out.bel.setCell (p := ⟨w.heap.size, 0, none⟩) (by simp only; omega) _).setCell (p := ⟨w.heap.size, 1, none⟩) (by simp only; omega) _).setCell (p := ⟨w.heap.size, 2, none⟩) (by simp only; omega) _).setCell (p := ⟨w.heap.size, 3, none⟩) (by simp only; omega) _).setCell (p := ⟨w.heap.size, 4, none⟩) (by simp only; omega) _).setCell (p := ⟨w.heap.size, 5, none⟩) (by simp only; omega) _).setCell (p := ⟨w.heap.size, 6, none⟩) (by simp only; omega) _).setCell (p := ⟨w.heap.size, 7, none⟩) (by simp only; omega) _).setCell (p := ⟨w.heap.size, 8, none⟩) (by simp only; omega) _).setCell (p := ⟨w.heap.size, 9, none⟩) (by simp only; omega) _).setCell (p := ⟨w.heap.size, 10, none⟩) (by simp only; omega) _).setCell (p := ⟨w.heap.size, 11, none⟩) (by simp only; omega) _).setCell (p := ⟨w.heap.size, 12, none⟩) (by simp only; omega) _)⟩
  clear hK K
  refine wpAnyH_done (by kernel_rfl) ?_ _
  go_wp2
  refine bodyPost_ret (v := tv V) (by simp [results, Try.f68, go_sem, *]) rfl ⟨rfl, hHeld.2⟩
set_option maxRecDepth 100000 in
set_option maxHeartbeats 8000000 in
theorem ends_alt (a b : Sh) (IA : EC a) (IB : EC b) : EC (.alt a b) := by
  intro s w hs
  have HV : Hid (ev (bts s 0) (.alt a b) = orE (ev (bts s 0) a) (ev (bts s 0) b) 13) := hide rfl
  rw [HV.out]
  have hla := ev_lt (bts s 0) (by rw [bts_lenN]; exact hs) a
  have hlb := ev_lt (bts s 0) (by rw [bts_lenN]; exact hs) b
  have C1 := hide (fun w => IA s w hs)
  have C2 := hide (fun w => IB s w hs)
  obtain ⟨X, hX⟩ : ∃ X, X = ev (bts s 0) a := ⟨_, rfl⟩
  obtain ⟨Y, hY⟩ : ∃ Y, Y = ev (bts s 0) b := ⟨_, rfl⟩
  simp only [← hX] at C1 hla ⊢
  simp only [← hY] at C2 hlb ⊢
  have C3 := hide (fun w => or_any X Y hla hlb w)
  obtain ⟨V, hV⟩ : ∃ V, V = orE X Y 13 := ⟨_, rfl⟩
  simp only [← hV] at C3 ⊢
  show Calls Try.prog 68 #[.iface 96 (.agg #[sv a, sv b]), .string s] w _
  clear HV hX hY hV hla hlb IA IB
  go_enter Try.func68, Try.ntmps68
  go_wp2
  obtain ⟨W, hW⟩ : ∃ W, W = ((w.alloc (.cells #[.int .u16 0, .int .u16 0, .int .u16 0, .int .u16 0, .int .u16 0, .int .u16 0, .int .u16 0, .int .u16 0, .int .u16 0, .int .u16 0, .int .u16 0, .int .u16 0, .int .u16 0] 112)).alloc (.cells #[.int .u16 0, .int .u16 0, .int .u16 0, .int .u16 0, .int .u16 0, .int .u16 0, .int .u16 0, .int .u16 0, .int .u16 0, .int .u16 0, .int .u16 0, .int .u16 0, .int .u16 0] 112)).alloc (.cells #[sv a, sv b] 96) := ⟨_, rfl⟩
  rw [← hW]
  have hz : (((w.alloc (.cells #[.int .u16 0, .int .u16 0, .int .u16 0, .int .u16 0, .int .u16 0, .int .u16 0, .int .u16 0, .int .u16 0, .int .u16 0, .int .u16 0, .int .u16 0, .int .u16 0, .int .u16 0] 112)).alloc (.cells #[.int .u16 0, .int .u16 0, .int .u16 0, .int .u16 0, .int .u16 0, .int .u16 0, .int .u16 0, .int .u16 0, .int .u16 0, .int .u16 0, .int .u16 0, .int .u16 0, .int .u16 0] 112)).heap.size) = w.heap.size + 1 + 1 := by simp
  have HS0 : Hid (S2 w W (fun _ => 0)) := hide ((S2.new rfl).below (by rw [hW]; exact (Below.refl _ _).alloc (Nat.le_refl _) _))
  have c0 : W.cell? ⟨w.heap.size + 1 + 1, 0, none⟩ = some (sv a) := by rw [hW]; exact (cell_two_at _ _ hz _ _ _).1
  have c1 : W.cell? ⟨w.heap.size + 1 + 1, 1, none⟩ = some (sv b) := by rw [hW]; exact (cell_two_at _ _ hz _ _ _).2
  clear hW hz
  refine wp_region_held_drew (S := (fun wx : World => (wx.cell? ⟨w.heap.size + 1 + 1, 0, none⟩ = some (sv a) ∧ wx.cell? ⟨w.heap.size + 1 + 1, 1, none⟩ = some (sv b)) ∧ Below w.heap.size w wx)) (by kernel_rfl) ⟨⟨c0, c1⟩, HS0.out.bel.drew⟩ (fun hHeld => ?_)
  have HSd : Hid (S2 w W.drew (fun _ => 0)) := hide ⟨HS0.out.r, HS0.out.o, HS0.out.bel.drew⟩
  clear c0 c1
  refine wpAnyH_take (i := 0) (v := ?v1) rfl (by kernel_rfl) (by kernel_rfl) (by kernel_rfl) (fun _ _ _ h => h) (Or.inl ⟨by rfl, ?y1⟩) (by assumption) ?r1
  case y1 => (intro w hSw; (try dsimp only at hSw); go_simp; try (with_reducible rfl))
  simp only [List.getElem_toArray, List.getElem_cons_zero, Act.put, List.setIfInBounds_toArray, List.set_cons_zero, List.set_cons_succ]
  refine wpAnyH_take (i := 2) (v := ?v2) rfl (by kernel_rfl) (by kernel_rfl) (by kernel_rfl) (fun _ _ _ h => h) (Or.inl ⟨by rfl, ?y2⟩) (by assumption) ?r2
  case y2 => (intro w hSw; (try dsimp only at hSw); go_simp; try (with_reducible rfl))
  simp only [List.getElem_toArray, List.getElem_cons_succ, List.getElem_cons_zero, Act.put, List.setIfInBounds_toArray, List.set_cons_zero, List.set_cons_succ]
  refine wpAnyH_take (i := 4) (v := ?v3) rfl (by kernel_rfl) (by kernel_rfl) (by kernel_rfl) (fun _ _ _ h => h) (Or.inl ⟨by rfl, ?y3⟩) (by assumption) ?r3
  case y3 => (intro w hSw; (try dsimp only at hSw); go_simp; try (with_reducible rfl))
  simp only [List.getElem_toArray, List.getElem_cons_succ, List.getElem_cons_zero, Act.put, List.setIfInBounds_toArray, List.set_cons_zero, List.set_cons_succ]
  refine wpAnyH_take (i := 6) (v := ?v4) rfl (by kernel_rfl) (by kernel_rfl) (by kernel_rfl) (fun _ _ _ h => h) (Or.inl ⟨by rfl, ?y4⟩) (by assumption) ?r4
  case y4 => (intro w hSw; (try dsimp only at hSw); go_simp; try (with_reducible rfl))
  simp only [List.getElem_toArray, List.getElem_cons_succ, List.getElem_cons_zero, Act.put, List.setIfInBounds_toArray, List.set_cons_zero, List.set_cons_succ]
  refine wpAnyH_take (i := 1) (v := sv a) rfl (by kernel_rfl) (by kernel_rfl) (by kernel_rfl) (fun _ _ _ h => h) (Or.inl ⟨by rfl, ?y5⟩) (by assumption) ?r5
  case y5 => (intro w hSw; obtain ⟨⟨hq0, hq1⟩, hq2⟩ := hSw; go_simp; try (with_reducible rfl))
  simp only [List.getElem_toArray, List.getElem_cons_succ, List.getElem_cons_zero, Act.put, List.setIfInBounds_toArray, List.set_cons_zero, List.set_cons_succ]
  refine wpAnyH_take (i := 5) (v := sv b) rfl (by kernel_rfl) (by kernel_rfl) (by kernel_rfl) (fun _ _ _ h => h) (Or.inl ⟨by rfl, ?y6⟩) (by assumption) ?r6
  case y6 => (intro w hSw; obtain ⟨⟨hq0, hq1⟩, hq2⟩ := hSw; go_simp; try (with_reducible rfl))
  simp only [List.getElem_toArray, List.getElem_cons_succ, List.getElem_cons_zero, Act.put, List.setIfInBounds_toArray, List.set_cons_zero, List.set_cons_succ]
  refine wpAnyH_ready (rs := [3]) (by kernel_rfl) (by simp) ?_
  refine AllReadyH.cons rfl (fun K hK => ?_) AllReadyH.nil
  try simp only [List.getElem_toArray, List.getElem_cons_succ, List.getElem_cons_zero]
  go_simp
  go_at_call 68
  refine (C1.out _).mono ?_
  rintro e w1 ⟨rfl, hb⟩
  have HSw1 := hide (HSd.out.below hb)
  have hS3 : (fun wx : World => (wx.cell? ⟨w.heap.size + 1 + 1, 0, none⟩ = some (sv a) ∧ wx.cell? ⟨w.heap.size + 1 + 1, 1, none⟩ = some (sv b)) ∧ Below w.heap.size w wx) w1 := ⟨⟨(hb.cell (p := ⟨w.heap.size + 1 + 1, 0, none⟩) (blk_lt hHeld.1.1)).trans hHeld.1.1, (hb.cell (p := ⟨w.heap.size + 1 + 1, 1, none⟩) (blk_lt hHeld.1.2)).trans hHeld.1.2⟩, hHeld.2.trans (hb.mono hHeld.2.size)⟩
  clear hb
  dsimp only
  refine hK.out _ _ hS3 (fun hHeld => ?_)
  clear hK K
  try simp only [Act.put, List.setIfInBounds_toArray, List.set_cons_zero, List.set_cons_succ]
  refine wpAnyH_ready (rs := [7]) (by kernel_rfl) (by simp) ?_
  refine AllReadyH.cons rfl (fun K hK => ?_) AllReadyH.nil
  try simp only [List.getElem_toArray, List.getElem_cons_succ, List.getElem_cons_zero]
  go_simp
  go_at_call 68
  refine (C2.out _).mono ?_
  rintro e w2 ⟨rfl, hb⟩
  have HSw2 := hide (HSw1.out.below hb)
  have hS3 : (fun wx : World => (wx.cell? ⟨w.heap.size + 1 + 1, 0, none⟩ = some (sv a) ∧ wx.cell? ⟨w.heap.size + 1 + 1, 1, none⟩ = some (sv b)) ∧ Below w.heap.size w wx) w2 := ⟨⟨(hb.cell (p := ⟨w.heap.size + 1 + 1, 0, none⟩) (blk_lt hHeld.1.1)).trans hHeld.1.1, (hb.cell (p := ⟨w.heap.size + 1 + 1, 1, none⟩) (blk_lt hHeld.1.2)).trans hHeld.1.2⟩, hHeld.2.trans (hb.mono hHeld.2.size)⟩
  clear hb
  dsimp only
  refine hK.out _ _ hS3 (fun hHeld => ?_)
  clear hK K
  try simp only [Act.put, List.setIfInBounds_toArray, List.set_cons_zero, List.set_cons_succ]
  refine wpAnyH_ready (rs := [8]) (by kernel_rfl) (by simp) ?_
  refine AllReadyH.cons rfl (fun K hK => ?_) AllReadyH.nil
  try simp only [List.getElem_toArray, List.getElem_cons_succ, List.getElem_cons_zero]
  go_simp
  go_at_call 78
  refine (C3.out _).mono ?_
  rintro e w3 ⟨rfl, hb⟩
  have HSw3 := hide (HSw2.out.below hb)
  have hS3 : (fun wx : World => (wx.cell? ⟨w.heap.size + 1 + 1, 0, none⟩ = some (sv a) ∧ wx.cell? ⟨w.heap.size + 1 + 1, 1, none⟩ = some (sv b)) ∧ Below w.heap.size w wx) w3 := ⟨⟨(hb.cell (p := ⟨w.heap.size + 1 + 1, 0, none⟩) (blk_lt hHeld.1.1)).trans hHeld.1.1, (hb.cell (p := ⟨w.heap.size + 1 + 1, 1, none⟩) (blk_lt hHeld.1.2)).trans hHeld.1.2⟩, hHeld.2.trans (hb.mono hHeld.2.size)⟩
  clear hb
  dsimp only
  refine hK.out _ _ hS3 (fun hHeld => ?_)
  clear hK K
  try simp only [Act.put, List.setIfInBounds_toArray, List.set_cons_zero, List.set_cons_succ]
  have r0 := HSw3.out.r.cell 0 (by omega)
  have f0 := HSw3.out.r.frozenAt 0
  have r1 := HSw3.out.r.cell 1 (by omega)
  have f1 := HSw3.out.r.frozenAt 1
  have r2 := HSw3.out.r.cell 2 (by omega)
  have f2 := HSw3.out.r.frozenAt 2
  have r3 := HSw3.out.r.cell 3 (by omega)
  have f3 := HSw3.out.r.frozenAt 3
  have r4 := HSw3.out.r.cell 4 (by omega)
  have f4 := HSw3.out.r.frozenAt 4
  have r5 := HSw3.out.r.cell 5 (by omega)
  have f5 := HSw3.out.r.frozenAt 5
  have r6 := HSw3.out.r.cell 6 (by omega)
  have f6 := HSw3.out.r.frozenAt 6
  have r7 := HSw3.out.r.cell 7 (by omega)
  have f7 := HSw3.out.r.frozenAt 7
  have r8 := HSw3.out.r.cell 8 (by omega)
  have f8 := HSw3.out.r.frozenAt 8
  have r9 := HSw3.out.r.cell 9 (by omega)
  have f9 := HSw3.out.r.frozenAt 9
  have r10 := HSw3.out.r.cell 10 (by omega)
  have f10 := HSw3.out.r.frozenAt 10
  have r11 := HSw3.out.r.cell 11 (by omega)
  have f11 := HSw3.out.r.frozenAt 11
  have r12 := HSw3.out.r.cell 12 (by omega)
  have f12 := HSw3.out.r.frozenAt 12
  refine wpAnyH_ready (rs := [9]) (by kernel_rfl) (by simp) ?_
  refine AllReadyH.cons rfl (fun K hK => ?_) AllReadyH.nil
  try simp only [List.getElem_toArray, List.getElem_cons_succ, List.getElem_cons_zero]
  go_simp
  refine hK.out _ _ ?hs4 (fun hHeld => ?_)
  case hs4 => exact ⟨⟨(World.cell?_of_block (Below.heap_setCell _ ⟨w.heap.size, 12, none⟩ _ (w.heap.size + 1 + 1) (by simp only; omega))).trans ((World.cell?_of_block (Below.heap_setCell _ ⟨w.heap.size, 11, none⟩ _ (w.heap.size + 1 + 1) (by simp only; omega))).trans ((World.cell?_of_block (Below.heap_setCell _ ⟨w.heap.size, 10, none⟩ _ (w.heap.size + 1 + 1) (by simp only; omega))).trans ((World.cell?_of_block (Below.heap_setCell _ ⟨w.heap.size, 9, none⟩ _ (w.heap.size + 1 + 1) (by simp only; omega))).trans ((World.cell?_of_block (Below.heap_setCell _ ⟨w.heap.size, 8, none⟩ _ (w.heap.size + 1 + 1) (by simp only; omega))).trans ((World.cell?_of_block (Below.heap_setCell _ ⟨w.heap.size, 7, none⟩ _ (w.heap.size + 1 + 1) (by simp only; omega))).trans ((World.cell?_of_block (Below.heap_setCell _ ⟨w.heap.size, 6, none⟩ _ (w.heap.size + 1 + 1) (by simp only; omega))).trans ((World.cell?_of_block (Below.heap_setCell _ ⟨w.heap.size, 5, none⟩ _ (w.heap.size + 1 + 1) (by simp only; omega))).trans ((World.cell?_of_block (Below.heap_setCell _ ⟨w.heap.size, 4, none⟩ _ (w.heap.size + 1 + 1) (by simp only; omega))).trans ((World.cell?_of_block (Below.heap_setCell _ ⟨w.heap.size, 3, none⟩ _ (w.heap.size + 1 + 1) (by simp only; omega))).trans ((World.cell?_of_block (Below.heap_setCell _ ⟨w.heap.size, 2, none⟩ _ (w.heap.size + 1 + 1) (by simp only; omega))).trans ((World.cell?_of_block (Below.heap_setCell _ ⟨w.heap.size, 1, none⟩ _ (w.heap.size + 1 + 1) (by simp only; omega))).trans ((World.cell?_of_block (Below.heap_setCell _ ⟨w.heap.size, 0, none⟩ _ (w.heap.size + 1 + 1) (by simp only; omega))).trans (hHeld.1.1))))))))))))), (World.cell?_of_block (Below.heap_setCell _ ⟨w.heap.size, 12, none⟩ _ (w.heap.size + 1 + 1) (by simp only; omega))).trans ((World.cell?_of_block (Below.heap_setCell _ ⟨w.heap.size, 11, none⟩ _ (w.heap.size + 1 + 1) (by simp only; omega))).trans ((World.cell?_of_block (Below.heap_setCell _ ⟨w.heap.size, 10, none⟩ _ (w.heap.size + 1 + 1) (by simp only; omega))).trans ((World.cell?_of_block (Below.heap_setCell _ ⟨w.heap.size, 9, none⟩ _ (w.heap.size + 1 + 1) (by simp only; omega))).trans ((World.cell?_of_block (Below.heap_setCell _ ⟨w.heap.size, 8, none⟩ _ (w.heap.size + 1 + 1) (by simp only; omega))).trans ((World.cell?_of_block (Below.heap_setCell _ ⟨w.heap.size, 7, none⟩ _ (w.heap.size + 1 + 1) (by simp only; omega))).trans ((World.cell?_of_block (Below.heap_setCell _ ⟨w.heap.size, 6, none⟩ _ (w.heap.size + 1 + 1) (by simp only; omega))).trans ((World.cell?_of_block (Below.heap_setCell _ ⟨w.heap.size, 5, none⟩ _ (w.heap.size + 1 + 1) (by simp only; omega))).trans ((World.cell?_of_block (Below.heap_setCell _ ⟨w.heap.size, 4, none⟩ _ (w.heap.size + 1 + 1) (by simp only; omega))).trans ((World.cell?_of_block (Below.heap_setCell _ ⟨w.heap.size, 3, none⟩ _ (w.heap.size + 1 + 1) (by simp only; omega))).trans ((World.cell?_of_block (Below.heap_setCell _ ⟨w.heap.size, 2, none⟩ _ (w.heap.size + 1 + 1) (by simp only; omega))).trans ((World.cell?_of_block (Below.heap_setCell _ ⟨w.heap.size, 1, none⟩ _ (w.heap.size + 1 + 1) (by simp only; omega))).trans ((World.cell?_of_block (Below.heap_setCell _ ⟨w.heap.size, 0, none⟩ _ (w.heap.size + 1 + 1) (by simp only; omega))).trans (hHeld.1.2)))))))))))))⟩, (((((((((((((HSw3.out.bel.setCell (p := ⟨w.heap.size, 0, none⟩) (by simp only; omega) _).setCell (p := ⟨w.heap.size, 1, none⟩) (by simp only; omega) _).setCell (p := ⟨w.heap.size, 2, none⟩) (by simp only; omega) _).setCell (p := ⟨w.heap.size, 3, none⟩) (by simp only; omega) _).setCell (p := ⟨w.heap.size, 4, none⟩) (by simp only; omega) _).setCell (p := ⟨w.heap.size, 5, none⟩) (by simp only; omega) _).setCell (p := ⟨w.heap.size, 6, none⟩) (by simp only; omega) _).setCell (p := ⟨w.heap.size, 7, none⟩) (by simp only; omega) _).setCell (p := ⟨w.heap.size, 8, none⟩) (by simp only; omega) _).setCell (p := ⟨w.heap.size, 9, none⟩) (by simp only; omega) _).setCell (p := ⟨w.heap.size, 10, none⟩) (by simp only; omega) _).setCell (p := ⟨w.heap.size, 11, none⟩) (by simp only; omega) _).setCell (p := ⟨w.heap.size, 12, none⟩) (by simp only; omega) _)⟩
  clear hK K
  refine wpAnyH_done (by kernel_rfl) ?_ _
  go_wp2
  refine bodyPost_ret (v := tv V) (by simp [results, Try.f68, go_sem, *]) rfl ⟨rfl, hHeld.2⟩
theorem endsOf_any : ∀ x, EC x
  | .none => ends_none
  | .empty => ends_empty
  | .letter c => ends_letter c
  | .any => ends_any
  | .seq a b => ends_seq a b (endsOf_any a) (endsOf_any b)
  | .alt a b => ends_alt a b (endsOf_any a) (endsOf_any b)
  | .many a => ends_many a (endsOf_any a)
  | .inv a => ends_inv a (endsOf_any a)
set_option maxRecDepth 100000 in
set_option maxHeartbeats 2000000 in
theorem fits_any (x : Sh) (s : ByteArray) (hs : s.size ≤ 12) (w : World) (bb : Bool) (hbb : bb = true ↔ Mt x (bts s 0)) : Calls Try.prog 45 #[sv x, .string s] w fun e w' => e = .returned (.bool bb) ∧ Below w.heap.size w w' := by
  have hl : (bts s 0).length ≤ 12 := by rw [bts_lenN]; exact hs
  have h1 := ev_fits (bts s 0) hl x
  have h2 := ev_lt (bts s 0) hl x 0
  rw [bts_lenN] at h1
  have hb : bb = (ev (bts s 0) x 0).testBit s.size := by
    cases h : (ev (bts s 0) x 0).testBit s.size with
    | true => exact hbb.2 (h1.1 h)
    | false => exact bool_noT hbb (fun hm => by rw [h1.2 hm] at h; cases h)
  have C1 := hide (fun w => endsOf_any x s w hs)
  have C2 := hide (fun w => has_any (ev (bts s 0) x 0) s.size (by omega) hs w bb hb)
  obtain ⟨X, hX⟩ : ∃ X, X = ev (bts s 0) x := ⟨_, rfl⟩
  simp only [← hX] at C1 C2
  have hix : ∀ w : World, (Instr.index 112 (tv X) (.int .i64 0)).run Try.prog w = .ok (.int .u16 ((X 0 : Nat) : Int)) w := fun w => by kernel_rfl
  clear hX h1 h2 hbb hb hl
  go_enter Try.func45, Try.ntmps45
  go_wp2_with fail
  refine (C1.out _).mono ?_
  rintro e w1 ⟨rfl, hb1⟩
  go_wp2_with fail
  refine (C2.out _).mono ?_
  rintro e w2 ⟨rfl, rfl⟩
  go_wp2
  go_ret
  exact ⟨rfl, hb1⟩
set_option maxRecDepth 100000 in
set_option maxHeartbeats 2000000 in
theorem implFitsForm_any (a : Option Addr) (l : List Pr) (n cap : Nat) (s : ByteArray) (w : World) (hn : l.length = n) (hs : SlP w a l) (hn2 : n ≤ 1048576) (hst : TxP l) (hsz : s.size ≤ 9223372036854775807) (b1 b2 : Bool) (h2 : b2 = true ↔ GoodF l ∧ s.size ≤ 12 ∧ Let s) (h1 : b1 = true ↔ b2 = true ∧ Mt (whole l) (bts s 0)) :
    Calls Try.prog 17 #[.slice a n cap, .string s] w fun e w' => e = .returned (.tuple #[.bool b1, .bool b2]) ∧ Below w.heap.size w w' := by
  by_cases hg : GoodF l
  · have C1 := hide (goodForm_any a l n cap w hn hs hn2 hst true (iff_of_true rfl hg))
    by_cases hl : s.size ≤ 12 ∧ Let s
    · obtain rfl : b2 = true := h2.2 ⟨hg, hl⟩
      have C2 := hide (fun w => isFitted_any s w hsz true (iff_of_true rfl hl))
      have C3 := hide (fun w hs => shapeOf_any a l n cap w hn hs hg)
      have C4 := hide (fun w => fits_any (whole l) s hl.1 w b1 (h1.trans ⟨fun h => h.2, fun h => ⟨rfl, h⟩⟩))
      have HS := hide hs
      clear hn hs hst h2 h1 hg hl
      go_enter Try.func17, Try.ntmps17
      go_wp2_with fail
      refine C1.out.mono ?_
      rintro e w1 ⟨rfl, hb1⟩
      have B1 := hide hb1
      clear hb1
      go_wp2_with fail
      refine (C2.out _).mono ?_
      rintro e w2 ⟨rfl, hb2⟩
      have B2 := hide (B1.out.trans (hb2.mono B1.out.size))
      clear hb2
      go_wp2_with fail
      refine (C3.out _ (HS.out.below B2.out)).mono ?_
      rintro e w3 ⟨rfl, hb3⟩
      have B3 := hide (B2.out.trans (hb3.mono B2.out.size))
      clear hb3
      go_wp2_with fail
      refine (C4.out _).mono ?_
      rintro e w4 ⟨rfl, hb4⟩
      have B4 := hide (B3.out.trans (hb4.mono B3.out.size))
      clear hb4
      go_wp2
      go_ret2
      exact ⟨rfl, B4.out⟩
    · obtain rfl : b2 = false := bool_noT h2 (fun h => hl h.2)
      obtain rfl : b1 = false := bool_noT h1 (fun h => by cases h.1)
      have C2 := hide (fun w => isFitted_any s w hsz false (iff_of_false (by simp) hl))
      clear hn hs hst h2 h1 hg hl
      go_enter Try.func17, Try.ntmps17
      go_wp2_with fail
      refine C1.out.mono ?_
      rintro e w1 ⟨rfl, hb1⟩
      have B1 := hide hb1
      clear hb1
      go_wp2_with fail
      refine (C2.out _).mono ?_
      rintro e w2 ⟨rfl, hb2⟩
      have B2 := hide (B1.out.trans (hb2.mono B1.out.size))
      clear hb2
      go_wp2
      go_ret2
      exact ⟨rfl, B2.out⟩
  · obtain rfl : b2 = false := bool_noT h2 (fun h => hg h.1)
    obtain rfl : b1 = false := bool_noT h1 (fun h => by cases h.1)
    have C1 := hide (goodForm_any a l n cap w hn hs hn2 hst false (iff_of_false (by simp) hg))
    clear hn hs hst h2 h1 hg
    go_enter Try.func17, Try.ntmps17
    go_wp2_with fail
    refine C1.out.mono ?_
    rintro e w1 ⟨rfl, hb1⟩
    go_wp2
    go_ret2
    exact ⟨rfl, hb1⟩
end Go.Proofs.Ytkdiffpbljohkay.L5
