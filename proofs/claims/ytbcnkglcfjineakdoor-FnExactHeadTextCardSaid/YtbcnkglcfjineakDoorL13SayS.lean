/-
  Contract: spec.l13Text.
-/
import Derived.Test.YtbcnkglcfjineakDoorL13SayM
import Derived.Test.YtbcnkglcfjineakDoorL13Say
import Derived.Test.YtbcnkglcfjineakDoorL13Text
namespace Go.Proofs.YtbcnkglcfjineakDoor.L13
open Go.RowKit L1
set_option linter.unusedVariables false

set_option maxRecDepth 100000 in
set_option maxHeartbeats 2000000 in
theorem specl13Text_any (s : ByteArray) (x y : Int) (w : World) (hs : s.size ≤ 8) (hx0 : 0 ≤ x) (hx1 : x ≤ 1000000000) (hy0 : -1000000000 ≤ y) (hy1 : y ≤ 1000000000) :
    Calls Tryd.prog 24 #[.agg #[.string s, .int .i64 x, .int .i64 y]] w fun e w' => e = .returned (.string (sayT s x y)) ∧ Below w.heap.size w w' := by
  have C5 := hide (fun wx => l1Num_any x.toNat wx (by omega))
  rw [← numT_pos hx0, show ((x.toNat : Nat) : Int) = x by omega] at C5
  have C10 := hide (fun wx => l1Text_any y wx (by omega) (by omega))
  have sx := numT_sz x (by omega) (by omega)
  have sy := numT_sz y (by omega) (by omega)
  unfold sayT
  obtain ⟨X, hX⟩ : ∃ X, X = numT x := ⟨_, rfl⟩
  obtain ⟨Y, hY⟩ : ∃ Y, Y = numT y := ⟨_, rfl⟩
  rw [← hX] at C5 sx ⊢
  rw [← hY] at C10 sy ⊢
  have sp : (⟨#[32]⟩ : ByteArray).size = 1 := rfl
  obtain ⟨A, hA⟩ : ∃ A, A = s ++ ⟨#[32]⟩ := ⟨_, rfl⟩
  rw [← hA]
  have sA : A.size ≤ 9 := by rw [hA, ByteArray.size_append]; omega
  obtain ⟨B, hB⟩ : ∃ B, B = A ++ X := ⟨_, rfl⟩
  rw [← hB]
  have sB : B.size ≤ 21 := by rw [hB, ByteArray.size_append]; omega
  obtain ⟨D, hD⟩ : ∃ D, D = B ++ ⟨#[32]⟩ := ⟨_, rfl⟩
  rw [← hD]
  have sD : D.size ≤ 22 := by rw [hD, ByteArray.size_append]; omega
  obtain ⟨E, hE⟩ : ∃ E, E = D ++ Y := ⟨_, rfl⟩
  rw [← hE]
  have q0 : ∀ w : World, (Op.stringOp .add s (⟨#[32]⟩ : ByteArray)).run Tryd.prog w = .ok (.string A) w := fun w => by rw [hA]; exact run_string_add_sum w _ _ (by omega)
  have q1 : ∀ w : World, (Op.stringOp .add A X).run Tryd.prog w = .ok (.string B) w := fun w => by rw [hB]; exact run_string_add_sum w _ _ (by omega)
  have q2 : ∀ w : World, (Op.stringOp .add B (⟨#[32]⟩ : ByteArray)).run Tryd.prog w = .ok (.string D) w := fun w => by rw [hD]; exact run_string_add_sum w _ _ (by omega)
  have q3 : ∀ w : World, (Op.stringOp .add D Y).run Tryd.prog w = .ok (.string E) w := fun w => by rw [hE]; exact run_string_add_sum w _ _ (by omega)
  clear hX hY hA hB hD hE sx sy sp sA sB sD hs hx0 hx1 hy0 hy1
  go_enter Tryd.func24, Tryd.ntmps24
  go_wp2
  obtain ⟨W0, hW0⟩ : ∃ W0, w.alloc (syO 27 s x y) = W0 := ⟨_, rfl⟩
  have hb0 : Below w.heap.size w W0 := by rw [← hW0]; exact (Below.refl _ _).alloc (Nat.le_refl _) _
  obtain ⟨c0, c1, c2⟩ := blk3s (show W0.heap[w.heap.size]? = some (syO 27 s x y) by rw [← hW0]; exact L8.blk_new _ _)
  rw [hW0]
  have HB0 := hide hb0
  clear hW0 hb0
  refine wp_region_held_drew (S := fun wx => (wx.cell? ⟨w.heap.size, 0, none⟩ = some (.string s) ∧ wx.cell? ⟨w.heap.size, 1, none⟩ = some (.int .i64 x) ∧ wx.cell? ⟨w.heap.size, 2, none⟩ = some (.int .i64 y)) ∧ Below W0.heap.size W0 wx) (by kernel_rfl) ⟨⟨c0, c1, c2⟩, (Below.refl _ _).drew⟩ (fun hHeld => ?_)
  refine wpAnyH_take (i := 0) (v := ?v12) rfl (by kernel_rfl) (by kernel_rfl) (by kernel_rfl) (fun _ _ _ h => h) (Or.inl ⟨by rfl, ?y12⟩) (by assumption) ?r12
  case y12 => (intro w hSw; (try dsimp only at hSw); go_simp; try (with_reducible rfl))
  simp only [List.getElem_toArray, List.getElem_cons_zero, Act.put, List.setIfInBounds_toArray, List.set_cons_zero, List.set_cons_succ]
  refine wpAnyH_take (i := 1) (v := ?v13) rfl (by kernel_rfl) (by kernel_rfl) (by kernel_rfl) (fun _ _ _ h => h) (Or.inl ⟨by rfl, ?y13⟩) (by assumption) ?r13
  case y13 => (intro w hSw; (try dsimp only at hSw); go_simp; try (with_reducible rfl))
  simp only [List.getElem_toArray, List.getElem_cons_succ, List.getElem_cons_zero, Act.put, List.setIfInBounds_toArray, List.set_cons_zero, List.set_cons_succ]
  refine wpAnyH_take (i := 2) (v := ?v14) rfl (by kernel_rfl) (by kernel_rfl) (by kernel_rfl) (fun _ _ _ h => h) (Or.inl ⟨by rfl, ?y14⟩) (by assumption) ?r14
  case y14 => (intro w hSw; (try dsimp only at hSw); go_simp; try (with_reducible rfl))
  simp only [List.getElem_toArray, List.getElem_cons_succ, List.getElem_cons_zero, Act.put, List.setIfInBounds_toArray, List.set_cons_zero, List.set_cons_succ]
  refine wpAnyH_take (i := 3) (v := ?v15) rfl (by kernel_rfl) (by kernel_rfl) (by kernel_rfl) (fun _ _ _ h => h) (Or.inl ⟨by rfl, ?y15⟩) (by assumption) ?r15
  case y15 => (intro w hSw; (try dsimp only at hSw); go_simp; try (with_reducible rfl))
  simp only [List.getElem_toArray, List.getElem_cons_succ, List.getElem_cons_zero, Act.put, List.setIfInBounds_toArray, List.set_cons_zero, List.set_cons_succ]
  refine wpAnyH_take (i := 4) (v := ?v16) rfl (by kernel_rfl) (by kernel_rfl) (by kernel_rfl) (fun _ _ _ h => h) (Or.inl ⟨by rfl, ?y16⟩) (by assumption) ?r16
  case y16 => (intro w hSw; (try dsimp only at hSw); go_simp; try (with_reducible rfl))
  simp only [List.getElem_toArray, List.getElem_cons_succ, List.getElem_cons_zero, Act.put, List.setIfInBounds_toArray, List.set_cons_zero, List.set_cons_succ]
  refine wpAnyH_take (i := 8) (v := ?v17) rfl (by kernel_rfl) (by kernel_rfl) (by kernel_rfl) (fun _ _ _ h => h) (Or.inl ⟨by rfl, ?y17⟩) (by assumption) ?r17
  case y17 => (intro w hSw; (try dsimp only at hSw); go_simp; try (with_reducible rfl))
  simp only [List.getElem_toArray, List.getElem_cons_succ, List.getElem_cons_zero, Act.put, List.setIfInBounds_toArray, List.set_cons_zero, List.set_cons_succ]
  refine wpAnyH_take (i := 9) (v := ?v18) rfl (by kernel_rfl) (by kernel_rfl) (by kernel_rfl) (fun _ _ _ h => h) (Or.inl ⟨by rfl, ?y18⟩) (by assumption) ?r18
  case y18 => (intro w hSw; (try dsimp only at hSw); go_simp; try (with_reducible rfl))
  simp only [List.getElem_toArray, List.getElem_cons_succ, List.getElem_cons_zero, Act.put, List.setIfInBounds_toArray, List.set_cons_zero, List.set_cons_succ]
  refine wpAnyH_ready (rs := [5]) (by kernel_rfl) (by simp) ?_
  refine AllReadyH.cons rfl (fun K hK => ?_) AllReadyH.nil
  simp only [List.getElem_toArray, List.getElem_cons_succ, List.getElem_cons_zero]
  go_simp
  go_at_call 48
  refine (C5.out _).mono ?_
  rintro e w3 ⟨rfl, hb⟩
  dsimp only
  refine hK.out _ _ ?_ (fun hHeld => ?_)
  · exact L8.keep3 (by assumption) hb (Nat.le_refl _)
  clear hK K
  try simp only [Act.put, List.setIfInBounds_toArray, List.set_cons_zero, List.set_cons_succ]
  refine wpAnyH_take (i := 6) (v := ?v19) rfl (by kernel_rfl) (by kernel_rfl) (by kernel_rfl) (fun _ _ _ h => h) (Or.inl ⟨by rfl, ?y19⟩) (by assumption) ?r19
  case y19 => (intro w hSw; (try dsimp only at hSw); go_simp; try (with_reducible rfl))
  simp only [List.getElem_toArray, List.getElem_cons_succ, List.getElem_cons_zero, Act.put, List.setIfInBounds_toArray, List.set_cons_zero, List.set_cons_succ]
  refine wpAnyH_take (i := 7) (v := ?v20) rfl (by kernel_rfl) (by kernel_rfl) (by kernel_rfl) (fun _ _ _ h => h) (Or.inl ⟨by rfl, ?y20⟩) (by assumption) ?r20
  case y20 => (intro w hSw; (try dsimp only at hSw); go_simp; try (with_reducible rfl))
  simp only [List.getElem_toArray, List.getElem_cons_succ, List.getElem_cons_zero, Act.put, List.setIfInBounds_toArray, List.set_cons_zero, List.set_cons_succ]
  refine wpAnyH_ready (rs := [10]) (by kernel_rfl) (by simp) ?_
  refine AllReadyH.cons rfl (fun K hK => ?_) AllReadyH.nil
  simp only [List.getElem_toArray, List.getElem_cons_succ, List.getElem_cons_zero]
  go_simp
  go_at_call 49
  refine (C10.out _).mono ?_
  rintro e w3 ⟨rfl, hb⟩
  dsimp only
  refine hK.out _ _ ?_ (fun hHeld => ?_)
  · exact L8.keep3 (by assumption) hb (Nat.le_refl _)
  clear hK K
  try simp only [Act.put, List.setIfInBounds_toArray, List.set_cons_zero, List.set_cons_succ]
  refine wpAnyH_take (i := 11) (v := ?v21) rfl (by kernel_rfl) (by kernel_rfl) (by kernel_rfl) (fun _ _ _ h => h) (Or.inl ⟨by rfl, ?y21⟩) (by assumption) ?r21
  case y21 => (intro w hSw; (try dsimp only at hSw); go_simp; try (with_reducible rfl))
  simp only [List.getElem_toArray, List.getElem_cons_succ, List.getElem_cons_zero, Act.put, List.setIfInBounds_toArray, List.set_cons_zero, List.set_cons_succ]
  refine wpAnyH_take (i := 12) (v := ?v22) rfl (by kernel_rfl) (by kernel_rfl) (by kernel_rfl) (fun _ _ _ h => h) (Or.inl ⟨by rfl, ?y22⟩) (by assumption) ?r22
  case y22 => (intro w hSw; (try dsimp only at hSw); go_simp; try (with_reducible rfl))
  simp only [List.getElem_toArray, List.getElem_cons_succ, List.getElem_cons_zero, Act.put, List.setIfInBounds_toArray, List.set_cons_zero, List.set_cons_succ]
  refine wpAnyH_done (by kernel_rfl) ?_ _
  have HE := hide (HB0.out.trans (hHeld.2.mono HB0.out.size))
  clear hHeld
  go_wp2
  go_ret
  exact ⟨rfl, HE.out⟩
end Go.Proofs.YtbcnkglcfjineakDoor.L13
