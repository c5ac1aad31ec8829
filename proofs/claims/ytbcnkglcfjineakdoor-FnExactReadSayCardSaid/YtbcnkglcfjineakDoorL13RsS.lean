/-
  Contracts: spec.l13Read, spec.ReadSay; laws.eqSay.
-/
import Derived.Test.YtbcnkglcfjineakDoorL13RsI
import Derived.Test.YtbcnkglcfjineakDoorL3Split
namespace Go.Proofs.YtbcnkglcfjineakDoor.L13
open Go.RowKit L1
set_option linter.unusedVariables false

/-- Three texts in a row. -/
def P3 (w : World) (g : Nat) (a b d : ByteArray) : Prop := g < w.heap.size ∧ w.cell? ⟨g, 0, none⟩ = some (.string a) ∧ w.cell? ⟨g, 1, none⟩ = some (.string b) ∧ w.cell? ⟨g, 2, none⟩ = some (.string d)
theorem P3.below {w w' : World} {g : Nat} {a b d : ByteArray} (h : P3 w g a b d) (hb : Below w.heap.size w w') : P3 w' g a b d := by
  obtain ⟨h0, h1, h2, h3⟩ := h
  have e := hb.block g h0
  have hs := hb.size
  refine ⟨by omega, ?_, ?_, ?_⟩
  · rw [← h1]; simp only [World.cell?, e]
  · rw [← h2]; simp only [World.cell?, e]
  · rw [← h3]; simp only [World.cell?, e]
theorem own_p3 {w : World} {base : Nat} {v : Value} {a b d : ByteArray} (h : L3.OwX w base v [a, b, d]) : ∃ g cap, v = .slice (some ⟨g, 0, none⟩) 3 cap ∧ base ≤ g ∧ P3 w g a b d := by
  obtain ⟨g, cap, rfl, h1, h2, h3⟩ := L3.own_formX h (by simp)
  exact ⟨g, cap, rfl, h1, h2, h3 0 (by simp), h3 1 (by simp), h3 2 (by simp)⟩
theorem mem_le_sum : ∀ {l : List Nat} {x : Nat}, x ∈ l → x ≤ l.sum
  | [], _, h => absurd h (by simp)
  | a :: l, x, h => by
    rw [List.sum_cons]
    rcases List.mem_cons.1 h with rfl | h
    · omega
    · have := mem_le_sum h
      omega
theorem set3_other {W : World} {g g2 : Nat} {a' b' c' : Value} {o : Obj} (hne : g ≠ g2) (h : W.heap[g2]? = some o) :
    (((W.setCell ⟨g, 0, none⟩ a').setCell ⟨g, 1, none⟩ b').setCell ⟨g, 2, none⟩ c').heap[g2]? = some o := by
  simp [World.setCell, Array.getElem?_modify, hne, h]
theorem parts_le {c : UInt8} {s p : ByteArray} (h : p ∈ L3.parts c s) : p.size ≤ s.size := by
  have h1 := L3.parts_size c s
  have h2 : p.size + 1 ≤ ((L3.parts c s).map (fun p => p.size + 1)).sum := mem_le_sum (List.mem_map_of_mem h)
  omega
set_option maxRecDepth 100000 in
set_option maxHeartbeats 4000000 in
theorem l13Read_any (s : ByteArray) (w : World) (hs : s.size ≤ 1048576) :
    Calls Tryd.prog 27 #[.string s] w (ReadEnd s w) := by
  have CS := hide (fun w => L3.specSplit_big s 32 hs 32 rfl w)
  have A0 := hide (L8.blk_new w (syO 27 ByteArray.empty 0 0))
  have B0 := hide ((Below.refl w.heap.size w).alloc (Nat.le_refl _) (syO 27 ByteArray.empty 0 0))
  have HL : Hid ((L3.parts 32 s).length ≤ 1048577) := by
    have := L3.parts_length 32 s
    show _ ≤ _
    omega
  by_cases h3 : (L3.parts 32 s).length = 3
  · obtain ⟨a, b, d, hp⟩ : ∃ a b d, L3.parts 32 s = [a, b, d] := by
      match hq : L3.parts 32 s, h3 with
      | [a, b, d], _ => exact ⟨a, b, d, rfl⟩
    have za := parts_le (p := a) (by rw [hp]; simp)
    have zb := parts_le (p := b) (by rw [hp]; simp)
    have zd := parts_le (p := d) (by rw [hp]; simp)
    have HS : Hid (∀ x y o1 o2 ok, IsRd b x o1 → IsRd d y o2 → (ok = true ↔ o1 = true ∧ o2 = true ∧ okSay a x y) → IsSay s a x y ok) := fun x y o1 o2 ok h1 h2 h3 => isSay_parts hp h1 h2 h3
    have CD1 := hide (fun w => l13Int_any b w (by omega))
    have CD2 := hide (fun w => l13Int_any d w (by omega))
    have CG := hide (fun x y w b hb => l13Say_any a x y w (by omega) b hb)
    rw [hp] at CS
    clear h3 hp za zb zd hs HL
    go_enter Tryd.func27, Tryd.ntmps27
    go_wp2_with fail
    refine (CS.out _).mono ?_
    rintro e w1 ⟨v, rfl, hown, hb⟩
    obtain ⟨g, cap, rfl, hg, hP⟩ := own_p3 hown
    have P1 := hide hP
    have A1 := hide ((hb.block w.heap.size (by simp)).trans A0.out)
    have B1 := hide (B0.out.trans (hb.mono B0.out.size))
    clear hb A0 B0 hown hP CS
    obtain ⟨_, j0, j1, j2⟩ := P1.out
    go_wp2_with fail
    refine (CD1.out _).mono ?_
    rintro e w2 ⟨x, o1, rfl, h1, hb⟩
    have P2 := hide (P1.out.below hb)
    have A2 := hide ((hb.block w.heap.size (Array.getElem?_eq_some_iff.1 A1.out).1).trans A1.out)
    have B2 := hide (B1.out.trans (hb.mono B1.out.size))
    clear hb A1 B1 P1 j0 j1 j2
    obtain ⟨_, j0, j1, j2⟩ := P2.out
    go_wp2_with fail
    refine (CD2.out _).mono ?_
    rintro e w3 ⟨y, o2, rfl, h2, hb⟩
    have P3 := hide (P2.out.below hb)
    have A3 := hide ((hb.block w.heap.size (Array.getElem?_eq_some_iff.1 A2.out).1).trans A2.out)
    have B3 := hide (B2.out.trans (hb.mono B2.out.size))
    clear hb A2 B2 P2 j0 j1 j2
    obtain ⟨_, j0, j1, j2⟩ := P3.out
    have HX := hide (HS.out x y o1 o2)
    obtain ⟨ok, hok⟩ := boolP (okSay a x y)
    have CG' := hide (fun w => CG.out x y w ok hok)
    clear HS CD1 CD2 CG
    go_upto_region 7 with fail
    obtain ⟨W5, hW5⟩ : ∃ W5, w3.alloc (syO 27 a x y) = W5 := ⟨_, rfl⟩
    have A5 := hide (show W5.heap[w.heap.size]? = some (syO 27 ByteArray.empty 0 0) by rw [← hW5]; exact blk_old A3.out)
    have B5 := hide (show Below w.heap.size w W5 by rw [← hW5]; exact B3.out.alloc B3.out.size _)
    have C5 := hide (show W5.heap[w3.heap.size]? = some (syO 27 a x y) by rw [← hW5]; exact L8.blk_new _ _)
    have hne : w.heap.size ≠ w3.heap.size := by have := (Array.getElem?_eq_some_iff.1 A3.out).1; omega
    have HNE := hide hne
    rw [hW5]
    clear hW5 A3 B3 P3 j0 j1 j2 hne
    cases o1 with
    | false =>
      have E := hide (HX.out false h1 h2 (by simp))
      clear HX h1 h2 hok CG'
      refine wp_region_held_drew (S := (fun wx => (wx.cell? ⟨w3.heap.size, 0, none⟩ = some (.string a) ∧ wx.cell? ⟨w3.heap.size, 1, none⟩ = some (.int .i64 x) ∧ wx.cell? ⟨w3.heap.size, 2, none⟩ = some (.int .i64 y)) ∧ Below w.heap.size w wx)) (by kernel_rfl) ⟨by obtain ⟨c0, c1, c2, _, _, _⟩ := blk3f C5.out; exact ⟨c0, c1, c2⟩, B5.out.drew⟩ (fun hHeld => ?_)
      refine wpAnyH_take (i := 0) (v := ?v1) rfl (by kernel_rfl) (by kernel_rfl) (by kernel_rfl) (fun _ _ _ h => h) (Or.inl ⟨by rfl, ?y1⟩) (by assumption) ?r1
      case y1 => (intro w hSw; (try dsimp only at hSw); go_simp; try (with_reducible rfl))
      simp only [List.getElem_toArray, List.getElem_cons_zero, Act.put, List.setIfInBounds_toArray, List.set_cons_zero, List.set_cons_succ]
      refine wpAnyH_take (i := 1) (v := ?v2) rfl (by kernel_rfl) (by kernel_rfl) (by kernel_rfl) (fun _ _ _ h => h) (Or.inl ⟨by rfl, ?y2⟩) (by assumption) ?r2
      case y2 => (intro w hSw; (try dsimp only at hSw); go_simp; try (with_reducible rfl))
      simp only [List.getElem_toArray, List.getElem_cons_succ, List.getElem_cons_zero, Act.put, List.setIfInBounds_toArray, List.set_cons_zero, List.set_cons_succ]
      refine wpAnyH_take (i := 2) (v := ?v3) rfl (by kernel_rfl) (by kernel_rfl) (by kernel_rfl) (fun _ _ _ h => h) (Or.inl ⟨by rfl, ?y3⟩) (by assumption) ?r3
      case y3 => (intro w hSw; (try dsimp only at hSw); go_simp; try (with_reducible rfl))
      simp only [List.getElem_toArray, List.getElem_cons_succ, List.getElem_cons_zero, Act.put, List.setIfInBounds_toArray, List.set_cons_zero, List.set_cons_succ]
      refine wpAnyH_take (i := 3) (v := undef) rfl (by kernel_rfl) (by kernel_rfl) (by kernel_rfl) (fun _ _ _ h => h) (Or.inr ⟨by rfl, rfl⟩) (by assumption) ?_
      simp only [List.getElem_toArray, List.getElem_cons_succ, List.getElem_cons_zero, Act.put, List.setIfInBounds_toArray, List.set_cons_zero, List.set_cons_succ]
      refine wpAnyH_take (i := 4) (v := ?v5) rfl (by kernel_rfl) (by kernel_rfl) (by kernel_rfl) (fun _ _ _ h => h) (Or.inl ⟨by rfl, ?y5⟩) (by assumption) ?r5
      case y5 => (intro w hSw; (try dsimp only at hSw); go_simp; try (with_reducible rfl))
      simp only [List.getElem_toArray, List.getElem_cons_succ, List.getElem_cons_zero, Act.put, List.setIfInBounds_toArray, List.set_cons_zero, List.set_cons_succ]
      refine wpAnyH_take (i := 5) (v := ?v6) rfl (by kernel_rfl) (by kernel_rfl) (by kernel_rfl) (fun _ _ _ h => h) (Or.inl ⟨by rfl, ?y6⟩) (by assumption) ?r6
      case y6 => (intro w hSw; (try dsimp only at hSw); go_simp; try (with_reducible rfl))
      simp only [List.getElem_toArray, List.getElem_cons_succ, List.getElem_cons_zero, Act.put, List.setIfInBounds_toArray, List.set_cons_zero, List.set_cons_succ]
      refine wpAnyH_take (i := 6) (v := undef) rfl (by kernel_rfl) (by kernel_rfl) (by kernel_rfl) (fun _ _ _ h => h) (Or.inr ⟨by rfl, rfl⟩) (by assumption) ?_
      simp only [List.getElem_toArray, List.getElem_cons_succ, List.getElem_cons_zero, Act.put, List.setIfInBounds_toArray, List.set_cons_zero, List.set_cons_succ]
      refine wpAnyH_take (i := 7) (v := undef) rfl (by kernel_rfl) (by kernel_rfl) (by kernel_rfl) (fun _ _ _ h => h) (Or.inr ⟨by rfl, rfl⟩) (by assumption) ?_
      simp only [List.getElem_toArray, List.getElem_cons_succ, List.getElem_cons_zero, Act.put, List.setIfInBounds_toArray, List.set_cons_zero, List.set_cons_succ]
      refine wpAnyH_take (i := 8) (v := ?v9) rfl (by kernel_rfl) (by kernel_rfl) (by kernel_rfl) (fun _ _ _ h => h) (Or.inl ⟨by rfl, ?y9⟩) (by assumption) ?r9
      case y9 => (intro w hSw; (try dsimp only at hSw); go_simp; try (with_reducible rfl))
      simp only [List.getElem_toArray, List.getElem_cons_succ, List.getElem_cons_zero, Act.put, List.setIfInBounds_toArray, List.set_cons_zero, List.set_cons_succ]
      obtain ⟨k0, k1, k2, q0, q1, q2⟩ := blk3f A5.out
      refine wpAnyH_ready (rs := [9]) (by kernel_rfl) (by simp) ?_
      refine AllReadyH.cons rfl (fun K hK => ?_) AllReadyH.nil
      simp only [List.getElem_toArray, List.getElem_cons_succ, List.getElem_cons_zero]
      go_simp
      have c9 := blk3f (set3_other (a' := .string a) (b' := .int .i64 x) (c' := .int .i64 y) HNE.out C5.out)
      have b9 := set3_below (a' := .string a) (b' := .int .i64 x) (c' := .int .i64 y) B5.out (Nat.le_refl _)
      refine hK.out _ _ ⟨⟨c9.1, c9.2.1, c9.2.2.1⟩, b9.drew⟩ (fun hHeld => ?_)
      clear c9 b9
      clear hK K
      try simp only [Act.put, List.setIfInBounds_toArray, List.set_cons_zero, List.set_cons_succ]
      obtain ⟨W9, hW9⟩ : ∃ W9, (((W5.setCell ⟨w.heap.size, 0, none⟩ (.string a)).setCell ⟨w.heap.size, 1, none⟩ (.int .i64 x)).setCell ⟨w.heap.size, 2, none⟩ (.int .i64 y)) = W9 := ⟨_, rfl⟩
      have A9 := hide (show W9.heap[w.heap.size]? = some (syO 27 a x y) by rw [← hW9]; exact set3 A5.out)
      have B9 := hide (show Below w.heap.size w W9 by rw [← hW9]; exact set3_below B5.out (Nat.le_refl _))
      rw [hW9] at hHeld ⊢
      clear hW9 k0 k1 k2 q0 q1 q2 A5 B5 C5
      refine wpAnyH_take (i := 10) (v := ?v10) rfl (by kernel_rfl) (by kernel_rfl) (by kernel_rfl) (fun _ _ _ h => h) (Or.inl ⟨by rfl, ?y10⟩) (by assumption) ?r10
      case y10 => (intro w hSw; (try dsimp only at hSw); go_simp; try (with_reducible rfl))
      simp only [List.getElem_toArray, List.getElem_cons_succ, List.getElem_cons_zero, Act.put, List.setIfInBounds_toArray, List.set_cons_zero, List.set_cons_succ]
      refine wpAnyH_done (by kernel_rfl) ?_ _
      clear hHeld
      go_wp2
      obtain ⟨d0, d1, d2, _, _, _⟩ := blk3f A9.out
      refine bodyPost_ret (v := .tuple #[.agg #[.string a, .int .i64 x, .int .i64 y], .bool false]) (by simp [results, Tryd.f27, go_sem, d0, d1, d2]) rfl ?_
      exact ⟨_, _, _, _, rfl, E.out, B9.out.drew⟩
    | true =>
      cases o2 with
      | false =>
        have E := hide (HX.out false h1 h2 (by simp))
        clear HX h1 h2 hok CG'
        refine wp_region_held_drew (S := (fun wx => (wx.cell? ⟨w3.heap.size, 0, none⟩ = some (.string a) ∧ wx.cell? ⟨w3.heap.size, 1, none⟩ = some (.int .i64 x) ∧ wx.cell? ⟨w3.heap.size, 2, none⟩ = some (.int .i64 y)) ∧ Below w.heap.size w wx)) (by kernel_rfl) ⟨by obtain ⟨c0, c1, c2, _, _, _⟩ := blk3f C5.out; exact ⟨c0, c1, c2⟩, B5.out.drew⟩ (fun hHeld => ?_)
        refine wpAnyH_take (i := 0) (v := ?v11) rfl (by kernel_rfl) (by kernel_rfl) (by kernel_rfl) (fun _ _ _ h => h) (Or.inl ⟨by rfl, ?y11⟩) (by assumption) ?r11
        case y11 => (intro w hSw; (try dsimp only at hSw); go_simp; try (with_reducible rfl))
        simp only [List.getElem_toArray, List.getElem_cons_zero, Act.put, List.setIfInBounds_toArray, List.set_cons_zero, List.set_cons_succ]
        refine wpAnyH_take (i := 1) (v := ?v12) rfl (by kernel_rfl) (by kernel_rfl) (by kernel_rfl) (fun _ _ _ h => h) (Or.inl ⟨by rfl, ?y12⟩) (by assumption) ?r12
        case y12 => (intro w hSw; (try dsimp only at hSw); go_simp; try (with_reducible rfl))
        simp only [List.getElem_toArray, List.getElem_cons_succ, List.getElem_cons_zero, Act.put, List.setIfInBounds_toArray, List.set_cons_zero, List.set_cons_succ]
        refine wpAnyH_take (i := 2) (v := ?v13) rfl (by kernel_rfl) (by kernel_rfl) (by kernel_rfl) (fun _ _ _ h => h) (Or.inl ⟨by rfl, ?y13⟩) (by assumption) ?r13
        case y13 => (intro w hSw; (try dsimp only at hSw); go_simp; try (with_reducible rfl))
        simp only [List.getElem_toArray, List.getElem_cons_succ, List.getElem_cons_zero, Act.put, List.setIfInBounds_toArray, List.set_cons_zero, List.set_cons_succ]
        refine wpAnyH_take (i := 3) (v := ?v14) rfl (by kernel_rfl) (by kernel_rfl) (by kernel_rfl) (fun _ _ _ h => h) (Or.inl ⟨by rfl, ?y14⟩) (by assumption) ?r14
        case y14 => (intro w hSw; (try dsimp only at hSw); go_simp; try (with_reducible rfl))
        simp only [List.getElem_toArray, List.getElem_cons_succ, List.getElem_cons_zero, Act.put, List.setIfInBounds_toArray, List.set_cons_zero, List.set_cons_succ]
        refine wpAnyH_take (i := 4) (v := ?v15) rfl (by kernel_rfl) (by kernel_rfl) (by kernel_rfl) (fun _ _ _ h => h) (Or.inl ⟨by rfl, ?y15⟩) (by assumption) ?r15
        case y15 => (intro w hSw; (try dsimp only at hSw); go_simp; try (with_reducible rfl))
        simp only [List.getElem_toArray, List.getElem_cons_succ, List.getElem_cons_zero, Act.put, List.setIfInBounds_toArray, List.set_cons_zero, List.set_cons_succ]
        refine wpAnyH_take (i := 5) (v := ?v16) rfl (by kernel_rfl) (by kernel_rfl) (by kernel_rfl) (fun _ _ _ h => h) (Or.inl ⟨by rfl, ?y16⟩) (by assumption) ?r16
        case y16 => (intro w hSw; (try dsimp only at hSw); go_simp; try (with_reducible rfl))
        simp only [List.getElem_toArray, List.getElem_cons_succ, List.getElem_cons_zero, Act.put, List.setIfInBounds_toArray, List.set_cons_zero, List.set_cons_succ]
        refine wpAnyH_take (i := 6) (v := undef) rfl (by kernel_rfl) (by kernel_rfl) (by kernel_rfl) (fun _ _ _ h => h) (Or.inr ⟨by rfl, rfl⟩) (by assumption) ?_
        simp only [List.getElem_toArray, List.getElem_cons_succ, List.getElem_cons_zero, Act.put, List.setIfInBounds_toArray, List.set_cons_zero, List.set_cons_succ]
        refine wpAnyH_take (i := 7) (v := undef) rfl (by kernel_rfl) (by kernel_rfl) (by kernel_rfl) (fun _ _ _ h => h) (Or.inr ⟨by rfl, rfl⟩) (by assumption) ?_
        simp only [List.getElem_toArray, List.getElem_cons_succ, List.getElem_cons_zero, Act.put, List.setIfInBounds_toArray, List.set_cons_zero, List.set_cons_succ]
        refine wpAnyH_take (i := 8) (v := ?v19) rfl (by kernel_rfl) (by kernel_rfl) (by kernel_rfl) (fun _ _ _ h => h) (Or.inl ⟨by rfl, ?y19⟩) (by assumption) ?r19
        case y19 => (intro w hSw; (try dsimp only at hSw); go_simp; try (with_reducible rfl))
        simp only [List.getElem_toArray, List.getElem_cons_succ, List.getElem_cons_zero, Act.put, List.setIfInBounds_toArray, List.set_cons_zero, List.set_cons_succ]
        obtain ⟨k0, k1, k2, q0, q1, q2⟩ := blk3f A5.out
        refine wpAnyH_ready (rs := [9]) (by kernel_rfl) (by simp) ?_
        refine AllReadyH.cons rfl (fun K hK => ?_) AllReadyH.nil
        simp only [List.getElem_toArray, List.getElem_cons_succ, List.getElem_cons_zero]
        go_simp
        have c9 := blk3f (set3_other (a' := .string a) (b' := .int .i64 x) (c' := .int .i64 y) HNE.out C5.out)
        have b9 := set3_below (a' := .string a) (b' := .int .i64 x) (c' := .int .i64 y) B5.out (Nat.le_refl _)
        refine hK.out _ _ ⟨⟨c9.1, c9.2.1, c9.2.2.1⟩, b9.drew⟩ (fun hHeld => ?_)
        clear c9 b9
        clear hK K
        try simp only [Act.put, List.setIfInBounds_toArray, List.set_cons_zero, List.set_cons_succ]
        obtain ⟨W9, hW9⟩ : ∃ W9, (((W5.setCell ⟨w.heap.size, 0, none⟩ (.string a)).setCell ⟨w.heap.size, 1, none⟩ (.int .i64 x)).setCell ⟨w.heap.size, 2, none⟩ (.int .i64 y)) = W9 := ⟨_, rfl⟩
        have A9 := hide (show W9.heap[w.heap.size]? = some (syO 27 a x y) by rw [← hW9]; exact set3 A5.out)
        have B9 := hide (show Below w.heap.size w W9 by rw [← hW9]; exact set3_below B5.out (Nat.le_refl _))
        rw [hW9] at hHeld ⊢
        clear hW9 k0 k1 k2 q0 q1 q2 A5 B5 C5
        refine wpAnyH_take (i := 10) (v := ?v20) rfl (by kernel_rfl) (by kernel_rfl) (by kernel_rfl) (fun _ _ _ h => h) (Or.inl ⟨by rfl, ?y20⟩) (by assumption) ?r20
        case y20 => (intro w hSw; (try dsimp only at hSw); go_simp; try (with_reducible rfl))
        simp only [List.getElem_toArray, List.getElem_cons_succ, List.getElem_cons_zero, Act.put, List.setIfInBounds_toArray, List.set_cons_zero, List.set_cons_succ]
        refine wpAnyH_done (by kernel_rfl) ?_ _
        clear hHeld
        go_wp2
        obtain ⟨d0, d1, d2, _, _, _⟩ := blk3f A9.out
        refine bodyPost_ret (v := .tuple #[.agg #[.string a, .int .i64 x, .int .i64 y], .bool false]) (by simp [results, Tryd.f27, go_sem, d0, d1, d2]) rfl ?_
        exact ⟨_, _, _, _, rfl, E.out, B9.out.drew⟩
      | true =>
        have E := hide (HX.out ok h1 h2 (by simp [hok]))
        clear HX h1 h2 hok
        refine wp_region_held_drew (S := (fun wx => (wx.cell? ⟨w3.heap.size, 0, none⟩ = some (.string a) ∧ wx.cell? ⟨w3.heap.size, 1, none⟩ = some (.int .i64 x) ∧ wx.cell? ⟨w3.heap.size, 2, none⟩ = some (.int .i64 y)) ∧ Below w.heap.size w wx)) (by kernel_rfl) ⟨by obtain ⟨c0, c1, c2, _, _, _⟩ := blk3f C5.out; exact ⟨c0, c1, c2⟩, B5.out.drew⟩ (fun hHeld => ?_)
        refine wpAnyH_take (i := 0) (v := ?v21) rfl (by kernel_rfl) (by kernel_rfl) (by kernel_rfl) (fun _ _ _ h => h) (Or.inl ⟨by rfl, ?y21⟩) (by assumption) ?r21
        case y21 => (intro w hSw; (try dsimp only at hSw); go_simp; try (with_reducible rfl))
        simp only [List.getElem_toArray, List.getElem_cons_zero, Act.put, List.setIfInBounds_toArray, List.set_cons_zero, List.set_cons_succ]
        refine wpAnyH_take (i := 1) (v := ?v22) rfl (by kernel_rfl) (by kernel_rfl) (by kernel_rfl) (fun _ _ _ h => h) (Or.inl ⟨by rfl, ?y22⟩) (by assumption) ?r22
        case y22 => (intro w hSw; (try dsimp only at hSw); go_simp; try (with_reducible rfl))
        simp only [List.getElem_toArray, List.getElem_cons_succ, List.getElem_cons_zero, Act.put, List.setIfInBounds_toArray, List.set_cons_zero, List.set_cons_succ]
        refine wpAnyH_take (i := 2) (v := ?v23) rfl (by kernel_rfl) (by kernel_rfl) (by kernel_rfl) (fun _ _ _ h => h) (Or.inl ⟨by rfl, ?y23⟩) (by assumption) ?r23
        case y23 => (intro w hSw; (try dsimp only at hSw); go_simp; try (with_reducible rfl))
        simp only [List.getElem_toArray, List.getElem_cons_succ, List.getElem_cons_zero, Act.put, List.setIfInBounds_toArray, List.set_cons_zero, List.set_cons_succ]
        refine wpAnyH_take (i := 3) (v := ?v24) rfl (by kernel_rfl) (by kernel_rfl) (by kernel_rfl) (fun _ _ _ h => h) (Or.inl ⟨by rfl, ?y24⟩) (by assumption) ?r24
        case y24 => (intro w hSw; (try dsimp only at hSw); go_simp; try (with_reducible rfl))
        simp only [List.getElem_toArray, List.getElem_cons_succ, List.getElem_cons_zero, Act.put, List.setIfInBounds_toArray, List.set_cons_zero, List.set_cons_succ]
        refine wpAnyH_take (i := 4) (v := ?v25) rfl (by kernel_rfl) (by kernel_rfl) (by kernel_rfl) (fun _ _ _ h => h) (Or.inl ⟨by rfl, ?y25⟩) (by assumption) ?r25
        case y25 => (intro w hSw; (try dsimp only at hSw); go_simp; try (with_reducible rfl))
        simp only [List.getElem_toArray, List.getElem_cons_succ, List.getElem_cons_zero, Act.put, List.setIfInBounds_toArray, List.set_cons_zero, List.set_cons_succ]
        refine wpAnyH_take (i := 5) (v := ?v26) rfl (by kernel_rfl) (by kernel_rfl) (by kernel_rfl) (fun _ _ _ h => h) (Or.inl ⟨by rfl, ?y26⟩) (by assumption) ?r26
        case y26 => (intro w hSw; (try dsimp only at hSw); go_simp; try (with_reducible rfl))
        simp only [List.getElem_toArray, List.getElem_cons_succ, List.getElem_cons_zero, Act.put, List.setIfInBounds_toArray, List.set_cons_zero, List.set_cons_succ]
        refine wpAnyH_take (i := 6) (v := ?v27) rfl (by kernel_rfl) (by kernel_rfl) (by kernel_rfl) (fun _ _ _ h => h) (Or.inl ⟨by rfl, ?y27⟩) (by assumption) ?r27
        case y27 => (intro w hSw; (try dsimp only at hSw); go_simp; try (with_reducible rfl))
        simp only [List.getElem_toArray, List.getElem_cons_succ, List.getElem_cons_zero, Act.put, List.setIfInBounds_toArray, List.set_cons_zero, List.set_cons_succ]
        refine wpAnyH_ready (rs := [7]) (by kernel_rfl) (by simp) ?_
        refine AllReadyH.cons rfl (fun K hK => ?_) AllReadyH.nil
        simp only [List.getElem_toArray, List.getElem_cons_succ, List.getElem_cons_zero]
        go_simp
        go_at_call 23
        refine (CG'.out _).mono ?_
        rintro e w6 ⟨rfl, hb⟩
        have A6 := hide ((hb.block w.heap.size (Array.getElem?_eq_some_iff.1 A5.out).1).trans A5.out)
        have C6 := hide ((hb.block w3.heap.size (Array.getElem?_eq_some_iff.1 C5.out).1).trans C5.out)
        have B6 := hide (B5.out.drew.trans (hb.mono B5.out.size))
        have c6 := blk3f C6.out
        dsimp only
        refine hK.out _ _ ?_ (fun hHeld => ?_)
        · exact ⟨⟨c6.1, c6.2.1, c6.2.2.1⟩, B6.out⟩
        clear hK K
        try simp only [Act.put, List.setIfInBounds_toArray, List.set_cons_zero, List.set_cons_succ]
        refine wpAnyH_take (i := 8) (v := ?v28) rfl (by kernel_rfl) (by kernel_rfl) (by kernel_rfl) (fun _ _ _ h => h) (Or.inl ⟨by rfl, ?y28⟩) (by assumption) ?r28
        case y28 => (intro w hSw; (try dsimp only at hSw); go_simp; try (with_reducible rfl))
        simp only [List.getElem_toArray, List.getElem_cons_succ, List.getElem_cons_zero, Act.put, List.setIfInBounds_toArray, List.set_cons_zero, List.set_cons_succ]
        clear c6 hb A5 B5 C5
        obtain ⟨k0, k1, k2, q0, q1, q2⟩ := blk3f A6.out
        refine wpAnyH_ready (rs := [9]) (by kernel_rfl) (by simp) ?_
        refine AllReadyH.cons rfl (fun K hK => ?_) AllReadyH.nil
        simp only [List.getElem_toArray, List.getElem_cons_succ, List.getElem_cons_zero]
        go_simp
        have c9 := blk3f (set3_other (a' := .string a) (b' := .int .i64 x) (c' := .int .i64 y) HNE.out C6.out)
        have b9 := set3_below (a' := .string a) (b' := .int .i64 x) (c' := .int .i64 y) B6.out (Nat.le_refl _)
        refine hK.out _ _ ⟨⟨c9.1, c9.2.1, c9.2.2.1⟩, b9⟩ (fun hHeld => ?_)
        clear c9 b9
        clear hK K
        try simp only [Act.put, List.setIfInBounds_toArray, List.set_cons_zero, List.set_cons_succ]
        obtain ⟨W9, hW9⟩ : ∃ W9, (((w6.setCell ⟨w.heap.size, 0, none⟩ (.string a)).setCell ⟨w.heap.size, 1, none⟩ (.int .i64 x)).setCell ⟨w.heap.size, 2, none⟩ (.int .i64 y)) = W9 := ⟨_, rfl⟩
        have A9 := hide (show W9.heap[w.heap.size]? = some (syO 27 a x y) by rw [← hW9]; exact set3 A6.out)
        have B9 := hide (show Below w.heap.size w W9 by rw [← hW9]; exact set3_below B6.out (Nat.le_refl _))
        rw [hW9] at hHeld ⊢
        clear hW9 k0 k1 k2 q0 q1 q2 A6 B6 C6
        refine wpAnyH_take (i := 10) (v := ?v29) rfl (by kernel_rfl) (by kernel_rfl) (by kernel_rfl) (fun _ _ _ h => h) (Or.inl ⟨by rfl, ?y29⟩) (by assumption) ?r29
        case y29 => (intro w hSw; (try dsimp only at hSw); go_simp; try (with_reducible rfl))
        simp only [List.getElem_toArray, List.getElem_cons_succ, List.getElem_cons_zero, Act.put, List.setIfInBounds_toArray, List.set_cons_zero, List.set_cons_succ]
        refine wpAnyH_done (by kernel_rfl) ?_ _
        clear hHeld
        go_wp2
        obtain ⟨d0, d1, d2, _, _, _⟩ := blk3f A9.out
        refine bodyPost_ret (v := .tuple #[.agg #[.string a, .int .i64 x, .int .i64 y], .bool ok]) (by simp [results, Tryd.f27, go_sem, d0, d1, d2]) rfl ?_
        exact ⟨_, _, _, _, rfl, E.out, B9.out⟩
  · have E := hide (isSay_len h3)
    have hp : ∃ n : Nat, n = (L3.parts 32 s).length ∧ n ≠ 3 ∧ n ≤ 1048577 := ⟨_, rfl, h3, HL.out⟩
    obtain ⟨n, hn, hn3, hnle⟩ := hp
    have HN := hide hn
    clear h3 hs HL hn
    go_enter Tryd.func27, Tryd.ntmps27
    go_wp2_with fail
    refine (CS.out _).mono ?_
    rintro e w1 ⟨v, rfl, hown, hb⟩
    obtain ⟨ga, cap, rfl⟩ := L3.own_shapeX hown
    rw [← HN.out]
    have A1 := hide ((hb.block w.heap.size (by simp)).trans A0.out)
    have B1 := hide (B0.out.trans (hb.mono B0.out.size))
    have hn3' : ((n : Int) == 3) = false := by rw [beq_eq_false_iff_ne]; omega
    clear hb A0 B0 hown CS
    obtain ⟨k0, k1, k2, q0, q1, q2⟩ := blk3f A1.out
    go_wp2
    obtain ⟨W9, hW9⟩ : ∃ W9, (((w1.setCell ⟨w.heap.size, 0, none⟩ (.string ByteArray.empty)).setCell ⟨w.heap.size, 1, none⟩ (.int .i64 0)).setCell ⟨w.heap.size, 2, none⟩ (.int .i64 0)) = W9 := ⟨_, rfl⟩
    have A9 : W9.heap[w.heap.size]? = some (syO 27 ByteArray.empty 0 0) := by rw [← hW9]; exact set3 A1.out
    have B9 : Below w.heap.size w W9 := by rw [← hW9]; exact set3_below B1.out (Nat.le_refl _)
    have hW9' : ((((w1.setCell ⟨w.heap.size, 0, none⟩ (.string ByteArray.empty)).setCell ⟨w.heap.size, 1, none⟩ (.int .i64 0)).setCell ⟨w.heap.size, 2, none⟩ (.int .i64 0))) = W9 := hW9
    first | rw [hW9'] | (erw [hW9'])
    clear hW9 hW9'
    obtain ⟨d0, d1, d2, _, _, _⟩ := blk3f A9
    refine bodyPost_ret (v := .tuple #[.agg #[.string ByteArray.empty, .int .i64 0, .int .i64 0], .bool false]) (by simp [results, Tryd.f27, go_sem, d0, d1, d2]) rfl ?_
    exact ⟨_, _, _, _, rfl, E.out, B9⟩
set_option maxRecDepth 100000 in
set_option maxHeartbeats 1000000 in
theorem specReadSay_any (s : ByteArray) (w : World) (hs : s.size ≤ 1048576) :
    Calls Tryd.prog 11 #[.string s] w (SayEnd s w) := by
  have CR := hide (fun w => l13Read_any s w hs)
  have A0 := hide (L8.blk_new w (syO 27 ByteArray.empty 0 0))
  have B0 := hide ((Below.refl w.heap.size w).alloc (Nat.le_refl _) (syO 27 ByteArray.empty 0 0))
  clear hs
  go_enter Tryd.func11, Tryd.ntmps11
  go_wp2_with fail
  refine (CR.out _).mono ?_
  rintro e w1 ⟨nm, x, y, ok, rfl, hr, hb⟩
  have A1 := hide ((hb.block w.heap.size (by simp)).trans A0.out)
  have B1 := hide (B0.out.trans (hb.mono B0.out.size))
  have E := hide hr
  clear hb A0 B0 CR hr
  cases ok with
  | false =>
    go_upto_region 3 with fail
    obtain ⟨W5, hW5⟩ : ∃ W5, w1.alloc (syO 27 nm x y) = W5 := ⟨_, rfl⟩
    have A5 := hide (show W5.heap[w.heap.size]? = some (syO 27 ByteArray.empty 0 0) by rw [← hW5]; exact blk_old A1.out)
    have B5 := hide (show Below w.heap.size w W5 by rw [← hW5]; exact B1.out.alloc B1.out.size _)
    rw [hW5]
    clear hW5 A1 B1
    obtain ⟨k0, k1, k2, q0, q1, q2⟩ := blk3f A5.out
    go_wp2
    obtain ⟨W9, hW9⟩ : ∃ W9, (((W5.setCell ⟨w.heap.size, 0, none⟩ (.string ByteArray.empty)).setCell ⟨w.heap.size, 1, none⟩ (.int .i64 0)).setCell ⟨w.heap.size, 2, none⟩ (.int .i64 0)) = W9 := ⟨_, rfl⟩
    have A9 : W9.heap[w.heap.size]? = some (syO 27 ByteArray.empty 0 0) := by rw [← hW9]; exact set3 A5.out
    have B9 : Below w.heap.size w W9 := by rw [← hW9]; exact set3_below B5.out (Nat.le_refl _)
    have hW9' : ((((W5.setCell ⟨w.heap.size, 0, none⟩ (.string ByteArray.empty)).setCell ⟨w.heap.size, 1, none⟩ (.int .i64 0)).setCell ⟨w.heap.size, 2, none⟩ (.int .i64 0))) = W9 := hW9
    first | rw [hW9'] | (erw [hW9'])
    clear hW9 hW9'
    obtain ⟨d0, d1, d2, _, _, _⟩ := blk3f A9
    refine bodyPost_ret (v := .tuple #[.agg #[.string ByteArray.empty, .int .i64 0, .int .i64 0], .bool false]) (by simp [results, Tryd.f11, go_sem, d0, d1, d2]) rfl ?_
    exact ⟨_, _, _, _, rfl, E.out.none, fun _ => ⟨rfl, rfl, rfl⟩, B9⟩
  | true =>
    go_upto_region 4 with fail
    obtain ⟨W5, hW5⟩ : ∃ W5, w1.alloc (syO 27 nm x y) = W5 := ⟨_, rfl⟩
    have A5 := hide (show W5.heap[w.heap.size]? = some (syO 27 ByteArray.empty 0 0) by rw [← hW5]; exact blk_old A1.out)
    have C5 := hide (show W5.heap[w1.heap.size]? = some (syO 27 nm x y) by rw [← hW5]; exact L8.blk_new _ _)
    have B5 := hide (show Below w.heap.size w W5 by rw [← hW5]; exact B1.out.alloc B1.out.size _)
    rw [hW5]
    clear hW5 A1 B1
    obtain ⟨k0, k1, k2, q0, q1, q2⟩ := blk3f A5.out
    obtain ⟨j0, j1, j2, _, _, _⟩ := blk3f C5.out
    go_wp2
    obtain ⟨W9, hW9⟩ : ∃ W9, (((W5.setCell ⟨w.heap.size, 0, none⟩ (.string nm)).setCell ⟨w.heap.size, 1, none⟩ (.int .i64 x)).setCell ⟨w.heap.size, 2, none⟩ (.int .i64 y)) = W9 := ⟨_, rfl⟩
    have A9 : W9.heap[w.heap.size]? = some (syO 27 nm x y) := by rw [← hW9]; exact set3 A5.out
    have B9 : Below w.heap.size w W9 := by rw [← hW9]; exact set3_below B5.out (Nat.le_refl _)
    have hW9' : ((((W5.setCell ⟨w.heap.size, 0, none⟩ (.string nm)).setCell ⟨w.heap.size, 1, none⟩ (.int .i64 x)).setCell ⟨w.heap.size, 2, none⟩ (.int .i64 y))) = W9 := hW9
    first | rw [hW9'] | (erw [hW9'])
    clear hW9 hW9'
    obtain ⟨d0, d1, d2, _, _, _⟩ := blk3f A9
    refine bodyPost_ret (v := .tuple #[.agg #[.string nm, .int .i64 x, .int .i64 y], .bool true]) (by simp [results, Tryd.f11, go_sem, d0, d1, d2]) rfl ?_
    exact ⟨_, _, _, _, rfl, E.out, fun h => absurd h (by simp), B9⟩
end Go.Proofs.YtbcnkglcfjineakDoor.L13
