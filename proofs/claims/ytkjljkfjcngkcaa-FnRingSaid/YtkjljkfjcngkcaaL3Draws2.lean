/-
  Contracts: the draws for OwnerOf and DropOwner: some tokens and an int, whatever the bytes.
-/
import Derived.Test.YtkjljkfjcngkcaaL3Draws
namespace Go.Proofs.Ytkjljkfjcngkcaa.L3
open Go.RowKit L1
set_option linter.unusedVariables false

theorem cur_drew {w : World} {b N : Nat} (h : Cur w b N) : Cur w.drew b N := h
theorem undrew {a w' : World} {r : Option Nat} (h : a.drew.grownBy w' r) : a.grownBy w' r := ⟨h.os, h.tape, h.output, h.size, h.block⟩

set_option maxRecDepth 100000 in
set_option maxHeartbeats 4000000 in
theorem drawOwnerOf_any (a : Option Addr) (n cap : Nat) (w : World) (h : Slb w w.heap.size a n) (hn : n ≤ 1048576) :
    Calls Try.prog 13 #[.slice a n cap] w fun e w' => ∃ v x, e = .returned (.tuple #[v, .int .i64 x]) ∧ OwnToks w' w.heap.size v ∧ Below w.heap.size w w' := by
  have HC := hide (cur_new (cap := cap) h hn)
  clear h
  have hsz0 : (w.alloc (Obj.cells #[.slice a n cap, .int .i64 0, .int .u64 0] 47)).heap.size = w.heap.size + 1 := by simp
  go_enter Try.func13, Try.ntmps13
  go_wp2_with fail
  refine (ring_any _ 0 _ HC.out (by omega)).mono ?_
  rintro e w1 ⟨v, rfl, hT1, hc1, hg1⟩
  rw [hsz0] at hT1
  have T1 := hide hT1
  have C1 := hide hc1
  have G1 := hide hg1
  obtain ⟨l, hl, ho⟩ := hT1
  have HO := hide ho
  clear hc1 hg1
  rcases ho.2 with ⟨hv, h0⟩ | ⟨g, rcap, cur, hv, hgb, _, hrc, _⟩
  · subst hv
    clear ho h0 HO hl
    go_wp2_with fail
    refine (pick_any _ _ 256 _ C1.out (by omega) (by omega) (by omega)).mono ?_
    rintro e w5 ⟨x5, rfl, hx5, hx5', _, hc5, hg5⟩
    have T5 := hide (T1.out.grown hg5 (by omega))
    have C5 := hide hc5
    have G5 := hide (grown_trans G1.out hg5)
    clear hc5 hg5
    go_wp2_with fail
    refine (pick_any _ _ 3 _ C5.out (by omega) (by omega) (by omega)).mono ?_
    rintro e w6 ⟨x6, rfl, hx6, hx6', _, hc6, hg6⟩
    have T6 := hide (T5.out.grown hg6 (by omega))
    have C6 := hide hc6
    have G6 := hide (grown_trans G5.out hg6)
    clear hc6 hg6
    go_wp2
    go_ret2
    exact ⟨_, _, rfl, T6.out.base (Nat.le_succ _), grown_to_below G6.out⟩
  · subst hv
    clear ho
    by_cases hl0 : 0 < (l.length : Int)
    · go_wp2_with fail
      refine (one_any _ _ 3 _ C1.out (by omega) (by omega) (by omega)).mono ?_
      rintro e w2 ⟨t, rfl, hc2, hg2⟩
      have T2 := hide (T1.out.grown hg2 (by omega))
      have O2 := hide (own_grownG HO.out hg2 (by omega))
      have C2 := hide hc2
      have G2 := hide (grown_trans G1.out hg2)
      clear hc2 hg2 T1 HO C1 G1
      cases t with
      | true =>
        obtain ⟨f, hf⟩ : ∃ f : Nat → Int, f = fun i => (l.getD i (0, 0)).1 := ⟨_, rfl⟩
        have hss : ∀ i, i < l.length → w2.cell? ⟨g, i * 2, none⟩ = some (.int .i64 (f i)) := fun i hi => by
          obtain ⟨b', o', ha', h1, h2⟩ := own_sl2 O2.out i hi
          cases ha'
          rw [hf]
          simpa using h1
        have hgne : g ≠ w.heap.size := by omega
        have HSS := hide hss
        clear hss hf
        go_wp2
        refine wp_region_held_drew (S := (fun wx => ∀ i, i < l.length → wx.cell? ⟨g, i * 2, none⟩ = some (.int .i64 (f i)))) (by kernel_rfl) HSS.out (fun hHeld => ?_)
        refine wpAnyH_take (i := 0) (v := ?v1) rfl (by kernel_rfl) (by kernel_rfl) (by kernel_rfl) (fun _ _ _ h => h) (Or.inl ⟨by rfl, ?y1⟩) (by assumption) ?r1
        case y1 => (intro w hSw; (try dsimp only at hSw); go_simp; try (with_reducible rfl))
        simp only [List.getElem_toArray, List.getElem_cons_zero, Act.put, List.setIfInBounds_toArray, List.set_cons_zero, List.set_cons_succ]
        refine wpAnyH_take (i := 1) (v := ?v2) rfl (by kernel_rfl) (by kernel_rfl) (by kernel_rfl) (fun _ _ _ h => h) (Or.inl ⟨by rfl, ?y2⟩) (by assumption) ?r2
        case y2 => (intro w hSw; (try dsimp only at hSw); go_simp; try (with_reducible rfl))
        simp only [List.getElem_toArray, List.getElem_cons_succ, List.getElem_cons_zero, Act.put, List.setIfInBounds_toArray, List.set_cons_zero, List.set_cons_succ]
        refine wpAnyH_take (i := 2) (v := ?v3) rfl (by kernel_rfl) (by kernel_rfl) (by kernel_rfl) (fun _ _ _ h => h) (Or.inl ⟨by rfl, ?y3⟩) (by assumption) ?r3
        case y3 => (intro w hSw; (try dsimp only at hSw); go_simp; try (with_reducible rfl))
        simp only [List.getElem_toArray, List.getElem_cons_succ, List.getElem_cons_zero, Act.put, List.setIfInBounds_toArray, List.set_cons_zero, List.set_cons_succ]
        refine wpAnyH_take (i := 3) (v := ?v4) rfl (by kernel_rfl) (by kernel_rfl) (by kernel_rfl) (fun _ _ _ h => h) (Or.inl ⟨by rfl, ?y4⟩) (by assumption) ?r4
        case y4 => (intro w hSw; (try dsimp only at hSw); go_simp; try (with_reducible rfl))
        simp only [List.getElem_toArray, List.getElem_cons_succ, List.getElem_cons_zero, Act.put, List.setIfInBounds_toArray, List.set_cons_zero, List.set_cons_succ]
        refine wpAnyH_take (i := 4) (v := ?v5) rfl (by kernel_rfl) (by kernel_rfl) (by kernel_rfl) (fun _ _ _ h => h) (Or.inl ⟨by rfl, ?y5⟩) (by assumption) ?r5
        case y5 => (intro w hSw; (try dsimp only at hSw); go_simp; try (with_reducible rfl))
        simp only [List.getElem_toArray, List.getElem_cons_succ, List.getElem_cons_zero, Act.put, List.setIfInBounds_toArray, List.set_cons_zero, List.set_cons_succ]
        refine wpAnyH_take (i := 9) (v := ?v6) rfl (by kernel_rfl) (by kernel_rfl) (by kernel_rfl) (fun _ _ _ h => h) (Or.inl ⟨by rfl, ?y6⟩) (by assumption) ?r6
        case y6 => (intro w hSw; (try dsimp only at hSw); go_simp; try (with_reducible rfl))
        simp only [List.getElem_toArray, List.getElem_cons_succ, List.getElem_cons_zero, Act.put, List.setIfInBounds_toArray, List.set_cons_zero, List.set_cons_succ]
        refine wpAnyH_ready (rs := [5]) (by kernel_rfl) (by simp) ?_
        refine AllReadyH.cons rfl (fun K hK => ?_) AllReadyH.nil
        simp only [List.getElem_toArray, List.getElem_cons_succ, List.getElem_cons_zero]
        go_simp
        go_at_call 23
        refine (pick_any _ _ (l.length : Int) _ (cur_drew C2.out) (by omega) (by omega) (by omega)).mono ?_
        rintro e w3 ⟨x3, rfl, hx3, hx3', hxm3, hc3, hg3⟩
        have hgd := hg3
        replace hg3 := undrew hg3
        have T3 := hide (T2.out.grown hg3 (by omega))
        have O3 := hide (own_grownG O2.out hg3 (by omega))
        have C3 := hide hc3
        have G3 := hide (grown_trans G2.out hg3)
        have hxm' := hxm3 (by omega)
        obtain ⟨j, rfl⟩ : ∃ j : Nat, x3 = (j : Int) := ⟨x3.toNat, by omega⟩
        have hj : j < l.length := by omega
        have hjI : (j : Int) < (l.length : Int) := by omega
        have hj0 : (0 : Int) ≤ (j : Int) := by omega
        dsimp only
        refine hK.out _ _ ?_ (fun hHeld => ?_)
        · intro i hi
          exact hgd.cell (hHeld i hi) (by simp; exact hgne)
        clear hK K
        try simp only [Act.put, List.setIfInBounds_toArray, List.set_cons_zero, List.set_cons_succ]
        refine wpAnyH_take (i := 6) (v := ?v7) rfl (by kernel_rfl) (by kernel_rfl) (by kernel_rfl) (fun _ _ _ h => h) (Or.inl ⟨by rfl, ?y7⟩) (by assumption) ?r7
        case y7 => (intro w hSw; (try dsimp only at hSw); go_simp; try (with_reducible rfl))
        simp only [List.getElem_toArray, List.getElem_cons_succ, List.getElem_cons_zero, Act.put, List.setIfInBounds_toArray, List.set_cons_zero, List.set_cons_succ]
        refine wpAnyH_take (i := 7) (v := ?v8) rfl (by kernel_rfl) (by kernel_rfl) (by kernel_rfl) (fun _ _ _ h => h) (Or.inl ⟨by rfl, ?y8⟩) (by assumption) ?r8
        case y8 => (intro w hSw; (try dsimp only at hSw); go_simp; try (with_reducible rfl))
        simp only [List.getElem_toArray, List.getElem_cons_succ, List.getElem_cons_zero, Act.put, List.setIfInBounds_toArray, List.set_cons_zero, List.set_cons_succ]
        refine wpAnyH_take (i := 8) (v := .int .i64 (f j)) rfl (by kernel_rfl) (by kernel_rfl) (by kernel_rfl) (fun _ _ _ h => h) (Or.inl ⟨by rfl, ?y9⟩) (by assumption) ?r9
        case y9 => (intro w hSw; have hq := hSw j hj; go_simp; try (with_reducible rfl))
        simp only [List.getElem_toArray, List.getElem_cons_succ, List.getElem_cons_zero, Act.put, List.setIfInBounds_toArray, List.set_cons_zero, List.set_cons_succ]
        refine wpAnyH_ready (rs := [10]) (by kernel_rfl) (by simp) ?_
        refine AllReadyH.cons rfl (fun K hK => ?_) AllReadyH.nil
        simp only [List.getElem_toArray, List.getElem_cons_succ, List.getElem_cons_zero]
        go_simp
        go_at_call 23
        refine (pick_any _ _ 2 _ C3.out (by omega) (by omega) (by omega)).mono ?_
        rintro e w4 ⟨x4, rfl, hx4, hx4', hxm4, hc4, hg4⟩
        have T4 := hide (T3.out.grown hg4 (by omega))
        have O4 := hide (own_grownG O3.out hg4 (by omega))
        have C4 := hide hc4
        have G4 := hide (grown_trans G3.out hg4)
        obtain ⟨zz, hzz⟩ : ∃ zz, IntKind.i64.wrap (f j + x4) = zz := ⟨_, rfl⟩
        dsimp only
        refine hK.out _ _ ?_ (fun hHeld => ?_)
        · intro i hi
          exact hg4.cell (hHeld i hi) (by simp; exact hgne)
        clear hK K
        try simp only [Act.put, List.setIfInBounds_toArray, List.set_cons_zero, List.set_cons_succ]
        refine wpAnyH_take (i := 11) (v := ?v10) rfl (by kernel_rfl) (by kernel_rfl) (by kernel_rfl) (fun _ _ _ h => h) (Or.inl ⟨by rfl, ?y10⟩) (by assumption) ?r10
        case y10 => (intro w hSw; (try dsimp only at hSw); go_simp; try (with_reducible rfl))
        simp only [List.getElem_toArray, List.getElem_cons_succ, List.getElem_cons_zero, Act.put, List.setIfInBounds_toArray, List.set_cons_zero, List.set_cons_succ]
        refine wpAnyH_take (i := 12) (v := ?v11) rfl (by kernel_rfl) (by kernel_rfl) (by kernel_rfl) (fun _ _ _ h => h) (Or.inl ⟨by rfl, ?y11⟩) (by assumption) ?r11
        case y11 => (intro w hSw; (try dsimp only at hSw); go_simp; try (with_reducible rfl))
        simp only [List.getElem_toArray, List.getElem_cons_succ, List.getElem_cons_zero, Act.put, List.setIfInBounds_toArray, List.set_cons_zero, List.set_cons_succ]
        refine wpAnyH_take (i := 13) (v := ?v12) rfl (by kernel_rfl) (by kernel_rfl) (by kernel_rfl) (fun _ _ _ h => h) (Or.inl ⟨by rfl, ?y12⟩) (by assumption) ?r12
        case y12 => (intro w hSw; (try dsimp only at hSw); go_simp; try (with_reducible rfl))
        simp only [List.getElem_toArray, List.getElem_cons_succ, List.getElem_cons_zero, Act.put, List.setIfInBounds_toArray, List.set_cons_zero, List.set_cons_succ]
        refine wpAnyH_done (by kernel_rfl) ?_ _
        go_wp2
        go_ret2
        exact ⟨_, _, rfl, T4.out.base (Nat.le_succ _), grown_to_below G4.out⟩
      | false =>
        go_wp2_with fail
        refine (pick_any _ _ 256 _ C2.out (by omega) (by omega) (by omega)).mono ?_
        rintro e w5 ⟨x5, rfl, hx5, hx5', _, hc5, hg5⟩
        have T5 := hide (T2.out.grown hg5 (by omega))
        have C5 := hide hc5
        have G5 := hide (grown_trans G2.out hg5)
        clear hc5 hg5
        go_wp2_with fail
        refine (pick_any _ _ 3 _ C5.out (by omega) (by omega) (by omega)).mono ?_
        rintro e w6 ⟨x6, rfl, hx6, hx6', _, hc6, hg6⟩
        have T6 := hide (T5.out.grown hg6 (by omega))
        have C6 := hide hc6
        have G6 := hide (grown_trans G5.out hg6)
        clear hc6 hg6
        go_wp2
        go_ret2
        exact ⟨_, _, rfl, T6.out.base (Nat.le_succ _), grown_to_below G6.out⟩
    · go_wp2_with fail
      refine (pick_any _ _ 256 _ C1.out (by omega) (by omega) (by omega)).mono ?_
      rintro e w5 ⟨x5, rfl, hx5, hx5', _, hc5, hg5⟩
      have T5 := hide (T1.out.grown hg5 (by omega))
      have C5 := hide hc5
      have G5 := hide (grown_trans G1.out hg5)
      clear hc5 hg5
      go_wp2_with fail
      refine (pick_any _ _ 3 _ C5.out (by omega) (by omega) (by omega)).mono ?_
      rintro e w6 ⟨x6, rfl, hx6, hx6', _, hc6, hg6⟩
      have T6 := hide (T5.out.grown hg6 (by omega))
      have C6 := hide hc6
      have G6 := hide (grown_trans G5.out hg6)
      clear hc6 hg6
      go_wp2
      go_ret2
      exact ⟨_, _, rfl, T6.out.base (Nat.le_succ _), grown_to_below G6.out⟩

set_option maxRecDepth 100000 in
set_option maxHeartbeats 4000000 in
theorem drawDropOwner_any (a : Option Addr) (n cap : Nat) (w : World) (h : Slb w w.heap.size a n) (hn : n ≤ 1048576) :
    Calls Try.prog 18 #[.slice a n cap] w fun e w' => ∃ v x, e = .returned (.tuple #[v, .int .i64 x]) ∧ OwnToks w' w.heap.size v ∧ Below w.heap.size w w' := by
  have HC := hide (cur_new (cap := cap) h hn)
  clear h
  have hsz0 : (w.alloc (Obj.cells #[.slice a n cap, .int .i64 0, .int .u64 0] 47)).heap.size = w.heap.size + 1 := by simp
  go_enter Try.func18, Try.ntmps18
  go_wp2_with fail
  refine (ring_any _ 0 _ HC.out (by omega)).mono ?_
  rintro e w1 ⟨v, rfl, hT1, hc1, hg1⟩
  rw [hsz0] at hT1
  have T1 := hide hT1
  have C1 := hide hc1
  have G1 := hide hg1
  obtain ⟨l, hl, ho⟩ := hT1
  have HO := hide ho
  clear hc1 hg1
  rcases ho.2 with ⟨hv, h0⟩ | ⟨g, rcap, cur, hv, hgb, _, hrc, _⟩
  · subst hv
    clear ho h0 HO hl
    go_wp2_with fail
    refine (pick_any _ _ 9 _ C1.out (by omega) (by omega) (by omega)).mono ?_
    rintro e w5 ⟨x5, rfl, hx5, hx5', _, hc5, hg5⟩
    have T5 := hide (T1.out.grown hg5 (by omega))
    have C5 := hide hc5
    have G5 := hide (grown_trans G1.out hg5)
    clear hc5 hg5
    go_wp2
    go_ret2
    exact ⟨_, _, rfl, T5.out.base (Nat.le_succ _), grown_to_below G5.out⟩
  · subst hv
    clear ho
    by_cases hl0 : 0 < (l.length : Int)
    · go_wp2_with fail
      refine (one_any _ _ 4 _ C1.out (by omega) (by omega) (by omega)).mono ?_
      rintro e w2 ⟨t, rfl, hc2, hg2⟩
      have T2 := hide (T1.out.grown hg2 (by omega))
      have O2 := hide (own_grownG HO.out hg2 (by omega))
      have C2 := hide hc2
      have G2 := hide (grown_trans G1.out hg2)
      clear hc2 hg2 T1 HO C1 G1
      cases t with
      | false =>
        obtain ⟨f, hf⟩ : ∃ f : Nat → Int, f = fun i => (l.getD i (0, 0)).2 := ⟨_, rfl⟩
        have hss : ∀ i, i < l.length → w2.cell? ⟨g, i * 2 + 1, none⟩ = some (.int .i64 (f i)) := fun i hi => by
          obtain ⟨b', o', ha', h1, h2⟩ := own_sl2 O2.out i hi
          cases ha'
          rw [hf]
          simpa using h2
        have hgne : g ≠ w.heap.size := by omega
        have HSS := hide hss
        clear hss hf
        go_wp2
        refine wp_region_held_drew (S := (fun wx => ∀ i, i < l.length → wx.cell? ⟨g, i * 2 + 1, none⟩ = some (.int .i64 (f i)))) (by kernel_rfl) HSS.out (fun hHeld => ?_)
        refine wpAnyH_take (i := 0) (v := ?v13) rfl (by kernel_rfl) (by kernel_rfl) (by kernel_rfl) (fun _ _ _ h => h) (Or.inl ⟨by rfl, ?y13⟩) (by assumption) ?r13
        case y13 => (intro w hSw; (try dsimp only at hSw); go_simp; try (with_reducible rfl))
        simp only [List.getElem_toArray, List.getElem_cons_zero, Act.put, List.setIfInBounds_toArray, List.set_cons_zero, List.set_cons_succ]
        refine wpAnyH_take (i := 1) (v := ?v14) rfl (by kernel_rfl) (by kernel_rfl) (by kernel_rfl) (fun _ _ _ h => h) (Or.inl ⟨by rfl, ?y14⟩) (by assumption) ?r14
        case y14 => (intro w hSw; (try dsimp only at hSw); go_simp; try (with_reducible rfl))
        simp only [List.getElem_toArray, List.getElem_cons_succ, List.getElem_cons_zero, Act.put, List.setIfInBounds_toArray, List.set_cons_zero, List.set_cons_succ]
        refine wpAnyH_take (i := 2) (v := ?v15) rfl (by kernel_rfl) (by kernel_rfl) (by kernel_rfl) (fun _ _ _ h => h) (Or.inl ⟨by rfl, ?y15⟩) (by assumption) ?r15
        case y15 => (intro w hSw; (try dsimp only at hSw); go_simp; try (with_reducible rfl))
        simp only [List.getElem_toArray, List.getElem_cons_succ, List.getElem_cons_zero, Act.put, List.setIfInBounds_toArray, List.set_cons_zero, List.set_cons_succ]
        refine wpAnyH_take (i := 3) (v := ?v16) rfl (by kernel_rfl) (by kernel_rfl) (by kernel_rfl) (fun _ _ _ h => h) (Or.inl ⟨by rfl, ?y16⟩) (by assumption) ?r16
        case y16 => (intro w hSw; (try dsimp only at hSw); go_simp; try (with_reducible rfl))
        simp only [List.getElem_toArray, List.getElem_cons_succ, List.getElem_cons_zero, Act.put, List.setIfInBounds_toArray, List.set_cons_zero, List.set_cons_succ]
        refine wpAnyH_take (i := 4) (v := ?v17) rfl (by kernel_rfl) (by kernel_rfl) (by kernel_rfl) (fun _ _ _ h => h) (Or.inl ⟨by rfl, ?y17⟩) (by assumption) ?r17
        case y17 => (intro w hSw; (try dsimp only at hSw); go_simp; try (with_reducible rfl))
        simp only [List.getElem_toArray, List.getElem_cons_succ, List.getElem_cons_zero, Act.put, List.setIfInBounds_toArray, List.set_cons_zero, List.set_cons_succ]
        refine wpAnyH_ready (rs := [5]) (by kernel_rfl) (by simp) ?_
        refine AllReadyH.cons rfl (fun K hK => ?_) AllReadyH.nil
        simp only [List.getElem_toArray, List.getElem_cons_succ, List.getElem_cons_zero]
        go_simp
        go_at_call 23
        refine (pick_any _ _ (l.length : Int) _ (cur_drew C2.out) (by omega) (by omega) (by omega)).mono ?_
        rintro e w3 ⟨x3, rfl, hx3, hx3', hxm3, hc3, hg3⟩
        have hgd := hg3
        replace hg3 := undrew hg3
        have T3 := hide (T2.out.grown hg3 (by omega))
        have O3 := hide (own_grownG O2.out hg3 (by omega))
        have C3 := hide hc3
        have G3 := hide (grown_trans G2.out hg3)
        have hxm' := hxm3 (by omega)
        obtain ⟨j, rfl⟩ : ∃ j : Nat, x3 = (j : Int) := ⟨x3.toNat, by omega⟩
        have hj : j < l.length := by omega
        have hjI : (j : Int) < (l.length : Int) := by omega
        have hj0 : (0 : Int) ≤ (j : Int) := by omega
        dsimp only
        refine hK.out _ _ ?_ (fun hHeld => ?_)
        · intro i hi
          exact hgd.cell (hHeld i hi) (by simp; exact hgne)
        clear hK K
        try simp only [Act.put, List.setIfInBounds_toArray, List.set_cons_zero, List.set_cons_succ]
        refine wpAnyH_take (i := 6) (v := ?v18) rfl (by kernel_rfl) (by kernel_rfl) (by kernel_rfl) (fun _ _ _ h => h) (Or.inl ⟨by rfl, ?y18⟩) (by assumption) ?r18
        case y18 => (intro w hSw; (try dsimp only at hSw); go_simp; try (with_reducible rfl))
        simp only [List.getElem_toArray, List.getElem_cons_succ, List.getElem_cons_zero, Act.put, List.setIfInBounds_toArray, List.set_cons_zero, List.set_cons_succ]
        refine wpAnyH_take (i := 7) (v := ?v19) rfl (by kernel_rfl) (by kernel_rfl) (by kernel_rfl) (fun _ _ _ h => h) (Or.inl ⟨by rfl, ?y19⟩) (by assumption) ?r19
        case y19 => (intro w hSw; (try dsimp only at hSw); go_simp; try (with_reducible rfl))
        simp only [List.getElem_toArray, List.getElem_cons_succ, List.getElem_cons_zero, Act.put, List.setIfInBounds_toArray, List.set_cons_zero, List.set_cons_succ]
        refine wpAnyH_take (i := 8) (v := .int .i64 (f j)) rfl (by kernel_rfl) (by kernel_rfl) (by kernel_rfl) (fun _ _ _ h => h) (Or.inl ⟨by rfl, ?y20⟩) (by assumption) ?r20
        case y20 => (intro w hSw; have hq := hSw j hj; go_simp; try (with_reducible rfl))
        simp only [List.getElem_toArray, List.getElem_cons_succ, List.getElem_cons_zero, Act.put, List.setIfInBounds_toArray, List.set_cons_zero, List.set_cons_succ]
        refine wpAnyH_take (i := 9) (v := ?v21) rfl (by kernel_rfl) (by kernel_rfl) (by kernel_rfl) (fun _ _ _ h => h) (Or.inl ⟨by rfl, ?y21⟩) (by assumption) ?r21
        case y21 => (intro w hSw; (try dsimp only at hSw); go_simp; try (with_reducible rfl))
        simp only [List.getElem_toArray, List.getElem_cons_succ, List.getElem_cons_zero, Act.put, List.setIfInBounds_toArray, List.set_cons_zero, List.set_cons_succ]
        refine wpAnyH_take (i := 10) (v := ?v22) rfl (by kernel_rfl) (by kernel_rfl) (by kernel_rfl) (fun _ _ _ h => h) (Or.inl ⟨by rfl, ?y22⟩) (by assumption) ?r22
        case y22 => (intro w hSw; (try dsimp only at hSw); go_simp; try (with_reducible rfl))
        simp only [List.getElem_toArray, List.getElem_cons_succ, List.getElem_cons_zero, Act.put, List.setIfInBounds_toArray, List.set_cons_zero, List.set_cons_succ]
        refine wpAnyH_done (by kernel_rfl) ?_ _
        go_wp2
        go_ret2
        exact ⟨_, _, rfl, T3.out.base (Nat.le_succ _), grown_to_below G3.out⟩
      | true =>
        go_wp2_with fail
        refine (pick_any _ _ 9 _ C2.out (by omega) (by omega) (by omega)).mono ?_
        rintro e w5 ⟨x5, rfl, hx5, hx5', _, hc5, hg5⟩
        have T5 := hide (T2.out.grown hg5 (by omega))
        have C5 := hide hc5
        have G5 := hide (grown_trans G2.out hg5)
        clear hc5 hg5
        go_wp2
        go_ret2
        exact ⟨_, _, rfl, T5.out.base (Nat.le_succ _), grown_to_below G5.out⟩
    · go_wp2_with fail
      refine (pick_any _ _ 9 _ C1.out (by omega) (by omega) (by omega)).mono ?_
      rintro e w5 ⟨x5, rfl, hx5, hx5', _, hc5, hg5⟩
      have T5 := hide (T1.out.grown hg5 (by omega))
      have C5 := hide hc5
      have G5 := hide (grown_trans G1.out hg5)
      clear hc5 hg5
      go_wp2
      go_ret2
      exact ⟨_, _, rfl, T5.out.base (Nat.le_succ _), grown_to_below G5.out⟩
end Go.Proofs.Ytkjljkfjcngkcaa.L3
