/-
  Contract: spec.MergeLabels where the first list is nil.
-/
import Derived.Test.YthagpceagifjnaaDoorL3SpecMerge
namespace Go.Proofs.YthagpceagifjnaaDoor.L3
open Go.RowKit L1
set_option linter.unusedVariables false

open Classical in
set_option maxRecDepth 100000 in
set_option maxHeartbeats 4000000 in
theorem specMerge_nil (a2 : Option Addr) (b : List Lb) (n2 c2 : Nat) (w : World) (hn2 : b.length = n2) (hs2 : SlL w a2 b) (hm2 : n2 ≤ 1048576)
    (ht2 : ∀ j, j < b.length → (b.getD j eL).1.size ≤ 9223372036854775807 ∧ (b.getD j eL).2.size ≤ 9223372036854775807) (r : Option (List Lb)) (hr0 : r = mrgRes [] b) :
    Calls Tryd.prog 69 #[.slice none 0 0, .slice a2 n2 c2] w fun e w' => RetLb w r e w' := by
  obtain ⟨a, ha⟩ : ∃ a : List Lb, a = [] := ⟨_, rfl⟩
  have hn1 : a.length = 0 := by rw [ha]; rfl
  have hs1 : SlL w none a := fun i hi => by rw [ha] at hi; exact absurd hi (Nat.not_lt_zero _)
  have hm1 : 0 ≤ 1048576 := by omega
  have ht1 : ∀ j, j < a.length → (a.getD j eL).1.size ≤ 9223372036854775807 ∧ (a.getD j eL).2.size ≤ 9223372036854775807 := fun j hj => by rw [ha] at hj; exact absurd hj (Nat.not_lt_zero _)
  have hg1 : GoodL a := by rw [ha]; exact ⟨Nat.zero_le _, fun j h => absurd h (Nat.not_lt_zero _)⟩
  have hr : r = mrgRes a b := by rw [ha]; exact hr0
  clear hr0 ha
  have NO : ∀ e w', r = none → e = .returned (.tuple #[.slice none 0 0, .bool false]) → Below w.heap.size w w' → RetLb w r e w' := fun e w' h1 h2 h3 => ⟨.slice none 0 0, by rw [h2, h1]; rfl, by rw [h1]; exact World.ownsRow_nil _ _ _ _, h3⟩
  have HNO := hide NO
  clear NO
  · have C1 := hide (specGoodLabels_any none a 0 0 w hn1 hs1 hm1 ht1 true (by simp [hg1]))
    by_cases hg2 : GoodL b
    · have C2 := hide (fun w hs => specGoodLabels_any a2 b n2 c2 w hn2 hs hm2 ht2 true (by simp [hg2]))
      have h61 : 0 ≤ 6 := by have := hg1.1; omega
      have h62 : n2 ≤ 6 := by have := hg2.1; omega
      have hMl := mg_len _ a b (Nat.le_refl _)
      have hrr : r = if (mg a b).length ≤ 6 then some (mg a b) else none := by
        rw [hr]; unfold mrgRes
        by_cases h : (mg a b).length ≤ 6
        · rw [if_pos ⟨hg1, hg2, h⟩, if_pos h]
        · rw [if_neg (fun hh => h hh.2.2), if_neg h]
      obtain ⟨M, hM⟩ : ∃ M, M = mg a b := ⟨_, rfl⟩
      rw [← hM] at hMl hrr
      have HRR := hide hrr
      have HM := hide hM
      have hM12 : M.length ≤ 12 := by omega
      have HS1 := hide hs1
      have HS2 := hide hs2
      have HN1 := hide hn1
      have HN2 := hide hn2
      obtain ⟨i1, hi1, hy0, hy1, hy2⟩ := info_parts info_lab
      clear hr hrr hg1 hg2 hs1 hs2 hn1 hn2 ht1 ht2 hM hMl
      go_enter Tryd.func69, Tryd.ntmps69
      go_wp2_with fail
      refine C1.out.mono ?_
      rintro e w1 ⟨rfl, hb1⟩
      have B1 := hide hb1
      clear hb1
      go_wp2_with fail
      refine (C2.out _ (HS2.out.below B1.out)).mono ?_
      rintro e w2 ⟨rfl, hb2⟩
      have B2 := hide (B1.out.trans (hb2.mono B1.out.size))
      clear hb2
      go_wp2
      go_loopw [6, 7, 20] (fun ot iv jv wr => ∃ (k j : Nat) (ys : List Lb), k ≤ 0 ∧ j ≤ n2 ∧ iv = .int .i64 k ∧ jv = .int .i64 j ∧ wr.ownsRow w.heap.size 105 2 ot ys.length (flatL ys) ∧ Hid (ys ++ mg (a.drop k) (b.drop j) = M) ∧ Below w.heap.size w wr) (fun _ _ jv _ => n2 - (intOf jv).toNat)
      case atStart => exact ⟨0, 0, [], Nat.zero_le _, Nat.zero_le _, rfl, rfl, World.ownsRow_nil _ _ _ _, by show [] ++ mg (a.drop 0) (b.drop 0) = M; rw [HM.out]; simp, B2.out⟩
      case round =>
        obtain ⟨k, j, ys, hk, hj, rfl, rfl, hown, HMG, hbel⟩ := hrel
        obtain ⟨oa, ocap, rfl⟩ := own_shapeL hown
        by_cases hlt : j < n2
        · obtain ⟨b2, o2, rfl, hc0, hd0⟩ := HS2.out j (by rw [HN2.out]; exact hlt)
          have hc := (hbel.cell (p := ⟨b2, o2 + j * 2, none⟩) (blk_lt hc0)).trans hc0
          have hd := (hbel.cell (p := ⟨b2, o2 + j * 2 + 1, none⟩) (blk_lt hd0)).trans hd0
          have hltI : (j : Int) < (n2 : Int) := by omega
          have hbd := drop_cons b j (by rw [HN2.out]; exact hlt)
          obtain ⟨y, hy⟩ : ∃ y, y = (b.getD j eL).1 := ⟨_, rfl⟩
          obtain ⟨z, hz⟩ : ∃ z, z = (b.getD j eL).2 := ⟨_, rfl⟩
          have hyz : b.getD j eL = (y, z) := by rw [hy, hz]
          rw [hyz] at hbd
          rw [← hy] at hc
          rw [← hz] at hd
          have HBD := hide hbd
          have HOW := hide hown
          have B0 := hide hbel
          have hsz := hbel.size
          clear hc0 hd0 hy hz hyz hbd hown hbel
          go_wp2
          obtain ⟨X, hX⟩ : ∃ X, X = wr.heap.size := ⟨_, rfl⟩
          obtain ⟨W0, hW0⟩ : ∃ W0, wr.alloc (.cells #[.string y, .string z] 105) = W0 := ⟨_, rfl⟩
          have x0 : W0.cell? ⟨X, 0, none⟩ = some (.string y) := by rw [← hW0, hX]; simp
          have x1 : W0.cell? ⟨X, 1, none⟩ = some (.string z) := by rw [← hW0, hX]; simp
          have hXW : X < W0.heap.size := by rw [← hW0, hX]; simp
          have hwX : w.heap.size ≤ X := by rw [hX]; exact hsz
          have hb0 : Below w.heap.size w W0 := by rw [← hW0]; exact B0.out.alloc hsz _
          have ho0 : W0.ownsRow w.heap.size 105 2 (.slice oa ys.length ocap) ys.length (flatL ys) := by rw [← hW0]; exact HOW.out.alloc _
          have hne0 : (Value.slice oa ys.length ocap).ownBlock ≠ some X := fun e => by have := (HOW.out.lt X e).2; omega
          rw [hW0, ← hX]
          have X0 := hide (And.intro x0 x1)
          have HB0 := hide hb0
          have HO0 := hide ho0
          have HNE0 := hide hne0
          clear hW0 hX x0 x1 hb0 ho0 hne0 HOW B0 hc hd
          go_loopw [6, 7] (fun ot iv wq => ∃ (k : Nat) (ys : List Lb), k ≤ 0 ∧ iv = .int .i64 k ∧ wq.ownsRow w.heap.size 105 2 ot ys.length (flatL ys) ∧ Hid (ot.ownBlock ≠ some X) ∧ Hid (ys ++ mg (a.drop k) (b.drop j) = M) ∧ wq.cell? ⟨X, 0, none⟩ = some (.string y) ∧ wq.cell? ⟨X, 1, none⟩ = some (.string z) ∧ Below w.heap.size w wq) (fun _ iv _ => 0 - (intOf iv).toNat)
          case atStart => exact ⟨k, ys, hk, rfl, HO0.out, HNE0.out, HMG.out, X0.out.1, X0.out.2, HB0.out⟩
          case round =>
            clear hk HMG HO0 HNE0 X0 HB0
            obtain ⟨k, ys, hk, rfl, hown, HNE, HMG, hX0, hX1, hbel⟩ := hrel
            obtain ⟨oa, ocap, rfl⟩ := own_shapeL hown
            have hyl : ys.length ≤ 12 := by
              have := congrArg List.length HMG.out
              rw [List.length_append] at this
              omega
            have HX1 := hide hX1
            have hXq := blk_lt hX0
            have hsz2 := hbel.size
            obtain rfl : k = 0 := by omega
            have hknI : ¬ (k : Int) < (0 : Int) := by omega
            have hke : a = [] := List.eq_nil_of_length_eq_zero HN1.out
            have hst : ys ++ [(y, z)] ++ mg (a.drop 0) (b.drop (j + 1)) = M := by rw [← HMG.out, HBD.out, hke]; simp [mg_left]
            have HST := hide hst
            have HOW := hide hown
            have B0 := hide hbel
            clear hke hst hown hbel hX1 HMG
            go_wp2
            refine wp_region_held_drew (S := (fun wx => wx.cell? ⟨X, 0, none⟩ = some (.string y) ∧ wx.cell? ⟨X, 0, none⟩ = some (.string y) ∧ Below wr.heap.size wr wx)) (by kernel_rfl) ⟨hX0, hX0, (Below.refl _ _).drew⟩ (fun hHeld => ?_)
            refine wpAnyH_take (i := 0) (v := ?v71) rfl (by kernel_rfl) (by kernel_rfl) (by kernel_rfl) (fun _ _ _ h => h) (Or.inl ⟨by rfl, ?y71⟩) (by assumption) ?r71
            case y71 => (intro w hSw; (try dsimp only at hSw); go_simp; try (with_reducible rfl))
            simp only [List.getElem_toArray, List.getElem_cons_zero, Act.put, List.setIfInBounds_toArray, List.set_cons_zero, List.set_cons_succ]
            refine wpAnyH_take (i := 1) (v := ?v72) rfl (by kernel_rfl) (by kernel_rfl) (by kernel_rfl) (fun _ _ _ h => h) (Or.inl ⟨by rfl, ?y72⟩) (by assumption) ?r72
            case y72 => (intro w hSw; (try dsimp only at hSw); go_simp; try (with_reducible rfl))
            simp only [List.getElem_toArray, List.getElem_cons_succ, List.getElem_cons_zero, Act.put, List.setIfInBounds_toArray, List.set_cons_zero, List.set_cons_succ]
            refine wpAnyH_take (i := 2) (v := ?v73) rfl (by kernel_rfl) (by kernel_rfl) (by kernel_rfl) (fun _ _ _ h => h) (Or.inl ⟨by rfl, ?y73⟩) (by assumption) ?r73
            case y73 => (intro w hSw; (try dsimp only at hSw); go_simp; try (with_reducible rfl))
            simp only [List.getElem_toArray, List.getElem_cons_succ, List.getElem_cons_zero, Act.put, List.setIfInBounds_toArray, List.set_cons_zero, List.set_cons_succ]
            refine wpAnyH_take (i := 3) (v := ?v74) rfl (by kernel_rfl) (by kernel_rfl) (by kernel_rfl) (fun _ _ _ h => h) (Or.inl ⟨by rfl, ?y74⟩) (by assumption) ?r74
            case y74 => (intro w hSw; (try dsimp only at hSw); go_simp; try (with_reducible rfl))
            simp only [List.getElem_toArray, List.getElem_cons_succ, List.getElem_cons_zero, Act.put, List.setIfInBounds_toArray, List.set_cons_zero, List.set_cons_succ]
            refine wpAnyH_take (i := 4) (v := ?v75) rfl (by kernel_rfl) (by kernel_rfl) (by kernel_rfl) (fun _ _ _ h => h) (Or.inl ⟨by rfl, ?y75⟩) (by assumption) ?r75
            case y75 => (intro w hSw; (try dsimp only at hSw); go_simp; try (with_reducible rfl))
            simp only [List.getElem_toArray, List.getElem_cons_succ, List.getElem_cons_zero, Act.put, List.setIfInBounds_toArray, List.set_cons_zero, List.set_cons_succ]
            refine wpAnyH_take (i := 5) (v := undef) rfl (by kernel_rfl) (by kernel_rfl) (by kernel_rfl) (fun _ _ _ h => h) (Or.inr ⟨by rfl, rfl⟩) (by assumption) ?_
            simp only [List.getElem_toArray, List.getElem_cons_succ, List.getElem_cons_zero, Act.put, List.setIfInBounds_toArray, List.set_cons_zero, List.set_cons_succ]
            refine wpAnyH_take (i := 6) (v := undef) rfl (by kernel_rfl) (by kernel_rfl) (by kernel_rfl) (fun _ _ _ h => h) (Or.inr ⟨by rfl, rfl⟩) (by assumption) ?_
            simp only [List.getElem_toArray, List.getElem_cons_succ, List.getElem_cons_zero, Act.put, List.setIfInBounds_toArray, List.set_cons_zero, List.set_cons_succ]
            refine wpAnyH_take (i := 7) (v := undef) rfl (by kernel_rfl) (by kernel_rfl) (by kernel_rfl) (fun _ _ _ h => h) (Or.inr ⟨by rfl, rfl⟩) (by assumption) ?_
            simp only [List.getElem_toArray, List.getElem_cons_succ, List.getElem_cons_zero, Act.put, List.setIfInBounds_toArray, List.set_cons_zero, List.set_cons_succ]
            refine wpAnyH_take (i := 8) (v := undef) rfl (by kernel_rfl) (by kernel_rfl) (by kernel_rfl) (fun _ _ _ h => h) (Or.inr ⟨by rfl, rfl⟩) (by assumption) ?_
            simp only [List.getElem_toArray, List.getElem_cons_succ, List.getElem_cons_zero, Act.put, List.setIfInBounds_toArray, List.set_cons_zero, List.set_cons_succ]
            refine wpAnyH_take (i := 9) (v := undef) rfl (by kernel_rfl) (by kernel_rfl) (by kernel_rfl) (fun _ _ _ h => h) (Or.inr ⟨by rfl, rfl⟩) (by assumption) ?_
            simp only [List.getElem_toArray, List.getElem_cons_succ, List.getElem_cons_zero, Act.put, List.setIfInBounds_toArray, List.set_cons_zero, List.set_cons_succ]
            refine wpAnyH_take (i := 10) (v := undef) rfl (by kernel_rfl) (by kernel_rfl) (by kernel_rfl) (fun _ _ _ h => h) (Or.inr ⟨by rfl, rfl⟩) (by assumption) ?_
            simp only [List.getElem_toArray, List.getElem_cons_succ, List.getElem_cons_zero, Act.put, List.setIfInBounds_toArray, List.set_cons_zero, List.set_cons_succ]
            refine wpAnyH_take (i := 11) (v := undef) rfl (by kernel_rfl) (by kernel_rfl) (by kernel_rfl) (fun _ _ _ h => h) (Or.inr ⟨by rfl, rfl⟩) (by assumption) ?_
            simp only [List.getElem_toArray, List.getElem_cons_succ, List.getElem_cons_zero, Act.put, List.setIfInBounds_toArray, List.set_cons_zero, List.set_cons_succ]
            refine wpAnyH_take (i := 12) (v := undef) rfl (by kernel_rfl) (by kernel_rfl) (by kernel_rfl) (fun _ _ _ h => h) (Or.inr ⟨by rfl, rfl⟩) (by assumption) ?_
            simp only [List.getElem_toArray, List.getElem_cons_succ, List.getElem_cons_zero, Act.put, List.setIfInBounds_toArray, List.set_cons_zero, List.set_cons_succ]
            refine wpAnyH_take (i := 13) (v := ?v84) rfl (by kernel_rfl) (by kernel_rfl) (by kernel_rfl) (fun _ _ _ h => h) (Or.inl ⟨by rfl, ?y84⟩) (by assumption) ?r84
            case y84 => (intro w hSw; (try dsimp only at hSw); go_simp; try (with_reducible rfl))
            simp only [List.getElem_toArray, List.getElem_cons_succ, List.getElem_cons_zero, Act.put, List.setIfInBounds_toArray, List.set_cons_zero, List.set_cons_succ]
            refine wpAnyH_done (by kernel_rfl) ?_ _
            have hx9 := hHeld.2.1
            have hb9 := hHeld.2.2
            clear hHeld hX0
            go_wp2
            refine wp_region_held_drew (S := (fun wx => wx.cell? ⟨X, 0, none⟩ = some (.string y) ∧ wx.cell? ⟨X, 0, none⟩ = some (.string y) ∧ Below wr.heap.size wr wx)) (by kernel_rfl) ⟨hx9, hx9, hb9.drew⟩ (fun hHeld => ?_)
            refine wpAnyH_take (i := 0) (v := ?v85) rfl (by kernel_rfl) (by kernel_rfl) (by kernel_rfl) (fun _ _ _ h => h) (Or.inl ⟨by rfl, ?y85⟩) (by assumption) ?r85
            case y85 => (intro w hSw; (try dsimp only at hSw); go_simp; try (with_reducible rfl))
            simp only [List.getElem_toArray, List.getElem_cons_zero, Act.put, List.setIfInBounds_toArray, List.set_cons_zero, List.set_cons_succ]
            refine wpAnyH_take (i := 1) (v := ?v86) rfl (by kernel_rfl) (by kernel_rfl) (by kernel_rfl) (fun _ _ _ h => h) (Or.inl ⟨by rfl, ?y86⟩) (by assumption) ?r86
            case y86 => (intro w hSw; (try dsimp only at hSw); go_simp; try (with_reducible rfl))
            simp only [List.getElem_toArray, List.getElem_cons_succ, List.getElem_cons_zero, Act.put, List.setIfInBounds_toArray, List.set_cons_zero, List.set_cons_succ]
            refine wpAnyH_take (i := 2) (v := ?v87) rfl (by kernel_rfl) (by kernel_rfl) (by kernel_rfl) (fun _ _ _ h => h) (Or.inl ⟨by rfl, ?y87⟩) (by assumption) ?r87
            case y87 => (intro w hSw; (try dsimp only at hSw); go_simp; try (with_reducible rfl))
            simp only [List.getElem_toArray, List.getElem_cons_succ, List.getElem_cons_zero, Act.put, List.setIfInBounds_toArray, List.set_cons_zero, List.set_cons_succ]
            refine wpAnyH_take (i := 3) (v := ?v88) rfl (by kernel_rfl) (by kernel_rfl) (by kernel_rfl) (fun _ _ _ h => h) (Or.inl ⟨by rfl, ?y88⟩) (by assumption) ?r88
            case y88 => (intro w hSw; (try dsimp only at hSw); go_simp; try (with_reducible rfl))
            simp only [List.getElem_toArray, List.getElem_cons_succ, List.getElem_cons_zero, Act.put, List.setIfInBounds_toArray, List.set_cons_zero, List.set_cons_succ]
            refine wpAnyH_take (i := 4) (v := ?v89) rfl (by kernel_rfl) (by kernel_rfl) (by kernel_rfl) (fun _ _ _ h => h) (Or.inl ⟨by rfl, ?y89⟩) (by assumption) ?r89
            case y89 => (intro w hSw; (try dsimp only at hSw); go_simp; try (with_reducible rfl))
            simp only [List.getElem_toArray, List.getElem_cons_succ, List.getElem_cons_zero, Act.put, List.setIfInBounds_toArray, List.set_cons_zero, List.set_cons_succ]
            refine wpAnyH_take (i := 5) (v := undef) rfl (by kernel_rfl) (by kernel_rfl) (by kernel_rfl) (fun _ _ _ h => h) (Or.inr ⟨by rfl, rfl⟩) (by assumption) ?_
            simp only [List.getElem_toArray, List.getElem_cons_succ, List.getElem_cons_zero, Act.put, List.setIfInBounds_toArray, List.set_cons_zero, List.set_cons_succ]
            refine wpAnyH_take (i := 6) (v := undef) rfl (by kernel_rfl) (by kernel_rfl) (by kernel_rfl) (fun _ _ _ h => h) (Or.inr ⟨by rfl, rfl⟩) (by assumption) ?_
            simp only [List.getElem_toArray, List.getElem_cons_succ, List.getElem_cons_zero, Act.put, List.setIfInBounds_toArray, List.set_cons_zero, List.set_cons_succ]
            refine wpAnyH_take (i := 7) (v := undef) rfl (by kernel_rfl) (by kernel_rfl) (by kernel_rfl) (fun _ _ _ h => h) (Or.inr ⟨by rfl, rfl⟩) (by assumption) ?_
            simp only [List.getElem_toArray, List.getElem_cons_succ, List.getElem_cons_zero, Act.put, List.setIfInBounds_toArray, List.set_cons_zero, List.set_cons_succ]
            refine wpAnyH_take (i := 8) (v := undef) rfl (by kernel_rfl) (by kernel_rfl) (by kernel_rfl) (fun _ _ _ h => h) (Or.inr ⟨by rfl, rfl⟩) (by assumption) ?_
            simp only [List.getElem_toArray, List.getElem_cons_succ, List.getElem_cons_zero, Act.put, List.setIfInBounds_toArray, List.set_cons_zero, List.set_cons_succ]
            refine wpAnyH_take (i := 9) (v := undef) rfl (by kernel_rfl) (by kernel_rfl) (by kernel_rfl) (fun _ _ _ h => h) (Or.inr ⟨by rfl, rfl⟩) (by assumption) ?_
            simp only [List.getElem_toArray, List.getElem_cons_succ, List.getElem_cons_zero, Act.put, List.setIfInBounds_toArray, List.set_cons_zero, List.set_cons_succ]
            refine wpAnyH_take (i := 10) (v := undef) rfl (by kernel_rfl) (by kernel_rfl) (by kernel_rfl) (fun _ _ _ h => h) (Or.inr ⟨by rfl, rfl⟩) (by assumption) ?_
            simp only [List.getElem_toArray, List.getElem_cons_succ, List.getElem_cons_zero, Act.put, List.setIfInBounds_toArray, List.set_cons_zero, List.set_cons_succ]
            refine wpAnyH_take (i := 11) (v := undef) rfl (by kernel_rfl) (by kernel_rfl) (by kernel_rfl) (fun _ _ _ h => h) (Or.inr ⟨by rfl, rfl⟩) (by assumption) ?_
            simp only [List.getElem_toArray, List.getElem_cons_succ, List.getElem_cons_zero, Act.put, List.setIfInBounds_toArray, List.set_cons_zero, List.set_cons_succ]
            refine wpAnyH_take (i := 12) (v := undef) rfl (by kernel_rfl) (by kernel_rfl) (by kernel_rfl) (fun _ _ _ h => h) (Or.inr ⟨by rfl, rfl⟩) (by assumption) ?_
            simp only [List.getElem_toArray, List.getElem_cons_succ, List.getElem_cons_zero, Act.put, List.setIfInBounds_toArray, List.set_cons_zero, List.set_cons_succ]
            refine wpAnyH_take (i := 13) (v := ?v98) rfl (by kernel_rfl) (by kernel_rfl) (by kernel_rfl) (fun _ _ _ h => h) (Or.inl ⟨by rfl, ?y98⟩) (by assumption) ?r98
            case y98 => (intro w hSw; (try dsimp only at hSw); go_simp; try (with_reducible rfl))
            simp only [List.getElem_toArray, List.getElem_cons_succ, List.getElem_cons_zero, Act.put, List.setIfInBounds_toArray, List.set_cons_zero, List.set_cons_succ]
            refine wpAnyH_done (by kernel_rfl) ?_ _
            have hbA := hHeld.2.2
            have hxA := hHeld.2.1
            have hxA1 := (hbA.cell (p := ⟨X, 1, none⟩) hXq).trans HX1.out
            have hoA := own_belowT HOW.out hbA
            have BA := hide (B0.out.trans (hbA.mono B0.out.size))
            have hzA := BA.out.size
            clear hHeld hbA HOW HX1
            go_wp2_with (first
              | (at_builtin; refine wpList_append_own_at _ rfl _ _ 61 rfl w.heap.size 105 i1 (.agg #[.string ByteArray.empty, .string ByteArray.empty]) 2 32 Tryd.underlying61 hi1 hy0 hy1 hy2 rfl (by decide) _ _ _ rfl (hoA.alloc _) ⟨_, 0, none⟩ 1 1 [.string y, .string z] rfl rfl (cell_two_newL _ _ _ _) (by intro u hu; simp at hu; rcases hu with rfl | rfl <;> rfl) (by unfold maxLen; omega) (by omega) (by simp; omega) ?_)
              | go_in)
            intro v6 w6 hown6 hgrow6 hnil6 hblk6
            have hb6 := BA.out.trans (((Below.refl _ _).alloc hzA _).grown hgrow6 (by simp; omega) (fun g hg => (hoA.lt g hg).1))
            have hown8 : w6.ownsRow w.heap.size 105 2 v6 (ys ++ [(y, z)]).length (flatL (ys ++ [(y, z)])) := by rw [flatL_append, List.length_append]; simpa [flatL] using hown6
            have O6 := hide hown8
            have B6 := hide hb6
            clear hown6 hgrow6 hnil6 hblk6 hown8 hb6 hxA hxA1 hoA
            go_wp2
            go_roundw
            case rel => exact ⟨0, j + 1, ys ++ [(y, z)], by omega, by omega, by go_num, by go_num, O6.out, HST.out, B6.out⟩
            case measure => simp [intOf]; omega
        · obtain rfl : j = n2 := by omega
          have hltI : ¬ (j : Int) < (j : Int) := by omega
          obtain rfl : k = 0 := by omega
          have hbe : b.drop j = [] := List.drop_eq_nil_of_le (by rw [HN2.out]; exact Nat.le_refl _)
          have hm := HMG.out
          have hae : a.drop 0 = [] := List.eq_nil_of_length_eq_zero (by rw [List.length_drop, HN1.out])
          rw [hbe, mg_nil, hae, List.append_nil] at hm
          subst hm
          have O6 := hide hown
          have B6 := hide hbel
          clear hbe hae hown hbel HMG HM
          have hcapL := capL O6.out
          have hcapI : (ys.length : Int) ≤ (ocap : Int) := by omega
          cases oa with
          | none =>
            by_cases h6 : ys.length ≤ 6
            · have hrr := HRR.out
              rw [if_pos h6] at hrr
              have HR0 := hide hrr
              have h6I : ¬ 6 < (ys.length : Int) := by omega
              clear hrr
              go_wp2
              try go_simp
              try go_wp2
              go_ret2
              exact ⟨_, by rw [HR0.out]; rfl, by rw [HR0.out]; exact O6.out, B6.out⟩
            · have hrr := HRR.out
              rw [if_neg h6] at hrr
              have HR0 := hide hrr
              have h6I : 6 < (ys.length : Int) := by omega
              clear hrr
              go_wp2
              try go_simp
              try go_wp2
              go_ret2
              exact HNO.out _ _ HR0.out rfl B6.out
          | some a7 =>
            by_cases h6 : ys.length ≤ 6
            · have hrr := HRR.out
              rw [if_pos h6] at hrr
              have HR0 := hide hrr
              have h6I : ¬ 6 < (ys.length : Int) := by omega
              clear hrr
              go_wp2
              try go_simp
              try go_wp2
              go_ret2
              exact ⟨_, by rw [HR0.out]; rfl, by rw [HR0.out]; exact O6.out, B6.out⟩
            · have hrr := HRR.out
              rw [if_neg h6] at hrr
              have HR0 := hide hrr
              have h6I : 6 < (ys.length : Int) := by omega
              clear hrr
              go_wp2
              try go_simp
              try go_wp2
              go_ret2
              exact HNO.out _ _ HR0.out rfl B6.out
    · have C2 := hide (fun w hs => specGoodLabels_any a2 b n2 c2 w hn2 hs hm2 ht2 false (by simp [hg2]))
      have hr' : r = none := by rw [hr]; unfold mrgRes; rw [if_neg (fun hh => hg2 hh.2.1)]
      have HR0 := hide hr'
      have HS2 := hide hs2
      clear hr hr' hg1 hg2 hs1 hs2 hn1 hn2 ht1 ht2
      go_enter Tryd.func69, Tryd.ntmps69
      go_wp2_with fail
      refine C1.out.mono ?_
      rintro e w1 ⟨rfl, hb1⟩
      have B1 := hide hb1
      clear hb1
      go_wp2_with fail
      refine (C2.out _ (HS2.out.below B1.out)).mono ?_
      rintro e w2 ⟨rfl, hb2⟩
      have B2 := hide (B1.out.trans (hb2.mono B1.out.size))
      clear hb2
      go_wp2
      go_ret2
      exact HNO.out _ _ HR0.out rfl B2.out
end Go.Proofs.YthagpceagifjnaaDoor.L3
