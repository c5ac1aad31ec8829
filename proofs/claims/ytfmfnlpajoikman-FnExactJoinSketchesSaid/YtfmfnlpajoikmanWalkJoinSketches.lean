/-
  The walk of the law FnExactJoinSketches: it returns true at every two sketches; memory that was there stays as it was.
-/
import Derived.Test.YtfmfnlpajoikmanL15Jo
import Derived.Test.YtfmfnlpajoikmanL15SJo
import Derived.Test.YtfmfnlpajoikmanL15Help
import Derived.Test.YtfmfnlpajoikmanL1Lists
import Derived.Test.YtfmfnlpajoikmanL15Open
import Derived.Deep.DeepCutAuto
import Derived.Deep.RegionHeld3
namespace Go.Proofs.Ytfmfnlpajoikman.fnExactJoinSketches
open Go.RowKit L1 L4 Own Sli L15
set_option linter.unusedVariables false

/-- What a region leaves, told once for all orders. -/
def putJ (s0 s1 s2 s3 s4 s5 s6 s7 s8 s9 : Nat) (a : Act) (v0 v1 v2 v3 v4 v5 v6 v7 v8 v9 : Value) : Act := (((((((((a.put (some s0) v0).put (some s1) v1).put (some s2) v2).put (some s3) v3).put (some s4) v4).put (some s5) v5).put (some s6) v6).put (some s7) v7).put (some s8) v8).put (some s9) v9
theorem wp_putJ {P : Program} {c : Code} {Q : Exit → Act → World → Prop} {a : Act} {w : World} (s0 s1 s2 s3 s4 s5 s6 s7 s8 s9 : Nat) (x9 : Value) (R : Value → World → Prop)
    (h : c.wp P (fun e a' w' => e = .normal ∧ ∃ v0 v1 v2 v3 v4 v5 v6 v7 v8, a' = putJ s0 s1 s2 s3 s4 s5 s6 s7 s8 s9 a v0 v1 v2 v3 v4 v5 v6 v7 v8 x9 ∧ R v8 w') a w)
    (k : ∀ v0 v1 v2 v3 v4 v5 v6 v7 v8 w', R v8 w' → Q .normal (putJ s0 s1 s2 s3 s4 s5 s6 s7 s8 s9 a v0 v1 v2 v3 v4 v5 v6 v7 v8 x9) w') : c.wp P Q a w :=
  wp_mono h (by rintro e a' w' ⟨rfl, v0, v1, v2, v3, v4, v5, v6, v7, v8, rfl, hr⟩; exact k _ _ _ _ _ _ _ _ _ _ hr)
set_option maxRecDepth 100000 in
set_option maxHeartbeats 8000000 in
theorem walk (a0 : Option Addr) (len0 cap0 : Nat) (z0 : List (List Int)) (B0 : Int) (a1 : Option Addr) (len1 cap1 : Nat) (z1 : List (List Int)) (B1 : Int) (w : World) (w0 : IsRowSI w a0 len0 z0) (w1 : IsRowSI w a1 len1 z1) :
    Calls Try.prog 5 #[.agg #[.slice a0 len0 cap0, .int .i64 B0], .agg #[.slice a1 len1 cap1, .int .i64 B1]] w fun e w' => e = .returned (.bool true) ∧ Below w.heap.size w w' := by
  have BX := ((Below.refl w.heap.size w).alloc (Nat.le_refl _) (.cells #[.slice a0 len0 cap0, .int .i64 B0] 24 (0, 0))).alloc (by simp) (.cells #[.slice a1 len1 cap1, .int .i64 B1] 24 (0, 0))
  obtain ⟨ga1, ga0, _⟩ := blk_two w (.cells #[.slice a0 len0 cap0, .int .i64 B0] 24 (0, 0)) (.cells #[.slice a1 len1 cap1, .int .i64 B1] 24 (0, 0))
  obtain ⟨⟨hn0, hm0, hs0⟩, hst0⟩ := w0
  unfold maxLen at hm0
  obtain ⟨⟨hn1, hm1, hs1⟩, hst1⟩ := w1
  unfold maxLen at hm1
  obtain ⟨W0, hW0⟩ : ∃ W0, W0 = ((w.alloc (.cells #[.slice a0 len0 cap0, .int .i64 B0] 24 (0, 0))).alloc (.cells #[.slice a1 len1 cap1, .int .i64 B1] 24 (0, 0))) := ⟨_, rfl⟩
  rw [← hW0] at BX ga0 ga1
  have HW := hide hW0
  have BQ := hide BX
  have GA0 := hide ga0
  have HS0 := hide (hs0.below BX)
  have HN0 := hide hn0
  have HST0 := hide hst0
  have GA1 := hide ga1
  have HS1 := hide (hs1.below BX)
  have HN1 := hide hn1
  have HST1 := hide hst1
  clear BX hW0 ga0 hs0 hst0 ga1 hs1 hst1
  have BB0 := hide (Below.refl W0.heap.size W0)
  have CZ0 := hide (fun wx (hb : Below W0.heap.size W0 wx) r hr => szSketch_any a0 z0 len0 cap0 B0 (1048576) wx HN0.out hm0 (HS0.out.below hb) HST0.out (by omega) (by omega) r hr)
  by_cases hfit0 : (wtSI z0 : Int) ≤ 1048576
  rotate_left
  · have CY := hide (fun wx hb => CZ0.out wx hb (-1) (by rw [if_neg hfit0]))
    clear CZ0
    go_enter Try.func5, Try.ntmps5
    go_upto_region 1 with fail
    rw [← HW.out]
    obtain ⟨q9, r9, _, _⟩ := blkp (blk_kept GA0.out BB0.out)
    go_wp2_with fail
    refine (CY.out _ BB0.out).mono ?_
    rintro e u9 ⟨rfl, hb⟩
    have BU9 := hide (BQ.out.trans ((BB0.out.trans (hb.mono BB0.out.size)).mono BQ.out.size))
    clear hb
    go_wp2
    go_ret
    exact ⟨rfl, BU9.out⟩
  obtain ⟨Z1, hZ1⟩ : ∃ x, x = 1048576 - (wtSI z0 : Int) := ⟨_, rfl⟩
  have hZn0 : ¬ Z1 < 0 := by omega
  have CY0 := hide (fun wx hb => CZ0.out wx hb Z1 (by rw [if_pos hfit0]; exact hZ1))
  have hZle1 : Z1 ≤ 1048576 := by omega
  clear hZ1 CZ0
  have CZ1 := hide (fun wx (hb : Below W0.heap.size W0 wx) r hr => szSketch_any a1 z1 len1 cap1 B1 Z1 wx HN1.out hm1 (HS1.out.below hb) HST1.out (by omega) (by omega) r hr)
  by_cases hfit1 : (wtSI z1 : Int) ≤ Z1
  rotate_left
  · have CY := hide (fun wx hb => CZ1.out wx hb (-1) (by rw [if_neg hfit1]))
    clear CZ1
    go_enter Try.func5, Try.ntmps5
    go_upto_region 1 with fail
    rw [← HW.out]
    obtain ⟨q0, r0, _, _⟩ := blkp (blk_kept GA0.out BB0.out)
    go_wp2_with fail
    refine (CY0.out _ BB0.out).mono ?_
    rintro e u0 ⟨rfl, hb⟩
    have BU0 := hide (BB0.out.trans (hb.mono BB0.out.size))
    clear hb q0 r0
    obtain ⟨q9, r9, _, _⟩ := blkp (blk_kept GA1.out BU0.out)
    go_wp2_with fail
    refine (CY.out _ BU0.out).mono ?_
    rintro e u9 ⟨rfl, hb⟩
    have BU9 := hide (BQ.out.trans ((BU0.out.trans (hb.mono BU0.out.size)).mono BQ.out.size))
    clear hb
    go_wp2
    go_ret
    exact ⟨rfl, BU9.out⟩
  obtain ⟨Z2, hZ2⟩ : ∃ x, x = Z1 - (wtSI z1 : Int) := ⟨_, rfl⟩
  have hZn1 : ¬ Z2 < 0 := by omega
  have CY1 := hide (fun wx hb => CZ1.out wx hb Z2 (by rw [if_pos hfit1]; exact hZ2))
  have hZle2 : Z2 ≤ 1048576 := by omega
  clear hZ2 CZ1
  have hsz0 : len0 ≤ 1048576 := by have := HN0.out; unfold wtSI at hfit0; omega
  have HX0 : Hid (∀ i, i < z0.length → (z0.getD i []).length ≤ 1048576) := fun i hi => by have h1 : (z0.getD i []).length ≤ wtsI z0 := wtsI_get z0 i hi; unfold wtSI at hfit0; omega
  have hz0 : SmS z0 := ⟨by rw [HN0.out]; exact hsz0, by rw [pre_wts z0 _ (Nat.le_refl _), List.take_length]; unfold wtSI at hfit0; omega, HX0.out⟩
  have CT0 := hide (fun wx (hb : Below W0.heap.size W0 wx) => toSketch_any a0 z0 len0 cap0 B0 wx HN0.out (HS0.out.below hb) hsz0 HX0.out)
  have CEX0 := hide (fun a b c1 c2 wx ha hb => eqSketch_same a b z0 len0 c1 c2 B0 wx HN0.out ha hb hsz0 HX0.out)
  have hsz1 : len1 ≤ 1048576 := by have := HN1.out; unfold wtSI at hfit1; omega
  have HX1 : Hid (∀ i, i < z1.length → (z1.getD i []).length ≤ 1048576) := fun i hi => by have h1 : (z1.getD i []).length ≤ wtsI z1 := wtsI_get z1 i hi; unfold wtSI at hfit1; omega
  have hz1 : SmS z1 := ⟨by rw [HN1.out]; exact hsz1, by rw [pre_wts z1 _ (Nat.le_refl _), List.take_length]; unfold wtSI at hfit1; omega, HX1.out⟩
  have CT1 := hide (fun wx (hb : Below W0.heap.size W0 wx) => toSketch_any a1 z1 len1 cap1 B1 wx HN1.out (HS1.out.below hb) hsz1 HX1.out)
  have CEX1 := hide (fun a b c1 c2 wx ha hb => eqSketch_same a b z1 len1 c1 c2 B1 wx HN1.out ha hb hsz1 HX1.out)
  obtain ⟨ok, L, T, hadd⟩ := add_ex (JoinOk z0 B0 z1 B1) (joinA z0 z1) (B0 + B1)
  have hoo : (ok != ok) = false := by simp
  have hzr := hadd.sms
  have C1 := hide (fun wx a c h b d k => specJoinSketches_any a z0 len0 c B0 b z1 len1 d B1 wx HN0.out hsz0 h HX0.out HN1.out hsz1 k HX1.out ok L T hadd)
  have C2 := hide (fun wx a c h b d k => implJoinSketches_any a z0 len0 c B0 b z1 len1 d B1 wx HN0.out hsz0 h HX0.out HN1.out hsz1 k HX1.out ok L T hadd)
  have CE := hide (fun a b c1 c2 wx ha hb => eqSketch_same a b L L.length c1 c2 T wx rfl ha hb hzr.n hzr.s)
  have CM := hide (fun base hi v M wx hML hin how => markSketch_any base hi v L.length M L T wx 1 (by omega) (by omega) hML hzr hin how)
  have CH := hide (fun a c wx hs => heldSketch_any a L.length c 1 L T wx rfl (by omega) (by omega) hzr hs)
  obtain ⟨kk, hkk0⟩ : ∃ kk, kk = 1 + (pre L L.length : Int) := ⟨_, rfl⟩
  have hkn : ¬ kk < 0 := by omega
  have hkk : (kk != kk) = false := by simp
  rw [← hkk0] at CM CH
  obtain ⟨nL, hnL⟩ : ∃ n, n = L.length := ⟨_, rfl⟩
  have HNL := hide hnL
  rw [← hnL] at CE CM CH
  have CMX0 := hide (fun base hi v M wx hML hin how => markSketch_any base hi v len0 M z0 B0 wx 1 (by omega) (by omega) hML hz0 hin how)
  have hpz0 : pre z0 len0 ≤ 1048576 := by rw [← HN0.out]; exact hz0.p
  obtain ⟨y0, hy0⟩ : ∃ y, y = 1 + (pre z0 len0 : Int) := ⟨_, rfl⟩
  have hyn0 : ¬ y0 < 0 := by omega
  rw [← hy0] at CMX0
  have CMX1 := hide (fun base hi v M wx hML hin how => markSketch_any base hi v len1 M z1 B1 wx y0 (by omega) (by omega) hML hz1 hin how)
  have hpz1 : pre z1 len1 ≤ 1048576 := by rw [← HN1.out]; exact hz1.p
  obtain ⟨y1, hy1⟩ : ∃ y, y = y0 + (pre z1 len1 : Int) := ⟨_, rfl⟩
  have hyn1 : ¬ y1 < 0 := by omega
  rw [← hy1] at CMX1
  have NX := hide (True.intro)
  clear hadd hkk0 hnL hzr hy0 hz0 hpz0 hm0 hn0 hfit0 hy1 hz1 hpz1 hm1 hn1 hfit1
  go_enter Try.func5, Try.ntmps5
  go_upto_region 1 with fail
  rw [← HW.out]
  obtain ⟨k_1, k_2, _, _⟩ := blkp (blk_kept GA0.out BB0.out)
  go_wp2_with fail
  refine (CY0.out _ BB0.out).mono ?_
  rintro e w_3 ⟨rfl, hb⟩
  clear k_1 k_2
  have BB_4 := hide (BB0.out.trans (hb.mono BB0.out.size))
  clear BB0
  clear hb
  obtain ⟨k_5, k_6, _, _⟩ := blkp (blk_kept GA1.out BB_4.out)
  go_wp2_with fail
  refine (CY1.out _ BB_4.out).mono ?_
  rintro e w_7 ⟨rfl, hb⟩
  clear k_5 k_6
  have BB_8 := hide (BB_4.out.trans (hb.mono BB_4.out.size))
  clear BB_4
  clear hb
  obtain ⟨k_9, k_10, _, _⟩ := blkp (blk_kept GA0.out BB_8.out)
  obtain ⟨k_11, k_12, _, _⟩ := blkp (blk_kept GA1.out BB_8.out)
  go_upto_region 8 with fail
  refine wp_putJ 27 28 29 30 31 32 33 34 6 7 (.bool ok) (fun v wS => ∃ b a c, v = .pointer (some ⟨b, 0, none⟩) ∧ wS.heap[b]? = some (skO (.slice a nL c) T) ∧ SlSI wS a L ∧ Below w_7.heap.size w_7 wS) ?_ ?_
  · refine wp_region_held_drew (S := (fun wx => (wx.cell? ⟨w.heap.size, 0, none⟩ = some (.slice a0 len0 cap0) ∧ wx.cell? ⟨w.heap.size, 1, none⟩ = some (.int .i64 B0) ∧ wx.cell? ⟨w.heap.size + 1, 0, none⟩ = some (.slice a1 len1 cap1) ∧ wx.cell? ⟨w.heap.size + 1, 1, none⟩ = some (.int .i64 B1)) ∧ Below W0.heap.size W0 wx)) (by kernel_rfl) ⟨⟨k_9, k_10, k_11, k_12⟩, BB_8.out.drew⟩ (fun hHeld => ?_)
    clear k_9 k_10 k_11 k_12
    refine wpAnyH_take (i := 0) (v := ?v1) rfl (by kernel_rfl) (by kernel_rfl) (by kernel_rfl) (fun _ _ _ h => by cases h.1) (Or.inl ⟨by rfl, ?y1⟩) (by assumption) ?r1
    case y1 => (intro w hSw; (try dsimp only at hSw); go_simp; try (with_reducible rfl))
    simp only [List.getElem_toArray, List.getElem_cons_zero, Act.put, List.setIfInBounds_toArray, List.set_cons_zero, List.set_cons_succ]
    refine wpAnyH_take (i := 2) (v := ?v2) rfl (by kernel_rfl) (by kernel_rfl) (by kernel_rfl) (fun _ _ _ h => by cases h.1) (Or.inl ⟨by rfl, ?y2⟩) (by assumption) ?r2
    case y2 => (intro w hSw; (try dsimp only at hSw); go_simp; try (with_reducible rfl))
    simp only [List.getElem_toArray, List.getElem_cons_succ, List.getElem_cons_zero, Act.put, List.setIfInBounds_toArray, List.set_cons_zero, List.set_cons_succ]
    have EC_13 := hide (Below.refl w_7.heap.size w_7)
    refine wpAnyH_ready (rs := [1, 8]) (by kernel_rfl) (by simp) ?_
    refine AllReadyH.cons rfl (fun K hK => ?_) (AllReadyH.cons rfl (fun K hK => ?_) AllReadyH.nil)
    · simp only [List.getElem_toArray, List.getElem_cons_succ, List.getElem_cons_zero]
      go_simp
      go_at_call 11
      refine (CT0.out _ hHeld.2).mono ?_
      rintro e w_14 ⟨g_15, rfl, ⟨M_16, hM, ho⟩, hb⟩
      have hsl := ho.sl
      rw [hM] at hsl
      have SP_17 := hide hsl
      have E_18 := hide (show Below w_7.heap.size w_7 w_14 from (Below.refl w_7.heap.size w_7).drew.trans (hb.mono (Nat.le_refl _)))
      dsimp only
      refine hK.out _ _ ?_ (fun hHeld => ?_)
      · exact L8.keep4 hHeld hb (Nat.le_refl _)
      clear hK K hb ho hM hsl
      try simp only [Act.put, List.setIfInBounds_toArray, List.set_cons_zero, List.set_cons_succ]
      have BB_19 := hide (BB_8.out.trans ((E_18.out).mono BB_8.out.size))
      have EC_20 := hide (EC_13.out.trans ((E_18.out).mono EC_13.out.size))
      refine wpAnyH_ready (rs := [3, 8]) (by kernel_rfl) (by simp) ?_
      refine AllReadyH.cons rfl (fun K hK => ?_) (AllReadyH.cons rfl (fun K hK => ?_) AllReadyH.nil)
      · simp only [List.getElem_toArray, List.getElem_cons_succ, List.getElem_cons_zero]
        go_simp
        go_at_call 11
        refine (CT1.out _ hHeld.2).mono ?_
        rintro e w_21 ⟨g_22, rfl, ⟨M_23, hM, ho⟩, hb⟩
        have hsl := ho.sl
        rw [hM] at hsl
        have SP_24 := hide hsl
        have E_25 := hide (show Below w_14.heap.size w_14 w_21 from hb)
        dsimp only
        refine hK.out _ _ ?_ (fun hHeld => ?_)
        · exact L8.keep4 hHeld hb (Nat.le_refl _)
        clear hK K hb ho hM hsl
        try simp only [Act.put, List.setIfInBounds_toArray, List.set_cons_zero, List.set_cons_succ]
        have SP_26 := hide (SP_17.out.below (E_25.out))
        have BB_27 := hide (BB_19.out.trans ((E_25.out).mono BB_19.out.size))
        have EC_28 := hide (EC_20.out.trans ((E_25.out).mono EC_20.out.size))
        refine wpAnyH_ready (rs := [4, 8]) (by kernel_rfl) (by simp) ?_
        refine AllReadyH.cons rfl (fun K hK => ?_) (AllReadyH.cons rfl (fun K hK => ?_) AllReadyH.nil)
        · simp only [List.getElem_toArray, List.getElem_cons_succ, List.getElem_cons_zero]
          go_simp
          go_at_call 18
          refine (C1.out _ _ _ SP_26.out _ _ SP_24.out).mono ?_
          rintro e u_29 ⟨v, rfl, hr⟩
          obtain ⟨⟨M_32, hM, ho⟩, hb⟩ := hr
          obtain ⟨a_30, c_31, hv, _⟩ := ho.form
          rw [← HNL.out] at ho hv
          subst hv
          have OS_33 := hide (And.intro hM ho)
          have E_34 := hide (show Below w_21.heap.size w_21 u_29 from hb)
          dsimp only
          refine hK.out _ _ ?_ (fun hHeld => ?_)
          · exact L8.keep4 hHeld hb (Nat.le_refl _)
          clear hK K hb ho hM
          try simp only [Act.put, List.setIfInBounds_toArray, List.set_cons_zero, List.set_cons_succ]
          have SP_35 := hide (SP_26.out.below (E_34.out))
          have SP_36 := hide (SP_24.out.below (E_34.out))
          have BB_37 := hide (BB_27.out.trans ((E_34.out).mono BB_27.out.size))
          have EC_38 := hide (EC_28.out.trans ((E_34.out).mono EC_28.out.size))
          refine wpAnyH_take (i := 5) (v := ?v3) rfl (by kernel_rfl) (by kernel_rfl) (by kernel_rfl) (fun _ _ _ h => by cases h.1) (Or.inl ⟨by rfl, ?y3⟩) (by assumption) ?r3
          case y3 => (intro w hSw; (try dsimp only at hSw); go_simp; try (with_reducible rfl))
          simp only [List.getElem_toArray, List.getElem_cons_succ, List.getElem_cons_zero, Act.put, List.setIfInBounds_toArray, List.set_cons_zero, List.set_cons_succ]
          refine wpAnyH_take (i := 6) (v := ?v4) rfl (by kernel_rfl) (by kernel_rfl) (by kernel_rfl) (fun _ _ _ h => by cases h.1) (Or.inl ⟨by rfl, ?y4⟩) (by assumption) ?r4
          case y4 => (intro w hSw; (try dsimp only at hSw); go_simp; try (with_reducible rfl))
          simp only [List.getElem_toArray, List.getElem_cons_succ, List.getElem_cons_zero, Act.put, List.setIfInBounds_toArray, List.set_cons_zero, List.set_cons_succ]
          refine wpAnyH_take (i := 7) (v := ?v5) rfl (by kernel_rfl) (by kernel_rfl) (by kernel_rfl) (fun _ _ _ h => by cases h.1) (Or.inl ⟨by rfl, ?y5⟩) (by assumption) ?r5
          case y5 => (intro w hSw; (try dsimp only at hSw); go_simp; try (with_reducible rfl))
          simp only [List.getElem_toArray, List.getElem_cons_succ, List.getElem_cons_zero, Act.put, List.setIfInBounds_toArray, List.set_cons_zero, List.set_cons_succ]
          refine wpAnyH_ready (rs := [8]) (by kernel_rfl) (by simp) ?_
          refine AllReadyH.cons rfl (fun K hK => ?_) AllReadyH.nil
          simp only [List.getElem_toArray, List.getElem_cons_succ, List.getElem_cons_zero]
          go_simp
          obtain ⟨w_39, hV⟩ : ∃ x, u_29.alloc (.cells #[.slice none 0 0, .int .i64 0] 26) = x := ⟨_, rfl⟩
          have E_40 := hide (show Below u_29.heap.size u_29 w_39 by rw [← hV]; exact ((Below.refl _ _).alloc (Nat.le_refl _) _))
          have GZ_41 := hide (show w_39.heap[u_29.heap.size]? = some (skO (.slice none 0 0) 0) by rw [← hV]; exact L8.blk_new _ _)
          rw [hV]
          clear hV
          have SP_42 := hide (SP_35.out.below (E_40.out))
          have SP_43 := hide (SP_36.out.below (E_40.out))
          have BB_44 := hide (BB_37.out.trans ((E_40.out).mono BB_37.out.size))
          have EC_45 := hide (EC_38.out.trans ((E_40.out).mono EC_38.out.size))
          refine hK.out _ _ ?_ (fun hHeld => ?_)
          · exact ⟨⟨(E_40.out.cell (p := ⟨w.heap.size, 0, none⟩) (blk_ltO hHeld.1.1)).trans hHeld.1.1, (E_40.out.cell (p := ⟨w.heap.size, 1, none⟩) (blk_ltO hHeld.1.2.1)).trans hHeld.1.2.1, (E_40.out.cell (p := ⟨w.heap.size + 1, 0, none⟩) (blk_ltO hHeld.1.2.2.1)).trans hHeld.1.2.2.1, (E_40.out.cell (p := ⟨w.heap.size + 1, 1, none⟩) (blk_ltO hHeld.1.2.2.2)).trans hHeld.1.2.2.2⟩, BB_44.out⟩
          clear hK K
          try simp only [Act.put, List.setIfInBounds_toArray, List.set_cons_zero, List.set_cons_succ]
          refine wpAnyH_ready (rs := [9]) (by kernel_rfl) (by simp) ?_
          refine AllReadyH.cons rfl (fun K hK => ?_) AllReadyH.nil
          simp only [List.getElem_toArray, List.getElem_cons_succ, List.getElem_cons_zero]
          obtain ⟨z0, z1, f0, f1⟩ := blkp GZ_41.out
          go_simp
          obtain ⟨wS, hS⟩ : ∃ x, (w_39.setCell ⟨u_29.heap.size, 0, none⟩ (.slice a_30 nL c_31)).setCell ⟨u_29.heap.size, 1, none⟩ (.int .i64 T) = x := ⟨_, rfl⟩
          have GSB := hide (show wS.heap[u_29.heap.size]? = some (skO (.slice a_30 nL c_31) T) by rw [← hS]; exact set2 GZ_41.out)
          have SLS := hide (show SlSI wS a_30 L by
            have h1 := OS_33.out.2.inR
            have st : ∀ {q m : Nat} {t : TypeId} {u : Value} {xs : List Value}, w_39.ownsRow w_21.heap.size t q u m xs → (∀ g, u.ownBlock = some g → g < u_29.heap.size) → wS.ownsRow w_21.heap.size t q u m xs := fun ho hl => own_at ho (fun g hg => by rw [← hS]; exact ((Below.heap_setCell _ _ _ _ (by have := hl g hg; show g ≠ u_29.heap.size; omega)).trans (Below.heap_setCell _ _ _ _ (by have := hl g hg; show g ≠ u_29.heap.size; omega))))
            have h2 := (OwR.sl (w := wS) (base := w_21.heap.size) ⟨OS_33.out.2.len, st (own_belO OS_33.out.2.row E_40.out) h1.row, fun i hi => st (own_belO (OS_33.out.2.idx i hi) E_40.out) (h1.idx i hi), OS_33.out.2.apart⟩)
            rw [OS_33.out.1] at h2
            exact h2)
          have hW : w_7.heap.size ≤ u_29.heap.size := EC_38.out.size
          have EC_46 := hide (show Below w_7.heap.size w_7 wS by rw [← hS]; exact (EC_45.out.setCell (p := ⟨u_29.heap.size, 0, none⟩) hW (.slice a_30 nL c_31)).setCell (p := ⟨u_29.heap.size, 1, none⟩) hW (.int .i64 T))
          rw [hS]
          refine hK.out _ _ ?_ (fun hHeld => ?_)
          · obtain ⟨h1, h2, _, _⟩ := blkp (blk_kept GA0.out (BB_8.out.trans (EC_46.out.mono BB_8.out.size)))
            obtain ⟨h3, h4, _, _⟩ := blkp (blk_kept GA1.out (BB_8.out.trans (EC_46.out.mono BB_8.out.size)))
            exact ⟨⟨h1, h2, h3, h4⟩, BB_8.out.trans (EC_46.out.mono BB_8.out.size)⟩
          clear hK K hW z0 z1 f0 f1
          try simp only [Act.put, List.setIfInBounds_toArray, List.set_cons_zero, List.set_cons_succ]
          refine wpAnyH_take (i := 10) (v := ?v6) rfl (by kernel_rfl) (by kernel_rfl) (by kernel_rfl) (fun _ _ _ h => by cases h.1) (Or.inl ⟨by rfl, ?y6⟩) (by assumption) ?r6
          case y6 => (intro w hSw; (try dsimp only at hSw); go_simp; try (with_reducible rfl))
          simp only [List.getElem_toArray, List.getElem_cons_succ, List.getElem_cons_zero, Act.put, List.setIfInBounds_toArray, List.set_cons_zero, List.set_cons_succ]
          refine wpAnyH_done (by kernel_rfl) ?_ _
          clear hHeld
          clear hS
          simp only [putJ, Act.put, List.setIfInBounds_toArray, List.set_cons_zero, List.set_cons_succ]
          exact ⟨trivial, _, _, _, _, _, _, _, _, _, rfl, u_29.heap.size, a_30, c_31, rfl, GSB.out, SLS.out, EC_46.out⟩
        · simp only [List.getElem_toArray, List.getElem_cons_succ, List.getElem_cons_zero]
          go_simp
          obtain ⟨w_47, hV⟩ : ∃ x, w_21.alloc (.cells #[.slice none 0 0, .int .i64 0] 26) = x := ⟨_, rfl⟩
          have E_48 := hide (show Below w_21.heap.size w_21 w_47 by rw [← hV]; exact ((Below.refl _ _).alloc (Nat.le_refl _) _))
          have GZ_49 := hide (show w_47.heap[w_21.heap.size]? = some (skO (.slice none 0 0) 0) by rw [← hV]; exact L8.blk_new _ _)
          rw [hV]
          clear hV
          have SP_50 := hide (SP_26.out.below (E_48.out))
          have SP_51 := hide (SP_24.out.below (E_48.out))
          have BB_52 := hide (BB_27.out.trans ((E_48.out).mono BB_27.out.size))
          have EC_53 := hide (EC_28.out.trans ((E_48.out).mono EC_28.out.size))
          refine hK.out _ _ ?_ (fun hHeld => ?_)
          · exact ⟨⟨(E_48.out.cell (p := ⟨w.heap.size, 0, none⟩) (blk_ltO hHeld.1.1)).trans hHeld.1.1, (E_48.out.cell (p := ⟨w.heap.size, 1, none⟩) (blk_ltO hHeld.1.2.1)).trans hHeld.1.2.1, (E_48.out.cell (p := ⟨w.heap.size + 1, 0, none⟩) (blk_ltO hHeld.1.2.2.1)).trans hHeld.1.2.2.1, (E_48.out.cell (p := ⟨w.heap.size + 1, 1, none⟩) (blk_ltO hHeld.1.2.2.2)).trans hHeld.1.2.2.2⟩, BB_52.out⟩
          clear hK K
          try simp only [Act.put, List.setIfInBounds_toArray, List.set_cons_zero, List.set_cons_succ]
          refine wpAnyH_ready (rs := [4]) (by kernel_rfl) (by simp) ?_
          refine AllReadyH.cons rfl (fun K hK => ?_) AllReadyH.nil
          simp only [List.getElem_toArray, List.getElem_cons_succ, List.getElem_cons_zero]
          go_simp
          go_at_call 18
          refine (C1.out _ _ _ SP_50.out _ _ SP_51.out).mono ?_
          rintro e u_54 ⟨v, rfl, hr⟩
          obtain ⟨⟨M_57, hM, ho⟩, hb⟩ := hr
          obtain ⟨a_55, c_56, hv, _⟩ := ho.form
          rw [← HNL.out] at ho hv
          subst hv
          have OS_58 := hide (And.intro hM ho)
          have E_59 := hide (show Below w_47.heap.size w_47 u_54 from hb)
          dsimp only
          refine hK.out _ _ ?_ (fun hHeld => ?_)
          · exact L8.keep4 hHeld hb (Nat.le_refl _)
          clear hK K hb ho hM
          try simp only [Act.put, List.setIfInBounds_toArray, List.set_cons_zero, List.set_cons_succ]
          have SP_60 := hide (SP_50.out.below (E_59.out))
          have SP_61 := hide (SP_51.out.below (E_59.out))
          have GZ_62 := hide (blk_kept GZ_49.out (E_59.out))
          have BB_63 := hide (BB_52.out.trans ((E_59.out).mono BB_52.out.size))
          have EC_64 := hide (EC_53.out.trans ((E_59.out).mono EC_53.out.size))
          refine wpAnyH_take (i := 5) (v := ?v7) rfl (by kernel_rfl) (by kernel_rfl) (by kernel_rfl) (fun _ _ _ h => by cases h.1) (Or.inl ⟨by rfl, ?y7⟩) (by assumption) ?r7
          case y7 => (intro w hSw; (try dsimp only at hSw); go_simp; try (with_reducible rfl))
          simp only [List.getElem_toArray, List.getElem_cons_succ, List.getElem_cons_zero, Act.put, List.setIfInBounds_toArray, List.set_cons_zero, List.set_cons_succ]
          refine wpAnyH_take (i := 6) (v := ?v8) rfl (by kernel_rfl) (by kernel_rfl) (by kernel_rfl) (fun _ _ _ h => by cases h.1) (Or.inl ⟨by rfl, ?y8⟩) (by assumption) ?r8
          case y8 => (intro w hSw; (try dsimp only at hSw); go_simp; try (with_reducible rfl))
          simp only [List.getElem_toArray, List.getElem_cons_succ, List.getElem_cons_zero, Act.put, List.setIfInBounds_toArray, List.set_cons_zero, List.set_cons_succ]
          refine wpAnyH_take (i := 7) (v := ?v9) rfl (by kernel_rfl) (by kernel_rfl) (by kernel_rfl) (fun _ _ _ h => by cases h.1) (Or.inl ⟨by rfl, ?y9⟩) (by assumption) ?r9
          case y9 => (intro w hSw; (try dsimp only at hSw); go_simp; try (with_reducible rfl))
          simp only [List.getElem_toArray, List.getElem_cons_succ, List.getElem_cons_zero, Act.put, List.setIfInBounds_toArray, List.set_cons_zero, List.set_cons_succ]
          refine wpAnyH_ready (rs := [9]) (by kernel_rfl) (by simp) ?_
          refine AllReadyH.cons rfl (fun K hK => ?_) AllReadyH.nil
          simp only [List.getElem_toArray, List.getElem_cons_succ, List.getElem_cons_zero]
          obtain ⟨z0, z1, f0, f1⟩ := blkp GZ_62.out
          go_simp
          obtain ⟨wS, hS⟩ : ∃ x, (u_54.setCell ⟨w_21.heap.size, 0, none⟩ (.slice a_55 nL c_56)).setCell ⟨w_21.heap.size, 1, none⟩ (.int .i64 T) = x := ⟨_, rfl⟩
          have GSB := hide (show wS.heap[w_21.heap.size]? = some (skO (.slice a_55 nL c_56) T) by rw [← hS]; exact set2 GZ_62.out)
          have hlt : w_21.heap.size < w_47.heap.size := (Array.getElem?_eq_some_iff.1 GZ_49.out).1
          have SLS := hide (show SlSI wS a_55 L by
            have h2 := ((OS_58.out.2.setC ⟨w_21.heap.size, 0, none⟩ (.slice a_55 nL c_56) hlt).setC ⟨w_21.heap.size, 1, none⟩ (.int .i64 T) hlt).sl
            rw [OS_58.out.1, hS] at h2
            exact h2)
          have hW : w_7.heap.size ≤ w_21.heap.size := EC_28.out.size
          have EC_65 := hide (show Below w_7.heap.size w_7 wS by rw [← hS]; exact (EC_64.out.setCell (p := ⟨w_21.heap.size, 0, none⟩) hW (.slice a_55 nL c_56)).setCell (p := ⟨w_21.heap.size, 1, none⟩) hW (.int .i64 T))
          rw [hS]
          refine hK.out _ _ ?_ (fun hHeld => ?_)
          · obtain ⟨h1, h2, _, _⟩ := blkp (blk_kept GA0.out (BB_8.out.trans (EC_65.out.mono BB_8.out.size)))
            obtain ⟨h3, h4, _, _⟩ := blkp (blk_kept GA1.out (BB_8.out.trans (EC_65.out.mono BB_8.out.size)))
            exact ⟨⟨h1, h2, h3, h4⟩, BB_8.out.trans (EC_65.out.mono BB_8.out.size)⟩
          clear hK K hW z0 z1 f0 f1
          try simp only [Act.put, List.setIfInBounds_toArray, List.set_cons_zero, List.set_cons_succ]
          refine wpAnyH_take (i := 10) (v := ?v10) rfl (by kernel_rfl) (by kernel_rfl) (by kernel_rfl) (fun _ _ _ h => by cases h.1) (Or.inl ⟨by rfl, ?y10⟩) (by assumption) ?r10
          case y10 => (intro w hSw; (try dsimp only at hSw); go_simp; try (with_reducible rfl))
          simp only [List.getElem_toArray, List.getElem_cons_succ, List.getElem_cons_zero, Act.put, List.setIfInBounds_toArray, List.set_cons_zero, List.set_cons_succ]
          refine wpAnyH_done (by kernel_rfl) ?_ _
          clear hHeld
          clear hS
          simp only [putJ, Act.put, List.setIfInBounds_toArray, List.set_cons_zero, List.set_cons_succ]
          exact ⟨trivial, _, _, _, _, _, _, _, _, _, rfl, w_21.heap.size, a_55, c_56, rfl, GSB.out, SLS.out, EC_65.out⟩
      · simp only [List.getElem_toArray, List.getElem_cons_succ, List.getElem_cons_zero]
        go_simp
        obtain ⟨w_66, hV⟩ : ∃ x, w_14.alloc (.cells #[.slice none 0 0, .int .i64 0] 26) = x := ⟨_, rfl⟩
        have E_67 := hide (show Below w_14.heap.size w_14 w_66 by rw [← hV]; exact ((Below.refl _ _).alloc (Nat.le_refl _) _))
        have GZ_68 := hide (show w_66.heap[w_14.heap.size]? = some (skO (.slice none 0 0) 0) by rw [← hV]; exact L8.blk_new _ _)
        rw [hV]
        clear hV
        have SP_69 := hide (SP_17.out.below (E_67.out))
        have BB_70 := hide (BB_19.out.trans ((E_67.out).mono BB_19.out.size))
        have EC_71 := hide (EC_20.out.trans ((E_67.out).mono EC_20.out.size))
        refine hK.out _ _ ?_ (fun hHeld => ?_)
        · exact ⟨⟨(E_67.out.cell (p := ⟨w.heap.size, 0, none⟩) (blk_ltO hHeld.1.1)).trans hHeld.1.1, (E_67.out.cell (p := ⟨w.heap.size, 1, none⟩) (blk_ltO hHeld.1.2.1)).trans hHeld.1.2.1, (E_67.out.cell (p := ⟨w.heap.size + 1, 0, none⟩) (blk_ltO hHeld.1.2.2.1)).trans hHeld.1.2.2.1, (E_67.out.cell (p := ⟨w.heap.size + 1, 1, none⟩) (blk_ltO hHeld.1.2.2.2)).trans hHeld.1.2.2.2⟩, BB_70.out⟩
        clear hK K
        try simp only [Act.put, List.setIfInBounds_toArray, List.set_cons_zero, List.set_cons_succ]
        refine wpAnyH_ready (rs := [3]) (by kernel_rfl) (by simp) ?_
        refine AllReadyH.cons rfl (fun K hK => ?_) AllReadyH.nil
        simp only [List.getElem_toArray, List.getElem_cons_succ, List.getElem_cons_zero]
        go_simp
        go_at_call 11
        refine (CT1.out _ hHeld.2).mono ?_
        rintro e w_72 ⟨g_73, rfl, ⟨M_74, hM, ho⟩, hb⟩
        have hsl := ho.sl
        rw [hM] at hsl
        have SP_75 := hide hsl
        have E_76 := hide (show Below w_66.heap.size w_66 w_72 from hb)
        dsimp only
        refine hK.out _ _ ?_ (fun hHeld => ?_)
        · exact L8.keep4 hHeld hb (Nat.le_refl _)
        clear hK K hb ho hM hsl
        try simp only [Act.put, List.setIfInBounds_toArray, List.set_cons_zero, List.set_cons_succ]
        have SP_77 := hide (SP_69.out.below (E_76.out))
        have GZ_78 := hide (blk_kept GZ_68.out (E_76.out))
        have BB_79 := hide (BB_70.out.trans ((E_76.out).mono BB_70.out.size))
        have EC_80 := hide (EC_71.out.trans ((E_76.out).mono EC_71.out.size))
        refine wpAnyH_ready (rs := [4]) (by kernel_rfl) (by simp) ?_
        refine AllReadyH.cons rfl (fun K hK => ?_) AllReadyH.nil
        simp only [List.getElem_toArray, List.getElem_cons_succ, List.getElem_cons_zero]
        go_simp
        go_at_call 18
        refine (C1.out _ _ _ SP_77.out _ _ SP_75.out).mono ?_
        rintro e u_81 ⟨v, rfl, hr⟩
        obtain ⟨⟨M_84, hM, ho⟩, hb⟩ := hr
        obtain ⟨a_82, c_83, hv, _⟩ := ho.form
        rw [← HNL.out] at ho hv
        subst hv
        have OS_85 := hide (And.intro hM ho)
        have E_86 := hide (show Below w_72.heap.size w_72 u_81 from hb)
        dsimp only
        refine hK.out _ _ ?_ (fun hHeld => ?_)
        · exact L8.keep4 hHeld hb (Nat.le_refl _)
        clear hK K hb ho hM
        try simp only [Act.put, List.setIfInBounds_toArray, List.set_cons_zero, List.set_cons_succ]
        have SP_87 := hide (SP_77.out.below (E_86.out))
        have SP_88 := hide (SP_75.out.below (E_86.out))
        have GZ_89 := hide (blk_kept GZ_78.out (E_86.out))
        have BB_90 := hide (BB_79.out.trans ((E_86.out).mono BB_79.out.size))
        have EC_91 := hide (EC_80.out.trans ((E_86.out).mono EC_80.out.size))
        refine wpAnyH_take (i := 5) (v := ?v11) rfl (by kernel_rfl) (by kernel_rfl) (by kernel_rfl) (fun _ _ _ h => by cases h.1) (Or.inl ⟨by rfl, ?y11⟩) (by assumption) ?r11
        case y11 => (intro w hSw; (try dsimp only at hSw); go_simp; try (with_reducible rfl))
        simp only [List.getElem_toArray, List.getElem_cons_succ, List.getElem_cons_zero, Act.put, List.setIfInBounds_toArray, List.set_cons_zero, List.set_cons_succ]
        refine wpAnyH_take (i := 6) (v := ?v12) rfl (by kernel_rfl) (by kernel_rfl) (by kernel_rfl) (fun _ _ _ h => by cases h.1) (Or.inl ⟨by rfl, ?y12⟩) (by assumption) ?r12
        case y12 => (intro w hSw; (try dsimp only at hSw); go_simp; try (with_reducible rfl))
        simp only [List.getElem_toArray, List.getElem_cons_succ, List.getElem_cons_zero, Act.put, List.setIfInBounds_toArray, List.set_cons_zero, List.set_cons_succ]
        refine wpAnyH_take (i := 7) (v := ?v13) rfl (by kernel_rfl) (by kernel_rfl) (by kernel_rfl) (fun _ _ _ h => by cases h.1) (Or.inl ⟨by rfl, ?y13⟩) (by assumption) ?r13
        case y13 => (intro w hSw; (try dsimp only at hSw); go_simp; try (with_reducible rfl))
        simp only [List.getElem_toArray, List.getElem_cons_succ, List.getElem_cons_zero, Act.put, List.setIfInBounds_toArray, List.set_cons_zero, List.set_cons_succ]
        refine wpAnyH_ready (rs := [9]) (by kernel_rfl) (by simp) ?_
        refine AllReadyH.cons rfl (fun K hK => ?_) AllReadyH.nil
        simp only [List.getElem_toArray, List.getElem_cons_succ, List.getElem_cons_zero]
        obtain ⟨z0, z1, f0, f1⟩ := blkp GZ_89.out
        go_simp
        obtain ⟨wS, hS⟩ : ∃ x, (u_81.setCell ⟨w_14.heap.size, 0, none⟩ (.slice a_82 nL c_83)).setCell ⟨w_14.heap.size, 1, none⟩ (.int .i64 T) = x := ⟨_, rfl⟩
        have GSB := hide (show wS.heap[w_14.heap.size]? = some (skO (.slice a_82 nL c_83) T) by rw [← hS]; exact set2 GZ_89.out)
        have hlt : w_14.heap.size < w_72.heap.size := (Array.getElem?_eq_some_iff.1 GZ_78.out).1
        have SLS := hide (show SlSI wS a_82 L by
          have h2 := ((OS_85.out.2.setC ⟨w_14.heap.size, 0, none⟩ (.slice a_82 nL c_83) hlt).setC ⟨w_14.heap.size, 1, none⟩ (.int .i64 T) hlt).sl
          rw [OS_85.out.1, hS] at h2
          exact h2)
        have hW : w_7.heap.size ≤ w_14.heap.size := EC_20.out.size
        have EC_92 := hide (show Below w_7.heap.size w_7 wS by rw [← hS]; exact (EC_91.out.setCell (p := ⟨w_14.heap.size, 0, none⟩) hW (.slice a_82 nL c_83)).setCell (p := ⟨w_14.heap.size, 1, none⟩) hW (.int .i64 T))
        rw [hS]
        refine hK.out _ _ ?_ (fun hHeld => ?_)
        · obtain ⟨h1, h2, _, _⟩ := blkp (blk_kept GA0.out (BB_8.out.trans (EC_92.out.mono BB_8.out.size)))
          obtain ⟨h3, h4, _, _⟩ := blkp (blk_kept GA1.out (BB_8.out.trans (EC_92.out.mono BB_8.out.size)))
          exact ⟨⟨h1, h2, h3, h4⟩, BB_8.out.trans (EC_92.out.mono BB_8.out.size)⟩
        clear hK K hW z0 z1 f0 f1
        try simp only [Act.put, List.setIfInBounds_toArray, List.set_cons_zero, List.set_cons_succ]
        refine wpAnyH_take (i := 10) (v := ?v14) rfl (by kernel_rfl) (by kernel_rfl) (by kernel_rfl) (fun _ _ _ h => by cases h.1) (Or.inl ⟨by rfl, ?y14⟩) (by assumption) ?r14
        case y14 => (intro w hSw; (try dsimp only at hSw); go_simp; try (with_reducible rfl))
        simp only [List.getElem_toArray, List.getElem_cons_succ, List.getElem_cons_zero, Act.put, List.setIfInBounds_toArray, List.set_cons_zero, List.set_cons_succ]
        refine wpAnyH_done (by kernel_rfl) ?_ _
        clear hHeld
        clear hS
        simp only [putJ, Act.put, List.setIfInBounds_toArray, List.set_cons_zero, List.set_cons_succ]
        exact ⟨trivial, _, _, _, _, _, _, _, _, _, rfl, w_14.heap.size, a_82, c_83, rfl, GSB.out, SLS.out, EC_92.out⟩
    · simp only [List.getElem_toArray, List.getElem_cons_succ, List.getElem_cons_zero]
      go_simp
      obtain ⟨w_93, hV⟩ : ∃ x, (w_7.alloc (.cells #[.slice none 0 0, .int .i64 0] 26)).drew = x := ⟨_, rfl⟩
      have E_94 := hide (show Below w_7.heap.size w_7 w_93 by rw [← hV]; exact ((Below.refl _ _).alloc (Nat.le_refl _) _).drew)
      have GZ_95 := hide (show w_93.heap[w_7.heap.size]? = some (skO (.slice none 0 0) 0) by rw [← hV]; exact L8.blk_new _ _)
      rw [hV]
      clear hV
      have BB_96 := hide (BB_8.out.trans ((E_94.out).mono BB_8.out.size))
      have EC_97 := hide (EC_13.out.trans ((E_94.out).mono EC_13.out.size))
      refine hK.out _ _ ?_ (fun hHeld => ?_)
      · exact ⟨⟨(E_94.out.cell (p := ⟨w.heap.size, 0, none⟩) (blk_ltO hHeld.1.1)).trans hHeld.1.1, (E_94.out.cell (p := ⟨w.heap.size, 1, none⟩) (blk_ltO hHeld.1.2.1)).trans hHeld.1.2.1, (E_94.out.cell (p := ⟨w.heap.size + 1, 0, none⟩) (blk_ltO hHeld.1.2.2.1)).trans hHeld.1.2.2.1, (E_94.out.cell (p := ⟨w.heap.size + 1, 1, none⟩) (blk_ltO hHeld.1.2.2.2)).trans hHeld.1.2.2.2⟩, BB_96.out⟩
      clear hK K
      try simp only [Act.put, List.setIfInBounds_toArray, List.set_cons_zero, List.set_cons_succ]
      refine wpAnyH_ready (rs := [1]) (by kernel_rfl) (by simp) ?_
      refine AllReadyH.cons rfl (fun K hK => ?_) AllReadyH.nil
      simp only [List.getElem_toArray, List.getElem_cons_succ, List.getElem_cons_zero]
      go_simp
      go_at_call 11
      refine (CT0.out _ hHeld.2).mono ?_
      rintro e w_98 ⟨g_99, rfl, ⟨M_100, hM, ho⟩, hb⟩
      have hsl := ho.sl
      rw [hM] at hsl
      have SP_101 := hide hsl
      have E_102 := hide (show Below w_93.heap.size w_93 w_98 from hb)
      dsimp only
      refine hK.out _ _ ?_ (fun hHeld => ?_)
      · exact L8.keep4 hHeld hb (Nat.le_refl _)
      clear hK K hb ho hM hsl
      try simp only [Act.put, List.setIfInBounds_toArray, List.set_cons_zero, List.set_cons_succ]
      have GZ_103 := hide (blk_kept GZ_95.out (E_102.out))
      have BB_104 := hide (BB_96.out.trans ((E_102.out).mono BB_96.out.size))
      have EC_105 := hide (EC_97.out.trans ((E_102.out).mono EC_97.out.size))
      refine wpAnyH_ready (rs := [3]) (by kernel_rfl) (by simp) ?_
      refine AllReadyH.cons rfl (fun K hK => ?_) AllReadyH.nil
      simp only [List.getElem_toArray, List.getElem_cons_succ, List.getElem_cons_zero]
      go_simp
      go_at_call 11
      refine (CT1.out _ hHeld.2).mono ?_
      rintro e w_106 ⟨g_107, rfl, ⟨M_108, hM, ho⟩, hb⟩
      have hsl := ho.sl
      rw [hM] at hsl
      have SP_109 := hide hsl
      have E_110 := hide (show Below w_98.heap.size w_98 w_106 from hb)
      dsimp only
      refine hK.out _ _ ?_ (fun hHeld => ?_)
      · exact L8.keep4 hHeld hb (Nat.le_refl _)
      clear hK K hb ho hM hsl
      try simp only [Act.put, List.setIfInBounds_toArray, List.set_cons_zero, List.set_cons_succ]
      have SP_111 := hide (SP_101.out.below (E_110.out))
      have GZ_112 := hide (blk_kept GZ_103.out (E_110.out))
      have BB_113 := hide (BB_104.out.trans ((E_110.out).mono BB_104.out.size))
      have EC_114 := hide (EC_105.out.trans ((E_110.out).mono EC_105.out.size))
      refine wpAnyH_ready (rs := [4]) (by kernel_rfl) (by simp) ?_
      refine AllReadyH.cons rfl (fun K hK => ?_) AllReadyH.nil
      simp only [List.getElem_toArray, List.getElem_cons_succ, List.getElem_cons_zero]
      go_simp
      go_at_call 18
      refine (C1.out _ _ _ SP_111.out _ _ SP_109.out).mono ?_
      rintro e u_115 ⟨v, rfl, hr⟩
      obtain ⟨⟨M_118, hM, ho⟩, hb⟩ := hr
      obtain ⟨a_116, c_117, hv, _⟩ := ho.form
      rw [← HNL.out] at ho hv
      subst hv
      have OS_119 := hide (And.intro hM ho)
      have E_120 := hide (show Below w_106.heap.size w_106 u_115 from hb)
      dsimp only
      refine hK.out _ _ ?_ (fun hHeld => ?_)
      · exact L8.keep4 hHeld hb (Nat.le_refl _)
      clear hK K hb ho hM
      try simp only [Act.put, List.setIfInBounds_toArray, List.set_cons_zero, List.set_cons_succ]
      have SP_121 := hide (SP_111.out.below (E_120.out))
      have SP_122 := hide (SP_109.out.below (E_120.out))
      have GZ_123 := hide (blk_kept GZ_112.out (E_120.out))
      have BB_124 := hide (BB_113.out.trans ((E_120.out).mono BB_113.out.size))
      have EC_125 := hide (EC_114.out.trans ((E_120.out).mono EC_114.out.size))
      refine wpAnyH_take (i := 5) (v := ?v15) rfl (by kernel_rfl) (by kernel_rfl) (by kernel_rfl) (fun _ _ _ h => by cases h.1) (Or.inl ⟨by rfl, ?y15⟩) (by assumption) ?r15
      case y15 => (intro w hSw; (try dsimp only at hSw); go_simp; try (with_reducible rfl))
      simp only [List.getElem_toArray, List.getElem_cons_succ, List.getElem_cons_zero, Act.put, List.setIfInBounds_toArray, List.set_cons_zero, List.set_cons_succ]
      refine wpAnyH_take (i := 6) (v := ?v16) rfl (by kernel_rfl) (by kernel_rfl) (by kernel_rfl) (fun _ _ _ h => by cases h.1) (Or.inl ⟨by rfl, ?y16⟩) (by assumption) ?r16
      case y16 => (intro w hSw; (try dsimp only at hSw); go_simp; try (with_reducible rfl))
      simp only [List.getElem_toArray, List.getElem_cons_succ, List.getElem_cons_zero, Act.put, List.setIfInBounds_toArray, List.set_cons_zero, List.set_cons_succ]
      refine wpAnyH_take (i := 7) (v := ?v17) rfl (by kernel_rfl) (by kernel_rfl) (by kernel_rfl) (fun _ _ _ h => by cases h.1) (Or.inl ⟨by rfl, ?y17⟩) (by assumption) ?r17
      case y17 => (intro w hSw; (try dsimp only at hSw); go_simp; try (with_reducible rfl))
      simp only [List.getElem_toArray, List.getElem_cons_succ, List.getElem_cons_zero, Act.put, List.setIfInBounds_toArray, List.set_cons_zero, List.set_cons_succ]
      refine wpAnyH_ready (rs := [9]) (by kernel_rfl) (by simp) ?_
      refine AllReadyH.cons rfl (fun K hK => ?_) AllReadyH.nil
      simp only [List.getElem_toArray, List.getElem_cons_succ, List.getElem_cons_zero]
      obtain ⟨z0, z1, f0, f1⟩ := blkp GZ_123.out
      go_simp
      obtain ⟨wS, hS⟩ : ∃ x, (u_115.setCell ⟨w_7.heap.size, 0, none⟩ (.slice a_116 nL c_117)).setCell ⟨w_7.heap.size, 1, none⟩ (.int .i64 T) = x := ⟨_, rfl⟩
      have GSB := hide (show wS.heap[w_7.heap.size]? = some (skO (.slice a_116 nL c_117) T) by rw [← hS]; exact set2 GZ_123.out)
      have hlt : w_7.heap.size < w_106.heap.size := (Array.getElem?_eq_some_iff.1 GZ_112.out).1
      have SLS := hide (show SlSI wS a_116 L by
        have h2 := ((OS_119.out.2.setC ⟨w_7.heap.size, 0, none⟩ (.slice a_116 nL c_117) hlt).setC ⟨w_7.heap.size, 1, none⟩ (.int .i64 T) hlt).sl
        rw [OS_119.out.1, hS] at h2
        exact h2)
      have hW : w_7.heap.size ≤ w_7.heap.size := EC_13.out.size
      have EC_126 := hide (show Below w_7.heap.size w_7 wS by rw [← hS]; exact (EC_125.out.setCell (p := ⟨w_7.heap.size, 0, none⟩) hW (.slice a_116 nL c_117)).setCell (p := ⟨w_7.heap.size, 1, none⟩) hW (.int .i64 T))
      rw [hS]
      refine hK.out _ _ ?_ (fun hHeld => ?_)
      · obtain ⟨h1, h2, _, _⟩ := blkp (blk_kept GA0.out (BB_8.out.trans (EC_126.out.mono BB_8.out.size)))
        obtain ⟨h3, h4, _, _⟩ := blkp (blk_kept GA1.out (BB_8.out.trans (EC_126.out.mono BB_8.out.size)))
        exact ⟨⟨h1, h2, h3, h4⟩, BB_8.out.trans (EC_126.out.mono BB_8.out.size)⟩
      clear hK K hW z0 z1 f0 f1
      try simp only [Act.put, List.setIfInBounds_toArray, List.set_cons_zero, List.set_cons_succ]
      refine wpAnyH_take (i := 10) (v := ?v18) rfl (by kernel_rfl) (by kernel_rfl) (by kernel_rfl) (fun _ _ _ h => by cases h.1) (Or.inl ⟨by rfl, ?y18⟩) (by assumption) ?r18
      case y18 => (intro w hSw; (try dsimp only at hSw); go_simp; try (with_reducible rfl))
      simp only [List.getElem_toArray, List.getElem_cons_succ, List.getElem_cons_zero, Act.put, List.setIfInBounds_toArray, List.set_cons_zero, List.set_cons_succ]
      refine wpAnyH_done (by kernel_rfl) ?_ _
      clear hHeld
      clear hS
      simp only [putJ, Act.put, List.setIfInBounds_toArray, List.set_cons_zero, List.set_cons_succ]
      exact ⟨trivial, _, _, _, _, _, _, _, _, _, rfl, w_7.heap.size, a_116, c_117, rfl, GSB.out, SLS.out, EC_126.out⟩
  intro v_131 v_132 v_133 v_134 v_135 v_136 v_137 v_138 v_139 wS_130 hR
  obtain ⟨bS_127, aS_128, cS_129, rfl, hbx, hsl, hb⟩ := hR
  clear k_9 k_10 k_11 k_12
  simp only [putJ, Act.put, List.setIfInBounds_toArray, List.set_cons_zero, List.set_cons_succ]
  have GSB := hide hbx
  have SLS := hide hsl
  have BB_140 := hide (BB_8.out.trans (hb.mono BB_8.out.size))
  clear BB_8
  clear hb hbx hsl
  have BS := hide (Below.refl wS_130.heap.size wS_130)
  have LBX0 := hide BB_140.out.size
  have SLBX0 := hide BS.out.size
  obtain ⟨k_144, k_145, _, _⟩ := blkp (blk_kept GA0.out BB_140.out)
  go_wp2_with fail
  refine (CT0.out _ BB_140.out).mono ?_
  rintro e w_141 ⟨g_142, rfl, ⟨M_143, hM, ho⟩, hb⟩
  clear k_144 k_145
  have hr : RH wS_130 w_141 _ z0 := ⟨⟨M_143, hM, by rw [HN0.out]; exact ho⟩, hb⟩
  clear hM ho hb
  have HNX0 := hide HN0.out.symm
  obtain ⟨⟨aX0_146, cX0_147, MX0_148, hv, hG⟩, hb⟩ := hg_made B0 hr
  rw [← HNX0.out] at hv hG
  obtain ⟨rfl, _, rfl⟩ := Value.slice.inj hv
  clear hv
  obtain ⟨w_149, hwA⟩ : ∃ x, x = w_141.alloc (skO (.slice (some ⟨g_142, 0, none⟩) len0 len0) B0) := ⟨_, rfl⟩
  obtain ⟨bX0_150, hb1⟩ : ∃ x, x = w_141.heap.size := ⟨_, rfl⟩
  have hA := hb.alloc hb.size (skO (.slice (some ⟨g_142, 0, none⟩) len0 len0) B0)
  rw [← hwA] at hG hA
  rw [← hb1] at hG
  have HW_151 := hide hwA
  have HB_152 := hide hb1
  have GX0_153 := hide hG
  have BB_154 := hide (BB_140.out.trans (hA.mono BB_140.out.size))
  clear BB_140
  have BS_155 := hide (BS.out.trans (hA.mono BS.out.size))
  clear BS
  clear hwA hb1 hG hA hb hr
  go_upto_region 10 with fail
  rw [← HW_151.out, ← HB_152.out]
  have LBX1 := hide BB_154.out.size
  have SLBX1 := hide BS_155.out.size
  have LTX0X1 := hide GX0_153.out.lt
  obtain ⟨k_159, k_160, _, _⟩ := blkp (blk_kept GA1.out BB_154.out)
  go_wp2_with fail
  refine (CT1.out _ BB_154.out).mono ?_
  rintro e w_156 ⟨g_157, rfl, ⟨M_158, hM, ho⟩, hb⟩
  clear k_159 k_160
  have hr : RH w_149 w_156 _ z1 := ⟨⟨M_158, hM, by rw [HN1.out]; exact ho⟩, hb⟩
  clear hM ho hb
  have HNX1 := hide HN1.out.symm
  obtain ⟨⟨aX1_161, cX1_162, MX1_163, hv, hG⟩, hb⟩ := hg_made B1 hr
  rw [← HNX1.out] at hv hG
  obtain ⟨rfl, _, rfl⟩ := Value.slice.inj hv
  clear hv
  obtain ⟨w_164, hwA⟩ : ∃ x, x = w_156.alloc (skO (.slice (some ⟨g_157, 0, none⟩) len1 len1) B1) := ⟨_, rfl⟩
  obtain ⟨bX1_165, hb1⟩ : ∃ x, x = w_156.heap.size := ⟨_, rfl⟩
  have hA := hb.alloc hb.size (skO (.slice (some ⟨g_157, 0, none⟩) len1 len1) B1)
  rw [← hwA] at hG hA
  rw [← hb1] at hG
  have HW_166 := hide hwA
  have HB_167 := hide hb1
  have GX1_168 := hide hG
  have GX0_169 := hide (GX0_153.out.below hA)
  clear GX0_153
  have BB_170 := hide (BB_154.out.trans (hA.mono BB_154.out.size))
  clear BB_154
  have BS_171 := hide (BS_155.out.trans (hA.mono BS_155.out.size))
  clear BS_155
  clear hwA hb1 hG hA hb hr
  go_upto_region 11 with fail
  rw [← HW_166.out, ← HB_167.out]
  have LBG := hide BB_170.out.size
  have SLBG := hide BS_171.out.size
  have LTX0G := hide GX0_169.out.lt
  have LTX1G := hide GX1_168.out.lt
  obtain ⟨k_172, k_173, _, _⟩ := blkp GX0_169.out.box
  obtain ⟨k_174, k_175, _, _⟩ := blkp GX1_168.out.box
  go_wp2_with fail
  refine (C2.out _ _ _ GX0_169.out.sl _ _ GX1_168.out.sl).mono ?_
  rintro e u_176 ⟨v, rfl, hr⟩
  clear k_172 k_173 k_174 k_175
  obtain ⟨⟨aG_177, cG_178, MG_179, hv, hG⟩, hb⟩ := hg_made T hr
  rw [← HNL.out] at hv hG
  subst hv
  obtain ⟨w_180, hwA⟩ : ∃ x, x = u_176.alloc (skO (.slice aG_177 nL cG_178) T) := ⟨_, rfl⟩
  obtain ⟨bG_181, hb1⟩ : ∃ x, x = u_176.heap.size := ⟨_, rfl⟩
  have hA := hb.alloc hb.size (skO (.slice aG_177 nL cG_178) T)
  rw [← hwA] at hG hA
  rw [← hb1] at hG
  have HW_182 := hide hwA
  have HB_183 := hide hb1
  have GG_184 := hide hG
  have GX0_185 := hide (GX0_169.out.below hA)
  clear GX0_169
  have GX1_186 := hide (GX1_168.out.below hA)
  clear GX1_168
  have BB_187 := hide (BB_170.out.trans (hA.mono BB_170.out.size))
  clear BB_170
  have BS_188 := hide (BS_171.out.trans (hA.mono BS_171.out.size))
  clear BS_171
  clear hwA hb1 hG hA hb hr
  go_upto_region 12 with fail
  rw [← HW_182.out, ← HB_183.out]
  obtain ⟨k_189, k_190, _, _⟩ := blkp GG_184.out.box
  obtain ⟨k_191, k_192, _, _⟩ := blkp (blk_kept GSB.out BS_188.out)
  go_wp2_with fail
  refine (CE.out _ _ _ _ _ GG_184.out.sl (SLS.out.below BS_188.out)).mono ?_
  rintro e w_193 ⟨rfl, hb⟩
  clear k_189 k_190 k_191 k_192
  have GX0_194 := hide (GX0_185.out.below hb)
  clear GX0_185
  have GX1_195 := hide (GX1_186.out.below hb)
  clear GX1_186
  have GG_196 := hide (GG_184.out.below hb)
  clear GG_184
  have BB_197 := hide (BB_187.out.trans (hb.mono BB_187.out.size))
  clear BB_187
  have BS_198 := hide (BS_188.out.trans (hb.mono BS_188.out.size))
  clear BS_188
  clear hb
  obtain ⟨k_199, k_200, _, _⟩ := blkp (blk_kept GA0.out BB_197.out)
  obtain ⟨k_201, k_202, _, _⟩ := blkp GX0_194.out.box
  go_upto_region 14 with fail
  refine wp_region_held_drew (S := (fun wx => (wx.cell? ⟨w.heap.size, 0, none⟩ = some (.slice a0 len0 cap0) ∧ wx.cell? ⟨w.heap.size, 1, none⟩ = some (.int .i64 B0) ∧ wx.cell? ⟨bX0_150, 0, none⟩ = some (.slice (some ⟨g_142, 0, none⟩) len0 len0) ∧ wx.cell? ⟨bX0_150, 1, none⟩ = some (.int .i64 B0)) ∧ Below w_193.heap.size w_193 wx)) (by kernel_rfl) ⟨⟨k_199, k_200, k_201, k_202⟩, (Below.refl _ _).drew⟩ (fun hHeld => ?_)
  refine wpAnyH_take (i := 0) (v := ?v19) rfl (by kernel_rfl) (by kernel_rfl) (by kernel_rfl) (fun _ _ _ h => h) (Or.inl ⟨by rfl, ?y19⟩) (by assumption) ?r19
  case y19 => (intro w hSw; (try dsimp only at hSw); go_simp; try (with_reducible rfl))
  simp only [List.getElem_toArray, List.getElem_cons_zero, Act.put, List.setIfInBounds_toArray, List.set_cons_zero, List.set_cons_succ]
  refine wpAnyH_take (i := 1) (v := ?v20) rfl (by kernel_rfl) (by kernel_rfl) (by kernel_rfl) (fun _ _ _ h => h) (Or.inl ⟨by rfl, ?y20⟩) (by assumption) ?r20
  case y20 => (intro w hSw; (try dsimp only at hSw); go_simp; try (with_reducible rfl))
  simp only [List.getElem_toArray, List.getElem_cons_succ, List.getElem_cons_zero, Act.put, List.setIfInBounds_toArray, List.set_cons_zero, List.set_cons_succ]
  refine wpAnyH_ready (rs := [2]) (by kernel_rfl) (by simp) ?_
  refine AllReadyH.cons rfl (fun K hK => ?_) AllReadyH.nil
  simp only [List.getElem_toArray, List.getElem_cons_succ, List.getElem_cons_zero]
  go_simp
  go_at_call 11
  refine (CT0.out _ (BB_197.out.trans (hHeld.2.mono BB_197.out.size))).mono ?_
  rintro e w_203 ⟨g_205, rfl, ⟨M_206, hMt, hot⟩, hbt⟩
  have St := hot.sl
  rw [hMt] at St
  have HSt := hide St
  clear St hot hMt
  dsimp only
  refine hK.out _ _ ?_ (fun hHeld => ?_)
  · exact L8.keep4 hHeld hbt (Nat.le_refl _)
  clear hK K
  try simp only [Act.put, List.setIfInBounds_toArray, List.set_cons_zero, List.set_cons_succ]
  refine wpAnyH_ready (rs := [3]) (by kernel_rfl) (by simp) ?_
  refine AllReadyH.cons rfl (fun K hK => ?_) AllReadyH.nil
  simp only [List.getElem_toArray, List.getElem_cons_succ, List.getElem_cons_zero]
  go_simp
  go_at_call 13
  refine (CEX0.out _ _ _ _ _ (GX0_194.out.below hHeld.2).sl HSt.out).mono ?_
  rintro e w_204 ⟨rfl, hbu⟩
  dsimp only
  refine hK.out _ _ ?_ (fun hHeld => ?_)
  · exact L8.keep4 (by assumption) hbu (Nat.le_refl _)
  clear hK K
  try simp only [Act.put, List.setIfInBounds_toArray, List.set_cons_zero, List.set_cons_succ]
  refine wpAnyH_take (i := 4) (v := ?v21) rfl (by kernel_rfl) (by kernel_rfl) (by kernel_rfl) (fun _ _ _ h => h) (Or.inl ⟨by rfl, ?y21⟩) (by assumption) ?r21
  case y21 => (intro w hSw; (try dsimp only at hSw); go_simp; try (with_reducible rfl))
  simp only [List.getElem_toArray, List.getElem_cons_succ, List.getElem_cons_zero, Act.put, List.setIfInBounds_toArray, List.set_cons_zero, List.set_cons_succ]
  refine wpAnyH_done (by kernel_rfl) ?_ _
  have hb := hHeld.2
  clear hHeld k_199 k_200 k_201 k_202
  have GX0_207 := hide (GX0_194.out.below hb)
  clear GX0_194
  have GX1_208 := hide (GX1_195.out.below hb)
  clear GX1_195
  have GG_209 := hide (GG_196.out.below hb)
  clear GG_196
  have BB_210 := hide (BB_197.out.trans (hb.mono BB_197.out.size))
  clear BB_197
  have BS_211 := hide (BS_198.out.trans (hb.mono BS_198.out.size))
  clear BS_198
  clear hb
  obtain ⟨k_212, k_213, _, _⟩ := blkp (blk_kept GA1.out BB_210.out)
  obtain ⟨k_214, k_215, _, _⟩ := blkp GX1_208.out.box
  go_upto_region 16 with fail
  refine wp_region_held_drew (S := (fun wx => (wx.cell? ⟨(w.heap.size + 1), 0, none⟩ = some (.slice a1 len1 cap1) ∧ wx.cell? ⟨(w.heap.size + 1), 1, none⟩ = some (.int .i64 B1) ∧ wx.cell? ⟨bX1_165, 0, none⟩ = some (.slice (some ⟨g_157, 0, none⟩) len1 len1) ∧ wx.cell? ⟨bX1_165, 1, none⟩ = some (.int .i64 B1)) ∧ Below w_204.heap.size w_204 wx)) (by kernel_rfl) ⟨⟨k_212, k_213, k_214, k_215⟩, (Below.refl _ _).drew⟩ (fun hHeld => ?_)
  refine wpAnyH_take (i := 0) (v := ?v22) rfl (by kernel_rfl) (by kernel_rfl) (by kernel_rfl) (fun _ _ _ h => h) (Or.inl ⟨by rfl, ?y22⟩) (by assumption) ?r22
  case y22 => (intro w hSw; (try dsimp only at hSw); go_simp; try (with_reducible rfl))
  simp only [List.getElem_toArray, List.getElem_cons_zero, Act.put, List.setIfInBounds_toArray, List.set_cons_zero, List.set_cons_succ]
  refine wpAnyH_take (i := 1) (v := ?v23) rfl (by kernel_rfl) (by kernel_rfl) (by kernel_rfl) (fun _ _ _ h => h) (Or.inl ⟨by rfl, ?y23⟩) (by assumption) ?r23
  case y23 => (intro w hSw; (try dsimp only at hSw); go_simp; try (with_reducible rfl))
  simp only [List.getElem_toArray, List.getElem_cons_succ, List.getElem_cons_zero, Act.put, List.setIfInBounds_toArray, List.set_cons_zero, List.set_cons_succ]
  refine wpAnyH_ready (rs := [2]) (by kernel_rfl) (by simp) ?_
  refine AllReadyH.cons rfl (fun K hK => ?_) AllReadyH.nil
  simp only [List.getElem_toArray, List.getElem_cons_succ, List.getElem_cons_zero]
  go_simp
  go_at_call 11
  refine (CT1.out _ (BB_210.out.trans (hHeld.2.mono BB_210.out.size))).mono ?_
  rintro e w_216 ⟨g_218, rfl, ⟨M_219, hMt, hot⟩, hbt⟩
  have St := hot.sl
  rw [hMt] at St
  have HSt := hide St
  clear St hot hMt
  dsimp only
  refine hK.out _ _ ?_ (fun hHeld => ?_)
  · exact L8.keep4 hHeld hbt (Nat.le_refl _)
  clear hK K
  try simp only [Act.put, List.setIfInBounds_toArray, List.set_cons_zero, List.set_cons_succ]
  refine wpAnyH_ready (rs := [3]) (by kernel_rfl) (by simp) ?_
  refine AllReadyH.cons rfl (fun K hK => ?_) AllReadyH.nil
  simp only [List.getElem_toArray, List.getElem_cons_succ, List.getElem_cons_zero]
  go_simp
  go_at_call 13
  refine (CEX1.out _ _ _ _ _ (GX1_208.out.below hHeld.2).sl HSt.out).mono ?_
  rintro e w_217 ⟨rfl, hbu⟩
  dsimp only
  refine hK.out _ _ ?_ (fun hHeld => ?_)
  · exact L8.keep4 (by assumption) hbu (Nat.le_refl _)
  clear hK K
  try simp only [Act.put, List.setIfInBounds_toArray, List.set_cons_zero, List.set_cons_succ]
  refine wpAnyH_take (i := 4) (v := ?v24) rfl (by kernel_rfl) (by kernel_rfl) (by kernel_rfl) (fun _ _ _ h => h) (Or.inl ⟨by rfl, ?y24⟩) (by assumption) ?r24
  case y24 => (intro w hSw; (try dsimp only at hSw); go_simp; try (with_reducible rfl))
  simp only [List.getElem_toArray, List.getElem_cons_succ, List.getElem_cons_zero, Act.put, List.setIfInBounds_toArray, List.set_cons_zero, List.set_cons_succ]
  refine wpAnyH_done (by kernel_rfl) ?_ _
  have hb := hHeld.2
  clear hHeld k_212 k_213 k_214 k_215
  have GX0_220 := hide (GX0_207.out.below hb)
  clear GX0_207
  have GX1_221 := hide (GX1_208.out.below hb)
  clear GX1_208
  have GG_222 := hide (GG_209.out.below hb)
  clear GG_209
  have BB_223 := hide (BB_210.out.trans (hb.mono BB_210.out.size))
  clear BB_210
  have BS_224 := hide (BS_211.out.trans (hb.mono BS_211.out.size))
  clear BS_211
  clear hb
  obtain ⟨k_225, k_226, _, _⟩ := blkp GX0_220.out.box
  go_wp2_with fail
  refine (CMX0.out (wS_130.heap.size) bX0_150 _ _ _ GX0_220.out.eq GX0_220.out.inr GX0_220.out.ow).mono ?_
  rintro e w_227 ⟨rfl, ⟨M_228, hM', how', hsame⟩, hon⟩
  clear k_225 k_226
  have GX0_229 := hide (GX0_220.out.marked hon how' hsame hM')
  have GG_230 := hide (GG_222.out.only hon (.inr (Nat.le_of_lt LTX0G.out)))
  clear GG_222
  have GX1_231 := hide (GX1_221.out.only hon (.inr (Nat.le_of_lt LTX0X1.out)))
  clear GX1_221
  have hbl := hon.below (by have := GX0_220.out.bs; have := GX0_220.out.lt; omega)
  have BB_232 := hide (BB_223.out.trans (hbl.mono LBX0.out))
  have BS_233 := hide (BS_224.out.trans (hbl.mono SLBX0.out))
  clear hon how' hsame hM' hbl GX0_220 BB_223 BS_224
  obtain ⟨k_234, k_235, _, _⟩ := blkp GX1_231.out.box
  go_wp2_with fail
  refine (CMX1.out (w_149.heap.size) bX1_165 _ _ _ GX1_231.out.eq GX1_231.out.inr GX1_231.out.ow).mono ?_
  rintro e w_236 ⟨rfl, ⟨M_237, hM', how', hsame⟩, hon⟩
  clear k_234 k_235
  have GX1_238 := hide (GX1_231.out.marked hon how' hsame hM')
  have GG_239 := hide (GG_230.out.only hon (.inr (Nat.le_of_lt LTX1G.out)))
  clear GG_230
  have GX0_240 := hide (GX0_229.out.only hon (.inl (LTX0X1.out)))
  clear GX0_229
  have hbl := hon.below (by have := GX1_231.out.bs; have := GX1_231.out.lt; omega)
  have BB_241 := hide (BB_232.out.trans (hbl.mono LBX1.out))
  have BS_242 := hide (BS_233.out.trans (hbl.mono SLBX1.out))
  clear hon how' hsame hM' hbl GX1_231 BB_232 BS_233
  obtain ⟨k_243, k_244, _, _⟩ := blkp GG_239.out.box
  obtain ⟨k_245, k_246, _, _⟩ := blkp (blk_kept GSB.out BS_242.out)
  go_wp2_with fail
  refine (CE.out _ _ _ _ _ GG_239.out.sl (SLS.out.below BS_242.out)).mono ?_
  rintro e w_247 ⟨rfl, hb⟩
  clear k_243 k_244 k_245 k_246
  have GX0_248 := hide (GX0_240.out.below hb)
  clear GX0_240
  have GX1_249 := hide (GX1_238.out.below hb)
  clear GX1_238
  have GG_250 := hide (GG_239.out.below hb)
  clear GG_239
  have BB_251 := hide (BB_241.out.trans (hb.mono BB_241.out.size))
  clear BB_241
  have BS_252 := hide (BS_242.out.trans (hb.mono BS_242.out.size))
  clear BS_242
  clear hb
  obtain ⟨k_253, k_254, _, _⟩ := blkp GG_250.out.box
  go_wp2_with fail
  refine (CM.out (w_164.heap.size) bG_181 _ _ _ GG_250.out.eq GG_250.out.inr GG_250.out.ow).mono ?_
  rintro e w_255 ⟨rfl, ⟨M_256, hM', how', hsame⟩, hon⟩
  clear k_253 k_254
  have GG_257 := hide (GG_250.out.marked hon how' hsame hM')
  have GX0_258 := hide (GX0_248.out.only hon (.inl (LTX0G.out)))
  clear GX0_248
  have GX1_259 := hide (GX1_249.out.only hon (.inl (LTX1G.out)))
  clear GX1_249
  have hbl := hon.below (by have := GG_250.out.bs; have := GG_250.out.lt; omega)
  have BB_260 := hide (BB_251.out.trans (hbl.mono LBG.out))
  have BS_261 := hide (BS_252.out.trans (hbl.mono SLBG.out))
  clear hon how' hsame hM' hbl GG_250 BB_251 BS_252
  clear GX0_258
  clear GX1_259
  obtain ⟨k_262, k_263, _, _⟩ := blkp GG_257.out.box
  go_wp2_with fail
  refine (CH.out _ _ _ GG_257.out.sl).mono ?_
  rintro e w_264 ⟨rfl, hb⟩
  clear k_262 k_263
  have GG_265 := hide (GG_257.out.below hb)
  clear GG_257
  have BB_266 := hide (BB_260.out.trans (hb.mono BB_260.out.size))
  clear BB_260
  have BS_267 := hide (BS_261.out.trans (hb.mono BS_261.out.size))
  clear BS_261
  clear hb
  obtain ⟨k_268, k_269, _, _⟩ := blkp (blk_kept GA0.out BB_266.out)
  obtain ⟨k_270, k_271, _, _⟩ := blkp (blk_kept GA1.out BB_266.out)
  go_upto_region 31 with fail
  refine wp_putJ 94 95 96 97 98 99 100 101 15 16 (.bool ok) (fun v wS => ∃ b a c, v = .pointer (some ⟨b, 0, none⟩) ∧ wS.heap[b]? = some (skO (.slice a nL c) T) ∧ SlSI wS a L ∧ Below w_264.heap.size w_264 wS) ?_ ?_
  · refine wp_region_held_drew (S := (fun wx => (wx.cell? ⟨w.heap.size, 0, none⟩ = some (.slice a0 len0 cap0) ∧ wx.cell? ⟨w.heap.size, 1, none⟩ = some (.int .i64 B0) ∧ wx.cell? ⟨w.heap.size + 1, 0, none⟩ = some (.slice a1 len1 cap1) ∧ wx.cell? ⟨w.heap.size + 1, 1, none⟩ = some (.int .i64 B1)) ∧ Below W0.heap.size W0 wx)) (by kernel_rfl) ⟨⟨k_268, k_269, k_270, k_271⟩, BB_266.out.drew⟩ (fun hHeld => ?_)
    clear k_268 k_269 k_270 k_271
    refine wpAnyH_take (i := 0) (v := ?v25) rfl (by kernel_rfl) (by kernel_rfl) (by kernel_rfl) (fun _ _ _ h => by cases h.1) (Or.inl ⟨by rfl, ?y25⟩) (by assumption) ?r25
    case y25 => (intro w hSw; (try dsimp only at hSw); go_simp; try (with_reducible rfl))
    simp only [List.getElem_toArray, List.getElem_cons_zero, Act.put, List.setIfInBounds_toArray, List.set_cons_zero, List.set_cons_succ]
    refine wpAnyH_take (i := 2) (v := ?v26) rfl (by kernel_rfl) (by kernel_rfl) (by kernel_rfl) (fun _ _ _ h => by cases h.1) (Or.inl ⟨by rfl, ?y26⟩) (by assumption) ?r26
    case y26 => (intro w hSw; (try dsimp only at hSw); go_simp; try (with_reducible rfl))
    simp only [List.getElem_toArray, List.getElem_cons_succ, List.getElem_cons_zero, Act.put, List.setIfInBounds_toArray, List.set_cons_zero, List.set_cons_succ]
    have EC_272 := hide (Below.refl w_264.heap.size w_264)
    refine wpAnyH_ready (rs := [1, 8]) (by kernel_rfl) (by simp) ?_
    refine AllReadyH.cons rfl (fun K hK => ?_) (AllReadyH.cons rfl (fun K hK => ?_) AllReadyH.nil)
    · simp only [List.getElem_toArray, List.getElem_cons_succ, List.getElem_cons_zero]
      go_simp
      go_at_call 11
      refine (CT0.out _ hHeld.2).mono ?_
      rintro e w_273 ⟨g_274, rfl, ⟨M_275, hM, ho⟩, hb⟩
      have hsl := ho.sl
      rw [hM] at hsl
      have SP_276 := hide hsl
      have E_277 := hide (show Below w_264.heap.size w_264 w_273 from (Below.refl w_264.heap.size w_264).drew.trans (hb.mono (Nat.le_refl _)))
      dsimp only
      refine hK.out _ _ ?_ (fun hHeld => ?_)
      · exact L8.keep4 hHeld hb (Nat.le_refl _)
      clear hK K hb ho hM hsl
      try simp only [Act.put, List.setIfInBounds_toArray, List.set_cons_zero, List.set_cons_succ]
      have BB_278 := hide (BB_266.out.trans ((E_277.out).mono BB_266.out.size))
      have EC_279 := hide (EC_272.out.trans ((E_277.out).mono EC_272.out.size))
      refine wpAnyH_ready (rs := [3, 8]) (by kernel_rfl) (by simp) ?_
      refine AllReadyH.cons rfl (fun K hK => ?_) (AllReadyH.cons rfl (fun K hK => ?_) AllReadyH.nil)
      · simp only [List.getElem_toArray, List.getElem_cons_succ, List.getElem_cons_zero]
        go_simp
        go_at_call 11
        refine (CT1.out _ hHeld.2).mono ?_
        rintro e w_280 ⟨g_281, rfl, ⟨M_282, hM, ho⟩, hb⟩
        have hsl := ho.sl
        rw [hM] at hsl
        have SP_283 := hide hsl
        have E_284 := hide (show Below w_273.heap.size w_273 w_280 from hb)
        dsimp only
        refine hK.out _ _ ?_ (fun hHeld => ?_)
        · exact L8.keep4 hHeld hb (Nat.le_refl _)
        clear hK K hb ho hM hsl
        try simp only [Act.put, List.setIfInBounds_toArray, List.set_cons_zero, List.set_cons_succ]
        have SP_285 := hide (SP_276.out.below (E_284.out))
        have BB_286 := hide (BB_278.out.trans ((E_284.out).mono BB_278.out.size))
        have EC_287 := hide (EC_279.out.trans ((E_284.out).mono EC_279.out.size))
        refine wpAnyH_ready (rs := [4, 8]) (by kernel_rfl) (by simp) ?_
        refine AllReadyH.cons rfl (fun K hK => ?_) (AllReadyH.cons rfl (fun K hK => ?_) AllReadyH.nil)
        · simp only [List.getElem_toArray, List.getElem_cons_succ, List.getElem_cons_zero]
          go_simp
          go_at_call 19
          refine (C2.out _ _ _ SP_285.out _ _ SP_283.out).mono ?_
          rintro e u_288 ⟨v, rfl, hr⟩
          obtain ⟨⟨M_291, hM, ho⟩, hb⟩ := hr
          obtain ⟨a_289, c_290, hv, _⟩ := ho.form
          rw [← HNL.out] at ho hv
          subst hv
          have OS_292 := hide (And.intro hM ho)
          have E_293 := hide (show Below w_280.heap.size w_280 u_288 from hb)
          dsimp only
          refine hK.out _ _ ?_ (fun hHeld => ?_)
          · exact L8.keep4 hHeld hb (Nat.le_refl _)
          clear hK K hb ho hM
          try simp only [Act.put, List.setIfInBounds_toArray, List.set_cons_zero, List.set_cons_succ]
          have SP_294 := hide (SP_285.out.below (E_293.out))
          have SP_295 := hide (SP_283.out.below (E_293.out))
          have BB_296 := hide (BB_286.out.trans ((E_293.out).mono BB_286.out.size))
          have EC_297 := hide (EC_287.out.trans ((E_293.out).mono EC_287.out.size))
          refine wpAnyH_take (i := 5) (v := ?v27) rfl (by kernel_rfl) (by kernel_rfl) (by kernel_rfl) (fun _ _ _ h => by cases h.1) (Or.inl ⟨by rfl, ?y27⟩) (by assumption) ?r27
          case y27 => (intro w hSw; (try dsimp only at hSw); go_simp; try (with_reducible rfl))
          simp only [List.getElem_toArray, List.getElem_cons_succ, List.getElem_cons_zero, Act.put, List.setIfInBounds_toArray, List.set_cons_zero, List.set_cons_succ]
          refine wpAnyH_take (i := 6) (v := ?v28) rfl (by kernel_rfl) (by kernel_rfl) (by kernel_rfl) (fun _ _ _ h => by cases h.1) (Or.inl ⟨by rfl, ?y28⟩) (by assumption) ?r28
          case y28 => (intro w hSw; (try dsimp only at hSw); go_simp; try (with_reducible rfl))
          simp only [List.getElem_toArray, List.getElem_cons_succ, List.getElem_cons_zero, Act.put, List.setIfInBounds_toArray, List.set_cons_zero, List.set_cons_succ]
          refine wpAnyH_take (i := 7) (v := ?v29) rfl (by kernel_rfl) (by kernel_rfl) (by kernel_rfl) (fun _ _ _ h => by cases h.1) (Or.inl ⟨by rfl, ?y29⟩) (by assumption) ?r29
          case y29 => (intro w hSw; (try dsimp only at hSw); go_simp; try (with_reducible rfl))
          simp only [List.getElem_toArray, List.getElem_cons_succ, List.getElem_cons_zero, Act.put, List.setIfInBounds_toArray, List.set_cons_zero, List.set_cons_succ]
          refine wpAnyH_ready (rs := [8]) (by kernel_rfl) (by simp) ?_
          refine AllReadyH.cons rfl (fun K hK => ?_) AllReadyH.nil
          simp only [List.getElem_toArray, List.getElem_cons_succ, List.getElem_cons_zero]
          go_simp
          obtain ⟨w_298, hV⟩ : ∃ x, u_288.alloc (.cells #[.slice none 0 0, .int .i64 0] 26) = x := ⟨_, rfl⟩
          have E_299 := hide (show Below u_288.heap.size u_288 w_298 by rw [← hV]; exact ((Below.refl _ _).alloc (Nat.le_refl _) _))
          have GZ_300 := hide (show w_298.heap[u_288.heap.size]? = some (skO (.slice none 0 0) 0) by rw [← hV]; exact L8.blk_new _ _)
          rw [hV]
          clear hV
          have SP_301 := hide (SP_294.out.below (E_299.out))
          have SP_302 := hide (SP_295.out.below (E_299.out))
          have BB_303 := hide (BB_296.out.trans ((E_299.out).mono BB_296.out.size))
          have EC_304 := hide (EC_297.out.trans ((E_299.out).mono EC_297.out.size))
          refine hK.out _ _ ?_ (fun hHeld => ?_)
          · exact ⟨⟨(E_299.out.cell (p := ⟨w.heap.size, 0, none⟩) (blk_ltO hHeld.1.1)).trans hHeld.1.1, (E_299.out.cell (p := ⟨w.heap.size, 1, none⟩) (blk_ltO hHeld.1.2.1)).trans hHeld.1.2.1, (E_299.out.cell (p := ⟨w.heap.size + 1, 0, none⟩) (blk_ltO hHeld.1.2.2.1)).trans hHeld.1.2.2.1, (E_299.out.cell (p := ⟨w.heap.size + 1, 1, none⟩) (blk_ltO hHeld.1.2.2.2)).trans hHeld.1.2.2.2⟩, BB_303.out⟩
          clear hK K
          try simp only [Act.put, List.setIfInBounds_toArray, List.set_cons_zero, List.set_cons_succ]
          refine wpAnyH_ready (rs := [9]) (by kernel_rfl) (by simp) ?_
          refine AllReadyH.cons rfl (fun K hK => ?_) AllReadyH.nil
          simp only [List.getElem_toArray, List.getElem_cons_succ, List.getElem_cons_zero]
          obtain ⟨z0, z1, f0, f1⟩ := blkp GZ_300.out
          go_simp
          obtain ⟨wS, hS⟩ : ∃ x, (w_298.setCell ⟨u_288.heap.size, 0, none⟩ (.slice a_289 nL c_290)).setCell ⟨u_288.heap.size, 1, none⟩ (.int .i64 T) = x := ⟨_, rfl⟩
          have GSB := hide (show wS.heap[u_288.heap.size]? = some (skO (.slice a_289 nL c_290) T) by rw [← hS]; exact set2 GZ_300.out)
          have SLS := hide (show SlSI wS a_289 L by
            have h1 := OS_292.out.2.inR
            have st : ∀ {q m : Nat} {t : TypeId} {u : Value} {xs : List Value}, w_298.ownsRow w_280.heap.size t q u m xs → (∀ g, u.ownBlock = some g → g < u_288.heap.size) → wS.ownsRow w_280.heap.size t q u m xs := fun ho hl => own_at ho (fun g hg => by rw [← hS]; exact ((Below.heap_setCell _ _ _ _ (by have := hl g hg; show g ≠ u_288.heap.size; omega)).trans (Below.heap_setCell _ _ _ _ (by have := hl g hg; show g ≠ u_288.heap.size; omega))))
            have h2 := (OwR.sl (w := wS) (base := w_280.heap.size) ⟨OS_292.out.2.len, st (own_belO OS_292.out.2.row E_299.out) h1.row, fun i hi => st (own_belO (OS_292.out.2.idx i hi) E_299.out) (h1.idx i hi), OS_292.out.2.apart⟩)
            rw [OS_292.out.1] at h2
            exact h2)
          have hW : w_264.heap.size ≤ u_288.heap.size := EC_297.out.size
          have EC_305 := hide (show Below w_264.heap.size w_264 wS by rw [← hS]; exact (EC_304.out.setCell (p := ⟨u_288.heap.size, 0, none⟩) hW (.slice a_289 nL c_290)).setCell (p := ⟨u_288.heap.size, 1, none⟩) hW (.int .i64 T))
          rw [hS]
          refine hK.out _ _ ?_ (fun hHeld => ?_)
          · obtain ⟨h1, h2, _, _⟩ := blkp (blk_kept GA0.out (BB_266.out.trans (EC_305.out.mono BB_266.out.size)))
            obtain ⟨h3, h4, _, _⟩ := blkp (blk_kept GA1.out (BB_266.out.trans (EC_305.out.mono BB_266.out.size)))
            exact ⟨⟨h1, h2, h3, h4⟩, BB_266.out.trans (EC_305.out.mono BB_266.out.size)⟩
          clear hK K hW z0 z1 f0 f1
          try simp only [Act.put, List.setIfInBounds_toArray, List.set_cons_zero, List.set_cons_succ]
          refine wpAnyH_take (i := 10) (v := ?v30) rfl (by kernel_rfl) (by kernel_rfl) (by kernel_rfl) (fun _ _ _ h => by cases h.1) (Or.inl ⟨by rfl, ?y30⟩) (by assumption) ?r30
          case y30 => (intro w hSw; (try dsimp only at hSw); go_simp; try (with_reducible rfl))
          simp only [List.getElem_toArray, List.getElem_cons_succ, List.getElem_cons_zero, Act.put, List.setIfInBounds_toArray, List.set_cons_zero, List.set_cons_succ]
          refine wpAnyH_done (by kernel_rfl) ?_ _
          clear hHeld
          clear hS
          simp only [putJ, Act.put, List.setIfInBounds_toArray, List.set_cons_zero, List.set_cons_succ]
          exact ⟨trivial, _, _, _, _, _, _, _, _, _, rfl, u_288.heap.size, a_289, c_290, rfl, GSB.out, SLS.out, EC_305.out⟩
        · simp only [List.getElem_toArray, List.getElem_cons_succ, List.getElem_cons_zero]
          go_simp
          obtain ⟨w_306, hV⟩ : ∃ x, w_280.alloc (.cells #[.slice none 0 0, .int .i64 0] 26) = x := ⟨_, rfl⟩
          have E_307 := hide (show Below w_280.heap.size w_280 w_306 by rw [← hV]; exact ((Below.refl _ _).alloc (Nat.le_refl _) _))
          have GZ_308 := hide (show w_306.heap[w_280.heap.size]? = some (skO (.slice none 0 0) 0) by rw [← hV]; exact L8.blk_new _ _)
          rw [hV]
          clear hV
          have SP_309 := hide (SP_285.out.below (E_307.out))
          have SP_310 := hide (SP_283.out.below (E_307.out))
          have BB_311 := hide (BB_286.out.trans ((E_307.out).mono BB_286.out.size))
          have EC_312 := hide (EC_287.out.trans ((E_307.out).mono EC_287.out.size))
          refine hK.out _ _ ?_ (fun hHeld => ?_)
          · exact ⟨⟨(E_307.out.cell (p := ⟨w.heap.size, 0, none⟩) (blk_ltO hHeld.1.1)).trans hHeld.1.1, (E_307.out.cell (p := ⟨w.heap.size, 1, none⟩) (blk_ltO hHeld.1.2.1)).trans hHeld.1.2.1, (E_307.out.cell (p := ⟨w.heap.size + 1, 0, none⟩) (blk_ltO hHeld.1.2.2.1)).trans hHeld.1.2.2.1, (E_307.out.cell (p := ⟨w.heap.size + 1, 1, none⟩) (blk_ltO hHeld.1.2.2.2)).trans hHeld.1.2.2.2⟩, BB_311.out⟩
          clear hK K
          try simp only [Act.put, List.setIfInBounds_toArray, List.set_cons_zero, List.set_cons_succ]
          refine wpAnyH_ready (rs := [4]) (by kernel_rfl) (by simp) ?_
          refine AllReadyH.cons rfl (fun K hK => ?_) AllReadyH.nil
          simp only [List.getElem_toArray, List.getElem_cons_succ, List.getElem_cons_zero]
          go_simp
          go_at_call 19
          refine (C2.out _ _ _ SP_309.out _ _ SP_310.out).mono ?_
          rintro e u_313 ⟨v, rfl, hr⟩
          obtain ⟨⟨M_316, hM, ho⟩, hb⟩ := hr
          obtain ⟨a_314, c_315, hv, _⟩ := ho.form
          rw [← HNL.out] at ho hv
          subst hv
          have OS_317 := hide (And.intro hM ho)
          have E_318 := hide (show Below w_306.heap.size w_306 u_313 from hb)
          dsimp only
          refine hK.out _ _ ?_ (fun hHeld => ?_)
          · exact L8.keep4 hHeld hb (Nat.le_refl _)
          clear hK K hb ho hM
          try simp only [Act.put, List.setIfInBounds_toArray, List.set_cons_zero, List.set_cons_succ]
          have SP_319 := hide (SP_309.out.below (E_318.out))
          have SP_320 := hide (SP_310.out.below (E_318.out))
          have GZ_321 := hide (blk_kept GZ_308.out (E_318.out))
          have BB_322 := hide (BB_311.out.trans ((E_318.out).mono BB_311.out.size))
          have EC_323 := hide (EC_312.out.trans ((E_318.out).mono EC_312.out.size))
          refine wpAnyH_take (i := 5) (v := ?v31) rfl (by kernel_rfl) (by kernel_rfl) (by kernel_rfl) (fun _ _ _ h => by cases h.1) (Or.inl ⟨by rfl, ?y31⟩) (by assumption) ?r31
          case y31 => (intro w hSw; (try dsimp only at hSw); go_simp; try (with_reducible rfl))
          simp only [List.getElem_toArray, List.getElem_cons_succ, List.getElem_cons_zero, Act.put, List.setIfInBounds_toArray, List.set_cons_zero, List.set_cons_succ]
          refine wpAnyH_take (i := 6) (v := ?v32) rfl (by kernel_rfl) (by kernel_rfl) (by kernel_rfl) (fun _ _ _ h => by cases h.1) (Or.inl ⟨by rfl, ?y32⟩) (by assumption) ?r32
          case y32 => (intro w hSw; (try dsimp only at hSw); go_simp; try (with_reducible rfl))
          simp only [List.getElem_toArray, List.getElem_cons_succ, List.getElem_cons_zero, Act.put, List.setIfInBounds_toArray, List.set_cons_zero, List.set_cons_succ]
          refine wpAnyH_take (i := 7) (v := ?v33) rfl (by kernel_rfl) (by kernel_rfl) (by kernel_rfl) (fun _ _ _ h => by cases h.1) (Or.inl ⟨by rfl, ?y33⟩) (by assumption) ?r33
          case y33 => (intro w hSw; (try dsimp only at hSw); go_simp; try (with_reducible rfl))
          simp only [List.getElem_toArray, List.getElem_cons_succ, List.getElem_cons_zero, Act.put, List.setIfInBounds_toArray, List.set_cons_zero, List.set_cons_succ]
          refine wpAnyH_ready (rs := [9]) (by kernel_rfl) (by simp) ?_
          refine AllReadyH.cons rfl (fun K hK => ?_) AllReadyH.nil
          simp only [List.getElem_toArray, List.getElem_cons_succ, List.getElem_cons_zero]
          obtain ⟨z0, z1, f0, f1⟩ := blkp GZ_321.out
          go_simp
          obtain ⟨wS, hS⟩ : ∃ x, (u_313.setCell ⟨w_280.heap.size, 0, none⟩ (.slice a_314 nL c_315)).setCell ⟨w_280.heap.size, 1, none⟩ (.int .i64 T) = x := ⟨_, rfl⟩
          have GSB := hide (show wS.heap[w_280.heap.size]? = some (skO (.slice a_314 nL c_315) T) by rw [← hS]; exact set2 GZ_321.out)
          have hlt : w_280.heap.size < w_306.heap.size := (Array.getElem?_eq_some_iff.1 GZ_308.out).1
          have SLS := hide (show SlSI wS a_314 L by
            have h2 := ((OS_317.out.2.setC ⟨w_280.heap.size, 0, none⟩ (.slice a_314 nL c_315) hlt).setC ⟨w_280.heap.size, 1, none⟩ (.int .i64 T) hlt).sl
            rw [OS_317.out.1, hS] at h2
            exact h2)
          have hW : w_264.heap.size ≤ w_280.heap.size := EC_287.out.size
          have EC_324 := hide (show Below w_264.heap.size w_264 wS by rw [← hS]; exact (EC_323.out.setCell (p := ⟨w_280.heap.size, 0, none⟩) hW (.slice a_314 nL c_315)).setCell (p := ⟨w_280.heap.size, 1, none⟩) hW (.int .i64 T))
          rw [hS]
          refine hK.out _ _ ?_ (fun hHeld => ?_)
          · obtain ⟨h1, h2, _, _⟩ := blkp (blk_kept GA0.out (BB_266.out.trans (EC_324.out.mono BB_266.out.size)))
            obtain ⟨h3, h4, _, _⟩ := blkp (blk_kept GA1.out (BB_266.out.trans (EC_324.out.mono BB_266.out.size)))
            exact ⟨⟨h1, h2, h3, h4⟩, BB_266.out.trans (EC_324.out.mono BB_266.out.size)⟩
          clear hK K hW z0 z1 f0 f1
          try simp only [Act.put, List.setIfInBounds_toArray, List.set_cons_zero, List.set_cons_succ]
          refine wpAnyH_take (i := 10) (v := ?v34) rfl (by kernel_rfl) (by kernel_rfl) (by kernel_rfl) (fun _ _ _ h => by cases h.1) (Or.inl ⟨by rfl, ?y34⟩) (by assumption) ?r34
          case y34 => (intro w hSw; (try dsimp only at hSw); go_simp; try (with_reducible rfl))
          simp only [List.getElem_toArray, List.getElem_cons_succ, List.getElem_cons_zero, Act.put, List.setIfInBounds_toArray, List.set_cons_zero, List.set_cons_succ]
          refine wpAnyH_done (by kernel_rfl) ?_ _
          clear hHeld
          clear hS
          simp only [putJ, Act.put, List.setIfInBounds_toArray, List.set_cons_zero, List.set_cons_succ]
          exact ⟨trivial, _, _, _, _, _, _, _, _, _, rfl, w_280.heap.size, a_314, c_315, rfl, GSB.out, SLS.out, EC_324.out⟩
      · simp only [List.getElem_toArray, List.getElem_cons_succ, List.getElem_cons_zero]
        go_simp
        obtain ⟨w_325, hV⟩ : ∃ x, w_273.alloc (.cells #[.slice none 0 0, .int .i64 0] 26) = x := ⟨_, rfl⟩
        have E_326 := hide (show Below w_273.heap.size w_273 w_325 by rw [← hV]; exact ((Below.refl _ _).alloc (Nat.le_refl _) _))
        have GZ_327 := hide (show w_325.heap[w_273.heap.size]? = some (skO (.slice none 0 0) 0) by rw [← hV]; exact L8.blk_new _ _)
        rw [hV]
        clear hV
        have SP_328 := hide (SP_276.out.below (E_326.out))
        have BB_329 := hide (BB_278.out.trans ((E_326.out).mono BB_278.out.size))
        have EC_330 := hide (EC_279.out.trans ((E_326.out).mono EC_279.out.size))
        refine hK.out _ _ ?_ (fun hHeld => ?_)
        · exact ⟨⟨(E_326.out.cell (p := ⟨w.heap.size, 0, none⟩) (blk_ltO hHeld.1.1)).trans hHeld.1.1, (E_326.out.cell (p := ⟨w.heap.size, 1, none⟩) (blk_ltO hHeld.1.2.1)).trans hHeld.1.2.1, (E_326.out.cell (p := ⟨w.heap.size + 1, 0, none⟩) (blk_ltO hHeld.1.2.2.1)).trans hHeld.1.2.2.1, (E_326.out.cell (p := ⟨w.heap.size + 1, 1, none⟩) (blk_ltO hHeld.1.2.2.2)).trans hHeld.1.2.2.2⟩, BB_329.out⟩
        clear hK K
        try simp only [Act.put, List.setIfInBounds_toArray, List.set_cons_zero, List.set_cons_succ]
        refine wpAnyH_ready (rs := [3]) (by kernel_rfl) (by simp) ?_
        refine AllReadyH.cons rfl (fun K hK => ?_) AllReadyH.nil
        simp only [List.getElem_toArray, List.getElem_cons_succ, List.getElem_cons_zero]
        go_simp
        go_at_call 11
        refine (CT1.out _ hHeld.2).mono ?_
        rintro e w_331 ⟨g_332, rfl, ⟨M_333, hM, ho⟩, hb⟩
        have hsl := ho.sl
        rw [hM] at hsl
        have SP_334 := hide hsl
        have E_335 := hide (show Below w_325.heap.size w_325 w_331 from hb)
        dsimp only
        refine hK.out _ _ ?_ (fun hHeld => ?_)
        · exact L8.keep4 hHeld hb (Nat.le_refl _)
        clear hK K hb ho hM hsl
        try simp only [Act.put, List.setIfInBounds_toArray, List.set_cons_zero, List.set_cons_succ]
        have SP_336 := hide (SP_328.out.below (E_335.out))
        have GZ_337 := hide (blk_kept GZ_327.out (E_335.out))
        have BB_338 := hide (BB_329.out.trans ((E_335.out).mono BB_329.out.size))
        have EC_339 := hide (EC_330.out.trans ((E_335.out).mono EC_330.out.size))
        refine wpAnyH_ready (rs := [4]) (by kernel_rfl) (by simp) ?_
        refine AllReadyH.cons rfl (fun K hK => ?_) AllReadyH.nil
        simp only [List.getElem_toArray, List.getElem_cons_succ, List.getElem_cons_zero]
        go_simp
        go_at_call 19
        refine (C2.out _ _ _ SP_336.out _ _ SP_334.out).mono ?_
        rintro e u_340 ⟨v, rfl, hr⟩
        obtain ⟨⟨M_343, hM, ho⟩, hb⟩ := hr
        obtain ⟨a_341, c_342, hv, _⟩ := ho.form
        rw [← HNL.out] at ho hv
        subst hv
        have OS_344 := hide (And.intro hM ho)
        have E_345 := hide (show Below w_331.heap.size w_331 u_340 from hb)
        dsimp only
        refine hK.out _ _ ?_ (fun hHeld => ?_)
        · exact L8.keep4 hHeld hb (Nat.le_refl _)
        clear hK K hb ho hM
        try simp only [Act.put, List.setIfInBounds_toArray, List.set_cons_zero, List.set_cons_succ]
        have SP_346 := hide (SP_336.out.below (E_345.out))
        have SP_347 := hide (SP_334.out.below (E_345.out))
        have GZ_348 := hide (blk_kept GZ_337.out (E_345.out))
        have BB_349 := hide (BB_338.out.trans ((E_345.out).mono BB_338.out.size))
        have EC_350 := hide (EC_339.out.trans ((E_345.out).mono EC_339.out.size))
        refine wpAnyH_take (i := 5) (v := ?v35) rfl (by kernel_rfl) (by kernel_rfl) (by kernel_rfl) (fun _ _ _ h => by cases h.1) (Or.inl ⟨by rfl, ?y35⟩) (by assumption) ?r35
        case y35 => (intro w hSw; (try dsimp only at hSw); go_simp; try (with_reducible rfl))
        simp only [List.getElem_toArray, List.getElem_cons_succ, List.getElem_cons_zero, Act.put, List.setIfInBounds_toArray, List.set_cons_zero, List.set_cons_succ]
        refine wpAnyH_take (i := 6) (v := ?v36) rfl (by kernel_rfl) (by kernel_rfl) (by kernel_rfl) (fun _ _ _ h => by cases h.1) (Or.inl ⟨by rfl, ?y36⟩) (by assumption) ?r36
        case y36 => (intro w hSw; (try dsimp only at hSw); go_simp; try (with_reducible rfl))
        simp only [List.getElem_toArray, List.getElem_cons_succ, List.getElem_cons_zero, Act.put, List.setIfInBounds_toArray, List.set_cons_zero, List.set_cons_succ]
        refine wpAnyH_take (i := 7) (v := ?v37) rfl (by kernel_rfl) (by kernel_rfl) (by kernel_rfl) (fun _ _ _ h => by cases h.1) (Or.inl ⟨by rfl, ?y37⟩) (by assumption) ?r37
        case y37 => (intro w hSw; (try dsimp only at hSw); go_simp; try (with_reducible rfl))
        simp only [List.getElem_toArray, List.getElem_cons_succ, List.getElem_cons_zero, Act.put, List.setIfInBounds_toArray, List.set_cons_zero, List.set_cons_succ]
        refine wpAnyH_ready (rs := [9]) (by kernel_rfl) (by simp) ?_
        refine AllReadyH.cons rfl (fun K hK => ?_) AllReadyH.nil
        simp only [List.getElem_toArray, List.getElem_cons_succ, List.getElem_cons_zero]
        obtain ⟨z0, z1, f0, f1⟩ := blkp GZ_348.out
        go_simp
        obtain ⟨wS, hS⟩ : ∃ x, (u_340.setCell ⟨w_273.heap.size, 0, none⟩ (.slice a_341 nL c_342)).setCell ⟨w_273.heap.size, 1, none⟩ (.int .i64 T) = x := ⟨_, rfl⟩
        have GSB := hide (show wS.heap[w_273.heap.size]? = some (skO (.slice a_341 nL c_342) T) by rw [← hS]; exact set2 GZ_348.out)
        have hlt : w_273.heap.size < w_331.heap.size := (Array.getElem?_eq_some_iff.1 GZ_337.out).1
        have SLS := hide (show SlSI wS a_341 L by
          have h2 := ((OS_344.out.2.setC ⟨w_273.heap.size, 0, none⟩ (.slice a_341 nL c_342) hlt).setC ⟨w_273.heap.size, 1, none⟩ (.int .i64 T) hlt).sl
          rw [OS_344.out.1, hS] at h2
          exact h2)
        have hW : w_264.heap.size ≤ w_273.heap.size := EC_279.out.size
        have EC_351 := hide (show Below w_264.heap.size w_264 wS by rw [← hS]; exact (EC_350.out.setCell (p := ⟨w_273.heap.size, 0, none⟩) hW (.slice a_341 nL c_342)).setCell (p := ⟨w_273.heap.size, 1, none⟩) hW (.int .i64 T))
        rw [hS]
        refine hK.out _ _ ?_ (fun hHeld => ?_)
        · obtain ⟨h1, h2, _, _⟩ := blkp (blk_kept GA0.out (BB_266.out.trans (EC_351.out.mono BB_266.out.size)))
          obtain ⟨h3, h4, _, _⟩ := blkp (blk_kept GA1.out (BB_266.out.trans (EC_351.out.mono BB_266.out.size)))
          exact ⟨⟨h1, h2, h3, h4⟩, BB_266.out.trans (EC_351.out.mono BB_266.out.size)⟩
        clear hK K hW z0 z1 f0 f1
        try simp only [Act.put, List.setIfInBounds_toArray, List.set_cons_zero, List.set_cons_succ]
        refine wpAnyH_take (i := 10) (v := ?v38) rfl (by kernel_rfl) (by kernel_rfl) (by kernel_rfl) (fun _ _ _ h => by cases h.1) (Or.inl ⟨by rfl, ?y38⟩) (by assumption) ?r38
        case y38 => (intro w hSw; (try dsimp only at hSw); go_simp; try (with_reducible rfl))
        simp only [List.getElem_toArray, List.getElem_cons_succ, List.getElem_cons_zero, Act.put, List.setIfInBounds_toArray, List.set_cons_zero, List.set_cons_succ]
        refine wpAnyH_done (by kernel_rfl) ?_ _
        clear hHeld
        clear hS
        simp only [putJ, Act.put, List.setIfInBounds_toArray, List.set_cons_zero, List.set_cons_succ]
        exact ⟨trivial, _, _, _, _, _, _, _, _, _, rfl, w_273.heap.size, a_341, c_342, rfl, GSB.out, SLS.out, EC_351.out⟩
    · simp only [List.getElem_toArray, List.getElem_cons_succ, List.getElem_cons_zero]
      go_simp
      obtain ⟨w_352, hV⟩ : ∃ x, (w_264.alloc (.cells #[.slice none 0 0, .int .i64 0] 26)).drew = x := ⟨_, rfl⟩
      have E_353 := hide (show Below w_264.heap.size w_264 w_352 by rw [← hV]; exact ((Below.refl _ _).alloc (Nat.le_refl _) _).drew)
      have GZ_354 := hide (show w_352.heap[w_264.heap.size]? = some (skO (.slice none 0 0) 0) by rw [← hV]; exact L8.blk_new _ _)
      rw [hV]
      clear hV
      have BB_355 := hide (BB_266.out.trans ((E_353.out).mono BB_266.out.size))
      have EC_356 := hide (EC_272.out.trans ((E_353.out).mono EC_272.out.size))
      refine hK.out _ _ ?_ (fun hHeld => ?_)
      · exact ⟨⟨(E_353.out.cell (p := ⟨w.heap.size, 0, none⟩) (blk_ltO hHeld.1.1)).trans hHeld.1.1, (E_353.out.cell (p := ⟨w.heap.size, 1, none⟩) (blk_ltO hHeld.1.2.1)).trans hHeld.1.2.1, (E_353.out.cell (p := ⟨w.heap.size + 1, 0, none⟩) (blk_ltO hHeld.1.2.2.1)).trans hHeld.1.2.2.1, (E_353.out.cell (p := ⟨w.heap.size + 1, 1, none⟩) (blk_ltO hHeld.1.2.2.2)).trans hHeld.1.2.2.2⟩, BB_355.out⟩
      clear hK K
      try simp only [Act.put, List.setIfInBounds_toArray, List.set_cons_zero, List.set_cons_succ]
      refine wpAnyH_ready (rs := [1]) (by kernel_rfl) (by simp) ?_
      refine AllReadyH.cons rfl (fun K hK => ?_) AllReadyH.nil
      simp only [List.getElem_toArray, List.getElem_cons_succ, List.getElem_cons_zero]
      go_simp
      go_at_call 11
      refine (CT0.out _ hHeld.2).mono ?_
      rintro e w_357 ⟨g_358, rfl, ⟨M_359, hM, ho⟩, hb⟩
      have hsl := ho.sl
      rw [hM] at hsl
      have SP_360 := hide hsl
      have E_361 := hide (show Below w_352.heap.size w_352 w_357 from hb)
      dsimp only
      refine hK.out _ _ ?_ (fun hHeld => ?_)
      · exact L8.keep4 hHeld hb (Nat.le_refl _)
      clear hK K hb ho hM hsl
      try simp only [Act.put, List.setIfInBounds_toArray, List.set_cons_zero, List.set_cons_succ]
      have GZ_362 := hide (blk_kept GZ_354.out (E_361.out))
      have BB_363 := hide (BB_355.out.trans ((E_361.out).mono BB_355.out.size))
      have EC_364 := hide (EC_356.out.trans ((E_361.out).mono EC_356.out.size))
      refine wpAnyH_ready (rs := [3]) (by kernel_rfl) (by simp) ?_
      refine AllReadyH.cons rfl (fun K hK => ?_) AllReadyH.nil
      simp only [List.getElem_toArray, List.getElem_cons_succ, List.getElem_cons_zero]
      go_simp
      go_at_call 11
      refine (CT1.out _ hHeld.2).mono ?_
      rintro e w_365 ⟨g_366, rfl, ⟨M_367, hM, ho⟩, hb⟩
      have hsl := ho.sl
      rw [hM] at hsl
      have SP_368 := hide hsl
      have E_369 := hide (show Below w_357.heap.size w_357 w_365 from hb)
      dsimp only
      refine hK.out _ _ ?_ (fun hHeld => ?_)
      · exact L8.keep4 hHeld hb (Nat.le_refl _)
      clear hK K hb ho hM hsl
      try simp only [Act.put, List.setIfInBounds_toArray, List.set_cons_zero, List.set_cons_succ]
      have SP_370 := hide (SP_360.out.below (E_369.out))
      have GZ_371 := hide (blk_kept GZ_362.out (E_369.out))
      have BB_372 := hide (BB_363.out.trans ((E_369.out).mono BB_363.out.size))
      have EC_373 := hide (EC_364.out.trans ((E_369.out).mono EC_364.out.size))
      refine wpAnyH_ready (rs := [4]) (by kernel_rfl) (by simp) ?_
      refine AllReadyH.cons rfl (fun K hK => ?_) AllReadyH.nil
      simp only [List.getElem_toArray, List.getElem_cons_succ, List.getElem_cons_zero]
      go_simp
      go_at_call 19
      refine (C2.out _ _ _ SP_370.out _ _ SP_368.out).mono ?_
      rintro e u_374 ⟨v, rfl, hr⟩
      obtain ⟨⟨M_377, hM, ho⟩, hb⟩ := hr
      obtain ⟨a_375, c_376, hv, _⟩ := ho.form
      rw [← HNL.out] at ho hv
      subst hv
      have OS_378 := hide (And.intro hM ho)
      have E_379 := hide (show Below w_365.heap.size w_365 u_374 from hb)
      dsimp only
      refine hK.out _ _ ?_ (fun hHeld => ?_)
      · exact L8.keep4 hHeld hb (Nat.le_refl _)
      clear hK K hb ho hM
      try simp only [Act.put, List.setIfInBounds_toArray, List.set_cons_zero, List.set_cons_succ]
      have SP_380 := hide (SP_370.out.below (E_379.out))
      have SP_381 := hide (SP_368.out.below (E_379.out))
      have GZ_382 := hide (blk_kept GZ_371.out (E_379.out))
      have BB_383 := hide (BB_372.out.trans ((E_379.out).mono BB_372.out.size))
      have EC_384 := hide (EC_373.out.trans ((E_379.out).mono EC_373.out.size))
      refine wpAnyH_take (i := 5) (v := ?v39) rfl (by kernel_rfl) (by kernel_rfl) (by kernel_rfl) (fun _ _ _ h => by cases h.1) (Or.inl ⟨by rfl, ?y39⟩) (by assumption) ?r39
      case y39 => (intro w hSw; (try dsimp only at hSw); go_simp; try (with_reducible rfl))
      simp only [List.getElem_toArray, List.getElem_cons_succ, List.getElem_cons_zero, Act.put, List.setIfInBounds_toArray, List.set_cons_zero, List.set_cons_succ]
      refine wpAnyH_take (i := 6) (v := ?v40) rfl (by kernel_rfl) (by kernel_rfl) (by kernel_rfl) (fun _ _ _ h => by cases h.1) (Or.inl ⟨by rfl, ?y40⟩) (by assumption) ?r40
      case y40 => (intro w hSw; (try dsimp only at hSw); go_simp; try (with_reducible rfl))
      simp only [List.getElem_toArray, List.getElem_cons_succ, List.getElem_cons_zero, Act.put, List.setIfInBounds_toArray, List.set_cons_zero, List.set_cons_succ]
      refine wpAnyH_take (i := 7) (v := ?v41) rfl (by kernel_rfl) (by kernel_rfl) (by kernel_rfl) (fun _ _ _ h => by cases h.1) (Or.inl ⟨by rfl, ?y41⟩) (by assumption) ?r41
      case y41 => (intro w hSw; (try dsimp only at hSw); go_simp; try (with_reducible rfl))
      simp only [List.getElem_toArray, List.getElem_cons_succ, List.getElem_cons_zero, Act.put, List.setIfInBounds_toArray, List.set_cons_zero, List.set_cons_succ]
      refine wpAnyH_ready (rs := [9]) (by kernel_rfl) (by simp) ?_
      refine AllReadyH.cons rfl (fun K hK => ?_) AllReadyH.nil
      simp only [List.getElem_toArray, List.getElem_cons_succ, List.getElem_cons_zero]
      obtain ⟨z0, z1, f0, f1⟩ := blkp GZ_382.out
      go_simp
      obtain ⟨wS, hS⟩ : ∃ x, (u_374.setCell ⟨w_264.heap.size, 0, none⟩ (.slice a_375 nL c_376)).setCell ⟨w_264.heap.size, 1, none⟩ (.int .i64 T) = x := ⟨_, rfl⟩
      have GSB := hide (show wS.heap[w_264.heap.size]? = some (skO (.slice a_375 nL c_376) T) by rw [← hS]; exact set2 GZ_382.out)
      have hlt : w_264.heap.size < w_365.heap.size := (Array.getElem?_eq_some_iff.1 GZ_371.out).1
      have SLS := hide (show SlSI wS a_375 L by
        have h2 := ((OS_378.out.2.setC ⟨w_264.heap.size, 0, none⟩ (.slice a_375 nL c_376) hlt).setC ⟨w_264.heap.size, 1, none⟩ (.int .i64 T) hlt).sl
        rw [OS_378.out.1, hS] at h2
        exact h2)
      have hW : w_264.heap.size ≤ w_264.heap.size := EC_272.out.size
      have EC_385 := hide (show Below w_264.heap.size w_264 wS by rw [← hS]; exact (EC_384.out.setCell (p := ⟨w_264.heap.size, 0, none⟩) hW (.slice a_375 nL c_376)).setCell (p := ⟨w_264.heap.size, 1, none⟩) hW (.int .i64 T))
      rw [hS]
      refine hK.out _ _ ?_ (fun hHeld => ?_)
      · obtain ⟨h1, h2, _, _⟩ := blkp (blk_kept GA0.out (BB_266.out.trans (EC_385.out.mono BB_266.out.size)))
        obtain ⟨h3, h4, _, _⟩ := blkp (blk_kept GA1.out (BB_266.out.trans (EC_385.out.mono BB_266.out.size)))
        exact ⟨⟨h1, h2, h3, h4⟩, BB_266.out.trans (EC_385.out.mono BB_266.out.size)⟩
      clear hK K hW z0 z1 f0 f1
      try simp only [Act.put, List.setIfInBounds_toArray, List.set_cons_zero, List.set_cons_succ]
      refine wpAnyH_take (i := 10) (v := ?v42) rfl (by kernel_rfl) (by kernel_rfl) (by kernel_rfl) (fun _ _ _ h => by cases h.1) (Or.inl ⟨by rfl, ?y42⟩) (by assumption) ?r42
      case y42 => (intro w hSw; (try dsimp only at hSw); go_simp; try (with_reducible rfl))
      simp only [List.getElem_toArray, List.getElem_cons_succ, List.getElem_cons_zero, Act.put, List.setIfInBounds_toArray, List.set_cons_zero, List.set_cons_succ]
      refine wpAnyH_done (by kernel_rfl) ?_ _
      clear hHeld
      clear hS
      simp only [putJ, Act.put, List.setIfInBounds_toArray, List.set_cons_zero, List.set_cons_succ]
      exact ⟨trivial, _, _, _, _, _, _, _, _, _, rfl, w_264.heap.size, a_375, c_376, rfl, GSB.out, SLS.out, EC_385.out⟩
  intro v_390 v_391 v_392 v_393 v_394 v_395 v_396 v_397 v_398 wV_389 hR
  obtain ⟨bV_386, aV_387, cV_388, rfl, hbx, hsl, hb⟩ := hR
  clear k_268 k_269 k_270 k_271
  simp only [putJ, Act.put, List.setIfInBounds_toArray, List.set_cons_zero, List.set_cons_succ]
  have GVB := hide hbx
  have SLV := hide hsl
  have GG_399 := hide (GG_265.out.below hb)
  clear GG_265
  have BB_400 := hide (BB_266.out.trans (hb.mono BB_266.out.size))
  clear BB_266
  have BS_401 := hide (BS_267.out.trans (hb.mono BS_267.out.size))
  clear BS_267
  clear hb hbx hsl
  obtain ⟨k_402, k_403, _, _⟩ := blkp GVB.out
  obtain ⟨k_404, k_405, _, _⟩ := blkp (blk_kept GSB.out BS_401.out)
  go_wp2_with fail
  refine (CE.out _ _ _ _ _ SLV.out (SLS.out.below BS_401.out)).mono ?_
  rintro e w_406 ⟨rfl, hb⟩
  clear k_402 k_403 k_404 k_405
  have GG_407 := hide (GG_399.out.below hb)
  clear GG_399
  have BB_408 := hide (BB_400.out.trans (hb.mono BB_400.out.size))
  clear BB_400
  have BS_409 := hide (BS_401.out.trans (hb.mono BS_401.out.size))
  clear BS_401
  clear hb
  obtain ⟨k_410, k_411, _, _⟩ := blkp GG_407.out.box
  go_wp2_with fail
  refine (CH.out _ _ _ GG_407.out.sl).mono ?_
  rintro e w_412 ⟨rfl, hb⟩
  clear k_410 k_411
  have GG_413 := hide (GG_407.out.below hb)
  clear GG_407
  have BB_414 := hide (BB_408.out.trans (hb.mono BB_408.out.size))
  clear BB_408
  have BS_415 := hide (BS_409.out.trans (hb.mono BS_409.out.size))
  clear BS_409
  clear hb
  go_wp2
  go_ret
  exact ⟨rfl, BQ.out.trans (BB_414.out.mono BQ.out.size)⟩
end Go.Proofs.Ytfmfnlpajoikman.fnExactJoinSketches
