/-
  Contracts: spec.l2Encode and spec.EncodeChunk: of good samples the text of their chunk.
-/
import Derived.Test.YtapffbbmofhpoaaDoorL2Parts
import Derived.Test.YtapffbbmofhpoaaDoorL2SpecGood
import Derived.Test.YtapffbbmofhpoaaDoorL2SpecSums
import Derived.Test.YtapffbbmofhpoaaDoorL2Keep
import Derived.Test.YtapffbbmofhpoaaDoorL1Varint
namespace Go.Proofs.YtapffbbmofhpoaaDoor.L1
open Go.RowKit
set_option linter.unusedVariables false

set_option maxRecDepth 100000 in
set_option maxHeartbeats 4000000 in
theorem l2Encode_any (a : Option Addr) (l : List (Int × Int)) (n cap : Nat) (w : World) (hn : l.length = n) (hs : Sl2 w a l) (hg : GoodS l) :
    Calls Tryd.prog 100 #[.slice a n cap] w fun e w' => e = .returned (.string (strOfNums (cat (nums l)))) ∧ Below w.heap.size w w' := by
  have hn2 : n ≤ 40 := by have := hg.1; omega
  have C1 := hide (l2Parts_any a l n cap w hn hs hn2)
  have D1 := hide (fun a cap w hs => l2Deltas_any a (ats l) n cap w (by rw [ats_len, hn]) hs hn2 (dl_bd40 (by rw [ats_len, hn]) (okL_ats hg)))
  have D2 := hide (fun a cap w hs => l2Deltas_any a (dl 0 (ats l)) n cap w (by rw [dl_len, ats_len, hn]) hs hn2 (dl_bd40 (by rw [dl_len, ats_len, hn]) (okL_steps hg)))
  have D3 := hide (fun a cap w hs => l2Deltas_any a (vals l) n cap w (by rw [vals_len, hn]) hs hn2 (dl_bd40 (by rw [vals_len, hn]) (okL_vals hg)))
  have hob := okL_bends hg
  have hoc := okL_changes hg
  obtain ⟨bs, hbs⟩ : ∃ bs, bs = dl 0 (dl 0 (ats l)) := ⟨_, rfl⟩
  obtain ⟨cs, hcs⟩ : ∃ cs, cs = dl 0 (vals l) := ⟨_, rfl⟩
  have hbl : bs.length = n := by rw [hbs, dl_len, dl_len, ats_len, hn]
  have hcl : cs.length = n := by rw [hcs, dl_len, vals_len, hn]
  have hnum : nums l = (n : Int) :: inter bs cs := by rw [hbs, hcs, ← hn]; rfl
  rw [← hbs] at D2 hob
  rw [← hcs] at D3 hoc
  have VN := hide (fun w => l1Varint_any (n : Int) w (by omega) (by omega))
  have HBL := hide hbl
  have HCL := hide hcl
  have HNUM := hide hnum
  have HOB := hide hob
  have HOC := hide hoc
  clear hs hn hg hbs hcs hbl hcl hnum hob hoc
  go_enter Tryd.func100, Tryd.ntmps100
  go_wp2_with fail
  refine C1.out.mono ?_
  rintro e w1 ⟨ot, ov, rfl, htwo, hb1⟩
  obtain ⟨ta, tc, va, vc, rfl, rfl, hst, hsv⟩ := htwo.form
  have HT := hide hst
  have HV := hide hsv
  have B1 := hide hb1
  clear hst hsv hb1 htwo
  go_wp2_with fail
  refine (D1.out _ _ _ HT.out).mono ?_
  rintro e w2 ⟨v1, rfl, ho2, hb2⟩
  obtain ⟨s1, k1, rfl, sl1, _⟩ := own_form ho2
  have V2 := hide (HV.out.below hb2)
  have T2 := hide sl1
  have B2 := hide (B1.out.trans (hb2.mono B1.out.size))
  clear ho2 sl1 hb2 HT HV B1
  go_wp2_with fail
  refine (D2.out _ _ _ T2.out).mono ?_
  rintro e w3 ⟨v2, rfl, ho3, hb3⟩
  obtain ⟨s2, k2, rfl, sl2, _⟩ := own_form ho3
  have V3 := hide (V2.out.below hb3)
  have T3 := hide sl2
  have B3 := hide (B2.out.trans (hb3.mono B2.out.size))
  clear ho3 sl2 hb3 B2 V2 T2
  go_wp2_with fail
  refine (D3.out _ _ _ V3.out).mono ?_
  rintro e w4 ⟨v3, rfl, ho4, hb4⟩
  obtain ⟨s3, k3, rfl, sl3, _⟩ := own_form ho4
  have T4 := hide (T3.out.below hb4)
  have V4 := hide sl3
  have B4 := hide (B3.out.trans (hb4.mono B3.out.size))
  clear ho4 sl3 hb4 T3 V3 B3
  go_wp2_with fail
  refine (VN.out _).mono ?_
  rintro e W2 ⟨rfl, hb5⟩
  have T5 := hide (T4.out.below hb5)
  have V5 := hide (V4.out.below hb5)
  have B5 := hide (B4.out.trans (hb5.mono B4.out.size))
  clear hb5 T4 V4 B4 D1 D2 D3 C1 VN
  go_wp2
  go_loopw [7, 24] (fun o i wr => ∃ k : Nat, k ≤ n ∧ i = .int .i64 k ∧ o = .string (strOfNums (cat ((n : Int) :: inter (bs.take k) (cs.take k)))) ∧ Below W2.heap.size W2 wr) (fun _ i _ => n - (intOf i).toNat)
  case atStart => exact ⟨0, Nat.zero_le _, rfl, by simp [inter, cat], Below.refl _ _⟩
  case round =>
    obtain ⟨k, hk, rfl, rfl, hbel2⟩ := hrel
    by_cases hlt : k < n
    · obtain ⟨bb, bo, rfl, hcx0⟩ := T5.out k (by rw [HBL.out]; exact hlt)
      obtain ⟨cb, co, rfl, hcy0⟩ := V5.out k (by rw [HCL.out]; exact hlt)
      have hcx := (hbel2.cell (p := ⟨bb, bo + k, none⟩) (blk_lt hcx0)).trans hcx0
      have hcy := (hbel2.cell (p := ⟨cb, co + k, none⟩) (blk_lt hcy0)).trans hcy0
      have HBB := hide (blk_lt hcx0)
      have HCB := hide (blk_lt hcy0)
      have htk := nums_take HBL.out HCL.out hlt (n : Int)
      have hvx := HOB.out k (by rw [HBL.out]; exact hlt)
      have hvy := HOC.out k (by rw [HCL.out]; exact hlt)
      obtain ⟨x, hx⟩ : ∃ x, x = bs.getD k 0 := ⟨_, rfl⟩
      obtain ⟨y, hy⟩ : ∃ y, y = cs.getD k 0 := ⟨_, rfl⟩
      rw [← hx] at hcx htk hvx
      rw [← hy] at hcy htk hvy
      have hvcx := fun w => l1Varint_any x w hvx.1 hvx.2
      have hvcy := fun w => l1Varint_any y w hvy.1 hvy.2
      have hst : strOfNums (cat ((n : Int) :: inter (bs.take (k + 1)) (cs.take (k + 1)))) = strOfNums (cat ((n : Int) :: inter (bs.take k) (cs.take k))) ++ (strOfNums (vd (zig x)) ++ strOfNums (vd (zig y))) := by
        rw [htk, cat_append, str_append]
        simp only [cat, List.append_nil, str_append]
      have hl1 : (strOfNums (cat ((n : Int) :: inter (bs.take k) (cs.take k)))).size ≤ 10000 := by
        rw [strOfNums_size]
        have := cat_len ((n : Int) :: inter (bs.take k) (cs.take k))
        have h2 := inter_len (bs.take k) (cs.take k) (by simp [HBL.out, HCL.out])
        have h3 : (bs.take k).length ≤ k := List.length_take_le _ _
        simp only [List.length_cons] at this
        omega
      have hl2 : (strOfNums (vd (zig x))).size ≤ 6 := by rw [strOfNums_size]; exact vdf_le 5 _
      have hl3 : (strOfNums (vd (zig y))).size ≤ 6 := by rw [strOfNums_size]; exact vdf_le 5 _
      obtain ⟨A, hA⟩ : ∃ A, A = strOfNums (cat ((n : Int) :: inter (bs.take k) (cs.take k))) := ⟨_, rfl⟩
      obtain ⟨CX, hCX⟩ : ∃ A, A = strOfNums (vd (zig x)) := ⟨_, rfl⟩
      obtain ⟨CY, hCY⟩ : ∃ A, A = strOfNums (vd (zig y)) := ⟨_, rfl⟩
      rw [← hA] at hst hl1 ⊢
      rw [← hCX] at hst hl2
      rw [← hCY] at hst hl3
      simp only [← hCX] at hvcx
      simp only [← hCY] at hvcy
      have VX := hide hvcx
      have VY := hide hvcy
      have HST := hide hst
      have hs1 : ¬ 9223372036854775807 < CX.size + CY.size := by omega
      have hs2 : ¬ 9223372036854775807 < A.size + (CX.size + CY.size) := by omega
      have hltI : (k : Int) < (n : Int) := by omega
      have hk0 : (0 : Int) ≤ (k : Int) := by omega
      clear hcx0 hcy0 hx hy htk hvx hvy hvcx hvcy hst hA hCX hCY
      go_wp2
      refine wp_region_held_drew (S := (fun wx => wx.cell? ⟨bb, bo + k, none⟩ = some (.int .i64 x) ∧ wx.cell? ⟨cb, co + k, none⟩ = some (.int .i64 y) ∧ Below W2.heap.size W2 wx)) (by kernel_rfl) ⟨hcx, hcy, hbel2.drew⟩ (fun hHeld => ?_)
      refine wpAnyH_take (i := 0) (v := ?v1) rfl (by kernel_rfl) (by kernel_rfl) (by kernel_rfl) (fun _ _ _ h => h) (Or.inl ⟨by rfl, ?y1⟩) (by assumption) ?r1
      case y1 => (intro w hSw; (try dsimp only at hSw); go_simp; try (with_reducible rfl))
      simp only [List.getElem_toArray, List.getElem_cons_zero, Act.put, List.setIfInBounds_toArray, List.set_cons_zero, List.set_cons_succ]
      refine wpAnyH_take (i := 1) (v := ?v2) rfl (by kernel_rfl) (by kernel_rfl) (by kernel_rfl) (fun _ _ _ h => h) (Or.inl ⟨by rfl, ?y2⟩) (by assumption) ?r2
      case y2 => (intro w hSw; (try dsimp only at hSw); go_simp; try (with_reducible rfl))
      simp only [List.getElem_toArray, List.getElem_cons_succ, List.getElem_cons_zero, Act.put, List.setIfInBounds_toArray, List.set_cons_zero, List.set_cons_succ]
      refine wpAnyH_take (i := 2) (v := ?v3) rfl (by kernel_rfl) (by kernel_rfl) (by kernel_rfl) (fun _ _ _ h => h) (Or.inl ⟨by rfl, ?y3⟩) (by assumption) ?r3
      case y3 => (intro w hSw; (try dsimp only at hSw); go_simp; try (with_reducible rfl))
      simp only [List.getElem_toArray, List.getElem_cons_succ, List.getElem_cons_zero, Act.put, List.setIfInBounds_toArray, List.set_cons_zero, List.set_cons_succ]
      refine wpAnyH_take (i := 3) (v := ?v4) rfl (by kernel_rfl) (by kernel_rfl) (by kernel_rfl) (fun _ _ _ h => h) (Or.inl ⟨by rfl, ?y4⟩) (by assumption) ?r4
      case y4 => (intro w hSw; (try dsimp only at hSw); go_simp; try (with_reducible rfl))
      simp only [List.getElem_toArray, List.getElem_cons_succ, List.getElem_cons_zero, Act.put, List.setIfInBounds_toArray, List.set_cons_zero, List.set_cons_succ]
      refine wpAnyH_take (i := 4) (v := ?v5) rfl (by kernel_rfl) (by kernel_rfl) (by kernel_rfl) (fun _ _ _ h => h) (Or.inl ⟨by rfl, ?y5⟩) (by assumption) ?r5
      case y5 => (intro w hSw; (try dsimp only at hSw); go_simp; try (with_reducible rfl))
      simp only [List.getElem_toArray, List.getElem_cons_succ, List.getElem_cons_zero, Act.put, List.setIfInBounds_toArray, List.set_cons_zero, List.set_cons_succ]
      refine wpAnyH_take (i := 6) (v := ?v6) rfl (by kernel_rfl) (by kernel_rfl) (by kernel_rfl) (fun _ _ _ h => h) (Or.inl ⟨by rfl, ?y6⟩) (by assumption) ?r6
      case y6 => (intro w hSw; (try dsimp only at hSw); go_simp; try (with_reducible rfl))
      simp only [List.getElem_toArray, List.getElem_cons_succ, List.getElem_cons_zero, Act.put, List.setIfInBounds_toArray, List.set_cons_zero, List.set_cons_succ]
      refine wpAnyH_take (i := 7) (v := ?v7) rfl (by kernel_rfl) (by kernel_rfl) (by kernel_rfl) (fun _ _ _ h => h) (Or.inl ⟨by rfl, ?y7⟩) (by assumption) ?r7
      case y7 => (intro w hSw; (try dsimp only at hSw); go_simp; try (with_reducible rfl))
      simp only [List.getElem_toArray, List.getElem_cons_succ, List.getElem_cons_zero, Act.put, List.setIfInBounds_toArray, List.set_cons_zero, List.set_cons_succ]
      refine wpAnyH_take (i := 8) (v := ?v8) rfl (by kernel_rfl) (by kernel_rfl) (by kernel_rfl) (fun _ _ _ h => h) (Or.inl ⟨by rfl, ?y8⟩) (by assumption) ?r8
      case y8 => (intro w hSw; (try dsimp only at hSw); go_simp; try (with_reducible rfl))
      simp only [List.getElem_toArray, List.getElem_cons_succ, List.getElem_cons_zero, Act.put, List.setIfInBounds_toArray, List.set_cons_zero, List.set_cons_succ]
      refine wpAnyH_take (i := 9) (v := ?v9) rfl (by kernel_rfl) (by kernel_rfl) (by kernel_rfl) (fun _ _ _ h => h) (Or.inl ⟨by rfl, ?y9⟩) (by assumption) ?r9
      case y9 => (intro w hSw; (try dsimp only at hSw); go_simp; try (with_reducible rfl))
      simp only [List.getElem_toArray, List.getElem_cons_succ, List.getElem_cons_zero, Act.put, List.setIfInBounds_toArray, List.set_cons_zero, List.set_cons_succ]
      refine wpAnyH_ready (rs := [5]) (by kernel_rfl) (by simp) ?_
      refine AllReadyH.cons rfl (fun K hK => ?_) AllReadyH.nil
      simp only [List.getElem_toArray, List.getElem_cons_succ, List.getElem_cons_zero]
      go_simp
      go_at_call 76
      refine (VX.out _).mono ?_
      rintro e w1 ⟨rfl, hb⟩
      dsimp only
      refine hK.out _ _ ?_ (fun hHeld => ?_)
      · exact keepA hHeld (hb.mono hHeld.2.2.size) HBB.out HCB.out
      clear hK K hb
      try simp only [Act.put, List.setIfInBounds_toArray, List.set_cons_zero, List.set_cons_succ]
      refine wpAnyH_ready (rs := [10]) (by kernel_rfl) (by simp) ?_
      refine AllReadyH.cons rfl (fun K hK => ?_) AllReadyH.nil
      simp only [List.getElem_toArray, List.getElem_cons_succ, List.getElem_cons_zero]
      go_simp
      go_at_call 76
      refine (VY.out _).mono ?_
      rintro e w1 ⟨rfl, hb⟩
      dsimp only
      refine hK.out _ _ ?_ (fun hHeld => ?_)
      · exact keepA hHeld (hb.mono hHeld.2.2.size) HBB.out HCB.out
      clear hK K hb
      try simp only [Act.put, List.setIfInBounds_toArray, List.set_cons_zero, List.set_cons_succ]
      refine wpAnyH_take (i := 11) (v := ?v10) rfl (by kernel_rfl) (by kernel_rfl) (by kernel_rfl) (fun _ _ _ h => h) (Or.inl ⟨by rfl, ?y10⟩) (by assumption) ?r10
      case y10 => (intro w hSw; (try dsimp only at hSw); go_simp; try (with_reducible rfl))
      simp only [List.getElem_toArray, List.getElem_cons_succ, List.getElem_cons_zero, Act.put, List.setIfInBounds_toArray, List.set_cons_zero, List.set_cons_succ]
      refine wpAnyH_take (i := 12) (v := ?v11) rfl (by kernel_rfl) (by kernel_rfl) (by kernel_rfl) (fun _ _ _ h => h) (Or.inl ⟨by rfl, ?y11⟩) (by assumption) ?r11
      case y11 => (intro w hSw; (try dsimp only at hSw); go_simp; try (with_reducible rfl))
      simp only [List.getElem_toArray, List.getElem_cons_succ, List.getElem_cons_zero, Act.put, List.setIfInBounds_toArray, List.set_cons_zero, List.set_cons_succ]
      refine wpAnyH_take (i := 13) (v := ?v12) rfl (by kernel_rfl) (by kernel_rfl) (by kernel_rfl) (fun _ _ _ h => h) (Or.inl ⟨by rfl, ?y12⟩) (by assumption) ?r12
      case y12 => (intro w hSw; (try dsimp only at hSw); go_simp; try (with_reducible rfl))
      simp only [List.getElem_toArray, List.getElem_cons_succ, List.getElem_cons_zero, Act.put, List.setIfInBounds_toArray, List.set_cons_zero, List.set_cons_succ]
      refine wpAnyH_done (by kernel_rfl) ?_ _
      have HB4 := hide hHeld.2.2
      clear hHeld
      go_wp2
      go_roundw
      case rel => exact ⟨k + 1, by omega, by go_num, by rw [HST.out], HB4.out⟩
      case measure => simp [intOf]; omega
    · obtain rfl : n = k := by omega
      have e1 : bs.take n = bs := List.take_of_length_le (by rw [HBL.out]; omega)
      have e2 : cs.take n = cs := List.take_of_length_le (by rw [HCL.out]; omega)
      rw [e1, e2, ← HNUM.out]
      have hltI : ¬ (n : Int) < (n : Int) := by omega
      clear e1 e2
      go_wp2
      go_ret
      exact ⟨rfl, B5.out.trans (hbel2.mono B5.out.size)⟩

set_option maxRecDepth 100000 in
set_option maxHeartbeats 400000 in
theorem specEncode_yes (a : Option Addr) (l : List (Int × Int)) (n cap : Nat) (w : World) (hn : l.length = n) (hs : Sl2 w a l) (hg : GoodS l) :
    Calls Tryd.prog 36 #[.slice a n cap] w fun e w' => e = .returned (.tuple #[.string (strOfNums (cat (nums l))), .bool true]) ∧ Below w.heap.size w w' := by
  have C1 := hide (specGood_any a l n cap w hn hs (by have := hg.1; omega) true (by simp [hg]))
  have C2 := hide (fun w hs => l2Encode_any a l n cap w hn hs hg)
  have HS := hide hs
  clear hn hs hg
  go_enter Tryd.func36, Tryd.ntmps36
  go_wp2_with fail
  refine C1.out.mono ?_
  rintro e w1 ⟨rfl, hb1⟩
  have S1 := hide (HS.out.below hb1)
  have B1 := hide hb1
  clear hb1
  go_wp2_with fail
  refine (C2.out _ S1.out).mono ?_
  rintro e w2 ⟨rfl, hb2⟩
  have B2 := hide (B1.out.trans (hb2.mono B1.out.size))
  clear hb2
  go_wp2
  go_ret2
  exact ⟨rfl, B2.out⟩
set_option maxRecDepth 100000 in
set_option maxHeartbeats 400000 in
theorem specEncode_no (a : Option Addr) (l : List (Int × Int)) (n cap : Nat) (w : World) (hn : l.length = n) (hs : Sl2 w a l) (hn2 : n ≤ 1048576) (hg : ¬ GoodS l) :
    Calls Tryd.prog 36 #[.slice a n cap] w fun e w' => e = .returned (.tuple #[.string ⟨#[]⟩, .bool false]) ∧ Below w.heap.size w w' := by
  have C1 := hide (specGood_any a l n cap w hn hs hn2 false (by simp [hg]))
  clear hn hs hg
  go_enter Tryd.func36, Tryd.ntmps36
  go_wp2_with fail
  refine C1.out.mono ?_
  rintro e w1 ⟨rfl, hb1⟩
  go_wp2
  go_ret2
  exact ⟨rfl, hb1⟩
end Go.Proofs.YtapffbbmofhpoaaDoor.L1
