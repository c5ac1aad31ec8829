/-
  The walk of the law FnExactValuesOf: it returns true at every list of totals and every number; memory that was there stays as it was.
-/
import Derived.Test.YtohcjafklfemfamL14TVal
import Derived.Test.YtohcjafklfemfamL14TSVal
import Derived.Test.YtohcjafklfemfamL14TSize
import Derived.Test.YtohcjafklfemfamL14TTo
import Derived.Test.YtohcjafklfemfamL14TEq
import Derived.Test.YtohcjafklfemfamL14TMark
import Derived.Test.YtohcjafklfemfamL14TSl
import Derived.Test.YtohcjafklfemfamL1Marks
namespace Go.Proofs.Ytohcjafklfemfam.fnExactValuesOf
open Go.RowKit L1 L3 L14T
set_option linter.unusedVariables false

open Classical in
set_option maxRecDepth 100000 in
set_option maxHeartbeats 8000000 in
theorem walk (a0 : Option Addr) (len0 cap0 : Nat) (z0 : List L14T.Rw) (a1 : Int) (w : World) (w0 : L14T.IsRowR w a0 len0 z0) (w1 : (Lit.int .i64 a1).wf = true) :
    Calls Try.prog 5 #[.slice a0 len0 cap0, .int .i64 a1] w fun e w' => e = .returned (.bool true) ∧ Below w.heap.size w w' := by
  obtain ⟨⟨hn0, hm0, hs0⟩, hst0⟩ := w0
  have HS0 := hide hs0
  have HN0 := hide hn0
  have HST0 := hide hst0
  unfold maxLen at hm0
  clear hs0 hn0 hst0
  clear w1
  by_cases hwt0 : (L14T.wtR z0 : Int) ≤ 1048576
  case neg =>
    have C00 := hide (fun w hs => L14T.szTotalS_any a0 z0 len0 cap0 1048576 w HN0.out (by omega) hs HST0.out (by omega) (by omega) _ (if_neg hwt0).symm)
    clear hwt0
    go_enter Try.func5, Try.ntmps5
    go_wp2_with fail
    refine (C00.out _ HS0.out).mono ?_
    rintro e wz0 ⟨rfl, hbz⟩
    have BZ0 := hide hbz
    clear hbz
    go_wp2
    go_ret
    exact ⟨rfl, BZ0.out⟩
  have hsz0 : len0 ≤ 1048576 := by unfold L14T.wtR at hwt0; rw [HN0.out] at hwt0; omega
  have HX0 : Hid (∀ i, i < len0 → (L14T.gr z0 i).l.length ≤ 1048576) := fun j hj => (L14T.wtR_lab z0 j (by rw [HN0.out]; exact hj) (by omega)).1
  have HXL0 : Hid (∀ j, j < z0.length → (L14T.gr z0 j).l.length ≤ 1048576) := fun j hj => HX0.out j (by rw [← HN0.out]; exact hj)
  have C00 := hide (fun w hs => L14T.szTotalS_any a0 z0 len0 cap0 1048576 w HN0.out (by omega) hs HST0.out (by omega) (by omega) _ (if_pos hwt0).symm)
  obtain ⟨lf0, hlf0⟩ : ∃ lf, lf = 1048576 - (L14T.wtR z0 : Int) := ⟨_, rfl⟩
  rw [← hlf0] at C00
  have hk0 : ¬ lf0 < 0 := by omega
  have hu0 : lf0 ≤ 1048576 := by omega
  have hkf0 : ∀ i, i ≤ len0 → L14T.kt (1) z0 i ≤ 1073741824 := fun j hj => by have := L14T.kt_le (1) z0 j (by rw [HN0.out]; exact hj); omega
  obtain ⟨K0, hK0⟩ : ∃ K, K = L14T.kt (1) z0 len0 := ⟨_, rfl⟩
  have hKp0 : 0 < K0 ∧ K0 ≤ 1 + 4 * 1048576 := ⟨by rw [hK0]; exact L14T.kt_pos _ (by omega) z0 len0, by rw [hK0]; have := L14T.kt_le (1) z0 len0 (by rw [HN0.out]; exact Nat.le_refl _); omega⟩
  have hKend : ¬ K0 < 0 := by omega
  have CM0 := hide (fun base hi v M wx hML hin ho hb => L14T.markTotalS_any (1) (by omega) base hi v len0 M z0 wx hML hsz0 hkf0 HX0.out hin ho hb)
  rw [← hK0] at CM0
  obtain ⟨r, hr⟩ : ∃ r, r = valRes z0 a1 := ⟨_, rfl⟩
  have c1 := fun a cap w hs => specValuesOf_any a z0 len0 cap a1 w HN0.out hsz0 hs HST0.out HXL0.out r hr
  have c2 := fun a cap w hs => implValuesOf_any a z0 len0 cap a1 w HN0.out hsz0 hs HST0.out HXL0.out r hr
  have hle := valRes_len z0 a1
  rw [← hr] at hle
  obtain ⟨ys, hy⟩ : ∃ ys, ys = r.getD [] := ⟨_, rfl⟩
  obtain ⟨m, hmm⟩ : ∃ m, m = ys.length := ⟨_, rfl⟩
  obtain ⟨ok, hok⟩ : ∃ ok, ok = r.isSome := ⟨_, rfl⟩
  simp only [RetI, ← hy, ← hmm, ← hok] at c1 c2
  rw [← hy, ← hmm] at hle
  have hm2 : m ≤ 1048576 := by omega
  have hq1 : ¬ (1 + (m : Int)) < 0 := by omega
  have hqq : ((1 + (m : Int)) != (1 + (m : Int))) = false := by simp
  have hoo : (ok != ok) = false := by simp
  have C1 := hide c1
  have C2 := hide c2
  have HM := hide hmm.symm
  clear c1 c2 hr hy hmm hok
  clear hlf0 hwt0 hK0 hm0 hu0 hkf0
  go_enter Try.func5, Try.ntmps5
  go_wp2_with fail
  refine (C00.out _ HS0.out).mono ?_
  rintro e wz0 ⟨rfl, hbz⟩
  have BZ0 := hide hbz
  clear hbz
  have FIN : Hid (∀ w' : World, Below wz0.heap.size wz0 w' → Below w.heap.size w w') := fun w' h => BZ0.out.trans (h.mono BZ0.out.size)
  have HSZ0 := hide (HS0.out.below BZ0.out)
  clear HS0 BZ0
  have HS0 := HSZ0
  clear HSZ0
  obtain ⟨wo, hwo⟩ : ∃ wo, wo = w := ⟨_, rfl⟩
  have HFIN := FIN
  clear FIN hwo wo
  go_wp2_with fail
  refine (L14T.toTotalS_any a0 z0 len0 cap0 _ HN0.out HS0.out hsz0 HX0.out).mono ?_
  rintro e w1 ⟨rfl, ⟨MP0, hM, ho⟩, hb⟩
  have Z1 := hide hb.size
  have B_1 := hide hb
  clear hb 
  have P0_1 := hide ho.sl
  rw [hM] at P0_1
  clear ho hM
  go_wp2_with fail
  refine (C1.out _ _  _ P0_1.out).mono ?_
  rintro e w2 ⟨vW, rfl, hoW, hb⟩
  clear P0_1
  obtain ⟨aW, cW, rfl⟩ := L14T.own_shapeV hoW
  have Z2 := hide hb.size
  have B_2 := hide (B_1.out.trans (hb.mono B_1.out.size))
  clear hb B_1
  have SW := hide (L4.own_slI hoW)
  clear hoW
  have LW_2 := hide (Below.refl w2.heap.size w2)
  go_wp2_with fail
  refine (L14T.toTotalS_any a0 z0 len0 cap0 _ HN0.out (HS0.out.below B_2.out) hsz0 HX0.out).mono ?_
  rintro e w3 ⟨rfl, ⟨MX0, hM, ho⟩, hb⟩
  have Z3 := hide hb.size
  have B_3 := hide (B_2.out.trans (hb.mono B_2.out.size))
  have LW_3 := hide (LW_2.out.trans (hb.mono LW_2.out.size))
  clear hb B_2 LW_2
  have X0_3 := hide ho
  have IX0 := hide ho.inR
  have MX0_eq := hide hM
  clear ho hM
  go_wp2_with fail
  refine (C2.out _ _  _ (L14T.OwR_sl X0_3.out MX0_eq.out)).mono ?_
  rintro e w4 ⟨vG, rfl, ho, hb⟩
  obtain ⟨aG, cG, rfl⟩ := L14T.own_shapeV ho
  have Z4 := hide hb.size
  have X0_4 := hide (X0_3.out.below hb)
  have B_4 := hide (B_3.out.trans (hb.mono B_3.out.size))
  have LW_4 := hide (LW_3.out.trans (hb.mono LW_3.out.size))
  clear hb X0_3 B_3 LW_3
  have G_4 := hide ho
  clear ho
  go_wp2_with fail
  refine (eqIntS_same _ _ ys m _ _ _ HM.out (L4.own_slI G_4.out) (SW.out.below LW_4.out) hm2).mono ?_
  rintro e w5 ⟨rfl, hb⟩
  have Z5 := hide hb.size
  have X0_5 := hide (X0_4.out.below hb)
  have G_5 := hide (L14T.own_belowR G_4.out hb)
  have B_5 := hide (B_4.out.trans (hb.mono B_4.out.size))
  have LW_5 := hide (LW_4.out.trans (hb.mono LW_4.out.size))
  clear hb X0_4 G_4 B_4 LW_4
  go_wp2_with fail
  refine (L14T.toTotalS_any a0 z0 len0 cap0 _ HN0.out (HS0.out.below B_5.out) hsz0 HX0.out).mono ?_
  rintro e w6 ⟨rfl, ⟨MS, hM, ho⟩, hb⟩
  have Z6 := hide hb.size
  have X0_6 := hide (X0_5.out.below hb)
  have G_6 := hide (L14T.own_belowR G_5.out hb)
  have B_6 := hide (B_5.out.trans (hb.mono B_5.out.size))
  have LW_6 := hide (LW_5.out.trans (hb.mono LW_5.out.size))
  clear hb X0_5 G_5 B_5 LW_5
  have S_6 := hide ho.sl
  rw [hM] at S_6
  clear ho hM
  go_wp2_with fail
  refine (L14T.eqTotalS_same _ _ z0 len0 _ _ _ HN0.out (L14T.OwR_sl X0_6.out MX0_eq.out) S_6.out hsz0 HX0.out).mono ?_
  rintro e w7 ⟨rfl, hb⟩
  clear S_6
  have Z7 := hide hb.size
  have X0_7 := hide (X0_6.out.below hb)
  have G_7 := hide (L14T.own_belowR G_6.out hb)
  have B_7 := hide (B_6.out.trans (hb.mono B_6.out.size))
  have LW_7 := hide (LW_6.out.trans (hb.mono LW_6.out.size))
  clear hb X0_6 G_6 B_6 LW_6
  have hbw : w2.heap.size ≤ w7.heap.size := by have := Z1.out; have := Z2.out; have := Z3.out; have := Z4.out; have := Z5.out; have := Z6.out; have := Z7.out; omega
  go_wp2_with fail
  refine (CM0.out w2.heap.size w3.heap.size _ _ _ MX0_eq.out IX0.out X0_7.out hbw).mono ?_
  rintro e w8 ⟨rfl, _, hon⟩
  clear hbw
  have hlb : w2.heap.size ≤ w7.heap.size := by have := Z1.out; have := Z2.out; have := Z3.out; have := Z4.out; have := Z5.out; have := Z6.out; have := Z7.out; omega
  have hwb : wz0.heap.size ≤ w2.heap.size := by have := Z1.out; have := Z2.out; have := Z3.out; have := Z4.out; have := Z5.out; have := Z6.out; have := Z7.out; omega
  have hWb : w2.heap.size ≤ w2.heap.size := by have := Z1.out; have := Z2.out; have := Z3.out; have := Z4.out; have := Z5.out; have := Z6.out; have := Z7.out; omega
  have G_8 := hide (hon.row G_7.out (by have := Z1.out; have := Z2.out; have := Z3.out; have := Z4.out; have := Z5.out; have := Z6.out; have := Z7.out; omega))
  have Z8 := hide hon.size
  have B_8 := hide (B_7.out.trans ((hon.below hlb).mono hwb))
  have LW_8 := hide (LW_7.out.trans ((hon.below hlb).mono hWb))
  clear hon hlb hwb hWb X0_7 G_7 B_7 LW_7
  go_wp2_with fail
  refine (eqIntS_same _ _ ys m _ _ _ HM.out (L4.own_slI G_8.out) (SW.out.below LW_8.out) hm2).mono ?_
  rintro e w9 ⟨rfl, hb⟩
  have Z9 := hide hb.size
  have G_9 := hide (L14T.own_belowR G_8.out hb)
  have B_9 := hide (B_8.out.trans (hb.mono B_8.out.size))
  have LW_9 := hide (LW_8.out.trans (hb.mono LW_8.out.size))
  clear hb G_8 B_8 LW_8
  go_wp2_with fail
  refine (markIntS_all w3.heap.size _ ys m _ hm2 G_9.out).mono ?_
  rintro e w10 ⟨rfl, ho, hb, hg⟩
  have hwb : wz0.heap.size ≤ w3.heap.size := by have := Z1.out; have := Z2.out; have := Z3.out; have := Z4.out; have := Z5.out; have := Z6.out; have := Z7.out; have := Z8.out; have := Z9.out; omega
  have hWb : w2.heap.size ≤ w3.heap.size := by have := Z1.out; have := Z2.out; have := Z3.out; have := Z4.out; have := Z5.out; have := Z6.out; have := Z7.out; have := Z8.out; have := Z9.out; omega
  have B_10 := hide (B_9.out.trans (hb.mono hwb))
  have LW_10 := hide (LW_9.out.trans (hb.mono hWb))
  have Z10 := hide hb.size
  have G_10 := hide ho
  clear ho hb hg hwb hWb B_9 LW_9 G_9
  go_wp2_with fail
  refine (heldIntS_any _ m _ _ hm2 (L4.own_slI G_10.out)).mono ?_
  rintro e w11 ⟨rfl, hb⟩
  have Z11 := hide hb.size
  have G_11 := hide (L14T.own_belowR G_10.out hb)
  have B_11 := hide (B_10.out.trans (hb.mono B_10.out.size))
  have LW_11 := hide (LW_10.out.trans (hb.mono LW_10.out.size))
  clear hb G_10 B_10 LW_10
  go_wp2_with fail
  refine (L14T.toTotalS_any a0 z0 len0 cap0 _ HN0.out (HS0.out.below B_11.out) hsz0 HX0.out).mono ?_
  rintro e w12 ⟨rfl, ⟨MP0, hM, ho⟩, hb⟩
  have Z12 := hide hb.size
  have G_12 := hide (L14T.own_belowR G_11.out hb)
  have B_12 := hide (B_11.out.trans (hb.mono B_11.out.size))
  have LW_12 := hide (LW_11.out.trans (hb.mono LW_11.out.size))
  clear hb G_11 B_11 LW_11
  have P0_12 := hide ho.sl
  rw [hM] at P0_12
  clear ho hM
  go_wp2_with fail
  refine (C2.out _ _  _ P0_12.out).mono ?_
  rintro e w13 ⟨vH, rfl, ho, hb⟩
  clear P0_12
  obtain ⟨aH, cH, rfl⟩ := L14T.own_shapeV ho
  have Z13 := hide hb.size
  have G_13 := hide (L14T.own_belowR G_12.out hb)
  have B_13 := hide (B_12.out.trans (hb.mono B_12.out.size))
  have LW_13 := hide (LW_12.out.trans (hb.mono LW_12.out.size))
  clear hb G_12 B_12 LW_12
  have SH := hide (L4.own_slI ho)
  clear ho
  go_wp2_with fail
  refine (eqIntS_same _ _ ys m _ _ _ HM.out SH.out (SW.out.below LW_13.out) hm2).mono ?_
  rintro e w14 ⟨rfl, hb⟩
  have Z14 := hide hb.size
  have G_14 := hide (L14T.own_belowR G_13.out hb)
  have B_14 := hide (B_13.out.trans (hb.mono B_13.out.size))
  have LW_14 := hide (LW_13.out.trans (hb.mono LW_13.out.size))
  clear hb G_13 B_13 LW_13
  clear SH
  go_wp2_with fail
  refine (heldIntS_any _ m _ _ hm2 (L4.own_slI G_14.out)).mono ?_
  rintro e w15 ⟨rfl, hb⟩
  have Z15 := hide hb.size
  have G_15 := hide (L14T.own_belowR G_14.out hb)
  have B_15 := hide (B_14.out.trans (hb.mono B_14.out.size))
  have LW_15 := hide (LW_14.out.trans (hb.mono LW_14.out.size))
  clear hb G_14 B_14 LW_14
  go_wp2
  go_ret
  exact ⟨rfl, HFIN.out _ B_15.out⟩
end Go.Proofs.Ytohcjafklfemfam.fnExactValuesOf
