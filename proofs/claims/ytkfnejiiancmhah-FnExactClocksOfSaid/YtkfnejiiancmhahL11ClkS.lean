/-
  Contracts: spec.l11Clocks, spec.ClocksOf.
-/
import Derived.Test.YtkfnejiiancmhahL11SSP
import Derived.Test.YtkfnejiiancmhahL11Most
import Derived.Test.YtkfnejiiancmhahL11Prior
import Derived.Test.YtkfnejiiancmhahL11SGood
import Derived.Test.YtkfnejiiancmhahL11AtM
namespace Go.Proofs.Ytkfnejiiancmhah.L11
open Go.RowKit L1 Own
set_option linter.unusedVariables false

theorem sl_of_lA {w : World} {B g n cap : Nat} {E : Nat → Int} (h : w.ownsRow B 3 1 (.slice (some ⟨g, 0, none⟩) n cap) n (lA n E)) : Sl w (some ⟨g, 0, none⟩) (clL E n) := fun j hj => by
  have hj' : j < n := by simpa [clL] using hj
  have h1 := h.cellAt j (by omega)
  rw [lA_get n E j hj'] at h1
  exact ⟨g, 0, rfl, by rw [Nat.zero_add, h1]; simp [clL, List.getD, hj']⟩
set_option maxRecDepth 100000 in
set_option maxHeartbeats 8000000 in
theorem l11Clocks_any (Nn : Nat) (a : Option Addr) (l : List (Int × Int)) (n cap : Nat) (w : World) (hn : l.length = n) (hs : Sl2 w a l) (hg : GoodV (Nn : Int) l) :
    Calls Try.prog 37 #[.int .i64 Nn, .slice a n cap] w fun e w' => ∃ v, e = .returned v ∧ SW w' w.heap.size w'.heap.size v n Nn (cE l) ∧ Below w.heap.size w w' := by
  have h40 : n ≤ 40 := by have := hg.2.2.1; omega
  have HN1 : Hid (1 ≤ Nn) := hide (by have := hg.1; omega)
  have hN5 : Nn ≤ 5 := by have := hg.2.1; omega
  have hNI : (0 : Int) ≤ (Nn : Int) := by omega
  obtain ⟨i1, hi1, hy0, hy1, hy2⟩ := info_parts info_int
  obtain ⟨j1, hj1, hz0, hz1, hz2⟩ := info_parts info_sl11
  have HG := hide hg
  have HS := hide hs
  have HN := hide hn
  clear hg hs hn
  go_enter Try.func37, Try.ntmps37
  go_wp2
  go_loopw [5, 12] (fun ot i wr => ∃ k : Nat, k ≤ n ∧ i = .int .i64 k ∧ Hid (SW wr w.heap.size wr.heap.size ot k Nn (cE l)) ∧ Hid (Below w.heap.size w wr)) (fun _ i _ => n - (intOf i).toNat)
  case atStart => exact ⟨0, Nat.zero_le _, rfl, SW.nil _ _ _ _ _, Below.refl _ _⟩
  case round =>
    obtain ⟨k, hk, rfl, HW, HB⟩ := hrel
    obtain ⟨bs, cs, hV⟩ := HW.out
    obtain ⟨ta, tcap, hot⟩ := hV.form
    subst hot
    by_cases hlt : k < n
    · have hv := HG.out.2.2.2 k (by rw [HN.out]; exact hlt)
      obtain ⟨xn, hx⟩ : ∃ xn : Nat, nd l k = (xn : Int) := ⟨(nd l k).toNat, by have := hv.1; omega⟩
      have hxN : xn < Nn := by have := hv.2.1; omega
      have hsl := HS.out.below HB.out
      obtain ⟨b, off, rfl, q1, q2⟩ := hsl k (by rw [HN.out]; exact hlt)
      clear q1 q2
      obtain ⟨hc, hd⟩ := hsl.two k (by rw [HN.out]; exact hlt)
      rw [hx] at hc
      obtain ⟨y, hy⟩ : ∃ y, y = fr l k := ⟨_, rfl⟩
      rw [← hy] at hd
      obtain ⟨p, hp⟩ : ∃ p, p = pri l (nd l k) k := ⟨_, rfl⟩
      have CP := hide (fun w hs => prior_any b off l n cap k w HN.out hs hlt (by omega) p hp)
      have hltI : (k : Int) < (n : Int) := by omega
      have hxI : (xn : Int) < (Nn : Int) := by omega
      have hx0 : (0 : Int) ≤ (xn : Int) := by omega
      have hplt := pri_lt l (nd l k) k
      have hpge := pri_ge l (nd l k) k
      rw [← hp] at hplt hpge
      have hcl : ∀ i : Nat, clk l k (i : Int) = max (clkO l p (i : Int)) (clkO l y (i : Int)) + if (i : Int) = (xn : Int) then 1 else 0 := fun i => by
        rw [clk_eq l k _ hv.2.2.2.1, hx, hp, hx, hy]
      have hylt : y < (k : Int) := by rw [hy]; exact hv.2.2.2.1
      have hyge : -1 ≤ y := by rw [hy]; exact hv.2.2.1
      have HCL := hide hcl
      have HSL := hide hsl
      have HVr := hide hV
      have HWE0 := hide HB.out.size
      clear hx hv hsl hy hp hcl hV HW
      go_upto_region 5 with fail
      obtain ⟨W0, hW0⟩ : ∃ W0, wr.alloc (.cells #[.int .i64 xn, .int .i64 y] 48) = W0 := ⟨_, rfl⟩
      have hbw : Below wr.heap.size wr W0 := by rw [← hW0]; exact (Below.refl _ _).alloc (Nat.le_refl _) _
      have E00 : Hid (W0.cell? ⟨wr.heap.size, 0, none⟩ = some (.int .i64 xn)) := by rw [← hW0]; exact hide (by simp)
      have E10 : Hid (W0.cell? ⟨wr.heap.size, 1, none⟩ = some (.int .i64 y)) := by rw [← hW0]; exact hide (by simp)
      have HV0 := hide (HVr.out.below hbw)
      have HB0 := hide (HB.out.trans (hbw.mono HB.out.size))
      have HS0 := hide (HSL.out.below hbw)
      have hzz := hbw.size
      rw [hW0]
      obtain ⟨eb, heb⟩ : ∃ eb, eb = wr.heap.size := ⟨_, rfl⟩
      rw [← heb] at E00 E10 HV0 hzz HWE0 ⊢
      have HWE : Hid (w.heap.size ≤ eb) := HWE0
      clear hW0 hbw heb HVr HB HSL HWE0 hc hd
      obtain ⟨wm, hmk, hown1, hg1⟩ := run_make_full (P := Try.prog) W0 W0.heap.size 38 3 i1 (.int .i64 0) 1 Try.underlying38 hi1 hy0 hy1 .i64 .i64 Nn (by rw [hy2]; omega) (by unfold maxLen; omega) (Nat.le_refl _)
      rw [made_lA] at hown1
      have hbm : Below W0.heap.size W0 wm := (Below.refl _ _).grown hg1 (Nat.le_refl _) (fun k hk => by cases hk)
      have HCR0 : Hid (wm.ownsRow w.heap.size 3 1 (.slice (some ⟨W0.heap.size, 0, none⟩) Nn Nn) Nn (lA Nn (fun _ => 0))) := hide (own_baseT hown1 HB0.out.size)
      have HVM := hide (HV0.out.below hbm)
      have BM := hide (HB0.out.trans (hbm.mono HB0.out.size))
      have HSM := hide (HS0.out.below hbm)
      have E0M := hide ((hbm.cell (p := ⟨eb, 0, none⟩) (blk_lt E00.out)).trans E00.out)
      have E1M := hide ((hbm.cell (p := ⟨eb, 1, none⟩) (blk_lt E10.out)).trans E10.out)
      go_upto_region 6 with fail
      obtain ⟨cq, hcq⟩ : ∃ cq, cq = W0.heap.size := ⟨_, rfl⟩
      rw [← hcq] at HCR0 hzz ⊢
      clear hmk hown1 hg1 hbm hcq HV0 HB0 HS0 E00 E10
      go_wp2_with fail
      refine (CP.out _ HSM.out).mono ?_
      rintro e w2 ⟨rfl, hb2⟩
      have HCR2 := hide (own_belowT HCR0.out hb2)
      have HV2 := hide (HVM.out.below hb2)
      have B2 := hide (BM.out.trans (hb2.mono BM.out.size))
      have E02 := hide ((hb2.cell (p := ⟨eb, 0, none⟩) (blk_lt E0M.out)).trans E0M.out)
      have E12 := hide ((hb2.cell (p := ⟨eb, 1, none⟩) (blk_lt E1M.out)).trans E1M.out)
      clear hb2 HCR0 HVM BM HSM E0M E1M CP
      obtain ⟨cc, hcc⟩ : ∃ cc, cc = Nn := ⟨_, rfl⟩
      have HCR3 : Hid (w2.ownsRow w.heap.size 3 1 (.slice (some ⟨cq, 0, none⟩) Nn cc) Nn (lA Nn (fun _ => 0))) := by rw [hcc]; exact HCR2
      have hsl0 : Value.slice (some ⟨cq, 0, none⟩) Nn Nn = .slice (some ⟨cq, 0, none⟩) Nn cc := by rw [hcc]
      rw [hsl0]
      clear HCR2 hcc hsl0
      by_cases hp0 : p < 0
      · by_cases hy0' : y < 0
        · clear hpge hyge
          have hpb : ¬ 0 ≤ p := by omega
          have HM1 : Hid (∀ i : Nat, (0 : Int) = clkO l p (i : Int)) := hide (fun i => by unfold clkO; rw [if_neg hpb])
          have hyb : ¬ 0 ≤ y := by omega
          have e0 := E02.out
          have e1 := E12.out
          obtain ⟨VW, hVW⟩ : ∃ VW, VW = w2 := ⟨_, rfl⟩
          have HVV0 : Hid (SV VW w.heap.size eb (.slice ta k tcap) k Nn bs cs (cE l)) := by rw [hVW]; exact HV2
          have BVV0 : Hid (Below w.heap.size w VW) := by rw [hVW]; exact B2
          have HCQN : Hid (eb ≤ cq) := hide hzz
          obtain ⟨M, hM⟩ : ∃ M : Nat → Int, M = (fun _ => 0) := ⟨_, rfl⟩
          have HCRN : Hid (VW.ownsRow w.heap.size 3 1 (.slice (some ⟨cq, 0, none⟩) Nn cc) Nn (lA Nn M)) := by rw [hM, hVW]; exact HCR3
          have hMe : ∀ i : Nat, M i = max (clkO l p (i : Int)) (clkO l y (i : Int)) := fun i => by
            have h1 : clkO l y (i : Int) = 0 := by unfold clkO; rw [if_neg hyb]
            have h2 := clkO_nn l p (i : Int)
            rw [hM, h1, ← HM1.out i]
            rw [← HM1.out i] at h2
            (try dsimp only)
            omega
          rw [← hVW] at e0 e1 ⊢
          have HMB : Hid (∀ i : Nat, i < 5 → 0 ≤ M i ∧ M i ≤ (k : Int)) := hide (fun i _ => by
            have h1 := clkO_bd l p k (by omega) (i : Int)
            have h2 := clkO_bd l y k (by omega) (i : Int)
            rw [hMe]; omega)
          have HM : Hid (∀ i : Nat, i < 5 → (M i + if i = xn then 1 else 0) = cE l k i) := hide (fun i _ => by
            have h1 := HCL.out i
            show _ = clk l k (i : Int)
            rw [h1, hMe]
            by_cases e : i = xn
            · rw [if_pos e, if_pos (by omega)]
            · rw [if_neg e, if_neg (by omega)])
          clear hVW hM HV2 B2 HCR3 E02 E12
          clear hMe HM1 HCL
          have hcx := (HCRN.out.cellAt xn (by omega)).trans (lA_get Nn M xn hxN)
          have hcf := HCRN.out.frozenAt xn
          have hMb := HMB.out xn (by omega)
          obtain ⟨mx, hmx⟩ : ∃ mx, mx = M xn := ⟨_, rfl⟩
          rw [← hmx] at hcx hMb
          have hmb0 := hMb.1
          have hmb1 : mx ≤ 40 := by omega
          have HMX := hide hmx
          clear hmx hMb
          go_upto_region 12 with fail
          obtain ⟨V5, hV5⟩ : ∃ V5, VW.setCell ⟨cq, xn, none⟩ (.int .i64 (mx + 1)) = V5 := ⟨_, rfl⟩
          have HR5 : Hid (V5.ownsRow w.heap.size 3 1 (.slice (some ⟨cq, 0, none⟩) Nn cc) Nn (lA Nn (cE l k))) := by
            rw [← hV5]
            have h1 := (HCRN.out.stored xn (.int .i64 (mx + 1))).1
            rw [lA_upd] at h1
            have h2 : lA Nn (updI M xn (mx + 1)) = lA Nn (cE l k) := lA_congr Nn _ _ (fun i hi => by
              have := HM.out i (by omega)
              unfold updI
              by_cases e : i = xn
              · subst e; rw [if_pos rfl]; rw [if_pos rfl] at this; rw [HMX.out]; exact this
              · rw [if_neg e]; rw [if_neg e] at this; omega)
            rw [h2] at h1
            exact hide h1
          have HV5 : Hid (SV V5 w.heap.size eb (.slice ta k tcap) k Nn bs cs (cE l)) := by
            rw [← hV5]
            exact hide (HVV0.out.keep (fun q h1 h2 => Below.heap_setCell VW ⟨cq, xn, none⟩ _ q (show q ≠ cq by have := HCQN.out; omega)))
          have B5 : Hid (Below w.heap.size w V5) := by
            rw [← hV5]
            exact hide (BVV0.out.setCell (p := ⟨cq, xn, none⟩) (show w.heap.size ≤ cq by have h1 := HCQN.out; have h2 := HWE.out; omega) _)
          rw [hV5]
          have hsz5 := B5.out.size
          clear hV5 hcx hcf e0 e1 HCRN HVV0 BVV0 hmb0 hmb1
          go_wp2_with (first
            | (at_builtin; refine wpList_append_own_at _ rfl _ _ 29 rfl w.heap.size 38 j1 (.slice none 0 0) 1 24 Try.underlying29 hj1 hz0 hz1 hz2 rfl (by decide) _ _ _ rfl (HV5.out.out.alloc _) ⟨V5.heap.size, 0, none⟩ 1 1 [.slice (some ⟨cq, 0, none⟩) Nn cc] rfl rfl (cell_sl11 _ _ rfl _ _) (by intro u hu; simp at hu; subst hu; rfl) (by unfold maxLen; omega) (by omega) (by simp; omega) ?_)
            | go_in)
          intro v6 w6 hown6 hgrow6 _ _
          have H7 : Hid (SW w6 w.heap.size w6.heap.size v6 (k + 1) Nn (cE l)) := hide (sv_push HV5.out cq cc HCQN.out HR5.out ((Below.refl _ _).alloc (Nat.le_refl _) _) hown6 hgrow6)
          have B7 : Hid (Below w.heap.size w w6) := hide ((B5.out.alloc B5.out.size _).grown hgrow6 (by simp; omega) (fun q hq => (HV5.out.out.lt q hq).1))
          clear hown6 hgrow6
          go_wp2
          go_roundw
          case rel => exact ⟨k + 1, by omega, by go_num, H7, B7⟩
          case measure => simp [intOf]; omega
        · clear hpge
          have hpb : ¬ 0 ≤ p := by omega
          have HM1 : Hid (∀ i : Nat, (0 : Int) = clkO l p (i : Int)) := hide (fun i => by unfold clkO; rw [if_neg hpb])
          obtain ⟨f, hf⟩ : ∃ f : Nat, y = (f : Int) := ⟨y.toNat, by omega⟩
          subst hf
          have hfk : f < k := by omega
          have hfI : (f : Int) < (k : Int) := by omega
          have hfI0 : (0 : Int) ≤ (f : Int) := by omega
          have e1f := E12.out
          obtain ⟨g2, hta, hcell⟩ := HV2.out.addr (by omega)
          have hcp := hcell f (by omega)
          have CM := hide (l11Most_any (some ⟨cq, 0, none⟩) (some ⟨bs f, 0, none⟩) (fun _ => 0) (cE l f) Nn cc (cs f) w2 (sl_of_lA HCR3.out) (HV2.out.sl f (by omega)) HN1.out (by omega))
          subst hta
          obtain ⟨d1, hd1⟩ : ∃ d, d = bs f := ⟨_, rfl⟩
          obtain ⟨p1, hp1⟩ : ∃ d, d = cs f := ⟨_, rfl⟩
          rw [← hd1, ← hp1] at hcp CM
          clear hcell hd1 hp1
          go_wp2_with fail
          refine CM.out.mono ?_
          rintro e VW ⟨vm, rfl, hom, hbm⟩
          obtain ⟨cqn, ccn, rfl⟩ : ∃ cq cc, vm = .slice (some ⟨cq, 0, none⟩) Nn cc := by
            rcases hom.2 with ⟨_, h0⟩ | ⟨q, cap, cur, hv, _⟩
            · have := HN1.out; omega
            · exact ⟨q, cap, hv⟩
          have HVV0 := hide (HV2.out.below hbm)
          have BVV0 := hide (B2.out.trans (hbm.mono B2.out.size))
          have e0 := (hbm.cell (p := ⟨eb, 0, none⟩) (blk_lt E02.out)).trans E02.out
          have e1 := (hbm.cell (p := ⟨eb, 1, none⟩) (blk_lt E12.out)).trans E12.out
          have HCQN : Hid (eb ≤ cqn) := hide (by have h1 := (hom.lt cqn rfl).1; have h2 := blk_lt E02.out; omega)
          obtain ⟨M, hM⟩ : ∃ M : Nat → Int, M = jn (fun _ => 0) (cE l f) := ⟨_, rfl⟩
          have HCRN : Hid (VW.ownsRow w.heap.size 3 1 (.slice (some ⟨cqn, 0, none⟩) Nn ccn) Nn (lA Nn M)) := hide (by
            have h1 := own_baseT hom B2.out.size
            rw [clL_lA] at h1
            rw [hM]; exact h1)
          have hfe : ∀ i : Nat, clkO l (f : Int) (i : Int) = cE l f i := fun i => by unfold clkO cE; rw [if_pos (by omega)]; rfl
          have hMe : ∀ i : Nat, M i = max (clkO l p (i : Int)) (clkO l (f : Int) (i : Int)) := fun i => by
            rw [hM, hfe, ← HM1.out i]; rfl
          have HMB : Hid (∀ i : Nat, i < 5 → 0 ≤ M i ∧ M i ≤ (k : Int)) := hide (fun i _ => by
            have h1 := clkO_bd l p k (by omega) (i : Int)
            have h2 := clkO_bd l (f : Int) k (by omega) (i : Int)
            rw [hMe]; omega)
          have HM : Hid (∀ i : Nat, i < 5 → (M i + if i = xn then 1 else 0) = cE l k i) := hide (fun i _ => by
            have h1 := HCL.out i
            show _ = clk l k (i : Int)
            rw [h1, hMe]
            by_cases e : i = xn
            · rw [if_pos e, if_pos (by omega)]
            · rw [if_neg e, if_neg (by omega)])
          clear hom hbm hM hfe HV2 B2 HCR3 E02 E12 CM hcp e1f
          clear hMe HM1 HCL
          have hcx := (HCRN.out.cellAt xn (by omega)).trans (lA_get Nn M xn hxN)
          have hcf := HCRN.out.frozenAt xn
          have hMb := HMB.out xn (by omega)
          obtain ⟨mx, hmx⟩ : ∃ mx, mx = M xn := ⟨_, rfl⟩
          rw [← hmx] at hcx hMb
          have hmb0 := hMb.1
          have hmb1 : mx ≤ 40 := by omega
          have HMX := hide hmx
          clear hmx hMb
          go_upto_region 12 with fail
          obtain ⟨V5, hV5⟩ : ∃ V5, VW.setCell ⟨cqn, xn, none⟩ (.int .i64 (mx + 1)) = V5 := ⟨_, rfl⟩
          have HR5 : Hid (V5.ownsRow w.heap.size 3 1 (.slice (some ⟨cqn, 0, none⟩) Nn ccn) Nn (lA Nn (cE l k))) := by
            rw [← hV5]
            have h1 := (HCRN.out.stored xn (.int .i64 (mx + 1))).1
            rw [lA_upd] at h1
            have h2 : lA Nn (updI M xn (mx + 1)) = lA Nn (cE l k) := lA_congr Nn _ _ (fun i hi => by
              have := HM.out i (by omega)
              unfold updI
              by_cases e : i = xn
              · subst e; rw [if_pos rfl]; rw [if_pos rfl] at this; rw [HMX.out]; exact this
              · rw [if_neg e]; rw [if_neg e] at this; omega)
            rw [h2] at h1
            exact hide h1
          have HV5 : Hid (SV V5 w.heap.size eb (.slice (some ⟨g2, 0, none⟩) k tcap) k Nn bs cs (cE l)) := by
            rw [← hV5]
            exact hide (HVV0.out.keep (fun q h1 h2 => Below.heap_setCell VW ⟨cqn, xn, none⟩ _ q (show q ≠ cqn by have := HCQN.out; omega)))
          have B5 : Hid (Below w.heap.size w V5) := by
            rw [← hV5]
            exact hide (BVV0.out.setCell (p := ⟨cqn, xn, none⟩) (show w.heap.size ≤ cqn by have h1 := HCQN.out; have h2 := HWE.out; omega) _)
          rw [hV5]
          have hsz5 := B5.out.size
          clear hV5 hcx hcf e0 e1 HCRN HVV0 BVV0 hmb0 hmb1
          go_wp2_with (first
            | (at_builtin; refine wpList_append_own_at _ rfl _ _ 29 rfl w.heap.size 38 j1 (.slice none 0 0) 1 24 Try.underlying29 hj1 hz0 hz1 hz2 rfl (by decide) _ _ _ rfl (HV5.out.out.alloc _) ⟨V5.heap.size, 0, none⟩ 1 1 [.slice (some ⟨cqn, 0, none⟩) Nn ccn] rfl rfl (cell_sl11 _ _ rfl _ _) (by intro u hu; simp at hu; subst hu; rfl) (by unfold maxLen; omega) (by omega) (by simp; omega) ?_)
            | go_in)
          intro v6 w6 hown6 hgrow6 _ _
          have H7 : Hid (SW w6 w.heap.size w6.heap.size v6 (k + 1) Nn (cE l)) := hide (sv_push HV5.out cqn ccn HCQN.out HR5.out ((Below.refl _ _).alloc (Nat.le_refl _) _) hown6 hgrow6)
          have B7 : Hid (Below w.heap.size w w6) := hide ((B5.out.alloc B5.out.size _).grown hgrow6 (by simp; omega) (fun q hq => (HV5.out.out.lt q hq).1))
          clear hown6 hgrow6
          go_wp2
          go_roundw
          case rel => exact ⟨k + 1, by omega, by go_num, H7, B7⟩
          case measure => simp [intOf]; omega
      · by_cases hy0' : y < 0
        · clear hyge
          obtain ⟨pn, hpn⟩ : ∃ pn : Nat, p = (pn : Int) := ⟨p.toNat, by omega⟩
          subst hpn
          have hpk : pn < k := by omega
          have hpI : (pn : Int) < (k : Int) := by omega
          have hpI0 : (0 : Int) ≤ (pn : Int) := by omega
          obtain ⟨g1, hta, hcell⟩ := HV2.out.addr (by omega)
          have hcp := hcell pn (by omega)
          have CM := hide (l11Most_any (some ⟨cq, 0, none⟩) (some ⟨bs pn, 0, none⟩) (fun _ => 0) (cE l pn) Nn cc (cs pn) w2 (sl_of_lA HCR3.out) (HV2.out.sl pn (by omega)) HN1.out (by omega))
          subst hta
          obtain ⟨d1, hd1⟩ : ∃ d, d = bs pn := ⟨_, rfl⟩
          obtain ⟨p1, hp1⟩ : ∃ d, d = cs pn := ⟨_, rfl⟩
          rw [← hd1, ← hp1] at hcp CM
          clear hcell hd1 hp1
          go_wp2_with fail
          refine CM.out.mono ?_
          rintro e w3 ⟨vm, rfl, hom, hbm⟩
          obtain ⟨cq2, cc2, rfl⟩ : ∃ cq cc, vm = .slice (some ⟨cq, 0, none⟩) Nn cc := by
            rcases hom.2 with ⟨_, h0⟩ | ⟨q, cap, cur, hv, _⟩
            · have := HN1.out; omega
            · exact ⟨q, cap, hv⟩
          have HV3 := hide (HV2.out.below hbm)
          have B3 := hide (B2.out.trans (hbm.mono B2.out.size))
          have E03 := hide ((hbm.cell (p := ⟨eb, 0, none⟩) (blk_lt E02.out)).trans E02.out)
          have E13 := hide ((hbm.cell (p := ⟨eb, 1, none⟩) (blk_lt E12.out)).trans E12.out)
          have HCQ3 : eb ≤ cq2 := by have h1 := (hom.lt cq2 rfl).1; have h2 := blk_lt E02.out; omega
          obtain ⟨M1, hM1⟩ : ∃ M1 : Nat → Int, M1 = jn (fun _ => 0) (cE l pn) := ⟨_, rfl⟩
          have HCR4 : Hid (w3.ownsRow w.heap.size 3 1 (.slice (some ⟨cq2, 0, none⟩) Nn cc2) Nn (lA Nn M1)) := hide (by
            have h1 := own_baseT hom B2.out.size
            rw [clL_lA] at h1
            rw [hM1]; exact h1)
          have HM1 : Hid (∀ i : Nat, M1 i = clkO l (pn : Int) (i : Int)) := hide (fun i => by
            rw [hM1]; unfold jn
            have h1 : clkO l (pn : Int) (i : Int) = cE l pn i := by unfold clkO cE; rw [if_pos (by omega)]; rfl
            have h2 := clkO_nn l (pn : Int) (i : Int)
            rw [h1] at h2 ⊢
            (try dsimp only)
            omega)
          clear hom hbm hM1 HV2 B2 HCR3 E02 E12 CM hcp
          have hyb : ¬ 0 ≤ y := by omega
          have e0 := E03.out
          have e1 := E13.out
          obtain ⟨VW, hVW⟩ : ∃ VW, VW = w3 := ⟨_, rfl⟩
          have HVV0 : Hid (SV VW w.heap.size eb (.slice (some ⟨g1, 0, none⟩) k tcap) k Nn bs cs (cE l)) := by rw [hVW]; exact HV3
          have BVV0 : Hid (Below w.heap.size w VW) := by rw [hVW]; exact B3
          have HCQN : Hid (eb ≤ cq2) := hide HCQ3
          obtain ⟨M, hM⟩ : ∃ M : Nat → Int, M = M1 := ⟨_, rfl⟩
          have HCRN : Hid (VW.ownsRow w.heap.size 3 1 (.slice (some ⟨cq2, 0, none⟩) Nn cc2) Nn (lA Nn M)) := by rw [hM, hVW]; exact HCR4
          have hMe : ∀ i : Nat, M i = max (clkO l (pn : Int) (i : Int)) (clkO l y (i : Int)) := fun i => by
            have h1 : clkO l y (i : Int) = 0 := by unfold clkO; rw [if_neg hyb]
            have h2 := clkO_nn l (pn : Int) (i : Int)
            rw [hM, h1, ← HM1.out i]
            rw [← HM1.out i] at h2
            (try dsimp only)
            omega
          rw [← hVW] at e0 e1 ⊢
          have HMB : Hid (∀ i : Nat, i < 5 → 0 ≤ M i ∧ M i ≤ (k : Int)) := hide (fun i _ => by
            have h1 := clkO_bd l (pn : Int) k (by omega) (i : Int)
            have h2 := clkO_bd l y k (by omega) (i : Int)
            rw [hMe]; omega)
          have HM : Hid (∀ i : Nat, i < 5 → (M i + if i = xn then 1 else 0) = cE l k i) := hide (fun i _ => by
            have h1 := HCL.out i
            show _ = clk l k (i : Int)
            rw [h1, hMe]
            by_cases e : i = xn
            · rw [if_pos e, if_pos (by omega)]
            · rw [if_neg e, if_neg (by omega)])
          clear hVW hM HV3 B3 HCR4 E03 E13
          clear hMe HM1 HCL
          have hcx := (HCRN.out.cellAt xn (by omega)).trans (lA_get Nn M xn hxN)
          have hcf := HCRN.out.frozenAt xn
          have hMb := HMB.out xn (by omega)
          obtain ⟨mx, hmx⟩ : ∃ mx, mx = M xn := ⟨_, rfl⟩
          rw [← hmx] at hcx hMb
          have hmb0 := hMb.1
          have hmb1 : mx ≤ 40 := by omega
          have HMX := hide hmx
          clear hmx hMb
          go_upto_region 12 with fail
          obtain ⟨V5, hV5⟩ : ∃ V5, VW.setCell ⟨cq2, xn, none⟩ (.int .i64 (mx + 1)) = V5 := ⟨_, rfl⟩
          have HR5 : Hid (V5.ownsRow w.heap.size 3 1 (.slice (some ⟨cq2, 0, none⟩) Nn cc2) Nn (lA Nn (cE l k))) := by
            rw [← hV5]
            have h1 := (HCRN.out.stored xn (.int .i64 (mx + 1))).1
            rw [lA_upd] at h1
            have h2 : lA Nn (updI M xn (mx + 1)) = lA Nn (cE l k) := lA_congr Nn _ _ (fun i hi => by
              have := HM.out i (by omega)
              unfold updI
              by_cases e : i = xn
              · subst e; rw [if_pos rfl]; rw [if_pos rfl] at this; rw [HMX.out]; exact this
              · rw [if_neg e]; rw [if_neg e] at this; omega)
            rw [h2] at h1
            exact hide h1
          have HV5 : Hid (SV V5 w.heap.size eb (.slice (some ⟨g1, 0, none⟩) k tcap) k Nn bs cs (cE l)) := by
            rw [← hV5]
            exact hide (HVV0.out.keep (fun q h1 h2 => Below.heap_setCell VW ⟨cq2, xn, none⟩ _ q (show q ≠ cq2 by have := HCQN.out; omega)))
          have B5 : Hid (Below w.heap.size w V5) := by
            rw [← hV5]
            exact hide (BVV0.out.setCell (p := ⟨cq2, xn, none⟩) (show w.heap.size ≤ cq2 by have h1 := HCQN.out; have h2 := HWE.out; omega) _)
          rw [hV5]
          have hsz5 := B5.out.size
          clear hV5 hcx hcf e0 e1 HCRN HVV0 BVV0 hmb0 hmb1
          go_wp2_with (first
            | (at_builtin; refine wpList_append_own_at _ rfl _ _ 29 rfl w.heap.size 38 j1 (.slice none 0 0) 1 24 Try.underlying29 hj1 hz0 hz1 hz2 rfl (by decide) _ _ _ rfl (HV5.out.out.alloc _) ⟨V5.heap.size, 0, none⟩ 1 1 [.slice (some ⟨cq2, 0, none⟩) Nn cc2] rfl rfl (cell_sl11 _ _ rfl _ _) (by intro u hu; simp at hu; subst hu; rfl) (by unfold maxLen; omega) (by omega) (by simp; omega) ?_)
            | go_in)
          intro v6 w6 hown6 hgrow6 _ _
          have H7 : Hid (SW w6 w.heap.size w6.heap.size v6 (k + 1) Nn (cE l)) := hide (sv_push HV5.out cq2 cc2 HCQN.out HR5.out ((Below.refl _ _).alloc (Nat.le_refl _) _) hown6 hgrow6)
          have B7 : Hid (Below w.heap.size w w6) := hide ((B5.out.alloc B5.out.size _).grown hgrow6 (by simp; omega) (fun q hq => (HV5.out.out.lt q hq).1))
          clear hown6 hgrow6
          go_wp2
          go_roundw
          case rel => exact ⟨k + 1, by omega, by go_num, H7, B7⟩
          case measure => simp [intOf]; omega
        · skip
          obtain ⟨pn, hpn⟩ : ∃ pn : Nat, p = (pn : Int) := ⟨p.toNat, by omega⟩
          subst hpn
          have hpk : pn < k := by omega
          have hpI : (pn : Int) < (k : Int) := by omega
          have hpI0 : (0 : Int) ≤ (pn : Int) := by omega
          obtain ⟨g1, hta, hcell⟩ := HV2.out.addr (by omega)
          have hcp := hcell pn (by omega)
          have CM := hide (l11Most_any (some ⟨cq, 0, none⟩) (some ⟨bs pn, 0, none⟩) (fun _ => 0) (cE l pn) Nn cc (cs pn) w2 (sl_of_lA HCR3.out) (HV2.out.sl pn (by omega)) HN1.out (by omega))
          subst hta
          obtain ⟨d1, hd1⟩ : ∃ d, d = bs pn := ⟨_, rfl⟩
          obtain ⟨p1, hp1⟩ : ∃ d, d = cs pn := ⟨_, rfl⟩
          rw [← hd1, ← hp1] at hcp CM
          clear hcell hd1 hp1
          go_wp2_with fail
          refine CM.out.mono ?_
          rintro e w3 ⟨vm, rfl, hom, hbm⟩
          obtain ⟨cq2, cc2, rfl⟩ : ∃ cq cc, vm = .slice (some ⟨cq, 0, none⟩) Nn cc := by
            rcases hom.2 with ⟨_, h0⟩ | ⟨q, cap, cur, hv, _⟩
            · have := HN1.out; omega
            · exact ⟨q, cap, hv⟩
          have HV3 := hide (HV2.out.below hbm)
          have B3 := hide (B2.out.trans (hbm.mono B2.out.size))
          have E03 := hide ((hbm.cell (p := ⟨eb, 0, none⟩) (blk_lt E02.out)).trans E02.out)
          have E13 := hide ((hbm.cell (p := ⟨eb, 1, none⟩) (blk_lt E12.out)).trans E12.out)
          have HCQ3 : eb ≤ cq2 := by have h1 := (hom.lt cq2 rfl).1; have h2 := blk_lt E02.out; omega
          obtain ⟨M1, hM1⟩ : ∃ M1 : Nat → Int, M1 = jn (fun _ => 0) (cE l pn) := ⟨_, rfl⟩
          have HCR4 : Hid (w3.ownsRow w.heap.size 3 1 (.slice (some ⟨cq2, 0, none⟩) Nn cc2) Nn (lA Nn M1)) := hide (by
            have h1 := own_baseT hom B2.out.size
            rw [clL_lA] at h1
            rw [hM1]; exact h1)
          have HM1 : Hid (∀ i : Nat, M1 i = clkO l (pn : Int) (i : Int)) := hide (fun i => by
            rw [hM1]; unfold jn
            have h1 : clkO l (pn : Int) (i : Int) = cE l pn i := by unfold clkO cE; rw [if_pos (by omega)]; rfl
            have h2 := clkO_nn l (pn : Int) (i : Int)
            rw [h1] at h2 ⊢
            (try dsimp only)
            omega)
          clear hom hbm hM1 HV2 B2 HCR3 E02 E12 CM hcp
          obtain ⟨f, hf⟩ : ∃ f : Nat, y = (f : Int) := ⟨y.toNat, by omega⟩
          subst hf
          have hfk : f < k := by omega
          have hfI : (f : Int) < (k : Int) := by omega
          have hfI0 : (0 : Int) ≤ (f : Int) := by omega
          have e1f := E13.out
          obtain ⟨g2, hta, hcell⟩ := HV3.out.addr (by omega)
          simp only [Option.some.injEq, Addr.mk.injEq, and_true] at hta
          have hcp := hcell f (by omega)
          have CM := hide (l11Most_any (some ⟨cq2, 0, none⟩) (some ⟨bs f, 0, none⟩) M1 (cE l f) Nn cc2 (cs f) w3 (sl_of_lA HCR4.out) (HV3.out.sl f (by omega)) HN1.out (by omega))
          subst hta
          obtain ⟨d1, hd1⟩ : ∃ d, d = bs f := ⟨_, rfl⟩
          obtain ⟨p1, hp1⟩ : ∃ d, d = cs f := ⟨_, rfl⟩
          rw [← hd1, ← hp1] at hcp CM
          clear hcell hd1 hp1
          go_wp2_with fail
          refine CM.out.mono ?_
          rintro e VW ⟨vm, rfl, hom, hbm⟩
          obtain ⟨cqn, ccn, rfl⟩ : ∃ cq cc, vm = .slice (some ⟨cq, 0, none⟩) Nn cc := by
            rcases hom.2 with ⟨_, h0⟩ | ⟨q, cap, cur, hv, _⟩
            · have := HN1.out; omega
            · exact ⟨q, cap, hv⟩
          have HVV0 := hide (HV3.out.below hbm)
          have BVV0 := hide (B3.out.trans (hbm.mono B3.out.size))
          have e0 := (hbm.cell (p := ⟨eb, 0, none⟩) (blk_lt E03.out)).trans E03.out
          have e1 := (hbm.cell (p := ⟨eb, 1, none⟩) (blk_lt E13.out)).trans E13.out
          have HCQN : Hid (eb ≤ cqn) := hide (by have h1 := (hom.lt cqn rfl).1; have h2 := blk_lt E03.out; omega)
          obtain ⟨M, hM⟩ : ∃ M : Nat → Int, M = jn M1 (cE l f) := ⟨_, rfl⟩
          have HCRN : Hid (VW.ownsRow w.heap.size 3 1 (.slice (some ⟨cqn, 0, none⟩) Nn ccn) Nn (lA Nn M)) := hide (by
            have h1 := own_baseT hom B3.out.size
            rw [clL_lA] at h1
            rw [hM]; exact h1)
          have hfe : ∀ i : Nat, clkO l (f : Int) (i : Int) = cE l f i := fun i => by unfold clkO cE; rw [if_pos (by omega)]; rfl
          have hMe : ∀ i : Nat, M i = max (clkO l (pn : Int) (i : Int)) (clkO l (f : Int) (i : Int)) := fun i => by
            rw [hM, hfe, ← HM1.out i]; rfl
          have HMB : Hid (∀ i : Nat, i < 5 → 0 ≤ M i ∧ M i ≤ (k : Int)) := hide (fun i _ => by
            have h1 := clkO_bd l (pn : Int) k (by omega) (i : Int)
            have h2 := clkO_bd l (f : Int) k (by omega) (i : Int)
            rw [hMe]; omega)
          have HM : Hid (∀ i : Nat, i < 5 → (M i + if i = xn then 1 else 0) = cE l k i) := hide (fun i _ => by
            have h1 := HCL.out i
            show _ = clk l k (i : Int)
            rw [h1, hMe]
            by_cases e : i = xn
            · rw [if_pos e, if_pos (by omega)]
            · rw [if_neg e, if_neg (by omega)])
          clear hom hbm hM hfe HV3 B3 HCR4 E03 E13 CM hcp e1f
          clear hMe HM1 HCL
          have hcx := (HCRN.out.cellAt xn (by omega)).trans (lA_get Nn M xn hxN)
          have hcf := HCRN.out.frozenAt xn
          have hMb := HMB.out xn (by omega)
          obtain ⟨mx, hmx⟩ : ∃ mx, mx = M xn := ⟨_, rfl⟩
          rw [← hmx] at hcx hMb
          have hmb0 := hMb.1
          have hmb1 : mx ≤ 40 := by omega
          have HMX := hide hmx
          clear hmx hMb
          go_upto_region 12 with fail
          obtain ⟨V5, hV5⟩ : ∃ V5, VW.setCell ⟨cqn, xn, none⟩ (.int .i64 (mx + 1)) = V5 := ⟨_, rfl⟩
          have HR5 : Hid (V5.ownsRow w.heap.size 3 1 (.slice (some ⟨cqn, 0, none⟩) Nn ccn) Nn (lA Nn (cE l k))) := by
            rw [← hV5]
            have h1 := (HCRN.out.stored xn (.int .i64 (mx + 1))).1
            rw [lA_upd] at h1
            have h2 : lA Nn (updI M xn (mx + 1)) = lA Nn (cE l k) := lA_congr Nn _ _ (fun i hi => by
              have := HM.out i (by omega)
              unfold updI
              by_cases e : i = xn
              · subst e; rw [if_pos rfl]; rw [if_pos rfl] at this; rw [HMX.out]; exact this
              · rw [if_neg e]; rw [if_neg e] at this; omega)
            rw [h2] at h1
            exact hide h1
          have HV5 : Hid (SV V5 w.heap.size eb (.slice (some ⟨g1, 0, none⟩) k tcap) k Nn bs cs (cE l)) := by
            rw [← hV5]
            exact hide (HVV0.out.keep (fun q h1 h2 => Below.heap_setCell VW ⟨cqn, xn, none⟩ _ q (show q ≠ cqn by have := HCQN.out; omega)))
          have B5 : Hid (Below w.heap.size w V5) := by
            rw [← hV5]
            exact hide (BVV0.out.setCell (p := ⟨cqn, xn, none⟩) (show w.heap.size ≤ cqn by have h1 := HCQN.out; have h2 := HWE.out; omega) _)
          rw [hV5]
          have hsz5 := B5.out.size
          clear hV5 hcx hcf e0 e1 HCRN HVV0 BVV0 hmb0 hmb1
          go_wp2_with (first
            | (at_builtin; refine wpList_append_own_at _ rfl _ _ 29 rfl w.heap.size 38 j1 (.slice none 0 0) 1 24 Try.underlying29 hj1 hz0 hz1 hz2 rfl (by decide) _ _ _ rfl (HV5.out.out.alloc _) ⟨V5.heap.size, 0, none⟩ 1 1 [.slice (some ⟨cqn, 0, none⟩) Nn ccn] rfl rfl (cell_sl11 _ _ rfl _ _) (by intro u hu; simp at hu; subst hu; rfl) (by unfold maxLen; omega) (by omega) (by simp; omega) ?_)
            | go_in)
          intro v6 w6 hown6 hgrow6 _ _
          have H7 : Hid (SW w6 w.heap.size w6.heap.size v6 (k + 1) Nn (cE l)) := hide (sv_push HV5.out cqn ccn HCQN.out HR5.out ((Below.refl _ _).alloc (Nat.le_refl _) _) hown6 hgrow6)
          have B7 : Hid (Below w.heap.size w w6) := hide ((B5.out.alloc B5.out.size _).grown hgrow6 (by simp; omega) (fun q hq => (HV5.out.out.lt q hq).1))
          clear hown6 hgrow6
          go_wp2
          go_roundw
          case rel => exact ⟨k + 1, by omega, by go_num, H7, B7⟩
          case measure => simp [intOf]; omega
    · have hltI : ¬ (k : Int) < (n : Int) := by omega
      obtain rfl : k = n := by omega
      have H9 := hide (show SW wr w.heap.size wr.heap.size _ k Nn (cE l) from ⟨bs, cs, hV⟩)
      clear hV HW
      go_wp2
      go_ret
      exact ⟨_, rfl, H9.out, HB.out⟩
set_option maxRecDepth 100000 in
set_option maxHeartbeats 4000000 in
theorem specClocks_any (N : Int) (a : Option Addr) (l : List (Int × Int)) (n cap : Nat) (w : World) (hn : l.length = n) (hs : Sl2 w a l) (hn2 : n ≤ 1048576) (hN : N ≤ 9223372036854775807) (b : Bool) (hb : b = true ↔ GoodV N l) (m : Nat) (hm : m = if b then n else 0) :
    Calls Try.prog 14 #[.int .i64 N, .slice a n cap] w fun e w' => RetS w b m N.toNat (cE l) e w' := by
  cases b with
  | false =>
    have CG := hide (fun w hs => specGoodEvents_any N a l n cap w hn hs hn2 hN false (by simpa using hb))
    have hm0 : m = 0 := hm
    subst hm0
    have HS := hide hs
    clear hb hm hs hn
    go_enter Try.func14, Try.ntmps14
    go_wp2_with fail
    refine (CG.out _ HS.out).mono ?_
    rintro e w1 ⟨rfl, hb1⟩
    have B1 := hide hb1
    clear hb1
    go_wp2
    go_ret2
    exact ⟨_, rfl, SW.nil _ _ _ _ _, B1.out⟩
  | true =>
    have hg := hb.1 rfl
    have CG := hide (fun w hs => specGoodEvents_any N a l n cap w hn hs hn2 hN true (by simp [hg]))
    have hmn : m = n := hm
    subst hmn
    obtain ⟨Nn, hNn⟩ : ∃ Nn : Nat, N = (Nn : Int) := ⟨N.toNat, by have := hg.1; omega⟩
    subst hNn
    have hNt : (Nn : Int).toNat = Nn := rfl
    rw [hNt]
    have CC := hide (fun w hs => l11Clocks_any Nn a l m cap w hn hs hg)
    have HS := hide hs
    clear hb hm hs hg hNt hn
    go_enter Try.func14, Try.ntmps14
    go_wp2_with fail
    refine (CG.out _ HS.out).mono ?_
    rintro e w1 ⟨rfl, hb1⟩
    have B1 := hide hb1
    clear hb1
    go_wp2_with fail
    refine (CC.out _ (HS.out.below B1.out)).mono ?_
    rintro e w2 ⟨v, rfl, ho, hb2⟩
    have B2 := hide (B1.out.trans (hb2.mono B1.out.size))
    obtain ⟨bs, cs, hv⟩ := ho
    have H9 : Hid (SW w2 w.heap.size w2.heap.size v m Nn (cE l)) := hide ⟨bs, cs, own_baseT hv.out B1.out.size, hv.top, fun i hi => own_baseT (hv.row i hi) B1.out.size, hv.rtop, hv.inj⟩
    clear hv hb2
    go_wp2
    go_ret2
    exact ⟨_, rfl, H9.out, B2.out⟩
end Go.Proofs.Ytkfnejiiancmhah.L11
