/-
  Contracts of the laws' own helpers laws.markIntSS, laws.markBoolSS over a bank's lists.
-/
import Derived.Test.YtfjbiihiaoobhaiL12MarkM
import Derived.Deep.DeepCutAuto
namespace Go.Proofs.Ytfjbiihiaoobhai.L12
open Go.RowKit L1 L4 L9 Own Sli
set_option linter.unusedVariables false

set_option maxRecDepth 100000 in
set_option maxHeartbeats 4000000 in
theorem mark_W (S : Nat → Prop) (v : Vs) (a : Option Addr) (n cp : Nat) (c : Int) (m : Bk) (w : World) (hv : v.W = .slice a n cp) (hn : m.W.length = n) (hc0 : 0 ≤ c) (hc1 : c ≤ 10000000) (hz : SmS m.W) (hW : BW w S v m) :
    Calls Try.prog 59 #[.slice a n cp, .int .i64 c] w fun e w' => e = .returned (.int .i64 (c + (pre m.W n : Int))) ∧ BW w' S v { m with W := mkUp mkC c m.W n } ∧ Kept S w w' := by
  have hn5 : n ≤ 1048576 := by have := hz.n; omega
  have HW0 : Hid (BW w S v { m with W := mkUp mkC c m.W 0 }) := by rw [mkUp_zero]; exact hide hW
  have HZ := hide hz
  have HN := hide hn
  have HV0 := hide hv
  have HA : Hid (0 < n → ∃ gb, a = some ⟨gb, 0, none⟩) := hide (fun h0 => by
    have h := hW.W
    rw [hv] at h
    rcases h.2 with ⟨hv, h1⟩ | ⟨g, cap, cur, hv, _⟩
    · omega
    · obtain ⟨e, _, _⟩ := Value.slice.inj hv; exact ⟨g, e⟩)
  clear hW hz hn hv
  go_enter Try.func59, Try.ntmps59
  go_wp2
  go_loopw [1, 5] (fun k i wr => ∃ j : Nat, j ≤ n ∧ i = .int .i64 j ∧ k = .int .i64 (c + (pre m.W j : Int)) ∧ Hid (BW wr S v { m with W := mkUp mkC c m.W j }) ∧ Hid (Kept S w wr)) (fun _ i _ => n - (intOf i).toNat)
  case atStart => exact ⟨0, Nat.zero_le _, rfl, by simp [pre], HW0, hide (Kept.refl S w)⟩
  case round =>
    obtain ⟨j, hj, rfl, rfl, HW, HK⟩ := hrel
    by_cases hlt : j < n
    · obtain ⟨gb, rfl⟩ := HA.out (by omega)
      have hltI : (j : Int) < (n : Int) := by omega
      have hj0 : (0 : Int) ≤ (j : Int) := by omega
      have hjG : j < m.W.length := by rw [HN.out]; exact hlt
      have hjU : j < (mkUp mkC c m.W j).length := by rw [mkUp_len]; exact hjG
      have hgl : ((mkUp mkC c m.W j).getD j []).length = (m.W.getD j []).length := mkUp_gl mkC mkC_len c m.W j j hjG
      have hl40 := HZ.out.s j hjG
      have hp : pre m.W j ≤ 1048576 := Nat.le_trans (pre_mono m.W j _ (Nat.le_of_lt hjG)) HZ.out.p
      obtain ⟨mm, hm⟩ : ∃ mm, mm = (m.W.getD j []).length := ⟨_, rfl⟩
      have hps : pre m.W (j + 1) = pre m.W j + mm := by rw [hm]; rfl
      have hown : wr.ownsRow 0 3 1 (v.VW.getD j nilV) ((mkUp mkC c m.W j).getD j []).length (((mkUp mkC c m.W j).getD j []).map (Value.int .i64)) := HW.out.r (.w j)
      rw [hgl, ← hm] at hown
      obtain ⟨ai, ci, hv'⟩ := own_shapeO hown
      have hvl : v.VW.length = n := HW.out.lenW.trans (by show (mkUp mkC c m.W j).length = n; rw [mkUp_len]; exact HN.out)
      have hu : v.VW[j]? = some (v.VW.getD j nilV) := by simp [List.getD, List.getElem?_eq_getElem (show j < v.VW.length by omega)]
      have hc := own_cellB (show wr.ownsRow 0 24 1 (.slice (some ⟨gb, 0, none⟩) n cp) n v.VW from by
        have h : wr.ownsRow 0 24 1 v.W (mkUp mkC c m.W j).length v.VW := HW.out.W
        rw [mkUp_len, HN.out, HV0.out] at h
        exact h) j _ hu
      have hv2 : v.VW.getD j nilV = .slice ai mm ci := hv'
      rw [hv2] at hc
      rw [← hm] at hl40
      have C := hide (fun wx => markIntS_from 0 (.slice ai mm ci) ((mkUp mkC c m.W j).getD j []) mm wx (c + (pre m.W j : Int)) (by omega) (by omega) (by omega))
      rw [hv'] at hown
      have HOW := hide hown
      have HV := hide hv2
      have HM := hide hm
      have HPS := hide hps
      clear hown hv' hv2 hm hps hgl hu hvl
      go_wp2_with fail
      refine (C.out _ HOW.out).mono ?_
      rintro e w1 ⟨rfl, ho1, _, hg1⟩
      have hU : { m with W := mkUp mkC c m.W (j + 1) } = ({ ({ m with W := mkUp mkC c m.W j } : Bk) with W := (mkUp mkC c m.W j).set j (mkC (c + (pre m.W j : Int)) mm) } : Bk) := by
        rw [mkUp_succ mkC c m.W j hjG, ← HM.out]
      have hW1 : BW w1 S v { m with W := mkUp mkC c m.W (j + 1) } := by
        rw [hU]
        refine HW.out.over (.w j) (show j < (mkUp mkC c m.W j).length from hjU) (mkC (c + (pre m.W j : Int)) mm) ?_ ?_
        · show w1.ownsRow 0 3 1 (v.VW.getD j nilV) _ _
          rw [HV.out, mkC_len]; exact ho1
        · show wr.grownBy w1 (v.VW.getD j nilV).ownBlock
          rw [HV.out]; exact hg1
      have hK1 : Kept S w w1 := HK.out.trans (kept_grown hg1 (fun q e => HW.out.sr (.w j) q (by show (v.VW.getD j nilV).ownBlock = some q; rw [HV.out]; exact e))) (fun q _ h => h)
      have H1 := hide hW1
      have K1 := hide hK1
      clear hU hW1 hK1 ho1 hg1 C
      go_wp2
      go_roundw
      case rel => exact ⟨j + 1, by omega, by go_num, by rw [HPS.out]; simp; omega, H1, K1⟩
      case measure => simp [intOf]; omega
    · obtain rfl : j = n := by omega
      have hltI : ¬ (j : Int) < (j : Int) := by omega
      go_wp2
      go_ret
      exact ⟨rfl, HW.out, HK.out⟩
set_option maxRecDepth 100000 in
set_option maxHeartbeats 4000000 in
theorem mark_H (S : Nat → Prop) (v : Vs) (a : Option Addr) (n cp : Nat) (c : Int) (m : Bk) (w : World) (hv : v.H = .slice a n cp) (hn : m.H.length = n) (hc0 : 0 ≤ c) (hc1 : c ≤ 10000000) (hz : SmS m.H) (hW : BW w S v m) :
    Calls Try.prog 60 #[.slice a n cp, .int .i64 c] w fun e w' => e = .returned (.int .i64 (c + (pre m.H n : Int))) ∧ BW w' S v { m with H := mkUp mkB c m.H n } ∧ Kept S w w' := by
  have hn5 : n ≤ 1048576 := by have := hz.n; omega
  have HW0 : Hid (BW w S v { m with H := mkUp mkB c m.H 0 }) := by rw [mkUp_zero]; exact hide hW
  have HZ := hide hz
  have HN := hide hn
  have HV0 := hide hv
  have HA : Hid (0 < n → ∃ gb, a = some ⟨gb, 0, none⟩) := hide (fun h0 => by
    have h := hW.H
    rw [hv] at h
    rcases h.2 with ⟨hv, h1⟩ | ⟨g, cap, cur, hv, _⟩
    · omega
    · obtain ⟨e, _, _⟩ := Value.slice.inj hv; exact ⟨g, e⟩)
  clear hW hz hn hv
  go_enter Try.func60, Try.ntmps60
  go_wp2
  go_loopw [1, 5] (fun k i wr => ∃ j : Nat, j ≤ n ∧ i = .int .i64 j ∧ k = .int .i64 (c + (pre m.H j : Int)) ∧ Hid (BW wr S v { m with H := mkUp mkB c m.H j }) ∧ Hid (Kept S w wr)) (fun _ i _ => n - (intOf i).toNat)
  case atStart => exact ⟨0, Nat.zero_le _, rfl, by simp [pre], HW0, hide (Kept.refl S w)⟩
  case round =>
    obtain ⟨j, hj, rfl, rfl, HW, HK⟩ := hrel
    by_cases hlt : j < n
    · obtain ⟨gb, rfl⟩ := HA.out (by omega)
      have hltI : (j : Int) < (n : Int) := by omega
      have hj0 : (0 : Int) ≤ (j : Int) := by omega
      have hjG : j < m.H.length := by rw [HN.out]; exact hlt
      have hjU : j < (mkUp mkB c m.H j).length := by rw [mkUp_len]; exact hjG
      have hgl : ((mkUp mkB c m.H j).getD j []).length = (m.H.getD j []).length := mkUp_gl mkB mkB_len c m.H j j hjG
      have hl40 := HZ.out.s j hjG
      have hp : pre m.H j ≤ 1048576 := Nat.le_trans (pre_mono m.H j _ (Nat.le_of_lt hjG)) HZ.out.p
      obtain ⟨mm, hm⟩ : ∃ mm, mm = (m.H.getD j []).length := ⟨_, rfl⟩
      have hps : pre m.H (j + 1) = pre m.H j + mm := by rw [hm]; rfl
      have hown : wr.ownsRow 0 4 1 (v.VH.getD j nilV) ((mkUp mkB c m.H j).getD j []).length (((mkUp mkB c m.H j).getD j []).map Value.bool) := HW.out.h j
      rw [hgl, ← hm] at hown
      obtain ⟨ai, ci, hv'⟩ := own_shapeO hown
      have hvl : v.VH.length = n := HW.out.lenH.trans (by show (mkUp mkB c m.H j).length = n; rw [mkUp_len]; exact HN.out)
      have hu : v.VH[j]? = some (v.VH.getD j nilV) := by simp [List.getD, List.getElem?_eq_getElem (show j < v.VH.length by omega)]
      have hc := own_cellB (show wr.ownsRow 0 58 1 (.slice (some ⟨gb, 0, none⟩) n cp) n v.VH from by
        have h : wr.ownsRow 0 58 1 v.H (mkUp mkB c m.H j).length v.VH := HW.out.H
        rw [mkUp_len, HN.out, HV0.out] at h
        exact h) j _ hu
      have hv2 : v.VH.getD j nilV = .slice ai mm ci := hv'
      rw [hv2] at hc
      rw [← hm] at hl40
      have C := hide (fun wx => markBoolS_from 0 (.slice ai mm ci) ((mkUp mkB c m.H j).getD j []) mm wx (c + (pre m.H j : Int)) (by omega) (by omega) (by omega))
      rw [hv'] at hown
      have HOW := hide hown
      have HV := hide hv2
      have HM := hide hm
      have HPS := hide hps
      clear hown hv' hv2 hm hps hgl hu hvl
      go_wp2_with fail
      refine (C.out _ HOW.out).mono ?_
      rintro e w1 ⟨rfl, ho1, _, hg1⟩
      have hU : { m with H := mkUp mkB c m.H (j + 1) } = ({ ({ m with H := mkUp mkB c m.H j } : Bk) with H := (mkUp mkB c m.H j).set j (mkB (c + (pre m.H j : Int)) mm) } : Bk) := by
        rw [mkUp_succ mkB c m.H j hjG, ← HM.out]
      have hW1 : BW w1 S v { m with H := mkUp mkB c m.H (j + 1) } := by
        rw [hU]
        refine HW.out.overH j (show j < (mkUp mkB c m.H j).length from hjU) (mkB (c + (pre m.H j : Int)) mm) ?_ ?_
        · show w1.ownsRow 0 4 1 (v.VH.getD j nilV) _ _
          rw [HV.out, mkB_len]; exact ho1
        · show wr.grownBy w1 (v.VH.getD j nilV).ownBlock
          rw [HV.out]; exact hg1
      have hK1 : Kept S w w1 := HK.out.trans (kept_grown hg1 (fun q e => HW.out.sh j q (by show (v.VH.getD j nilV).ownBlock = some q; rw [HV.out]; exact e))) (fun q _ h => h)
      have H1 := hide hW1
      have K1 := hide hK1
      clear hU hW1 hK1 ho1 hg1 C
      go_wp2
      go_roundw
      case rel => exact ⟨j + 1, by omega, by go_num, by rw [HPS.out]; simp; omega, H1, K1⟩
      case measure => simp [intOf]; omega
    · obtain rfl : j = n := by omega
      have hltI : ¬ (j : Int) < (j : Int) := by omega
      go_wp2
      go_ret
      exact ⟨rfl, HW.out, HK.out⟩
set_option maxRecDepth 100000 in
set_option maxHeartbeats 4000000 in
theorem mark_F (S : Nat → Prop) (v : Vs) (a : Option Addr) (n cp : Nat) (c : Int) (m : Bk) (w : World) (hv : v.F = .slice a n cp) (hn : m.F.length = n) (hc0 : 0 ≤ c) (hc1 : c ≤ 10000000) (hz : SmS m.F) (hW : BW w S v m) :
    Calls Try.prog 59 #[.slice a n cp, .int .i64 c] w fun e w' => e = .returned (.int .i64 (c + (pre m.F n : Int))) ∧ BW w' S v { m with F := mkUp mkC c m.F n } ∧ Kept S w w' := by
  have hn5 : n ≤ 1048576 := by have := hz.n; omega
  have HW0 : Hid (BW w S v { m with F := mkUp mkC c m.F 0 }) := by rw [mkUp_zero]; exact hide hW
  have HZ := hide hz
  have HN := hide hn
  have HV0 := hide hv
  have HA : Hid (0 < n → ∃ gb, a = some ⟨gb, 0, none⟩) := hide (fun h0 => by
    have h := hW.F
    rw [hv] at h
    rcases h.2 with ⟨hv, h1⟩ | ⟨g, cap, cur, hv, _⟩
    · omega
    · obtain ⟨e, _, _⟩ := Value.slice.inj hv; exact ⟨g, e⟩)
  clear hW hz hn hv
  go_enter Try.func59, Try.ntmps59
  go_wp2
  go_loopw [1, 5] (fun k i wr => ∃ j : Nat, j ≤ n ∧ i = .int .i64 j ∧ k = .int .i64 (c + (pre m.F j : Int)) ∧ Hid (BW wr S v { m with F := mkUp mkC c m.F j }) ∧ Hid (Kept S w wr)) (fun _ i _ => n - (intOf i).toNat)
  case atStart => exact ⟨0, Nat.zero_le _, rfl, by simp [pre], HW0, hide (Kept.refl S w)⟩
  case round =>
    obtain ⟨j, hj, rfl, rfl, HW, HK⟩ := hrel
    by_cases hlt : j < n
    · obtain ⟨gb, rfl⟩ := HA.out (by omega)
      have hltI : (j : Int) < (n : Int) := by omega
      have hj0 : (0 : Int) ≤ (j : Int) := by omega
      have hjG : j < m.F.length := by rw [HN.out]; exact hlt
      have hjU : j < (mkUp mkC c m.F j).length := by rw [mkUp_len]; exact hjG
      have hgl : ((mkUp mkC c m.F j).getD j []).length = (m.F.getD j []).length := mkUp_gl mkC mkC_len c m.F j j hjG
      have hl40 := HZ.out.s j hjG
      have hp : pre m.F j ≤ 1048576 := Nat.le_trans (pre_mono m.F j _ (Nat.le_of_lt hjG)) HZ.out.p
      obtain ⟨mm, hm⟩ : ∃ mm, mm = (m.F.getD j []).length := ⟨_, rfl⟩
      have hps : pre m.F (j + 1) = pre m.F j + mm := by rw [hm]; rfl
      have hown : wr.ownsRow 0 3 1 (v.VF.getD j nilV) ((mkUp mkC c m.F j).getD j []).length (((mkUp mkC c m.F j).getD j []).map (Value.int .i64)) := HW.out.r (.f j)
      rw [hgl, ← hm] at hown
      obtain ⟨ai, ci, hv'⟩ := own_shapeO hown
      have hvl : v.VF.length = n := HW.out.lenF.trans (by show (mkUp mkC c m.F j).length = n; rw [mkUp_len]; exact HN.out)
      have hu : v.VF[j]? = some (v.VF.getD j nilV) := by simp [List.getD, List.getElem?_eq_getElem (show j < v.VF.length by omega)]
      have hc := own_cellB (show wr.ownsRow 0 24 1 (.slice (some ⟨gb, 0, none⟩) n cp) n v.VF from by
        have h : wr.ownsRow 0 24 1 v.F (mkUp mkC c m.F j).length v.VF := HW.out.F
        rw [mkUp_len, HN.out, HV0.out] at h
        exact h) j _ hu
      have hv2 : v.VF.getD j nilV = .slice ai mm ci := hv'
      rw [hv2] at hc
      rw [← hm] at hl40
      have C := hide (fun wx => markIntS_from 0 (.slice ai mm ci) ((mkUp mkC c m.F j).getD j []) mm wx (c + (pre m.F j : Int)) (by omega) (by omega) (by omega))
      rw [hv'] at hown
      have HOW := hide hown
      have HV := hide hv2
      have HM := hide hm
      have HPS := hide hps
      clear hown hv' hv2 hm hps hgl hu hvl
      go_wp2_with fail
      refine (C.out _ HOW.out).mono ?_
      rintro e w1 ⟨rfl, ho1, _, hg1⟩
      have hU : { m with F := mkUp mkC c m.F (j + 1) } = ({ ({ m with F := mkUp mkC c m.F j } : Bk) with F := (mkUp mkC c m.F j).set j (mkC (c + (pre m.F j : Int)) mm) } : Bk) := by
        rw [mkUp_succ mkC c m.F j hjG, ← HM.out]
      have hW1 : BW w1 S v { m with F := mkUp mkC c m.F (j + 1) } := by
        rw [hU]
        refine HW.out.over (.f j) (show j < (mkUp mkC c m.F j).length from hjU) (mkC (c + (pre m.F j : Int)) mm) ?_ ?_
        · show w1.ownsRow 0 3 1 (v.VF.getD j nilV) _ _
          rw [HV.out, mkC_len]; exact ho1
        · show wr.grownBy w1 (v.VF.getD j nilV).ownBlock
          rw [HV.out]; exact hg1
      have hK1 : Kept S w w1 := HK.out.trans (kept_grown hg1 (fun q e => HW.out.sr (.f j) q (by show (v.VF.getD j nilV).ownBlock = some q; rw [HV.out]; exact e))) (fun q _ h => h)
      have H1 := hide hW1
      have K1 := hide hK1
      clear hU hW1 hK1 ho1 hg1 C
      go_wp2
      go_roundw
      case rel => exact ⟨j + 1, by omega, by go_num, by rw [HPS.out]; simp; omega, H1, K1⟩
      case measure => simp [intOf]; omega
    · obtain rfl : j = n := by omega
      have hltI : ¬ (j : Int) < (j : Int) := by omega
      go_wp2
      go_ret
      exact ⟨rfl, HW.out, HK.out⟩
end Go.Proofs.Ytfjbiihiaoobhai.L12
