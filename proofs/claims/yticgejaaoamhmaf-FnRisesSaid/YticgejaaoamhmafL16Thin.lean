/-
  Contracts: impl.ThinOut with isNeedless.
-/
import Derived.Test.YticgejaaoamhmafL16ThM
import Derived.Test.YticgejaaoamhmafL16Box
import Derived.Test.YticgejaaoamhmafL16Ret
import Derived.Test.YticgejaaoamhmafL16Row
namespace Go.Proofs.Yticgejaaoamhmaf.L16
open Go.RowKit L1
set_option linter.unusedVariables false

set_option maxRecDepth 100000 in
set_option maxHeartbeats 1000000 in
theorem isNeedless_any (a : Option Addr) (l : List (Int × Int)) (n cap k : Nat) (w : World) (hn : l.length = n) (hs : Sl2 w a l) (hn2 : n ≤ 1048576) (hk : k < n) (bb : Bool) (hbb : bb = true ↔ Ndl l k) :
    Calls Try.prog 40 #[.agg #[.slice a n cap], .int .i64 (k : Int)] w fun e w' => e = .returned (.bool bb) ∧ Below w.heap.size w w' := by
  obtain ⟨W0, hW0⟩ : ∃ W0, BoxR w a n cap W0 := ⟨_, rfl⟩
  have k0 := hW0.cell
  have K0 := hide k0
  have B0 := hide hW0.below
  have HW := hide (show w.alloc (.cells #[.slice a n cap] 56) = W0 from hW0)
  have HS0 := hide (hs.below hW0.below)
  clear hW0 hs
  by_cases hk0 : k = 0
  · subst hk0
    obtain rfl : bb = false := bool_no hbb (fun h => absurd h.1 (Nat.lt_irrefl _))
    clear hbb hn
    go_enter Try.func40, Try.ntmps40
    go_upto_region 1 with fail
    rw [HW.out]
    go_wp2
    go_ret
    exact ⟨rfl, B0.out⟩
  by_cases hk1 : (k : Int) < (n : Int) - 1
  rotate_left
  · obtain rfl : bb = false := bool_no hbb (fun h => by have := h.2.1; omega)
    have hkI : (0 : Int) < (k : Int) := by omega
    clear hbb hn
    go_enter Try.func40, Try.ntmps40
    go_upto_region 1 with fail
    rw [HW.out]
    go_wp2
    go_ret
    exact ⟨rfl, B0.out⟩
  have hkI : (0 : Int) < (k : Int) := by omega
  obtain ⟨r1, hr1⟩ : ∃ r, r = decide (vl l k < vl l (k - 1)) := ⟨_, rfl⟩
  obtain ⟨r2, hr2⟩ : ∃ r, r = decide (vl l (k + 1) < vl l (k + 1 - 1)) := ⟨_, rfl⟩
  have C1 := hide (fun wx hs => isReset_any a l n cap k wx hn hs hn2 (by omega) hk r1 hr1)
  have C2 := hide (fun wx hs => isReset_any a l n cap (k + 1) wx hn hs hn2 (by omega) (by omega) r2 hr2)
  rw [show ((k + 1 : Nat) : Int) = (k : Int) + 1 by omega] at C2
  rw [show k + 1 - 1 = k by omega] at hr2
  cases hq : r1 with
  | true =>
    obtain rfl : bb = false := bool_no hbb (fun h => by have h1 := h.2.2.1; rw [hq] at hr1; have := of_decide_eq_true hr1.symm; omega)
    subst hq
    clear hbb hn hr1 hr2
    go_enter Try.func40, Try.ntmps40
    go_upto_region 1 with fail
    rw [HW.out]
    go_wp2_with fail
    refine (C1.out _ HS0.out).mono ?_
    rintro e w1 ⟨rfl, hb1⟩
    have B1 := hide (B0.out.trans (hb1.mono B0.out.size))
    clear hb1
    go_wp2
    go_ret
    exact ⟨rfl, B1.out⟩
  | false =>
    have h1 : ¬ vl l k < vl l (k - 1) := by rw [hq] at hr1; exact of_decide_eq_false hr1.symm
    obtain rfl : bb = !r2 := by
      cases hq2 : r2 with
      | true => exact bool_no hbb (fun h => by have h1 := h.2.2.2; rw [hq2] at hr2; have := of_decide_eq_true hr2.symm; omega)
      | false => exact hbb.2 ⟨by omega, by omega, by omega, by rw [hq2] at hr2; have := of_decide_eq_false hr2.symm; omega⟩
    subst hq
    clear hbb hn hr1 hr2 h1
    go_enter Try.func40, Try.ntmps40
    go_upto_region 1 with fail
    rw [HW.out]
    go_wp2_with fail
    refine (C1.out _ HS0.out).mono ?_
    rintro e w1 ⟨rfl, hb1⟩
    have B1 := hide (B0.out.trans (hb1.mono B0.out.size))
    have HS1 := hide (HS0.out.below hb1)
    have k1 := (hb1.cell (p := ⟨w.heap.size, 0, none⟩) (blk_lt K0.out)).trans K0.out
    clear hb1 k0
    go_wp2_with fail
    refine (C2.out _ HS1.out).mono ?_
    rintro e w2 ⟨rfl, hb2⟩
    have B2 := hide (B1.out.trans (hb2.mono B1.out.size))
    clear hb2 k1
    cases r2 with
    | true =>
      go_wp2
      go_ret
      exact ⟨rfl, B2.out⟩
    | false =>
      go_wp2
      go_ret
      exact ⟨rfl, B2.out⟩
set_option maxRecDepth 100000 in
set_option maxHeartbeats 2000000 in
theorem thinOut_any (b off : Nat) (l : List (Int × Int)) (n cap : Nat) (w : World) (hn : l.length = n) (hs : Sl2 w (some ⟨b, off, none⟩) l) (hn2 : n ≤ 1048576) (hcap : n ≤ cap) (r : Option (List (Int × Int))) (hr : r = thR l) :
    Calls Try.prog 13 #[.slice (some ⟨b, off, none⟩) n cap] w fun e w' => RetS16 w r e w' := by
  obtain ⟨c, hc⟩ : ∃ c : Bool, c = true ↔ Ctr l := by classical exact ⟨decide (Ctr l), by simp⟩
  have CO := hide (counterOk_any (some ⟨b, off, none⟩) l n cap w hn hs hn2 c hc)
  have HS := hide hs
  have HN := hide hn
  cases hq : c with
  | false =>
    have HR := hide (show r = none by rw [hr]; unfold thR; rw [if_neg (fun h => by have := hc.2 h; rw [hq] at this; cases this)])
    subst hq
    clear hc hr hs hn
    go_enter Try.func13, Try.ntmps13
    go_wp2_with fail
    refine CO.out.mono ?_
    rintro e w1 ⟨rfl, hb1⟩
    have B1 := hide hb1
    clear hb1
    go_wp2
    go_ret2
    exact retS_none HR.out B1.out
  | true =>
  have hct := hc.1 hq
  have h40 : n ≤ 40 := by have := hct.len; omega
  have HR := hide (show r = some (thn l n) by rw [hr]; unfold thR; rw [if_pos hct, hn])
  obtain ⟨i1, hi1, hy0, hy1, hy2⟩ := info_parts info_smp
  subst hq
  clear hc hr hs hn hct
  go_enter Try.func13, Try.ntmps13
  go_wp2_with fail
  refine CO.out.mono ?_
  rintro e w1 ⟨rfl, hb1⟩
  obtain ⟨W0, hW0⟩ : ∃ W0, BoxR w1 (some ⟨b, off, none⟩) n cap W0 := ⟨_, rfl⟩
  have K0 := hide hW0.cell
  have B1 := hide (hb1.trans (hW0.below.mono hb1.size))
  have HW := hide (show w1.alloc (.cells #[.slice (some ⟨b, off, none⟩) n cap] 56) = W0 from hW0)
  have HS0 := hide ((HS.out.below hb1).below hW0.below)
  clear hW0 hb1
  go_upto_region 6 with fail
  rw [HW.out]
  go_loopw [5, 15] (fun ov i wr => ∃ k m : Nat, k ≤ n ∧ i = .int .i64 (k : Int) ∧ m ≤ k ∧ Hid (wr.ownsRow W0.heap.size 33 2 ov m (flat (thn l k))) ∧ Hid (Below W0.heap.size W0 wr)) (fun _ i _ => n - (intOf i).toNat)
  case atStart => exact ⟨0, 0, Nat.zero_le _, rfl, Nat.le_refl _, World.ownsRow_nil _ _ _ _, Below.refl _ _⟩
  case round =>
    obtain ⟨k, m, hk, rfl, hmk, HO, BW⟩ := hrel
    by_cases hlt : k < n
    · have hltI : (k : Int) < (n : Int) := by omega
      have hkl : k < l.length := by rw [HN.out]; exact hlt
      obtain ⟨oa, oc, rfl, _, _⟩ := own_form2 HO.out
      obtain ⟨b', off', e, hx0, hv0⟩ := sl2_at HS0.out hkl
      cases e
      have hcx := (BW.out.cell (p := ⟨b, off + k * 2, none⟩) (blk_lt hx0)).trans hx0
      have hcv := (BW.out.cell (p := ⟨b, off + k * 2 + 1, none⟩) (blk_lt hv0)).trans hv0
      have k1 := (BW.out.cell (p := ⟨w1.heap.size, 0, none⟩) (blk_lt K0.out)).trans K0.out
      obtain ⟨q, hqq⟩ : ∃ q : Bool, q = true ↔ Ndl l k := by classical exact ⟨decide (Ndl l k), by simp⟩
      have CN := hide (fun wx hs => isNeedless_any (some ⟨b, off, none⟩) l n cap k wx HN.out hs hn2 hlt q hqq)
      have hyes := fun h : q = true => thn_yes (hqq.1 h)
      have hno := fun h : q = false => thn_no (l := l) (k := k) (fun h2 => by have := hqq.2 h2; rw [h] at this; cases this)
      rw [pair_eq] at hno
      obtain ⟨x, hxx⟩ : ∃ x, x = at_ l k := ⟨_, rfl⟩
      obtain ⟨y, hyy⟩ : ∃ y, y = vl l k := ⟨_, rfl⟩
      rw [← hxx] at hcx hno
      rw [← hyy] at hcv hno
      have HY := hide hyes
      have HNO := hide hno
      clear hqq hyes hno hxx hyy hx0 hv0 hkl
      go_upto_region 8 with fail
      obtain ⟨WA, hWA⟩ : ∃ WA, wr.alloc (.cells #[.int .i64 x, .int .i64 y] 33 (0, 0)) = WA := ⟨_, rfl⟩
      have EA := hide (show Below wr.heap.size wr WA by rw [← hWA]; exact (Below.refl _ _).alloc (Nat.le_refl _) _)
      have x0 : WA.cell? ⟨wr.heap.size, 0, none⟩ = some (.int .i64 x) := by rw [← hWA]; simp
      have x1 : WA.cell? ⟨wr.heap.size, 1, none⟩ = some (.int .i64 y) := by rw [← hWA]; simp
      have X0 := hide x0
      have X1 := hide x1
      have ka := (EA.out.cell (p := ⟨w1.heap.size, 0, none⟩) (blk_lt k1)).trans k1
      rw [hWA]
      clear hWA hcx hcv x0 x1 k1
      go_wp2_with fail
      refine (CN.out _ (HS0.out.below (BW.out.trans (EA.out.mono BW.out.size)))).mono ?_
      rintro e w2 ⟨rfl, hb2⟩
      have E2 := hide (EA.out.trans (hb2.mono EA.out.size))
      have B2 := hide (BW.out.trans (E2.out.mono BW.out.size))
      have x2 := (hb2.cell (p := ⟨wr.heap.size, 0, none⟩) (blk_lt X0.out)).trans X0.out
      have x3 := (hb2.cell (p := ⟨wr.heap.size, 1, none⟩) (blk_lt X1.out)).trans X1.out
      have O2 := hide (own_below2 HO.out E2.out)
      have hsz := B2.out.size
      clear hb2 ka
      cases hq2 : q with
      | true =>
        have HE := hide (HY.out hq2)
        subst hq2
        go_wp2
        go_roundw
        case rel => exact ⟨k + 1, m, by omega, by go_num, by omega, by rw [HE.out]; exact O2, B2⟩
        case measure => simp [intOf]; omega
      | false =>
        have HTK := hide (HNO.out hq2)
        subst hq2
        go_wp2_with (first
          | (at_builtin; refine wpList_append_own _ rfl _ _ 23 rfl W0.heap.size 33 i1 (.agg #[.int .i64 0, .int .i64 0]) 2 16 Try.underlying23 hi1 hy0 hy1 hy2 rfl (by decide) _ _ _ rfl (O2.out.alloc _) ⟨w2.heap.size, 0, none⟩ 1 1 [.int .i64 x, .int .i64 y] rfl rfl (cell_two16 _ _ _ _) (by intro u hu; simp at hu; rcases hu with rfl | rfl <;> rfl) (by unfold maxLen; omega) (by omega) (by simp; omega) ?_)
          | go_in)
        intro v6 w6 hown6 hgrow6 _
        have B6 := hide ((B2.out.alloc hsz (.cells #[.int .i64 x, .int .i64 y] 33)).grown hgrow6 (by simp; omega) (fun g hg => (O2.out.lt g hg).1))
        have O6 := hide (show w6.ownsRow W0.heap.size 33 2 v6 (m + 1) (flat (thn l (k + 1))) from by rw [HTK.out, flat_append]; exact hown6)
        clear hown6 hgrow6
        obtain ⟨a6, c6, rfl, _, _⟩ := own_form2 O6.out
        go_wp2
        go_roundw
        case rel => exact ⟨k + 1, m + 1, by omega, by go_num, by omega, O6, B6⟩
        case measure => simp [intOf]; omega
    · have hltI : ¬ (k : Int) < (n : Int) := by omega
      obtain rfl : k = n := by omega
      obtain ⟨oa, oc, rfl, _, hm⟩ := own_form2 HO.out
      have O2 := hide (own_baseS16 HO.out B1.out.size)
      have B2 := hide (B1.out.trans (BW.out.mono B1.out.size))
      have HM := hide hm
      clear hm
      go_wp2
      go_ret2
      exact ⟨_, by rw [HR.out]; rfl, by rw [HR.out]; simp only [Option.getD_some]; rw [HM.out]; exact O2.out, B2.out⟩
end Go.Proofs.Yticgejaaoamhmaf.L16
