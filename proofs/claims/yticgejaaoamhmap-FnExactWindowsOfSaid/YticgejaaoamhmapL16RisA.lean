/-
  Contracts: how much a run rose.
-/
import Derived.Test.YticgejaaoamhmapL16Box
import Derived.Test.YticgejaaoamhmapL16Ctr
import Derived.Deep.Cut
namespace Go.Proofs.Yticgejaaoamhmap.L16
open Go.RowKit L1
set_option linter.unusedVariables false

set_option maxRecDepth 100000 in
set_option maxHeartbeats 1000000 in
theorem riseAt_any (a : Option Addr) (l : List (Int × Int)) (n cap k : Nat) (w : World) (hn : l.length = n) (hs : Sl2 w a l) (hn2 : n ≤ 1048576) (hk0 : 0 < k) (hk : k < n) (hv : ∀ j, j < n → 0 ≤ vl l j ∧ vl l j ≤ 1000000000) (z : Int) (hz : z = stp (vl l (k - 1)) (vl l k)) :
    Calls Try.prog 48 #[.agg #[.slice a n cap], .int .i64 (k : Int)] w fun e w' => e = .returned (.int .i64 z) ∧ Below w.heap.size w w' := by
  obtain ⟨bb, hbb⟩ : ∃ bb, bb = decide (vl l k < vl l (k - 1)) := ⟨_, rfl⟩
  have CR := hide (fun wx hs => isReset_any a l n cap k wx hn hs hn2 hk0 hk bb hbb)
  have HS := hide hs
  obtain ⟨b, off, rfl, _, hy0⟩ := sl2_at hs (k := k) (by omega)
  obtain ⟨b', off', e, _, hx0⟩ := sl2_at hs (k := k - 1) (by omega)
  cases e
  have hvx := hv (k - 1) (by omega)
  have hvy := hv k (by omega)
  obtain ⟨r, hr⟩ : ∃ r, r = k - 1 := ⟨_, rfl⟩
  rw [← hr] at hx0 hbb hz hvx
  have hr1 : (k : Int) - 1 = (r : Int) := by omega
  have hrw : IntKind.i64.wrap ((k : Int) - 1) = (r : Int) := by rw [hr1]; exact wrap16 (by omega) (by omega)
  have hrn : (r : Int) < (n : Int) := by omega
  have hkn : (k : Int) < (n : Int) := by omega
  obtain ⟨W0, hW0⟩ : ∃ W0, BoxR w (some ⟨b, off, none⟩) n cap W0 := ⟨_, rfl⟩
  have k0 := hW0.cell
  have hba := hW0.below
  have hx := (hba.cell (p := ⟨b, off + r * 2 + 1, none⟩) (blk_lt hx0)).trans hx0
  have hy := (hba.cell (p := ⟨b, off + k * 2 + 1, none⟩) (blk_lt hy0)).trans hy0
  obtain ⟨x, hxx⟩ : ∃ x, x = vl l r := ⟨_, rfl⟩
  obtain ⟨y, hyy⟩ : ∃ y, y = vl l k := ⟨_, rfl⟩
  rw [← hxx] at hx hbb hz hvx
  rw [← hyy] at hy hbb hz hvy
  unfold stp at hz
  have HX := hide hx
  have HY := hide hy
  have K0 := hide k0
  have HW := hide (show w.alloc (.cells #[.slice (some ⟨b, off, none⟩) n cap] 47) = W0 from hW0)
  have B := hide hba
  clear hr hxx hyy hs hba hW0 hx0 hy0 hn hv hx hy
  cases hq : bb with
  | true =>
    have hlt : y < x := by rw [hq] at hbb; exact of_decide_eq_true hbb.symm
    rw [if_pos hlt] at hz
    have HZ := hide hz
    subst hq
    clear hz hbb
    go_enter Try.func48, Try.ntmps48
    go_upto_region 1 with fail
    rw [HW.out]
    go_wp2_with fail
    refine (CR.out _ (HS.out.below B.out)).mono ?_
    rintro e w1 ⟨rfl, hb1⟩
    have B1 := hide (B.out.trans (hb1.mono B.out.size))
    have k1 := (hb1.cell (p := ⟨w.heap.size, 0, none⟩) (blk_lt k0)).trans k0
    have hy1 := (hb1.cell (p := ⟨b, off + k * 2 + 1, none⟩) (blk_lt HY.out)).trans HY.out
    clear hb1 k0
    go_wp2
    go_ret
    exact ⟨by rw [HZ.out]; rfl, B1.out⟩
  | false =>
    have hlt : ¬ y < x := by rw [hq] at hbb; exact of_decide_eq_false hbb.symm
    rw [if_neg hlt] at hz
    have hzw : IntKind.i64.wrap (y - x) = y - x := wrap16 (by omega) (by omega)
    have HZ := hide hz
    subst hq
    clear hz hbb
    go_enter Try.func48, Try.ntmps48
    go_upto_region 1 with fail
    rw [HW.out]
    go_wp2_with fail
    refine (CR.out _ (HS.out.below B.out)).mono ?_
    rintro e w1 ⟨rfl, hb1⟩
    have B1 := hide (B.out.trans (hb1.mono B.out.size))
    have k1 := (hb1.cell (p := ⟨w.heap.size, 0, none⟩) (blk_lt k0)).trans k0
    have hx1 := (hb1.cell (p := ⟨b, off + r * 2 + 1, none⟩) (blk_lt HX.out)).trans HX.out
    have hy1 := (hb1.cell (p := ⟨b, off + k * 2 + 1, none⟩) (blk_lt HY.out)).trans HY.out
    clear hb1 k0
    go_upto_region 3 with fail
    go_quiet (fail)
    go_wp2
    go_ret
    exact ⟨by rw [HZ.out]; rfl, below_drew16 B1.out _⟩
set_option maxRecDepth 100000 in
set_option maxHeartbeats 1000000 in
theorem rise_any (a : Option Addr) (l : List (Int × Int)) (n cap : Nat) (w : World) (hn : l.length = n) (hs : Sl2 w a l) (h40 : n ≤ 40) (hv : ∀ j, j < n → 0 ≤ vl l j ∧ vl l j ≤ 1000000000) (hr : ∀ k, k ≤ n → 0 ≤ ris l k ∧ ris l k ≤ 40000000000) :
    Calls Try.prog 39 #[.agg #[.slice a n cap]] w fun e w' => e = .returned (.int .i64 (ris l n)) ∧ Below w.heap.size w w' := by
  obtain ⟨W0, hW0⟩ : ∃ W0, BoxR w a n cap W0 := ⟨_, rfl⟩
  have K0 := hide hW0.cell
  have B0 := hide hW0.below
  have HW := hide (show w.alloc (.cells #[.slice a n cap] 47) = W0 from hW0)
  have HS := hide (hs.below hW0.below)
  have HV := hide hv
  have HR := hide hr
  have HN := hide hn
  clear hW0 hs hv hr hn
  go_enter Try.func39, Try.ntmps39
  go_upto_region 3 with fail
  rw [HW.out]
  go_loopw [3, 4] (fun s i wr => ∃ k : Nat, 0 < k ∧ (k ≤ n ∨ k = 1) ∧ i = .int .i64 k ∧ s = .int .i64 (ris l k) ∧ Hid (Below W0.heap.size W0 wr)) (fun _ i _ => n - (intOf i).toNat)
  case atStart => exact ⟨1, Nat.one_pos, .inr rfl, rfl, by rw [ris_one], Below.refl _ _⟩
  case round =>
    obtain ⟨k, hk0, hk, rfl, rfl, BW⟩ := hrel
    have k1 := (BW.out.cell (p := ⟨w.heap.size, 0, none⟩) (blk_lt K0.out)).trans K0.out
    by_cases hlt : k < n
    · have hltI : (k : Int) < (n : Int) := by omega
      have hsu := ris_succ l hk0
      have hr1 := HR.out k (by omega)
      have hr2 := HR.out (k + 1) (by omega)
      obtain ⟨z, hz⟩ : ∃ z, z = stp (vl l (k - 1)) (vl l k) := ⟨_, rfl⟩
      have CA := hide (fun wx hs => riseAt_any a l n cap k wx HN.out hs (by omega) hk0 hlt HV.out z hz)
      rw [← hz] at hsu
      obtain ⟨s, hss⟩ : ∃ s, s = ris l k := ⟨_, rfl⟩
      obtain ⟨t, htt⟩ : ∃ t, t = ris l (k + 1) := ⟨_, rfl⟩
      rw [← hss, ← htt] at hsu
      rw [← hss] at hr1
      rw [← htt] at hr2
      rw [← hss]
      have hw : IntKind.i64.wrap (s + z) = s + z := wrap16 (by omega) (by omega)
      have HT := hide (show s + z = ris l (k + 1) by rw [← htt, hsu])
      clear hz hss htt hsu hr1 hr2
      go_wp2_with fail
      refine (CA.out _ (HS.out.below BW.out)).mono ?_
      rintro e w1 ⟨rfl, hb1⟩
      have B1 := hide (BW.out.trans (hb1.mono BW.out.size))
      clear hb1 k1
      go_wp2
      go_roundw
      case rel => exact ⟨k + 1, by omega, .inl (by omega), by go_num, by rw [HT.out], B1.out⟩
      case measure => simp [intOf]; omega
    · have hltI : ¬ (k : Int) < (n : Int) := by omega
      have e : ris l k = ris l n := by
        rcases hk with h | h
        · rw [show k = n by omega]
        · subst h
          have : n = 0 ∨ n = 1 := by omega
          rcases this with h | h
          · subst h; rw [ris_one]; rfl
          · subst h; rfl
      rw [e]
      obtain ⟨s, hss⟩ : ∃ s, s = ris l n := ⟨_, rfl⟩
      rw [← hss]
      have HSS := hide hss
      have B1 := hide (B0.out.trans (BW.out.mono B0.out.size))
      clear e hss
      go_wp2
      go_ret
      exact ⟨by rw [← HSS.out]; rfl, B1.out⟩
end Go.Proofs.Yticgejaaoamhmap.L16
