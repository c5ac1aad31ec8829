/-
  Contracts: spec.ThinOut.
-/
import Derived.Test.YticgejaaoamhmafL16ThM
import Derived.Test.YticgejaaoamhmafL16Box
import Derived.Test.YticgejaaoamhmafL16Ret
import Derived.Test.YticgejaaoamhmafL16Row
namespace Go.Proofs.Yticgejaaoamhmaf.L16
open Go.RowKit L1
set_option linter.unusedVariables false

theorem own_drew16 {w : World} {base n : Nat} {v : Value} {ys : List Value} (h : Hid (w.ownsRow base 33 2 v n ys)) (q : Nat) : (w.drewN q).ownsRow base 33 2 v n ys := own_below2 h.out (below_drew16 (Below.refl _ _) q)
set_option maxRecDepth 100000 in
set_option maxHeartbeats 8000000 in
theorem sThinOut_any (b off : Nat) (l : List (Int × Int)) (n cap : Nat) (w : World) (hn : l.length = n) (hs : Sl2 w (some ⟨b, off, none⟩) l) (hn2 : n ≤ 1048576) (hcap : n ≤ cap) (r : Option (List (Int × Int))) (hr : r = thR l) :
    Calls Try.prog 14 #[.slice (some ⟨b, off, none⟩) n cap] w fun e w' => RetS16 w r e w' := by
  obtain ⟨c, hc⟩ : ∃ c : Bool, c = true ↔ Ctr l := by classical exact ⟨decide (Ctr l), by simp⟩
  have CO := hide (sCounterOk_any (some ⟨b, off, none⟩) l n cap w hn hs hn2 c hc)
  have HS := hide hs
  have HN := hide hn
  cases hq : c with
  | false =>
    have HR := hide (show r = none by rw [hr]; unfold thR; rw [if_neg (fun h => by have := hc.2 h; rw [hq] at this; cases this)])
    subst hq
    clear hc hr hs hn
    go_enter Try.func14, Try.ntmps14
    go_wp2_with fail
    refine CO.out.mono ?_
    rintro e w1 ⟨rfl, hb1⟩
    have B1 := hide hb1
    clear hb1
    go_wp2
    go_ret2
    exact retS_none HR.out B1.out
  | true =>
  have hct := hc.1 hq
  have h40 : n ≤ 40 := by have := hct.len; omega
  have HR := hide (show r = some (thn l n) by rw [hr]; unfold thR; rw [if_pos hct, hn])
  obtain ⟨i1, hi1, hy0, hy1, hy2⟩ := info_parts info_smp
  subst hq
  clear hc hr hs hn hct
  go_enter Try.func14, Try.ntmps14
  go_wp2_with fail
  refine CO.out.mono ?_
  rintro e w1 ⟨rfl, hb1⟩
  have B1 := hide hb1
  have HS0 := hide (HS.out.below hb1)
  clear hb1
  go_upto_region 5 with fail
  go_loopw [4, 12] (fun ov i wr => ∃ k m : Nat, k ≤ n ∧ i = .int .i64 (k : Int) ∧ m ≤ k ∧ Hid (wr.ownsRow w1.heap.size 33 2 ov m (flat (thn l k))) ∧ Hid (Below w1.heap.size w1 wr)) (fun _ i _ => n - (intOf i).toNat)
  case atStart => exact ⟨0, 0, Nat.zero_le _, rfl, Nat.le_refl _, World.ownsRow_nil _ _ _ _, Below.refl _ _⟩
  case round =>
    obtain ⟨k, m, hk, rfl, hmk, HO, BW⟩ := hrel
    by_cases hlt : k < n
    · have hltI : (k : Int) < (n : Int) := by omega
      have hkl : k < l.length := by rw [HN.out]; exact hlt
      obtain ⟨oa, oc, rfl, _, _⟩ := own_form2 HO.out
      obtain ⟨b', off', e, hx0, hv0⟩ := sl2_at HS0.out hkl
      cases e
      have hcx := (BW.out.cell (p := ⟨b, off + k * 2, none⟩) (blk_lt hx0)).trans hx0
      have hcv := (BW.out.cell (p := ⟨b, off + k * 2 + 1, none⟩) (blk_lt hv0)).trans hv0
      have hyes : Ndl l k → thn l (k + 1) = thn l k := thn_yes
      have hno : ¬ Ndl l k → thn l (k + 1) = thn l k ++ [l.getD k (0, 0)] := thn_no
      rw [pair_eq] at hno
      have PV : Hid (0 < k → ∃ q, vl l (k - 1) = q ∧ wr.cell? ⟨b, off + (k - 1) * 2 + 1, none⟩ = some (.int .i64 q)) := fun h0 => by
        obtain ⟨b', off', e, _, h1⟩ := sl2_at HS0.out (k := k - 1) (by omega)
        cases e
        exact ⟨_, rfl, (BW.out.cell (p := ⟨b, off + (k - 1) * 2 + 1, none⟩) (blk_lt h1)).trans h1⟩
      have NV : Hid (k + 1 < n → ∃ q, vl l (k + 1) = q ∧ wr.cell? ⟨b, off + (k + 1) * 2 + 1, none⟩ = some (.int .i64 q)) := fun h0 => by
        obtain ⟨b', off', e, _, h1⟩ := sl2_at HS0.out (k := k + 1) (by rw [HN.out]; exact h0)
        cases e
        exact ⟨_, rfl, (BW.out.cell (p := ⟨b, off + (k + 1) * 2 + 1, none⟩) (blk_lt h1)).trans h1⟩
      have ND : Hid (Ndl l k ↔ 0 < k ∧ k + 1 < n ∧ vl l (k - 1) ≤ vl l k ∧ vl l k ≤ vl l (k + 1)) := hide (by unfold Ndl; rw [HN.out])
      obtain ⟨x, hxx⟩ : ∃ x, x = at_ l k := ⟨_, rfl⟩
      obtain ⟨y, hyy⟩ : ∃ y, y = vl l k := ⟨_, rfl⟩
      rw [← hxx] at hcx hno
      rw [← hyy] at hcv hno ND
      have HY := hide hyes
      have HNO := hide hno
      clear hyes hno hxx hyy hx0 hv0 hkl
      go_upto_region 7 with fail
      obtain ⟨WA, hWA⟩ : ∃ WA, wr.alloc (.cells #[.int .i64 x, .int .i64 y] 33 (0, 0)) = WA := ⟨_, rfl⟩
      have EA := hide (show Below wr.heap.size wr WA by rw [← hWA]; exact (Below.refl _ _).alloc (Nat.le_refl _) _)
      have x0 : WA.cell? ⟨wr.heap.size, 0, none⟩ = some (.int .i64 x) := by rw [← hWA]; simp
      have x1 : WA.cell? ⟨wr.heap.size, 1, none⟩ = some (.int .i64 y) := by rw [← hWA]; simp
      rw [hWA]
      clear hWA hcx hcv
      have B2 := hide (BW.out.trans (EA.out.mono BW.out.size))
      have O2 := hide (own_below2 HO.out EA.out)
      have hsz := B2.out.size
      by_cases h0 : k = 0
      · have HTK := hide (HNO.out (fun h => by have := (ND.out.1 h).1; omega))
        subst h0
        have hz : ¬ (0 : Int) < (0 : Int) := by omega
        clear PV NV
        go_quiet (fail)
        obtain ⟨WB, hWB, hsB, xB0, xB1, HOB, HBB⟩ : ∃ WB, WA.drewN _ = WB ∧ w1.heap.size ≤ WB.heap.size ∧ WB.cell? ⟨wr.heap.size, 0, none⟩ = some (.int .i64 x) ∧ WB.cell? ⟨wr.heap.size, 1, none⟩ = some (.int .i64 y) ∧ Hid (WB.ownsRow w1.heap.size 33 2 (.slice oa m oc) m (flat (thn l 0))) ∧ Hid (Below w1.heap.size w1 WB) := ⟨_, rfl, by simpa using hsz, by simpa using x0, by simpa using x1, own_drew16 O2 _, below_drew16 B2.out _⟩
        rw [hWB]
        clear hWB x0 x1 hsz
        have hsz := hsB
        clear hsB
        go_wp2_with (first
          | (at_builtin; refine wpList_append_own _ rfl _ _ 23 rfl w1.heap.size 33 i1 (.agg #[.int .i64 0, .int .i64 0]) 2 16 Try.underlying23 hi1 hy0 hy1 hy2 rfl (by decide) _ _ _ rfl (HOB.out.alloc _) ⟨WB.heap.size, 0, none⟩ 1 1 [.int .i64 x, .int .i64 y] rfl rfl (cell_two16 _ _ _ _) (by intro u hu; simp at hu; rcases hu with rfl | rfl <;> rfl) (by unfold maxLen; omega) (by omega) (by simp; omega) ?_)
          | go_in)
        intro v6 w6 hown6 hgrow6 _
        have B6 := hide ((HBB.out.alloc hsz (.cells #[.int .i64 x, .int .i64 y] 33)).grown hgrow6 (by simp; omega) (fun g hg => (HOB.out.lt g hg).1))
        have O6 := hide (show w6.ownsRow w1.heap.size 33 2 v6 (m + 1) (flat (thn l (0 + 1))) from by rw [HTK.out, flat_append]; exact hown6)
        clear hown6 hgrow6
        obtain ⟨a6, c6, rfl, _, _⟩ := own_form2 O6.out
        go_wp2
        go_roundw
        case rel => exact ⟨0 + 1, m + 1, by omega, by go_num, by omega, O6, B6⟩
        case measure => simp [intOf]; omega
      have hkI : (0 : Int) < (k : Int) := by omega
      have hkN : 0 < k := by omega
      by_cases h1 : (k : Int) < (n : Int) - 1
      rotate_left
      · have HTK := hide (HNO.out (fun h => by have := (ND.out.1 h).2.1; omega))
        clear PV NV
        go_quiet (fail)
        obtain ⟨WB, hWB, hsB, xB0, xB1, HOB, HBB⟩ : ∃ WB, WA.drewN _ = WB ∧ w1.heap.size ≤ WB.heap.size ∧ WB.cell? ⟨wr.heap.size, 0, none⟩ = some (.int .i64 x) ∧ WB.cell? ⟨wr.heap.size, 1, none⟩ = some (.int .i64 y) ∧ Hid (WB.ownsRow w1.heap.size 33 2 (.slice oa m oc) m (flat (thn l k))) ∧ Hid (Below w1.heap.size w1 WB) := ⟨_, rfl, by simpa using hsz, by simpa using x0, by simpa using x1, own_drew16 O2 _, below_drew16 B2.out _⟩
        rw [hWB]
        clear hWB x0 x1 hsz
        have hsz := hsB
        clear hsB
        go_wp2_with (first
          | (at_builtin; refine wpList_append_own _ rfl _ _ 23 rfl w1.heap.size 33 i1 (.agg #[.int .i64 0, .int .i64 0]) 2 16 Try.underlying23 hi1 hy0 hy1 hy2 rfl (by decide) _ _ _ rfl (HOB.out.alloc _) ⟨WB.heap.size, 0, none⟩ 1 1 [.int .i64 x, .int .i64 y] rfl rfl (cell_two16 _ _ _ _) (by intro u hu; simp at hu; rcases hu with rfl | rfl <;> rfl) (by unfold maxLen; omega) (by omega) (by simp; omega) ?_)
          | go_in)
        intro v6 w6 hown6 hgrow6 _
        have B6 := hide ((HBB.out.alloc hsz (.cells #[.int .i64 x, .int .i64 y] 33)).grown hgrow6 (by simp; omega) (fun g hg => (HOB.out.lt g hg).1))
        have O6 := hide (show w6.ownsRow w1.heap.size 33 2 v6 (m + 1) (flat (thn l (k + 1))) from by rw [HTK.out, flat_append]; exact hown6)
        clear hown6 hgrow6
        obtain ⟨a6, c6, rfl, _, _⟩ := own_form2 O6.out
        go_wp2
        go_roundw
        case rel => exact ⟨k + 1, m + 1, by omega, by go_num, by omega, O6, B6⟩
        case measure => simp [intOf]; omega
      obtain ⟨p, hp, cp⟩ := PV.out (by omega)
      obtain ⟨q, hq, cq⟩ := NV.out (by omega)
      rw [hp, hq] at ND
      have cpa := (EA.out.cell (p := ⟨b, off + (k - 1) * 2 + 1, none⟩) (blk_lt cp)).trans cp
      have cqa := (EA.out.cell (p := ⟨b, off + (k + 1) * 2 + 1, none⟩) (blk_lt cq)).trans cq
      obtain ⟨t, ht⟩ : ∃ t, t = k - 1 := ⟨_, rfl⟩
      rw [← ht] at cpa
      have hr1 : (k : Int) - 1 = (t : Int) := by omega
      have hrw2 : IntKind.i64.wrap (t : Int) = (t : Int) := wrap16 (by omega) (by omega)
      have htn : (t : Int) < (n : Int) := by omega
      have hk1n : (k : Int) + 1 < (n : Int) := by omega
      have hk10 : (0 : Int) ≤ (k : Int) + 1 := by omega
      have htN : t < n := by omega
      have hk1N : k + 1 < n := by omega
      clear hp hq cp cq PV NV ht
      by_cases h2 : p ≤ y
      rotate_left
      · have HTK := hide (HNO.out (fun h => by have := (ND.out.1 h).2.2.1; omega))
        go_quiet (fail)
        obtain ⟨WB, hWB, hsB, xB0, xB1, HOB, HBB⟩ : ∃ WB, WA.drewN _ = WB ∧ w1.heap.size ≤ WB.heap.size ∧ WB.cell? ⟨wr.heap.size, 0, none⟩ = some (.int .i64 x) ∧ WB.cell? ⟨wr.heap.size, 1, none⟩ = some (.int .i64 y) ∧ Hid (WB.ownsRow w1.heap.size 33 2 (.slice oa m oc) m (flat (thn l k))) ∧ Hid (Below w1.heap.size w1 WB) := ⟨_, rfl, by simpa using hsz, by simpa using x0, by simpa using x1, own_drew16 O2 _, below_drew16 B2.out _⟩
        rw [hWB]
        clear hWB x0 x1 hsz
        have hsz := hsB
        clear hsB
        go_wp2_with (first
          | (at_builtin; refine wpList_append_own _ rfl _ _ 23 rfl w1.heap.size 33 i1 (.agg #[.int .i64 0, .int .i64 0]) 2 16 Try.underlying23 hi1 hy0 hy1 hy2 rfl (by decide) _ _ _ rfl (HOB.out.alloc _) ⟨WB.heap.size, 0, none⟩ 1 1 [.int .i64 x, .int .i64 y] rfl rfl (cell_two16 _ _ _ _) (by intro u hu; simp at hu; rcases hu with rfl | rfl <;> rfl) (by unfold maxLen; omega) (by omega) (by simp; omega) ?_)
          | go_in)
        intro v6 w6 hown6 hgrow6 _
        have B6 := hide ((HBB.out.alloc hsz (.cells #[.int .i64 x, .int .i64 y] 33)).grown hgrow6 (by simp; omega) (fun g hg => (HOB.out.lt g hg).1))
        have O6 := hide (show w6.ownsRow w1.heap.size 33 2 v6 (m + 1) (flat (thn l (k + 1))) from by rw [HTK.out, flat_append]; exact hown6)
        clear hown6 hgrow6
        obtain ⟨a6, c6, rfl, _, _⟩ := own_form2 O6.out
        go_wp2
        go_roundw
        case rel => exact ⟨k + 1, m + 1, by omega, by go_num, by omega, O6, B6⟩
        case measure => simp [intOf]; omega
      by_cases h3 : y ≤ q
      rotate_left
      · have HTK := hide (HNO.out (fun h => by have := (ND.out.1 h).2.2.2; omega))
        go_quiet (fail)
        obtain ⟨WB, hWB, hsB, xB0, xB1, HOB, HBB⟩ : ∃ WB, WA.drewN _ = WB ∧ w1.heap.size ≤ WB.heap.size ∧ WB.cell? ⟨wr.heap.size, 0, none⟩ = some (.int .i64 x) ∧ WB.cell? ⟨wr.heap.size, 1, none⟩ = some (.int .i64 y) ∧ Hid (WB.ownsRow w1.heap.size 33 2 (.slice oa m oc) m (flat (thn l k))) ∧ Hid (Below w1.heap.size w1 WB) := ⟨_, rfl, by simpa using hsz, by simpa using x0, by simpa using x1, own_drew16 O2 _, below_drew16 B2.out _⟩
        rw [hWB]
        clear hWB x0 x1 hsz
        have hsz := hsB
        clear hsB
        go_wp2_with (first
          | (at_builtin; refine wpList_append_own _ rfl _ _ 23 rfl w1.heap.size 33 i1 (.agg #[.int .i64 0, .int .i64 0]) 2 16 Try.underlying23 hi1 hy0 hy1 hy2 rfl (by decide) _ _ _ rfl (HOB.out.alloc _) ⟨WB.heap.size, 0, none⟩ 1 1 [.int .i64 x, .int .i64 y] rfl rfl (cell_two16 _ _ _ _) (by intro u hu; simp at hu; rcases hu with rfl | rfl <;> rfl) (by unfold maxLen; omega) (by omega) (by simp; omega) ?_)
          | go_in)
        intro v6 w6 hown6 hgrow6 _
        have B6 := hide ((HBB.out.alloc hsz (.cells #[.int .i64 x, .int .i64 y] 33)).grown hgrow6 (by simp; omega) (fun g hg => (HOB.out.lt g hg).1))
        have O6 := hide (show w6.ownsRow w1.heap.size 33 2 v6 (m + 1) (flat (thn l (k + 1))) from by rw [HTK.out, flat_append]; exact hown6)
        clear hown6 hgrow6
        obtain ⟨a6, c6, rfl, _, _⟩ := own_form2 O6.out
        go_wp2
        go_roundw
        case rel => exact ⟨k + 1, m + 1, by omega, by go_num, by omega, O6, B6⟩
        case measure => simp [intOf]; omega
      have HE := hide (HY.out (ND.out.2 ⟨by omega, hk1N, h2, h3⟩))
      go_quiet (fail)
      go_wp2
      go_roundw
      case rel => exact ⟨k + 1, m, by omega, by go_num, by omega, by rw [HE.out]; exact own_drew16 O2 _, below_drew16 B2.out _⟩
      case measure => simp [intOf]; omega
    · have hltI : ¬ (k : Int) < (n : Int) := by omega
      obtain rfl : k = n := by omega
      obtain ⟨oa, oc, rfl, _, hm⟩ := own_form2 HO.out
      have O2 := hide (own_baseS16 HO.out B1.out.size)
      have B2 := hide (B1.out.trans (BW.out.mono B1.out.size))
      have HM := hide hm
      clear hm
      go_wp2
      go_ret2
      exact ⟨_, by rw [HR.out]; rfl, by rw [HR.out]; simp only [Option.getD_some]; rw [HM.out]; exact O2.out, B2.out⟩
end Go.Proofs.Yticgejaaoamhmaf.L16
