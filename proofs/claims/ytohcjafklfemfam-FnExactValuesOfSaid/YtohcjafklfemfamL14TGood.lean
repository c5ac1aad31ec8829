/-
  Contracts: impl.isItemValue, impl.goodTotal, impl.labelsOfTotal; impl.GoodTotals tells whether totals are good.
-/
import Derived.Test.YtohcjafklfemfamL14TGMath
import Derived.Test.YtohcjafklfemfamL3Text
import Derived.Deep.RegionHeld3
import Derived.Deep.QuietTactic
import Derived.BigQuiet
namespace Go.Proofs.Ytohcjafklfemfam.L14T
open Go.RowKit L1 L3
set_option linter.unusedVariables false

set_option maxRecDepth 100000 in
set_option maxHeartbeats 400000 in
theorem isItemValue_any (x : Int) (w : World) (b : Bool) (hb : b = true ↔ -1000000 ≤ x ∧ x ≤ 1000000) :
    Calls Try.prog 65 #[.int .i64 x] w fun e w' => e = .returned (.bool b) ∧ w = w' := by
  by_cases h1 : -1000000 ≤ x
  · by_cases h2 : x ≤ 1000000
    · obtain rfl : b = true := hb.2 ⟨h1, h2⟩
      clear hb
      go_enter Try.func65, Try.ntmps65
      go_wp2
      go_ret
      exact ⟨rfl, rfl⟩
    · obtain rfl : b = false := bool_no14 hb (fun h => h2 h.2)
      clear hb
      go_enter Try.func65, Try.ntmps65
      go_wp2
      go_ret
      exact ⟨rfl, rfl⟩
  · obtain rfl : b = false := bool_no14 hb (fun h => h1 h.1)
    clear hb
    go_enter Try.func65, Try.ntmps65
    go_wp2
    go_ret
    exact ⟨rfl, rfl⟩
open Classical in
set_option maxRecDepth 100000 in
set_option maxHeartbeats 2000000 in
theorem goodTotal_any (a : Option Addr) (l : List Lb) (n c : Nat) (v0 v1 v2 v3 : Int) (w : World) (hn : l.length = n) (hn2 : n ≤ 1048576) (hs : SlL w a l) (hst : TxB l) (bb : Bool) (hbb : bb = true ↔ GoodL l ∧ okN v0 v1 v2 v3) :
    Calls Try.prog 38 #[.agg #[.slice a n c, .int .i64 v0, .int .i64 v1, .int .i64 v2, .int .i64 v3]] w fun e w' => e = .returned (.bool bb) ∧ Below w.heap.size w w' := by
  by_cases hg : GoodL l
  · have CG := hide (fun w hs => goodLabels_any a l n c w hn hs hn2 hst true (by simp [hg]))
    have HS := hide hs
    by_cases hq : ¬ (1 ≤ v1)
    · obtain rfl := bool_no14 hbb (fun h => hq h.2.1.1)
      have HX := trivial
      clear hbb hs hst hn hg HX
      go_enter Try.func38, Try.ntmps38
      go_wp2_with fail
      refine (CG.out _ (HS.out.below ((Below.refl _ _).alloc (Nat.le_refl _) _))).mono ?_
      rintro e w1 ⟨rfl, hb⟩
      obtain ⟨c0, c1, c2, c3, c4, _, _, _, _, _⟩ := blkp ((hb.block w.heap.size (by simp)).trans (L8.blk_new _ _))
      have B1 := hide (((Below.refl w.heap.size w).alloc (Nat.le_refl _) (.cells #[.slice a n c, .int .i64 v0, .int .i64 v1, .int .i64 v2, .int .i64 v3] 60 (0, 0))).trans (hb.mono (by simp)))
      clear hb
      go_wp2
      go_ret
      exact ⟨rfl, B1.out⟩
    have hq0 : 1 ≤ v1 := Classical.not_not.1 hq
    clear hq
    by_cases hq : ¬ (v1 ≤ 1000)
    · obtain rfl := bool_no14 hbb (fun h => hq h.2.1.2)
      have HX := trivial
      clear hbb hs hst hn hg HX
      go_enter Try.func38, Try.ntmps38
      go_wp2_with fail
      refine (CG.out _ (HS.out.below ((Below.refl _ _).alloc (Nat.le_refl _) _))).mono ?_
      rintro e w1 ⟨rfl, hb⟩
      obtain ⟨c0, c1, c2, c3, c4, _, _, _, _, _⟩ := blkp ((hb.block w.heap.size (by simp)).trans (L8.blk_new _ _))
      have B1 := hide (((Below.refl w.heap.size w).alloc (Nat.le_refl _) (.cells #[.slice a n c, .int .i64 v0, .int .i64 v1, .int .i64 v2, .int .i64 v3] 60 (0, 0))).trans (hb.mono (by simp)))
      clear hb
      go_wp2
      go_ret
      exact ⟨rfl, B1.out⟩
    have hq1 : v1 ≤ 1000 := Classical.not_not.1 hq
    clear hq
    by_cases hq : ¬ (-1000000000 ≤ v0)
    · obtain rfl := bool_no14 hbb (fun h => hq h.2.2.1.1)
      have HX := trivial
      clear hbb hs hst hn hg HX
      go_enter Try.func38, Try.ntmps38
      go_wp2_with fail
      refine (CG.out _ (HS.out.below ((Below.refl _ _).alloc (Nat.le_refl _) _))).mono ?_
      rintro e w1 ⟨rfl, hb⟩
      obtain ⟨c0, c1, c2, c3, c4, _, _, _, _, _⟩ := blkp ((hb.block w.heap.size (by simp)).trans (L8.blk_new _ _))
      have B1 := hide (((Below.refl w.heap.size w).alloc (Nat.le_refl _) (.cells #[.slice a n c, .int .i64 v0, .int .i64 v1, .int .i64 v2, .int .i64 v3] 60 (0, 0))).trans (hb.mono (by simp)))
      clear hb
      go_wp2
      go_ret
      exact ⟨rfl, B1.out⟩
    have hq2 : -1000000000 ≤ v0 := Classical.not_not.1 hq
    clear hq
    by_cases hq : ¬ (v0 ≤ 1000000000)
    · obtain rfl := bool_no14 hbb (fun h => hq h.2.2.1.2)
      have HX := trivial
      clear hbb hs hst hn hg HX
      go_enter Try.func38, Try.ntmps38
      go_wp2_with fail
      refine (CG.out _ (HS.out.below ((Below.refl _ _).alloc (Nat.le_refl _) _))).mono ?_
      rintro e w1 ⟨rfl, hb⟩
      obtain ⟨c0, c1, c2, c3, c4, _, _, _, _, _⟩ := blkp ((hb.block w.heap.size (by simp)).trans (L8.blk_new _ _))
      have B1 := hide (((Below.refl w.heap.size w).alloc (Nat.le_refl _) (.cells #[.slice a n c, .int .i64 v0, .int .i64 v1, .int .i64 v2, .int .i64 v3] 60 (0, 0))).trans (hb.mono (by simp)))
      clear hb
      go_wp2
      go_ret
      exact ⟨rfl, B1.out⟩
    have hq3 : v0 ≤ 1000000000 := Classical.not_not.1 hq
    clear hq
    by_cases hv2 : ¬ (-1000000 ≤ v2 ∧ v2 ≤ 1000000)
    · obtain rfl := bool_no14 hbb (fun h => hv2 h.2.2.2.1)
      have CV := hide (fun w => isItemValue_any v2 w false ⟨fun h => absurd h (by simp), fun h => absurd h hv2⟩)
      have HX := trivial
      clear hv2
      clear hbb hs hst hn hg HX
      go_enter Try.func38, Try.ntmps38
      go_wp2_with fail
      refine (CG.out _ (HS.out.below ((Below.refl _ _).alloc (Nat.le_refl _) _))).mono ?_
      rintro e w1 ⟨rfl, hb⟩
      obtain ⟨c0, c1, c2, c3, c4, _, _, _, _, _⟩ := blkp ((hb.block w.heap.size (by simp)).trans (L8.blk_new _ _))
      have B1 := hide (((Below.refl w.heap.size w).alloc (Nat.le_refl _) (.cells #[.slice a n c, .int .i64 v0, .int .i64 v1, .int .i64 v2, .int .i64 v3] 60 (0, 0))).trans (hb.mono (by simp)))
      clear hb
      go_wp2_with fail
      refine (CV.out _).mono ?_
      rintro e w2 ⟨rfl, rfl⟩
      go_wp2
      go_ret
      exact ⟨rfl, B1.out⟩
    have hv2' : -1000000 ≤ v2 ∧ v2 ≤ 1000000 := Classical.not_not.1 hv2
    have CV := hide (fun w => isItemValue_any v2 w true ⟨fun _ => hv2', fun _ => rfl⟩)
    by_cases hv3 : ¬ (-1000000 ≤ v3 ∧ v3 ≤ 1000000)
    · obtain rfl := bool_no14 hbb (fun h => hv3 h.2.2.2.2.1)
      have CW := hide (fun w => isItemValue_any v3 w false ⟨fun h => absurd h (by simp), fun h => absurd h hv3⟩)
      have HX := trivial
      clear hv2 hv3 hv2'
      clear hbb hs hst hn hg HX
      go_enter Try.func38, Try.ntmps38
      go_wp2_with fail
      refine (CG.out _ (HS.out.below ((Below.refl _ _).alloc (Nat.le_refl _) _))).mono ?_
      rintro e w1 ⟨rfl, hb⟩
      obtain ⟨c0, c1, c2, c3, c4, _, _, _, _, _⟩ := blkp ((hb.block w.heap.size (by simp)).trans (L8.blk_new _ _))
      have B1 := hide (((Below.refl w.heap.size w).alloc (Nat.le_refl _) (.cells #[.slice a n c, .int .i64 v0, .int .i64 v1, .int .i64 v2, .int .i64 v3] 60 (0, 0))).trans (hb.mono (by simp)))
      clear hb
      go_wp2_with fail
      refine (CV.out _).mono ?_
      rintro e w2 ⟨rfl, rfl⟩
      go_wp2_with fail
      refine (CW.out _).mono ?_
      rintro e w2 ⟨rfl, rfl⟩
      go_wp2
      go_ret
      exact ⟨rfl, B1.out⟩
    have hv3' : -1000000 ≤ v3 ∧ v3 ≤ 1000000 := Classical.not_not.1 hv3
    have CW := hide (fun w => isItemValue_any v3 w true ⟨fun _ => hv3', fun _ => rfl⟩)
    by_cases hle : v2 ≤ v3
    · obtain rfl : bb = true := hbb.2 ⟨hg, ⟨hq0, hq1⟩, ⟨hq2, hq3⟩, hv2', hv3', hle⟩
      have HX := trivial
      clear hv2 hv3 hv2' hv3'
      clear hbb hs hst hn hg HX
      go_enter Try.func38, Try.ntmps38
      go_wp2_with fail
      refine (CG.out _ (HS.out.below ((Below.refl _ _).alloc (Nat.le_refl _) _))).mono ?_
      rintro e w1 ⟨rfl, hb⟩
      obtain ⟨c0, c1, c2, c3, c4, _, _, _, _, _⟩ := blkp ((hb.block w.heap.size (by simp)).trans (L8.blk_new _ _))
      have B1 := hide (((Below.refl w.heap.size w).alloc (Nat.le_refl _) (.cells #[.slice a n c, .int .i64 v0, .int .i64 v1, .int .i64 v2, .int .i64 v3] 60 (0, 0))).trans (hb.mono (by simp)))
      clear hb
      go_wp2_with fail
      refine (CV.out _).mono ?_
      rintro e w2 ⟨rfl, rfl⟩
      go_wp2_with fail
      refine (CW.out _).mono ?_
      rintro e w2 ⟨rfl, rfl⟩
      go_wp2
      go_ret
      exact ⟨rfl, B1.out⟩
    · obtain rfl := bool_no14 hbb (fun h => hle h.2.2.2.2.2)
      have hlf : decide (v2 ≤ v3) = false := by simpa using hle
      have HX := trivial
      clear hv2 hv3 hv2' hv3'
      clear hbb hs hst hn hg HX
      go_enter Try.func38, Try.ntmps38
      go_wp2_with fail
      refine (CG.out _ (HS.out.below ((Below.refl _ _).alloc (Nat.le_refl _) _))).mono ?_
      rintro e w1 ⟨rfl, hb⟩
      obtain ⟨c0, c1, c2, c3, c4, _, _, _, _, _⟩ := blkp ((hb.block w.heap.size (by simp)).trans (L8.blk_new _ _))
      have B1 := hide (((Below.refl w.heap.size w).alloc (Nat.le_refl _) (.cells #[.slice a n c, .int .i64 v0, .int .i64 v1, .int .i64 v2, .int .i64 v3] 60 (0, 0))).trans (hb.mono (by simp)))
      clear hb
      go_wp2_with fail
      refine (CV.out _).mono ?_
      rintro e w2 ⟨rfl, rfl⟩
      go_wp2_with fail
      refine (CW.out _).mono ?_
      rintro e w2 ⟨rfl, rfl⟩
      go_wp2
      go_ret
      exact ⟨rfl, B1.out⟩
  · have CG := hide (fun w hs => goodLabels_any a l n c w hn hs hn2 hst false (by simp [hg]))
    have HS := hide hs
    obtain rfl := bool_no14 hbb (fun h => hg h.1)
    have HX := trivial
    clear hbb hs hst hn hg HX
    go_enter Try.func38, Try.ntmps38
    go_wp2_with fail
    refine (CG.out _ (HS.out.below ((Below.refl _ _).alloc (Nat.le_refl _) _))).mono ?_
    rintro e w1 ⟨rfl, hb⟩
    obtain ⟨c0, c1, c2, c3, c4, _, _, _, _, _⟩ := blkp ((hb.block w.heap.size (by simp)).trans (L8.blk_new _ _))
    have B1 := hide (((Below.refl w.heap.size w).alloc (Nat.le_refl _) (.cells #[.slice a n c, .int .i64 v0, .int .i64 v1, .int .i64 v2, .int .i64 v3] 60 (0, 0))).trans (hb.mono (by simp)))
    clear hb
    go_wp2
    go_ret
    exact ⟨rfl, B1.out⟩
set_option maxRecDepth 100000 in
set_option maxHeartbeats 1000000 in
theorem labelsOfTotal_any (a : Option Addr) (l : List Lb) (n c : Nat) (v0 v1 v2 v3 : Int) (w : World) (hn : l.length = n) (hg : GoodL l) (hs : SlL w a l) :
    Calls Try.prog 39 #[.agg #[.slice a n c, .int .i64 v0, .int .i64 v1, .int .i64 v2, .int .i64 v3]] w fun e w' => e = .returned (.string (ltext l)) ∧ Below w.heap.size w w' := by
  have h6 := hg.1
  have hst := good_sizes hg
  have hr : some (ltext l) = txRes l := by unfold txRes; rw [if_pos hg]
  have CG := hide (fun w hs => labelsText_any a l n c w hn hs (by omega) (fun j hj => by have := hst j hj; omega) (some (ltext l)) hr)
  have HS := hide hs
  obtain ⟨tx, htx⟩ : ∃ tx, tx = ltext l := ⟨_, rfl⟩
  rw [← htx] at CG ⊢
  clear hs hn hg h6 hst hr htx
  go_enter Try.func39, Try.ntmps39
  go_wp2_with fail
  refine (CG.out _ (HS.out.below ((Below.refl _ _).alloc (Nat.le_refl _) _))).mono ?_
  rintro e w1 ⟨rfl, hb⟩
  have B1 := hide (((Below.refl w.heap.size w).alloc (Nat.le_refl _) (.cells #[.slice a n c, .int .i64 v0, .int .i64 v1, .int .i64 v2, .int .i64 v3] 60 (0, 0))).trans (hb.mono (by simp)))
  clear hb
  go_wp2
  go_ret
  exact ⟨rfl, B1.out⟩
open Classical in
set_option maxRecDepth 100000 in
set_option maxHeartbeats 4000000 in
theorem implGoodTotals_any (a : Option Addr) (L : List Rw) (n cap : Nat) (w : World) (hn : L.length = n) (hm : n ≤ 1048576) (hs : SlR w a L) (hst : TxR L) (hlx : ∀ j, j < L.length → (gr L j).l.length ≤ 1048576) (bb : Bool) (hbb : bb = true ↔ GoodT L) :
    Calls Try.prog 11 #[.slice a n cap] w fun e w' => e = .returned (.bool bb) ∧ Below w.heap.size w w' := by
  by_cases h8 : (40 : Int) < (n : Int)
  · obtain rfl := bool_no14 hbb (fun h => by have := h.1; omega)
    clear hbb hn hs hst hlx
    go_enter Try.func11, Try.ntmps11
    go_wp2
    go_ret
    exact ⟨rfl, Below.refl _ _⟩
  have HBB := hide hbb
  have HS := hide hs
  have HN := hide hn
  have HST := hide hst
  have HLX := hide hlx
  clear hbb hs hn hst hlx
  go_enter Try.func11, Try.ntmps11
  go_wp2
  go_loopw [10] (fun i wr => ∃ k : Nat, k ≤ n ∧ i = .int .i64 k ∧ Hid (UpTo L k) ∧ Below w.heap.size w wr) (fun i _ => n - (intOf i).toNat)
  case atStart => exact ⟨0, Nat.zero_le _, rfl, fun j hj => absurd hj (Nat.not_lt_zero _), Below.refl _ _⟩
  case round =>
    obtain ⟨k, hk, rfl, HJ, hbel⟩ := hrel
    by_cases hlt : k < n
    · have hkx : k < L.length := by rw [HN.out]; exact hlt
      obtain ⟨b, off, rfl, ai, ci, hat⟩ := HS.out.below hbel k hkx
      have hsx := HST.out k hkx
      have hlx := HLX.out k hkx
      obtain ⟨x0, x1, x2, x3, x4, t1⟩ := hat
      obtain ⟨p, hp⟩ : ∃ p, p = gr L k := ⟨_, rfl⟩
      rw [← hp] at x0 x1 x2 x3 x4 t1 hsx hlx
      obtain ⟨x, v0, v1, v2, v3⟩ := p
      simp only at x0 x1 x2 x3 x4 t1 hsx hlx
      obtain ⟨m, hm⟩ : ∃ m, m = x.length := ⟨_, rfl⟩
      rw [← hm] at x0 hsx hlx
      have hltI : (k : Int) < (n : Int) := by omega
      have hprev : 0 < k → ∃ aj cj, AtR wr b (off + (k - 1) * 5) (gr L (k - 1)) aj cj := fun h0 => by
        obtain ⟨b', off', ha, ai', ci', hp'⟩ := HS.out.below hbel (k - 1) (by omega)
        simp only [Option.some.injEq, Addr.mk.injEq, and_true] at ha
        obtain ⟨rfl, rfl⟩ := ha
        exact ⟨_, _, hp'⟩
      have HPREV := hide hprev
      have HP := hide hp
      have HM := hide hm
      have HL := hide t1
      have HBEL := hide hbel
      clear hprev hp hm t1 hbel hkx
      go_wp2
      obtain ⟨W0, hW0⟩ : ∃ W0, wr.alloc (.cells #[.slice ai m ci, .int .i64 v0, .int .i64 v1, .int .i64 v2, .int .i64 v3] 60 (0, 0)) = W0 := ⟨_, rfl⟩
      have hb0 : Below wr.heap.size wr W0 := by rw [← hW0]; exact (Below.refl _ _).alloc (Nat.le_refl _) _
      obtain ⟨c0, c1, c2, c3, c4, _, _, _, _, _⟩ := blkp (show W0.heap[wr.heap.size]? = some (.cells #[.slice ai m ci, .int .i64 v0, .int .i64 v1, .int .i64 v2, .int .i64 v3] 60 (0, 0)) by rw [← hW0]; exact L8.blk_new _ _)
      rw [hW0]
      clear hW0 x0 x1 x2 x3 x4
      have HB0 := hide hb0
      clear hb0
      by_cases hok : GoodL x ∧ okN v0 v1 v2 v3
      · have HOK : Hid (okT ⟨x, v0, v1, v2, v3⟩) := hok
        have CG := hide (fun w hs => goodTotal_any ai x m ci v0 v1 v2 v3 w HM.out.symm (by omega) hs hsx.2 true (by simp [hok]))
        have CX := hide (fun w hs => labelsOfTotal_any ai x m ci v0 v1 v2 v3 w HM.out.symm hok.1 hs)
        clear hok
        cases k with
        | zero =>
          clear HPREV CX
          refine wp_region_held_drew (S := fun wx => (wx.cell? ⟨wr.heap.size, 0, none⟩ = some (.slice ai m ci) ∧ wx.cell? ⟨wr.heap.size, 1, none⟩ = some (.int .i64 v0) ∧ wx.cell? ⟨wr.heap.size, 2, none⟩ = some (.int .i64 v1) ∧ wx.cell? ⟨wr.heap.size, 3, none⟩ = some (.int .i64 v2) ∧ wx.cell? ⟨wr.heap.size, 4, none⟩ = some (.int .i64 v3)) ∧ Below W0.heap.size W0 wx) (by kernel_rfl) ⟨⟨c0, c1, c2, c3, c4⟩, (Below.refl _ _).drew⟩ (fun hHeld => ?_)
          refine wpAnyH_take (i := 0) (v := ?v1) rfl (by kernel_rfl) (by kernel_rfl) (by kernel_rfl) (fun _ _ _ h => h) (Or.inl ⟨by rfl, ?y1⟩) (by assumption) ?r1
          case y1 => (intro w hSw; (try dsimp only at hSw); go_simp; try (with_reducible rfl))
          simp only [List.getElem_toArray, List.getElem_cons_zero, Act.put, List.setIfInBounds_toArray, List.set_cons_zero, List.set_cons_succ]
          refine wpAnyH_ready (rs := [1]) (by kernel_rfl) (by simp) ?_
          refine AllReadyH.cons rfl (fun K hK => ?_) AllReadyH.nil
          simp only [List.getElem_toArray, List.getElem_cons_succ, List.getElem_cons_zero]
          go_simp
          go_at_call 38
          refine (CG.out _ (HL.out.below (HB0.out.trans (hHeld.2.mono HB0.out.size)))).mono ?_
          rintro e w3 ⟨rfl, hb⟩
          dsimp only
          refine hK.out _ _ ?_ (fun hHeld => ?_)
          · exact L8.keep5 (by assumption) hb (Nat.le_refl _)
          clear hK K
          try simp only [Act.put, List.setIfInBounds_toArray, List.set_cons_zero, List.set_cons_succ]
          refine wpAnyH_take (i := 2) (v := ?v2) rfl (by kernel_rfl) (by kernel_rfl) (by kernel_rfl) (fun _ _ _ h => h) (Or.inl ⟨by rfl, ?y2⟩) (by assumption) ?r2
          case y2 => (intro w hSw; (try dsimp only at hSw); go_simp; try (with_reducible rfl))
          simp only [List.getElem_toArray, List.getElem_cons_succ, List.getElem_cons_zero, Act.put, List.setIfInBounds_toArray, List.set_cons_zero, List.set_cons_succ]
          refine wpAnyH_take (i := 3) (v := ?v3) rfl (by kernel_rfl) (by kernel_rfl) (by kernel_rfl) (fun _ _ _ h => h) (Or.inl ⟨by rfl, ?y3⟩) (by assumption) ?r3
          case y3 => (intro w hSw; (try dsimp only at hSw); go_simp; try (with_reducible rfl))
          simp only [List.getElem_toArray, List.getElem_cons_succ, List.getElem_cons_zero, Act.put, List.setIfInBounds_toArray, List.set_cons_zero, List.set_cons_succ]
          refine wpAnyH_take (i := 4) (v := ?v4) rfl (by kernel_rfl) (by kernel_rfl) (by kernel_rfl) (fun _ _ _ h => h) (Or.inl ⟨by rfl, ?y4⟩) (by assumption) ?r4
          case y4 => (intro w hSw; (try dsimp only at hSw); go_simp; try (with_reducible rfl))
          simp only [List.getElem_toArray, List.getElem_cons_succ, List.getElem_cons_zero, Act.put, List.setIfInBounds_toArray, List.set_cons_zero, List.set_cons_succ]
          refine wpAnyH_take (i := 5) (v := ?v5) rfl (by kernel_rfl) (by kernel_rfl) (by kernel_rfl) (fun _ _ _ h => h) (Or.inl ⟨by rfl, ?y5⟩) (by assumption) ?r5
          case y5 => (intro w hSw; (try dsimp only at hSw); go_simp; try (with_reducible rfl))
          simp only [List.getElem_toArray, List.getElem_cons_succ, List.getElem_cons_zero, Act.put, List.setIfInBounds_toArray, List.set_cons_zero, List.set_cons_succ]
          refine wpAnyH_take (i := 6) (v := ?v6) rfl (by kernel_rfl) (by kernel_rfl) (by kernel_rfl) (fun _ _ _ h => h) (Or.inl ⟨by rfl, ?y6⟩) (by assumption) ?r6
          case y6 => (intro w hSw; (try dsimp only at hSw); go_simp; try (with_reducible rfl))
          simp only [List.getElem_toArray, List.getElem_cons_succ, List.getElem_cons_zero, Act.put, List.setIfInBounds_toArray, List.set_cons_zero, List.set_cons_succ]
          refine wpAnyH_take (i := 7) (v := undef) rfl (by kernel_rfl) (by kernel_rfl) (by kernel_rfl) (fun _ _ _ h => h) (Or.inr ⟨by rfl, rfl⟩) (by assumption) ?_
          simp only [List.getElem_toArray, List.getElem_cons_succ, List.getElem_cons_zero, Act.put, List.setIfInBounds_toArray, List.set_cons_zero, List.set_cons_succ]
          refine wpAnyH_take (i := 8) (v := undef) rfl (by kernel_rfl) (by kernel_rfl) (by kernel_rfl) (fun _ _ _ h => h) (Or.inr ⟨by rfl, rfl⟩) (by assumption) ?_
          simp only [List.getElem_toArray, List.getElem_cons_succ, List.getElem_cons_zero, Act.put, List.setIfInBounds_toArray, List.set_cons_zero, List.set_cons_succ]
          refine wpAnyH_take (i := 9) (v := undef) rfl (by kernel_rfl) (by kernel_rfl) (by kernel_rfl) (fun _ _ _ h => h) (Or.inr ⟨by rfl, rfl⟩) (by assumption) ?_
          simp only [List.getElem_toArray, List.getElem_cons_succ, List.getElem_cons_zero, Act.put, List.setIfInBounds_toArray, List.set_cons_zero, List.set_cons_succ]
          refine wpAnyH_take (i := 10) (v := undef) rfl (by kernel_rfl) (by kernel_rfl) (by kernel_rfl) (fun _ _ _ h => h) (Or.inr ⟨by rfl, rfl⟩) (by assumption) ?_
          simp only [List.getElem_toArray, List.getElem_cons_succ, List.getElem_cons_zero, Act.put, List.setIfInBounds_toArray, List.set_cons_zero, List.set_cons_succ]
          refine wpAnyH_take (i := 11) (v := undef) rfl (by kernel_rfl) (by kernel_rfl) (by kernel_rfl) (fun _ _ _ h => h) (Or.inr ⟨by rfl, rfl⟩) (by assumption) ?_
          simp only [List.getElem_toArray, List.getElem_cons_succ, List.getElem_cons_zero, Act.put, List.setIfInBounds_toArray, List.set_cons_zero, List.set_cons_succ]
          refine wpAnyH_take (i := 12) (v := undef) rfl (by kernel_rfl) (by kernel_rfl) (by kernel_rfl) (fun _ _ _ h => h) (Or.inr ⟨by rfl, rfl⟩) (by assumption) ?_
          simp only [List.getElem_toArray, List.getElem_cons_succ, List.getElem_cons_zero, Act.put, List.setIfInBounds_toArray, List.set_cons_zero, List.set_cons_succ]
          refine wpAnyH_take (i := 13) (v := undef) rfl (by kernel_rfl) (by kernel_rfl) (by kernel_rfl) (fun _ _ _ h => h) (Or.inr ⟨by rfl, rfl⟩) (by assumption) ?_
          simp only [List.getElem_toArray, List.getElem_cons_succ, List.getElem_cons_zero, Act.put, List.setIfInBounds_toArray, List.set_cons_zero, List.set_cons_succ]
          refine wpAnyH_take (i := 14) (v := undef) rfl (by kernel_rfl) (by kernel_rfl) (by kernel_rfl) (fun _ _ _ h => h) (Or.inr ⟨by rfl, rfl⟩) (by assumption) ?_
          simp only [List.getElem_toArray, List.getElem_cons_succ, List.getElem_cons_zero, Act.put, List.setIfInBounds_toArray, List.set_cons_zero, List.set_cons_succ]
          refine wpAnyH_take (i := 15) (v := undef) rfl (by kernel_rfl) (by kernel_rfl) (by kernel_rfl) (fun _ _ _ h => h) (Or.inr ⟨by rfl, rfl⟩) (by assumption) ?_
          simp only [List.getElem_toArray, List.getElem_cons_succ, List.getElem_cons_zero, Act.put, List.setIfInBounds_toArray, List.set_cons_zero, List.set_cons_succ]
          refine wpAnyH_take (i := 16) (v := ?v16) rfl (by kernel_rfl) (by kernel_rfl) (by kernel_rfl) (fun _ _ _ h => h) (Or.inl ⟨by rfl, ?y16⟩) (by assumption) ?r16
          case y16 => (intro w hSw; (try dsimp only at hSw); go_simp; try (with_reducible rfl))
          simp only [List.getElem_toArray, List.getElem_cons_succ, List.getElem_cons_zero, Act.put, List.setIfInBounds_toArray, List.set_cons_zero, List.set_cons_succ]
          refine wpAnyH_take (i := 17) (v := ?v17) rfl (by kernel_rfl) (by kernel_rfl) (by kernel_rfl) (fun _ _ _ h => h) (Or.inl ⟨by rfl, ?y17⟩) (by assumption) ?r17
          case y17 => (intro w hSw; (try dsimp only at hSw); go_simp; try (with_reducible rfl))
          simp only [List.getElem_toArray, List.getElem_cons_succ, List.getElem_cons_zero, Act.put, List.setIfInBounds_toArray, List.set_cons_zero, List.set_cons_succ]
          refine wpAnyH_done (by kernel_rfl) ?_ _
          have B1 := hide ((HBEL.out.trans (HB0.out.mono HBEL.out.size)).trans (hHeld.2.mono (Nat.le_trans HBEL.out.size HB0.out.size)))
          clear hHeld
          go_wp2
          go_roundw
          case rel => exact ⟨0 + 1, by omega, by go_num, HJ.out.next (by rw [← HP.out]; exact HOK.out) (fun h => absurd h (Nat.lt_irrefl _)), B1.out⟩
          case measure => simp [intOf]; omega
        | succ q =>
          obtain ⟨aj, cj, hpc⟩ := HPREV.out (by omega)
          have e1 : q + 1 - 1 = q := by omega
          rw [e1] at hpc
          have hgp : GoodL (gr L q).l := (HJ.out q (by omega)).1.1
          obtain ⟨y0, y1, y2, y3, y4, ty⟩ := hpc.below HB0.out
          obtain ⟨p', hp'⟩ : ∃ p', p' = gr L q := ⟨_, rfl⟩
          rw [← hp'] at y0 y1 y2 y3 y4 ty hgp
          obtain ⟨y, u0, u1, u2, u3⟩ := p'
          simp only at y0 y1 y2 y3 y4 ty hgp
          obtain ⟨mj, hmj⟩ : ∃ mj, mj = y.length := ⟨_, rfl⟩
          rw [← hmj] at y0
          have HY := hide ty
          have HP' := hide hp'
          have CP := hide (fun w hs => labelsOfTotal_any aj y mj cj u0 u1 u2 u3 w hmj.symm hgp hs)
          have hjI : (q : Int) < (n : Int) := by omega
          have hj0 : (0 : Int) ≤ (q : Int) := by omega
          have hwj : IntKind.i64.wrap (q : Int) = (q : Int) := by
            simp only [IntKind.wrap, IntKind.bits, IntKind.signed]
            simp
            omega
          have hjp : (0 : Int) < (q : Int) + 1 := by omega
          obtain ⟨tp, htp⟩ : ∃ tp, tp = ltext y := ⟨_, rfl⟩
          obtain ⟨tx, htx⟩ : ∃ tx, tx = ltext x := ⟨_, rfl⟩
          rw [← htp] at CP
          rw [← htx] at CX
          have HTP := hide htp
          have HTX := hide htx
          clear HPREV e1 hpc hgp ty hp' hmj htp htx hsx
          by_cases hah : ¬ Ahead tp tx
          · have hle := not_ahead hah
            have HAH := hide hah
            clear hah
            refine wp_region_held_drew (S := fun wx => (wx.cell? ⟨wr.heap.size, 0, none⟩ = some (.slice ai m ci) ∧ wx.cell? ⟨wr.heap.size, 1, none⟩ = some (.int .i64 v0) ∧ wx.cell? ⟨wr.heap.size, 2, none⟩ = some (.int .i64 v1) ∧ wx.cell? ⟨wr.heap.size, 3, none⟩ = some (.int .i64 v2) ∧ wx.cell? ⟨wr.heap.size, 4, none⟩ = some (.int .i64 v3) ∧ wx.cell? ⟨b, off + q * 5, none⟩ = some (.slice aj mj cj) ∧ wx.cell? ⟨b, off + q * 5 + 1, none⟩ = some (.int .i64 u0) ∧ wx.cell? ⟨b, off + q * 5 + 2, none⟩ = some (.int .i64 u1) ∧ wx.cell? ⟨b, off + q * 5 + 3, none⟩ = some (.int .i64 u2) ∧ wx.cell? ⟨b, off + q * 5 + 4, none⟩ = some (.int .i64 u3)) ∧ Below W0.heap.size W0 wx) (by kernel_rfl) ⟨⟨c0, c1, c2, c3, c4, y0, y1, y2, y3, y4⟩, (Below.refl _ _).drew⟩ (fun hHeld => ?_)
            refine wpAnyH_take (i := 0) (v := ?v18) rfl (by kernel_rfl) (by kernel_rfl) (by kernel_rfl) (fun _ _ _ h => h) (Or.inl ⟨by rfl, ?y18⟩) (by assumption) ?r18
            case y18 => (intro w hSw; (try dsimp only at hSw); go_simp; try (with_reducible rfl))
            simp only [List.getElem_toArray, List.getElem_cons_zero, Act.put, List.setIfInBounds_toArray, List.set_cons_zero, List.set_cons_succ]
            refine wpAnyH_ready (rs := [1]) (by kernel_rfl) (by simp) ?_
            refine AllReadyH.cons rfl (fun K hK => ?_) AllReadyH.nil
            simp only [List.getElem_toArray, List.getElem_cons_succ, List.getElem_cons_zero]
            go_simp
            go_at_call 38
            refine (CG.out _ (HL.out.below (HB0.out.trans (hHeld.2.mono HB0.out.size)))).mono ?_
            rintro e w3 ⟨rfl, hb⟩
            dsimp only
            refine hK.out _ _ ?_ (fun hHeld => ?_)
            · exact L8.keep10 (by assumption) hb (Nat.le_refl _)
            clear hK K
            try simp only [Act.put, List.setIfInBounds_toArray, List.set_cons_zero, List.set_cons_succ]
            refine wpAnyH_take (i := 2) (v := ?v19) rfl (by kernel_rfl) (by kernel_rfl) (by kernel_rfl) (fun _ _ _ h => h) (Or.inl ⟨by rfl, ?y19⟩) (by assumption) ?r19
            case y19 => (intro w hSw; (try dsimp only at hSw); go_simp; try (with_reducible rfl))
            simp only [List.getElem_toArray, List.getElem_cons_succ, List.getElem_cons_zero, Act.put, List.setIfInBounds_toArray, List.set_cons_zero, List.set_cons_succ]
            refine wpAnyH_take (i := 3) (v := ?v20) rfl (by kernel_rfl) (by kernel_rfl) (by kernel_rfl) (fun _ _ _ h => h) (Or.inl ⟨by rfl, ?y20⟩) (by assumption) ?r20
            case y20 => (intro w hSw; (try dsimp only at hSw); go_simp; try (with_reducible rfl))
            simp only [List.getElem_toArray, List.getElem_cons_succ, List.getElem_cons_zero, Act.put, List.setIfInBounds_toArray, List.set_cons_zero, List.set_cons_succ]
            refine wpAnyH_take (i := 4) (v := ?v21) rfl (by kernel_rfl) (by kernel_rfl) (by kernel_rfl) (fun _ _ _ h => h) (Or.inl ⟨by rfl, ?y21⟩) (by assumption) ?r21
            case y21 => (intro w hSw; (try dsimp only at hSw); go_simp; try (with_reducible rfl))
            simp only [List.getElem_toArray, List.getElem_cons_succ, List.getElem_cons_zero, Act.put, List.setIfInBounds_toArray, List.set_cons_zero, List.set_cons_succ]
            refine wpAnyH_take (i := 5) (v := ?v22) rfl (by kernel_rfl) (by kernel_rfl) (by kernel_rfl) (fun _ _ _ h => h) (Or.inl ⟨by rfl, ?y22⟩) (by assumption) ?r22
            case y22 => (intro w hSw; (try dsimp only at hSw); go_simp; try (with_reducible rfl))
            simp only [List.getElem_toArray, List.getElem_cons_succ, List.getElem_cons_zero, Act.put, List.setIfInBounds_toArray, List.set_cons_zero, List.set_cons_succ]
            refine wpAnyH_take (i := 6) (v := ?v23) rfl (by kernel_rfl) (by kernel_rfl) (by kernel_rfl) (fun _ _ _ h => h) (Or.inl ⟨by rfl, ?y23⟩) (by assumption) ?r23
            case y23 => (intro w hSw; (try dsimp only at hSw); go_simp; try (with_reducible rfl))
            simp only [List.getElem_toArray, List.getElem_cons_succ, List.getElem_cons_zero, Act.put, List.setIfInBounds_toArray, List.set_cons_zero, List.set_cons_succ]
            refine wpAnyH_take (i := 7) (v := ?v24) rfl (by kernel_rfl) (by kernel_rfl) (by kernel_rfl) (fun _ _ _ h => h) (Or.inl ⟨by rfl, ?y24⟩) (by assumption) ?r24
            case y24 => (intro w hSw; (try dsimp only at hSw); go_simp; try (with_reducible rfl))
            simp only [List.getElem_toArray, List.getElem_cons_succ, List.getElem_cons_zero, Act.put, List.setIfInBounds_toArray, List.set_cons_zero, List.set_cons_succ]
            refine wpAnyH_take (i := 9) (v := ?v25) rfl (by kernel_rfl) (by kernel_rfl) (by kernel_rfl) (fun _ _ _ h => h) (Or.inl ⟨by rfl, ?y25⟩) (by assumption) ?r25
            case y25 => (intro w hSw; (try dsimp only at hSw); go_simp; try (with_reducible rfl))
            simp only [List.getElem_toArray, List.getElem_cons_succ, List.getElem_cons_zero, Act.put, List.setIfInBounds_toArray, List.set_cons_zero, List.set_cons_succ]
            refine wpAnyH_take (i := 10) (v := ?v26) rfl (by kernel_rfl) (by kernel_rfl) (by kernel_rfl) (fun _ _ _ h => h) (Or.inl ⟨by rfl, ?y26⟩) (by assumption) ?r26
            case y26 => (intro w hSw; (try dsimp only at hSw); go_simp; try (with_reducible rfl))
            simp only [List.getElem_toArray, List.getElem_cons_succ, List.getElem_cons_zero, Act.put, List.setIfInBounds_toArray, List.set_cons_zero, List.set_cons_succ]
            refine wpAnyH_take (i := 11) (v := ?v27) rfl (by kernel_rfl) (by kernel_rfl) (by kernel_rfl) (fun _ _ _ h => h) (Or.inl ⟨by rfl, ?y27⟩) (by assumption) ?r27
            case y27 => (intro w hSw; (try dsimp only at hSw); go_simp; try (with_reducible rfl))
            simp only [List.getElem_toArray, List.getElem_cons_succ, List.getElem_cons_zero, Act.put, List.setIfInBounds_toArray, List.set_cons_zero, List.set_cons_succ]
            refine wpAnyH_take (i := 12) (v := ?v28) rfl (by kernel_rfl) (by kernel_rfl) (by kernel_rfl) (fun _ _ _ h => h) (Or.inl ⟨by rfl, ?y28⟩) (by assumption) ?r28
            case y28 => (intro w hSw; (try dsimp only at hSw); go_simp; try (with_reducible rfl))
            simp only [List.getElem_toArray, List.getElem_cons_succ, List.getElem_cons_zero, Act.put, List.setIfInBounds_toArray, List.set_cons_zero, List.set_cons_succ]
            refine wpAnyH_take (i := 13) (v := ?v29) rfl (by kernel_rfl) (by kernel_rfl) (by kernel_rfl) (fun _ _ _ h => h) (Or.inl ⟨by rfl, ?y29⟩) (by assumption) ?r29
            case y29 => (intro w hSw; (try dsimp only at hSw); go_simp; try (with_reducible rfl))
            simp only [List.getElem_toArray, List.getElem_cons_succ, List.getElem_cons_zero, Act.put, List.setIfInBounds_toArray, List.set_cons_zero, List.set_cons_succ]
            refine wpAnyH_ready (rs := [8]) (by kernel_rfl) (by simp) ?_
            refine AllReadyH.cons rfl (fun K hK => ?_) AllReadyH.nil
            simp only [List.getElem_toArray, List.getElem_cons_succ, List.getElem_cons_zero]
            go_simp
            go_at_call 39
            refine (CX.out _ (HL.out.below (HB0.out.trans (hHeld.2.mono HB0.out.size)))).mono ?_
            rintro e w3 ⟨rfl, hb⟩
            dsimp only
            refine hK.out _ _ ?_ (fun hHeld => ?_)
            · exact L8.keep10 (by assumption) hb (Nat.le_refl _)
            clear hK K
            try simp only [Act.put, List.setIfInBounds_toArray, List.set_cons_zero, List.set_cons_succ]
            refine wpAnyH_ready (rs := [14]) (by kernel_rfl) (by simp) ?_
            refine AllReadyH.cons rfl (fun K hK => ?_) AllReadyH.nil
            simp only [List.getElem_toArray, List.getElem_cons_succ, List.getElem_cons_zero]
            go_simp
            go_at_call 39
            refine (CP.out _ (HY.out.below hHeld.2)).mono ?_
            rintro e w3 ⟨rfl, hb⟩
            dsimp only
            refine hK.out _ _ ?_ (fun hHeld => ?_)
            · exact L8.keep10 (by assumption) hb (Nat.le_refl _)
            clear hK K
            try simp only [Act.put, List.setIfInBounds_toArray, List.set_cons_zero, List.set_cons_succ]
            refine wpAnyH_take (i := 15) (v := ?v30) rfl (by kernel_rfl) (by kernel_rfl) (by kernel_rfl) (fun _ _ _ h => h) (Or.inl ⟨by rfl, ?y30⟩) (by assumption) ?r30
            case y30 => (intro w hSw; (try dsimp only at hSw); go_simp; try (with_reducible rfl))
            simp only [List.getElem_toArray, List.getElem_cons_succ, List.getElem_cons_zero, Act.put, List.setIfInBounds_toArray, List.set_cons_zero, List.set_cons_succ]
            refine wpAnyH_take (i := 16) (v := ?v31) rfl (by kernel_rfl) (by kernel_rfl) (by kernel_rfl) (fun _ _ _ h => h) (Or.inl ⟨by rfl, ?y31⟩) (by assumption) ?r31
            case y31 => (intro w hSw; (try dsimp only at hSw); go_simp; try (with_reducible rfl))
            simp only [List.getElem_toArray, List.getElem_cons_succ, List.getElem_cons_zero, Act.put, List.setIfInBounds_toArray, List.set_cons_zero, List.set_cons_succ]
            refine wpAnyH_take (i := 17) (v := ?v32) rfl (by kernel_rfl) (by kernel_rfl) (by kernel_rfl) (fun _ _ _ h => h) (Or.inl ⟨by rfl, ?y32⟩) (by assumption) ?r32
            case y32 => (intro w hSw; (try dsimp only at hSw); go_simp; try (with_reducible rfl))
            simp only [List.getElem_toArray, List.getElem_cons_succ, List.getElem_cons_zero, Act.put, List.setIfInBounds_toArray, List.set_cons_zero, List.set_cons_succ]
            refine wpAnyH_done (by kernel_rfl) ?_ _
            have B1 := hide ((HBEL.out.trans (HB0.out.mono HBEL.out.size)).trans (hHeld.2.mono (Nat.le_trans HBEL.out.size HB0.out.size)))
            have E := hide (bool_no14 HBB.out (fun hg => HAH.out (by have := (hg.2 (q + 1) (by rw [HN.out]; exact hlt)).2 (by omega); rw [← HP.out, show q + 1 - 1 = q by omega, ← HP'.out] at this; rw [HTP.out, HTX.out]; exact this)))
            clear hHeld
            go_wp2
            go_ret
            exact ⟨by rw [E.out]; rfl, B1.out⟩
          · have hgt : Ahead tp tx := Decidable.not_not.1 hah
            have hle1 := (ahead_not hgt).1
            have hle2 := (ahead_not hgt).2
            have HGT := hide hgt
            clear hah hgt
            refine wp_region_held_drew (S := fun wx => (wx.cell? ⟨wr.heap.size, 0, none⟩ = some (.slice ai m ci) ∧ wx.cell? ⟨wr.heap.size, 1, none⟩ = some (.int .i64 v0) ∧ wx.cell? ⟨wr.heap.size, 2, none⟩ = some (.int .i64 v1) ∧ wx.cell? ⟨wr.heap.size, 3, none⟩ = some (.int .i64 v2) ∧ wx.cell? ⟨wr.heap.size, 4, none⟩ = some (.int .i64 v3) ∧ wx.cell? ⟨b, off + q * 5, none⟩ = some (.slice aj mj cj) ∧ wx.cell? ⟨b, off + q * 5 + 1, none⟩ = some (.int .i64 u0) ∧ wx.cell? ⟨b, off + q * 5 + 2, none⟩ = some (.int .i64 u1) ∧ wx.cell? ⟨b, off + q * 5 + 3, none⟩ = some (.int .i64 u2) ∧ wx.cell? ⟨b, off + q * 5 + 4, none⟩ = some (.int .i64 u3)) ∧ Below W0.heap.size W0 wx) (by kernel_rfl) ⟨⟨c0, c1, c2, c3, c4, y0, y1, y2, y3, y4⟩, (Below.refl _ _).drew⟩ (fun hHeld => ?_)
            refine wpAnyH_take (i := 0) (v := ?v33) rfl (by kernel_rfl) (by kernel_rfl) (by kernel_rfl) (fun _ _ _ h => h) (Or.inl ⟨by rfl, ?y33⟩) (by assumption) ?r33
            case y33 => (intro w hSw; (try dsimp only at hSw); go_simp; try (with_reducible rfl))
            simp only [List.getElem_toArray, List.getElem_cons_zero, Act.put, List.setIfInBounds_toArray, List.set_cons_zero, List.set_cons_succ]
            refine wpAnyH_ready (rs := [1]) (by kernel_rfl) (by simp) ?_
            refine AllReadyH.cons rfl (fun K hK => ?_) AllReadyH.nil
            simp only [List.getElem_toArray, List.getElem_cons_succ, List.getElem_cons_zero]
            go_simp
            go_at_call 38
            refine (CG.out _ (HL.out.below (HB0.out.trans (hHeld.2.mono HB0.out.size)))).mono ?_
            rintro e w3 ⟨rfl, hb⟩
            dsimp only
            refine hK.out _ _ ?_ (fun hHeld => ?_)
            · exact L8.keep10 (by assumption) hb (Nat.le_refl _)
            clear hK K
            try simp only [Act.put, List.setIfInBounds_toArray, List.set_cons_zero, List.set_cons_succ]
            refine wpAnyH_take (i := 2) (v := ?v34) rfl (by kernel_rfl) (by kernel_rfl) (by kernel_rfl) (fun _ _ _ h => h) (Or.inl ⟨by rfl, ?y34⟩) (by assumption) ?r34
            case y34 => (intro w hSw; (try dsimp only at hSw); go_simp; try (with_reducible rfl))
            simp only [List.getElem_toArray, List.getElem_cons_succ, List.getElem_cons_zero, Act.put, List.setIfInBounds_toArray, List.set_cons_zero, List.set_cons_succ]
            refine wpAnyH_take (i := 3) (v := ?v35) rfl (by kernel_rfl) (by kernel_rfl) (by kernel_rfl) (fun _ _ _ h => h) (Or.inl ⟨by rfl, ?y35⟩) (by assumption) ?r35
            case y35 => (intro w hSw; (try dsimp only at hSw); go_simp; try (with_reducible rfl))
            simp only [List.getElem_toArray, List.getElem_cons_succ, List.getElem_cons_zero, Act.put, List.setIfInBounds_toArray, List.set_cons_zero, List.set_cons_succ]
            refine wpAnyH_take (i := 4) (v := ?v36) rfl (by kernel_rfl) (by kernel_rfl) (by kernel_rfl) (fun _ _ _ h => h) (Or.inl ⟨by rfl, ?y36⟩) (by assumption) ?r36
            case y36 => (intro w hSw; (try dsimp only at hSw); go_simp; try (with_reducible rfl))
            simp only [List.getElem_toArray, List.getElem_cons_succ, List.getElem_cons_zero, Act.put, List.setIfInBounds_toArray, List.set_cons_zero, List.set_cons_succ]
            refine wpAnyH_take (i := 5) (v := ?v37) rfl (by kernel_rfl) (by kernel_rfl) (by kernel_rfl) (fun _ _ _ h => h) (Or.inl ⟨by rfl, ?y37⟩) (by assumption) ?r37
            case y37 => (intro w hSw; (try dsimp only at hSw); go_simp; try (with_reducible rfl))
            simp only [List.getElem_toArray, List.getElem_cons_succ, List.getElem_cons_zero, Act.put, List.setIfInBounds_toArray, List.set_cons_zero, List.set_cons_succ]
            refine wpAnyH_take (i := 6) (v := ?v38) rfl (by kernel_rfl) (by kernel_rfl) (by kernel_rfl) (fun _ _ _ h => h) (Or.inl ⟨by rfl, ?y38⟩) (by assumption) ?r38
            case y38 => (intro w hSw; (try dsimp only at hSw); go_simp; try (with_reducible rfl))
            simp only [List.getElem_toArray, List.getElem_cons_succ, List.getElem_cons_zero, Act.put, List.setIfInBounds_toArray, List.set_cons_zero, List.set_cons_succ]
            refine wpAnyH_take (i := 7) (v := ?v39) rfl (by kernel_rfl) (by kernel_rfl) (by kernel_rfl) (fun _ _ _ h => h) (Or.inl ⟨by rfl, ?y39⟩) (by assumption) ?r39
            case y39 => (intro w hSw; (try dsimp only at hSw); go_simp; try (with_reducible rfl))
            simp only [List.getElem_toArray, List.getElem_cons_succ, List.getElem_cons_zero, Act.put, List.setIfInBounds_toArray, List.set_cons_zero, List.set_cons_succ]
            refine wpAnyH_take (i := 9) (v := ?v40) rfl (by kernel_rfl) (by kernel_rfl) (by kernel_rfl) (fun _ _ _ h => h) (Or.inl ⟨by rfl, ?y40⟩) (by assumption) ?r40
            case y40 => (intro w hSw; (try dsimp only at hSw); go_simp; try (with_reducible rfl))
            simp only [List.getElem_toArray, List.getElem_cons_succ, List.getElem_cons_zero, Act.put, List.setIfInBounds_toArray, List.set_cons_zero, List.set_cons_succ]
            refine wpAnyH_take (i := 10) (v := ?v41) rfl (by kernel_rfl) (by kernel_rfl) (by kernel_rfl) (fun _ _ _ h => h) (Or.inl ⟨by rfl, ?y41⟩) (by assumption) ?r41
            case y41 => (intro w hSw; (try dsimp only at hSw); go_simp; try (with_reducible rfl))
            simp only [List.getElem_toArray, List.getElem_cons_succ, List.getElem_cons_zero, Act.put, List.setIfInBounds_toArray, List.set_cons_zero, List.set_cons_succ]
            refine wpAnyH_take (i := 11) (v := ?v42) rfl (by kernel_rfl) (by kernel_rfl) (by kernel_rfl) (fun _ _ _ h => h) (Or.inl ⟨by rfl, ?y42⟩) (by assumption) ?r42
            case y42 => (intro w hSw; (try dsimp only at hSw); go_simp; try (with_reducible rfl))
            simp only [List.getElem_toArray, List.getElem_cons_succ, List.getElem_cons_zero, Act.put, List.setIfInBounds_toArray, List.set_cons_zero, List.set_cons_succ]
            refine wpAnyH_take (i := 12) (v := ?v43) rfl (by kernel_rfl) (by kernel_rfl) (by kernel_rfl) (fun _ _ _ h => h) (Or.inl ⟨by rfl, ?y43⟩) (by assumption) ?r43
            case y43 => (intro w hSw; (try dsimp only at hSw); go_simp; try (with_reducible rfl))
            simp only [List.getElem_toArray, List.getElem_cons_succ, List.getElem_cons_zero, Act.put, List.setIfInBounds_toArray, List.set_cons_zero, List.set_cons_succ]
            refine wpAnyH_take (i := 13) (v := ?v44) rfl (by kernel_rfl) (by kernel_rfl) (by kernel_rfl) (fun _ _ _ h => h) (Or.inl ⟨by rfl, ?y44⟩) (by assumption) ?r44
            case y44 => (intro w hSw; (try dsimp only at hSw); go_simp; try (with_reducible rfl))
            simp only [List.getElem_toArray, List.getElem_cons_succ, List.getElem_cons_zero, Act.put, List.setIfInBounds_toArray, List.set_cons_zero, List.set_cons_succ]
            refine wpAnyH_ready (rs := [8]) (by kernel_rfl) (by simp) ?_
            refine AllReadyH.cons rfl (fun K hK => ?_) AllReadyH.nil
            simp only [List.getElem_toArray, List.getElem_cons_succ, List.getElem_cons_zero]
            go_simp
            go_at_call 39
            refine (CX.out _ (HL.out.below (HB0.out.trans (hHeld.2.mono HB0.out.size)))).mono ?_
            rintro e w3 ⟨rfl, hb⟩
            dsimp only
            refine hK.out _ _ ?_ (fun hHeld => ?_)
            · exact L8.keep10 (by assumption) hb (Nat.le_refl _)
            clear hK K
            try simp only [Act.put, List.setIfInBounds_toArray, List.set_cons_zero, List.set_cons_succ]
            refine wpAnyH_ready (rs := [14]) (by kernel_rfl) (by simp) ?_
            refine AllReadyH.cons rfl (fun K hK => ?_) AllReadyH.nil
            simp only [List.getElem_toArray, List.getElem_cons_succ, List.getElem_cons_zero]
            go_simp
            go_at_call 39
            refine (CP.out _ (HY.out.below hHeld.2)).mono ?_
            rintro e w3 ⟨rfl, hb⟩
            dsimp only
            refine hK.out _ _ ?_ (fun hHeld => ?_)
            · exact L8.keep10 (by assumption) hb (Nat.le_refl _)
            clear hK K
            try simp only [Act.put, List.setIfInBounds_toArray, List.set_cons_zero, List.set_cons_succ]
            refine wpAnyH_take (i := 15) (v := ?v45) rfl (by kernel_rfl) (by kernel_rfl) (by kernel_rfl) (fun _ _ _ h => h) (Or.inl ⟨by rfl, ?y45⟩) (by assumption) ?r45
            case y45 => (intro w hSw; (try dsimp only at hSw); go_simp; try (with_reducible rfl))
            simp only [List.getElem_toArray, List.getElem_cons_succ, List.getElem_cons_zero, Act.put, List.setIfInBounds_toArray, List.set_cons_zero, List.set_cons_succ]
            refine wpAnyH_take (i := 16) (v := ?v46) rfl (by kernel_rfl) (by kernel_rfl) (by kernel_rfl) (fun _ _ _ h => h) (Or.inl ⟨by rfl, ?y46⟩) (by assumption) ?r46
            case y46 => (intro w hSw; (try dsimp only at hSw); go_simp; try (with_reducible rfl))
            simp only [List.getElem_toArray, List.getElem_cons_succ, List.getElem_cons_zero, Act.put, List.setIfInBounds_toArray, List.set_cons_zero, List.set_cons_succ]
            refine wpAnyH_take (i := 17) (v := ?v47) rfl (by kernel_rfl) (by kernel_rfl) (by kernel_rfl) (fun _ _ _ h => h) (Or.inl ⟨by rfl, ?y47⟩) (by assumption) ?r47
            case y47 => (intro w hSw; (try dsimp only at hSw); go_simp; try (with_reducible rfl))
            simp only [List.getElem_toArray, List.getElem_cons_succ, List.getElem_cons_zero, Act.put, List.setIfInBounds_toArray, List.set_cons_zero, List.set_cons_succ]
            refine wpAnyH_done (by kernel_rfl) ?_ _
            have B1 := hide ((HBEL.out.trans (HB0.out.mono HBEL.out.size)).trans (hHeld.2.mono (Nat.le_trans HBEL.out.size HB0.out.size)))
            clear hHeld
            go_wp2
            go_roundw
            case rel => exact ⟨q + 1 + 1, by omega, by go_num, HJ.out.next (by rw [← HP.out]; exact HOK.out) (fun _ => by rw [← HP.out, show q + 1 - 1 = q by omega, ← HP'.out]; have := HGT.out; rw [HTP.out, HTX.out] at this; exact this), B1.out⟩
            case measure => simp [intOf]; omega
      · have CG := hide (fun w hs => goodTotal_any ai x m ci v0 v1 v2 v3 w HM.out.symm (by omega) hs hsx.2 false (by simp [hok]))
        have HNO := hide hok
        clear hok HPREV
        refine wp_region_held_drew (S := fun wx => (wx.cell? ⟨wr.heap.size, 0, none⟩ = some (.slice ai m ci) ∧ wx.cell? ⟨wr.heap.size, 1, none⟩ = some (.int .i64 v0) ∧ wx.cell? ⟨wr.heap.size, 2, none⟩ = some (.int .i64 v1) ∧ wx.cell? ⟨wr.heap.size, 3, none⟩ = some (.int .i64 v2) ∧ wx.cell? ⟨wr.heap.size, 4, none⟩ = some (.int .i64 v3)) ∧ Below W0.heap.size W0 wx) (by kernel_rfl) ⟨⟨c0, c1, c2, c3, c4⟩, (Below.refl _ _).drew⟩ (fun hHeld => ?_)
        refine wpAnyH_take (i := 0) (v := ?v48) rfl (by kernel_rfl) (by kernel_rfl) (by kernel_rfl) (fun _ _ _ h => h) (Or.inl ⟨by rfl, ?y48⟩) (by assumption) ?r48
        case y48 => (intro w hSw; (try dsimp only at hSw); go_simp; try (with_reducible rfl))
        simp only [List.getElem_toArray, List.getElem_cons_zero, Act.put, List.setIfInBounds_toArray, List.set_cons_zero, List.set_cons_succ]
        refine wpAnyH_ready (rs := [1]) (by kernel_rfl) (by simp) ?_
        refine AllReadyH.cons rfl (fun K hK => ?_) AllReadyH.nil
        simp only [List.getElem_toArray, List.getElem_cons_succ, List.getElem_cons_zero]
        go_simp
        go_at_call 38
        refine (CG.out _ (HL.out.below (HB0.out.trans (hHeld.2.mono HB0.out.size)))).mono ?_
        rintro e w3 ⟨rfl, hb⟩
        dsimp only
        refine hK.out _ _ ?_ (fun hHeld => ?_)
        · exact L8.keep5 (by assumption) hb (Nat.le_refl _)
        clear hK K
        try simp only [Act.put, List.setIfInBounds_toArray, List.set_cons_zero, List.set_cons_succ]
        refine wpAnyH_take (i := 2) (v := ?v49) rfl (by kernel_rfl) (by kernel_rfl) (by kernel_rfl) (fun _ _ _ h => h) (Or.inl ⟨by rfl, ?y49⟩) (by assumption) ?r49
        case y49 => (intro w hSw; (try dsimp only at hSw); go_simp; try (with_reducible rfl))
        simp only [List.getElem_toArray, List.getElem_cons_succ, List.getElem_cons_zero, Act.put, List.setIfInBounds_toArray, List.set_cons_zero, List.set_cons_succ]
        refine wpAnyH_take (i := 3) (v := ?v50) rfl (by kernel_rfl) (by kernel_rfl) (by kernel_rfl) (fun _ _ _ h => h) (Or.inl ⟨by rfl, ?y50⟩) (by assumption) ?r50
        case y50 => (intro w hSw; (try dsimp only at hSw); go_simp; try (with_reducible rfl))
        simp only [List.getElem_toArray, List.getElem_cons_succ, List.getElem_cons_zero, Act.put, List.setIfInBounds_toArray, List.set_cons_zero, List.set_cons_succ]
        refine wpAnyH_take (i := 4) (v := undef) rfl (by kernel_rfl) (by kernel_rfl) (by kernel_rfl) (fun _ _ _ h => h) (Or.inr ⟨by rfl, rfl⟩) (by assumption) ?_
        simp only [List.getElem_toArray, List.getElem_cons_succ, List.getElem_cons_zero, Act.put, List.setIfInBounds_toArray, List.set_cons_zero, List.set_cons_succ]
        refine wpAnyH_take (i := 5) (v := undef) rfl (by kernel_rfl) (by kernel_rfl) (by kernel_rfl) (fun _ _ _ h => h) (Or.inr ⟨by rfl, rfl⟩) (by assumption) ?_
        simp only [List.getElem_toArray, List.getElem_cons_succ, List.getElem_cons_zero, Act.put, List.setIfInBounds_toArray, List.set_cons_zero, List.set_cons_succ]
        refine wpAnyH_take (i := 6) (v := undef) rfl (by kernel_rfl) (by kernel_rfl) (by kernel_rfl) (fun _ _ _ h => h) (Or.inr ⟨by rfl, rfl⟩) (by assumption) ?_
        simp only [List.getElem_toArray, List.getElem_cons_succ, List.getElem_cons_zero, Act.put, List.setIfInBounds_toArray, List.set_cons_zero, List.set_cons_succ]
        refine wpAnyH_take (i := 7) (v := undef) rfl (by kernel_rfl) (by kernel_rfl) (by kernel_rfl) (fun _ _ _ h => h) (Or.inr ⟨by rfl, rfl⟩) (by assumption) ?_
        simp only [List.getElem_toArray, List.getElem_cons_succ, List.getElem_cons_zero, Act.put, List.setIfInBounds_toArray, List.set_cons_zero, List.set_cons_succ]
        refine wpAnyH_take (i := 8) (v := undef) rfl (by kernel_rfl) (by kernel_rfl) (by kernel_rfl) (fun _ _ _ h => h) (Or.inr ⟨by rfl, rfl⟩) (by assumption) ?_
        simp only [List.getElem_toArray, List.getElem_cons_succ, List.getElem_cons_zero, Act.put, List.setIfInBounds_toArray, List.set_cons_zero, List.set_cons_succ]
        refine wpAnyH_take (i := 9) (v := undef) rfl (by kernel_rfl) (by kernel_rfl) (by kernel_rfl) (fun _ _ _ h => h) (Or.inr ⟨by rfl, rfl⟩) (by assumption) ?_
        simp only [List.getElem_toArray, List.getElem_cons_succ, List.getElem_cons_zero, Act.put, List.setIfInBounds_toArray, List.set_cons_zero, List.set_cons_succ]
        refine wpAnyH_take (i := 10) (v := undef) rfl (by kernel_rfl) (by kernel_rfl) (by kernel_rfl) (fun _ _ _ h => h) (Or.inr ⟨by rfl, rfl⟩) (by assumption) ?_
        simp only [List.getElem_toArray, List.getElem_cons_succ, List.getElem_cons_zero, Act.put, List.setIfInBounds_toArray, List.set_cons_zero, List.set_cons_succ]
        refine wpAnyH_take (i := 11) (v := undef) rfl (by kernel_rfl) (by kernel_rfl) (by kernel_rfl) (fun _ _ _ h => h) (Or.inr ⟨by rfl, rfl⟩) (by assumption) ?_
        simp only [List.getElem_toArray, List.getElem_cons_succ, List.getElem_cons_zero, Act.put, List.setIfInBounds_toArray, List.set_cons_zero, List.set_cons_succ]
        refine wpAnyH_take (i := 12) (v := undef) rfl (by kernel_rfl) (by kernel_rfl) (by kernel_rfl) (fun _ _ _ h => h) (Or.inr ⟨by rfl, rfl⟩) (by assumption) ?_
        simp only [List.getElem_toArray, List.getElem_cons_succ, List.getElem_cons_zero, Act.put, List.setIfInBounds_toArray, List.set_cons_zero, List.set_cons_succ]
        refine wpAnyH_take (i := 13) (v := undef) rfl (by kernel_rfl) (by kernel_rfl) (by kernel_rfl) (fun _ _ _ h => h) (Or.inr ⟨by rfl, rfl⟩) (by assumption) ?_
        simp only [List.getElem_toArray, List.getElem_cons_succ, List.getElem_cons_zero, Act.put, List.setIfInBounds_toArray, List.set_cons_zero, List.set_cons_succ]
        refine wpAnyH_take (i := 14) (v := undef) rfl (by kernel_rfl) (by kernel_rfl) (by kernel_rfl) (fun _ _ _ h => h) (Or.inr ⟨by rfl, rfl⟩) (by assumption) ?_
        simp only [List.getElem_toArray, List.getElem_cons_succ, List.getElem_cons_zero, Act.put, List.setIfInBounds_toArray, List.set_cons_zero, List.set_cons_succ]
        refine wpAnyH_take (i := 15) (v := undef) rfl (by kernel_rfl) (by kernel_rfl) (by kernel_rfl) (fun _ _ _ h => h) (Or.inr ⟨by rfl, rfl⟩) (by assumption) ?_
        simp only [List.getElem_toArray, List.getElem_cons_succ, List.getElem_cons_zero, Act.put, List.setIfInBounds_toArray, List.set_cons_zero, List.set_cons_succ]
        refine wpAnyH_take (i := 16) (v := undef) rfl (by kernel_rfl) (by kernel_rfl) (by kernel_rfl) (fun _ _ _ h => h) (Or.inr ⟨by rfl, rfl⟩) (by assumption) ?_
        simp only [List.getElem_toArray, List.getElem_cons_succ, List.getElem_cons_zero, Act.put, List.setIfInBounds_toArray, List.set_cons_zero, List.set_cons_succ]
        refine wpAnyH_take (i := 17) (v := ?v64) rfl (by kernel_rfl) (by kernel_rfl) (by kernel_rfl) (fun _ _ _ h => h) (Or.inl ⟨by rfl, ?y64⟩) (by assumption) ?r64
        case y64 => (intro w hSw; (try dsimp only at hSw); go_simp; try (with_reducible rfl))
        simp only [List.getElem_toArray, List.getElem_cons_succ, List.getElem_cons_zero, Act.put, List.setIfInBounds_toArray, List.set_cons_zero, List.set_cons_succ]
        refine wpAnyH_done (by kernel_rfl) ?_ _
        have B1 := hide ((HBEL.out.trans (HB0.out.mono HBEL.out.size)).trans (hHeld.2.mono (Nat.le_trans HBEL.out.size HB0.out.size)))
        have E := hide (bool_no14 HBB.out (fun hg => HNO.out (show GoodL x ∧ okN v0 v1 v2 v3 from (by have := (hg.2 k (by rw [HN.out]; exact hlt)).1; rw [← HP.out] at this; exact this : okT ⟨x, v0, v1, v2, v3⟩))))
        clear hHeld
        go_wp2
        go_ret
        exact ⟨by rw [E.out]; rfl, B1.out⟩
    · obtain rfl : k = n := by omega
      have hltI : ¬ (k : Int) < (k : Int) := by omega
      have E := hide (HBB.out.2 ⟨by rw [HN.out]; omega, by rw [HN.out]; exact HJ.out⟩)
      have B1 := hide hbel
      clear hbel
      go_wp2
      go_ret
      exact ⟨by rw [E.out]; rfl, B1.out⟩
end Go.Proofs.Ytohcjafklfemfam.L14T
