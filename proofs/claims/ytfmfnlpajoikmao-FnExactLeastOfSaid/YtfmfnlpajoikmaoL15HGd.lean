/-
  Contract: impl.GoodHeavy.
-/
import Derived.Test.YtfmfnlpajoikmaoL15HGood
import Derived.Test.YtfmfnlpajoikmaoL15HNew
import Derived.Deep.DeepCutAuto
namespace Go.Proofs.Ytfmfnlpajoikmao.L15H
open Go.RowKit L1 Own Str
set_option linter.unusedVariables false

set_option maxRecDepth 100000 in
set_option maxHeartbeats 8000000 in
theorem goodHeavy_any (a : Option Addr) (n c : Nat) (b : Option Addr) (m d : Nat) (G T : Int) (h : Hv) (w : World) (hf : HF w a b n m h) (hg : h.g = G) (ht : h.t = T) (hn2 : n ≤ 1048576) (hm2 : m ≤ 1048576) (htx : ∀ i, i < h.nm.length → (h.nm.getD i e0).size ≤ 1048576) (bb : Bool) (hbb : bb = true ↔ GoodHv h n m) :
    Calls Try.prog 27 #[.agg #[.slice a n c, .slice b m d, .int .i64 G, .int .i64 T]] w fun e w' => e = .returned (.bool bb) ∧ Below w.heap.size w w' := by
  have BX := (Below.refl w.heap.size w).alloc (Nat.le_refl _) (hvO (.slice a n c) (.slice b m d) G T)
  have g0 := L8.blk_new w (hvO (.slice a n c) (.slice b m d) G T)
  obtain ⟨W0, hW0⟩ : ∃ W0, W0 = w.alloc (hvO (.slice a n c) (.slice b m d) G T) := ⟨_, rfl⟩
  rw [← hW0] at BX g0
  obtain ⟨k0, k1, k2, k3⟩ := blk4 g0
  have HW := hide hW0
  have B0 := hide BX
  have G0 := hide g0
  have F0 := hide (hf.below BX)
  have HBB := hide hbb
  have HTX := hide htx
  have HG := hide hg
  have HT := hide ht
  clear hf hbb htx hg ht BX g0 hW0
  obtain ⟨b1, hb1⟩ := dec_exH (1 ≤ (n : Int) ∧ (n : Int) ≤ 6)
  have C1 := hide (fun wx => isPlaceCount_any (n : Int) wx b1 hb1)
  by_cases c1 : 1 ≤ (n : Int) ∧ (n : Int) ≤ 6
  rotate_left
  · obtain rfl : b1 = false := bool_noG hb1 c1
    obtain rfl : bb = false := bool_noG HBB.out (fun g => c1 ⟨by have := g.n1; omega, by have := g.n6; omega⟩)
    go_enter Try.func27, Try.ntmps27
    go_upto_region 1 with fail
    rw [← HW.out]
    go_wp2_with fail
    refine (C1.out _).mono ?_
    rintro e w1 ⟨rfl, rfl⟩
    go_wp2
    go_ret
    exact ⟨rfl, B0.out⟩
  obtain rfl : b1 = true := hb1.2 c1
  clear hb1
  by_cases c2 : m = n
  rotate_left
  · have hd : ((m : Int) != (n : Int)) = true := by simp; omega
    obtain rfl : bb = false := bool_noG HBB.out (fun g => c2 g.m)
    go_enter Try.func27, Try.ntmps27
    go_upto_region 1 with fail
    rw [← HW.out]
    go_wp2_with fail
    refine (C1.out _).mono ?_
    rintro e w1 ⟨rfl, rfl⟩
    go_wp2
    go_ret
    exact ⟨rfl, B0.out⟩
  subst c2
  by_cases c3 : G < 0
  · have c3' : ¬ 0 ≤ G := by omega
    obtain rfl : bb = false := bool_noG HBB.out (fun g => c3' (by have h1 := g.g0; rw [HG.out] at h1; exact h1))
    go_enter Try.func27, Try.ntmps27
    go_upto_region 1 with fail
    rw [← HW.out]
    go_wp2_with fail
    refine (C1.out _).mono ?_
    rintro e w1 ⟨rfl, rfl⟩
    go_wp2
    go_ret
    exact ⟨rfl, B0.out⟩
  by_cases c4 : G > 100000
  · have c4' : ¬ G ≤ 100000 := by omega
    obtain rfl : bb = false := bool_noG HBB.out (fun g => c4' (by have h1 := g.g1; rw [HG.out] at h1; exact h1))
    go_enter Try.func27, Try.ntmps27
    go_upto_region 1 with fail
    rw [← HW.out]
    go_wp2_with fail
    refine (C1.out _).mono ?_
    rintro e w1 ⟨rfl, rfl⟩
    go_wp2
    go_ret
    exact ⟨rfl, B0.out⟩
  have cG0 : 0 ≤ G := by omega
  have cG1 : G ≤ 100000 := by omega
  have hmb := mul_bd cG0 cG1 (n := m) (by omega)
  obtain ⟨tk, htk⟩ := tk_ex h.nm m
  have HTK := hide htk
  have htkm := htk.le
  have CT := hide (takenPlaces_any a m c b m d G T h tk W0 F0.out hn2 htk)
  clear htk
  go_enter Try.func27, Try.ntmps27
  go_upto_region 1 with fail
  rw [← HW.out]
  go_wp2_with fail
  refine (C1.out _).mono ?_
  rintro e w1 ⟨rfl, rfl⟩
  go_wp2_with fail
  refine CT.out.mono ?_
  rintro e w2 ⟨rfl, hb2⟩
  have B2 := hide hb2
  have F2 := hide (F0.out.below hb2)
  clear hb2 k0 k1 k2 k3
  obtain ⟨k0, k1, k2, k3⟩ := blk4 (blk_kept G0.out B2.out)
  go_wp2
  clear k0 k1 k2 k3
  go_loopw [5, 36] (fun s t wr => ∃ k : Nat, k ≤ m ∧ t = .int .i64 k ∧ s = .int .i64 (sm h.ct k) ∧ Hid (∀ j, j < k → PlOk h j) ∧ Hid (Below W0.heap.size W0 wr)) (fun _ t _ => m - (intOf t).toNat)
  case atStart => exact ⟨0, Nat.zero_le _, rfl, rfl, fun j hj => absurd hj (Nat.not_lt_zero _), B2⟩
  case round =>
    obtain ⟨k, hk, rfl, rfl, HJ, BW⟩ := hrel
    obtain ⟨k0, k1, k2, k3⟩ := blk4 (blk_kept G0.out BW.out)
    have hyb := sm_bd (l := h.ct) k (fun j hj => (HJ.out j hj).ct)
    by_cases hlt : k < m
    · have hltI : (k : Int) < (m : Int) := by omega
      have hk0 : (0 : Int) ≤ (k : Int) := by omega
      obtain ⟨ba, oa, rfl, hc⟩ := (F0.out.below BW.out).sN k (by rw [F0.out.ln]; exact hlt)
      obtain ⟨bc, oc, rfl, hd⟩ := (F0.out.below BW.out).sC k (by rw [F0.out.lc]; exact hlt)
      have hsz : (na h k).size ≤ 1048576 := HTX.out k (by rw [F0.out.ln]; exact hlt)
      obtain ⟨x, hx⟩ : ∃ x, x = na h k := ⟨_, rfl⟩
      obtain ⟨y, hy⟩ : ∃ y, y = ca h k := ⟨_, rfl⟩
      rw [show h.nm.getD k e0 = x from hx.symm] at hc
      rw [show h.ct.getD k 0 = y from hy.symm] at hd
      rw [← hx] at hsz
      have HX := hide hx
      have HY := hide hy
      have bad : (∀ g : GoodHv h m m, False) → Hid (bb = false) := fun q => hide (bool_noG HBB.out (fun g => q g))
      have hss : sm h.ct (k + 1) = sm h.ct k + y := by rw [hy]; rfl
      obtain ⟨u, hu⟩ : ∃ u, u = sm h.ct k := ⟨_, rfl⟩
      rw [← hu] at hyb hss ⊢
      have HSS := hide hss
      clear hx hy hss hu
      have HB0 := hide (fun (wz : World) (hb : Below wr.heap.size wr wz) => BW.out.trans (hb.mono BW.out.size))
      by_cases hkt : k < tk
      · have hktI : (k : Int) < (tk : Int) := by omega
        have hktG : ¬ (k : Int) ≥ (tk : Int) := by omega
        have hne : x ≠ e0 := by rw [HX.out]; exact HTK.out.ne k hkt
        obtain ⟨b5, hb5⟩ := dec_exH (L3.Word false x ∧ 1 ≤ y ∧ y ≤ 100000)
        have C5 := hide (fun wx => goodPlace_any x y wx (by omega) b5 hb5)
        by_cases h5 : L3.Word false x ∧ 1 ≤ y ∧ y ≤ 100000
        rotate_left
        · obtain rfl : b5 = false := bool_noG hb5 h5
          have EB := bad (fun g => by
            rcases g.p k hlt with ⟨h0, _⟩ | ⟨h1, _⟩
            · exact hne (by rw [HX.out]; exact h0)
            · exact h5 (by rw [HX.out, HY.out]; exact h1))
          clear bad hb5 HSS
          go_wp2_with fail
          refine (C5.out _).mono ?_
          rintro e w5 ⟨rfl, hb⟩
          have BF := hide (B0.out.trans ((HB0.out _ hb).mono B0.out.size))
          clear hb
          go_wp2
          go_ret
          exact ⟨by rw [EB.out]; rfl, BF.out⟩
        obtain rfl : b5 = true := hb5.2 h5
        have hyr := h5.2
        clear hb5
        cases k with
        | zero =>
          have P : Hid (PlOk h 0) := hide (.inr ⟨by rw [← HX.out, ← HY.out]; exact h5, fun q => absurd q (Nat.lt_irrefl _)⟩)
          have h00 : ¬ ((0 : Nat) : Int) > 0 := by omega
          rw [Nat.add_zero] at hc hd
          clear bad
          go_wp2_with fail
          refine (C5.out _).mono ?_
          rintro e w5 ⟨rfl, hb⟩
          have BF := hide (HB0.out _ hb)
          have hd5 := (hb.cell (p := ⟨bc, oc, none⟩) (blk_ltO hd)).trans hd
          clear hb k0 k1 k2 k3 hc hd
          obtain ⟨k0, k1, k2, k3⟩ := blk4 (blk_kept G0.out BF.out)
          go_wp2
          go_roundw
          case rel => exact ⟨0 + 1, by omega, by go_num, by rw [HSS.out], fun j hj => by
            obtain rfl : j = 0 := by omega
            exact P.out, BF⟩
          case measure => simp [intOf]; omega
        | succ q =>
          obtain ⟨b2, o2, e2, hp⟩ := (F0.out.below BW.out).sN q (by rw [F0.out.ln]; omega)
          obtain ⟨rfl, rfl⟩ : ba = b2 ∧ oa = o2 := by cases e2; exact ⟨rfl, rfl⟩
          obtain ⟨p, hpp⟩ : ∃ p, p = na h q := ⟨_, rfl⟩
          rw [show h.nm.getD q e0 = p from hpp.symm] at hp
          have HP := hide hpp
          have hqI : (q : Int) < (m : Int) := by omega
          have hq0 : (0 : Int) ≤ (q : Int) := by omega
          have hqp : ((q : Int) + 1) > 0 := by omega
          have hqm : (q : Int) + 1 - 1 = (q : Int) := by omega
          have hpne : p ≠ e0 := by rw [HP.out]; exact HTK.out.ne q (by omega)
          clear hpp e2
          by_cases hah : L3.Ahead p x
          · have P : Hid (PlOk h (q + 1)) := hide (.inr ⟨by rw [← HX.out, ← HY.out]; exact h5, fun _ => by rw [Nat.add_sub_cancel, ← HP.out, ← HX.out]; exact ⟨hpne, hah⟩⟩)
            obtain ⟨hl1, hl2⟩ := L3.ahead_not hah
            have hle : (Op.bytesLess x.toList p.toList || x.toList == p.toList) = false := by rw [hl1, hl2]; rfl
            clear bad
            go_wp2_with fail
            refine (C5.out _).mono ?_
            rintro e w5 ⟨rfl, hb⟩
            have BF := hide (HB0.out _ hb)
            have hd5 := (hb.cell (p := ⟨bc, oc + (q + 1), none⟩) (blk_ltO hd)).trans hd
            have hp5 := (hb.cell (p := ⟨ba, oa + q, none⟩) (blk_ltO hp)).trans hp
            clear hb k0 k1 k2 k3 hc hd hp
            obtain ⟨k0, k1, k2, k3⟩ := blk4 (blk_kept G0.out BF.out)
            go_wp2
            go_roundw
            case rel => exact ⟨q + 1 + 1, by omega, by go_num, by rw [HSS.out], fun j hj => by
              by_cases e : j = q + 1
              · subst e; exact P.out
              · exact HJ.out j (by omega), BF⟩
            case measure => simp [intOf]; omega
          · have EB := bad (fun g => by
              rcases g.p (q + 1) hlt with ⟨h0, _⟩ | ⟨_, h1⟩
              · exact hne (by rw [HX.out]; exact h0)
              · exact hah (by have := (h1 (by omega)).2; rw [Nat.add_sub_cancel, ← HP.out, ← HX.out] at this; exact this))
            have hle := L3.not_ahead hah
            clear bad HSS
            go_wp2_with fail
            refine (C5.out _).mono ?_
            rintro e w5 ⟨rfl, hb⟩
            have BF := hide (HB0.out _ hb)
            have hp5 := (hb.cell (p := ⟨ba, oa + q, none⟩) (blk_ltO hp)).trans hp
            have BR := hide (B0.out.trans (BF.out.mono B0.out.size))
            clear hb k0 k1 k2 k3 hc hd hp
            obtain ⟨k0, k1, k2, k3⟩ := blk4 (blk_kept G0.out BF.out)
            go_wp2
            go_ret
            exact ⟨by rw [EB.out]; rfl, BR.out⟩
      · have hktI : ¬ (k : Int) < (tk : Int) := by omega
        have hktG : (k : Int) ≥ (tk : Int) := by omega
        obtain ⟨b5, hb5⟩ := dec_exH (x = e0 ∧ y = 0)
        have C5 := hide (fun wx => isEmptyPlace_any x y wx b5 hb5)
        by_cases h5 : x = e0 ∧ y = 0
        rotate_left
        · obtain rfl : b5 = false := bool_noG hb5 h5
          have EB := bad (fun g => h5 (by rw [HX.out, HY.out]; exact g.tail HTK.out k (by omega) hlt))
          clear bad hb5 HSS
          go_wp2_with fail
          refine (C5.out _).mono ?_
          rintro e w5 ⟨rfl, rfl⟩
          have BF := hide (B0.out.trans (BW.out.mono B0.out.size))
          go_wp2
          go_ret
          exact ⟨by rw [EB.out]; rfl, BF.out⟩
        obtain rfl : b5 = true := hb5.2 h5
        have P : Hid (PlOk h k) := hide (.inl (by rw [← HX.out, ← HY.out]; exact h5))
        obtain ⟨hx5, hy5⟩ := h5
        subst hx5
        subst hy5
        have hkg : (k : Int) > 0 ∨ ¬ (k : Int) > 0 := by omega
        clear hb5 bad
        rcases hkg with hkg | hkg
        · go_wp2_with fail
          refine (C5.out _).mono ?_
          rintro e w5 ⟨rfl, rfl⟩
          go_wp2
          go_roundw
          case rel => exact ⟨k + 1, by omega, by go_num, by first | (rw [HSS.out]; done) | (rw [HSS.out]; congr 1; omega), fun j hj => by
            by_cases e : j = k
            · subst e; exact P.out
            · exact HJ.out j (by omega), BW⟩
          case measure => simp [intOf]; omega
        · go_wp2_with fail
          refine (C5.out _).mono ?_
          rintro e w5 ⟨rfl, rfl⟩
          go_wp2
          go_roundw
          case rel => exact ⟨k + 1, by omega, by go_num, by first | (rw [HSS.out]; done) | (rw [HSS.out]; congr 1; omega), fun j hj => by
            by_cases e : j = k
            · subst e; exact P.out
            · exact HJ.out j (by omega), BW⟩
          case measure => simp [intOf]; omega
    · obtain rfl : k = m := by omega
      have hltI : ¬ (k : Int) < (k : Int) := by omega
      obtain ⟨y, hy⟩ : ∃ y, y = sm h.ct k := ⟨_, rfl⟩
      rw [← hy] at hyb ⊢
      obtain ⟨p, hp⟩ : ∃ p, p = G * ((k : Int) + 1) := ⟨_, rfl⟩
      have hpb := hmb
      rw [← hp] at hpb
      have hp2 : G * ((k : Int) + 1) = p := hp.symm
      have BF := hide (B0.out.trans (BW.out.mono B0.out.size))
      by_cases e : T = y + p
      · have e2 : (T == y + p) = true := by simp [e]
        have EBB : Hid (bb = decide (T ≤ 1000000)) := hide (by
          rw [Bool.eq_iff_iff, HBB.out]
          simp
          exact ⟨fun g => by have := g.t1; rw [HT.out] at this; exact this, fun q => ⟨by omega, by omega, rfl, by rw [HG.out]; exact cG0, by rw [HG.out]; exact cG1, HJ.out, by rw [HT.out, HG.out, ← hp, ← hy]; exact e, by rw [HT.out]; exact q⟩⟩)
        clear hy hp hmb e
        go_wp2
        go_ret
        exact ⟨by rw [EBB.out]; rfl, BF.out⟩
      · have e2 : (T == y + p) = false := by simp [e]
        have EBB : Hid (bb = false) := hide (bool_noG HBB.out (fun g => e (by have := g.t; rw [HT.out, HG.out, ← hp, ← hy] at this; exact this)))
        clear hy hp hmb
        go_wp2
        go_ret
        exact ⟨by rw [EBB.out]; rfl, BF.out⟩
end Go.Proofs.Ytfmfnlpajoikmao.L15H
