/-
  Contract: spec.GoodHeavy.
-/
import Derived.Test.YtfmfnlpajoikmaoL15HGM
import Derived.Test.YtfmfnlpajoikmaoL3SpecName
import Derived.Test.YtfmfnlpajoikmaoIn
import Derived.Test.YtfmfnlpajoikmaoL15HSum
import Derived.Deep.DeepCutAuto
import Derived.Deep.QuietTactic
import Derived.BigQuiet
namespace Go.Proofs.Ytfmfnlpajoikmao.L15H
open Go.RowKit L1 Own Str
set_option linter.unusedVariables false

set_option maxRecDepth 100000 in
set_option maxHeartbeats 8000000 in
theorem sGoodHeavy_any (a : Option Addr) (n c : Nat) (b : Option Addr) (m d : Nat) (G T : Int) (h : Hv) (w : World) (hf : HF w a b n m h) (hg : h.g = G) (ht : h.t = T) (hn2 : n ≤ 1048576) (hm2 : m ≤ 1048576) (htx : ∀ i, i < h.nm.length → (h.nm.getD i e0).size ≤ 1048576) (bb : Bool) (hbb : bb = true ↔ GoodHv h n m) :
    Calls Try.prog 22 #[.agg #[.slice a n c, .slice b m d, .int .i64 G, .int .i64 T]] w fun e w' => e = .returned (.bool bb) ∧ Below w.heap.size w w' := by
  have BX := (Below.refl w.heap.size w).alloc (Nat.le_refl _) (hvO (.slice a n c) (.slice b m d) G T)
  have g0 := L8.blk_new w (hvO (.slice a n c) (.slice b m d) G T)
  obtain ⟨W0, hW0⟩ : ∃ W0, W0 = w.alloc (hvO (.slice a n c) (.slice b m d) G T) := ⟨_, rfl⟩
  rw [← hW0] at BX g0
  obtain ⟨k0, k1, k2, k3⟩ := blk4 g0
  have HW := hide hW0
  have B0 := hide BX
  have G0 := hide g0
  have F0 := hide (hf.below BX)
  have HBB := hide hbb
  have HTX := hide htx
  have HG := hide hg
  have HT := hide ht
  clear hf hbb htx hg ht BX g0 hW0
  obtain ⟨b1, hb1⟩ := dec_exH (1 ≤ (n : Int) ∧ (n : Int) ≤ 6)
  have C1 := hide (fun wx => l1In_any (n : Int) 1 6 wx b1 hb1)
  by_cases c1 : 1 ≤ (n : Int) ∧ (n : Int) ≤ 6
  rotate_left
  · obtain rfl : b1 = false := bool_noG hb1 c1
    obtain rfl : bb = false := bool_noG HBB.out (fun g => c1 ⟨by have := g.n1; omega, by have := g.n6; omega⟩)
    go_enter Try.func22, Try.ntmps22
    go_upto_region 1 with fail
    rw [← HW.out]
    go_wp2_with fail
    refine (C1.out _).mono ?_
    rintro e w1 ⟨rfl, rfl⟩
    go_wp2
    go_ret
    exact ⟨rfl, B0.out⟩
  obtain rfl : b1 = true := hb1.2 c1
  clear hb1
  by_cases c2 : m = n
  rotate_left
  · have hd : ((m : Int) != (n : Int)) = true := by simp; omega
    obtain rfl : bb = false := bool_noG HBB.out (fun g => c2 g.m)
    go_enter Try.func22, Try.ntmps22
    go_upto_region 1 with fail
    rw [← HW.out]
    go_wp2_with fail
    refine (C1.out _).mono ?_
    rintro e w1 ⟨rfl, rfl⟩
    go_wp2
    go_ret
    exact ⟨rfl, B0.out⟩
  subst c2
  obtain ⟨b3, hb3⟩ := dec_exH (0 ≤ G ∧ G ≤ 100000)
  have C3 := hide (fun wx => l1In_any G 0 100000 wx b3 hb3)
  by_cases c3 : 0 ≤ G ∧ G ≤ 100000
  rotate_left
  · obtain rfl : b3 = false := bool_noG hb3 c3
    clear hb3
    obtain rfl : bb = false := bool_noG HBB.out (fun g => c3 (by have h1 := g.g0; have h2 := g.g1; rw [HG.out] at h1 h2; exact ⟨h1, h2⟩))
    go_enter Try.func22, Try.ntmps22
    go_upto_region 1 with fail
    rw [← HW.out]
    go_wp2_with fail
    refine (C1.out _).mono ?_
    rintro e w1 ⟨rfl, rfl⟩
    go_wp2_with fail
    refine (C3.out _).mono ?_
    rintro e w2 ⟨rfl, rfl⟩
    go_wp2
    go_ret
    exact ⟨rfl, B0.out⟩
  obtain rfl : b3 = true := hb3.2 c3
  clear hb3
  obtain ⟨b4, hb4⟩ := dec_exH (0 ≤ T ∧ T ≤ 1000000)
  have C4 := hide (fun wx => l1In_any T 0 1000000 wx b4 hb4)
  by_cases c4 : 0 ≤ T ∧ T ≤ 1000000
  rotate_left
  · obtain rfl : b4 = false := bool_noG hb4 c4
    clear hb4
    obtain rfl : bb = false := bool_noG HBB.out (fun g => c4 (by have h1 := g.t0; have h2 := g.t1; rw [HT.out] at h1 h2; exact ⟨h1, h2⟩))
    go_enter Try.func22, Try.ntmps22
    go_upto_region 1 with fail
    rw [← HW.out]
    go_wp2_with fail
    refine (C1.out _).mono ?_
    rintro e w1 ⟨rfl, rfl⟩
    go_wp2_with fail
    refine (C3.out _).mono ?_
    rintro e w2 ⟨rfl, rfl⟩
    go_wp2_with fail
    refine (C4.out _).mono ?_
    rintro e w3 ⟨rfl, rfl⟩
    go_wp2
    go_ret
    exact ⟨rfl, B0.out⟩
  obtain rfl : b4 = true := hb4.2 c4
  clear hb4
  have hmb := mul_bd c3.1 c3.2 (n := m) (by omega)
  go_enter Try.func22, Try.ntmps22
  go_upto_region 1 with fail
  rw [← HW.out]
  go_wp2_with fail
  refine (C1.out _).mono ?_
  rintro e w1 ⟨rfl, rfl⟩
  go_wp2_with fail
  refine (C3.out _).mono ?_
  rintro e w2 ⟨rfl, rfl⟩
  go_wp2_with fail
  refine (C4.out _).mono ?_
  rintro e w3 ⟨rfl, rfl⟩
  go_wp2
  go_loop [34] (fun t => ∃ k : Nat, k ≤ m ∧ t = .int .i64 k ∧ Hid (∀ j, j < k → PlOk h j)) (fun t => m - (intOf t).toNat)
  case atStart => exact ⟨0, Nat.zero_le _, rfl, fun j hj => absurd hj (Nat.not_lt_zero _)⟩
  case round =>
    obtain ⟨k, hk, rfl, HJ⟩ := hrel
    by_cases hlt : k < m
    · have hltI : (k : Int) < (m : Int) := by omega
      have hk0 : (0 : Int) ≤ (k : Int) := by omega
      obtain ⟨ba, oa, rfl, hc⟩ := F0.out.sN k (by rw [F0.out.ln]; exact hlt)
      obtain ⟨bc, oc, rfl, hd⟩ := F0.out.sC k (by rw [F0.out.lc]; exact hlt)
      have hsz : (na h k).size ≤ 1048576 := HTX.out k (by rw [F0.out.ln]; exact hlt)
      obtain ⟨x, hx⟩ : ∃ x, x = na h k := ⟨_, rfl⟩
      obtain ⟨y, hy⟩ : ∃ y, y = ca h k := ⟨_, rfl⟩
      rw [show h.nm.getD k e0 = x from hx.symm] at hc
      rw [show h.ct.getD k 0 = y from hy.symm] at hd
      rw [← hx] at hsz
      have HX := hide hx
      have HY := hide hy
      clear hx hy
      have bad : ¬ PlOk h k → Hid (bb = false) := fun q => hide (bool_noG HBB.out (fun g => q (g.p k hlt)))
      by_cases hxe : x = e0
      · have hnw : ¬ L3.Word false (na h k) := fun q => word_ne q (by rw [← HX.out]; exact hxe)
        subst hxe
        by_cases hy0 : y = 0
        · have P : Hid (PlOk h k) := hide (.inl ⟨HX.out.symm, by rw [← HY.out]; exact hy0⟩)
          subst hy0
          clear bad hnw
          go_wp2
          go_round
          case rel => exact ⟨k + 1, by omega, by go_num, fun j hj => by
            by_cases e : j = k
            · subst e; exact P.out
            · exact HJ.out j (by omega)⟩
          case measure => simp [intOf]; omega
        · have hy2 : (y != 0) = true := by simp [hy0]
          have EB := bad (fun q => by
            rcases q with ⟨_, h0⟩ | ⟨⟨h1, _⟩, _⟩
            · exact hy0 (by rw [HY.out]; exact h0)
            · exact hnw h1)
          clear bad hnw
          go_wp2
          go_ret
          exact ⟨by rw [EB.out]; rfl, B0.out⟩
      · have hxl := ne_list hxe
        obtain ⟨bw, hbw⟩ := dec_exH (L3.Word false x)
        have CW := hide (fun wx => L3.l3Name_any x false wx (by omega) bw hbw)
        by_cases hw : L3.Word false x
        rotate_left
        · obtain rfl : bw = false := bool_noG hbw hw
          have EB := bad (fun q => by
            rcases q with ⟨h0, _⟩ | ⟨⟨h1, _⟩, _⟩
            · exact hxe (by rw [HX.out]; exact h0)
            · exact hw (by rw [HX.out]; exact h1))
          clear bad hbw
          go_wp2_with fail
          refine (CW.out _).mono ?_
          rintro e w5 ⟨rfl, rfl⟩
          go_wp2
          go_ret
          exact ⟨by rw [EB.out]; rfl, B0.out⟩
        obtain rfl : bw = true := hbw.2 hw
        clear hbw
        obtain ⟨by1, hby⟩ := dec_exH (1 ≤ y ∧ y ≤ 100000)
        have CY := hide (fun wx => l1In_any y 1 100000 wx by1 hby)
        by_cases hyy : 1 ≤ y ∧ y ≤ 100000
        rotate_left
        · obtain rfl : by1 = false := bool_noG hby hyy
          have EB := bad (fun q => by
            rcases q with ⟨h0, _⟩ | ⟨⟨_, h1⟩, _⟩
            · exact hxe (by rw [HX.out]; exact h0)
            · exact hyy (by rw [HY.out]; exact h1))
          clear bad hby
          go_wp2_with fail
          refine (CW.out _).mono ?_
          rintro e w5 ⟨rfl, rfl⟩
          go_wp2_with fail
          refine (CY.out _).mono ?_
          rintro e w6 ⟨rfl, rfl⟩
          go_wp2
          go_ret
          exact ⟨by rw [EB.out]; rfl, B0.out⟩
        obtain rfl : by1 = true := hby.2 hyy
        clear hby
        have HWY : Hid (L3.Word false (na h k) ∧ 1 ≤ ca h k ∧ ca h k ≤ 100000) := hide (by rw [← HX.out, ← HY.out]; exact ⟨hw, hyy⟩)
        cases k with
        | zero =>
          have P : Hid (PlOk h 0) := hide (.inr ⟨HWY.out, fun q => absurd q (Nat.lt_irrefl _)⟩)
          have h00 : ¬ ((0 : Nat) : Int) > 0 := by omega
          rw [Nat.add_zero] at hc hd
          clear bad
          go_wp2_with fail
          refine (CW.out _).mono ?_
          rintro e w5 ⟨rfl, rfl⟩
          go_wp2_with fail
          refine (CY.out _).mono ?_
          rintro e w6 ⟨rfl, rfl⟩
          go_wp2
          go_round
          case rel => exact ⟨0 + 1, by omega, by go_num, fun j hj => by
            obtain rfl : j = 0 := by omega
            exact P.out⟩
          case measure => simp [intOf]; omega
        | succ q =>
          obtain ⟨b2, o2, e2, hp⟩ := F0.out.sN q (by rw [F0.out.ln]; omega)
          obtain ⟨rfl, rfl⟩ : ba = b2 ∧ oa = o2 := by cases e2; exact ⟨rfl, rfl⟩
          obtain ⟨p, hpp⟩ : ∃ p, p = na h q := ⟨_, rfl⟩
          rw [show h.nm.getD q e0 = p from hpp.symm] at hp
          have HP := hide hpp
          have hqI : (q : Int) < (m : Int) := by omega
          have hq0 : (0 : Int) ≤ (q : Int) := by omega
          have hqp : ((q : Int) + 1) > 0 := by omega
          have hqm : (q : Int) + 1 - 1 = (q : Int) := by omega
          clear hpp e2
          by_cases hpe : p = e0
          · have EB := bad (fun qq => by
              rcases qq with ⟨h0, _⟩ | ⟨_, h1⟩
              · exact hxe (by rw [HX.out]; exact h0)
              · exact (h1 (by omega)).1 (by rw [Nat.add_sub_cancel, ← HP.out]; exact hpe))
            subst hpe
            clear bad
            go_wp2_with fail
            refine (CW.out _).mono ?_
            rintro e w5 ⟨rfl, rfl⟩
            go_wp2_with fail
            refine (CY.out _).mono ?_
            rintro e w6 ⟨rfl, rfl⟩
            go_wp2
            go_ret
            exact ⟨by rw [EB.out]; rfl, B0.out⟩
          · have hpl := ne_list hpe
            by_cases hah : L3.Ahead p x
            · have P : Hid (PlOk h (q + 1)) := hide (.inr ⟨HWY.out, fun _ => by rw [Nat.add_sub_cancel, ← HP.out, ← HX.out]; exact ⟨hpe, hah⟩⟩)
              have hlt3 : Op.bytesLess p.toList x.toList = true := hah
              clear bad
              go_wp2_with fail
              refine (CW.out _).mono ?_
              rintro e w5 ⟨rfl, rfl⟩
              go_wp2_with fail
              refine (CY.out _).mono ?_
              rintro e w6 ⟨rfl, rfl⟩
              go_wp2
              go_round
              case rel => exact ⟨q + 1 + 1, by omega, by go_num, fun j hj => by
                by_cases e : j = q + 1
                · subst e; exact P.out
                · exact HJ.out j (by omega)⟩
              case measure => simp [intOf]; omega
            · have EB := bad (fun qq => by
                rcases qq with ⟨h0, _⟩ | ⟨_, h1⟩
                · exact hxe (by rw [HX.out]; exact h0)
                · exact hah (by have := (h1 (by omega)).2; rw [Nat.add_sub_cancel, ← HP.out, ← HX.out] at this; exact this))
              have hlt3 : Op.bytesLess p.toList x.toList = false := by
                cases e : Op.bytesLess p.toList x.toList with
                | false => rfl
                | true => exact absurd e hah
              clear bad
              go_wp2_with fail
              refine (CW.out _).mono ?_
              rintro e w5 ⟨rfl, rfl⟩
              go_wp2_with fail
              refine (CY.out _).mono ?_
              rintro e w6 ⟨rfl, rfl⟩
              go_wp2
              go_ret
              exact ⟨by rw [EB.out]; rfl, B0.out⟩
    · obtain rfl : k = m := by omega
      have hltI : ¬ (k : Int) < (k : Int) := by omega
      have hsl : SmL h.ct := ⟨by rw [F0.out.lc]; omega, fun j hj => (HJ.out j (by rw [F0.out.lc] at hj; exact hj)).ct⟩
      obtain ⟨y, hy⟩ : ∃ y, y = sm h.ct k := ⟨_, rfl⟩
      have hyb := sm_bd (l := h.ct) k (fun j hj => (HJ.out j hj).ct)
      rw [← hy] at hyb
      have CS := hide (fun q => calls_symmH (l12Sum_h b h.ct k d (W0.drewN q) F0.out.lc (F0.out.sC.below (below_drewH (Below.refl _ W0) q)) hsl y hy))
      obtain ⟨p, hp⟩ : ∃ p, p = G * ((k : Int) + 1) := ⟨_, rfl⟩
      have hpb := hmb
      rw [← hp] at hpb
      have hp2 : G * ((k : Int) + 1) = p := hp.symm
      have EBB : Hid (bb = (T == y + p)) := hide (by
        by_cases e : T = y + p
        · rw [show (T == y + p) = true by simp [e]]
          exact HBB.out.2 ⟨by omega, by omega, rfl, by rw [HG.out]; exact c3.1, by rw [HG.out]; exact c3.2, HJ.out, by rw [HT.out, HG.out, ← hp, ← hy]; exact e, by rw [HT.out]; exact c4.2⟩
        · rw [show (T == y + p) = false by simp [e]]
          exact bool_noG HBB.out (fun g => e (by have := g.t; rw [HT.out, HG.out, ← hp, ← hy] at this; exact this)))
      clear hy hp hmb
      go_upto_region 13 with fail
      go_quiet (first | (go_at_call 43; refine Calls.quiet_of_same (CS.out _)) | fail)
      go_wp2
      go_ret
      exact ⟨by rw [EBB.out]; rfl, below_drewH B0.out _⟩
end Go.Proofs.Ytfmfnlpajoikmao.L15H
