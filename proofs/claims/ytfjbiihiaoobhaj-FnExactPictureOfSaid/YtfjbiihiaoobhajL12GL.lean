/-
  Contract: impl.hasListsFor.
-/
import Derived.Test.YtfjbiihiaoobhajL12GMath
import Derived.Test.YtfjbiihiaoobhajL12Bel
import Derived.Deep.DeepCutAuto
namespace Go.Proofs.Ytfjbiihiaoobhaj.L12
open Go.RowKit L1 L9 Own Sli
set_option linter.unusedVariables false

set_option maxRecDepth 100000 in
set_option maxHeartbeats 4000000 in
theorem hasLists_any (aC : Option Addr) (nC cC : Nat) (aW : Option Addr) (nW cW : Nat) (aK : Option Addr) (nK cK : Nat) (aH : Option Addr) (nH cH : Nat) (aF : Option Addr) (nF cF : Nat) (m : Bk) (w : World) (hz : BkZ m nC nW nK nH nF) (hF : BkF w aC aW aK aH aF m) (b : Bool) (hb : b = true ↔ Lists m) :
    Calls Try.prog 39 #[bkV aC nC cC aW nW cW aK nK cK aH nH cH aF nF cF, .int .i64 nC] w fun e w' => e = .returned (.bool b) ∧ Below w.heap.size w w' := by
  obtain ⟨W0, hW0⟩ : ∃ W0, w.alloc (bkO aC nC cC aW nW cW aK nK cK aH nH cH aF nF cF) = W0 := ⟨_, rfl⟩
  have BX : Hid (Below w.heap.size w W0) := by rw [← hW0]; exact hide ((Below.refl _ _).alloc (Nat.le_refl _) _)
  have g0 : W0.heap[w.heap.size]? = some (bkO aC nC cC aW nW cW aK nK cK aH nH cH aF nF cF) := by rw [← hW0]; exact blk_newO _ _
  have F0 := hide (hF.below BX.out)
  have HW := hide hW0
  obtain ⟨k0, k1, k2, k3, k4⟩ := blk5 g0
  clear hW0 hF
  have EZ : Hid (m.n = nC) := hide hz.c
  by_cases c1 : (nC : Int) < 1
  · obtain rfl : b = false := bool_no12 hb (fun h => by have := h.n1; have := EZ.out; omega)
    clear hb g0
    go_enter Try.func39, Try.ntmps39
    go_upto_region 1 with fail
    rw [HW.out]
    go_wp2
    go_ret
    exact ⟨rfl, BX.out⟩
  by_cases c2 : (5 : Int) < (nC : Int)
  · obtain rfl : b = false := bool_no12 hb (fun h => by have := h.n5; have := EZ.out; omega)
    clear hb g0
    go_enter Try.func39, Try.ntmps39
    go_upto_region 1 with fail
    rw [HW.out]
    go_wp2
    go_ret
    exact ⟨rfl, BX.out⟩
  obtain ⟨N2, hN2⟩ : ∃ x : Nat, x = nC * nC := ⟨_, rfl⟩
  have hq : (nC : Int) * (nC : Int) = (N2 : Int) := by rw [hN2]; simp
  have hq2 : N2 ≤ 25 := by rw [hN2]; exact Nat.mul_le_mul (show nC ≤ 5 by omega) (show nC ≤ 5 by omega)
  have HN2 := hide hN2
  clear hN2
  by_cases d1 : nW = N2
  rotate_left
  · obtain rfl : b = false := bool_no12 hb (fun h => d1 (by rw [HN2.out, ← EZ.out, ← hz.W]; exact h.W))
    have d1' : ((nW : Int) != (N2 : Int)) = true := by simp; omega
    clear hb g0 d1
    go_enter Try.func39, Try.ntmps39
    go_upto_region 1 with fail
    rw [HW.out]
    go_wp2
    go_ret
    exact ⟨rfl, BX.out⟩
  have d1' : ((nW : Int) != (N2 : Int)) = false := by simp; omega
  have D1 := hide d1
  clear d1
  by_cases d2 : nK = nC
  rotate_left
  · obtain rfl : b = false := bool_no12 hb (fun h => d2 (by rw [← EZ.out, ← hz.k]; exact h.k))
    have d2' : ((nK : Int) != (nC : Int)) = true := by simp; omega
    clear hb g0 d2
    go_enter Try.func39, Try.ntmps39
    go_upto_region 1 with fail
    rw [HW.out]
    go_wp2
    go_ret
    exact ⟨rfl, BX.out⟩
  have d2' : ((nK : Int) != (nC : Int)) = false := by simp; omega
  have D2 := hide d2
  clear d2
  by_cases d3 : nH = nC
  rotate_left
  · obtain rfl : b = false := bool_no12 hb (fun h => d3 (by rw [← EZ.out, ← hz.H]; exact h.H))
    have d3' : ((nH : Int) != (nC : Int)) = true := by simp; omega
    clear hb g0 d3
    go_enter Try.func39, Try.ntmps39
    go_upto_region 1 with fail
    rw [HW.out]
    go_wp2
    go_ret
    exact ⟨rfl, BX.out⟩
  have d3' : ((nH : Int) != (nC : Int)) = false := by simp; omega
  have D3 := hide d3
  clear d3
  by_cases d4 : nF = nC
  rotate_left
  · obtain rfl : b = false := bool_no12 hb (fun h => d4 (by rw [← EZ.out, ← hz.F]; exact h.F))
    have d4' : ((nF : Int) != (nC : Int)) = true := by simp; omega
    clear hb g0 d4
    go_enter Try.func39, Try.ntmps39
    go_upto_region 1 with fail
    rw [HW.out]
    go_wp2
    go_ret
    exact ⟨rfl, BX.out⟩
  have d4' : ((nF : Int) != (nC : Int)) = false := by simp; omega
  have D4 := hide d4
  clear d4
  have HL : Hid ((∀ i, i < nC → (m.H.getD i []).length = nC ∧ (m.F.getD i []).length = nC) → b = true) := hide (fun h => hb.2 ⟨by have := EZ.out; omega, by have := EZ.out; omega, by rw [hz.W, EZ.out, D1.out, HN2.out], by rw [hz.k, D2.out, EZ.out], by rw [hz.H, D3.out, EZ.out], by rw [hz.F, D4.out, EZ.out], fun i hi => by rw [EZ.out] at hi ⊢; exact (h i hi).1, fun i hi => by rw [EZ.out] at hi ⊢; exact (h i hi).2⟩)
  have HNo : Hid (b = true → ∀ i, i < nC → (m.H.getD i []).length = nC ∧ (m.F.getD i []).length = nC) := hide (fun h i hi => ⟨by have := (hb.1 h).h i (by have := EZ.out; omega); rw [EZ.out] at this; exact this, by have := (hb.1 h).f i (by have := EZ.out; omega); rw [EZ.out] at this; exact this⟩)
  have LH : Hid (m.H.length = nC) := hide (by rw [hz.H, D3.out])
  have LF : Hid (m.F.length = nC) := hide (by rw [hz.F, D4.out])
  have SH : Hid (∀ i, i < m.H.length → (m.H.getD i []).length ≤ 1048576) := hide hz.sH
  have SF : Hid (∀ i, i < m.F.length → (m.F.getD i []).length ≤ 1048576) := hide hz.sF
  have G0 := hide g0
  have e3 : nH = nC := D3.out
  have e4 : nF = nC := D4.out
  subst e3
  subst e4
  clear hb g0 EZ D1 D2 D3 D4 hz
  go_enter Try.func39, Try.ntmps39
  go_upto_region 1 with fail
  rw [HW.out]
  go_wp2
  go_loop [43] (fun i => ∃ k : Nat, k ≤ nF ∧ i = .int .i64 k ∧ Hid (∀ i, i < k → (m.H.getD i []).length = nF ∧ (m.F.getD i []).length = nF)) (fun i => nF - (intOf i).toNat)
  case atStart => exact ⟨0, Nat.zero_le _, rfl, fun j hj => absurd hj (Nat.not_lt_zero _)⟩
  case round =>
    obtain ⟨k, hk, rfl, HJ⟩ := hrel
    by_cases hlt : k < nF
    · obtain ⟨p1, o1, rfl, x1, q1, h1, _⟩ := F0.out.H k (by rw [LH.out]; exact hlt)
      obtain ⟨p2, o2, rfl, x2, q2, h2, _⟩ := F0.out.F k (by rw [LF.out]; exact hlt)
      have s1 := SH.out k (by rw [LH.out]; exact hlt)
      have s2 := SF.out k (by rw [LF.out]; exact hlt)
      obtain ⟨l1, hl1⟩ : ∃ l, l = (m.H.getD k []).length := ⟨_, rfl⟩
      obtain ⟨l2, hl2⟩ : ∃ l, l = (m.F.getD k []).length := ⟨_, rfl⟩
      rw [← hl1] at h1 s1
      rw [← hl2] at h2 s2
      have hltI : (k : Int) < (nF : Int) := by omega
      have hk0 : (0 : Int) ≤ (k : Int) := by omega
      by_cases e1 : l1 = nF
      · have e1' : ((l1 : Int) != (nF : Int)) = false := by simp; omega
        by_cases e2 : l2 = nF
        · have e2' : ((l2 : Int) != (nF : Int)) = false := by simp; omega
          have NX : Hid (∀ i, i < k + 1 → (m.H.getD i []).length = nF ∧ (m.F.getD i []).length = nF) := hide (fun i hi => by
            by_cases e : i = k
            · subst e; rw [← hl1, ← hl2]; exact ⟨e1, e2⟩
            · exact HJ.out i (by omega))
          clear hl1 hl2 e1 e2
          go_wp2
          go_round
          case rel => exact ⟨k + 1, by omega, by go_num, NX⟩
          case measure => simp [intOf]; omega
        · have e2' : ((l2 : Int) != (nF : Int)) = true := by simp; omega
          have HM : Hid (b = false) := hide (by cases b with | false => rfl | true => exact absurd (HNo.out rfl k hlt).2 (by rw [← hl2]; exact e2))
          clear hl1 hl2 e1 e2
          go_wp2
          go_ret
          exact ⟨by rw [HM.out]; rfl, BX.out⟩
      · have e1' : ((l1 : Int) != (nF : Int)) = true := by simp; omega
        have HM : Hid (b = false) := hide (by cases b with | false => rfl | true => exact absurd (HNo.out rfl k hlt).1 (by rw [← hl1]; exact e1))
        clear hl1 hl2 e1
        go_wp2
        go_ret
        exact ⟨by rw [HM.out]; rfl, BX.out⟩
    · have hltI : ¬ (k : Int) < (nF : Int) := by omega
      have HM := hide (HL.out (fun i hi => HJ.out i (by omega)))
      go_wp2
      go_ret
      exact ⟨by rw [HM.out]; rfl, BX.out⟩
end Go.Proofs.Ytfjbiihiaoobhaj.L12
