/-
  Contract: spec.l12Taken.
-/
import Derived.Test.YtfjbiihiaoobhajL12SumM
import Derived.Test.YtfjbiihiaoobhajL12Bel
import Derived.Deep.DeepCutAuto
namespace Go.Proofs.Ytfjbiihiaoobhaj.L12
open Go.RowKit L1 L9 Own Sli
set_option linter.unusedVariables false

set_option maxRecDepth 100000 in
set_option maxHeartbeats 4000000 in
theorem l12Taken_any (aC : Option Addr) (nC cC : Nat) (aW : Option Addr) (nW cW : Nat) (aK : Option Addr) (nK cK : Nat) (aH : Option Addr) (nH cH : Nat) (aF : Option Addr) (nF cF : Nat) (m : Bk) (w : World) (hz : BkZ m nC nW nK nH nF) (hF : BkF w aC aW aK aH aF m) (g : GoodB m) (r : Bool) (hr : r = true ↔ m.taken) :
    Calls Try.prog 31 #[bkV aC nC cC aW nW cW aK nK cK aH nH cH aF nF cF] w fun e w' => e = .returned (.bool r) ∧ Below w.heap.size w w' := by
  have hl := g.l
  have ec : m.n = nC := hz.c
  have lk : Hid (m.k.length = nC) := hide (by rw [hl.k, ec])
  have lW : Hid (m.W.length = nC * nC) := hide (by rw [hl.W, ec])
  have lH : Hid (m.H.length = nC) := hide (by rw [hl.H, ec])
  have lF : Hid (m.F.length = nC) := hide (by rw [hl.F, ec])
  have lh : Hid (∀ i, i < nC → (m.H.getD i []).length = nC) := hide (fun i hi => by rw [hl.h i (by omega), ec])
  have lf : Hid (∀ i, i < nC → (m.F.getD i []).length = nC) := hide (fun i hi => by rw [hl.f i (by omega), ec])
  have n5 : nC ≤ 5 := by have := hl.n5; omega
  have n1 : 1 ≤ nC := by have := hl.n1; omega
  have eK : nK = nC := by rw [← hz.k]; exact lk.out
  have eW : nW = nC * nC := by rw [← hz.W]; exact lW.out
  have eH : nH = nC := by rw [← hz.H]; exact lH.out
  have eF : nF = nC := by rw [← hz.F]; exact lF.out
  obtain ⟨W0, hW0⟩ : ∃ W0, w.alloc (bkO aC nC cC aW nW cW aK nK cK aH nH cH aF nF cF) = W0 := ⟨_, rfl⟩
  have BX : Hid (Below w.heap.size w W0) := by rw [← hW0]; exact hide ((Below.refl _ _).alloc (Nat.le_refl _) _)
  have g0 : W0.heap[w.heap.size]? = some (bkO aC nC cC aW nW cW aK nK cK aH nH cH aF nF cF) := by rw [← hW0]; exact blk_newO _ _
  have F0 := hide (hF.below BX.out)
  have HW := hide hW0
  obtain ⟨k0, k1, k2, k3, k4⟩ := blk5 g0
  clear hW0
  have G0 := hide g0
  clear g0
  have NO : Hid (r = true → ∀ i, i < nC → m.kp i ≠ -1 ∧ ∀ j, j < nC → j ≠ i → m.hd i j = true) := hide (fun h i hi => by
    have h1 := hr.1 h i (by omega)
    exact ⟨h1.1, fun j hj => h1.2 j (by omega)⟩)
  have YES : Hid ((∀ i, i < nC → m.kp i ≠ -1 ∧ ∀ j, j < nC → j ≠ i → m.hd i j = true) → r = true) := hide (fun h => hr.2 (fun i hi => ⟨(h i (by omega)).1, fun j hj => (h i (by omega)).2 j (by omega)⟩))
  have KV : Hid (∀ i, i < nC → -1 ≤ m.k.getD i 0) := hide (fun i hi => (g.n i (by omega)).k0)
  have EK := hide eK
  have nk5 : nK ≤ 5 := by omega
  clear hr hF hz hl g ec eK eW eF lW lF lf
  have EH := hide eH
  clear eH
  go_enter Try.func31, Try.ntmps31
  go_upto_region 1 with fail
  rw [HW.out]
  go_wp2
  go_loop [10] (fun t => ∃ i : Nat, i ≤ nK ∧ t = .int .i64 i ∧ Hid (∀ x, x < i → m.kp x ≠ -1 ∧ ∀ j, j < nC → j ≠ x → m.hd x j = true)) (fun t => nK - (intOf t).toNat)
  case atStart => exact ⟨0, Nat.zero_le _, rfl, fun x hx => absurd hx (Nat.not_lt_zero _)⟩
  case round =>
    obtain ⟨i, hi, rfl, HI⟩ := hrel
    by_cases hlt : i < nK
    · have hltI : (i : Int) < (nK : Int) := by omega
      have hiC : i < nC := by have := EK.out; omega
      have hiH : (i : Int) < (nH : Int) := by have := EH.out; omega
      have i0 : (0 : Int) ≤ (i : Int) := by omega
      obtain ⟨b1, o1, rfl, h1⟩ := F0.out.k i (by rw [lk.out]; exact hiC)
      obtain ⟨b2, o2, rfl, x2, q2, h2, s2⟩ := F0.out.H i (by rw [lH.out]; exact hiC)
      rw [lh.out i hiC] at h2
      have kv := KV.out i hiC
      have BAD : Hid (¬ (m.kp i ≠ -1 ∧ ∀ j, j < nC → j ≠ i → m.hd i j = true) → r = false) := hide (fun h => by
        cases r with
        | false => rfl
        | true => exact absurd (NO.out rfl i hiC) h)
      obtain ⟨y, hy⟩ : ∃ y, y = m.k.getD i 0 := ⟨_, rfl⟩
      have hy2 : m.kp i = y := hy.symm
      rw [← hy] at h1 kv
      by_cases c1 : y < 0
      · have HM := hide (BAD.out (fun h => h.1 (by rw [hy2]; omega)))
        clear hy hy2 s2
        go_wp2
        go_ret
        exact ⟨by rw [HM.out]; rfl, BX.out⟩
      have hk : m.kp i ≠ -1 := by rw [hy2]; omega
      have HKp := hide hk
      have S2 := hide s2
      clear hy hy2 s2 hk
      go_wp2
      go_loop [23] (fun t => ∃ j : Nat, j ≤ nC ∧ t = .int .i64 j ∧ Hid (∀ x, x < j → x ≠ i → m.hd i x = true)) (fun t => nC - (intOf t).toNat)
      case atStart => exact ⟨0, Nat.zero_le _, rfl, fun x hx => absurd hx (Nat.not_lt_zero _)⟩
      case round =>
        obtain ⟨j, hj, rfl, HJ⟩ := hrel
        by_cases hlt2 : j < nC
        · have hltJ : (j : Int) < (nC : Int) := by omega
          have j0 : (0 : Int) ≤ (j : Int) := by omega
          obtain ⟨b3, o3, rfl, h3⟩ := S2.out j (by rw [lh.out i hiC]; exact hlt2)
          obtain ⟨z, hz⟩ : ∃ z, z = (m.H.getD i []).getD j false := ⟨_, rfl⟩
          have hz2 : m.hd i j = z := hz.symm
          rw [← hz] at h3
          by_cases e : j = i
          · have e' : ((j : Int) != (i : Int)) = false := by simp; omega
            have NX : Hid (∀ x, x < j + 1 → x ≠ i → m.hd i x = true) := hide (fun x hx hxi => HJ.out x (by omega) hxi)
            clear e hz hz2
            go_wp2
            go_round
            case rel => exact ⟨j + 1, by omega, by go_num, NX⟩
            case measure => simp [intOf]; omega
          · have e' : ((j : Int) != (i : Int)) = true := by simp; omega
            cases z with
            | true =>
              have NX : Hid (∀ x, x < j + 1 → x ≠ i → m.hd i x = true) := hide (fun x hx hxi => by
                by_cases e2 : x = j
                · rw [e2]; exact hz2
                · exact HJ.out x (by omega) hxi)
              clear e hz hz2
              go_wp2
              go_round
              case rel => exact ⟨j + 1, by omega, by go_num, NX⟩
              case measure => simp [intOf]; omega
            | false =>
              have HM := hide (BAD.out (fun h => by have := h.2 j hlt2 e; rw [hz2] at this; cases this))
              clear e hz hz2
              go_wp2
              go_ret
              exact ⟨by rw [HM.out]; rfl, BX.out⟩
        · have hltJ : ¬ (j : Int) < (nC : Int) := by omega
          have NX : Hid (∀ x, x < i + 1 → m.kp x ≠ -1 ∧ ∀ j, j < nC → j ≠ x → m.hd x j = true) := hide (fun x hx => by
            by_cases e2 : x = i
            · subst e2; exact ⟨HKp.out, fun j' hj' hne => HJ.out j' (by omega) hne⟩
            · exact HI.out x (by omega))
          go_wp2
          go_round
          case rel => exact ⟨i + 1, by omega, by go_num, NX⟩
          case measure => simp [intOf]; omega
    · have hltI : ¬ (i : Int) < (nK : Int) := by omega
      have HM := hide (YES.out (fun x hx => HI.out x (by have := EK.out; omega)))
      go_wp2
      go_ret
      exact ⟨by rw [HM.out]; rfl, BX.out⟩
end Go.Proofs.Ytfjbiihiaoobhaj.L12
