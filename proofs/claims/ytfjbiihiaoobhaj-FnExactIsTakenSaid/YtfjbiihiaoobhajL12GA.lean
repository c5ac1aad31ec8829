/-
  Contracts: impl.isHeld, impl.isPictured, impl.goodOnWay.
-/
import Derived.Test.YtfjbiihiaoobhajL12GMath
import Derived.Test.YtfjbiihiaoobhajL12Bel
import Derived.Deep.DeepCutAuto
namespace Go.Proofs.Ytfjbiihiaoobhaj.L12
open Go.RowKit L1 L9 Own Sli
set_option linter.unusedVariables false

set_option maxRecDepth 100000 in
set_option maxHeartbeats 4000000 in
theorem isHeld_any (x : Int) (w : World) (b : Bool) (hb : b = true ↔ 0 ≤ x ∧ x ≤ 1000) :
    Calls Try.prog 40 #[.int .i64 x] w fun e w' => e = .returned (.bool b) ∧ w = w' := by
  by_cases h1 : 0 ≤ x
  · by_cases h2 : x ≤ 1000
    · obtain rfl : b = true := hb.2 ⟨h1, h2⟩
      clear hb
      go_enter Try.func40, Try.ntmps40
      go_wp2
      go_ret
      exact ⟨rfl, rfl⟩
    · obtain rfl : b = false := bool_no12 hb (fun h => h2 h.2)
      clear hb
      go_enter Try.func40, Try.ntmps40
      go_wp2
      go_ret
      exact ⟨rfl, rfl⟩
  · obtain rfl : b = false := bool_no12 hb (fun h => h1 h.1)
    clear hb
    go_enter Try.func40, Try.ntmps40
    go_wp2
    go_ret
    exact ⟨rfl, rfl⟩
set_option maxRecDepth 100000 in
set_option maxHeartbeats 4000000 in
theorem isPictured_any (aC : Option Addr) (nC cC : Nat) (aW : Option Addr) (nW cW : Nat) (aK : Option Addr) (nK cK : Nat) (aH : Option Addr) (nH cH : Nat) (aF : Option Addr) (nF cF : Nat) (m : Bk) (w : World) (hF : BkF w aC aW aK aH aF m) (i : Nat) (hn : m.k.length = nK) (hi : i < nK) (b : Bool) (hb : b = true ↔ m.k.getD i 0 ≠ -1) :
    Calls Try.prog 41 #[bkV aC nC cC aW nW cW aK nK cK aH nH cH aF nF cF, .int .i64 i] w fun e w' => e = .returned (.bool b) ∧ Below w.heap.size w w' := by
  obtain ⟨W0, hW0⟩ : ∃ W0, w.alloc (bkO aC nC cC aW nW cW aK nK cK aH nH cH aF nF cF) = W0 := ⟨_, rfl⟩
  have BX : Hid (Below w.heap.size w W0) := by rw [← hW0]; exact hide ((Below.refl _ _).alloc (Nat.le_refl _) _)
  have g0 : W0.heap[w.heap.size]? = some (bkO aC nC cC aW nW cW aK nK cK aH nH cH aF nF cF) := by rw [← hW0]; exact blk_newO _ _
  have F0 := hide (hF.below BX.out)
  have HW := hide hW0
  obtain ⟨k0, k1, k2, k3, k4⟩ := blk5 g0
  clear hW0 hF
  obtain ⟨p, off, rfl, hc⟩ := sl_cell F0.out.k hn hi
  obtain ⟨x, hx⟩ : ∃ x, x = m.k.getD i 0 := ⟨_, rfl⟩
  rw [← hx] at hc hb
  have i0 : (0 : Int) ≤ (i : Int) := by omega
  have i1 : (i : Int) < (nK : Int) := by omega
  clear hx F0 hn g0
  by_cases hx1 : x = -1
  · subst hx1
    obtain rfl : b = false := bool_no12 hb (fun h => h rfl)
    clear hb
    go_enter Try.func41, Try.ntmps41
    go_upto_region 1 with fail
    rw [HW.out]
    go_wp2
    go_ret
    exact ⟨rfl, BX.out⟩
  · obtain rfl : b = true := hb.2 hx1
    have hx2 : (x != -1) = true := by simp [hx1]
    clear hb hx1
    go_enter Try.func41, Try.ntmps41
    go_upto_region 1 with fail
    rw [HW.out]
    go_wp2
    go_ret
    exact ⟨rfl, BX.out⟩
set_option maxRecDepth 100000 in
set_option maxHeartbeats 4000000 in
theorem goodOnWay_any (a : Option Addr) (l : List Int) (n cap room : Nat) (w : World) (hn : l.length = n) (hs : Sl w a l) (hn2 : n ≤ 1048576) (bb : Bool) (hbb : bb = true ↔ OnOk l room) :
    Calls Try.prog 49 #[.slice a n cap, .int .i64 room] w fun e w' => e = .returned (.bool bb) ∧ w = w' := by
  have HS := hide hs
  have HN := hide hn
  have HBB := hide hbb
  clear hs hn hbb
  by_cases hr : (n : Int) > (room : Int)
  · have hr' : (room : Int) < (n : Int) := hr
    obtain rfl : bb = false := bool_no12 HBB.out (fun h => by have := h.1; rw [HN.out] at this; omega)
    go_enter Try.func49, Try.ntmps49
    go_wp2
    go_ret
    exact ⟨rfl, rfl⟩
  have hr' : ¬ (room : Int) < (n : Int) := hr
  go_enter Try.func49, Try.ntmps49
  go_wp2
  go_loop [13] (fun i => ∃ k : Nat, k ≤ n ∧ i = .int .i64 k ∧ Hid (∀ j, j < k → 0 ≤ l.getD j 0 ∧ l.getD j 0 ≤ 50)) (fun i => n - (intOf i).toNat)
  case atStart => exact ⟨0, Nat.zero_le _, rfl, fun j hj => absurd hj (Nat.not_lt_zero _)⟩
  case round =>
    obtain ⟨k, hk, rfl, HJ⟩ := hrel
    by_cases hlt : k < n
    · obtain ⟨b, off, rfl, hc⟩ := HS.out k (by rw [HN.out]; exact hlt)
      have hltI : (k : Int) < (n : Int) := by omega
      obtain ⟨x, hx⟩ : ∃ x, x = l.getD k 0 := ⟨_, rfl⟩
      rw [← hx] at hc
      have HX := hide hx.symm
      clear hx
      have nxt : (0 ≤ x ∧ x ≤ 50) → Hid (∀ j, j < k + 1 → 0 ≤ l.getD j 0 ∧ l.getD j 0 ≤ 50) := fun hle j hj => by
        by_cases e : j = k
        · subst e; rw [HX.out]; exact hle
        · exact HJ.out j (by omega)
      have bad : ¬ (0 ≤ x ∧ x ≤ 50) → Hid (bb = false) := fun hle => hide (bool_no12 HBB.out (fun h => hle (by have := h.2 k (by rw [HN.out]; exact hlt); rw [HX.out] at this; exact this)))
      by_cases h0 : x = 0
      · have NX := nxt (by omega)
        have h0' : (x != 0) = false := by simp [h0]
        clear h0 nxt bad
        go_wp2
        go_round
        case rel => exact ⟨k + 1, by omega, by go_num, NX⟩
        case measure => simp [intOf]; omega
      · have h0' : (x != 0) = true := by simp [h0]
        by_cases h1 : x < 1
        · have HM := bad (by omega)
          clear h0 nxt bad
          go_wp2
          go_ret
          exact ⟨by rw [HM.out]; rfl, rfl⟩
        · by_cases h2 : x > 50
          · have HM := bad (by omega)
            have h2' : 50 < x := h2
            clear h0 nxt bad
            go_wp2
            go_ret
            exact ⟨by rw [HM.out]; rfl, rfl⟩
          · have NX := nxt (by omega)
            have h2' : ¬ 50 < x := h2
            clear h0 nxt bad
            go_wp2
            go_round
            case rel => exact ⟨k + 1, by omega, by go_num, NX⟩
            case measure => simp [intOf]; omega
    · have hltI : ¬ (k : Int) < (n : Int) := by omega
      have HM := hide (HBB.out.2 ⟨by rw [HN.out]; omega, fun j hj => HJ.out j (by rw [HN.out] at hj; omega)⟩)
      go_wp2
      go_ret
      exact ⟨by rw [HM.out]; rfl, rfl⟩
end Go.Proofs.Ytfjbiihiaoobhaj.L12
