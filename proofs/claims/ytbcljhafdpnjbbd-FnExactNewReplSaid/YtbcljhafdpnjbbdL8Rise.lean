/-
  Contracts: impl.isBelow, impl.risingNodes, impl.majority, impl.isMajority: rising lists of nodes, and how many are a majority.
-/
import Derived.Test.YtbcljhafdpnjbbdL4SlC
namespace Go.Proofs.Ytbcljhafdpnjbbd.L8
open Go.RowKit L1 L4
set_option linter.unusedVariables false

/-- Rising nodes of so many. -/
def RN (n : Int) (l : List Int) : Prop := ∀ j, j < l.length → (0 ≤ l.getD j 0 ∧ l.getD j 0 < n) ∧ (0 < j → l.getD (j - 1) 0 < l.getD j 0)
theorem RN.rise {n : Int} {l : List Int} (h : RN n l) : Rise l := rise_of_step fun j hj h0 => (h j hj).2 h0

set_option maxRecDepth 100000 in
set_option maxHeartbeats 400000 in
theorem isBelow_any (x hi : Int) (w : World) (b : Bool) (hb : b = true ↔ 0 ≤ x ∧ x < hi) :
    Calls Try.prog 78 #[.int .i64 x, .int .i64 hi] w fun e w' => e = .returned (.bool b) ∧ w = w' := by
  by_cases h1 : 0 ≤ x
  · by_cases h2 : x < hi
    · obtain rfl : b = true := hb.2 ⟨h1, h2⟩
      clear hb
      go_enter Try.func78, Try.ntmps78
      go_wp2
      go_ret
      exact ⟨rfl, rfl⟩
    · obtain rfl : b = false := bool_noT hb (fun h => h2 h.2)
      clear hb
      go_enter Try.func78, Try.ntmps78
      go_wp2
      go_ret
      exact ⟨rfl, rfl⟩
  · obtain rfl : b = false := bool_noT hb (fun h => h1 h.1)
    clear hb
    go_enter Try.func78, Try.ntmps78
    go_wp2
    go_ret
    exact ⟨rfl, rfl⟩

set_option maxRecDepth 100000 in
set_option maxHeartbeats 2000000 in
theorem risingNodes_any (a : Option Addr) (l : List Int) (n cap : Nat) (N : Int) (w : World) (hn : l.length = n) (hs : Sl w a l) (hn2 : n ≤ 1048576) (bb : Bool) (hbb : bb = true ↔ RN N l) :
    Calls Try.prog 61 #[.slice a n cap, .int .i64 N] w fun e w' => e = .returned (.bool bb) ∧ w = w' := by
  have HBB := hide hbb
  have HS := hide hs
  have HN := hide hn
  clear hbb hs hn
  go_enter Try.func61, Try.ntmps61
  go_wp2
  go_loop [9] (fun i => ∃ k : Nat, k ≤ n ∧ i = .int .i64 k ∧ Hid (∀ j, j < k → (0 ≤ l.getD j 0 ∧ l.getD j 0 < N) ∧ (0 < j → l.getD (j - 1) 0 < l.getD j 0))) (fun i => n - (intOf i).toNat)
  case atStart => exact ⟨0, Nat.zero_le _, rfl, fun j hj => absurd hj (Nat.not_lt_zero _)⟩
  case round =>
    obtain ⟨k, hk, rfl, HJ⟩ := hrel
    by_cases hlt : k < n
    · obtain ⟨b, off, rfl, hc⟩ := HS.out k (by rw [HN.out]; exact hlt)
      have hltI : (k : Int) < (n : Int) := by omega
      obtain ⟨x, hx⟩ : ∃ x, x = l.getD k 0 := ⟨_, rfl⟩
      rw [← hx] at hc
      have HX := hide hx.symm
      clear hx
      have hprev : 0 < k → ∃ p, Hid (l.getD (k - 1) 0 = p) ∧ w.cell? ⟨b, off + (k - 1), none⟩ = some (.int .i64 p) := fun h0 => by
        obtain ⟨b', off', ha, hp⟩ := HS.out (k - 1) (by rw [HN.out]; omega)
        simp only [Option.some.injEq, Addr.mk.injEq, and_true] at ha
        obtain ⟨rfl, rfl⟩ := ha
        exact ⟨_, rfl, hp⟩
      by_cases h1 : 0 ≤ x ∧ x < N
      · have C := hide (fun w => isBelow_any x N w true (by simp [h1]))
        have H1 := hide h1
        clear h1
        cases k with
        | zero =>
          clear hprev
          simp only [Nat.add_zero] at hc
          go_wp2_with fail
          refine (C.out _).mono ?_
          rintro e w1 ⟨rfl, rfl⟩
          go_wp2
          go_round
          case rel =>
            refine ⟨0 + 1, by omega, by go_num, ?_⟩
            intro j hj
            obtain rfl : j = 0 := by omega
            rw [HX.out]
            exact ⟨H1.out, fun h => absurd h (Nat.lt_irrefl _)⟩
          case measure => simp [intOf]; omega
        | succ k =>
          obtain ⟨p, HP, hp⟩ := hprev (by omega)
          clear hprev
          simp only [Nat.add_sub_cancel] at HP hp
          have hk1 : ((k + 1 : Nat) : Int) - 1 = (k : Int) := by omega
          have hk2 : (k : Int) < (n : Int) := by omega
          have hk3 : (0 : Int) < ((k + 1 : Nat) : Int) := by omega
          by_cases h3 : x ≤ p
          · have hno : ¬ RN N l := fun h => by
              have := (h (k + 1) (by rw [HN.out]; exact hlt)).2 (by omega)
              simp only [Nat.add_sub_cancel] at this
              rw [HX.out, HP.out] at this
              omega
            have HNO := hide hno
            clear hno
            go_wp2_with fail
            refine (C.out _).mono ?_
            rintro e w1 ⟨rfl, rfl⟩
            go_wp2
            go_ret
            exact ⟨by rw [bool_noT HBB.out HNO.out]; rfl, rfl⟩
          · go_wp2_with fail
            refine (C.out _).mono ?_
            rintro e w1 ⟨rfl, rfl⟩
            go_wp2
            go_round
            case rel =>
              refine ⟨k + 1 + 1, by omega, by go_num, ?_⟩
              intro j hj
              by_cases e : j = k + 1
              · subst e
                simp only [Nat.add_sub_cancel]
                rw [HX.out, HP.out]
                exact ⟨H1.out, fun _ => by omega⟩
              · exact HJ.out j (by omega)
            case measure => simp [intOf]; omega
      · have C := hide (fun w => isBelow_any x N w false (by simp; omega))
        have hno : ¬ RN N l := fun h => h1 (by have := (h k (by rw [HN.out]; exact hlt)).1; rw [HX.out] at this; exact this)
        have HNO := hide hno
        clear hno h1 hprev
        go_wp2_with fail
        refine (C.out _).mono ?_
        rintro e w1 ⟨rfl, rfl⟩
        go_wp2
        go_ret
        exact ⟨by rw [bool_noT HBB.out HNO.out]; rfl, rfl⟩
    · have hltI : ¬ (k : Int) < (n : Int) := by omega
      have hg : RN N l := fun j hj => HJ.out j (by rw [HN.out] at hj; omega)
      have HG := hide hg
      clear hg
      go_wp2
      go_ret
      exact ⟨by rw [HBB.out.2 HG.out]; rfl, rfl⟩
end Go.Proofs.Ytbcljhafdpnjbbd.L8
