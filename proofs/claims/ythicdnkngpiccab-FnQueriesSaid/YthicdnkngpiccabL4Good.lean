/-
  Contracts: impl.GoodPosts, spec.GoodPosts: whether posts are good.
-/
import Derived.Test.YthicdnkngpiccabL4In
namespace Go.Proofs.Ythicdnkngpiccab.L4
open Go.RowKit L1
set_option linter.unusedVariables false

theorem good_at {l : List Int} {k : Nat} (h : GoodP l) (hk : k < l.length) : (0 ≤ l.getD k 0 ∧ l.getD k 0 ≤ 9999) ∧ (0 < k → l.getD (k - 1) 0 < l.getD k 0) := h.2 k hk

set_option maxRecDepth 100000 in
set_option maxHeartbeats 2000000 in
theorem goodPosts_any (a : Option Addr) (l : List Int) (n cap : Nat) (w : World) (hn : l.length = n) (hs : Sl w a l) (hn2 : n ≤ 1048576) (bb : Bool) (hbb : bb = true ↔ GoodP l) :
    Calls Try.prog 13 #[.slice a n cap] w fun e w' => e = .returned (.bool bb) ∧ w = w' := by
  have HBB := hide hbb
  clear hbb
  by_cases h60 : 60 < (n : Int)
  · have hno : ¬ GoodP l := fun h => by have := h.1; omega
    have HNO := hide hno
    clear hs hn hno
    go_enter Try.func13, Try.ntmps13
    go_wp2
    go_ret
    exact ⟨by rw [bool_noT HBB.out HNO.out]; rfl, rfl⟩
  have HS := hide hs
  have HN := hide hn
  clear hs hn
  go_enter Try.func13, Try.ntmps13
  go_wp2
  go_loop [10] (fun i => ∃ k : Nat, k ≤ n ∧ i = .int .i64 k ∧ Hid (∀ j, j < k → (0 ≤ l.getD j 0 ∧ l.getD j 0 ≤ 9999) ∧ (0 < j → l.getD (j - 1) 0 < l.getD j 0))) (fun i => n - (intOf i).toNat)
  case atStart => exact ⟨0, Nat.zero_le _, rfl, fun j hj => absurd hj (Nat.not_lt_zero _)⟩
  case round =>
    obtain ⟨k, hk, rfl, HJ⟩ := hrel
    by_cases hlt : k < n
    · obtain ⟨b, off, rfl, hc⟩ := HS.out k (by rw [HN.out]; exact hlt)
      have hltI : (k : Int) < (n : Int) := by omega
      obtain ⟨x, hx⟩ : ∃ x, x = l.getD k 0 := ⟨_, rfl⟩
      rw [← hx] at hc
      have HX := hide hx.symm
      clear hx
      have hprev : 0 < k → ∃ p, Hid (l.getD (k - 1) 0 = p) ∧ w.cell? ⟨b, off + (k - 1), none⟩ = some (.int .i64 p) := fun h0 => by
        obtain ⟨b', off', ha, hp⟩ := HS.out (k - 1) (by rw [HN.out]; omega)
        simp only [Option.some.injEq, Addr.mk.injEq, and_true] at ha
        obtain ⟨rfl, rfl⟩ := ha
        exact ⟨_, rfl, hp⟩
      by_cases h1 : x < 0
      · have hno : ¬ GoodP l := fun h => by have := (good_at h (by rw [HN.out]; exact hlt)).1.1; rw [HX.out] at this; omega
        have HNO := hide hno
        clear hno hprev
        go_wp2
        go_ret
        exact ⟨by rw [bool_noT HBB.out HNO.out]; rfl, rfl⟩
      · by_cases h2 : 9999 < x
        · have hno : ¬ GoodP l := fun h => by have := (good_at h (by rw [HN.out]; exact hlt)).1.2; rw [HX.out] at this; omega
          have HNO := hide hno
          clear hno hprev
          go_wp2
          go_ret
          exact ⟨by rw [bool_noT HBB.out HNO.out]; rfl, rfl⟩
        · cases k with
          | zero =>
            clear hprev
            simp only [Nat.add_zero] at hc
            go_wp2
            go_round
            case rel =>
              refine ⟨0 + 1, by omega, by go_num, ?_⟩
              intro j hj
              obtain rfl : j = 0 := by omega
              rw [HX.out]
              exact ⟨by omega, fun h => absurd h (Nat.lt_irrefl _)⟩
            case measure => simp [intOf]; omega
          | succ k =>
            obtain ⟨p, HP, hp⟩ := hprev (by omega)
            clear hprev
            simp only [Nat.add_sub_cancel] at HP hp
            have hk1 : ((k + 1 : Nat) : Int) - 1 = (k : Int) := by omega
            have hk2 : (k : Int) < (n : Int) := by omega
            have hk3 : (0 : Int) < ((k + 1 : Nat) : Int) := by omega
            by_cases h3 : x ≤ p
            · have hno : ¬ GoodP l := fun h => by
                have := (good_at h (k := k + 1) (by rw [HN.out]; exact hlt)).2 (by omega)
                simp only [Nat.add_sub_cancel] at this
                rw [HX.out, HP.out] at this
                omega
              have HNO := hide hno
              clear hno
              go_wp2
              go_ret
              exact ⟨by rw [bool_noT HBB.out HNO.out]; rfl, rfl⟩
            · go_wp2
              go_round
              case rel =>
                refine ⟨k + 1 + 1, by omega, by go_num, ?_⟩
                intro j hj
                by_cases e : j = k + 1
                · subst e
                  simp only [Nat.add_sub_cancel]
                  rw [HX.out, HP.out]
                  exact ⟨by omega, fun _ => by omega⟩
                · exact HJ.out j (by omega)
              case measure => simp [intOf]; omega
    · have hltI : ¬ (k : Int) < (n : Int) := by omega
      have hg : GoodP l := ⟨by rw [HN.out]; omega, fun j hj => HJ.out j (by rw [HN.out] at hj; omega)⟩
      have HG := hide hg
      clear hg
      go_wp2
      go_ret
      exact ⟨by rw [HBB.out.2 HG.out]; rfl, rfl⟩

set_option maxRecDepth 100000 in
set_option maxHeartbeats 2000000 in
theorem specGoodPosts_any (a : Option Addr) (l : List Int) (n cap : Nat) (w : World) (hn : l.length = n) (hs : Sl w a l) (hn2 : n ≤ 1048576) (bb : Bool) (hbb : bb = true ↔ GoodP l) :
    Calls Try.prog 14 #[.slice a n cap] w fun e w' => e = .returned (.bool bb) ∧ w = w' := by
  have HBB := hide hbb
  have HS := hide hs
  have HN := hide hn
  clear hbb hs hn
  go_enter Try.func14, Try.ntmps14
  go_wp2
  go_loop [7] (fun i => ∃ k : Nat, k ≤ n ∧ i = .int .i64 k ∧ Hid (∀ j, j < k → (0 ≤ l.getD j 0 ∧ l.getD j 0 ≤ 9999) ∧ (0 < j → l.getD (j - 1) 0 < l.getD j 0))) (fun i => n - (intOf i).toNat)
  case atStart => exact ⟨0, Nat.zero_le _, rfl, fun j hj => absurd hj (Nat.not_lt_zero _)⟩
  case round =>
    obtain ⟨k, hk, rfl, HJ⟩ := hrel
    by_cases hlt : k < n
    · obtain ⟨b, off, rfl, hc⟩ := HS.out k (by rw [HN.out]; exact hlt)
      have hltI : (k : Int) < (n : Int) := by omega
      obtain ⟨x, hx⟩ : ∃ x, x = l.getD k 0 := ⟨_, rfl⟩
      rw [← hx] at hc
      have HX := hide hx.symm
      clear hx
      have hprev : 0 < k → ∃ p, Hid (l.getD (k - 1) 0 = p) ∧ w.cell? ⟨b, off + (k - 1), none⟩ = some (.int .i64 p) := fun h0 => by
        obtain ⟨b', off', ha, hp⟩ := HS.out (k - 1) (by rw [HN.out]; omega)
        simp only [Option.some.injEq, Addr.mk.injEq, and_true] at ha
        obtain ⟨rfl, rfl⟩ := ha
        exact ⟨_, rfl, hp⟩
      by_cases h1 : 0 ≤ x ∧ x ≤ 9999
      · have C := hide (fun w => l1In_any x 0 9999 w true (by simp [h1]))
        have H1 := hide h1
        clear h1
        cases k with
        | zero =>
          clear hprev
          simp only [Nat.add_zero] at hc
          go_wp2_with fail
          refine (C.out _).mono ?_
          rintro e w1 ⟨rfl, rfl⟩
          go_wp2
          go_round
          case rel =>
            refine ⟨0 + 1, by omega, by go_num, ?_⟩
            intro j hj
            obtain rfl : j = 0 := by omega
            rw [HX.out]
            exact ⟨H1.out, fun h => absurd h (Nat.lt_irrefl _)⟩
          case measure => simp [intOf]; omega
        | succ k =>
          obtain ⟨p, HP, hp⟩ := hprev (by omega)
          clear hprev
          simp only [Nat.add_sub_cancel] at HP hp
          have hk1 : ((k + 1 : Nat) : Int) - 1 = (k : Int) := by omega
          have hk2 : (k : Int) < (n : Int) := by omega
          have hk3 : (0 : Int) < ((k + 1 : Nat) : Int) := by omega
          by_cases h3 : x ≤ p
          · have hno : ¬ GoodP l := fun h => by
              have := (good_at h (k := k + 1) (by rw [HN.out]; exact hlt)).2 (by omega)
              simp only [Nat.add_sub_cancel] at this
              rw [HX.out, HP.out] at this
              omega
            have HNO := hide hno
            clear hno
            go_wp2_with fail
            refine (C.out _).mono ?_
            rintro e w1 ⟨rfl, rfl⟩
            go_wp2
            go_ret
            exact ⟨by rw [bool_noT HBB.out HNO.out]; rfl, rfl⟩
          · go_wp2_with fail
            refine (C.out _).mono ?_
            rintro e w1 ⟨rfl, rfl⟩
            go_wp2
            go_round
            case rel =>
              refine ⟨k + 1 + 1, by omega, by go_num, ?_⟩
              intro j hj
              by_cases e : j = k + 1
              · subst e
                simp only [Nat.add_sub_cancel]
                rw [HX.out, HP.out]
                exact ⟨H1.out, fun _ => by omega⟩
              · exact HJ.out j (by omega)
            case measure => simp [intOf]; omega
      · have C := hide (fun w => l1In_any x 0 9999 w false (by simp; omega))
        have hno : ¬ GoodP l := fun h => h1 (by have := (good_at h (by rw [HN.out]; exact hlt)).1; rw [HX.out] at this; exact this)
        have HNO := hide hno
        clear hno h1 hprev
        go_wp2_with fail
        refine (C.out _).mono ?_
        rintro e w1 ⟨rfl, rfl⟩
        go_wp2
        go_ret
        exact ⟨by rw [bool_noT HBB.out HNO.out]; rfl, rfl⟩
    · have hltI : ¬ (k : Int) < (n : Int) := by omega
      by_cases h60 : (n : Int) ≤ 60
      · have hg : GoodP l := ⟨by rw [HN.out]; omega, fun j hj => HJ.out j (by rw [HN.out] at hj; omega)⟩
        have HG := hide hg
        clear hg
        go_wp2
        go_ret
        exact ⟨by rw [HBB.out.2 HG.out]; rfl, rfl⟩
      · have hno : ¬ GoodP l := fun h => by have := h.1; rw [HN.out] at this; omega
        have HNO := hide hno
        clear hno
        go_wp2
        go_ret
        exact ⟨by rw [bool_noT HBB.out HNO.out]; rfl, rfl⟩
end Go.Proofs.Ythicdnkngpiccab.L4
