/-
  Contracts: impl.isWithin, impl.pieceAt, impl.placeOf.
-/
import Derived.Test.YtkjogjjfpjkeoazDoorL6End
import Derived.Test.YtkjogjjfpjkeoazDoorL6Keep
namespace Go.Proofs.YtkjogjjfpjkeoazDoor.L6
open Go.RowKit L1
set_option linter.unusedVariables false

set_option maxRecDepth 100000 in
set_option maxHeartbeats 1000000 in
theorem isWithin_any (a : Option Addr) (L : List Pc) (n cap : Nat) (B o : Int) (w : World) (h : LogAt w a L n) (bb : Bool) (hbb : bb = true ↔ B ≤ o ∧ o ≤ lastEnd L n) :
    Calls Tryd.prog 44 #[.agg #[.slice a n cap, .int .i64 B], .int .i64 o] w fun e w' => e = .returned (.bool bb) ∧ Below w.heap.size w w' := by
  by_cases h1 : B ≤ o
  · have C := hide (fun wx (hb : Below w.heap.size w wx) => endOf_any a L n cap B wx (h.below hb))
    obtain ⟨E, hE⟩ : ∃ E, E = lastEnd L n := ⟨_, rfl⟩
    rw [← hE] at C hbb
    have hE2 : bb = decide (o ≤ E) := by
      cases bb with
      | true => exact (decide_eq_true (hbb.1 rfl).2).symm
      | false =>
        refine (decide_eq_false (fun h => ?_)).symm
        exact absurd (hbb.2 ⟨h1, h⟩) (by simp)
    subst hE2
    clear hbb h hE
    go_enter Tryd.func44, Tryd.ntmps44
    go_wp2_with fail
    refine (C.out _ ((Below.refl _ _).alloc (Nat.le_refl _) _)).mono ?_
    rintro e w1 ⟨rfl, hb1⟩
    have B1 := hide (((Below.refl w.heap.size w).alloc (Nat.le_refl _) (.cells #[.slice a n cap, .int .i64 B] 29 (0, 0))).trans (hb1.mono (by simp)))
    clear hb1
    go_wp2
    go_ret
    exact ⟨rfl, B1.out⟩
  · obtain rfl : bb = false := by
      cases bb with
      | false => rfl
      | true => exact absurd (hbb.1 rfl).1 h1
    clear hbb h
    go_enter Tryd.func44, Tryd.ntmps44
    go_wp2
    go_ret
    exact ⟨rfl, (Below.refl _ _).alloc (Nat.le_refl _) _⟩

set_option maxRecDepth 100000 in
set_option maxHeartbeats 1000000 in
theorem pieceAt_any (a : Option Addr) (L : List Pc) (n cap : Nat) (B o : Int) (w : World) (hn : L.length = n) (h1 : 1 ≤ n) (h20 : n ≤ 20) (hs : SlC w a L) (i : Nat) (hi : pcAt L o (n - 1) = i) :
    Calls Tryd.prog 45 #[.agg #[.slice a n cap, .int .i64 B], .int .i64 o] w fun e w' => e = .returned (.int .i64 i) ∧ Below w.heap.size w w' := by
  have hnm : (n : Int) - 1 = ((n - 1 : Nat) : Int) := by omega
  obtain ⟨m, hm⟩ : ∃ m, m = n - 1 := ⟨_, rfl⟩
  rw [← hm] at hnm hi
  have HS := hide (hs.below (w' := w.alloc (.cells #[.slice a n cap, .int .i64 B] 29 (0, 0))) ((Below.refl _ _).alloc (Nat.le_refl _) _))
  have HN := hide hn
  have HI := hide hi
  have hmn : m < n := by omega
  clear hn hs hi hm
  go_enter Tryd.func45, Tryd.ntmps45
  go_wp2
  go_loop [5] (fun t => ∃ k : Nat, k ≤ m ∧ t = .int .i64 k ∧ Hid (pcAt L o k = i)) (fun t => (intOf t).toNat)
  case atStart => exact ⟨m, Nat.le_refl _, rfl, HI.out⟩
  case round =>
    obtain ⟨k, hk, rfl, HK⟩ := hrel
    cases k with
    | zero =>
      have E : Hid (i = 0) := HK.out.symm
      go_wp2
      go_ret
      exact ⟨by rw [E.out]; rfl, (Below.refl _ _).alloc (Nat.le_refl _) _⟩
    | succ k =>
      obtain ⟨b, off, rfl, ai, ci, hat⟩ := HS.out (k + 1) (by rw [HN.out]; omega)
      have hd1 := hat.f
      rw [show L.getD (k + 1) eC = gc L (k + 1) from rfl] at hd1
      have hu : pcAt L o (k + 1) = if o < (gc L (k + 1)).f then pcAt L o k else k + 1 := rfl
      have hK := HK.out
      rw [hu] at hK
      obtain ⟨f, hf⟩ : ∃ f, f = (gc L (k + 1)).f := ⟨_, rfl⟩
      rw [← hf] at hd1 hK
      obtain ⟨j, hj⟩ : ∃ j, j = k + 1 := ⟨_, rfl⟩
      rw [← hj] at hd1 hK ⊢
      have hj0 : (0 : Int) < (j : Int) := by omega
      have hjn : (j : Int) < (n : Int) := by omega
      have hj1 : (j : Int) - 1 = (k : Int) := by omega
      have hjp : 0 < j := by omega
      have HKJ := hide hj
      clear hat hf hu HK hj
      by_cases hlt : o < f
      · rw [if_pos hlt] at hK
        have HK := hide hK
        clear hK
        go_wp2
        go_round
        case rel => exact ⟨k, by omega, rfl, HK.out⟩
        case measure => simp [intOf]; omega
      · rw [if_neg hlt] at hK
        have HK := hide hK
        clear hK
        go_wp2
        go_ret
        exact ⟨by rw [← HK.out]; rfl, (Below.refl _ _).alloc (Nat.le_refl _) _⟩

end Go.Proofs.YtkjogjjfpjkeoazDoor.L6
