/-
  Contracts: impl.CounterOk, spec.CounterOk.
-/
import Derived.Test.YticgejaaoamhmapL16Math
import Derived.Test.YticgejaaoamhmapL2Good
import Derived.Test.YticgejaaoamhmapL2SpecGood
import Derived.Deep.QuietTactic
import Derived.Deep.DeepCutAuto
import Derived.BigQuiet
namespace Go.Proofs.Yticgejaaoamhmap.L16
open Go.RowKit L1
set_option linter.unusedVariables false

theorem sl2_at {w : World} {a : Option Addr} {l : List (Int × Int)} (h : Sl2 w a l) {k : Nat} (hk : k < l.length) : ∃ b off, a = some ⟨b, off, none⟩ ∧ w.cell? ⟨b, off + k * 2, none⟩ = some (.int .i64 (at_ l k)) ∧ w.cell? ⟨b, off + k * 2 + 1, none⟩ = some (.int .i64 (vl l k)) := h k hk
set_option maxRecDepth 100000 in
set_option maxHeartbeats 400000 in
theorem isBelowZero_any (x y : Int) (w : World) (bb : Bool) (hb : bb = true ↔ y < 0) :
    Calls Try.prog 46 #[.agg #[.int .i64 x, .int .i64 y]] w fun e w' => e = .returned (.bool bb) ∧ Below w.heap.size w w' := by
  have e : bb = decide (y < 0) := by cases bb <;> simp_all
  subst e
  clear hb
  go_enter Try.func46, Try.ntmps46
  go_wp2
  all_goals (go_ret; exact ⟨by simp_all, (Below.refl _ _).alloc (Nat.le_refl _) _⟩)
set_option maxRecDepth 100000 in
set_option maxHeartbeats 1000000 in
theorem indexBelow_any (a : Option Addr) (l : List (Int × Int)) (n cap : Nat) (w : World) (hn : l.length = n) (hs : Sl2 w a l) (hn2 : n ≤ 1048576) :
    Calls Try.prog 54 #[.slice a n cap, .func (.func 46) #[] #[]] w fun e w' => ∃ j : Int, e = .returned (.int .i64 j) ∧ (0 ≤ j ↔ ∃ k, k < n ∧ vl l k < 0) ∧ Below w.heap.size w w' := by
  have HS := hide hs
  have HN := hide hn
  clear hs hn
  go_enter Try.func54, Try.ntmps54
  go_wp2
  go_loopw [5, 8] (fun _ i wr => ∃ k : Nat, k ≤ n ∧ i = .int .i64 k ∧ Hid (∀ j, j < k → 0 ≤ vl l j) ∧ Below w.heap.size w wr) (fun _ i _ => n - (intOf i).toNat)
  case atStart => exact ⟨0, Nat.zero_le _, rfl, fun j hj => absurd hj (Nat.not_lt_zero _), Below.refl _ _⟩
  case round =>
    obtain ⟨k, hk, rfl, HJ, hbel⟩ := hrel
    by_cases hlt : k < n
    · obtain ⟨b, off, rfl, hc0, hd0⟩ := sl2_at HS.out (k := k) (by rw [HN.out]; exact hlt)
      have hc := (hbel.cell (p := ⟨b, off + k * 2, none⟩) (blk_lt hc0)).trans hc0
      have hd := (hbel.cell (p := ⟨b, off + k * 2 + 1, none⟩) (blk_lt hd0)).trans hd0
      have hltI : (k : Int) < (n : Int) := by omega
      obtain ⟨bb, hbb⟩ : ∃ bb : Bool, bb = true ↔ vl l k < 0 := ⟨decide (vl l k < 0), by simp⟩
      have CB := hide (fun wx => isBelowZero_any (at_ l k) (vl l k) wx bb hbb)
      obtain ⟨x, hx⟩ : ∃ x, x = at_ l k := ⟨_, rfl⟩
      obtain ⟨y, hy⟩ : ∃ y, y = vl l k := ⟨_, rfl⟩
      rw [← hx] at hc CB
      rw [← hy] at hd CB hbb
      have HY := hide hy
      have HBB := hide hbb
      have B0 := hide hbel
      clear hc0 hd0 hx hy hbb hbel
      go_wp2_with fail
      go_at_call 46
      refine (CB.out _).mono ?_
      rintro e w1 ⟨rfl, hb1⟩
      have B1 := hide (B0.out.trans (hb1.mono B0.out.size))
      clear hb1
      cases hq : bb with
      | true =>
        have R : 0 ≤ (k : Int) ↔ ∃ j, j < n ∧ vl l j < 0 := ⟨fun _ => ⟨k, hlt, by rw [← HY.out]; exact HBB.out.1 hq⟩, fun _ => by omega⟩
        have HR := hide R
        clear R
        subst hq
        go_wp2
        go_ret
        exact ⟨_, rfl, HR.out, B1.out⟩
      | false =>
        have hnn : 0 ≤ vl l k := by rw [← HY.out]; have := HBB.out; rw [hq] at this; simp at this; omega
        have HJ2 : Hid (∀ j, j < k + 1 → 0 ≤ vl l j) := fun j hj => by
          by_cases e : j = k
          · rw [e]; exact hnn
          · exact HJ.out j (by omega)
        clear hnn
        subst hq
        go_wp2
        go_roundw
        case rel => exact ⟨k + 1, by omega, by go_num, HJ2, B1.out⟩
        case measure => simp [intOf]; omega
    · have hltI : ¬ (k : Int) < (n : Int) := by omega
      obtain rfl : k = n := by omega
      have R : 0 ≤ (-1 : Int) ↔ ∃ j, j < k ∧ vl l j < 0 := ⟨fun h => by omega, fun ⟨j, hj, h⟩ => by have := HJ.out j hj; omega⟩
      have HR := hide R
      clear R
      go_wp2
      go_ret
      exact ⟨_, rfl, HR.out, hbel⟩
set_option maxRecDepth 100000 in
set_option maxHeartbeats 1000000 in
theorem containsBelow_any (a : Option Addr) (l : List (Int × Int)) (n cap : Nat) (w : World) (hn : l.length = n) (hs : Sl2 w a l) (hn2 : n ≤ 1048576) (bb : Bool) (hbb : bb = true ↔ ∃ k, k < n ∧ vl l k < 0) :
    Calls Try.prog 45 #[.slice a n cap, .func (.func 46) #[] #[]] w fun e w' => e = .returned (.bool bb) ∧ Below w.heap.size w w' := by
  have C1 := hide (indexBelow_any a l n cap w hn hs hn2)
  have HBB := hide hbb
  clear hn hs hbb
  go_enter Try.func45, Try.ntmps45
  go_wp2_with fail
  refine C1.out.mono ?_
  rintro e w1 ⟨j, rfl, hj, hb1⟩
  have B1 := hide hb1
  by_cases h0 : 0 ≤ j
  · obtain rfl : bb = true := HBB.out.2 (hj.1 h0)
    clear hj hb1
    go_wp2
    go_ret
    exact ⟨rfl, B1.out⟩
  · obtain rfl : bb = false := bool_no HBB.out (fun h => h0 (hj.2 h))
    clear hj hb1
    go_wp2
    go_ret
    exact ⟨by simp [h0], B1.out⟩
theorem not_ctr_good {l : List (Int × Int)} (h : ¬ GoodS l) : ¬ Ctr l := fun hc => h hc.1
set_option maxRecDepth 100000 in
set_option maxHeartbeats 1000000 in
theorem counterOk_any (a : Option Addr) (l : List (Int × Int)) (n cap : Nat) (w : World) (hn : l.length = n) (hs : Sl2 w a l) (hn2 : n ≤ 1048576) (bb : Bool) (hbb : bb = true ↔ Ctr l) :
    Calls Try.prog 30 #[.slice a n cap] w fun e w' => e = .returned (.bool bb) ∧ Below w.heap.size w w' := by
  obtain ⟨g, hg⟩ : ∃ g : Bool, g = true ↔ GoodS l := by classical exact ⟨decide (GoodS l), by simp⟩
  obtain ⟨c, hc⟩ : ∃ c : Bool, c = true ↔ ∃ k, k < n ∧ vl l k < 0 := by classical exact ⟨decide (∃ k, k < n ∧ vl l k < 0), by simp⟩
  have HS := hide hs
  have C1 := hide (goodSamples_any a l n cap w hn hs hn2 g hg)
  have C2 := hide (fun wx hs => containsBelow_any a l n cap wx hn hs hn2 c hc)
  cases hg2 : g with
  | false =>
    subst hg2
    obtain rfl : bb = false := bool_no hbb (not_ctr_good (fun h => by have := hg.2 h; cases this))
    clear hg hc hbb hs hn
    go_enter Try.func30, Try.ntmps30
    go_wp2_with fail
    refine C1.out.mono ?_
    rintro e w1 ⟨rfl, hb1⟩
    have B1 := hide hb1
    clear hb1
    go_wp2
    go_ret
    exact ⟨rfl, B1.out⟩
  | true =>
    subst hg2
    have hbc : bb = !c := by
      cases c with
      | true => exact bool_no hbb (fun h => by obtain ⟨k, h1, h2⟩ := hc.1 rfl; have := h.2 k (by rw [hn]; exact h1); omega)
      | false => exact hbb.2 ⟨hg.1 rfl, fun j hj => Int.not_lt.1 (fun h => by have := hc.2 ⟨j, by rw [← hn]; exact hj, h⟩; cases this)⟩
    subst hbc
    clear hg hc hbb hs hn
    go_enter Try.func30, Try.ntmps30
    go_wp2_with fail
    refine C1.out.mono ?_
    rintro e w1 ⟨rfl, hb1⟩
    have B1 := hide hb1
    clear hb1
    go_wp2_with fail
    refine (C2.out _ (HS.out.below B1.out)).mono ?_
    rintro e w2 ⟨rfl, hb2⟩
    have B2 := hide (B1.out.trans (hb2.mono B1.out.size))
    clear hb2
    cases c with
    | true =>
      go_wp2
      go_ret
      exact ⟨rfl, B2.out⟩
    | false =>
      go_wp2
      go_ret
      exact ⟨rfl, B2.out⟩
set_option maxRecDepth 100000 in
set_option maxHeartbeats 1000000 in
theorem sCounterOk_any (a : Option Addr) (l : List (Int × Int)) (n cap : Nat) (w : World) (hn : l.length = n) (hs : Sl2 w a l) (hn2 : n ≤ 1048576) (bb : Bool) (hbb : bb = true ↔ Ctr l) :
    Calls Try.prog 26 #[.slice a n cap] w fun e w' => e = .returned (.bool bb) ∧ Below w.heap.size w w' := by
  obtain ⟨g, hg⟩ : ∃ g : Bool, g = true ↔ GoodS l := by classical exact ⟨decide (GoodS l), by simp⟩
  have HS := hide hs
  have HN := hide hn
  have C1 := hide (fun wx hs => specGood_any a l n cap wx hn hs hn2 g hg)
  have HBB := hide hbb
  have HG := hide hg
  clear hs hn hbb hg
  go_enter Try.func26, Try.ntmps26
  go_wp2
  go_loopw [7] (fun i wr => ∃ k : Nat, k ≤ n ∧ i = .int .i64 k ∧ Hid (∀ j, j < k → 0 ≤ vl l j) ∧ Below w.heap.size w wr) (fun i _ => n - (intOf i).toNat)
  case atStart => exact ⟨0, Nat.zero_le _, rfl, fun j hj => absurd hj (Nat.not_lt_zero _), Below.refl _ _⟩
  case round =>
    obtain ⟨k, hk, rfl, HJ, hbel⟩ := hrel
    by_cases hlt : k < n
    · obtain ⟨b, off, rfl, hc0, hd0⟩ := sl2_at HS.out (k := k) (by rw [HN.out]; exact hlt)
      have hc := (hbel.cell (p := ⟨b, off + k * 2, none⟩) (blk_lt hc0)).trans hc0
      have hd := (hbel.cell (p := ⟨b, off + k * 2 + 1, none⟩) (blk_lt hd0)).trans hd0
      have hltI : (k : Int) < (n : Int) := by omega
      have B0 := hide (hbel.alloc hbel.size (.cells #[.int .i64 (at_ l k), .int .i64 (vl l k)] 42 (0, 0)))
      by_cases h0 : vl l k < 0
      · obtain rfl : bb = false := bool_no HBB.out (fun h => by have := h.2 k (by rw [HN.out]; exact hlt); omega)
        generalize at_ l k = x at hc B0
        generalize vl l k = y at hd h0 B0
        clear hc0 hd0 hbel
        go_wp2
        go_ret
        exact ⟨rfl, B0.out⟩
      · have HJ2 : Hid (∀ j, j < k + 1 → 0 ≤ vl l j) := fun j hj => by
          by_cases e : j = k
          · rw [e]; omega
          · exact HJ.out j (by omega)
        generalize at_ l k = x at hc B0
        generalize vl l k = y at hd h0 B0
        clear hc0 hd0 hbel
        go_wp2
        go_roundw
        case rel => exact ⟨k + 1, by omega, by go_num, HJ2, B0.out⟩
        case measure => simp [intOf]; omega
    · have hltI : ¬ (k : Int) < (n : Int) := by omega
      obtain rfl : k = n := by omega
      obtain rfl : bb = g := by
        cases hg3 : g with
        | true => exact HBB.out.2 ⟨HG.out.1 hg3, fun j hj => HJ.out j (by rw [← HN.out]; exact hj)⟩
        | false => exact bool_no HBB.out (not_ctr_good (fun h => by have := HG.out.2 h; rw [hg3] at this; cases this))
      have B0 := hide hbel
      clear hbel
      go_wp2_with fail
      refine (C1.out _ (HS.out.below B0.out)).mono ?_
      rintro e w1 ⟨rfl, hb1⟩
      have B1 := hide (B0.out.trans (hb1.mono B0.out.size))
      clear hb1
      go_wp2
      go_ret
      exact ⟨rfl, B1.out⟩
end Go.Proofs.Yticgejaaoamhmap.L16
