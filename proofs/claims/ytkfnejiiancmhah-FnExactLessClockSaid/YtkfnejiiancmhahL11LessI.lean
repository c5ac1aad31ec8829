/-
  Contract: impl.LessClock.
-/
import Derived.Test.YtkfnejiiancmhahL11Less
import Derived.Test.YtkfnejiiancmhahL11Reads
namespace Go.Proofs.Ytkfnejiiancmhah.L11
open Go.RowKit L1 Own
set_option linter.unusedVariables false

/-- One clock is less than another. -/
def LsC (l m : List Int) : Prop := (∀ i, i < 5 → fnL l i ≤ fnL m i) ∧ ¬ ∀ i, i < 5 → fnL l i = fnL m i
/-- Two lists that may be clocks of the same nodes. -/
def TwoC (l m : List Int) : Prop := (OkC l ∧ OkC m) ∧ l.length = m.length
set_option maxRecDepth 100000 in
set_option maxHeartbeats 4000000 in
theorem lessClock_any (a b : Option Addr) (l m : List Int) (n k ca cb : Nat) (w : World) (hn : l.length = n) (hk : m.length = k) (ha : Sl w a l) (hb : Sl w b m) (hn2 : n ≤ 1048576) (hk2 : k ≤ 1048576)
    (c r : Bool) (hc : c = true ↔ TwoC l m) (hr : r = true ↔ TwoC l m ∧ LsC l m) :
    Calls Try.prog 24 #[.slice a n ca, .slice b k cb] w fun e w' => e = .returned (.tuple #[.bool r, .bool c]) ∧ Below w.heap.size w w' := by
  have hc2 : c = true ↔ (OkC l ∧ OkC m) ∧ n = k := by rw [hc, ← hn, ← hk]; rfl
  cases c with
  | true =>
    have h0 := hc.1 rfl
    have C := hide (fun w ha hb => readClocks_any a b l m n k ca cb w hn hk ha hb hn2 hk2 true (by simp [h0.1.1]) (fnL l) rfl true (by simp [h0.1.2]) (fnL m) rfl true hc2)
    have CL := hide (fun w => isLess_any (fnL l) (fnL m) w r (hr.trans ⟨fun h => h.2, fun h => ⟨h0, h⟩⟩))
    have HA := hide ha
    have HB := hide hb
    clear hn hk ha hb hc hr hc2 h0
    go_enter Try.func24, Try.ntmps24
    go_wp2_with fail
    refine (C.out _ HA.out HB.out).mono ?_
    rintro e w1 ⟨rfl, hb1⟩
    have B1 := hide hb1
    clear hb1
    go_wp2_with fail
    refine (CL.out _).mono ?_
    rintro e w2 ⟨rfl, hb2⟩
    have B2 := hide hb2
    clear hb2
    go_wp2
    go_ret2
    have b3 := (B1.out.alloc B1.out.size (.cells #[.int .i64 (fnL l 0), .int .i64 (fnL l 1), .int .i64 (fnL l 2), .int .i64 (fnL l 3), .int .i64 (fnL l 4)] 59)).alloc (by simp; have := B1.out.size; omega) (.cells #[.int .i64 (fnL m 0), .int .i64 (fnL m 1), .int .i64 (fnL m 2), .int .i64 (fnL m 3), .int .i64 (fnL m 4)] 59)
    exact ⟨rfl, b3.trans (B2.out.mono (b3.size))⟩
  | false =>
    obtain rfl : r = false := by cases r with
      | false => rfl
      | true => exact absurd (hc.2 (hr.1 rfl).1) (by simp)
    obtain ⟨ba, hba⟩ : ∃ ba : Bool, ba = true ↔ OkC l := by
      by_cases h : OkC l
      · exact ⟨true, by simp [h]⟩
      · exact ⟨false, by simp [h]⟩
    obtain ⟨bb, hbb⟩ : ∃ bb : Bool, bb = true ↔ OkC m := by
      by_cases h : OkC m
      · exact ⟨true, by simp [h]⟩
      · exact ⟨false, by simp [h]⟩
    obtain ⟨X, hX⟩ : ∃ X : Nat → Int, X = if ba then fnL l else fun _ => 0 := ⟨_, rfl⟩
    obtain ⟨Y, hY⟩ : ∃ Y : Nat → Int, Y = if bb then fnL m else fun _ => 0 := ⟨_, rfl⟩
    have C := hide (fun w ha hb => readClocks_any a b l m n k ca cb w hn hk ha hb hn2 hk2 ba hba X hX bb hbb Y hY false hc2)
    have HA := hide ha
    have HB := hide hb
    clear hn hk ha hb hc hr hc2 hba hbb hX hY
    go_enter Try.func24, Try.ntmps24
    go_wp2_with fail
    refine (C.out _ HA.out HB.out).mono ?_
    rintro e w1 ⟨rfl, hb1⟩
    have B1 := hide hb1
    clear hb1
    go_wp2
    go_ret2
    exact ⟨rfl, (B1.out.alloc B1.out.size _).alloc (by simp; have := B1.out.size; omega) _⟩
end Go.Proofs.Ytkfnejiiancmhah.L11
