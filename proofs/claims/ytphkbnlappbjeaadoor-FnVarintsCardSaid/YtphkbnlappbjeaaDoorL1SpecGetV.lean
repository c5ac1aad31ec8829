/-
  Contract: spec.GetVarint: of a text and a place the number whose digits stand there, and the place behind, and true; else zero values.
-/
import Derived.Test.YtphkbnlappbjeaaDoorL1SpecGet
namespace Go.Proofs.YtphkbnlappbjeaaDoor.L1
open Go.RowKit
set_option linter.unusedVariables false

set_option maxRecDepth 100000 in
set_option maxHeartbeats 400000 in
theorem specGet_out (s : ByteArray) (a : Int) (w : World) (h : a < 0 ∨ (s.size : Int) ≤ a) :
    Calls Tryd.prog 17 #[.string s, .int .i64 a] w fun e w' => e = .returned (.tuple #[.int .i64 0, .int .i64 0, .bool false]) ∧ w = w' := by
  by_cases h0 : a < 0
  · clear h
    go_enter Tryd.func17, Tryd.ntmps17
    go_wp2
    go_ret3
    exact ⟨rfl, rfl⟩
  · have h1 : (s.size : Int) ≤ a := by omega
    clear h
    go_enter Tryd.func17, Tryd.ntmps17
    go_wp2
    go_ret3
    exact ⟨rfl, rfl⟩
set_option maxRecDepth 100000 in
set_option maxHeartbeats 400000 in
theorem specGet_any (s : ByteArray) (a : Nat) (w : World) (ha : a < s.size) (hs : s.size ≤ 1048576) :
    Calls Tryd.prog 17 #[.string s, .int .i64 a] w fun e w' => e = .returned (gvRes a (gv (bts s a))) ∧ Below w.heap.size w w' := by
  have e1 : ¬ s.size ≤ a := by omega
  have e2 : ¬ (a : Int) < 0 := by omega
  have hg := l1Get_any s a w ha hs
  cases hgv : gv (bts s a) with
  | none =>
    rw [hgv] at hg
    simp only [lgRes] at hg
    have HG := hide hg
    clear hg hgv
    go_enter Tryd.func17, Tryd.ntmps17
    go_wp2_with (go_at_call 66; refine (unhide HG).mono ?_; rintro e w1 ⟨rfl, hb⟩)
    go_ret3
    exact ⟨rfl, by assumption⟩
  | some l =>
    rw [hgv] at hg
    simp only [lgRes] at hg
    obtain ⟨m, hm⟩ : ∃ m, m = a + l.length := ⟨_, rfl⟩
    simp only [gvRes]
    rw [← hm] at hg ⊢
    have HG := hide hg
    clear hg hgv hm
    have hm0 : ¬ (m : Int) < 0 := by omega
    go_enter Tryd.func17, Tryd.ntmps17
    go_wp2_with (go_at_call 66; refine (unhide HG).mono ?_; rintro e w1 ⟨rfl, hb⟩)
    go_ret3
    exact ⟨rfl, by assumption⟩
end Go.Proofs.YtphkbnlappbjeaaDoor.L1
