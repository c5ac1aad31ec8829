/-
  The walk of the law FnExactGetVarint: it returns true at every text and place, where the table of worths lies in memory; memory that was there stays as it was.
-/
import Derived.Test.YtlhmailmgpocbasDoorL1SpecGet
namespace Go.Proofs.YtlhmailmgpocbasDoor.fnExactGetVarint
open Go.RowKit L1
set_option linter.unusedVariables false

set_option maxHeartbeats 400000 in
theorem specGet_out (s : ByteArray) (a : Int) (w : World) (h : a < 0 ∨ (s.size : Int) ≤ a) :
    Calls Tryd.prog 8 #[.string s, .int .i64 a] w fun e w' => e = .returned (.tuple #[.int .i64 0, .int .i64 0, .bool false]) ∧ w = w' := by
  by_cases h0 : a < 0
  · clear h
    go_enter Tryd.func8, Tryd.ntmps8
    go_wp2
    go_ret3
    exact ⟨rfl, rfl⟩
  · have h1 : (s.size : Int) ≤ a := by omega
    clear h
    go_enter Tryd.func8, Tryd.ntmps8
    go_wp2
    go_ret3
    exact ⟨rfl, rfl⟩
set_option maxHeartbeats 400000 in
theorem specGet_any (s : ByteArray) (a : Nat) (w : World) (ha : a < s.size) (hs : s.size ≤ 1048576) :
    Calls Tryd.prog 8 #[.string s, .int .i64 a] w fun e w' => e = .returned (gvRes a (gv (bts s a))) ∧ Below w.heap.size w w' := by
  have e1 : ¬ s.size ≤ a := by omega
  have e2 : ¬ (a : Int) < 0 := by omega
  have hg := l1Get_any s a w ha hs
  cases hgv : gv (bts s a) with
  | none =>
    rw [hgv] at hg
    simp only [lgRes] at hg
    have HG := hide hg
    clear hg hgv
    go_enter Tryd.func8, Tryd.ntmps8
    go_wp2_with (go_at_call 22; refine (unhide HG).mono ?_; rintro e w1 ⟨rfl, hb⟩)
    go_ret3
    exact ⟨rfl, by assumption⟩
  | some l =>
    rw [hgv] at hg
    simp only [lgRes] at hg
    obtain ⟨m, hm⟩ : ∃ m, m = a + l.length := ⟨_, rfl⟩
    simp only [gvRes]
    rw [← hm] at hg ⊢
    have HG := hide hg
    clear hg hgv hm
    have hm0 : ¬ (m : Int) < 0 := by omega
    go_enter Tryd.func8, Tryd.ntmps8
    go_wp2_with (go_at_call 22; refine (unhide HG).mono ?_; rintro e w1 ⟨rfl, hb⟩)
    go_ret3
    exact ⟨rfl, by assumption⟩

set_option maxHeartbeats 400000 in
theorem walk (a0 : ByteArray) (a1 : Int) (w : World) (w0 : a0.size ≤ maxLen) (w1 : (Lit.int .i64 a1).wf = true) (ht : Tab w) :
    Calls Tryd.prog 3 #[.string a0, .int .i64 a1] w fun e w' => e = .returned (.bool true) ∧ Below w.heap.size w w' := by
  have HT := hide ht
  clear ht w1
  unfold maxLen at w0
  by_cases hsz : 1048576 < (a0.size : Int)
  · go_enter Tryd.func3, Tryd.ntmps3
    go_wp2
    go_ret
    exact ⟨rfl, Below.refl _ _⟩
  · by_cases h : a1 < 0 ∨ (a0.size : Int) ≤ a1
    · go_enter Tryd.func3, Tryd.ntmps3
      go_wp2_with fail
      refine (specGet_out _ _ _ h).mono ?_
      rintro e w1 ⟨rfl, rfl⟩
      go_wp2_with fail
      refine (getVarint_out _ _ _ h).mono ?_
      rintro e w2 ⟨rfl, rfl⟩
      go_wp2
      go_ret
      exact ⟨rfl, Below.refl _ _⟩
    · obtain ⟨a, rfl⟩ : ∃ a : Nat, a1 = (a : Int) := ⟨a1.toNat, by omega⟩
      have ha : a < a0.size := by omega
      have hs : a0.size ≤ 1048576 := by omega
      clear h
      have c1 := specGet_any a0 a w ha hs
      have c2 := fun w ht => getVarint_any a0 a w ha (by unfold maxLen; omega) ht
      obtain ⟨x, y, z, hx⟩ : ∃ x y z, gvRes a (gv (bts a0 a)) = .tuple #[.int .i64 x, .int .i64 y, .bool z] := by
        cases gv (bts a0 a) with
        | none => exact ⟨_, _, _, rfl⟩
        | some l => exact ⟨_, _, _, rfl⟩
      rw [hx] at c1
      simp only [hx] at c2
      have C1 := hide c1
      have C2 := hide c2
      clear c1 c2 hx
      go_enter Tryd.func3, Tryd.ntmps3
      go_wp2_with fail
      refine (unhide C1).mono ?_
      rintro e w1 ⟨rfl, hb1⟩
      go_wp2_with fail
      refine (unhide C2 _ (HT.out.below hb1)).mono ?_
      rintro e w2 ⟨rfl, rfl⟩
      go_wp2
      go_ret
      exact ⟨rfl, hb1⟩
end Go.Proofs.YtlhmailmgpocbasDoor.fnExactGetVarint
