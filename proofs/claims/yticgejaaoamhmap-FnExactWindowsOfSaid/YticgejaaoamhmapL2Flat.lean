/-
  Samples' cells, one behind the other; rows of samples that a call owns. Nothing of the program's text is proved here but closed facts on its types.
-/
import Derived.Test.YticgejaaoamhmapL2Smp
namespace Go.Proofs.Yticgejaaoamhmap.L1
open Go.RowKit
set_option linter.unusedVariables false

/-- The cells of samples, one behind the other. -/
def flat : List (Int × Int) → List Value
  | [] => []
  | p :: l => .int .i64 p.1 :: .int .i64 p.2 :: flat l
theorem flat_len : ∀ l : List (Int × Int), (flat l).length = l.length * 2
  | [] => rfl
  | p :: l => by simp [flat, flat_len l]; omega
theorem flat_get : ∀ (l : List (Int × Int)) (i : Nat), i < l.length → (flat l)[i * 2]? = some (.int .i64 (l.getD i (0, 0)).1) ∧ (flat l)[i * 2 + 1]? = some (.int .i64 (l.getD i (0, 0)).2)
  | [], i, h => by simp at h
  | p :: l, 0, _ => ⟨rfl, rfl⟩
  | p :: l, i + 1, h => by
    have := flat_get l i (by simpa using h)
    have e1 : (i + 1) * 2 = i * 2 + 1 + 1 := by omega
    rw [e1]
    simpa only [flat, List.getElem?_cons_succ, List.getD_cons_succ] using this
theorem flat_append (l m : List (Int × Int)) : flat (l ++ m) = flat l ++ flat m := by
  induction l with
  | nil => rfl
  | cons p l ih => simp [flat, ih]
theorem flat_set : ∀ (l : List (Int × Int)) (i : Nat) (p : Int × Int), flat (l.set i p) = ((flat l).set (i * 2) (.int .i64 p.1)).set (i * 2 + 1) (.int .i64 p.2)
  | [], _, _ => rfl
  | q :: l, 0, p => rfl
  | q :: l, i + 1, p => by
    have := flat_set l i p
    have e1 : (i + 1) * 2 = i * 2 + 1 + 1 := by omega
    rw [e1]
    simp only [List.set_cons_succ, flat, this]
theorem own_form2 {w : World} {base n : Nat} {v : Value} {l : List (Int × Int)} (h : w.ownsRow base 42 2 v n (flat l)) : ∃ a cap, v = .slice a n cap ∧ Sl2 w a l ∧ l.length = n := by
  have hl := h.1
  rw [flat_len] at hl
  have hl' : l.length = n := by omega
  rcases h.2 with ⟨hv, h0⟩ | ⟨g, cap, cur, hv, _⟩
  · subst h0
    exact ⟨none, 0, hv, fun i hi => by omega, hl'⟩
  · subst hv
    refine ⟨_, cap, rfl, fun i hi => ?_, hl'⟩
    have hf := flat_get l i hi
    have h1 := h.cells (g := g) rfl (i * 2) _ hf.1
    have h2 := h.cells (g := g) rfl (i * 2 + 1) _ hf.2
    rw [addr_add] at h1 h2
    exact ⟨g, 0, rfl, by simpa using h1, by simpa using h2⟩
theorem own_below2 {w w' : World} {base n : Nat} {v : Value} {ys : List Value} (h : w.ownsRow base 42 2 v n ys) (hb : Below w.heap.size w w') : w'.ownsRow base 42 2 v n ys := by
  refine ⟨h.1, ?_⟩
  rcases h.2 with h0 | ⟨g, cap, cur, rfl, hbg, hg, r⟩
  · exact .inl h0
  · exact .inr ⟨g, cap, cur, rfl, hbg, by rw [hb.block g (Array.getElem?_eq_some_iff.1 hg).1]; exact hg, r⟩
theorem info_smp : (Try.prog.info? 42).map (fun i => (i.zero, i.size, i.bytes)) = some (some (.agg #[.int .i64 0, .int .i64 0]), 2, 16) := by kernel_rfl
end Go.Proofs.Yticgejaaoamhmap.L1
