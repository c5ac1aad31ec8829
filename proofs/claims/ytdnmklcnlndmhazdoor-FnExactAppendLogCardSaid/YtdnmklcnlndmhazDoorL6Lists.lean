/-
  Pieces that are owned, written over. Nothing of the program's text is proved here.
-/
import Derived.Test.YtdnmklcnlndmhazDoorL6Pc
namespace Go.Proofs.YtdnmklcnlndmhazDoor.L6
open Go.RowKit L1
set_option linter.unusedVariables false

theorem getD_set_self (M : List PV) (k : Nat) (p : PV) (h : k < M.length) : (M.set k p).getD k eV = p := by simp [List.getD, h]
theorem getD_set_ne (M : List PV) (k i : Nat) (p : PV) (h : i ≠ k) : (M.set k p).getD i eV = M.getD i eV := by simp [List.getD, Ne.symm h]
/-- Three cells of a row that is owned, written over. -/
theorem OwC.put {w : World} {base g n cap : Nat} {M : List PV} (h : OwC w base (.slice (some ⟨g, 0, none⟩) n cap) n M) (k : Nat) (hk : k < n) (p : Pc) (v : Value)
    (hv : w.ownsRow base 3 1 v p.x.length (p.x.map (Value.int .i64))) (hne : ∀ i, i < n → i ≠ k → ∀ b, v.ownBlock = some b → (M.getD i eV).2.ownBlock ≠ some b) :
    OwC (((w.setCell ⟨g, k * 3, none⟩ (.int .i64 p.f)).setCell ⟨g, k * 3 + 1, none⟩ (.string p.s)).setCell ⟨g, k * 3 + 2, none⟩ v) base (.slice (some ⟨g, 0, none⟩) n cap) n (M.set k (p, v)) ∧
    w.grownBy (((w.setCell ⟨g, k * 3, none⟩ (.int .i64 p.f)).setCell ⟨g, k * 3 + 1, none⟩ (.string p.s)).setCell ⟨g, k * 3 + 2, none⟩ v) (some g) := by
  have h1 := h.row.stored (k * 3) (.int .i64 p.f)
  have h2 := h1.1.stored (k * 3 + 1) (.string p.s)
  have h3 := h2.1.stored (k * 3 + 2) v
  have hg := (h1.2.trans h2.2).trans h3.2
  have hl := h.len
  have keep : ∀ {c m : Nat} {u : Value} {ys : List Value}, w.ownsRow base 3 c u m ys → (((w.setCell ⟨g, k * 3, none⟩ (.int .i64 p.f)).setCell ⟨g, k * 3 + 1, none⟩ (.string p.s)).setCell ⟨g, k * 3 + 2, none⟩ v).ownsRow base 3 c u m ys := fun hu =>
    own_keptC hu hg (fun b hb e => by
      simp at e
      subst e
      exact own_two h.row hu int_piece g rfl hb)
  refine ⟨⟨by simpa using hl, by rw [flatC_set]; exact h3.1, fun i hi => ?_, fun i j hij hj => ?_⟩, hg⟩
  · by_cases e : i = k
    · subst e
      rw [getD_set_self M i _ (by omega)]
      exact keep hv
    · rw [getD_set_ne M k i _ e]
      exact keep (h.idx i hi)
  · intro b
    by_cases e : i = k
    · have e2 : j ≠ k := by omega
      subst e
      rw [getD_set_self M i _ (by omega), getD_set_ne M i j _ e2]
      exact hne j hj e2 b
    · by_cases e2 : j = k
      · subst e2
        rw [getD_set_self M j _ (by omega), getD_set_ne M j i _ e]
        intro h1 h2
        exact hne i (by omega) e b h2 h1
      · rw [getD_set_ne M k i _ e, getD_set_ne M k j _ e2]
        exact h.apart i j hij hj b
/-- Blocks of what is owned are there. -/
theorem own_ltC {w : World} {base n c : Nat} {t : TypeId} {v : Value} {ys : List Value} (h : w.ownsRow base t c v n ys) (b : Nat) (hb : v.ownBlock = some b) : base ≤ b ∧ b < w.heap.size := by
  rcases h.2 with ⟨rfl, _⟩ | ⟨g, cap, cur, rfl, hbg, hg, _⟩
  · simp [Value.ownBlock] at hb
  · simp [Value.ownBlock] at hb
    subst hb
    exact ⟨hbg, (Array.getElem?_eq_some_iff.1 hg).1⟩

end Go.Proofs.YtdnmklcnlndmhazDoor.L6
