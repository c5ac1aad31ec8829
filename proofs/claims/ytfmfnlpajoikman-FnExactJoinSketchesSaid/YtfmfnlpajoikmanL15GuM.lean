/-
  The least of what a sketch's rows have of a name. Nothing of the program's text is proved here.
-/
import Derived.Test.YtfmfnlpajoikmanL15Good
import Derived.Test.YtfmfnlpajoikmanL15Place
namespace Go.Proofs.Ytfmfnlpajoikman.L15
open Go.RowKit L1 Own Sli
set_option linter.unusedVariables false

/-- What a row has of a name. -/
def rv (L : List (List Int)) (s : ByteArray) (k : Nat) : Int := (gi L k).getD (plc (k : Int) s).toNat 0
/-- The lesser one. -/
def lo (a b : Int) : Int := if a < b then a else b
theorem lo_lt {a b : Int} (h : a < b) : lo a b = a := by unfold lo; rw [if_pos h]
theorem lo_ge {a b : Int} (h : ¬ a < b) : lo a b = b := by unfold lo; rw [if_neg h]
/-- The least of a number and what the first rows have of a name. -/
def gmin (L : List (List Int)) (s : ByteArray) (x : Int) : Nat → Int
  | 0 => x
  | k + 1 => lo (rv L s k) (gmin L s x k)
theorem sm_ge {l : List Int} : ∀ k, (∀ j, j < k → 0 ≤ l.getD j 0) → ∀ i, i < k → l.getD i 0 ≤ sm l k
  | 0, _, i, hi => absurd hi (Nat.not_lt_zero _)
  | k + 1, h, i, hi => by
    have h0 : ∀ k, (∀ j, j < k → 0 ≤ l.getD j 0) → 0 ≤ sm l k := fun k => by
      induction k with
      | zero => intro _; simp [sm]
      | succ k ih => intro h; have h1 := ih (fun j hj => h j (by omega)); have h2 := h k (by omega); simp only [sm]; omega
    simp only [sm]
    by_cases e : i = k
    · subst e
      have := h0 i (fun j hj => h j (by omega))
      omega
    · have h1 := sm_ge k (fun j hj => h j (by omega)) i (by omega)
      have h2 := h k (by omega)
      omega
theorem GoodS.rvb {L : List (List Int)} {T : Int} (g : GoodS L T) (s : ByteArray) (k : Nat) (hk : k < L.length) : 0 ≤ rv L s k ∧ rv L s k ≤ 100000 ∧ rv L s k ≤ T := by
  obtain ⟨⟨hl, hr⟩, hT⟩ := g.2 k hk
  have h3 := g.1.2
  have hp := plc_bd (r := (k : Int)) (by omega) s
  have h1 := hr (plc (k : Int) s).toNat (by omega)
  have h2 := sm_ge (l := gi L k) 11 (fun j hj => (hr j hj).1) (plc (k : Int) s).toNat (by omega)
  unfold rv
  omega
theorem gmin_same {L : List (List Int)} {T : Int} (g : GoodS L T) (s : ByteArray) : ∀ k, 0 < k → gmin L s T k = gmin L s (rv L s 0) k
  | 0, h => absurd h (Nat.lt_irrefl _)
  | 1, _ => by
    have h1 := (g.rvb s 0 (by have := g.1.1; omega)).2.2
    show lo (rv L s 0) T = lo (rv L s 0) (rv L s 0)
    rw [lo_ge (Int.lt_irrefl _)]
    by_cases e : rv L s 0 < T
    · rw [lo_lt e]
    · rw [lo_ge e]; omega
  | k + 2, _ => by
    have ih := gmin_same g s (k + 1) (by omega)
    show lo (rv L s (k + 1)) (gmin L s T (k + 1)) = lo (rv L s (k + 1)) (gmin L s (rv L s 0) (k + 1))
    rw [ih]
theorem GoodS.at {L : List (List Int)} {T : Int} (g : GoodS L T) (k : Nat) (hk : k < L.length) : (gi L k).length = 11 := (g.2 k hk).1.1
/-- Where a row has it. -/
theorem GoodS.cell {L : List (List Int)} {T : Int} (g : GoodS L T) (s : ByteArray) {w : World} {a : Option Addr} (k : Nat) (hk : k < L.length) (hs : Sl w a (gi L k)) : ∃ b off, a = some ⟨b, off, none⟩ ∧ w.cell? ⟨b, off + (plc (k : Int) s).toNat, none⟩ = some (.int .i64 (rv L s k)) := by
  have h3 := g.1.2
  have hp := plc_bd (r := (k : Int)) (by omega) s
  exact hs (plc (k : Int) s).toNat (by rw [g.at k hk]; omega)
end Go.Proofs.Ytfmfnlpajoikman.L15
