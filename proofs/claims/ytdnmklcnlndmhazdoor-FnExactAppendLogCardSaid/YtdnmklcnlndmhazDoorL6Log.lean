/-
  What the functions over a log answer.
-/
import Derived.Test.YtdnmklcnlndmhazDoorL6Good
namespace Go.Proofs.YtdnmklcnlndmhazDoor.L6
open Go.RowKit L1
set_option linter.unusedVariables false

/-- The end, as the last piece tells it. -/
def lastEnd (L : List Pc) (n : Nat) : Int := (gc L (n - 1)).f + (cnt (gc L (n - 1)).s : Int)
theorem GoodG.last {L : List Pc} {B : Int} {n : Nat} (h : GoodG L B) (hn : L.length = n) : lastEnd L n = endg L := by
  rw [← hn]
  exact (end_last h.one h.ps).symm
open Classical in
/-- What EndOf answers. -/
noncomputable def endRes (L : List Pc) (B : Int) : Option Int := if GoodG L B then some (endg L) else none
/-- The last piece that begins at an offset or ahead of it; the first one, where none does. -/
def pcAt (L : List Pc) (o : Int) : Nat → Nat
  | 0 => 0
  | k + 1 => if o < (gc L (k + 1)).f then pcAt L o k else k + 1
theorem pcAt_le (L : List Pc) (o : Int) : ∀ k, pcAt L o k ≤ k
  | 0 => Nat.le_refl _
  | k + 1 => by
    unfold pcAt
    have := pcAt_le L o k
    split <;> omega
theorem pcAt_at (L : List Pc) (o : Int) : ∀ k, pcAt L o k = 0 ∨ (gc L (pcAt L o k)).f ≤ o
  | 0 => .inl rfl
  | k + 1 => by
    unfold pcAt
    split
    · exact pcAt_at L o k
    · rename_i h
      exact .inr (by omega)
theorem pcAt_next (L : List Pc) (o : Int) : ∀ k j, pcAt L o k < j → j ≤ k → o < (gc L j).f
  | 0, j, h1, h2 => by
    have : pcAt L o 0 = 0 := rfl
    omega
  | k + 1, j, h1, h2 => by
    unfold pcAt at h1
    split at h1
    · rename_i h
      by_cases e : j = k + 1
      · subst e; exact h
      · exact pcAt_next L o k j h1 (by omega)
    · omega
/-- The text that is told at an offset. -/
def rdAt (L : List Pc) (o : Int) : ByteArray := rtx (gc L (pcAt L o (L.length - 1))).s (pl (gc L (pcAt L o (L.length - 1))).s 0 (o - (gc L (pcAt L o (L.length - 1))).f).toNat)
open Classical in
noncomputable def readRes (L : List Pc) (B o : Int) : Option ByteArray := if GoodG L B ∧ B ≤ o ∧ o < endg L then some (rdAt L o) else none
/-- Where an offset lies. -/
theorem GoodG.spot {L : List Pc} {B o : Int} (h : GoodG L B) (h1 : B ≤ o) (h2 : o < endg L) : pcAt L o (L.length - 1) < L.length ∧ (gc L (pcAt L o (L.length - 1))).f = atg L (pcAt L o (L.length - 1)) ∧ atg L (pcAt L o (L.length - 1)) ≤ o ∧ o < atg L (pcAt L o (L.length - 1) + 1) := by
  have ho := h.one
  have hle := pcAt_le L o (L.length - 1)
  have hat := pcAt_at L o (L.length - 1)
  have hnx := pcAt_next L o (L.length - 1)
  obtain ⟨i, hi⟩ : ∃ i, i = pcAt L o (L.length - 1) := ⟨_, rfl⟩
  rw [← hi] at hle hat hnx ⊢
  have hil : i < L.length := by omega
  have hf := (h.ps i hil).2.1
  refine ⟨hil, hf, ?_, ?_⟩
  · rcases hat with e | e
    · subst e
      have := h.b0
      show (gc L 0).f ≤ o
      omega
    · omega
  · by_cases e : i + 1 < L.length
    · have h3 := hnx (i + 1) (by omega) (by omega)
      rw [(h.ps (i + 1) e).2.1] at h3
      exact h3
    · have e2 : i + 1 = L.length := by omega
      rw [e2]
      exact h2
/-- What is told at an offset is among all records. -/
theorem GoodG.read {L : List Pc} {B o : Int} (h : GoodG L B) (h1 : B ≤ o) (h2 : o < endg L) : (allG L B).getD (o - B).toNat ByteArray.empty = rdAt L o := by
  obtain ⟨a, b, c, d⟩ := h.spot h1 h2
  exact alk_get h h1 _ a c d L.length a (Nat.le_refl _)
end Go.Proofs.YtdnmklcnlndmhazDoor.L6
