/-
  Lists of lists of texts in memory.
-/
import Derived.Test.YthmekhhfihjclagStr
namespace Go.Proofs.Ythmekhhfihjclag.Str
open Go.RowKit L1
set_option linter.unusedVariables false

/-- A list of lists of texts lies in memory from an address on. -/
def SlSS (w : World) (a : Option Addr) (ls : List (List ByteArray)) : Prop := ∀ i, i < ls.length → ∃ b off, a = some ⟨b, off, none⟩ ∧ ∃ ai ci, w.cell? ⟨b, off + i, none⟩ = some (.slice ai (ls.getD i []).length ci) ∧ SlS w ai (ls.getD i [])
theorem SlSS.below {w w' : World} {a : Option Addr} {xs : List (List ByteArray)} (h : SlSS w a xs) (hb : Below w.heap.size w w') : SlSS w' a xs := fun i hi => by
  obtain ⟨b, off, ha, ai, ci, hc, hs⟩ := h i hi
  exact ⟨b, off, ha, ai, ci, (hb.cell (p := ⟨b, off + i, none⟩) (blk_lt hc)).trans hc, hs.below hb⟩
theorem add_atS (b off i : Nat) : (⟨b, off, none⟩ : Addr).add i = ⟨b, off + i, none⟩ := by unfold Addr.add; split <;> simp_all
/-- Texts and lists are no longer than a machine's. -/
def TxSS (ls : List (List ByteArray)) : Prop := ∀ i, i < ls.length → (ls.getD i []).length ≤ 9223372036854775807 ∧ TxS (ls.getD i [])
/-- What a walk is told of a slice of slices of texts that came in. -/
def IsRowSS (w : World) (a : Option Addr) (len : Nat) (ls : List (List ByteArray)) : Prop := (ls.length = len ∧ len ≤ maxLen ∧ SlSS w a ls) ∧ TxSS ls
open Classical in
theorem rowSS_of {w : World} {a : Addr} {len cap : Nat} (hl : len ≤ cap) (hm : cap ≤ maxLen) (h : ∀ i, i < len → ∃ (l : List ByteArray) (ai : Option Addr) (ci : Nat), w.cell? (a.add i) = some (.slice ai l.length ci) ∧ IsRowS w ai l.length l) : ∃ ls, IsRowSS w (some a) len ls := by
  obtain ⟨f, hf⟩ : ∃ f : Nat → List ByteArray, ∀ i, i < len → ∃ ai ci, w.cell? (a.add i) = some (.slice ai (f i).length ci) ∧ IsRowS w ai (f i).length (f i) := by
    refine ⟨fun i => if hi : i < len then Classical.choose (h i hi) else [], fun i hi => ?_⟩
    simp only [dif_pos hi]
    exact Classical.choose_spec (h i hi)
  have hg : ∀ i, i < len → ((List.range len).map f).getD i [] = f i := fun i hi => by simp [List.getD, hi]
  refine ⟨(List.range len).map f, ⟨by simp, Nat.le_trans hl hm, fun i hi => ?_⟩, fun i hi => ?_⟩
  · have hi' : i < len := by simpa using hi
    obtain ⟨b, off, spot⟩ := a
    have hspot : spot = none := by
      obtain ⟨_, _, h00, _⟩ := hf 0 (by omega)
      have := World.cell?_spot h00
      simpa [Addr.add] using this
    subst hspot
    obtain ⟨ai, ci, h1, h2⟩ := hf i hi'
    rw [add_atS] at h1
    rw [hg i hi']
    exact ⟨b, off, rfl, ai, ci, h1, h2.1.2.2⟩
  · have hi' : i < len := by simpa using hi
    obtain ⟨ai, ci, h1, h2⟩ := hf i hi'
    rw [hg i hi']
    have := h2.1.2.1
    unfold maxLen at this
    exact ⟨by omega, h2.2⟩
end Go.Proofs.Ythmekhhfihjclag.Str
