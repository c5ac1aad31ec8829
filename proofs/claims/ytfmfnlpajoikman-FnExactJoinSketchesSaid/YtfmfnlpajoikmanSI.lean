/-
  Lists of lists of ints in memory.
-/
import Derived.Test.YtfmfnlpajoikmanOwnG
namespace Go.Proofs.Ytfmfnlpajoikman.Sli
open Go.RowKit L1 Own
set_option linter.unusedVariables false

theorem own_baseI {w : World} {b c n size : Nat} {e : TypeId} {v : Value} {xs : List Value} (h : w.ownsRow c e size v n xs) (hbc : b ≤ c) : w.ownsRow b e size v n xs := by
  refine ⟨h.1, ?_⟩
  rcases h.2 with h0 | ⟨g, cap, cur, hv, hg, r⟩
  · exact .inl h0
  · exact .inr ⟨g, cap, cur, hv, Nat.le_trans hbc hg, r⟩
theorem own_slI {w : World} {base n cap : Nat} {a : Option Addr} {xs : List Int} (h : w.ownsRow base 3 1 (.slice a n cap) n ((xs).map (Value.int .i64))) : Sl w a xs := by
  obtain ⟨b, q, e, s, _⟩ := own_form h
  cases e
  exact s
def TxI (l : List Int) : Prop := l.length ≤ 9223372036854775807
/-- What a walk is told of a slice that came in. -/
def IsRowI (w : World) (a : Option Addr) (len : Nat) (l : List Int) : Prop := (l.length = len ∧ len ≤ maxLen ∧ Sl w a l) ∧ TxI l
/-- A list of lists of ints lies in memory from an address on. -/
def SlSI (w : World) (a : Option Addr) (ls : List (List Int)) : Prop := ∀ i, i < ls.length → ∃ b off, a = some ⟨b, off, none⟩ ∧ ∃ ai ci, w.cell? ⟨b, off + i, none⟩ = some (.slice ai (ls.getD i []).length ci) ∧ Sl w ai (ls.getD i [])
theorem SlSI.below {w w' : World} {a : Option Addr} {xs : List (List Int)} (h : SlSI w a xs) (hb : Below w.heap.size w w') : SlSI w' a xs := fun i hi => by
  obtain ⟨b, off, ha, ai, ci, hc, hs⟩ := h i hi
  exact ⟨b, off, ha, ai, ci, (hb.cell (p := ⟨b, off + i, none⟩) (blk_lt hc)).trans hc, hs.below hb⟩
theorem add_atI (b off i : Nat) : (⟨b, off, none⟩ : Addr).add i = ⟨b, off + i, none⟩ := by unfold Addr.add; split <;> simp_all
/-- Texts and lists are no longer than a machine's. -/
def TxSI (ls : List (List Int)) : Prop := ∀ i, i < ls.length → (ls.getD i []).length ≤ 9223372036854775807 ∧ TxI (ls.getD i [])
/-- What a walk is told of a slice of slices of ints that came in. -/
def IsRowSI (w : World) (a : Option Addr) (len : Nat) (ls : List (List Int)) : Prop := (ls.length = len ∧ len ≤ maxLen ∧ SlSI w a ls) ∧ TxSI ls
open Classical in
theorem rowSI_of {w : World} {a : Addr} {len cap : Nat} (hl : len ≤ cap) (hm : cap ≤ maxLen) (h : ∀ i, i < len → ∃ (l : List Int) (ai : Option Addr) (ci : Nat), w.cell? (a.add i) = some (.slice ai l.length ci) ∧ IsRowI w ai l.length l) : ∃ ls, IsRowSI w (some a) len ls := by
  obtain ⟨f, hf⟩ : ∃ f : Nat → List Int, ∀ i, i < len → ∃ ai ci, w.cell? (a.add i) = some (.slice ai (f i).length ci) ∧ IsRowI w ai (f i).length (f i) := by
    refine ⟨fun i => if hi : i < len then Classical.choose (h i hi) else [], fun i hi => ?_⟩
    simp only [dif_pos hi]
    exact Classical.choose_spec (h i hi)
  have hg : ∀ i, i < len → ((List.range len).map f).getD i [] = f i := fun i hi => by simp [List.getD, hi]
  refine ⟨(List.range len).map f, ⟨by simp, Nat.le_trans hl hm, fun i hi => ?_⟩, fun i hi => ?_⟩
  · have hi' : i < len := by simpa using hi
    obtain ⟨b, off, spot⟩ := a
    have hspot : spot = none := by
      obtain ⟨_, _, h00, _⟩ := hf 0 (by omega)
      have := World.cell?_spot h00
      simpa [Addr.add] using this
    subst hspot
    obtain ⟨ai, ci, h1, h2⟩ := hf i hi'
    rw [add_atI] at h1
    rw [hg i hi']
    exact ⟨b, off, rfl, ai, ci, h1, h2.1.2.2⟩
  · have hi' : i < len := by simpa using hi
    obtain ⟨ai, ci, h1, h2⟩ := hf i hi'
    rw [hg i hi']
    have := h2.1.2.1
    unfold maxLen at this
    exact ⟨by omega, h2.2⟩
end Go.Proofs.Ytfmfnlpajoikman.Sli
