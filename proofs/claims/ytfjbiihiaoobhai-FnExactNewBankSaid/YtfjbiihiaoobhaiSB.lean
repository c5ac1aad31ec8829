/-
  Lists of lists of bools in memory.
-/
import Derived.Test.YtfjbiihiaoobhaiOwnG
import Derived.Test.YtfjbiihiaoobhaiL9Bool
namespace Go.Proofs.Ytfjbiihiaoobhai.Sli
open Go.RowKit L1 L9 Own
set_option linter.unusedVariables false

theorem own_baseB {w : World} {b c n size : Nat} {e : TypeId} {v : Value} {xs : List Value} (h : w.ownsRow c e size v n xs) (hbc : b ≤ c) : w.ownsRow b e size v n xs := by
  refine ⟨h.1, ?_⟩
  rcases h.2 with h0 | ⟨g, cap, cur, hv, hg, r⟩
  · exact .inl h0
  · exact .inr ⟨g, cap, cur, hv, Nat.le_trans hbc hg, r⟩
theorem own_slB {w : World} {base n cap : Nat} {a : Option Addr} {xs : List Bool} (h : w.ownsRow base 4 1 (.slice a n cap) n ((xs).map Value.bool)) : SlB w a xs := by
  obtain ⟨b, q, e, s, _⟩ := own_formB h
  cases e
  exact s
def TxB (l : List Bool) : Prop := l.length ≤ 9223372036854775807
/-- What a walk is told of a slice that came in. -/
def IsRowB (w : World) (a : Option Addr) (len : Nat) (l : List Bool) : Prop := (l.length = len ∧ len ≤ maxLen ∧ SlB w a l) ∧ TxB l
/-- A list of lists of bools lies in memory from an address on. -/
def SlSB (w : World) (a : Option Addr) (ls : List (List Bool)) : Prop := ∀ i, i < ls.length → ∃ b off, a = some ⟨b, off, none⟩ ∧ ∃ ai ci, w.cell? ⟨b, off + i, none⟩ = some (.slice ai (ls.getD i []).length ci) ∧ SlB w ai (ls.getD i [])
theorem SlSB.below {w w' : World} {a : Option Addr} {xs : List (List Bool)} (h : SlSB w a xs) (hb : Below w.heap.size w w') : SlSB w' a xs := fun i hi => by
  obtain ⟨b, off, ha, ai, ci, hc, hs⟩ := h i hi
  exact ⟨b, off, ha, ai, ci, (hb.cell (p := ⟨b, off + i, none⟩) (blk_lt hc)).trans hc, hs.below hb⟩
theorem add_atB (b off i : Nat) : (⟨b, off, none⟩ : Addr).add i = ⟨b, off + i, none⟩ := by unfold Addr.add; split <;> simp_all
/-- Texts and lists are no longer than a machine's. -/
def TxSB (ls : List (List Bool)) : Prop := ∀ i, i < ls.length → (ls.getD i []).length ≤ 9223372036854775807 ∧ TxB (ls.getD i [])
/-- What a walk is told of a slice of slices of bools that came in. -/
def IsRowSB (w : World) (a : Option Addr) (len : Nat) (ls : List (List Bool)) : Prop := (ls.length = len ∧ len ≤ maxLen ∧ SlSB w a ls) ∧ TxSB ls
open Classical in
theorem rowSB_of {w : World} {a : Addr} {len cap : Nat} (hl : len ≤ cap) (hm : cap ≤ maxLen) (h : ∀ i, i < len → ∃ (l : List Bool) (ai : Option Addr) (ci : Nat), w.cell? (a.add i) = some (.slice ai l.length ci) ∧ IsRowB w ai l.length l) : ∃ ls, IsRowSB w (some a) len ls := by
  obtain ⟨f, hf⟩ : ∃ f : Nat → List Bool, ∀ i, i < len → ∃ ai ci, w.cell? (a.add i) = some (.slice ai (f i).length ci) ∧ IsRowB w ai (f i).length (f i) := by
    refine ⟨fun i => if hi : i < len then Classical.choose (h i hi) else [], fun i hi => ?_⟩
    simp only [dif_pos hi]
    exact Classical.choose_spec (h i hi)
  have hg : ∀ i, i < len → ((List.range len).map f).getD i [] = f i := fun i hi => by simp [List.getD, hi]
  refine ⟨(List.range len).map f, ⟨by simp, Nat.le_trans hl hm, fun i hi => ?_⟩, fun i hi => ?_⟩
  · have hi' : i < len := by simpa using hi
    obtain ⟨b, off, spot⟩ := a
    have hspot : spot = none := by
      obtain ⟨_, _, h00, _⟩ := hf 0 (by omega)
      have := World.cell?_spot h00
      simpa [Addr.add] using this
    subst hspot
    obtain ⟨ai, ci, h1, h2⟩ := hf i hi'
    rw [add_atB] at h1
    rw [hg i hi']
    exact ⟨b, off, rfl, ai, ci, h1, h2.1.2.2⟩
  · have hi' : i < len := by simpa using hi
    obtain ⟨ai, ci, h1, h2⟩ := hf i hi'
    rw [hg i hi']
    have := h2.1.2.1
    unfold maxLen at this
    exact ⟨by omega, h2.2⟩
end Go.Proofs.Ytfjbiihiaoobhai.Sli
