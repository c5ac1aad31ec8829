/-
  Arrays of ints in a block of their own. Nothing of the program's text is proved here.
-/
import Derived.Test.YtkfnejiiancmhahL1Sl
namespace Go.Proofs.Ytkfnejiiancmhah.Own
open Go.RowKit L1
set_option linter.unusedVariables false

/-- A function with another value at one place. -/
def updI (E : Nat → Int) (i : Nat) (v : Int) : Nat → Int := fun k => if k = i then v else E k
theorem updI_self (E : Nat → Int) (i : Nat) (v : Int) : updI E i v i = v := by simp [updI]
theorem updI_ne (E : Nat → Int) (i : Nat) (v : Int) (k : Nat) (h : k ≠ i) : updI E i v k = E k := by simp [updI, h]
/-- The cells of an array. -/
def lA (n : Nat) (E : Nat → Int) : List Value := (List.range n).map fun i => .int .i64 (E i)
/-- An array lies in a block. -/
abbrev Arr (t : TypeId) (n : Nat) (w : World) (base g : Nat) (E : Nat → Int) : Prop := w.ownsRow base t 1 (.slice (some ⟨g, 0, none⟩) n n) n (lA n E)
theorem lA_get (n : Nat) (E : Nat → Int) (i : Nat) (h : i < n) : (lA n E)[i]? = some (.int .i64 (E i)) := by
  simp [lA, h]
theorem lA_upd (n : Nat) (E : Nat → Int) (i : Nat) (v : Int) : (lA n E).set i (.int .i64 v) = lA n (updI E i v) := by
  apply List.ext_getElem?
  intro j
  by_cases hj : j < n
  · rw [lA_get _ _ j hj]
    by_cases e : i = j
    · subst e
      rw [List.getElem?_set_self (by simp [lA, hj]), updI_self]
    · rw [List.getElem?_set_ne e, lA_get _ _ j hj, updI_ne _ _ _ _ (Ne.symm e)]
  · rw [List.getElem?_eq_none (by simp [lA]; omega), List.getElem?_eq_none (by simp [lA]; omega)]
theorem lA_congr (n : Nat) (E F : Nat → Int) (h : ∀ i, i < n → E i = F i) : lA n E = lA n F := by
  apply List.ext_getElem?
  intro j
  by_cases hj : j < n
  · rw [lA_get _ _ j hj, lA_get _ _ j hj, h j hj]
  · rw [List.getElem?_eq_none (by simp [lA]; omega), List.getElem?_eq_none (by simp [lA]; omega)]
section
variable {t : TypeId} {n : Nat} {w w' : World} {base g : Nat} {E : Nat → Int}
theorem arr_new (t : TypeId) (n : Nat) (w : World) (g base : Nat) (hg : w.heap.size = g) (hb : base ≤ g) (hn : n ≤ 1048576) (E : Nat → Int) (cs : Array Value) (hcs : cs.toList = lA n E) : Arr t n (w.alloc (.cells cs t)) base g E := by
  subst hg
  have hl : cs.size = n := by
    have : cs.toList.length = n := by rw [hcs]; simp [lA]
    simpa using this
  exact ⟨by simp [lA], .inr ⟨w.heap.size, n, cs, rfl, hb, by show (w.heap.push _)[w.heap.size]? = _; exact Array.getElem?_push_size, Nat.le_refl _, by unfold maxLen; omega, by rw [hl]; omega, by rw [hcs]; exact List.take_of_length_le (by simp [lA])⟩⟩
theorem Arr.cell (h : Arr t n w base g E) (i : Nat) (hi : i < n) : w.cell? ⟨g, i, none⟩ = some (.int .i64 (E i)) := (h.cellAt i (by omega)).trans (lA_get n E i hi)
theorem Arr.set (h : Arr t n w base g E) (i : Nat) (v : Int) : Arr t n (w.setCell ⟨g, i, none⟩ (.int .i64 v)) base g (updI E i v) := by
  have := (h.stored i (.int .i64 v)).1
  rw [lA_upd] at this
  exact this
theorem Arr.keep {g' : Nat} (h : Arr t n w base g E) (i : Nat) (u : Value) (hne : g ≠ g') : Arr t n (w.setCell ⟨g', i, none⟩ u) base g E := by
  refine ⟨h.1, ?_⟩
  rcases h.2 with ⟨h0, _⟩ | ⟨q, cap, cur, hv, hb, hh, rest⟩
  · cases h0
  · cases hv
    exact .inr ⟨g, n, cur, rfl, hb, by rw [Below.heap_setCell w ⟨g', i, none⟩ u g hne]; exact hh, rest⟩
theorem Arr.drew (h : Arr t n w base g E) : Arr t n w.drew base g E := h
theorem Arr.lt (h : Arr t n w base g E) : g < w.heap.size := (World.ownsRow.lt h g rfl).2
theorem Arr.congr {F : Nat → Int} (h : Arr t n w base g E) (he : ∀ i, i < n → E i = F i) : Arr t n w base g F := by
  have := h
  unfold Arr at *
  rw [lA_congr n E F he] at this
  exact this
theorem Arr.below (h : Arr t n w base g E) (hb : Below w.heap.size w w') : Arr t n w' base g E := by
  refine ⟨h.1, ?_⟩
  rcases h.2 with h0 | ⟨q, cap, cur, hv, hbg, hg, r⟩
  · exact .inl h0
  · cases hv
    exact .inr ⟨g, _, cur, rfl, hbg, by rw [hb.block g (Array.getElem?_eq_some_iff.1 hg).1]; exact hg, r⟩
theorem Arr.alloc (h : Arr t n w base g E) (o) : Arr t n (w.alloc o) base g E := h.below ((Below.refl _ _).alloc (Nat.le_refl _) _)
end
end Go.Proofs.Ytkfnejiiancmhah.Own
