/-
  Lists of texts in memory, one text more at a time. Nothing of the program's text is proved here but closed facts on its types.
-/
import Derived.Test.YtbcnkglcfjineakDoorL3WordB
import Derived.Maps.AppendAt
namespace Go.Proofs.YtbcnkglcfjineakDoor.L3
open Go.RowKit L1
set_option linter.unusedVariables false

theorem info_strX : (Tryd.prog.info? 9).map (fun i => (i.zero, i.size, i.bytes)) = some (some (.string ByteArray.empty), 1, 16) := by kernel_rfl
abbrev eX : ByteArray := ByteArray.empty
abbrev mapX (xs : List ByteArray) : List Value := xs.map Value.string
theorem mapX_get (xs : List ByteArray) (i : Nat) (h : i < xs.length) : (mapX xs)[i]? = some (.string (xs.getD i eX)) := by
  rw [List.getElem?_map, List.getElem?_eq_getElem h]
  simp [List.getD, List.getElem?_eq_getElem h]
/-- A list of texts in memory of its own, behind a place. -/
abbrev OwX (w : World) (base : Nat) (v : Value) (xs : List ByteArray) : Prop := w.ownsRow base 9 1 v xs.length (mapX xs)
theorem own_shapeX {w : World} {base n c : Nat} {t : TypeId} {v : Value} {xs : List Value} (h : w.ownsRow base t c v n xs) : ∃ a cap, v = .slice a n cap := by
  rcases h.2 with ⟨hv, h0⟩ | ⟨g, cap, cur, hv, _⟩
  · subst h0; exact ⟨none, 0, hv⟩
  · exact ⟨_, cap, hv⟩
theorem own_formX {w : World} {base : Nat} {v : Value} {xs : List ByteArray} (h : OwX w base v xs) (hne : xs ≠ []) : ∃ g cap, v = .slice (some ⟨g, 0, none⟩) xs.length cap ∧ base ≤ g ∧ g < w.heap.size ∧ ∀ i, i < xs.length → w.cell? ⟨g, i, none⟩ = some (.string (xs.getD i eX)) := by
  rcases h.2 with ⟨hv, h0⟩ | ⟨g, cap, cur, hv, hb, hh, _⟩
  · exact absurd (List.eq_nil_of_length_eq_zero h0) hne
  · subst hv
    refine ⟨g, cap, rfl, hb, (Array.getElem?_eq_some_iff.1 hh).1, fun i hi => ?_⟩
    have := h.cells (g := g) rfl i _ (mapX_get xs i hi)
    rw [addr_add] at this
    exact this
theorem cell_one_newX (w : World) (g : Nat) (hg : w.heap.size = g) (a : Value) (t : TypeId) : ∀ j u, [a][j]? = some u → (w.alloc (.cells #[a] t)).cell? ((⟨g, 0, none⟩ : Addr).add j) = some u := by
  subst hg
  intro j u h
  rw [addr_add]
  match j, h with
  | 0, h => simp at h; subst h; simp
  | j + 1, h => simp at h
end Go.Proofs.YtbcnkglcfjineakDoor.L3
