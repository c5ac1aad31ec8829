/-
  Lists of bools in memory, and the laws' own helpers over them: laws.toBoolS, laws.eqBoolS, laws.szBoolS; laws.szIntS.
-/
import Derived.Test.YtfjbiihiaoobhaiL1Sl
import Derived.Deep.QuietTactic
import Derived.BigQuiet
namespace Go.Proofs.Ytfjbiihiaoobhai.L9
open Go.RowKit L1
set_option linter.unusedVariables false

theorem info_bool : (Try.prog.info? 4).map (fun i => (i.zero, i.size, i.bytes)) = some (some (.bool false), 1, 1) := by kernel_rfl
def SlB (w : World) (a : Option Addr) (xs : List Bool) : Prop := ∀ i, i < xs.length → ∃ b off, a = some ⟨b, off, none⟩ ∧ w.cell? ⟨b, off + i, none⟩ = some (.bool (xs.getD i false))

theorem SlB.below {w w' : World} {a : Option Addr} {xs : List Bool} (h : SlB w a xs) (hb : Below w.heap.size w w') : SlB w' a xs := fun i hi => by
  obtain ⟨b, off, ha, hc⟩ := h i hi
  refine ⟨b, off, ha, ?_⟩
  rw [hb.cell (p := ⟨b, off + i, none⟩) (blk_lt hc)]
  exact hc
theorem sl_of_ownB {w : World} {base g n cap : Nat} {xs : List Bool} (h : w.ownsRow base 4 1 (.slice (some ⟨g, 0, none⟩) n cap) n (xs.map Value.bool)) : SlB w (some ⟨g, 0, none⟩) xs := fun i hi => by
  have := h.cells (g := g) rfl i (.bool (xs.getD i false)) (by
    rw [List.getElem?_map, List.getElem?_eq_getElem hi]
    simp [List.getD, List.getElem?_eq_getElem hi])
  rw [addr_add] at this
  exact ⟨g, 0, rfl, by simpa using this⟩
theorem made_bools (n : Nat) : (madeCells (Value.bool false).cells (n * 1)).toList = (List.replicate n false).map Value.bool := by
  rw [Nat.mul_one]
  show (madeCells #[Value.bool false] n).toList = _
  rw [toList_madeCells_one]
  simp

theorem copy_roundB {w wr : World} {xs ys : List Bool} {m k : Nat} (hlt : k < m) (hm : xs.length = m) (hl : ys.length = m) (HX : ∀ j, j < k → ys.getD j false = xs.getD j false)
    (hown : wr.ownsRow w.heap.size 4 1 (.slice (some ⟨w.heap.size, 0, none⟩) m m) m (ys.map Value.bool)) (hb : Below w.heap.size w wr) :
    ∃ (k' : Nat) (ys' : List Bool), k' ≤ m ∧ Value.int .i64 ((k : Int) + 1) = .int .i64 k' ∧ ys'.length = m ∧ Hid (∀ j, j < k' → ys'.getD j false = xs.getD j false) ∧
      (wr.setCell ⟨w.heap.size, k, none⟩ (.bool (xs.getD k false))).ownsRow w.heap.size 4 1 (.slice (some ⟨w.heap.size, 0, none⟩) m m) m (ys'.map Value.bool) ∧ Below w.heap.size w (wr.setCell ⟨w.heap.size, k, none⟩ (.bool (xs.getD k false))) := by
  have hst := hown.stored k (.bool (xs.getD k false))
  have hb2 := hb.setCell (p := ⟨w.heap.size, k, none⟩) (Nat.le_refl _) (.bool (xs.getD k false))
  refine ⟨k + 1, ys.set k (xs.getD k false), by omega, by simp, by simpa using hl, ?_, by rw [List.map_set]; exact hst.1, hb2⟩
  intro j hj
  by_cases e : j = k
  · subst e
    simp [List.getD, hl, hlt]
  · rw [← HX j (by omega)]
    simp [List.getD, Ne.symm e]
theorem list_sameB {xs ys : List Bool} {m : Nat} (h1 : xs.length = m) (h2 : ys.length = m) (h : ∀ j, j < m → ys.getD j false = xs.getD j false) : ys = xs := by
  apply List.ext_getElem?
  intro j
  by_cases hj : j < m
  · have h := h j hj
    simp only [List.getD, List.getElem?_eq_getElem (show j < ys.length by omega), List.getElem?_eq_getElem (show j < xs.length by omega), Option.getD_some] at h
    rw [List.getElem?_eq_getElem (show j < ys.length by omega), List.getElem?_eq_getElem (show j < xs.length by omega), h]
  · rw [List.getElem?_eq_none (by omega), List.getElem?_eq_none (by omega)]

theorem own_formB {w : World} {base n : Nat} {v : Value} {xs : List Bool} (h : w.ownsRow base 4 1 v n (xs.map Value.bool)) : ∃ a cap, v = .slice a n cap ∧ SlB w a xs ∧ xs.length = n := by
  have hl := h.1
  simp at hl
  rcases h.2 with ⟨hv, h0⟩ | ⟨g, cap, cur, hv, _⟩
  · subst h0
    exact ⟨none, 0, hv, fun i hi => by omega, hl⟩
  · subst hv
    exact ⟨_, cap, rfl, sl_of_ownB h, hl⟩
end Go.Proofs.Ytfjbiihiaoobhai.L9
