/-
  Contracts of the laws' own helpers on lists of labels: laws.eqLabelS says that two lists alike are alike; what the copying of a list wants.
-/
import Derived.Test.YtohcjafklfemfamL3Lab
namespace Go.Proofs.Ytohcjafklfemfam.L3
open Go.RowKit L1
set_option linter.unusedVariables false

set_option maxRecDepth 100000 in
set_option maxHeartbeats 400000 in
theorem eqLabel_same (x y : ByteArray) (w : World) :
    Calls Try.prog 81 #[.agg #[.string x, .string y], .agg #[.string x, .string y]] w fun e w' => e = .returned (.bool true) ∧ Below w.heap.size w w' := by
  go_enter Try.func81, Try.ntmps81
  go_wp2
  go_ret
  exact ⟨rfl, ((Below.refl _ _).alloc (Nat.le_refl _) _).alloc (by simp) _⟩


theorem made_labs (n : Nat) : (madeCells (Value.agg #[.string ByteArray.empty, .string ByteArray.empty]).cells (n * 2)).toList = flatL (List.replicate n eL) := by
  apply List.ext_getElem?
  intro j
  by_cases hj : j < n * 2
  · have hi : j / 2 < (List.replicate n eL).length := by simp; omega
    have hf := flatL_get (List.replicate n eL) (j / 2) hi
    have hg : (List.replicate n eL).getD (j / 2) eL = eL := by
      simp [List.getD, List.getElem?_replicate]; split <;> rfl
    rw [hg] at hf
    have hm : (madeCells (Value.agg #[.string ByteArray.empty, .string ByteArray.empty]).cells (n * 2)).toList[j]? = some (.string ByteArray.empty) := by
      simp only [madeCells, Value.cells, Array.toList_map, Array.toList_range, List.getElem?_map]
      rw [List.getElem?_range hj]
      simp only [Option.map_some, List.size_toArray, List.length_cons, List.length_nil]
      have h01 : j % 2 = 0 ∨ j % 2 = 1 := by omega
      rcases h01 with h | h <;> simp [h]
    rw [hm]
    have h01 : j % 2 = 0 ∨ j % 2 = 1 := by omega
    rcases h01 with h | h
    · rw [show j = j / 2 * 2 by omega]; exact hf.1.symm
    · rw [show j = j / 2 * 2 + 1 by omega]; exact hf.2.symm
  · rw [List.getElem?_eq_none (by simp [size_madeCells]; omega), List.getElem?_eq_none (by rw [flatL_len]; simp; omega)]

/-- One round of the copy. -/
theorem copy_roundL {w wr : World} {xs ys : List Lb} {m k : Nat} {x y : ByteArray} (hx : xs.getD k eL = (x, y)) (hlt : k < m) (hm : xs.length = m) (hl : ys.length = m) (HX : ∀ j, j < k → ys.getD j eL = xs.getD j eL)
    (hown : wr.ownsRow w.heap.size 87 2 (.slice (some ⟨w.heap.size, 0, none⟩) m m) m (flatL ys)) (hb : Below w.heap.size w wr) :
    ∃ (k' : Nat) (ys' : List Lb), k' ≤ m ∧ Value.int .i64 ((k : Int) + 1) = .int .i64 k' ∧ ys'.length = m ∧ Hid (∀ j, j < k' → ys'.getD j eL = xs.getD j eL) ∧
      ((wr.setCell ⟨w.heap.size, k * 2, none⟩ (.string x)).setCell ⟨w.heap.size, k * 2 + 1, none⟩ (.string y)).ownsRow w.heap.size 87 2 (.slice (some ⟨w.heap.size, 0, none⟩) m m) m (flatL ys') ∧ Below w.heap.size w ((wr.setCell ⟨w.heap.size, k * 2, none⟩ (.string x)).setCell ⟨w.heap.size, k * 2 + 1, none⟩ (.string y)) := by
  have hst := (hown.stored (k * 2) (.string x)).1.stored (k * 2 + 1) (.string y)
  have hb2 := (hb.setCell (p := ⟨w.heap.size, k * 2, none⟩) (Nat.le_refl _) (.string x)).setCell (p := ⟨w.heap.size, k * 2 + 1, none⟩) (Nat.le_refl _) (.string y)
  refine ⟨k + 1, ys.set k (x, y), by omega, by simp, by simpa using hl, ?_, by rw [flatL_set]; exact hst.1, hb2⟩
  intro j hj
  by_cases e : j = k
  · subst e
    rw [hx]
    simp [List.getD, hl, hlt]
  · rw [← HX j (by omega)]
    simp [List.getD, Ne.symm e]
theorem list_sameL {xs ys : List Lb} {m : Nat} (h1 : xs.length = m) (h2 : ys.length = m) (h : ∀ j, j < m → ys.getD j eL = xs.getD j eL) : ys = xs := by
  apply List.ext_getElem?
  intro j
  by_cases hj : j < m
  · have h := h j hj
    simp only [List.getD, List.getElem?_eq_getElem (show j < ys.length by omega), List.getElem?_eq_getElem (show j < xs.length by omega), Option.getD_some] at h
    rw [List.getElem?_eq_getElem (show j < ys.length by omega), List.getElem?_eq_getElem (show j < xs.length by omega), h]
  · rw [List.getElem?_eq_none (by omega), List.getElem?_eq_none (by omega)]

theorem keep4L {wa wb : World} {B1 O1 B2 O2 N : Nat} {v1 v2 v3 v4 : Value} {W : World} (h : wa.cell? ⟨B1, O1, none⟩ = some v1 ∧ wa.cell? ⟨B1, O1 + 1, none⟩ = some v2 ∧ wa.cell? ⟨B2, O2, none⟩ = some v3 ∧ wa.cell? ⟨B2, O2 + 1, none⟩ = some v4 ∧ Below N W wa) (hb : Below wa.heap.size wa wb) (hN : N ≤ W.heap.size) :
    wb.cell? ⟨B1, O1, none⟩ = some v1 ∧ wb.cell? ⟨B1, O1 + 1, none⟩ = some v2 ∧ wb.cell? ⟨B2, O2, none⟩ = some v3 ∧ wb.cell? ⟨B2, O2 + 1, none⟩ = some v4 ∧ Below N W wb := by
  obtain ⟨h1, h2, h3, h4, h5⟩ := h
  exact ⟨(hb.cell (p := ⟨B1, O1, none⟩) (blk_lt h1)).trans h1, (hb.cell (p := ⟨B1, O1 + 1, none⟩) (blk_lt h2)).trans h2, (hb.cell (p := ⟨B2, O2, none⟩) (blk_lt h3)).trans h3, (hb.cell (p := ⟨B2, O2 + 1, none⟩) (blk_lt h4)).trans h4, h5.trans (hb.mono (Nat.le_trans hN h5.size))⟩

set_option maxRecDepth 100000 in
set_option maxHeartbeats 1000000 in
theorem eqLabelS_same (a b : Option Addr) (xs : List Lb) (n c1 c2 : Nat) (w : World) (hn : xs.length = n) (ha : SlL w a xs) (hb : SlL w b xs) (hn2 : n ≤ 1048576) :
    Calls Try.prog 67 #[.slice a n c1, .slice b n c2] w fun e w' => e = .returned (.bool true) ∧ Below w.heap.size w w' := by
  have HA := hide ha
  have HB := hide hb
  have HN := hide hn
  clear ha hb hn
  go_enter Try.func67, Try.ntmps67
  go_wp2
  go_loopw [5] (fun i wr => ∃ k : Nat, k ≤ n ∧ i = .int .i64 k ∧ Below w.heap.size w wr) (fun i _ => n - (intOf i).toNat)
  case atStart => exact ⟨0, Nat.zero_le _, rfl, Below.refl _ _⟩
  case round =>
    obtain ⟨k, hk, rfl, hbel⟩ := hrel
    by_cases hlt : k < n
    · obtain ⟨b1, o1, rfl, h1, h1'⟩ := HA.out k (by rw [HN.out]; exact hlt)
      obtain ⟨b2, o2, rfl, h2, h2'⟩ := HB.out k (by rw [HN.out]; exact hlt)
      have g1 := (hbel.cell (p := ⟨b1, o1 + k * 2, none⟩) (blk_lt h1)).trans h1
      have g1' := (hbel.cell (p := ⟨b1, o1 + k * 2 + 1, none⟩) (blk_lt h1')).trans h1'
      have g2 := (hbel.cell (p := ⟨b2, o2 + k * 2, none⟩) (blk_lt h2)).trans h2
      have g2' := (hbel.cell (p := ⟨b2, o2 + k * 2 + 1, none⟩) (blk_lt h2')).trans h2'
      obtain ⟨x, hx⟩ : ∃ x, x = (xs.getD k eL).1 := ⟨_, rfl⟩
      obtain ⟨y, hy⟩ : ∃ y, y = (xs.getD k eL).2 := ⟨_, rfl⟩
      rw [← hx] at g1 g2
      rw [← hy] at g1' g2'
      have hltI : (k : Int) < (n : Int) := by omega
      have hk0 : (0 : Int) ≤ (k : Int) := by omega
      clear h1 h2 h1' h2' hx hy
      go_wp2
      go_region_held3 (fun wx => wx.cell? ⟨b1, o1 + k * 2, none⟩ = some (.string x) ∧ wx.cell? ⟨b1, o1 + k * 2 + 1, none⟩ = some (.string y) ∧ wx.cell? ⟨b2, o2 + k * 2, none⟩ = some (.string x) ∧ wx.cell? ⟨b2, o2 + k * 2 + 1, none⟩ = some (.string y) ∧ Below wr.heap.size wr wx) (first | exact ⟨g1, g1', g2, g2', (Below.refl _ _).drew⟩ | exact keep4L (by assumption) (by assumption) (Nat.le_refl _)) ((go_at_call 81; refine (eqLabel_same x y _).mono ?_; rintro e w1 ⟨rfl, hb⟩))
      rename_i hHeld
      have B1 := hide (hbel.trans (hHeld.2.2.2.2.mono hbel.size))
      clear hHeld
      go_wp2
      go_roundw
      case rel => exact ⟨k + 1, by omega, by go_num, B1.out⟩
      case measure => simp [intOf]; omega
    · have hltI : ¬ (k : Int) < (n : Int) := by omega
      go_wp2
      go_ret
      exact ⟨rfl, hbel⟩
end Go.Proofs.Ytohcjafklfemfam.L3
