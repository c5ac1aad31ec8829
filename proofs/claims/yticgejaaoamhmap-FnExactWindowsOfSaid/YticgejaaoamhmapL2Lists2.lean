/-
  Contracts of the laws' own helpers on lists of samples: laws.toSampleS copies a list into new memory, laws.eqSampleS says that two lists alike are alike.
-/
import Derived.Test.YticgejaaoamhmapL2Lists
namespace Go.Proofs.Yticgejaaoamhmap.L1
open Go.RowKit
set_option linter.unusedVariables false

theorem made_smps (n : Nat) : (madeCells (Value.agg #[.int .i64 0, .int .i64 0]).cells (n * 2)).toList = flat (List.replicate n ((0 : Int), (0 : Int))) := by
  apply List.ext_getElem?
  intro j
  by_cases hj : j < n * 2
  · have hi : j / 2 < (List.replicate n ((0 : Int), (0 : Int))).length := by simp; omega
    have hf := flat_get (List.replicate n ((0 : Int), (0 : Int))) (j / 2) hi
    have hg : (List.replicate n ((0 : Int), (0 : Int))).getD (j / 2) (0, 0) = (0, 0) := by
      simp [List.getD, List.getElem?_replicate]; split <;> rfl
    rw [hg] at hf
    have hm : (madeCells (Value.agg #[.int .i64 0, .int .i64 0]).cells (n * 2)).toList[j]? = some (.int .i64 0) := by
      simp only [madeCells, Value.cells, Array.toList_map, Array.toList_range, List.getElem?_map]
      rw [List.getElem?_range hj]
      simp only [Option.map_some, List.size_toArray, List.length_cons, List.length_nil]
      have h01 : j % 2 = 0 ∨ j % 2 = 1 := by omega
      rcases h01 with h | h <;> simp [h]
    rw [hm]
    have h01 : j % 2 = 0 ∨ j % 2 = 1 := by omega
    rcases h01 with h | h
    · rw [show j = j / 2 * 2 by omega]; exact hf.1.symm
    · rw [show j = j / 2 * 2 + 1 by omega]; exact hf.2.symm
  · rw [List.getElem?_eq_none (by simp [size_madeCells]; omega), List.getElem?_eq_none (by rw [flat_len]; simp; omega)]

/-- One round of the copy. -/
theorem copy_round2 {w wr : World} {xs ys : List (Int × Int)} {m k : Nat} {x y : Int} (hx : xs.getD k (0, 0) = (x, y)) (hlt : k < m) (hm : xs.length = m) (hl : ys.length = m) (HX : ∀ j, j < k → ys.getD j (0, 0) = xs.getD j (0, 0))
    (hown : wr.ownsRow w.heap.size 42 2 (.slice (some ⟨w.heap.size, 0, none⟩) m m) m (flat ys)) (hb : Below w.heap.size w wr) :
    ∃ (k' : Nat) (ys' : List (Int × Int)), k' ≤ m ∧ Value.int .i64 ((k : Int) + 1) = .int .i64 k' ∧ ys'.length = m ∧ Hid (∀ j, j < k' → ys'.getD j (0, 0) = xs.getD j (0, 0)) ∧
      ((wr.setCell ⟨w.heap.size, k * 2, none⟩ (.int .i64 x)).setCell ⟨w.heap.size, k * 2 + 1, none⟩ (.int .i64 y)).ownsRow w.heap.size 42 2 (.slice (some ⟨w.heap.size, 0, none⟩) m m) m (flat ys') ∧ Below w.heap.size w ((wr.setCell ⟨w.heap.size, k * 2, none⟩ (.int .i64 x)).setCell ⟨w.heap.size, k * 2 + 1, none⟩ (.int .i64 y)) := by
  have hst := (hown.stored (k * 2) (.int .i64 x)).1.stored (k * 2 + 1) (.int .i64 y)
  have hb2 := (hb.setCell (p := ⟨w.heap.size, k * 2, none⟩) (Nat.le_refl _) (.int .i64 x)).setCell (p := ⟨w.heap.size, k * 2 + 1, none⟩) (Nat.le_refl _) (.int .i64 y)
  refine ⟨k + 1, ys.set k (x, y), by omega, by simp, by simpa using hl, ?_, by rw [flat_set]; exact hst.1, hb2⟩
  intro j hj
  by_cases e : j = k
  · subst e
    rw [hx]
    simp [List.getD, hl, hlt]
  · rw [← HX j (by omega)]
    simp [List.getD, Ne.symm e]
theorem list_same2 {xs ys : List (Int × Int)} {m : Nat} (h1 : xs.length = m) (h2 : ys.length = m) (h : ∀ j, j < m → ys.getD j (0, 0) = xs.getD j (0, 0)) : ys = xs := by
  apply List.ext_getElem?
  intro j
  by_cases hj : j < m
  · have h := h j hj
    simp only [List.getD, List.getElem?_eq_getElem (show j < ys.length by omega), List.getElem?_eq_getElem (show j < xs.length by omega), Option.getD_some] at h
    rw [List.getElem?_eq_getElem (show j < ys.length by omega), List.getElem?_eq_getElem (show j < xs.length by omega), h]
  · rw [List.getElem?_eq_none (by omega), List.getElem?_eq_none (by omega)]

set_option maxRecDepth 100000 in
set_option maxHeartbeats 1000000 in
theorem toSampleS_any (a : Option Addr) (xs : List (Int × Int)) (n cap : Nat) (w : World) (hn : xs.length = n) (hs : Sl2 w a xs) (hn2 : n ≤ 1048576) :
    Calls Try.prog 10 #[.slice a n cap] w fun e w' => e = .returned (.slice (some ⟨w.heap.size, 0, none⟩) n n) ∧
      w'.ownsRow w.heap.size 42 2 (.slice (some ⟨w.heap.size, 0, none⟩) n n) n (flat xs) ∧ Below w.heap.size w w' := by
  obtain ⟨i0, hi, hz0, hz1, hz2⟩ := info_parts info_smp
  obtain ⟨w1, hmk, hown1, hg1⟩ := run_make_full (P := Try.prog) w w.heap.size 24 42 i0 (.agg #[.int .i64 0, .int .i64 0]) 2 Try.underlying24 hi hz0 hz1 .i64 .i64 n (by rw [hz2]; omega) (by unfold maxLen; omega) (Nat.le_refl _)
  rw [made_smps] at hown1
  have hb1 : Below w.heap.size w w1 := (Below.refl _ _).grown hg1 (Nat.le_refl _) (fun k hk => by cases hk)
  have HO := hide hown1
  have HS := hide hs
  have HN := hide hn
  clear hown1 hg1 hs hn
  go_enter Try.func10, Try.ntmps10
  go_wp2
  go_loopw [4] (fun i wr => ∃ (k : Nat) (ys : List (Int × Int)), k ≤ n ∧ i = .int .i64 k ∧ ys.length = n ∧ Hid (∀ j, j < k → ys.getD j (0, 0) = xs.getD j (0, 0)) ∧
      wr.ownsRow w.heap.size 42 2 (.slice (some ⟨w.heap.size, 0, none⟩) n n) n (flat ys) ∧ Below w.heap.size w wr) (fun i _ => n - (intOf i).toNat)
  case atStart => exact ⟨0, List.replicate n (0, 0), Nat.zero_le _, rfl, by simp, fun j hj => absurd hj (Nat.not_lt_zero _), HO, hb1⟩
  case round =>
    obtain ⟨k, ys, hk, rfl, hyl, HX, hown, hbel⟩ := hrel
    have HL := hide hyl
    clear hyl
    by_cases hlt : k < n
    · obtain ⟨b, off, rfl, hc0, hd0⟩ := HS.out k (by rw [HN.out]; exact hlt)
      have hc : wr.cell? ⟨b, off + k * 2, none⟩ = some (.int .i64 (xs.getD k (0, 0)).1) := by
        rw [hbel.cell (p := ⟨b, off + k * 2, none⟩) (blk_lt hc0)]
        exact hc0
      have hd : wr.cell? ⟨b, off + k * 2 + 1, none⟩ = some (.int .i64 (xs.getD k (0, 0)).2) := by
        rw [hbel.cell (p := ⟨b, off + k * 2 + 1, none⟩) (blk_lt hd0)]
        exact hd0
      have hltI : (k : Int) < (n : Int) := by omega
      obtain ⟨x, hx⟩ : ∃ x, x = (xs.getD k (0, 0)).1 := ⟨_, rfl⟩
      obtain ⟨y, hy⟩ : ∃ y, y = (xs.getD k (0, 0)).2 := ⟨_, rfl⟩
      rw [← hx] at hc
      rw [← hy] at hd
      have hxy : xs.getD k (0, 0) = (x, y) := by rw [hx, hy]
      have HXY := hide hxy
      have HO2 := hide hown
      have HB2 := hide hbel
      clear hc0 hd0 hx hy hxy hown hbel
      go_wp2_with fail
      refine (toSample_any x y _).mono ?_
      rintro e w2 ⟨rfl, hb2⟩
      have hown2 := own_below2 HO2.out hb2
      have hbel2 := HB2.out.trans (hb2.mono HB2.out.size)
      have hl0 : k * 2 < (flat ys).length := by rw [flat_len, HL.out]; omega
      have hl1 : k * 2 + 1 < (flat ys).length := by rw [flat_len, HL.out]; omega
      have hcl := hown2.cellAt (k * 2) (by have := HL.out; omega)
      have hcl1 := hown2.cellAt (k * 2 + 1) (by have := HL.out; omega)
      have hfr := hown2.frozenAt (k * 2)
      have hfr1 := hown2.frozenAt (k * 2 + 1)
      obtain ⟨v, hv⟩ : ∃ v, w2.cell? ⟨w.heap.size, k * 2, none⟩ = some v := ⟨_, hcl.trans (List.getElem?_eq_getElem hl0)⟩
      obtain ⟨v1, hv1⟩ : ∃ v, w2.cell? ⟨w.heap.size, k * 2 + 1, none⟩ = some v := ⟨_, hcl1.trans (List.getElem?_eq_getElem hl1)⟩
      have R := hide (copy_round2 HXY.out hlt HN.out HL.out HX.out hown2 hbel2)
      clear hcl hcl1 hl0 hl1 hown2 hbel2 hb2
      go_wp2
      go_roundw
      case rel => exact R.out
      case measure => simp [intOf]; omega
    · have e : ys = xs := list_same2 HN.out HL.out (fun j hj => HX.out j (by omega))
      subst e
      have hltI : ¬ (k : Int) < (n : Int) := by omega
      go_wp2
      go_ret
      exact ⟨rfl, hown, hbel⟩

theorem keep4 {wa wb : World} {B1 O1 B2 O2 N : Nat} {v1 v2 v3 v4 : Value} {W : World} (h : wa.cell? ⟨B1, O1, none⟩ = some v1 ∧ wa.cell? ⟨B1, O1 + 1, none⟩ = some v2 ∧ wa.cell? ⟨B2, O2, none⟩ = some v3 ∧ wa.cell? ⟨B2, O2 + 1, none⟩ = some v4 ∧ Below N W wa) (hb : Below wa.heap.size wa wb) (hN : N ≤ W.heap.size) :
    wb.cell? ⟨B1, O1, none⟩ = some v1 ∧ wb.cell? ⟨B1, O1 + 1, none⟩ = some v2 ∧ wb.cell? ⟨B2, O2, none⟩ = some v3 ∧ wb.cell? ⟨B2, O2 + 1, none⟩ = some v4 ∧ Below N W wb := by
  obtain ⟨h1, h2, h3, h4, h5⟩ := h
  exact ⟨(hb.cell (p := ⟨B1, O1, none⟩) (blk_lt h1)).trans h1, (hb.cell (p := ⟨B1, O1 + 1, none⟩) (blk_lt h2)).trans h2, (hb.cell (p := ⟨B2, O2, none⟩) (blk_lt h3)).trans h3, (hb.cell (p := ⟨B2, O2 + 1, none⟩) (blk_lt h4)).trans h4, h5.trans (hb.mono (Nat.le_trans hN h5.size))⟩

set_option maxRecDepth 100000 in
set_option maxHeartbeats 1000000 in
theorem eqSampleS_same (a b : Option Addr) (xs : List (Int × Int)) (n c1 c2 : Nat) (w : World) (hn : xs.length = n) (ha : Sl2 w a xs) (hb : Sl2 w b xs) (hn2 : n ≤ 1048576) :
    Calls Try.prog 12 #[.slice a n c1, .slice b n c2] w fun e w' => e = .returned (.bool true) ∧ Below w.heap.size w w' := by
  have HA := hide ha
  have HB := hide hb
  have HN := hide hn
  clear ha hb hn
  go_enter Try.func12, Try.ntmps12
  go_wp2
  go_loopw [5] (fun i wr => ∃ k : Nat, k ≤ n ∧ i = .int .i64 k ∧ Below w.heap.size w wr) (fun i _ => n - (intOf i).toNat)
  case atStart => exact ⟨0, Nat.zero_le _, rfl, Below.refl _ _⟩
  case round =>
    obtain ⟨k, hk, rfl, hbel⟩ := hrel
    by_cases hlt : k < n
    · obtain ⟨b1, o1, rfl, h1, h1'⟩ := HA.out k (by rw [HN.out]; exact hlt)
      obtain ⟨b2, o2, rfl, h2, h2'⟩ := HB.out k (by rw [HN.out]; exact hlt)
      have g1 := (hbel.cell (p := ⟨b1, o1 + k * 2, none⟩) (blk_lt h1)).trans h1
      have g1' := (hbel.cell (p := ⟨b1, o1 + k * 2 + 1, none⟩) (blk_lt h1')).trans h1'
      have g2 := (hbel.cell (p := ⟨b2, o2 + k * 2, none⟩) (blk_lt h2)).trans h2
      have g2' := (hbel.cell (p := ⟨b2, o2 + k * 2 + 1, none⟩) (blk_lt h2')).trans h2'
      obtain ⟨x, hx⟩ : ∃ x, x = (xs.getD k (0, 0)).1 := ⟨_, rfl⟩
      obtain ⟨y, hy⟩ : ∃ y, y = (xs.getD k (0, 0)).2 := ⟨_, rfl⟩
      rw [← hx] at g1 g2
      rw [← hy] at g1' g2'
      have hltI : (k : Int) < (n : Int) := by omega
      have hk0 : (0 : Int) ≤ (k : Int) := by omega
      clear h1 h2 h1' h2' hx hy
      go_wp2
      go_region_held3 (fun wx => wx.cell? ⟨b1, o1 + k * 2, none⟩ = some (.int .i64 x) ∧ wx.cell? ⟨b1, o1 + k * 2 + 1, none⟩ = some (.int .i64 y) ∧ wx.cell? ⟨b2, o2 + k * 2, none⟩ = some (.int .i64 x) ∧ wx.cell? ⟨b2, o2 + k * 2 + 1, none⟩ = some (.int .i64 y) ∧ Below wr.heap.size wr wx) (first | exact ⟨g1, g1', g2, g2', (Below.refl _ _).drew⟩ | exact keep4 (by assumption) (by assumption) (Nat.le_refl _)) ((go_at_call 33; refine (eqSample_same x y _).mono ?_; rintro e w1 ⟨rfl, hb⟩))
      rename_i hHeld
      have B1 := hide (hbel.trans (hHeld.2.2.2.2.mono hbel.size))
      clear hHeld
      go_wp2
      go_roundw
      case rel => exact ⟨k + 1, by omega, by go_num, B1.out⟩
      case measure => simp [intOf]; omega
    · have hltI : ¬ (k : Int) < (n : Int) := by omega
      go_wp2
      go_ret
      exact ⟨rfl, hbel⟩
end Go.Proofs.Yticgejaaoamhmap.L1
