/-
  Contracts of the laws' own helpers on lists of a form's parts: laws.toPartS copies a list into new memory, laws.eqPartS says that two lists alike are alike, laws.szPartS weighs one.
-/
import Derived.Test.YtkdiffpbljohkayL5Pt
import Derived.Deep.RegionHeld3
namespace Go.Proofs.Ytkdiffpbljohkay.L5
open Go.RowKit L1 L4
set_option linter.unusedVariables false

set_option maxRecDepth 100000 in
set_option maxHeartbeats 1000000 in
theorem toPart_any (k : Int) (t : ByteArray) (a b : Int) (w : World) :
    Calls Try.prog 34 #[.agg #[.int .i64 k, .string t, .int .i64 a, .int .i64 b]] w fun e w' => e = .returned (.agg #[.int .i64 k, .string t, .int .i64 a, .int .i64 b]) ∧ Below w.heap.size w w' := by
  go_enter Try.func34, Try.ntmps34
  go_wp2
  refine bodyPost_ret (v := .agg #[.int .i64 k, .string t, .int .i64 a, .int .i64 b]) (by simp [results, Try.f34, go_sem]) rfl ⟨rfl, ?_⟩
  exact (((Below.refl _ _).alloc (Nat.le_refl _) _).alloc (by simp) _).alloc (by simp; omega) _
set_option maxRecDepth 100000 in
set_option maxHeartbeats 1000000 in
theorem eqPart_same (k : Int) (t : ByteArray) (a b : Int) (w : World) :
    Calls Try.prog 40 #[.agg #[.int .i64 k, .string t, .int .i64 a, .int .i64 b], .agg #[.int .i64 k, .string t, .int .i64 a, .int .i64 b]] w fun e w' => e = .returned (.bool true) ∧ Below w.heap.size w w' := by
  go_enter Try.func40, Try.ntmps40
  go_wp2
  go_ret
  exact ⟨rfl, ((Below.refl _ _).alloc (Nat.le_refl _) _).alloc (by simp) _⟩
theorem made_ps (n : Nat) : (madeCells (.agg #[.int .i64 0, .string ByteArray.empty, .int .i64 0, .int .i64 0] : Value).cells (n * 4)).toList = flatP (List.replicate n eP) := by
  apply List.ext_getElem?
  intro j
  by_cases hj : j < n * 4
  · have hi : j / 4 < (List.replicate n eP).length := by simp; omega
    obtain ⟨f1, f2, f3, f4⟩ := flatP_get (List.replicate n eP) (j / 4) hi
    have hg : (List.replicate n eP).getD (j / 4) eP = eP := by
      simp [List.getD, List.getElem?_replicate]; split <;> rfl
    rw [hg] at f1 f2 f3 f4
    have hm : (madeCells (.agg #[.int .i64 0, .string ByteArray.empty, .int .i64 0, .int .i64 0] : Value).cells (n * 4)).toList[j]? = [Value.int .i64 0, .string ByteArray.empty, .int .i64 0, .int .i64 0][j % 4]? := by
      simp only [madeCells, Value.cells, Array.toList_map, Array.toList_range, List.getElem?_map]
      rw [List.getElem?_range hj]
      simp only [Option.map_some, List.size_toArray, List.length_cons, List.length_nil]
      have h01 : j % 4 = 0 ∨ j % 4 = 1 ∨ j % 4 = 2 ∨ j % 4 = 3 := by omega
      rcases h01 with h | h | h | h <;> simp [h]
    rw [hm]
    have h01 : j % 4 = 0 ∨ j % 4 = 1 ∨ j % 4 = 2 ∨ j % 4 = 3 := by omega
    rcases h01 with h | h | h | h
    · rw [h, show j = j / 4 * 4 by omega, f1]; rfl
    · rw [h, show j = j / 4 * 4 + 1 by omega, f2]; rfl
    · rw [h, show j = j / 4 * 4 + 2 by omega, f3]; rfl
    · rw [h, show j = j / 4 * 4 + 3 by omega, f4]; rfl
  · rw [List.getElem?_eq_none (by simp [size_madeCells]; omega), List.getElem?_eq_none (by rw [flatP_len]; simp; omega)]
/-- One part written over. -/
def setP (c : List Value) (o : Nat) (p : Pr) : List Value := (((c.set o (.int .i64 p.k)).set (o + 1) (.string p.t)).set (o + 2) (.int .i64 p.a)).set (o + 3) (.int .i64 p.b)
theorem flatP_set : ∀ (l : List Pr) (i : Nat) (p : Pr), flatP (l.set i p) = setP (flatP l) (i * 4) p
  | [], _, _ => rfl
  | q :: l, 0, p => rfl
  | q :: l, i + 1, p => by
    have := flatP_set l i p
    have e1 : (i + 1) * 4 = i * 4 + 1 + 1 + 1 + 1 := by omega
    unfold setP at this ⊢
    rw [e1]
    have f2 : i * 4 + 1 + 1 + 1 + 1 + 2 = i * 4 + 2 + 1 + 1 + 1 + 1 := by omega
    have f3 : i * 4 + 1 + 1 + 1 + 1 + 3 = i * 4 + 3 + 1 + 1 + 1 + 1 := by omega
    rw [f2, f3]
    simp only [List.set_cons_succ, flatP, this]
/-- One round of the copy. -/
theorem copy_roundP {w wr : World} {xs ys : List Pr} {m k : Nat} {p : Pr} (hx : xs.getD k eP = p) (hlt : k < m) (hm : xs.length = m) (hl : ys.length = m) (HX : ∀ j, j < k → ys.getD j eP = xs.getD j eP)
    (hown : wr.ownsRow w.heap.size 55 4 (.slice (some ⟨w.heap.size, 0, none⟩) m m) m (flatP ys)) (hb : Below w.heap.size w wr) :
    ∃ (k' : Nat) (ys' : List Pr), k' ≤ m ∧ Value.int .i64 ((k : Int) + 1) = .int .i64 k' ∧ ys'.length = m ∧ Hid (∀ j, j < k' → ys'.getD j eP = xs.getD j eP) ∧
      ((((wr.setCell ⟨w.heap.size, k * 4, none⟩ (.int .i64 p.k)).setCell ⟨w.heap.size, k * 4 + 1, none⟩ (.string p.t)).setCell ⟨w.heap.size, k * 4 + 2, none⟩ (.int .i64 p.a)).setCell ⟨w.heap.size, k * 4 + 3, none⟩ (.int .i64 p.b)).ownsRow w.heap.size 55 4 (.slice (some ⟨w.heap.size, 0, none⟩) m m) m (flatP ys') ∧ Below w.heap.size w ((((wr.setCell ⟨w.heap.size, k * 4, none⟩ (.int .i64 p.k)).setCell ⟨w.heap.size, k * 4 + 1, none⟩ (.string p.t)).setCell ⟨w.heap.size, k * 4 + 2, none⟩ (.int .i64 p.a)).setCell ⟨w.heap.size, k * 4 + 3, none⟩ (.int .i64 p.b)) := by
  have hst := (((hown.stored (k * 4) (.int .i64 p.k)).1.stored (k * 4 + 1) (.string p.t)).1.stored (k * 4 + 2) (.int .i64 p.a)).1.stored (k * 4 + 3) (.int .i64 p.b)
  have hb2 := (((hb.setCell (p := ⟨w.heap.size, k * 4, none⟩) (Nat.le_refl _) (.int .i64 p.k)).setCell (p := ⟨w.heap.size, k * 4 + 1, none⟩) (Nat.le_refl _) (.string p.t)).setCell (p := ⟨w.heap.size, k * 4 + 2, none⟩) (Nat.le_refl _) (.int .i64 p.a)).setCell (p := ⟨w.heap.size, k * 4 + 3, none⟩) (Nat.le_refl _) (.int .i64 p.b)
  refine ⟨k + 1, ys.set k p, by omega, by simp, by simpa using hl, ?_, by rw [flatP_set]; exact hst.1, hb2⟩
  intro j hj
  by_cases e : j = k
  · subst e
    rw [hx]
    simp [List.getD, hl, hlt]
  · rw [← HX j (by omega)]
    simp [List.getD, Ne.symm e]
theorem list_sameP {xs ys : List Pr} {m : Nat} (h1 : xs.length = m) (h2 : ys.length = m) (h : ∀ j, j < m → ys.getD j eP = xs.getD j eP) : ys = xs := by
  apply List.ext_getElem?
  intro j
  by_cases hj : j < m
  · have h := h j hj
    simp only [List.getD, List.getElem?_eq_getElem (show j < ys.length by omega), List.getElem?_eq_getElem (show j < xs.length by omega), Option.getD_some] at h
    rw [List.getElem?_eq_getElem (show j < ys.length by omega), List.getElem?_eq_getElem (show j < xs.length by omega), h]
  · rw [List.getElem?_eq_none (by omega), List.getElem?_eq_none (by omega)]
set_option maxRecDepth 100000 in
set_option maxHeartbeats 2000000 in
theorem toPartS_any (a : Option Addr) (xs : List Pr) (n cap : Nat) (w : World) (hn : xs.length = n) (hs : SlP w a xs) (hn2 : n ≤ 1048576) :
    Calls Try.prog 11 #[.slice a n cap] w fun e w' => e = .returned (.slice (some ⟨w.heap.size, 0, none⟩) n n) ∧
      w'.ownsRow w.heap.size 55 4 (.slice (some ⟨w.heap.size, 0, none⟩) n n) n (flatP xs) ∧ Below w.heap.size w w' := by
  obtain ⟨i0, hi, hz0, hz1, hz2⟩ := info_parts info_part
  obtain ⟨w1, hmk, hown1, hg1⟩ := run_make_full (P := Try.prog) w w.heap.size 24 55 i0 (.agg #[.int .i64 0, .string ByteArray.empty, .int .i64 0, .int .i64 0]) 4 Try.underlying24 hi hz0 hz1 .i64 .i64 n (by rw [hz2]; omega) (by unfold maxLen; omega) (Nat.le_refl _)
  rw [made_ps] at hown1
  have hb1 : Below w.heap.size w w1 := (Below.refl _ _).grown hg1 (Nat.le_refl _) (fun k hk => by cases hk)
  have HO := hide hown1
  have HS := hide hs
  have HN := hide hn
  clear hown1 hg1 hs hn
  go_enter Try.func11, Try.ntmps11
  go_wp2
  go_loopw [4] (fun i wr => ∃ (k : Nat) (ys : List Pr), k ≤ n ∧ i = .int .i64 k ∧ ys.length = n ∧ Hid (∀ j, j < k → ys.getD j eP = xs.getD j eP) ∧
      wr.ownsRow w.heap.size 55 4 (.slice (some ⟨w.heap.size, 0, none⟩) n n) n (flatP ys) ∧ Below w.heap.size w wr) (fun i _ => n - (intOf i).toNat)
  case atStart => exact ⟨0, List.replicate n eP, Nat.zero_le _, rfl, by simp, fun j hj => absurd hj (Nat.not_lt_zero _), HO, hb1⟩
  case round =>
    obtain ⟨k, ys, hk, rfl, hyl, HX, hown, hbel⟩ := hrel
    have HL := hide hyl
    clear hyl
    by_cases hlt : k < n
    · obtain ⟨b, off, rfl, hA0⟩ := HS.out k (by rw [HN.out]; exact hlt)
      have hA := hA0.base hbel (blk_lt hA0.k)
      obtain ⟨⟨pk, pt, pa, pb⟩, hp⟩ : ∃ p, p = xs.getD k eP := ⟨_, rfl⟩
      rw [← hp] at hA
      have hc0 := hA.k
      have hc1 := hA.t
      have hc2 := hA.a
      have hc3 := hA.b
      simp only at hc0 hc1 hc2 hc3
      have hltI : (k : Int) < (n : Int) := by omega
      have HP := hide hp.symm
      have HO2 := hide hown
      have HB2 := hide hbel
      clear hA0 hA hp hown hbel
      go_wp2_with fail
      refine (toPart_any pk pt pa pb _).mono ?_
      rintro e w2 ⟨rfl, hb2⟩
      have hown2 := own_belowT HO2.out hb2
      have hbel2 := HB2.out.trans (hb2.mono HB2.out.size)
      have hfl : (flatP ys).length = n * 4 := by rw [flatP_len, HL.out]
      have hcl0 := hown2.cellAt (k * 4) (by omega)
      have hfr0 := hown2.frozenAt (k * 4)
      obtain ⟨v0, hv0⟩ : ∃ v, w2.cell? ⟨w.heap.size, k * 4, none⟩ = some v := ⟨_, hcl0.trans (List.getElem?_eq_getElem (by omega))⟩
      have hcl1 := hown2.cellAt (k * 4 + 1) (by omega)
      have hfr1 := hown2.frozenAt (k * 4 + 1)
      obtain ⟨v1, hv1⟩ : ∃ v, w2.cell? ⟨w.heap.size, k * 4 + 1, none⟩ = some v := ⟨_, hcl1.trans (List.getElem?_eq_getElem (by omega))⟩
      have hcl2 := hown2.cellAt (k * 4 + 2) (by omega)
      have hfr2 := hown2.frozenAt (k * 4 + 2)
      obtain ⟨v2, hv2⟩ : ∃ v, w2.cell? ⟨w.heap.size, k * 4 + 2, none⟩ = some v := ⟨_, hcl2.trans (List.getElem?_eq_getElem (by omega))⟩
      have hcl3 := hown2.cellAt (k * 4 + 3) (by omega)
      have hfr3 := hown2.frozenAt (k * 4 + 3)
      obtain ⟨v3, hv3⟩ : ∃ v, w2.cell? ⟨w.heap.size, k * 4 + 3, none⟩ = some v := ⟨_, hcl3.trans (List.getElem?_eq_getElem (by omega))⟩
      have R := hide (copy_roundP HP.out hlt HN.out HL.out HX.out hown2 hbel2)
      clear hcl0 hcl1 hcl2 hcl3 hfl hown2 hbel2 hb2
      go_wp2
      go_roundw
      case rel => exact R.out
      case measure => simp [intOf]; omega
    · have e : ys = xs := list_sameP HN.out HL.out (fun j hj => HX.out j (by omega))
      subst e
      have hltI : ¬ (k : Int) < (n : Int) := by omega
      go_wp2
      go_ret
      exact ⟨rfl, hown, hbel⟩
/-- Two parts stay where they are. -/
theorem keepP {wa wb : World} {B1 O1 B2 O2 N : Nat} {k : Int} {t : ByteArray} {a b : Int} {W : World} (h : (wa.cell? ⟨B1, O1, none⟩ = some (.int .i64 k) ∧ wa.cell? ⟨B1, O1 + 1, none⟩ = some (.string t) ∧ wa.cell? ⟨B1, O1 + 2, none⟩ = some (.int .i64 a) ∧ wa.cell? ⟨B1, O1 + 3, none⟩ = some (.int .i64 b) ∧ wa.cell? ⟨B2, O2, none⟩ = some (.int .i64 k) ∧ wa.cell? ⟨B2, O2 + 1, none⟩ = some (.string t) ∧ wa.cell? ⟨B2, O2 + 2, none⟩ = some (.int .i64 a) ∧ wa.cell? ⟨B2, O2 + 3, none⟩ = some (.int .i64 b)) ∧ Below N W wa) (hb : Below wa.heap.size wa wb) (hN : N ≤ W.heap.size) : (wb.cell? ⟨B1, O1, none⟩ = some (.int .i64 k) ∧ wb.cell? ⟨B1, O1 + 1, none⟩ = some (.string t) ∧ wb.cell? ⟨B1, O1 + 2, none⟩ = some (.int .i64 a) ∧ wb.cell? ⟨B1, O1 + 3, none⟩ = some (.int .i64 b) ∧ wb.cell? ⟨B2, O2, none⟩ = some (.int .i64 k) ∧ wb.cell? ⟨B2, O2 + 1, none⟩ = some (.string t) ∧ wb.cell? ⟨B2, O2 + 2, none⟩ = some (.int .i64 a) ∧ wb.cell? ⟨B2, O2 + 3, none⟩ = some (.int .i64 b)) ∧ Below N W wb := by
  obtain ⟨⟨h1, h2, h3, h4, h5, h6, h7, h8⟩, h9⟩ := h
  exact ⟨⟨(hb.cell (p := ⟨B1, O1, none⟩) (blk_lt h1)).trans h1, (hb.cell (p := ⟨B1, O1 + 1, none⟩) (blk_lt h2)).trans h2, (hb.cell (p := ⟨B1, O1 + 2, none⟩) (blk_lt h3)).trans h3, (hb.cell (p := ⟨B1, O1 + 3, none⟩) (blk_lt h4)).trans h4, (hb.cell (p := ⟨B2, O2, none⟩) (blk_lt h5)).trans h5, (hb.cell (p := ⟨B2, O2 + 1, none⟩) (blk_lt h6)).trans h6, (hb.cell (p := ⟨B2, O2 + 2, none⟩) (blk_lt h7)).trans h7, (hb.cell (p := ⟨B2, O2 + 3, none⟩) (blk_lt h8)).trans h8⟩, h9.trans (hb.mono (Nat.le_trans hN h9.size))⟩
set_option maxRecDepth 100000 in
set_option maxHeartbeats 2000000 in
theorem eqPartS_same (a b : Option Addr) (xs : List Pr) (n c1 c2 : Nat) (w : World) (hn : xs.length = n) (ha : SlP w a xs) (hb : SlP w b xs) (hn2 : n ≤ 1048576) :
    Calls Try.prog 13 #[.slice a n c1, .slice b n c2] w fun e w' => e = .returned (.bool true) ∧ Below w.heap.size w w' := by
  have HA := hide ha
  have HB := hide hb
  have HN := hide hn
  clear ha hb hn
  go_enter Try.func13, Try.ntmps13
  go_wp2
  go_loopw [5] (fun i wr => ∃ k : Nat, k ≤ n ∧ i = .int .i64 k ∧ Below w.heap.size w wr) (fun i _ => n - (intOf i).toNat)
  case atStart => exact ⟨0, Nat.zero_le _, rfl, Below.refl _ _⟩
  case round =>
    obtain ⟨k, hk, rfl, hbel⟩ := hrel
    by_cases hlt : k < n
    · obtain ⟨b1, o1, rfl, hA0⟩ := HA.out k (by rw [HN.out]; exact hlt)
      obtain ⟨b2, o2, rfl, hB0⟩ := HB.out k (by rw [HN.out]; exact hlt)
      have hA := hA0.base hbel (blk_lt hA0.k)
      have hB := hB0.base hbel (blk_lt hB0.k)
      obtain ⟨⟨pk, pt, pa, pb⟩, hp⟩ : ∃ p, p = xs.getD k eP := ⟨_, rfl⟩
      rw [← hp] at hA hB
      have g0 := hA.k
      have g1 := hA.t
      have g2 := hA.a
      have g3 := hA.b
      have g4 := hB.k
      have g5 := hB.t
      have g6 := hB.a
      have g7 := hB.b
      simp only at g0 g1 g2 g3 g4 g5 g6 g7
      have hltI : (k : Int) < (n : Int) := by omega
      have hk0 : (0 : Int) ≤ (k : Int) := by omega
      clear hA0 hB0 hA hB hp
      go_wp2
      go_region_held3 (fun wx => (wx.cell? ⟨b1, o1 + k * 4, none⟩ = some (.int .i64 pk) ∧ wx.cell? ⟨b1, o1 + k * 4 + 1, none⟩ = some (.string pt) ∧ wx.cell? ⟨b1, o1 + k * 4 + 2, none⟩ = some (.int .i64 pa) ∧ wx.cell? ⟨b1, o1 + k * 4 + 3, none⟩ = some (.int .i64 pb) ∧ wx.cell? ⟨b2, o2 + k * 4, none⟩ = some (.int .i64 pk) ∧ wx.cell? ⟨b2, o2 + k * 4 + 1, none⟩ = some (.string pt) ∧ wx.cell? ⟨b2, o2 + k * 4 + 2, none⟩ = some (.int .i64 pa) ∧ wx.cell? ⟨b2, o2 + k * 4 + 3, none⟩ = some (.int .i64 pb)) ∧ Below wr.heap.size wr wx) (first | exact ⟨⟨g0, g1, g2, g3, g4, g5, g6, g7⟩, (Below.refl _ _).drew⟩ | exact keepP (by assumption) (by assumption) (Nat.le_refl _)) ((go_at_call 40; refine (eqPart_same pk pt pa pb _).mono ?_; rintro e w1 ⟨rfl, hb⟩))
      rename_i hHeld
      have B1 := hide (hbel.trans (hHeld.2.mono hbel.size))
      clear hHeld
      go_wp2
      go_roundw
      case rel => exact ⟨k + 1, by omega, by go_num, B1.out⟩
      case measure => simp [intOf]; omega
    · have hltI : ¬ (k : Int) < (n : Int) := by omega
      go_wp2
      go_ret
      exact ⟨rfl, hbel⟩
/-- How many bytes the texts of parts have. -/
def szs : List Pr → Nat
  | [] => 0
  | p :: l => p.t.size + szs l
theorem szs_append : ∀ l m : List Pr, szs (l ++ m) = szs l + szs m
  | [], m => by simp [szs]
  | p :: l, m => by simp [szs, szs_append l m]; omega
theorem szs_take (l : List Pr) (k : Nat) (hk : k < l.length) : szs (l.take (k + 1)) = szs (l.take k) + (l.getD k eP).t.size := by
  rw [List.take_succ_eq_append_getElem hk, szs_append]
  simp [szs, List.getD, List.getElem?_eq_getElem hk]
theorem szs_le (l : List Pr) (k : Nat) : szs (l.take k) ≤ szs l := by
  have := szs_append (l.take k) (l.drop k)
  rw [List.take_append_drop] at this
  omega
def wt (l : List Pr) : Nat := l.length + szs l
set_option maxRecDepth 100000 in
set_option maxHeartbeats 400000 in
theorem szPart_any (k : Int) (t : ByteArray) (a b : Int) (L : Int) (w : World) (hx : t.size ≤ 9223372036854775807) (h0 : 0 ≤ L) (h1 : L ≤ 1048576) (r : Int) (hr : r = if (t.size : Int) ≤ L then L - (t.size : Int) else -1) :
    Calls Try.prog 29 #[.agg #[.int .i64 k, .string t, .int .i64 a, .int .i64 b], .int .i64 L] w fun e w' => e = .returned (.int .i64 r) ∧ Below w.heap.size w w' := by
  have HR := hide hr
  clear hr
  by_cases hneg : L - (t.size : Int) < 0
  · go_enter Try.func29, Try.ntmps29
    go_wp2
    go_ret
    exact ⟨by rw [HR.out, if_neg (by omega)]; rfl, (Below.refl _ _).alloc (Nat.le_refl _) _⟩
  · go_enter Try.func29, Try.ntmps29
    go_wp2
    go_ret
    exact ⟨by rw [HR.out, if_pos (by omega)]; rfl, (Below.refl _ _).alloc (Nat.le_refl _) _⟩
set_option maxRecDepth 100000 in
set_option maxHeartbeats 1000000 in
theorem szPartS_any (a : Option Addr) (l : List Pr) (n cap : Nat) (L : Int) (w : World) (hn : l.length = n) (hm : n ≤ 9223372036854775807) (hs : SlP w a l) (hst : TxP l) (h0 : 0 ≤ L) (h1 : L ≤ 1048576) (r : Int) (hr : r = if (wt l : Int) ≤ L then L - (wt l : Int) else -1) :
    Calls Try.prog 9 #[.slice a n cap, .int .i64 L] w fun e w' => e = .returned (.int .i64 r) ∧ Below w.heap.size w w' := by
  have HR := hide hr
  have HS := hide hs
  have HN := hide hn
  have HST := hide hst
  clear hr hs hn hst
  have HW : Hid (wt l = n + szs l) := by show wt l = n + szs l; unfold wt; rw [HN.out]
  by_cases ha : L - (n : Int) < 0
  · go_enter Try.func9, Try.ntmps9
    go_wp2
    go_ret
    exact ⟨by rw [HR.out, HW.out, if_neg (by omega)]; rfl, Below.refl _ _⟩
  · go_enter Try.func9, Try.ntmps9
    go_wp2
    go_loopw [1, 5] (fun t i wr => ∃ k : Nat, k ≤ n ∧ i = .int .i64 k ∧ t = .int .i64 (L - (n : Int) - (szs (l.take k) : Int)) ∧ Hid ((szs (l.take k) : Int) ≤ L - (n : Int)) ∧ Below w.heap.size w wr) (fun _ i _ => n - (intOf i).toNat)
    case atStart => exact ⟨0, Nat.zero_le _, rfl, by simp [szs], by show (szs (l.take 0) : Int) ≤ L - (n : Int); simp [szs]; omega, Below.refl _ _⟩
    case round =>
      obtain ⟨k, hk, rfl, rfl, HK, hbel⟩ := hrel
      by_cases hlt : k < n
      · obtain ⟨b, off, rfl, hA0⟩ := HS.out k (by rw [HN.out]; exact hlt)
        have hA := hA0.base hbel (blk_lt hA0.k)
        have hltI : (k : Int) < (n : Int) := by omega
        have hsx := HST.out k (by rw [HN.out]; exact hlt)
        have htk := szs_take l k (by rw [HN.out]; exact hlt)
        have hle := szs_le l (k + 1)
        obtain ⟨⟨pk, x, pa, pb⟩, hp⟩ : ∃ p, p = l.getD k eP := ⟨_, rfl⟩
        rw [← hp] at hA hsx htk
        simp only at hsx htk
        have hq0 := hA.k
        have hq1 := hA.t
        have hq2 := hA.a
        have hq3 := hA.b
        simp only at hq0 hq1 hq2 hq3
        clear hA hA0 hp
        obtain ⟨c, hcc⟩ : ∃ c, c = L - (n : Int) - (szs (l.take k) : Int) := ⟨_, rfl⟩
        have hc0 : 0 ≤ c := by have := HK.out; omega
        have hc1 : c ≤ 1048576 := by omega
        rw [← hcc]
        have HC := hide hcc
        have HTK := hide htk
        have HLE := hide hle
        have B0 := hide hbel
        clear hcc htk hle hbel
        by_cases hfit : (x.size : Int) ≤ c
        · have C := hide (fun w => szPart_any pk x pa pb c w hsx hc0 hc1 _ rfl)
          simp only [if_pos hfit] at C
          obtain ⟨d, hd'⟩ : ∃ d, d = c - (x.size : Int) := ⟨_, rfl⟩
          simp only [← hd'] at C
          have hd0 : ¬ d < 0 := by omega
          have HD := hide hd'
          clear hd' hsx
          go_wp2_with fail
          refine (C.out _).mono ?_
          rintro e w1 ⟨rfl, hb1⟩
          have B1 := hide (B0.out.trans (hb1.mono B0.out.size))
          clear hb1
          go_wp2
          go_roundw
          case rel => exact ⟨k + 1, by omega, by go_num, by rw [HD.out, HC.out, HTK.out]; go_num, by show (szs (l.take (k + 1)) : Int) ≤ L - (n : Int); have := HC.out; have := HTK.out; omega, B1.out⟩
          case measure => simp [intOf]; omega
        · have C := hide (fun w => szPart_any pk x pa pb c w hsx hc0 hc1 _ rfl)
          simp only [if_neg hfit] at C
          have E : Hid (r = -1) := by show r = -1; have := HC.out; have := HTK.out; have := HLE.out; rw [HR.out, HW.out, if_neg (by omega)]
          clear hsx hfit
          go_wp2_with fail
          refine (C.out _).mono ?_
          rintro e w1 ⟨rfl, hb1⟩
          have B1 := hide (B0.out.trans (hb1.mono B0.out.size))
          clear hb1
          go_wp2
          go_ret
          exact ⟨by rw [E.out]; rfl, B1.out⟩
      · obtain rfl : k = n := by omega
        have hltI : ¬ (k : Int) < (k : Int) := by omega
        have e1 : l.take k = l := List.take_of_length_le (by rw [HN.out]; exact Nat.le_refl _)
        rw [e1] at HK ⊢
        have E : Hid (r = L - (k : Int) - (szs l : Int)) := by show r = _; have := HK.out; rw [HR.out, HW.out, if_pos (by omega)]; omega
        clear e1
        go_wp2
        go_ret
        exact ⟨by rw [E.out]; rfl, hbel⟩
end Go.Proofs.Ytkdiffpbljohkay.L5
