/-
  Contracts of the laws' own helpers on lists of a query's parts: laws.toQueryS copies a list into new memory, laws.eqQueryS says that two lists alike are alike, laws.szQueryS weighs one.
-/
import Derived.Test.YthicdnkngpiccaxL4Qu
import Derived.Test.YthicdnkngpiccaxL3LabSize
namespace Go.Proofs.Ythicdnkngpiccax.L4
open Go.RowKit L1 L3
set_option linter.unusedVariables false

set_option maxRecDepth 100000 in
set_option maxHeartbeats 400000 in
theorem toLabel_ex (x y : ByteArray) (w : World) :
    Calls Try.prog 12 #[.agg #[.string x, .string y]] w fun e w' => e = .returned (.agg #[.string x, .string y]) ∧ ∃ o1 o2 o3, ((w.alloc o1).alloc o2).alloc o3 = w' := by
  go_enter Try.func12, Try.ntmps12
  go_wp2
  refine bodyPost_ret (v := .agg #[.string x, .string y]) (by simp [results, Try.f12, go_sem]) rfl ⟨rfl, ?_⟩
  exact ⟨_, _, _, rfl⟩
set_option maxRecDepth 100000 in
set_option maxHeartbeats 1000000 in
theorem toQuery_any (k : Int) (n v : ByteArray) (a b : Int) (w : World) :
    Calls Try.prog 47 #[.agg #[.int .i64 k, .string n, .string v, .int .i64 a, .int .i64 b]] w fun e w' => e = .returned (.agg #[.int .i64 k, .string n, .string v, .int .i64 a, .int .i64 b]) ∧ Below w.heap.size w w' := by
  go_enter Try.func47, Try.ntmps47
  go_wp2_with fail
  refine (toLabel_ex n v _).mono ?_
  rintro e w1 ⟨rfl, o1, o2, o3, rfl⟩
  go_wp2
  refine bodyPost_ret (v := .agg #[.int .i64 k, .string n, .string v, .int .i64 a, .int .i64 b]) (by simp [results, Try.f47, go_sem]) rfl ⟨rfl, ?_⟩
  exact ((((((Below.refl _ _).alloc (Nat.le_refl _) _).alloc (by simp) _).alloc (by simp; omega) _).alloc (by simp; omega) _).alloc (by simp; omega) _).alloc (by simp; omega) _
set_option maxRecDepth 100000 in
set_option maxHeartbeats 400000 in
theorem eqLabel_ex (x y : ByteArray) (w : World) :
    Calls Try.prog 66 #[.agg #[.string x, .string y], .agg #[.string x, .string y]] w fun e w' => e = .returned (.bool true) ∧ ∃ o1 o2, (w.alloc o1).alloc o2 = w' := by
  go_enter Try.func66, Try.ntmps66
  go_wp2
  go_ret
  exact ⟨rfl, _, _, rfl⟩
set_option maxRecDepth 100000 in
set_option maxHeartbeats 1000000 in
theorem eqQuery_same (k : Int) (n v : ByteArray) (a b : Int) (w : World) :
    Calls Try.prog 49 #[.agg #[.int .i64 k, .string n, .string v, .int .i64 a, .int .i64 b], .agg #[.int .i64 k, .string n, .string v, .int .i64 a, .int .i64 b]] w fun e w' => e = .returned (.bool true) ∧ Below w.heap.size w w' := by
  go_enter Try.func49, Try.ntmps49
  go_wp2_with fail
  refine (eqLabel_ex n v _).mono ?_
  rintro e w1 ⟨rfl, o1, o2, rfl⟩
  go_wp2
  go_ret
  exact ⟨rfl, ((((Below.refl _ _).alloc (Nat.le_refl _) _).alloc (by simp) _).alloc (by simp; omega) _).alloc (by simp; omega) _⟩

theorem made_qs (n : Nat) : (madeCells (Value.agg #[.int .i64 0, .string ByteArray.empty, .string ByteArray.empty, .int .i64 0, .int .i64 0]).cells (n * 5)).toList = flatQ (List.replicate n eQ) := by
  apply List.ext_getElem?
  intro j
  by_cases hj : j < n * 5
  · have hi : j / 5 < (List.replicate n eQ).length := by simp; omega
    obtain ⟨f1, f2, f3, f4, f5⟩ := flatQ_get (List.replicate n eQ) (j / 5) hi
    have hg : (List.replicate n eQ).getD (j / 5) eQ = eQ := by
      simp [List.getD, List.getElem?_replicate]; split <;> rfl
    rw [hg] at f1 f2 f3 f4 f5
    have hm : (madeCells (Value.agg #[.int .i64 0, .string ByteArray.empty, .string ByteArray.empty, .int .i64 0, .int .i64 0]).cells (n * 5)).toList[j]? = [Value.int .i64 0, .string ByteArray.empty, .string ByteArray.empty, .int .i64 0, .int .i64 0][j % 5]? := by
      simp only [madeCells, Value.cells, Array.toList_map, Array.toList_range, List.getElem?_map]
      rw [List.getElem?_range hj]
      simp only [Option.map_some, List.size_toArray, List.length_cons, List.length_nil]
      have h01 : j % 5 = 0 ∨ j % 5 = 1 ∨ j % 5 = 2 ∨ j % 5 = 3 ∨ j % 5 = 4 := by omega
      rcases h01 with h | h | h | h | h <;> simp [h]
    rw [hm]
    have h01 : j % 5 = 0 ∨ j % 5 = 1 ∨ j % 5 = 2 ∨ j % 5 = 3 ∨ j % 5 = 4 := by omega
    rcases h01 with h | h | h | h | h
    · rw [h, show j = j / 5 * 5 by omega, f1]; rfl
    · rw [h, show j = j / 5 * 5 + 1 by omega, f2]; rfl
    · rw [h, show j = j / 5 * 5 + 2 by omega, f3]; rfl
    · rw [h, show j = j / 5 * 5 + 3 by omega, f4]; rfl
    · rw [h, show j = j / 5 * 5 + 4 by omega, f5]; rfl
  · rw [List.getElem?_eq_none (by simp [size_madeCells]; omega), List.getElem?_eq_none (by rw [flatQ_len]; simp; omega)]

/-- One round of the copy. -/
theorem copy_roundQ {w wr : World} {xs ys : List Qr} {m k : Nat} {p : Qr} (hx : xs.getD k eQ = p) (hlt : k < m) (hm : xs.length = m) (hl : ys.length = m) (HX : ∀ j, j < k → ys.getD j eQ = xs.getD j eQ)
    (hown : wr.ownsRow w.heap.size 75 5 (.slice (some ⟨w.heap.size, 0, none⟩) m m) m (flatQ ys)) (hb : Below w.heap.size w wr) :
    ∃ (k' : Nat) (ys' : List Qr), k' ≤ m ∧ Value.int .i64 ((k : Int) + 1) = .int .i64 k' ∧ ys'.length = m ∧ Hid (∀ j, j < k' → ys'.getD j eQ = xs.getD j eQ) ∧
      (((((wr.setCell ⟨w.heap.size, k * 5, none⟩ (.int .i64 p.k)).setCell ⟨w.heap.size, k * 5 + 1, none⟩ (.string p.n)).setCell ⟨w.heap.size, k * 5 + 2, none⟩ (.string p.v)).setCell ⟨w.heap.size, k * 5 + 3, none⟩ (.int .i64 p.a)).setCell ⟨w.heap.size, k * 5 + 4, none⟩ (.int .i64 p.b)).ownsRow w.heap.size 75 5 (.slice (some ⟨w.heap.size, 0, none⟩) m m) m (flatQ ys') ∧ Below w.heap.size w (((((wr.setCell ⟨w.heap.size, k * 5, none⟩ (.int .i64 p.k)).setCell ⟨w.heap.size, k * 5 + 1, none⟩ (.string p.n)).setCell ⟨w.heap.size, k * 5 + 2, none⟩ (.string p.v)).setCell ⟨w.heap.size, k * 5 + 3, none⟩ (.int .i64 p.a)).setCell ⟨w.heap.size, k * 5 + 4, none⟩ (.int .i64 p.b)) := by
  have hst := ((((hown.stored (k * 5) (.int .i64 p.k)).1.stored (k * 5 + 1) (.string p.n)).1.stored (k * 5 + 2) (.string p.v)).1.stored (k * 5 + 3) (.int .i64 p.a)).1.stored (k * 5 + 4) (.int .i64 p.b)
  have hb2 := (((((hb.setCell (p := ⟨w.heap.size, k * 5, none⟩) (Nat.le_refl _) (.int .i64 p.k)).setCell (p := ⟨w.heap.size, k * 5 + 1, none⟩) (Nat.le_refl _) (.string p.n)).setCell (p := ⟨w.heap.size, k * 5 + 2, none⟩) (Nat.le_refl _) (.string p.v)).setCell (p := ⟨w.heap.size, k * 5 + 3, none⟩) (Nat.le_refl _) (.int .i64 p.a)).setCell (p := ⟨w.heap.size, k * 5 + 4, none⟩) (Nat.le_refl _) (.int .i64 p.b))
  refine ⟨k + 1, ys.set k p, by omega, by simp, by simpa using hl, ?_, by rw [flatQ_set]; exact hst.1, hb2⟩
  intro j hj
  by_cases e : j = k
  · subst e
    rw [hx]
    simp [List.getD, hl, hlt]
  · rw [← HX j (by omega)]
    simp [List.getD, Ne.symm e]
theorem list_sameQ {xs ys : List Qr} {m : Nat} (h1 : xs.length = m) (h2 : ys.length = m) (h : ∀ j, j < m → ys.getD j eQ = xs.getD j eQ) : ys = xs := by
  apply List.ext_getElem?
  intro j
  by_cases hj : j < m
  · have h := h j hj
    simp only [List.getD, List.getElem?_eq_getElem (show j < ys.length by omega), List.getElem?_eq_getElem (show j < xs.length by omega), Option.getD_some] at h
    rw [List.getElem?_eq_getElem (show j < ys.length by omega), List.getElem?_eq_getElem (show j < xs.length by omega), h]
  · rw [List.getElem?_eq_none (by omega), List.getElem?_eq_none (by omega)]

set_option maxRecDepth 100000 in
set_option maxHeartbeats 2000000 in
theorem toQueryS_any (a : Option Addr) (xs : List Qr) (n cap : Nat) (w : World) (hn : xs.length = n) (hs : SlQ w a xs) (hn2 : n ≤ 1048576) :
    Calls Try.prog 21 #[.slice a n cap] w fun e w' => e = .returned (.slice (some ⟨w.heap.size, 0, none⟩) n n) ∧
      w'.ownsRow w.heap.size 75 5 (.slice (some ⟨w.heap.size, 0, none⟩) n n) n (flatQ xs) ∧ Below w.heap.size w w' := by
  obtain ⟨i0, hi, hz0, hz1, hz2⟩ := info_parts info_qu
  obtain ⟨w1, hmk, hown1, hg1⟩ := run_make_full (P := Try.prog) w w.heap.size 42 75 i0 (.agg #[.int .i64 0, .string ByteArray.empty, .string ByteArray.empty, .int .i64 0, .int .i64 0]) 5 Try.underlying42 hi hz0 hz1 .i64 .i64 n (by rw [hz2]; omega) (by unfold maxLen; omega) (Nat.le_refl _)
  rw [made_qs] at hown1
  have hb1 : Below w.heap.size w w1 := (Below.refl _ _).grown hg1 (Nat.le_refl _) (fun k hk => by cases hk)
  have HO := hide hown1
  have HS := hide hs
  have HN := hide hn
  clear hown1 hg1 hs hn
  go_enter Try.func21, Try.ntmps21
  go_wp2
  go_loopw [4] (fun i wr => ∃ (k : Nat) (ys : List Qr), k ≤ n ∧ i = .int .i64 k ∧ ys.length = n ∧ Hid (∀ j, j < k → ys.getD j eQ = xs.getD j eQ) ∧
      wr.ownsRow w.heap.size 75 5 (.slice (some ⟨w.heap.size, 0, none⟩) n n) n (flatQ ys) ∧ Below w.heap.size w wr) (fun i _ => n - (intOf i).toNat)
  case atStart => exact ⟨0, List.replicate n eQ, Nat.zero_le _, rfl, by simp, fun j hj => absurd hj (Nat.not_lt_zero _), HO, hb1⟩
  case round =>
    obtain ⟨k, ys, hk, rfl, hyl, HX, hown, hbel⟩ := hrel
    have HL := hide hyl
    clear hyl
    by_cases hlt : k < n
    · obtain ⟨b, off, rfl, hA0⟩ := HS.out k (by rw [HN.out]; exact hlt)
      have hA := hA0.base hbel (blk_lt hA0.k)
      obtain ⟨⟨pk, pn, pv, pa, pb⟩, hp⟩ : ∃ p, p = xs.getD k eQ := ⟨_, rfl⟩
      rw [← hp] at hA
      have hc0 := hA.k
      have hc1 := hA.n
      have hc2 := hA.v
      have hc3 := hA.a
      have hc4 := hA.b
      simp only at hc0 hc1 hc2 hc3 hc4
      have hltI : (k : Int) < (n : Int) := by omega
      have HP := hide hp.symm
      have HO2 := hide hown
      have HB2 := hide hbel
      clear hA0 hA hp hown hbel
      go_wp2_with fail
      refine (toQuery_any pk pn pv pa pb _).mono ?_
      rintro e w2 ⟨rfl, hb2⟩
      have hown2 := own_belowT HO2.out hb2
      have hbel2 := HB2.out.trans (hb2.mono HB2.out.size)
      have hfl : (flatQ ys).length = n * 5 := by rw [flatQ_len, HL.out]
      have hcl0 := hown2.cellAt (k * 5) (by omega)
      have hfr0 := hown2.frozenAt (k * 5)
      obtain ⟨v0, hv0⟩ : ∃ v, w2.cell? ⟨w.heap.size, k * 5, none⟩ = some v := ⟨_, hcl0.trans (List.getElem?_eq_getElem (by omega))⟩
      have hcl1 := hown2.cellAt (k * 5 + 1) (by omega)
      have hfr1 := hown2.frozenAt (k * 5 + 1)
      obtain ⟨v1, hv1⟩ : ∃ v, w2.cell? ⟨w.heap.size, k * 5 + 1, none⟩ = some v := ⟨_, hcl1.trans (List.getElem?_eq_getElem (by omega))⟩
      have hcl2 := hown2.cellAt (k * 5 + 2) (by omega)
      have hfr2 := hown2.frozenAt (k * 5 + 2)
      obtain ⟨v2, hv2⟩ : ∃ v, w2.cell? ⟨w.heap.size, k * 5 + 2, none⟩ = some v := ⟨_, hcl2.trans (List.getElem?_eq_getElem (by omega))⟩
      have hcl3 := hown2.cellAt (k * 5 + 3) (by omega)
      have hfr3 := hown2.frozenAt (k * 5 + 3)
      obtain ⟨v3, hv3⟩ : ∃ v, w2.cell? ⟨w.heap.size, k * 5 + 3, none⟩ = some v := ⟨_, hcl3.trans (List.getElem?_eq_getElem (by omega))⟩
      have hcl4 := hown2.cellAt (k * 5 + 4) (by omega)
      have hfr4 := hown2.frozenAt (k * 5 + 4)
      obtain ⟨v4, hv4⟩ : ∃ v, w2.cell? ⟨w.heap.size, k * 5 + 4, none⟩ = some v := ⟨_, hcl4.trans (List.getElem?_eq_getElem (by omega))⟩
      have R := hide (copy_roundQ HP.out hlt HN.out HL.out HX.out hown2 hbel2)
      clear hcl0 hcl1 hcl2 hcl3 hcl4 hfl hown2 hbel2 hb2
      go_wp2
      go_roundw
      case rel => exact R.out
      case measure => simp [intOf]; omega
    · have e : ys = xs := list_sameQ HN.out HL.out (fun j hj => HX.out j (by omega))
      subst e
      have hltI : ¬ (k : Int) < (n : Int) := by omega
      go_wp2
      go_ret
      exact ⟨rfl, hown, hbel⟩

/-- Two parts stay where they are. -/
theorem keepQ {wa wb : World} {B1 O1 B2 O2 N : Nat} {k : Int} {n v : ByteArray} {a b : Int} {W : World} (h : (wa.cell? ⟨B1, O1, none⟩ = some (.int .i64 k) ∧ wa.cell? ⟨B1, O1 + 1, none⟩ = some (.string n) ∧ wa.cell? ⟨B1, O1 + 2, none⟩ = some (.string v) ∧ wa.cell? ⟨B1, O1 + 3, none⟩ = some (.int .i64 a) ∧ wa.cell? ⟨B1, O1 + 4, none⟩ = some (.int .i64 b) ∧ wa.cell? ⟨B2, O2, none⟩ = some (.int .i64 k) ∧ wa.cell? ⟨B2, O2 + 1, none⟩ = some (.string n) ∧ wa.cell? ⟨B2, O2 + 2, none⟩ = some (.string v) ∧ wa.cell? ⟨B2, O2 + 3, none⟩ = some (.int .i64 a) ∧ wa.cell? ⟨B2, O2 + 4, none⟩ = some (.int .i64 b)) ∧ Below N W wa) (hb : Below wa.heap.size wa wb) (hN : N ≤ W.heap.size) : (wb.cell? ⟨B1, O1, none⟩ = some (.int .i64 k) ∧ wb.cell? ⟨B1, O1 + 1, none⟩ = some (.string n) ∧ wb.cell? ⟨B1, O1 + 2, none⟩ = some (.string v) ∧ wb.cell? ⟨B1, O1 + 3, none⟩ = some (.int .i64 a) ∧ wb.cell? ⟨B1, O1 + 4, none⟩ = some (.int .i64 b) ∧ wb.cell? ⟨B2, O2, none⟩ = some (.int .i64 k) ∧ wb.cell? ⟨B2, O2 + 1, none⟩ = some (.string n) ∧ wb.cell? ⟨B2, O2 + 2, none⟩ = some (.string v) ∧ wb.cell? ⟨B2, O2 + 3, none⟩ = some (.int .i64 a) ∧ wb.cell? ⟨B2, O2 + 4, none⟩ = some (.int .i64 b)) ∧ Below N W wb := by
  obtain ⟨⟨h1, h2, h3, h4, h5, h6, h7, h8, h9, h10⟩, h11⟩ := h
  exact ⟨⟨(hb.cell (p := ⟨B1, O1, none⟩) (blk_lt h1)).trans h1, (hb.cell (p := ⟨B1, O1 + 1, none⟩) (blk_lt h2)).trans h2, (hb.cell (p := ⟨B1, O1 + 2, none⟩) (blk_lt h3)).trans h3, (hb.cell (p := ⟨B1, O1 + 3, none⟩) (blk_lt h4)).trans h4, (hb.cell (p := ⟨B1, O1 + 4, none⟩) (blk_lt h5)).trans h5, (hb.cell (p := ⟨B2, O2, none⟩) (blk_lt h6)).trans h6, (hb.cell (p := ⟨B2, O2 + 1, none⟩) (blk_lt h7)).trans h7, (hb.cell (p := ⟨B2, O2 + 2, none⟩) (blk_lt h8)).trans h8, (hb.cell (p := ⟨B2, O2 + 3, none⟩) (blk_lt h9)).trans h9, (hb.cell (p := ⟨B2, O2 + 4, none⟩) (blk_lt h10)).trans h10⟩, h11.trans (hb.mono (Nat.le_trans hN h11.size))⟩

set_option maxRecDepth 100000 in
set_option maxHeartbeats 2000000 in
theorem eqQueryS_same (a b : Option Addr) (xs : List Qr) (n c1 c2 : Nat) (w : World) (hn : xs.length = n) (ha : SlQ w a xs) (hb : SlQ w b xs) (hn2 : n ≤ 1048576) :
    Calls Try.prog 23 #[.slice a n c1, .slice b n c2] w fun e w' => e = .returned (.bool true) ∧ Below w.heap.size w w' := by
  have HA := hide ha
  have HB := hide hb
  have HN := hide hn
  clear ha hb hn
  go_enter Try.func23, Try.ntmps23
  go_wp2
  go_loopw [5] (fun i wr => ∃ k : Nat, k ≤ n ∧ i = .int .i64 k ∧ Below w.heap.size w wr) (fun i _ => n - (intOf i).toNat)
  case atStart => exact ⟨0, Nat.zero_le _, rfl, Below.refl _ _⟩
  case round =>
    obtain ⟨k, hk, rfl, hbel⟩ := hrel
    by_cases hlt : k < n
    · obtain ⟨b1, o1, rfl, hA0⟩ := HA.out k (by rw [HN.out]; exact hlt)
      obtain ⟨b2, o2, rfl, hB0⟩ := HB.out k (by rw [HN.out]; exact hlt)
      have hA := hA0.base hbel (blk_lt hA0.k)
      have hB := hB0.base hbel (blk_lt hB0.k)
      obtain ⟨⟨pk, pn, pv, pa, pb⟩, hp⟩ : ∃ p, p = xs.getD k eQ := ⟨_, rfl⟩
      rw [← hp] at hA hB
      have g0 := hA.k
      have g1 := hA.n
      have g2 := hA.v
      have g3 := hA.a
      have g4 := hA.b
      have g5 := hB.k
      have g6 := hB.n
      have g7 := hB.v
      have g8 := hB.a
      have g9 := hB.b
      simp only at g0 g1 g2 g3 g4 g5 g6 g7 g8 g9
      have hltI : (k : Int) < (n : Int) := by omega
      have hk0 : (0 : Int) ≤ (k : Int) := by omega
      clear hA0 hB0 hA hB hp
      go_wp2
      go_region_held3 (fun wx => (wx.cell? ⟨b1, o1 + k * 5, none⟩ = some (.int .i64 pk) ∧ wx.cell? ⟨b1, o1 + k * 5 + 1, none⟩ = some (.string pn) ∧ wx.cell? ⟨b1, o1 + k * 5 + 2, none⟩ = some (.string pv) ∧ wx.cell? ⟨b1, o1 + k * 5 + 3, none⟩ = some (.int .i64 pa) ∧ wx.cell? ⟨b1, o1 + k * 5 + 4, none⟩ = some (.int .i64 pb) ∧ wx.cell? ⟨b2, o2 + k * 5, none⟩ = some (.int .i64 pk) ∧ wx.cell? ⟨b2, o2 + k * 5 + 1, none⟩ = some (.string pn) ∧ wx.cell? ⟨b2, o2 + k * 5 + 2, none⟩ = some (.string pv) ∧ wx.cell? ⟨b2, o2 + k * 5 + 3, none⟩ = some (.int .i64 pa) ∧ wx.cell? ⟨b2, o2 + k * 5 + 4, none⟩ = some (.int .i64 pb)) ∧ Below wr.heap.size wr wx) (first | exact ⟨⟨g0, g1, g2, g3, g4, g5, g6, g7, g8, g9⟩, (Below.refl _ _).drew⟩ | exact keepQ (by assumption) (by assumption) (Nat.le_refl _)) ((go_at_call 49; refine (eqQuery_same pk pn pv pa pb _).mono ?_; rintro e w1 ⟨rfl, hb⟩))
      rename_i hHeld
      have B1 := hide (hbel.trans (hHeld.2.mono hbel.size))
      clear hHeld
      go_wp2
      go_roundw
      case rel => exact ⟨k + 1, by omega, by go_num, B1.out⟩
      case measure => simp [intOf]; omega
    · have hltI : ¬ (k : Int) < (n : Int) := by omega
      go_wp2
      go_ret
      exact ⟨rfl, hbel⟩

/-- The labels of parts. -/
def labs (l : List Qr) : List Lb := l.map fun p => (p.n, p.v)
theorem labs_len (l : List Qr) : (labs l).length = l.length := by simp [labs]
theorem labs_get (l : List Qr) (j : Nat) (h : j < l.length) : (labs l).getD j eL = ((l.getD j eQ).n, (l.getD j eQ).v) := by
  simp [labs, List.getD, List.getElem?_eq_getElem h]
theorem labs_take (l : List Qr) (k : Nat) : labs (l.take k) = (labs l).take k := by simp [labs, List.map_take]

set_option maxRecDepth 100000 in
set_option maxHeartbeats 400000 in
theorem szQuery_any (k : Int) (n v : ByteArray) (a b : Int) (L : Int) (w : World) (hx : n.size ≤ 9223372036854775807) (hy : v.size ≤ 9223372036854775807) (h0 : 0 ≤ L) (h1 : L ≤ 1048576) (r : Int) (hr : r = if ((n.size + v.size : Nat) : Int) ≤ L then L - ((n.size + v.size : Nat) : Int) else -1) :
    Calls Try.prog 45 #[.agg #[.int .i64 k, .string n, .string v, .int .i64 a, .int .i64 b], .int .i64 L] w fun e w' => e = .returned (.int .i64 r) ∧ Below w.heap.size w w' := by
  have C := hide (fun w => szLabel_any n v L w hx hy h0 h1 r hr)
  by_cases hneg : r < 0
  · have e1 : r = -1 := by rw [hr] at hneg ⊢; split at hneg <;> split <;> omega
    subst e1
    clear hr
    go_enter Try.func45, Try.ntmps45
    go_wp2_with fail
    refine (C.out _).mono ?_
    rintro e w1 ⟨rfl, hb1⟩
    have B1 := hide (((Below.refl _ _).alloc (Nat.le_refl _) _).trans (hb1.mono (by simp)))
    clear hb1
    go_wp2
    go_ret
    exact ⟨rfl, B1.out⟩
  · clear hr
    go_enter Try.func45, Try.ntmps45
    go_wp2_with fail
    refine (C.out _).mono ?_
    rintro e w1 ⟨rfl, hb1⟩
    have B1 := hide (((Below.refl _ _).alloc (Nat.le_refl _) _).trans (hb1.mono (by simp)))
    clear hb1
    go_wp2
    go_ret
    exact ⟨rfl, B1.out⟩

set_option maxRecDepth 100000 in
set_option maxHeartbeats 1000000 in
theorem szQueryS_any (a : Option Addr) (l : List Qr) (n cap : Nat) (L : Int) (w : World) (hn : l.length = n) (hm : n ≤ 9223372036854775807) (hs : SlQ w a l) (hst : TxQ l) (h0 : 0 ≤ L) (h1 : L ≤ 1048576) (r : Int) (hr : r = if (wt (labs l) : Int) ≤ L then L - (wt (labs l) : Int) else -1) :
    Calls Try.prog 19 #[.slice a n cap, .int .i64 L] w fun e w' => e = .returned (.int .i64 r) ∧ Below w.heap.size w w' := by
  have HR := hide hr
  have HS := hide hs
  have HN := hide hn
  have HST := hide hst
  clear hr hs hn hst
  have HW : Hid (wt (labs l) = n + szs (labs l)) := by show wt (labs l) = n + szs (labs l); unfold wt; rw [labs_len, HN.out]
  by_cases ha : L - (n : Int) < 0
  · go_enter Try.func19, Try.ntmps19
    go_wp2
    go_ret
    exact ⟨by rw [HR.out, HW.out, if_neg (by omega)]; rfl, Below.refl _ _⟩
  · go_enter Try.func19, Try.ntmps19
    go_wp2
    go_loopw [1, 5] (fun t i wr => ∃ k : Nat, k ≤ n ∧ i = .int .i64 k ∧ t = .int .i64 (L - (n : Int) - (szs (labs (l.take k)) : Int)) ∧ Hid ((szs (labs (l.take k)) : Int) ≤ L - (n : Int)) ∧ Below w.heap.size w wr) (fun _ i _ => n - (intOf i).toNat)
    case atStart => exact ⟨0, Nat.zero_le _, rfl, by simp [szs, labs], by show (szs (labs (l.take 0)) : Int) ≤ L - (n : Int); simp [szs, labs]; omega, Below.refl _ _⟩
    case round =>
      obtain ⟨k, hk, rfl, rfl, HK, hbel⟩ := hrel
      by_cases hlt : k < n
      · obtain ⟨b, off, rfl, hA0⟩ := HS.out k (by rw [HN.out]; exact hlt)
        have hA := hA0.base hbel (blk_lt hA0.k)
        have hltI : (k : Int) < (n : Int) := by omega
        have hsx := HST.out k (by rw [HN.out]; exact hlt)
        have htk := szs_take (labs l) k (by rw [labs_len, HN.out]; exact hlt)
        rw [← labs_take, ← labs_take, labs_get l k (by rw [HN.out]; exact hlt)] at htk
        have hle := szs_le (labs l) (k + 1)
        rw [← labs_take] at hle
        obtain ⟨⟨pk, x, y, pa, pb⟩, hp⟩ : ∃ p, p = l.getD k eQ := ⟨_, rfl⟩
        rw [← hp] at hA hsx htk
        simp only at hsx htk
        have hq0 := hA.k
        have hq1 := hA.n
        have hq2 := hA.v
        have hq3 := hA.a
        have hq4 := hA.b
        simp only at hq0 hq1 hq2 hq3 hq4
        clear hA hA0 hp
        obtain ⟨c, hcc⟩ : ∃ c, c = L - (n : Int) - (szs (labs (l.take k)) : Int) := ⟨_, rfl⟩
        have hc0 : 0 ≤ c := by have := HK.out; omega
        have hc1 : c ≤ 1048576 := by omega
        rw [← hcc]
        have HC := hide hcc
        have HTK := hide htk
        have HLE := hide hle
        have B0 := hide hbel
        clear hcc htk hle hbel
        by_cases hfit : ((x.size + y.size : Nat) : Int) ≤ c
        · have C := hide (fun w => szQuery_any pk x y pa pb c w hsx.1 hsx.2 hc0 hc1 _ rfl)
          simp only [if_pos hfit] at C
          obtain ⟨d, hd'⟩ : ∃ d, d = c - ((x.size + y.size : Nat) : Int) := ⟨_, rfl⟩
          simp only [← hd'] at C
          have hd0 : ¬ d < 0 := by omega
          have HD := hide hd'
          clear hd' hsx
          go_wp2_with fail
          refine (C.out _).mono ?_
          rintro e w1 ⟨rfl, hb1⟩
          have B1 := hide (B0.out.trans (hb1.mono B0.out.size))
          clear hb1
          go_wp2
          go_roundw
          case rel => exact ⟨k + 1, by omega, by go_num, by rw [HD.out, HC.out, HTK.out]; go_num, by show (szs (labs (l.take (k + 1))) : Int) ≤ L - (n : Int); have := HC.out; have := HTK.out; omega, B1.out⟩
          case measure => simp [intOf]; omega
        · have C := hide (fun w => szQuery_any pk x y pa pb c w hsx.1 hsx.2 hc0 hc1 _ rfl)
          simp only [if_neg hfit] at C
          have E : Hid (r = -1) := by show r = -1; have := HC.out; have := HTK.out; have := HLE.out; rw [HR.out, HW.out, if_neg (by omega)]
          clear hsx hfit
          go_wp2_with fail
          refine (C.out _).mono ?_
          rintro e w1 ⟨rfl, hb1⟩
          have B1 := hide (B0.out.trans (hb1.mono B0.out.size))
          clear hb1
          go_wp2
          go_ret
          exact ⟨by rw [E.out]; rfl, B1.out⟩
      · obtain rfl : k = n := by omega
        have hltI : ¬ (k : Int) < (k : Int) := by omega
        have e1 : l.take k = l := List.take_of_length_le (by rw [HN.out]; exact Nat.le_refl _)
        rw [e1] at HK ⊢
        have E : Hid (r = L - (k : Int) - (szs (labs l) : Int)) := by show r = _; have := HK.out; rw [HR.out, HW.out, if_pos (by omega)]; omega
        clear e1
        go_wp2
        go_ret
        exact ⟨by rw [E.out]; rfl, hbel⟩
end Go.Proofs.Ythicdnkngpiccax.L4
