/-
  Contracts of the laws' own helpers: laws.markQueryS writes rising numbers and their texts into a list of parts that the caller owns, laws.heldQueryS finds them there.
-/
import Derived.Test.YthicdnkngpiccaxL4QuLists
import Derived.Test.YthicdnkngpiccaxL3MarkText
namespace Go.Proofs.Ythicdnkngpiccax.L4
open Go.RowKit L1 L3
set_option linter.unusedVariables false

def mkQ (c : Int) (n : Nat) : List Qr := (List.range n).map fun i : Nat => ⟨c + 5 * (i : Int), mkT (c + 5 * (i : Int) + 1), mkT (c + 5 * (i : Int) + 2), c + 5 * (i : Int) + 3, c + 5 * (i : Int) + 4⟩
theorem mkQ_len (c : Int) (n : Nat) : (mkQ c n).length = n := by simp [mkQ]
theorem mkQ_get (c : Int) (n j : Nat) (h : j < n) : (mkQ c n).getD j eQ = ⟨c + 5 * (j : Int), mkT (c + 5 * (j : Int) + 1), mkT (c + 5 * (j : Int) + 2), c + 5 * (j : Int) + 3, c + 5 * (j : Int) + 4⟩ := by
  simp [mkQ, List.getD, h]
theorem grown_belowQ {w w' : World} (h : Below w.heap.size w w') (row : Option Nat) : w.grownBy w' row := ⟨h.os, h.tape, h.output, h.size, fun k hk _ => h.block k hk⟩

set_option maxRecDepth 100000 in
set_option maxHeartbeats 4000000 in
theorem markQueryS_from (base : Nat) (v : Value) (l : List Qr) (n : Nat) (w : World) (c : Int) (hc0 : 0 < c) (hc1 : c ≤ 1073741824) (hn2 : n ≤ 1048576) (ho : w.ownsRow base 75 5 v n (flatQ l)) (hbase : base ≤ w.heap.size) :
    Calls Try.prog 24 #[v, .int .i64 c] w fun e w' => e = .returned (.int .i64 (c + 5 * (n : Int))) ∧ w'.ownsRow base 75 5 v n (flatQ (mkQ c n)) ∧ Below base w w' ∧ w.grownBy w' v.ownBlock := by
  obtain ⟨a, cap0, rfl, _, hl0⟩ := own_formQ ho
  by_cases hn0 : n = 0
  · subst hn0
    have hx : l = [] := List.eq_nil_of_length_eq_zero hl0
    subst hx
    have HO := hide ho
    clear ho hl0
    go_enter Try.func24, Try.ntmps24
    go_wp2
    go_loop [1, 5] (fun k i => k = .int .i64 c ∧ i = .int .i64 0) (fun _ _ => 0)
    case atStart => exact ⟨rfl, rfl⟩
    case round =>
      obtain ⟨rfl, rfl⟩ := hrel
      go_wp2
      go_ret
      exact ⟨by simp, HO.out, Below.refl _ _, World.grownBy.refl _ _⟩
  · obtain ⟨g, cap, e⟩ : ∃ g cap, Value.slice a n cap0 = .slice (some ⟨g, 0, none⟩) n cap := by
      rcases ho.2 with ⟨_, h0⟩ | ⟨g, cap, cur, hv, _⟩
      · omega
      · exact ⟨g, cap, hv⟩
    cases e
    have hge := (ho.lt g rfl).1
    have HO := hide ho
    have HL := hide hl0
    clear ho hl0 hn0
    go_enter Try.func24, Try.ntmps24
    go_wp2
    go_loopw [1, 5] (fun k i wr => ∃ (j : Nat) (ys : List Qr), j ≤ n ∧ i = .int .i64 j ∧ k = .int .i64 (c + 5 * (j : Int)) ∧ ys.length = n ∧ Hid (∀ t, t < j → ys.getD t eQ = (mkQ c n).getD t eQ) ∧
        wr.ownsRow base 75 5 (.slice (some ⟨g, 0, none⟩) n cap0) n (flatQ ys) ∧ Below base w wr ∧ w.grownBy wr (some g)) (fun _ i _ => n - (intOf i).toNat)
    case atStart => exact ⟨0, l, by omega, rfl, by simp, HL.out, fun t ht => absurd ht (Nat.not_lt_zero _), HO.out, Below.refl _ _, World.grownBy.refl _ _⟩
    case round =>
      obtain ⟨j, ys, hj, rfl, rfl, hyl, HY, hown, hbel, hgr⟩ := hrel
      by_cases hlt : j < n
      · have hltI : (j : Int) < (n : Int) := by omega
        have C1 := hide (fun w => markText_any (c + 5 * (j : Int) + 1) w (by omega) (by omega))
        have C2 := hide (fun w => markText_any (c + 5 * (j : Int) + 1 + 1) w (by omega) (by omega))
        have hlf : (flatQ ys).length = n * 5 := by rw [flatQ_len, hyl]
        obtain ⟨x, hx⟩ : ∃ x, x = mkT (c + 5 * (j : Int) + 1) := ⟨_, rfl⟩
        obtain ⟨y, hy⟩ : ∃ y, y = mkT (c + 5 * (j : Int) + 1 + 1) := ⟨_, rfl⟩
        simp only [← hx] at C1
        simp only [← hy] at C2
        have hsz := hbel.size
        have HLF := hide hlf
        have HX := hide hx
        have HYY := hide hy
        have HYL := hide hyl
        have hcl := hown.cellAt (j * 5) (by omega)
        have hfr := hown.frozenAt (j * 5)
        obtain ⟨u, hu⟩ : ∃ u, wr.cell? ⟨g, j * 5, none⟩ = some u := ⟨_, hcl.trans (List.getElem?_eq_getElem (by omega))⟩
        have hs0 := hown.stored (j * 5) (.int .i64 (c + 5 * (j : Int)))
        have O0 := hide hs0.1
        have B0 := hide (hbel.setCell (p := ⟨g, j * 5, none⟩) hge (.int .i64 (c + 5 * (j : Int))))
        have G0 := hide (hgr.trans hs0.2)
        clear hlf hown hbel hgr hx hy hyl hcl hs0
        go_wp2_with fail
        refine (C1.out _).mono ?_
        rintro e w1 ⟨rfl, hb1⟩
        have hown1 := own_belowT O0.out hb1
        have hcl := hown1.cellAt (j * 5 + 1) (by omega)
        have hfr1 := hown1.frozenAt (j * 5 + 1)
        obtain ⟨u1, hu1⟩ : ∃ u, w1.cell? ⟨g, j * 5 + 1, none⟩ = some u := ⟨_, hcl.trans (List.getElem?_eq_getElem (by rw [List.length_set, HLF.out]; omega))⟩
        have hs1 := hown1.stored (j * 5 + 1) (.string x)
        have B1 := hide ((B0.out.trans (hb1.mono (Nat.le_trans hbase B0.out.size))).setCell (p := ⟨g, j * 5 + 1, none⟩) hge (.string x))
        have G1 := hide (G0.out.trans ((grown_belowQ hb1 _).trans hs1.2))
        have O1 := hide hs1.1
        clear hown1 hcl hs1 hb1
        go_wp2_with fail
        refine (C2.out _).mono ?_
        rintro e w2 ⟨rfl, hb2⟩
        have hown2 := own_belowT O1.out hb2
        have hcl2 := hown2.cellAt (j * 5 + 2) (by omega)
        have hfr2 := hown2.frozenAt (j * 5 + 2)
        obtain ⟨u2, hu2⟩ : ∃ u, w2.cell? ⟨g, j * 5 + 2, none⟩ = some u := ⟨_, hcl2.trans (List.getElem?_eq_getElem (by rw [List.length_set, List.length_set, HLF.out]; omega))⟩
        have hcl3 := hown2.cellAt (j * 5 + 3) (by omega)
        have hfr3 := hown2.frozenAt (j * 5 + 3)
        obtain ⟨u3, hu3⟩ : ∃ u, w2.cell? ⟨g, j * 5 + 3, none⟩ = some u := ⟨_, hcl3.trans (List.getElem?_eq_getElem (by rw [List.length_set, List.length_set, HLF.out]; omega))⟩
        have hcl4 := hown2.cellAt (j * 5 + 4) (by omega)
        have hfr4 := hown2.frozenAt (j * 5 + 4)
        obtain ⟨u4, hu4⟩ : ∃ u, w2.cell? ⟨g, j * 5 + 4, none⟩ = some u := ⟨_, hcl4.trans (List.getElem?_eq_getElem (by rw [List.length_set, List.length_set, HLF.out]; omega))⟩
        have hs2 := hown2.stored (j * 5 + 2) (.string y)
        have hs3 := hs2.1.stored (j * 5 + 3) (.int .i64 (c + 5 * (j : Int) + 1 + 1 + 1))
        have hs4 := hs3.1.stored (j * 5 + 4) (.int .i64 (c + 5 * (j : Int) + 1 + 1 + 1 + 1))
        have hz1 := B1.out.size
        have B2 := hide ((((B1.out.trans (hb2.mono (Nat.le_trans hbase hz1))).setCell (p := ⟨g, j * 5 + 2, none⟩) hge (.string y)).setCell (p := ⟨g, j * 5 + 3, none⟩) hge (.int .i64 (c + 5 * (j : Int) + 1 + 1 + 1))).setCell (p := ⟨g, j * 5 + 4, none⟩) hge (.int .i64 (c + 5 * (j : Int) + 1 + 1 + 1 + 1)))
        have G2 := hide (G1.out.trans ((grown_belowQ hb2 _).trans (hs2.2.trans (hs3.2.trans hs4.2))))
        obtain ⟨WE, hWE⟩ : ∃ WE, WE = ((w2.setCell ⟨g, j * 5 + 2, none⟩ (.string y)).setCell ⟨g, j * 5 + 3, none⟩ (.int .i64 (c + 5 * (j : Int) + 1 + 1 + 1))).setCell ⟨g, j * 5 + 4, none⟩ (.int .i64 (c + 5 * (j : Int) + 1 + 1 + 1 + 1)) := ⟨_, rfl⟩
        have R : ∃ (j' : Nat) (ys' : List Qr), j' ≤ n ∧ Value.int .i64 ((j : Int) + 1) = .int .i64 j' ∧ Value.int .i64 (c + 5 * (j : Int) + 1 + 1 + 1 + 1 + 1) = .int .i64 (c + 5 * (j' : Int)) ∧ ys'.length = n ∧ Hid (∀ t, t < j' → ys'.getD t eQ = (mkQ c n).getD t eQ) ∧
            WE.ownsRow base 75 5 (.slice (some ⟨g, 0, none⟩) n cap0) n (flatQ ys') ∧ Below base w WE ∧ w.grownBy WE (some g) := by
          rw [hWE]
          refine ⟨j + 1, ys.set j ⟨c + 5 * (j : Int), x, y, c + 5 * (j : Int) + 1 + 1 + 1, c + 5 * (j : Int) + 1 + 1 + 1 + 1⟩, by omega, by simp, by simp; omega, by simpa using HYL.out, ?_, by rw [flatQ_set]; exact hs4.1, B2.out, G2.out⟩
          intro t ht
          by_cases e : t = j
          · subst e
            have e2 : c + 5 * (t : Int) + 2 = c + 5 * (t : Int) + 1 + 1 := by omega
            have e3 : c + 5 * (t : Int) + 3 = c + 5 * (t : Int) + 1 + 1 + 1 := by omega
            have e4 : c + 5 * (t : Int) + 4 = c + 5 * (t : Int) + 1 + 1 + 1 + 1 := by omega
            rw [mkQ_get c n t (by omega), e2, e3, e4, HX.out, HYY.out]
            simp [List.getD, HYL.out, hlt]
          · rw [← HY.out t (by omega)]
            simp [List.getD, Ne.symm e]
        rw [hWE] at R
        have HR := hide R
        clear hcl2 hcl3 hcl4 hs2 hs3 hs4 hown2 R hb2 hWE
        go_wp2
        go_roundw
        case rel => exact HR.out
        case measure => simp [intOf]; omega
      · obtain rfl : j = n := by omega
        have e : ys = mkQ c j := list_sameQ (mkQ_len c j) hyl (fun t ht => HY.out t ht)
        subst e
        have hltI : ¬ (j : Int) < (j : Int) := by omega
        clear hyl
        go_wp2
        go_ret
        exact ⟨rfl, hown, hbel, hgr⟩
theorem markQueryS_all (base : Nat) (v : Value) (l : List Qr) (n : Nat) (w : World) (hn2 : n ≤ 1048576) (ho : w.ownsRow base 75 5 v n (flatQ l)) (hbase : base ≤ w.heap.size) :
    Calls Try.prog 24 #[v, .int .i64 1] w fun e w' => e = .returned (.int .i64 (1 + 5 * (n : Int))) ∧ w'.ownsRow base 75 5 v n (flatQ (mkQ 1 n)) ∧ Below base w w' ∧ w.grownBy w' v.ownBlock :=
  markQueryS_from base v l n w 1 (by omega) (by omega) hn2 ho hbase
theorem keep1Q {wa wb : World} {B1 O1 N : Nat} {v1 : Value} {W : World} (h : wa.cell? ⟨B1, O1, none⟩ = some v1 ∧ Below N W wa) (hb : Below wa.heap.size wa wb) (hN : N ≤ W.heap.size) :
    wb.cell? ⟨B1, O1, none⟩ = some v1 ∧ Below N W wb :=
  ⟨(hb.cell (p := ⟨B1, O1, none⟩) (blk_lt h.1)).trans h.1, h.2.trans (hb.mono (Nat.le_trans hN h.2.size))⟩

set_option maxRecDepth 100000 in
set_option maxHeartbeats 4000000 in
theorem heldQueryS_any (a : Option Addr) (n cap : Nat) (w : World) (hn2 : n ≤ 1048576) (hs : SlQ w a (mkQ 1 n)) :
    Calls Try.prog 29 #[.slice a n cap, .int .i64 1] w fun e w' => e = .returned (.int .i64 (1 + 5 * (n : Int))) ∧ Below w.heap.size w w' := by
  have HS := hide hs
  clear hs
  go_enter Try.func29, Try.ntmps29
  go_wp2
  go_loopw [1, 5] (fun k i wr => ∃ j : Nat, j ≤ n ∧ i = .int .i64 j ∧ k = .int .i64 (1 + 5 * (j : Int)) ∧ Below w.heap.size w wr) (fun _ i _ => n - (intOf i).toNat)
  case atStart => exact ⟨0, by omega, rfl, rfl, Below.refl _ _⟩
  case round =>
    obtain ⟨j, hj, rfl, rfl, hbel⟩ := hrel
    by_cases hlt : j < n
    · obtain ⟨b, off, rfl, hA0⟩ := HS.out j (by rw [mkQ_len]; exact hlt)
      rw [mkQ_get 1 n j hlt] at hA0
      have hA := hA0.base hbel (blk_lt hA0.k)
      have hltI : (j : Int) < (n : Int) := by omega
      have hj0 : (0 : Int) ≤ (j : Int) := by omega
      have C1 := hide (fun w => markText_any (1 + 5 * (j : Int) + 1) w (by omega) (by omega))
      have C2 := hide (fun w => markText_any (1 + 5 * (j : Int) + 1 + 1) w (by omega) (by omega))
      obtain ⟨x, hx⟩ : ∃ x, x = mkT (1 + 5 * (j : Int) + 1) := ⟨_, rfl⟩
      obtain ⟨y, hy⟩ : ∃ y, y = mkT (1 + 5 * (j : Int) + 1 + 1) := ⟨_, rfl⟩
      have e2 : 1 + 5 * (j : Int) + 2 = 1 + 5 * (j : Int) + 1 + 1 := by omega
      have e3 : 1 + 5 * (j : Int) + 3 = 1 + 5 * (j : Int) + 1 + 1 + 1 := by omega
      have e4 : 1 + 5 * (j : Int) + 4 = 1 + 5 * (j : Int) + 1 + 1 + 1 + 1 := by omega
      rw [e2, e3, e4, ← hx, ← hy] at hA
      simp only [← hx] at C1
      simp only [← hy] at C2
      have hxx : (x.toList == x.toList) = true := by simp
      have hyy : (y.toList == y.toList) = true := by simp
      have hc0 := hA.k
      simp only at hc0
      have HA := hide hA
      have B0 := hide hbel
      clear hA0 hA hx hy hbel e2 e3 e4
      have hc1 := HA.out.n
      simp only at hc1
      go_wp2
      go_region_held3 (fun wx => wx.cell? ⟨b, off + j * 5 + 1, none⟩ = some (.string x) ∧ Below wr.heap.size wr wx) (first | exact ⟨hc1, (Below.refl _ _).drew⟩ | exact keep1Q (by assumption) (by assumption) (Nat.le_refl _)) ((go_at_call 50; refine (C1.out _).mono ?_; rintro e w1 ⟨rfl, hb⟩))
      rename_i hHeld
      have hb1 := hHeld.2
      have hA2 := HA.out.base hHeld.2 (blk_lt HA.out.k)
      have hd2 := hA2.v
      simp only at hd2
      clear hHeld hc0 hc1 hA2
      go_wp2
      go_region_held3 (fun wx => wx.cell? ⟨b, off + j * 5 + 2, none⟩ = some (.string y) ∧ Below wr.heap.size wr wx) (first | exact ⟨hd2, hb1.drew⟩ | exact keep1Q (by assumption) (by assumption) (Nat.le_refl _)) ((go_at_call 50; refine (C2.out _).mono ?_; rintro e w1 ⟨rfl, hb⟩))
      rename_i hHeld
      have B2 := hide (B0.out.trans (hHeld.2.mono B0.out.size))
      have hA3 := HA.out.base hHeld.2 (blk_lt HA.out.k)
      have hd3 := hA3.a
      have hd4 := hA3.b
      simp only at hd3 hd4
      clear hHeld hd2 hb1 hA3
      go_wp2
      go_roundw
      case rel => exact ⟨j + 1, by omega, by go_num, by simp; omega, B2.out⟩
      case measure => simp [intOf]; omega
    · have hltI : ¬ (j : Int) < (n : Int) := by omega
      obtain rfl : j = n := by omega
      go_wp2
      go_ret
      exact ⟨rfl, hbel⟩
end Go.Proofs.Ythicdnkngpiccax.L4
