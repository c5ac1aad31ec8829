/-
  Contracts of the laws' own helpers: laws.markPartS writes rising numbers and their texts into a list of parts that the caller owns, laws.heldPartS finds them there.
-/
import Derived.Test.YtkdiffpbljohkayL5Lists
import Derived.Test.YtkdiffpbljohkayL3MarkText
namespace Go.Proofs.Ytkdiffpbljohkay.L5
open Go.RowKit L1 L4 L3
set_option linter.unusedVariables false

def mkP (c : Int) (n : Nat) : List Pr := (List.range n).map fun i : Nat => ⟨c + 4 * (i : Int), mkT (c + 4 * (i : Int) + 1), c + 4 * (i : Int) + 2, c + 4 * (i : Int) + 3⟩
theorem mkP_len (c : Int) (n : Nat) : (mkP c n).length = n := by simp [mkP]
theorem mkP_get (c : Int) (n j : Nat) (h : j < n) : (mkP c n).getD j eP = ⟨c + 4 * (j : Int), mkT (c + 4 * (j : Int) + 1), c + 4 * (j : Int) + 2, c + 4 * (j : Int) + 3⟩ := by
  simp [mkP, List.getD, h]
theorem grown_belowP {w w' : World} (h : Below w.heap.size w w') (row : Option Nat) : w.grownBy w' row := ⟨h.os, h.tape, h.output, h.size, fun k hk _ => h.block k hk⟩
set_option maxRecDepth 100000 in
set_option maxHeartbeats 4000000 in
theorem markPartS_from (base : Nat) (v : Value) (l : List Pr) (n : Nat) (w : World) (c : Int) (hc0 : 0 < c) (hc1 : c ≤ 1073741824) (hn2 : n ≤ 1048576) (ho : w.ownsRow base 55 4 v n (flatP l)) (hbase : base ≤ w.heap.size) :
    Calls Try.prog 14 #[v, .int .i64 c] w fun e w' => e = .returned (.int .i64 (c + 4 * (n : Int))) ∧ w'.ownsRow base 55 4 v n (flatP (mkP c n)) ∧ Below base w w' ∧ w.grownBy w' v.ownBlock := by
  obtain ⟨a, cap0, rfl, _, hl0⟩ := own_formP ho
  by_cases hn0 : n = 0
  · subst hn0
    have hx : l = [] := List.eq_nil_of_length_eq_zero hl0
    subst hx
    have HO := hide ho
    clear ho hl0
    go_enter Try.func14, Try.ntmps14
    go_wp2
    go_loop [1, 5] (fun k i => k = .int .i64 c ∧ i = .int .i64 0) (fun _ _ => 0)
    case atStart => exact ⟨rfl, rfl⟩
    case round =>
      obtain ⟨rfl, rfl⟩ := hrel
      go_wp2
      go_ret
      exact ⟨by simp, HO.out, Below.refl _ _, World.grownBy.refl _ _⟩
  · obtain ⟨g, cap, e⟩ : ∃ g cap, Value.slice a n cap0 = .slice (some ⟨g, 0, none⟩) n cap := by
      rcases ho.2 with ⟨_, h0⟩ | ⟨g, cap, cur, hv, _⟩
      · omega
      · exact ⟨g, cap, hv⟩
    cases e
    have hge := (ho.lt g rfl).1
    have HO := hide ho
    have HL := hide hl0
    clear ho hl0 hn0
    go_enter Try.func14, Try.ntmps14
    go_wp2
    go_loopw [1, 5] (fun k i wr => ∃ (j : Nat) (ys : List Pr), j ≤ n ∧ i = .int .i64 j ∧ k = .int .i64 (c + 4 * (j : Int)) ∧ ys.length = n ∧ Hid (∀ t, t < j → ys.getD t eP = (mkP c n).getD t eP) ∧
        wr.ownsRow base 55 4 (.slice (some ⟨g, 0, none⟩) n cap0) n (flatP ys) ∧ Below base w wr ∧ w.grownBy wr (some g)) (fun _ i _ => n - (intOf i).toNat)
    case atStart => exact ⟨0, l, by omega, rfl, by simp, HL.out, fun t ht => absurd ht (Nat.not_lt_zero _), HO.out, Below.refl _ _, World.grownBy.refl _ _⟩
    case round =>
      obtain ⟨j, ys, hj, rfl, rfl, hyl, HY, hown, hbel, hgr⟩ := hrel
      by_cases hlt : j < n
      · have hltI : (j : Int) < (n : Int) := by omega
        have C1 := hide (fun w => markText_any (c + 4 * (j : Int) + 1) w (by omega) (by omega))
        have hlf : (flatP ys).length = n * 4 := by rw [flatP_len, hyl]
        obtain ⟨x, hx⟩ : ∃ x, x = mkT (c + 4 * (j : Int) + 1) := ⟨_, rfl⟩
        simp only [← hx] at C1
        have hsz := hbel.size
        have HLF := hide hlf
        have HX := hide hx
        have HYL := hide hyl
        have hcl := hown.cellAt (j * 4) (by omega)
        have hfr := hown.frozenAt (j * 4)
        obtain ⟨u, hu⟩ : ∃ u, wr.cell? ⟨g, j * 4, none⟩ = some u := ⟨_, hcl.trans (List.getElem?_eq_getElem (by omega))⟩
        have hs0 := hown.stored (j * 4) (.int .i64 (c + 4 * (j : Int)))
        have O0 := hide hs0.1
        have B0 := hide (hbel.setCell (p := ⟨g, j * 4, none⟩) hge (.int .i64 (c + 4 * (j : Int))))
        have G0 := hide (hgr.trans hs0.2)
        clear hlf hown hbel hgr hx hyl hcl hs0
        go_wp2_with fail
        refine (C1.out _).mono ?_
        rintro e w1 ⟨rfl, hb1⟩
        have hown1 := own_belowT O0.out hb1
        have hcl := hown1.cellAt (j * 4 + 1) (by omega)
        have hfr1 := hown1.frozenAt (j * 4 + 1)
        obtain ⟨u1, hu1⟩ : ∃ u, w1.cell? ⟨g, j * 4 + 1, none⟩ = some u := ⟨_, hcl.trans (List.getElem?_eq_getElem (by rw [List.length_set, HLF.out]; omega))⟩
        have hcl2 := hown1.cellAt (j * 4 + 2) (by omega)
        have hfr2 := hown1.frozenAt (j * 4 + 2)
        obtain ⟨u2, hu2⟩ : ∃ u, w1.cell? ⟨g, j * 4 + 2, none⟩ = some u := ⟨_, hcl2.trans (List.getElem?_eq_getElem (by rw [List.length_set, HLF.out]; omega))⟩
        have hcl3 := hown1.cellAt (j * 4 + 3) (by omega)
        have hfr3 := hown1.frozenAt (j * 4 + 3)
        obtain ⟨u3, hu3⟩ : ∃ u, w1.cell? ⟨g, j * 4 + 3, none⟩ = some u := ⟨_, hcl3.trans (List.getElem?_eq_getElem (by rw [List.length_set, HLF.out]; omega))⟩
        have hs1 := hown1.stored (j * 4 + 1) (.string x)
        have hs2 := hs1.1.stored (j * 4 + 2) (.int .i64 (c + 4 * (j : Int) + 1 + 1))
        have hs3 := hs2.1.stored (j * 4 + 3) (.int .i64 (c + 4 * (j : Int) + 1 + 1 + 1))
        have B1 := hide ((((B0.out.trans (hb1.mono (Nat.le_trans hbase B0.out.size))).setCell (p := ⟨g, j * 4 + 1, none⟩) hge (.string x)).setCell (p := ⟨g, j * 4 + 2, none⟩) hge (.int .i64 (c + 4 * (j : Int) + 1 + 1))).setCell (p := ⟨g, j * 4 + 3, none⟩) hge (.int .i64 (c + 4 * (j : Int) + 1 + 1 + 1)))
        have G1 := hide (G0.out.trans ((grown_belowP hb1 _).trans (hs1.2.trans (hs2.2.trans hs3.2))))
        obtain ⟨WE, hWE⟩ : ∃ WE, WE = ((w1.setCell ⟨g, j * 4 + 1, none⟩ (.string x)).setCell ⟨g, j * 4 + 2, none⟩ (.int .i64 (c + 4 * (j : Int) + 1 + 1))).setCell ⟨g, j * 4 + 3, none⟩ (.int .i64 (c + 4 * (j : Int) + 1 + 1 + 1)) := ⟨_, rfl⟩
        have R : ∃ (j' : Nat) (ys' : List Pr), j' ≤ n ∧ Value.int .i64 ((j : Int) + 1) = .int .i64 j' ∧ Value.int .i64 (c + 4 * (j : Int) + 1 + 1 + 1 + 1) = .int .i64 (c + 4 * (j' : Int)) ∧ ys'.length = n ∧ Hid (∀ t, t < j' → ys'.getD t eP = (mkP c n).getD t eP) ∧
            WE.ownsRow base 55 4 (.slice (some ⟨g, 0, none⟩) n cap0) n (flatP ys') ∧ Below base w WE ∧ w.grownBy WE (some g) := by
          rw [hWE]
          refine ⟨j + 1, ys.set j ⟨c + 4 * (j : Int), x, c + 4 * (j : Int) + 1 + 1, c + 4 * (j : Int) + 1 + 1 + 1⟩, by omega, by simp, by simp; omega, by simpa using HYL.out, ?_, by rw [flatP_set]; exact hs3.1, B1.out, G1.out⟩
          intro t ht
          by_cases e : t = j
          · subst e
            have e2 : c + 4 * (t : Int) + 2 = c + 4 * (t : Int) + 1 + 1 := by omega
            have e3 : c + 4 * (t : Int) + 3 = c + 4 * (t : Int) + 1 + 1 + 1 := by omega
            rw [mkP_get c n t (by omega), e2, e3, HX.out]
            simp [List.getD, HYL.out, hlt]
          · rw [← HY.out t (by omega)]
            simp [List.getD, Ne.symm e]
        rw [hWE] at R
        have HR := hide R
        clear hcl hcl2 hcl3 hs1 hs2 hs3 hown1 R hb1 hWE
        go_wp2
        go_roundw
        case rel => exact HR.out
        case measure => simp [intOf]; omega
      · obtain rfl : j = n := by omega
        have e : ys = mkP c j := list_sameP (mkP_len c j) hyl (fun t ht => HY.out t ht)
        subst e
        have hltI : ¬ (j : Int) < (j : Int) := by omega
        clear hyl
        go_wp2
        go_ret
        exact ⟨rfl, hown, hbel, hgr⟩
theorem markPartS_all (base : Nat) (v : Value) (l : List Pr) (n : Nat) (w : World) (hn2 : n ≤ 1048576) (ho : w.ownsRow base 55 4 v n (flatP l)) (hbase : base ≤ w.heap.size) :
    Calls Try.prog 14 #[v, .int .i64 1] w fun e w' => e = .returned (.int .i64 (1 + 4 * (n : Int))) ∧ w'.ownsRow base 55 4 v n (flatP (mkP 1 n)) ∧ Below base w w' ∧ w.grownBy w' v.ownBlock :=
  markPartS_from base v l n w 1 (by omega) (by omega) hn2 ho hbase
theorem keep1P {wa wb : World} {B1 O1 N : Nat} {v1 : Value} {W : World} (h : wa.cell? ⟨B1, O1, none⟩ = some v1 ∧ Below N W wa) (hb : Below wa.heap.size wa wb) (hN : N ≤ W.heap.size) :
    wb.cell? ⟨B1, O1, none⟩ = some v1 ∧ Below N W wb :=
  ⟨(hb.cell (p := ⟨B1, O1, none⟩) (blk_lt h.1)).trans h.1, h.2.trans (hb.mono (Nat.le_trans hN h.2.size))⟩
set_option maxRecDepth 100000 in
set_option maxHeartbeats 4000000 in
theorem heldPartS_any (a : Option Addr) (n cap : Nat) (w : World) (hn2 : n ≤ 1048576) (hs : SlP w a (mkP 1 n)) :
    Calls Try.prog 15 #[.slice a n cap, .int .i64 1] w fun e w' => e = .returned (.int .i64 (1 + 4 * (n : Int))) ∧ Below w.heap.size w w' := by
  have HS := hide hs
  clear hs
  go_enter Try.func15, Try.ntmps15
  go_wp2
  go_loopw [1, 5] (fun k i wr => ∃ j : Nat, j ≤ n ∧ i = .int .i64 j ∧ k = .int .i64 (1 + 4 * (j : Int)) ∧ Below w.heap.size w wr) (fun _ i _ => n - (intOf i).toNat)
  case atStart => exact ⟨0, by omega, rfl, rfl, Below.refl _ _⟩
  case round =>
    obtain ⟨j, hj, rfl, rfl, hbel⟩ := hrel
    by_cases hlt : j < n
    · obtain ⟨b, off, rfl, hA0⟩ := HS.out j (by rw [mkP_len]; exact hlt)
      rw [mkP_get 1 n j hlt] at hA0
      have hA := hA0.base hbel (blk_lt hA0.k)
      have hltI : (j : Int) < (n : Int) := by omega
      have hj0 : (0 : Int) ≤ (j : Int) := by omega
      have C1 := hide (fun w => markText_any (1 + 4 * (j : Int) + 1) w (by omega) (by omega))
      obtain ⟨x, hx⟩ : ∃ x, x = mkT (1 + 4 * (j : Int) + 1) := ⟨_, rfl⟩
      have e2 : 1 + 4 * (j : Int) + 2 = 1 + 4 * (j : Int) + 1 + 1 := by omega
      have e3 : 1 + 4 * (j : Int) + 3 = 1 + 4 * (j : Int) + 1 + 1 + 1 := by omega
      rw [e2, e3, ← hx] at hA
      simp only [← hx] at C1
      have hxx : (x.toList == x.toList) = true := by simp
      have hc0 := hA.k
      simp only at hc0
      have HA := hide hA
      have B0 := hide hbel
      clear hA0 hA hx hbel e2 e3
      have hc1 := HA.out.t
      simp only at hc1
      go_wp2
      go_region_held3 (fun wx => wx.cell? ⟨b, off + j * 4 + 1, none⟩ = some (.string x) ∧ Below wr.heap.size wr wx) (first | exact ⟨hc1, (Below.refl _ _).drew⟩ | exact keep1P (by assumption) (by assumption) (Nat.le_refl _)) ((go_at_call 41; refine (C1.out _).mono ?_; rintro e w1 ⟨rfl, hb⟩))
      rename_i hHeld
      have B2 := hide (B0.out.trans (hHeld.2.mono B0.out.size))
      have hA3 := HA.out.base hHeld.2 (blk_lt HA.out.k)
      have hd3 := hA3.a
      have hd4 := hA3.b
      simp only at hd3 hd4
      clear hHeld hA3 hc0 hc1
      go_wp2
      go_roundw
      case rel => exact ⟨j + 1, by omega, by go_num, by simp; omega, B2.out⟩
      case measure => simp [intOf]; omega
    · have hltI : ¬ (j : Int) < (n : Int) := by omega
      obtain rfl : j = n := by omega
      go_wp2
      go_ret
      exact ⟨rfl, hbel⟩
end Go.Proofs.Ytkdiffpbljohkay.L5
