/-
  Contract of the laws' own helper markLabelS: it writes texts of rising numbers into a list of labels that the caller owns.
-/
import Derived.Test.YtohcjafklfemfamL3LabEq
import Derived.Test.YtohcjafklfemfamL3MarkText
namespace Go.Proofs.Ytohcjafklfemfam.L3
open Go.RowKit L1
set_option linter.unusedVariables false

def mkL (c : Int) (n : Nat) : List Lb := (List.range n).map fun i : Nat => (mkT (c + 2 * (i : Int)), mkT (c + 2 * (i : Int) + 1))
theorem mkL_len (c : Int) (n : Nat) : (mkL c n).length = n := by simp [mkL]
theorem mkL_get (c : Int) (n j : Nat) (h : j < n) : (mkL c n).getD j eL = (mkT (c + 2 * (j : Int)), mkT (c + 2 * (j : Int) + 1)) := by
  simp [mkL, List.getD, h]

theorem grown_below {w w' : World} (h : Below w.heap.size w w') (row : Option Nat) : w.grownBy w' row := ⟨h.os, h.tape, h.output, h.size, fun k hk _ => h.block k hk⟩
set_option maxRecDepth 100000 in
set_option maxHeartbeats 2000000 in
theorem markLabelS_from (base : Nat) (v : Value) (l : List Lb) (n : Nat) (w : World) (c : Int) (hc0 : 0 < c) (hc1 : c ≤ 1073741824) (hn2 : n ≤ 1048576) (ho : w.ownsRow base 87 2 v n (flatL l)) (hbase : base ≤ w.heap.size) :
    Calls Try.prog 47 #[v, .int .i64 c] w fun e w' => e = .returned (.int .i64 (c + 2 * (n : Int))) ∧ w'.ownsRow base 87 2 v n (flatL (mkL c n)) ∧ Below base w w' ∧ w.grownBy w' v.ownBlock := by
  obtain ⟨a, cap0, rfl, _, hl0⟩ := own_formL ho
  by_cases hn0 : n = 0
  · subst hn0
    have hx : l = [] := List.eq_nil_of_length_eq_zero hl0
    subst hx
    have HO := hide ho
    clear ho hl0
    go_enter Try.func47, Try.ntmps47
    go_wp2
    go_loop [1, 5] (fun k i => k = .int .i64 c ∧ i = .int .i64 0) (fun _ _ => 0)
    case atStart => exact ⟨rfl, rfl⟩
    case round =>
      obtain ⟨rfl, rfl⟩ := hrel
      go_wp2
      go_ret
      exact ⟨by simp, HO.out, Below.refl _ _, World.grownBy.refl _ _⟩
  · obtain ⟨g, cap, e⟩ : ∃ g cap, Value.slice a n cap0 = .slice (some ⟨g, 0, none⟩) n cap := by
      rcases ho.2 with ⟨_, h0⟩ | ⟨g, cap, cur, hv, _⟩
      · omega
      · exact ⟨g, cap, hv⟩
    cases e
    have hge := (ho.lt g rfl).1
    have HO := hide ho
    have HL := hide hl0
    clear ho hl0 hn0
    go_enter Try.func47, Try.ntmps47
    go_wp2
    go_loopw [1, 5] (fun k i wr => ∃ (j : Nat) (ys : List Lb), j ≤ n ∧ i = .int .i64 j ∧ k = .int .i64 (c + 2 * (j : Int)) ∧ ys.length = n ∧ Hid (∀ t, t < j → ys.getD t eL = (mkL c n).getD t eL) ∧
        wr.ownsRow base 87 2 (.slice (some ⟨g, 0, none⟩) n cap0) n (flatL ys) ∧ Below base w wr ∧ w.grownBy wr (some g)) (fun _ i _ => n - (intOf i).toNat)
    case atStart => exact ⟨0, l, by omega, rfl, by simp, HL.out, fun t ht => absurd ht (Nat.not_lt_zero _), HO.out, Below.refl _ _, World.grownBy.refl _ _⟩
    case round =>
      obtain ⟨j, ys, hj, rfl, rfl, hyl, HY, hown, hbel, hgr⟩ := hrel
      by_cases hlt : j < n
      · have hltI : (j : Int) < (n : Int) := by omega
        have C1 := hide (fun w => markText_any (c + 2 * (j : Int)) w (by omega) (by omega))
        have C2 := hide (fun w => markText_any (c + 2 * (j : Int) + 1) w (by omega) (by omega))
        have hlf : (flatL ys).length = n * 2 := by rw [flatL_len, hyl]
        obtain ⟨x, hx⟩ : ∃ x, x = mkT (c + 2 * (j : Int)) := ⟨_, rfl⟩
        obtain ⟨y, hy⟩ : ∃ y, y = mkT (c + 2 * (j : Int) + 1) := ⟨_, rfl⟩
        simp only [← hx] at C1
        simp only [← hy] at C2
        have hsz := hbel.size
        have HLF := hide hlf
        have HOW := hide hown
        have B0 := hide hbel
        have G0 := hide hgr
        have HX := hide hx
        have HYY := hide hy
        have HYL := hide hyl
        clear hlf hown hbel hgr hx hy hyl
        go_wp2_with fail
        refine (C1.out _).mono ?_
        rintro e w1 ⟨rfl, hb1⟩
        have hown1 := own_belowT HOW.out hb1
        have hcl := hown1.cellAt (j * 2) (by omega)
        have hfr := hown1.frozenAt (j * 2)
        obtain ⟨u, hu⟩ : ∃ u, w1.cell? ⟨g, j * 2, none⟩ = some u := ⟨_, hcl.trans (List.getElem?_eq_getElem (by rw [HLF.out]; omega))⟩
        have hs1 := hown1.stored (j * 2) (.string x)
        have B1 := hide ((B0.out.trans (hb1.mono (by omega))).setCell (p := ⟨g, j * 2, none⟩) hge (.string x))
        have G1 := hide (G0.out.trans ((grown_below hb1 _).trans hs1.2))
        have O1 := hide hs1.1
        clear hown1 hcl hs1 hb1
        go_wp2_with fail
        refine (C2.out _).mono ?_
        rintro e w2 ⟨rfl, hb2⟩
        have hown2 := own_belowT O1.out hb2
        have hcl := hown2.cellAt (j * 2 + 1) (by omega)
        have hfr2 := hown2.frozenAt (j * 2 + 1)
        obtain ⟨u2, hu2⟩ : ∃ u, w2.cell? ⟨g, j * 2 + 1, none⟩ = some u := ⟨_, hcl.trans (List.getElem?_eq_getElem (by rw [List.length_set, HLF.out]; omega))⟩
        have hs2 := hown2.stored (j * 2 + 1) (.string y)
        have hz1 := B1.out.size
        have B2 := hide ((B1.out.trans (hb2.mono (by omega))).setCell (p := ⟨g, j * 2 + 1, none⟩) hge (.string y))
        have G2 := hide (G1.out.trans ((grown_below hb2 _).trans hs2.2))
        have R : ∃ (j' : Nat) (ys' : List Lb), j' ≤ n ∧ Value.int .i64 ((j : Int) + 1) = .int .i64 j' ∧ Value.int .i64 (c + 2 * (j : Int) + 1 + 1) = .int .i64 (c + 2 * (j' : Int)) ∧ ys'.length = n ∧ Hid (∀ t, t < j' → ys'.getD t eL = (mkL c n).getD t eL) ∧
            (w2.setCell ⟨g, j * 2 + 1, none⟩ (.string y)).ownsRow base 87 2 (.slice (some ⟨g, 0, none⟩) n cap0) n (flatL ys') ∧ Below base w (w2.setCell ⟨g, j * 2 + 1, none⟩ (.string y)) ∧ w.grownBy (w2.setCell ⟨g, j * 2 + 1, none⟩ (.string y)) (some g) := by
          refine ⟨j + 1, ys.set j (x, y), by omega, by simp, by simp; omega, by simpa using HYL.out, ?_, by rw [flatL_set]; exact hs2.1, B2.out, G2.out⟩
          intro t ht
          by_cases e : t = j
          · subst e
            rw [mkL_get c n t (by omega), ← HX.out, ← HYY.out]
            simp [List.getD, HYL.out, hlt]
          · rw [← HY.out t (by omega)]
            simp [List.getD, Ne.symm e]
        have HR := hide R
        clear hcl hs2 hown2 R hb2
        go_wp2
        go_roundw
        case rel => exact HR.out
        case measure => simp [intOf]; omega
      · obtain rfl : j = n := by omega
        have e : ys = mkL c j := list_sameL (mkL_len c j) hyl (fun t ht => HY.out t ht)
        subst e
        have hltI : ¬ (j : Int) < (j : Int) := by omega
        clear hyl
        go_wp2
        go_ret
        exact ⟨rfl, hown, hbel, hgr⟩

theorem markLabelS_all (base : Nat) (v : Value) (l : List Lb) (n : Nat) (w : World) (hn2 : n ≤ 1048576) (ho : w.ownsRow base 87 2 v n (flatL l)) (hbase : base ≤ w.heap.size) :
    Calls Try.prog 47 #[v, .int .i64 1] w fun e w' => e = .returned (.int .i64 (1 + 2 * (n : Int))) ∧ w'.ownsRow base 87 2 v n (flatL (mkL 1 n)) ∧ Below base w w' ∧ w.grownBy w' v.ownBlock :=
  markLabelS_from base v l n w 1 (by omega) (by omega) hn2 ho hbase

end Go.Proofs.Ytohcjafklfemfam.L3
