/-
  Contract of the laws' own helper markToldS.
-/
import Derived.Test.YthmekhhfihjclafTriMk
namespace Go.Proofs.Ythmekhhfihjclaf.Tri
open Go.RowKit L1 L3
set_option linter.unusedVariables false

set_option maxRecDepth 100000 in
set_option maxHeartbeats 2000000 in
theorem markToldS_from (base : Nat) (v : Value) (l : List Tr) (n : Nat) (w : World) (c : Int) (hc0 : 0 < c) (hc1 : c ≤ 1073741824) (hn2 : n ≤ 1048576) (ho : w.ownsRow base 46 3 v n (flat3 l)) (hbase : base ≤ w.heap.size) :
    Calls Try.prog 17 #[v, .int .i64 c] w fun e w' => e = .returned (.int .i64 (c + 3 * (n : Int))) ∧ w'.ownsRow base 46 3 v n (flat3 (mk3 c n)) ∧ Below base w w' ∧ w.grownBy w' v.ownBlock := by
  obtain ⟨a, cap0, rfl, _, hl0⟩ := own_form3 ho
  by_cases hn0 : n = 0
  · subst hn0
    have hx : l = [] := List.eq_nil_of_length_eq_zero hl0
    subst hx
    have HO := hide ho
    clear ho hl0
    go_enter Try.func17, Try.ntmps17
    go_wp2
    go_loop [1, 5] (fun k i => k = .int .i64 c ∧ i = .int .i64 0) (fun _ _ => 0)
    case atStart => exact ⟨rfl, rfl⟩
    case round =>
      obtain ⟨rfl, rfl⟩ := hrel
      go_wp2
      go_ret
      exact ⟨by simp, HO.out, Below.refl _ _, World.grownBy.refl _ _⟩
  · obtain ⟨g, cap, e⟩ : ∃ g cap, Value.slice a n cap0 = .slice (some ⟨g, 0, none⟩) n cap := by
      rcases ho.2 with ⟨_, h0⟩ | ⟨g, cap, cur, hv, _⟩
      · omega
      · exact ⟨g, cap, hv⟩
    cases e
    have hge := (ho.lt g rfl).1
    have HO := hide ho
    have HL := hide hl0
    clear ho hl0 hn0
    go_enter Try.func17, Try.ntmps17
    go_wp2
    go_loopw [1, 5] (fun k i wr => ∃ (j : Nat) (ys : List Tr), j ≤ n ∧ i = .int .i64 j ∧ k = .int .i64 (c + 3 * (j : Int)) ∧ ys.length = n ∧ Hid (∀ t, t < j → ys.getD t e3 = (mk3 c n).getD t e3) ∧
        wr.ownsRow base 46 3 (.slice (some ⟨g, 0, none⟩) n cap0) n (flat3 ys) ∧ Below base w wr ∧ w.grownBy wr (some g)) (fun _ i _ => n - (intOf i).toNat)
    case atStart => exact ⟨0, l, by omega, rfl, by simp, HL.out, fun t ht => absurd ht (Nat.not_lt_zero _), HO.out, Below.refl _ _, World.grownBy.refl _ _⟩
    case round =>
      obtain ⟨j, ys, hj, rfl, rfl, hyl, HY, hown, hbel, hgr⟩ := hrel
      by_cases hlt : j < n
      · have hltI : (j : Int) < (n : Int) := by omega
        have C2 := hide (fun w => markText_any (c + 3 * (j : Int) + 1 + 1) w (by omega) (by omega))
        have hlf : (flat3 ys).length = n * 3 := by rw [flat3_len, hyl]
        have hcl := hown.cellAt (j * 3) (by omega)
        have hfr := hown.frozenAt (j * 3)
        obtain ⟨u, hu⟩ : ∃ u, wr.cell? ⟨g, j * 3, none⟩ = some u := ⟨_, hcl.trans (List.getElem?_eq_getElem (by omega))⟩
        have hs0 := hown.stored (j * 3) (.int .i64 (c + 3 * (j : Int)))
        have hcl1 := hs0.1.cellAt (j * 3 + 1) (by omega)
        have hfr1 := hs0.1.frozenAt (j * 3 + 1)
        obtain ⟨u1, hu1⟩ : ∃ u, (wr.setCell ⟨g, j * 3, none⟩ (.int .i64 (c + 3 * (j : Int)))).cell? ⟨g, j * 3 + 1, none⟩ = some u := ⟨_, hcl1.trans (List.getElem?_eq_getElem (by rw [List.length_set]; omega))⟩
        have hs1 := hs0.1.stored (j * 3 + 1) (.int .i64 (c + 3 * (j : Int) + 1))
        have B1 := hide ((hbel.setCell (p := ⟨g, j * 3, none⟩) hge (.int .i64 (c + 3 * (j : Int)))).setCell (p := ⟨g, j * 3 + 1, none⟩) hge (.int .i64 (c + 3 * (j : Int) + 1)))
        have G1 := hide ((hgr.trans hs0.2).trans hs1.2)
        have O1 := hide hs1.1
        obtain ⟨y, hy⟩ : ∃ y, y = mkT (c + 3 * (j : Int) + 1 + 1) := ⟨_, rfl⟩
        simp only [← hy] at C2
        have hsz := hbel.size
        have HLF := hide hlf
        have HYY := hide hy
        have HYL := hide hyl
        clear hlf hown hbel hgr hy hyl hcl hcl1 hs1 hs0
        go_wp2_with fail
        refine (C2.out _).mono ?_
        rintro e w2 ⟨rfl, hb2⟩
        have hown2 := own_below3 O1.out hb2
        have hcl := hown2.cellAt (j * 3 + 2) (by omega)
        have hfr2 := hown2.frozenAt (j * 3 + 2)
        obtain ⟨u2, hu2⟩ : ∃ u, w2.cell? ⟨g, j * 3 + 2, none⟩ = some u := ⟨_, hcl.trans (List.getElem?_eq_getElem (by rw [List.length_set, List.length_set, HLF.out]; omega))⟩
        have hs2 := hown2.stored (j * 3 + 2) (.string y)
        have hz1 := B1.out.size
        have B2 := hide ((B1.out.trans (hb2.mono (by omega))).setCell (p := ⟨g, j * 3 + 2, none⟩) hge (.string y))
        have G2 := hide (G1.out.trans ((grown_below3 hb2 _).trans hs2.2))
        have R : ∃ (j' : Nat) (ys' : List Tr), j' ≤ n ∧ Value.int .i64 ((j : Int) + 1) = .int .i64 j' ∧ Value.int .i64 (c + 3 * (j : Int) + 1 + 1 + 1) = .int .i64 (c + 3 * (j' : Int)) ∧ ys'.length = n ∧ Hid (∀ t, t < j' → ys'.getD t e3 = (mk3 c n).getD t e3) ∧
            (w2.setCell ⟨g, j * 3 + 2, none⟩ (.string y)).ownsRow base 46 3 (.slice (some ⟨g, 0, none⟩) n cap0) n (flat3 ys') ∧ Below base w (w2.setCell ⟨g, j * 3 + 2, none⟩ (.string y)) ∧ w.grownBy (w2.setCell ⟨g, j * 3 + 2, none⟩ (.string y)) (some g) := by
          refine ⟨j + 1, ys.set j (c + 3 * (j : Int), c + 3 * (j : Int) + 1, y), by omega, by simp, by simp; omega, by simpa using HYL.out, ?_, by rw [flat3_set]; exact hs2.1, B2.out, G2.out⟩
          intro t ht
          by_cases e : t = j
          · subst e
            rw [mk3_get c n t (by omega), ← HYY.out]
            simp [List.getD, HYL.out, hlt]
          · rw [← HY.out t (by omega)]
            simp [List.getD, Ne.symm e]
        have HR := hide R
        clear hcl hs2 hown2 R hb2
        go_wp2
        go_roundw
        case rel => exact HR.out
        case measure => simp [intOf]; omega
      · obtain rfl : j = n := by omega
        have e : ys = mk3 c j := list_same3 (mk3_len c j) hyl (fun t ht => HY.out t ht)
        subst e
        have hltI : ¬ (j : Int) < (j : Int) := by omega
        clear hyl
        go_wp2
        go_ret
        exact ⟨rfl, hown, hbel, hgr⟩
end Go.Proofs.Ythmekhhfihjclaf.Tri
