/-
  Contract of the laws' own helper markStringS.
-/
import Derived.Test.YtfmfnlpajoikmaoStrMk
namespace Go.Proofs.Ytfmfnlpajoikmao.Str
open Go.RowKit L1 L3
set_option linter.unusedVariables false

set_option maxRecDepth 100000 in
set_option maxHeartbeats 4000000 in
theorem markStringS_from (base : Nat) (v : Value) (l : List ByteArray) (n : Nat) (w : World) (c : Int) (hcl0 : 0 < c) (hch : c ≤ 1073741824) (hn2 : n ≤ 1048576) (ho : w.ownsRow base 9 1 v n (mapS l)) (hbase : base ≤ w.heap.size) :
    Calls Try.prog 20 #[v, .int .i64 c] w fun e w' => e = .returned (.int .i64 (c + (n : Int))) ∧ w'.ownsRow base 9 1 v n (mapS (mkS c n)) ∧ Below base w w' ∧ w.grownBy w' v.ownBlock := by
  obtain ⟨a, cap0, rfl, _, hl0⟩ := own_formS ho
  by_cases hn0 : n = 0
  · subst hn0
    have hx : l = [] := List.eq_nil_of_length_eq_zero hl0
    subst hx
    have HO := hide ho
    clear ho hl0
    go_enter Try.func20, Try.ntmps20
    go_wp2
    go_loop [1, 5] (fun k i => k = .int .i64 c ∧ i = .int .i64 0) (fun _ _ => 0)
    case atStart => exact ⟨rfl, rfl⟩
    case round =>
      obtain ⟨rfl, rfl⟩ := hrel
      go_wp2
      go_ret
      exact ⟨by simp, HO.out, Below.refl _ _, World.grownBy.refl _ _⟩
  · obtain ⟨g, cap, e⟩ : ∃ g cap, Value.slice a n cap0 = .slice (some ⟨g, 0, none⟩) n cap := by
      rcases ho.2 with ⟨_, h0⟩ | ⟨g, cap, cur, hv, _⟩
      · omega
      · exact ⟨g, cap, hv⟩
    cases e
    have hge := (ho.lt g rfl).1
    have HO := hide ho
    have HL := hide hl0
    clear ho hl0 hn0
    go_enter Try.func20, Try.ntmps20
    go_wp2
    go_loopw [1, 5] (fun k i wr => ∃ (j : Nat) (ys : List ByteArray), j ≤ n ∧ i = .int .i64 j ∧ k = .int .i64 (c + (j : Int)) ∧ ys.length = n ∧ Hid (∀ t, t < j → ys.getD t e0 = (mkS c n).getD t e0) ∧
        wr.ownsRow base 9 1 (.slice (some ⟨g, 0, none⟩) n cap0) n (mapS ys) ∧ Below base w wr ∧ w.grownBy wr (some g)) (fun _ i _ => n - (intOf i).toNat)
    case atStart => exact ⟨0, l, by omega, rfl, by simp, HL.out, fun t ht => absurd ht (Nat.not_lt_zero _), HO.out, Below.refl _ _, World.grownBy.refl _ _⟩
    case round =>
      obtain ⟨j, ys, hj, rfl, rfl, hyl, HY, hown, hbel, hgr⟩ := hrel
      by_cases hlt : j < n
      · have hltI : (j : Int) < (n : Int) := by omega
        have C1 := hide (fun w => markText_any (c + (j : Int)) w (by omega) (by omega))
        obtain ⟨x, hx⟩ : ∃ x, x = mkT (c + (j : Int)) := ⟨_, rfl⟩
        simp only [← hx] at C1
        have hsz := hbel.size
        have HX := hide hx
        have HYL := hide hyl
        have O0 := hide hown
        have B0 := hide hbel
        have G0 := hide hgr
        clear hown hbel hgr hx hyl
        go_wp2_with fail
        refine (C1.out _).mono ?_
        rintro e w1 ⟨rfl, hb1⟩
        have hown1 := own_belowS O0.out hb1
        have hcl := hown1.cellAt j (by omega)
        have hfr := hown1.frozenAt j
        obtain ⟨u, hu⟩ : ∃ u, w1.cell? ⟨g, j, none⟩ = some u := ⟨_, hcl.trans (List.getElem?_eq_getElem (by simp [HYL.out]; omega))⟩
        have hs1 := hown1.stored j (.string x)
        have B1 := hide ((B0.out.trans (hb1.mono (Nat.le_trans hbase B0.out.size))).setCell (p := ⟨g, j, none⟩) hge (.string x))
        have G1 := hide (G0.out.trans ((grown_belowS hb1 _).trans hs1.2))
        have R : ∃ (j' : Nat) (ys' : List ByteArray), j' ≤ n ∧ Value.int .i64 ((j : Int) + 1) = .int .i64 j' ∧ Value.int .i64 (c + (j : Int) + 1) = .int .i64 (c + (j' : Int)) ∧ ys'.length = n ∧ Hid (∀ t, t < j' → ys'.getD t e0 = (mkS c n).getD t e0) ∧
            (w1.setCell ⟨g, j, none⟩ (.string x)).ownsRow base 9 1 (.slice (some ⟨g, 0, none⟩) n cap0) n (mapS ys') ∧ Below base w (w1.setCell ⟨g, j, none⟩ (.string x)) ∧ w.grownBy (w1.setCell ⟨g, j, none⟩ (.string x)) (some g) := by
          refine ⟨j + 1, ys.set j x, by omega, by simp, by simp; omega, by simpa using HYL.out, ?_, by rw [mapS_set]; exact hs1.1, B1.out, G1.out⟩
          intro t ht
          by_cases e : t = j
          · subst e
            rw [mkS_get c n t (by omega), HX.out]
            simp [List.getD, HYL.out, hlt]
          · rw [← HY.out t (by omega)]
            simp [List.getD, Ne.symm e]
        have HR := hide R
        clear hcl hs1 hown1 R hb1
        go_wp2
        go_roundw
        case rel => exact HR.out
        case measure => simp [intOf]; omega
      · obtain rfl : j = n := by omega
        have e : ys = mkS c j := list_sameS (mkS_len c j) hyl (fun t ht => HY.out t ht)
        subst e
        have hltI : ¬ (j : Int) < (j : Int) := by omega
        clear hyl
        go_wp2
        go_ret
        exact ⟨rfl, hown, hbel, hgr⟩
end Go.Proofs.Ytfmfnlpajoikmao.Str
