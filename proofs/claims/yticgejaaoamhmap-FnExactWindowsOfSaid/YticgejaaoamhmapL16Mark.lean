/-
  Contracts of the laws' own helpers: laws.markSampleS writes rising numbers into a list of samples that the caller owns, laws.heldSampleS finds them there.
-/
import Derived.Test.YticgejaaoamhmapL2Size
import Derived.Test.YticgejaaoamhmapL2Lists2
namespace Go.Proofs.Yticgejaaoamhmap.L16
open Go.RowKit L1
set_option linter.unusedVariables false


def mk2 (n : Nat) : List (Int × Int) := (List.range n).map fun i : Nat => (1 + 2 * (i : Int), 1 + 2 * (i : Int) + 1)
theorem mk2_len (n : Nat) : (mk2 n).length = n := by simp [mk2]
theorem mk2_get (n j : Nat) (h : j < n) : (mk2 n).getD j (0, 0) = (1 + 2 * (j : Int), 1 + 2 * (j : Int) + 1) := by
  simp [mk2, List.getD, h]
set_option maxRecDepth 100000 in
set_option maxHeartbeats 1000000 in
theorem markSampleS_all (base : Nat) (v : Value) (l : List (Int × Int)) (n : Nat) (w : World) (hn2 : n ≤ 1048576) (ho : w.ownsRow base 42 2 v n (flat l)) :
    Calls Try.prog 13 #[v, .int .i64 1] w fun e w' => e = .returned (.int .i64 (1 + 2 * (n : Int))) ∧ w'.ownsRow base 42 2 v n (flat (mk2 n)) ∧ Below base w w' ∧ w.grownBy w' v.ownBlock := by
  obtain ⟨a, cap0, rfl, _, hl0⟩ := own_form2 ho
  by_cases hn0 : n = 0
  · subst hn0
    have hx : l = [] := List.eq_nil_of_length_eq_zero hl0
    subst hx
    have HO := hide ho
    clear ho hl0
    go_enter Try.func13, Try.ntmps13
    go_wp2
    go_loop [1, 5] (fun k i => k = .int .i64 1 ∧ i = .int .i64 0) (fun _ _ => 0)
    case atStart => exact ⟨rfl, rfl⟩
    case round =>
      obtain ⟨rfl, rfl⟩ := hrel
      go_wp2
      go_ret
      exact ⟨rfl, HO.out, Below.refl _ _, World.grownBy.refl _ _⟩
  · obtain ⟨g, cap, e⟩ : ∃ g cap, Value.slice a n cap0 = .slice (some ⟨g, 0, none⟩) n cap := by
      rcases ho.2 with ⟨_, h0⟩ | ⟨g, cap, cur, hv, _⟩
      · omega
      · exact ⟨g, cap, hv⟩
    cases e
    have hge := (ho.lt g rfl).1
    have HO := hide ho
    have HL := hide hl0
    clear ho hl0 hn0
    go_enter Try.func13, Try.ntmps13
    go_wp2
    go_loopw [1, 5] (fun k i wr => ∃ (j : Nat) (ys : List (Int × Int)), j ≤ n ∧ i = .int .i64 j ∧ k = .int .i64 (1 + 2 * (j : Int)) ∧ ys.length = n ∧ Hid (∀ t, t < j → ys.getD t (0, 0) = (mk2 n).getD t (0, 0)) ∧
        wr.ownsRow base 42 2 (.slice (some ⟨g, 0, none⟩) n cap0) n (flat ys) ∧ Below base w wr ∧ w.grownBy wr (some g)) (fun _ i _ => n - (intOf i).toNat)
    case atStart => exact ⟨0, l, by omega, rfl, rfl, HL.out, fun t ht => absurd ht (Nat.not_lt_zero _), HO.out, Below.refl _ _, World.grownBy.refl _ _⟩
    case round =>
      obtain ⟨j, ys, hj, rfl, rfl, hyl, HY, hown, hbel, hgr⟩ := hrel
      by_cases hlt : j < n
      · have hltI : (j : Int) < (n : Int) := by omega
        have hlf : (flat ys).length = n * 2 := by rw [flat_len, hyl]
        have hcl := hown.cellAt (j * 2) (by omega)
        have hcl1 := hown.cellAt (j * 2 + 1) (by omega)
        have hfr := hown.frozenAt (j * 2)
        have hfr1 := hown.frozenAt (j * 2 + 1)
        obtain ⟨u, hu⟩ : ∃ u, wr.cell? ⟨g, j * 2, none⟩ = some u := ⟨_, hcl.trans (List.getElem?_eq_getElem (by omega))⟩
        obtain ⟨u1, hu1⟩ : ∃ u, wr.cell? ⟨g, j * 2 + 1, none⟩ = some u := ⟨_, hcl1.trans (List.getElem?_eq_getElem (by omega))⟩
        have hs1 := hown.stored (j * 2) (.int .i64 (1 + 2 * (j : Int)))
        have hst := hs1.1.stored (j * 2 + 1) (.int .i64 (1 + 2 * (j : Int) + 1))
        have R : ∃ (j' : Nat) (ys' : List (Int × Int)), j' ≤ n ∧ Value.int .i64 ((j : Int) + 1) = .int .i64 j' ∧ Value.int .i64 (1 + 2 * (j : Int) + 1 + 1) = .int .i64 (1 + 2 * (j' : Int)) ∧ ys'.length = n ∧ Hid (∀ t, t < j' → ys'.getD t (0, 0) = (mk2 n).getD t (0, 0)) ∧
            ((wr.setCell ⟨g, j * 2, none⟩ (.int .i64 (1 + 2 * (j : Int)))).setCell ⟨g, j * 2 + 1, none⟩ (.int .i64 (1 + 2 * (j : Int) + 1))).ownsRow base 42 2 (.slice (some ⟨g, 0, none⟩) n cap0) n (flat ys') ∧ Below base w ((wr.setCell ⟨g, j * 2, none⟩ (.int .i64 (1 + 2 * (j : Int)))).setCell ⟨g, j * 2 + 1, none⟩ (.int .i64 (1 + 2 * (j : Int) + 1))) ∧ w.grownBy ((wr.setCell ⟨g, j * 2, none⟩ (.int .i64 (1 + 2 * (j : Int)))).setCell ⟨g, j * 2 + 1, none⟩ (.int .i64 (1 + 2 * (j : Int) + 1))) (some g) := by
          refine ⟨j + 1, ys.set j (1 + 2 * (j : Int), 1 + 2 * (j : Int) + 1), by omega, by simp, by simp; omega, by simpa using hyl, ?_, by rw [flat_set]; exact hst.1, (hbel.setCell (p := ⟨g, j * 2, none⟩) hge _).setCell (p := ⟨g, j * 2 + 1, none⟩) hge _, hgr.trans (hs1.2.trans hst.2)⟩
          intro t ht
          by_cases e : t = j
          · subst e
            rw [mk2_get n t (by omega)]
            simp [List.getD, hyl, hlt]
          · rw [← HY.out t (by omega)]
            simp [List.getD, Ne.symm e]
        have HR := hide R
        clear hcl hcl1 hst hs1 R hyl hlf
        go_wp2
        go_roundw
        case rel => exact HR.out
        case measure => simp [intOf]; omega
      · obtain rfl : j = n := by omega
        have e : ys = mk2 j := list_same2 (mk2_len j) hyl (fun t ht => HY.out t ht)
        subst e
        have hltI : ¬ (j : Int) < (j : Int) := by omega
        clear hyl
        go_wp2
        go_ret
        exact ⟨rfl, hown, hbel, hgr⟩

set_option maxRecDepth 100000 in
set_option maxHeartbeats 1000000 in
theorem heldSampleS_any (a : Option Addr) (n cap : Nat) (w : World) (hn2 : n ≤ 1048576) (hs : Sl2 w a (mk2 n)) :
    Calls Try.prog 14 #[.slice a n cap, .int .i64 1] w fun e w' => e = .returned (.int .i64 (1 + 2 * (n : Int))) ∧ Below w.heap.size w w' := by
  have HS := hide hs
  clear hs
  go_enter Try.func14, Try.ntmps14
  go_wp2
  go_loop [1, 5] (fun k i => ∃ j : Nat, j ≤ n ∧ i = .int .i64 j ∧ k = .int .i64 (1 + 2 * (j : Int))) (fun _ i => n - (intOf i).toNat)
  case atStart => exact ⟨0, by omega, rfl, rfl⟩
  case round =>
    obtain ⟨j, hj, rfl, rfl⟩ := hrel
    by_cases hlt : j < n
    · obtain ⟨b, off, rfl, hc, hd⟩ := HS.out j (by rw [mk2_len]; exact hlt)
      rw [mk2_get n j hlt] at hc hd
      have hltI : (j : Int) < (n : Int) := by omega
      go_wp2
      go_round
      case rel => exact ⟨j + 1, by omega, by go_num, by simp; omega⟩
      case measure => simp [intOf]; omega
    · have hltI : ¬ (j : Int) < (n : Int) := by omega
      obtain rfl : j = n := by omega
      go_wp2
      go_ret
      exact ⟨rfl, Below.refl _ _⟩
end Go.Proofs.Yticgejaaoamhmap.L16
