/-
  Contracts of the laws' own helpers laws.markBoolS and laws.heldBoolS.
-/
import Derived.Test.YtfjbiihiaoobhaiL9Bool
import Derived.Test.YtfjbiihiaoobhaiL4IntMarks
import Derived.Test.YtfjbiihiaoobhaiOwnG
namespace Go.Proofs.Ytfjbiihiaoobhai.L12
open Go.RowKit L1 L4 L9
set_option linter.unusedVariables false

def bq (c : Int) : Bool := c % 3 == 0
def mkB (c : Int) (n : Nat) : List Bool := (List.range n).map fun i : Nat => bq (c + (i : Int))
theorem mkB_len (c : Int) (n : Nat) : (mkB c n).length = n := by simp [mkB]
theorem mkB_get (c : Int) (n j : Nat) (h : j < n) : (mkB c n).getD j false = bq (c + (j : Int)) := by simp [mkB, List.getD, h]
set_option maxRecDepth 100000 in
set_option maxHeartbeats 1000000 in
theorem markBoolS_from (base : Nat) (v : Value) (xs : List Bool) (n : Nat) (w : World) (c : Int) (hc0 : 0 ≤ c) (hc1 : c ≤ 4294967296) (hn2 : n ≤ 1048576) (ho : w.ownsRow base 4 1 v n (xs.map Value.bool)) :
    Calls Try.prog 40 #[v, .int .i64 c] w fun e w' => e = .returned (.int .i64 (c + (n : Int))) ∧ w'.ownsRow base 4 1 v n ((mkB c n).map Value.bool) ∧ Below base w w' ∧ w.grownBy w' v.ownBlock := by
  have hl0 := ho.1
  simp at hl0
  by_cases hn0 : n = 0
  · subst hn0
    obtain ⟨a, cap, rfl, _, hl⟩ := own_formB ho
    have hx : xs = [] := List.eq_nil_of_length_eq_zero hl
    subst hx
    have HO := hide ho
    clear ho hl hl0
    go_enter Try.func40, Try.ntmps40
    go_wp2
    go_loop [1, 5] (fun k i => k = .int .i64 c ∧ i = .int .i64 0) (fun _ _ => 0)
    case atStart => exact ⟨rfl, rfl⟩
    case round =>
      obtain ⟨rfl, rfl⟩ := hrel
      go_wp2
      go_ret
      exact ⟨by simp, HO.out, Below.refl _ _, World.grownBy.refl _ _⟩
  · obtain ⟨g, cap, rfl⟩ : ∃ g cap, v = .slice (some ⟨g, 0, none⟩) n cap := by
      rcases ho.2 with ⟨_, h0⟩ | ⟨g, cap, cur, hv, _⟩
      · omega
      · exact ⟨g, cap, hv⟩
    have hge := Own.own_ge ho g rfl
    have HO := hide ho
    have HL := hide hl0
    clear ho hl0 hn0
    go_enter Try.func40, Try.ntmps40
    go_wp2
    go_loopw [1, 5] (fun k i wr => ∃ (j : Nat) (ys : List Bool), j ≤ n ∧ i = .int .i64 j ∧ k = .int .i64 (c + (j : Int)) ∧ ys.length = n ∧ Hid (∀ t, t < j → ys.getD t false = (mkB c n).getD t false) ∧
        wr.ownsRow base 4 1 (.slice (some ⟨g, 0, none⟩) n cap) n (ys.map Value.bool) ∧ Below base w wr ∧ w.grownBy wr (some g)) (fun _ i _ => n - (intOf i).toNat)
    case atStart => exact ⟨0, xs, by omega, rfl, by simp, HL.out, fun t ht => absurd ht (Nat.not_lt_zero _), HO.out, Below.refl _ _, World.grownBy.refl _ _⟩
    case round =>
      obtain ⟨j, ys, hj, rfl, rfl, hyl, HY, hown, hbel, hgr⟩ := hrel
      by_cases hlt : j < n
      · have hltI : (j : Int) < (n : Int) := by omega
        have hcl := hown.cellAt j (by omega)
        have hfr := hown.frozenAt j
        obtain ⟨u, hu⟩ : ∃ u, wr.cell? ⟨g, j, none⟩ = some u := ⟨_, hcl.trans (List.getElem?_eq_getElem (by simp; omega))⟩
        have hst := hown.stored j (.bool (bq (c + (j : Int))))
        have R : ∃ (j' : Nat) (ys' : List Bool), j' ≤ n ∧ Value.int .i64 ((j : Int) + 1) = .int .i64 j' ∧ Value.int .i64 (c + (j : Int) + 1) = .int .i64 (c + (j' : Int)) ∧ ys'.length = n ∧ Hid (∀ t, t < j' → ys'.getD t false = (mkB c n).getD t false) ∧
            (wr.setCell ⟨g, j, none⟩ (.bool (bq (c + (j : Int))))).ownsRow base 4 1 (.slice (some ⟨g, 0, none⟩) n cap) n (ys'.map Value.bool) ∧ Below base w (wr.setCell ⟨g, j, none⟩ (.bool (bq (c + (j : Int))))) ∧ w.grownBy (wr.setCell ⟨g, j, none⟩ (.bool (bq (c + (j : Int))))) (some g) := by
          refine ⟨j + 1, ys.set j (bq (c + (j : Int))), by omega, by simp, by simp; omega, by simpa using hyl, ?_, by rw [List.map_set]; exact hst.1, hbel.setCell (p := ⟨g, j, none⟩) hge _, hgr.trans hst.2⟩
          intro t ht
          by_cases e : t = j
          · subst e
            rw [mkB_get c n t (by omega)]
            simp [List.getD, hyl, hlt]
          · rw [← HY.out t (by omega)]
            simp [List.getD, Ne.symm e]
        have HR := hide R
        obtain ⟨q, hq⟩ : ∃ q, q = bq (c + (j : Int)) := ⟨_, rfl⟩
        rw [← hq] at HR
        have hbq : ((c + (j : Int)) % 3 == 0) = q := by rw [hq]; rfl
        clear hq
        clear hcl hst R hyl
        go_wp2
        go_roundw
        case rel => exact HR.out
        case measure => simp [intOf]; omega
      · obtain rfl : j = n := by omega
        have e : ys = mkB c j := list_sameB (mkB_len c j) hyl (fun t ht => HY.out t ht)
        subst e
        have hltI : ¬ (j : Int) < (j : Int) := by omega
        clear hyl
        go_wp2
        go_ret
        exact ⟨rfl, hown, hbel, hgr⟩

set_option maxRecDepth 100000 in
set_option maxHeartbeats 1000000 in
theorem heldBoolS_from (a : Option Addr) (n cap : Nat) (c : Int) (w : World) (hc0 : 0 ≤ c) (hc1 : c ≤ 4294967296) (hn2 : n ≤ 1048576) (hs : SlB w a (mkB c n)) :
    Calls Try.prog 41 #[.slice a n cap, .int .i64 c] w fun e w' => e = .returned (.int .i64 (c + (n : Int))) ∧ Below w.heap.size w w' := by
  have HS := hide hs
  clear hs
  go_enter Try.func41, Try.ntmps41
  go_wp2
  go_loop [1, 5] (fun k i => ∃ j : Nat, j ≤ n ∧ i = .int .i64 j ∧ k = .int .i64 (c + (j : Int))) (fun _ i => n - (intOf i).toNat)
  case atStart => exact ⟨0, by omega, rfl, by simp⟩
  case round =>
    obtain ⟨j, hj, rfl, rfl⟩ := hrel
    by_cases hlt : j < n
    · obtain ⟨b, off, rfl, hc⟩ := HS.out j (by rw [mkB_len]; exact hlt)
      rw [mkB_get c n j hlt] at hc
      have hltI : (j : Int) < (n : Int) := by omega
      obtain ⟨q, hq⟩ : ∃ q, q = bq (c + (j : Int)) := ⟨_, rfl⟩
      rw [← hq] at hc
      have hbq : ((c + (j : Int)) % 3 == 0) = q := by rw [hq]; rfl
      clear hq
      go_wp2
      go_round
      case rel => exact ⟨j + 1, by omega, by go_num, by go_num⟩
      case measure => simp [intOf]; omega
    · have hltI : ¬ (j : Int) < (n : Int) := by omega
      obtain rfl : j = n := by omega
      go_wp2
      go_ret
      exact ⟨rfl, Below.refl _ _⟩

end Go.Proofs.Ytfjbiihiaoobhai.L12
