/-
  Contracts of the laws' own helpers: laws.markIntS writes rising numbers into a list that the caller owns, laws.heldIntS finds them there.
  Contract of the laws' own helper markIntS from whatever number on.
  Contracts of the laws' own helpers laws.markRepl and laws.heldRepl over a new world of logs: who is down and who is in step are written over, and found so.
  A row of bytes as a text. Nothing of the program's text is proved here but closed facts on its types.
  Contract of the laws' own helper markText: the same text of a number each time.
  Contract of the laws' own helper markEntryS: it writes rising numbers and texts of them into a list of entries that the caller owns.
  Contract of the laws' own helper heldEntryS: it finds what markEntryS has written.
  Contract of the laws' own helper heldEntryS from whatever number on: it finds what markEntryS has written.
-/
import Derived.Test.YthmekhhfihjclbdBundle11
import Derived.Maps.AppendAt
import Derived.Test.YthmekhhfihjclbdBundle8
import Derived.Test.YthmekhhfihjclbdBundle1
import Derived.Test.YthmekhhfihjclbdBundle7
namespace Go.Proofs.Ythmekhhfihjclbd.L1
open Go.RowKit
set_option linter.unusedVariables false

set_option maxRecDepth 100000 in
set_option maxHeartbeats 1000000 in
theorem markIntS_all (base : Nat) (v : Value) (xs : List Int) (n : Nat) (w : World) (hn2 : n ≤ 1048576) (ho : w.ownsRow base 3 1 v n (xs.map (Value.int .i64))) :
    Calls Try.prog 46 #[v, .int .i64 1] w fun e w' => e = .returned (.int .i64 (1 + (n : Int))) ∧ w'.ownsRow base 3 1 v n ((marks 1 n).map (Value.int .i64)) ∧ Below base w w' ∧ w.grownBy w' v.ownBlock := by
  have hl0 := ho.1
  simp at hl0
  by_cases hn0 : n = 0
  · subst hn0
    obtain ⟨a, cap, rfl, _, hl⟩ := own_form ho
    have hx : xs = [] := List.eq_nil_of_length_eq_zero hl
    subst hx
    have HO := hide ho
    clear ho hl hl0
    go_enter Try.func46, Try.ntmps46
    go_wp2
    go_loop [1, 5] (fun k i => k = .int .i64 1 ∧ i = .int .i64 0) (fun _ _ => 0)
    case atStart => exact ⟨rfl, rfl⟩
    case round =>
      obtain ⟨rfl, rfl⟩ := hrel
      go_wp2
      go_ret
      exact ⟨rfl, HO.out, Below.refl _ _, World.grownBy.refl _ _⟩
  · obtain ⟨g, cap, rfl⟩ : ∃ g cap, v = .slice (some ⟨g, 0, none⟩) n cap := by
      rcases ho.2 with ⟨_, h0⟩ | ⟨g, cap, cur, hv, _⟩
      · omega
      · exact ⟨g, cap, hv⟩
    have hge := own_ge ho
    have HO := hide ho
    have HL := hide hl0
    clear ho hl0 hn0
    go_enter Try.func46, Try.ntmps46
    go_wp2
    go_loopw [1, 5] (fun k i wr => ∃ (j : Nat) (ys : List Int), j ≤ n ∧ i = .int .i64 j ∧ k = .int .i64 (1 + (j : Int)) ∧ ys.length = n ∧ Hid (∀ t, t < j → ys.getD t 0 = (marks 1 n).getD t 0) ∧
        wr.ownsRow base 3 1 (.slice (some ⟨g, 0, none⟩) n cap) n (ys.map (Value.int .i64)) ∧ Below base w wr ∧ w.grownBy wr (some g)) (fun _ i _ => n - (intOf i).toNat)
    case atStart => exact ⟨0, xs, by omega, rfl, rfl, HL.out, fun t ht => absurd ht (Nat.not_lt_zero _), HO.out, Below.refl _ _, World.grownBy.refl _ _⟩
    case round =>
      obtain ⟨j, ys, hj, rfl, rfl, hyl, HY, hown, hbel, hgr⟩ := hrel
      by_cases hlt : j < n
      · have hltI : (j : Int) < (n : Int) := by omega
        have hcl := hown.cellAt j (by omega)
        have hfr := hown.frozenAt j
        obtain ⟨u, hu⟩ : ∃ u, wr.cell? ⟨g, j, none⟩ = some u := ⟨_, hcl.trans (List.getElem?_eq_getElem (by simp; omega))⟩
        have hst := hown.stored j (.int .i64 (1 + (j : Int)))
        have R : ∃ (j' : Nat) (ys' : List Int), j' ≤ n ∧ Value.int .i64 ((j : Int) + 1) = .int .i64 j' ∧ Value.int .i64 (1 + (j : Int) + 1) = .int .i64 (1 + (j' : Int)) ∧ ys'.length = n ∧ Hid (∀ t, t < j' → ys'.getD t 0 = (marks 1 n).getD t 0) ∧
            (wr.setCell ⟨g, j, none⟩ (.int .i64 (1 + (j : Int)))).ownsRow base 3 1 (.slice (some ⟨g, 0, none⟩) n cap) n (ys'.map (Value.int .i64)) ∧ Below base w (wr.setCell ⟨g, j, none⟩ (.int .i64 (1 + (j : Int)))) ∧ w.grownBy (wr.setCell ⟨g, j, none⟩ (.int .i64 (1 + (j : Int)))) (some g) := by
          refine ⟨j + 1, ys.set j (1 + (j : Int)), by omega, by simp, by simp; omega, by simpa using hyl, ?_, by rw [List.map_set]; exact hst.1, hbel.setCell (p := ⟨g, j, none⟩) hge _, hgr.trans hst.2⟩
          intro t ht
          by_cases e : t = j
          · subst e
            rw [marks_get 1 n t (by omega)]
            simp [List.getD, hyl, hlt]
          · rw [← HY.out t (by omega)]
            simp [List.getD, Ne.symm e]
        have HR := hide R
        clear hcl hst R hyl
        go_wp2
        go_roundw
        case rel => exact HR.out
        case measure => simp [intOf]; omega
      · obtain rfl : j = n := by omega
        have e : ys = marks 1 j := list_same (marks_len 1 j) hyl (fun t ht => HY.out t ht)
        subst e
        have hltI : ¬ (j : Int) < (j : Int) := by omega
        clear hyl
        go_wp2
        go_ret
        exact ⟨rfl, hown, hbel, hgr⟩

theorem markIntS_any (base : Nat) (v : Value) (xs : List Int) (n : Nat) (w : World) (hn2 : n ≤ 1048576) (ho : w.ownsRow base 3 1 v n (xs.map (Value.int .i64))) :
    Calls Try.prog 46 #[v, .int .i64 1] w fun e w' => e = .returned (.int .i64 (1 + (n : Int))) ∧ w'.ownsRow base 3 1 v n ((marks 1 n).map (Value.int .i64)) ∧ Below base w w' :=
  (markIntS_all base v xs n w hn2 ho).mono fun e w' h => ⟨h.1, h.2.1, h.2.2.1⟩

set_option maxRecDepth 100000 in
set_option maxHeartbeats 1000000 in
theorem heldIntS_any (a : Option Addr) (n cap : Nat) (w : World) (hn2 : n ≤ 1048576) (hs : Sl w a (marks 1 n)) :
    Calls Try.prog 49 #[.slice a n cap, .int .i64 1] w fun e w' => e = .returned (.int .i64 (1 + (n : Int))) ∧ Below w.heap.size w w' := by
  have HS := hide hs
  clear hs
  go_enter Try.func49, Try.ntmps49
  go_wp2
  go_loop [1, 5] (fun k i => ∃ j : Nat, j ≤ n ∧ i = .int .i64 j ∧ k = .int .i64 (1 + (j : Int))) (fun _ i => n - (intOf i).toNat)
  case atStart => exact ⟨0, by omega, rfl, rfl⟩
  case round =>
    obtain ⟨j, hj, rfl, rfl⟩ := hrel
    by_cases hlt : j < n
    · obtain ⟨b, off, rfl, hc⟩ := HS.out j (by rw [marks_len]; exact hlt)
      rw [marks_get 1 n j hlt] at hc
      have hltI : (j : Int) < (n : Int) := by omega
      go_wp2
      go_round
      case rel => exact ⟨j + 1, by omega, by go_num, by go_num⟩
      case measure => simp [intOf]; omega
    · have hltI : ¬ (j : Int) < (n : Int) := by omega
      obtain rfl : j = n := by omega
      go_wp2
      go_ret
      exact ⟨rfl, Below.refl _ _⟩
end Go.Proofs.Ythmekhhfihjclbd.L1

namespace Go.Proofs.Ythmekhhfihjclbd.L4
open Go.RowKit L1
set_option linter.unusedVariables false

def mkC (c : Int) (n : Nat) : List Int := (List.range n).map fun i : Nat => c + (i : Int)
theorem mkC_len (c : Int) (n : Nat) : (mkC c n).length = n := by simp [mkC]
theorem mkC_get (c : Int) (n j : Nat) (h : j < n) : (mkC c n).getD j 0 = c + (j : Int) := by simp [mkC, List.getD, h]

set_option maxRecDepth 100000 in
set_option maxHeartbeats 1000000 in
theorem markIntS_from (base : Nat) (v : Value) (xs : List Int) (n : Nat) (w : World) (c : Int) (hc0 : 0 ≤ c) (hc1 : c ≤ 4294967296) (hn2 : n ≤ 1048576) (ho : w.ownsRow base 3 1 v n (xs.map (Value.int .i64))) :
    Calls Try.prog 46 #[v, .int .i64 c] w fun e w' => e = .returned (.int .i64 (c + (n : Int))) ∧ w'.ownsRow base 3 1 v n ((mkC c n).map (Value.int .i64)) ∧ Below base w w' ∧ w.grownBy w' v.ownBlock := by
  have hl0 := ho.1
  simp at hl0
  by_cases hn0 : n = 0
  · subst hn0
    obtain ⟨a, cap, rfl, _, hl⟩ := own_form ho
    have hx : xs = [] := List.eq_nil_of_length_eq_zero hl
    subst hx
    have HO := hide ho
    clear ho hl hl0
    go_enter Try.func46, Try.ntmps46
    go_wp2
    go_loop [1, 5] (fun k i => k = .int .i64 c ∧ i = .int .i64 0) (fun _ _ => 0)
    case atStart => exact ⟨rfl, rfl⟩
    case round =>
      obtain ⟨rfl, rfl⟩ := hrel
      go_wp2
      go_ret
      exact ⟨by simp, HO.out, Below.refl _ _, World.grownBy.refl _ _⟩
  · obtain ⟨g, cap, rfl⟩ : ∃ g cap, v = .slice (some ⟨g, 0, none⟩) n cap := by
      rcases ho.2 with ⟨_, h0⟩ | ⟨g, cap, cur, hv, _⟩
      · omega
      · exact ⟨g, cap, hv⟩
    have hge := own_ge ho
    have HO := hide ho
    have HL := hide hl0
    clear ho hl0 hn0
    go_enter Try.func46, Try.ntmps46
    go_wp2
    go_loopw [1, 5] (fun k i wr => ∃ (j : Nat) (ys : List Int), j ≤ n ∧ i = .int .i64 j ∧ k = .int .i64 (c + (j : Int)) ∧ ys.length = n ∧ Hid (∀ t, t < j → ys.getD t 0 = (mkC c n).getD t 0) ∧
        wr.ownsRow base 3 1 (.slice (some ⟨g, 0, none⟩) n cap) n (ys.map (Value.int .i64)) ∧ Below base w wr ∧ w.grownBy wr (some g)) (fun _ i _ => n - (intOf i).toNat)
    case atStart => exact ⟨0, xs, by omega, rfl, by simp, HL.out, fun t ht => absurd ht (Nat.not_lt_zero _), HO.out, Below.refl _ _, World.grownBy.refl _ _⟩
    case round =>
      obtain ⟨j, ys, hj, rfl, rfl, hyl, HY, hown, hbel, hgr⟩ := hrel
      by_cases hlt : j < n
      · have hltI : (j : Int) < (n : Int) := by omega
        have hcl := hown.cellAt j (by omega)
        have hfr := hown.frozenAt j
        obtain ⟨u, hu⟩ : ∃ u, wr.cell? ⟨g, j, none⟩ = some u := ⟨_, hcl.trans (List.getElem?_eq_getElem (by simp; omega))⟩
        have hst := hown.stored j (.int .i64 (c + (j : Int)))
        have R : ∃ (j' : Nat) (ys' : List Int), j' ≤ n ∧ Value.int .i64 ((j : Int) + 1) = .int .i64 j' ∧ Value.int .i64 (c + (j : Int) + 1) = .int .i64 (c + (j' : Int)) ∧ ys'.length = n ∧ Hid (∀ t, t < j' → ys'.getD t 0 = (mkC c n).getD t 0) ∧
            (wr.setCell ⟨g, j, none⟩ (.int .i64 (c + (j : Int)))).ownsRow base 3 1 (.slice (some ⟨g, 0, none⟩) n cap) n (ys'.map (Value.int .i64)) ∧ Below base w (wr.setCell ⟨g, j, none⟩ (.int .i64 (c + (j : Int)))) ∧ w.grownBy (wr.setCell ⟨g, j, none⟩ (.int .i64 (c + (j : Int)))) (some g) := by
          refine ⟨j + 1, ys.set j (c + (j : Int)), by omega, by simp, by simp; omega, by simpa using hyl, ?_, by rw [List.map_set]; exact hst.1, hbel.setCell (p := ⟨g, j, none⟩) hge _, hgr.trans hst.2⟩
          intro t ht
          by_cases e : t = j
          · subst e
            rw [mkC_get c n t (by omega)]
            simp [List.getD, hyl, hlt]
          · rw [← HY.out t (by omega)]
            simp [List.getD, Ne.symm e]
        have HR := hide R
        clear hcl hst R hyl
        go_wp2
        go_roundw
        case rel => exact HR.out
        case measure => simp [intOf]; omega
      · obtain rfl : j = n := by omega
        have e : ys = mkC c j := list_same (mkC_len c j) hyl (fun t ht => HY.out t ht)
        subst e
        have hltI : ¬ (j : Int) < (j : Int) := by omega
        clear hyl
        go_wp2
        go_ret
        exact ⟨rfl, hown, hbel, hgr⟩

end Go.Proofs.Ythmekhhfihjclbd.L4

namespace Go.Proofs.Ythmekhhfihjclbd.L9
open Go.RowKit L1 L4 L7
set_option linter.unusedVariables false

def bq (c : Int) : Bool := c % 3 == 0
def mkB (c : Int) (n : Nat) : List Bool := (List.range n).map fun i : Nat => bq (c + (i : Int))
theorem mkB_len (c : Int) (n : Nat) : (mkB c n).length = n := by simp [mkB]
theorem mkB_get (c : Int) (n j : Nat) (h : j < n) : (mkB c n).getD j false = bq (c + (j : Int)) := by simp [mkB, List.getD, h]
set_option maxRecDepth 100000 in
set_option maxHeartbeats 1000000 in
theorem markBoolS_from (base : Nat) (v : Value) (xs : List Bool) (n : Nat) (w : World) (c : Int) (hc0 : 0 ≤ c) (hc1 : c ≤ 4294967296) (hn2 : n ≤ 1048576) (ho : w.ownsRow base 4 1 v n (xs.map Value.bool)) :
    Calls Try.prog 33 #[v, .int .i64 c] w fun e w' => e = .returned (.int .i64 (c + (n : Int))) ∧ w'.ownsRow base 4 1 v n ((mkB c n).map Value.bool) ∧ Below base w w' ∧ w.grownBy w' v.ownBlock := by
  have hl0 := ho.1
  simp at hl0
  by_cases hn0 : n = 0
  · subst hn0
    obtain ⟨a, cap, rfl, _, hl⟩ := own_formB ho
    have hx : xs = [] := List.eq_nil_of_length_eq_zero hl
    subst hx
    have HO := hide ho
    clear ho hl hl0
    go_enter Try.func33, Try.ntmps33
    go_wp2
    go_loop [1, 5] (fun k i => k = .int .i64 c ∧ i = .int .i64 0) (fun _ _ => 0)
    case atStart => exact ⟨rfl, rfl⟩
    case round =>
      obtain ⟨rfl, rfl⟩ := hrel
      go_wp2
      go_ret
      exact ⟨by simp, HO.out, Below.refl _ _, World.grownBy.refl _ _⟩
  · obtain ⟨g, cap, rfl⟩ : ∃ g cap, v = .slice (some ⟨g, 0, none⟩) n cap := by
      rcases ho.2 with ⟨_, h0⟩ | ⟨g, cap, cur, hv, _⟩
      · omega
      · exact ⟨g, cap, hv⟩
    have hge := (L8.own_lt ho g rfl).1
    have HO := hide ho
    have HL := hide hl0
    clear ho hl0 hn0
    go_enter Try.func33, Try.ntmps33
    go_wp2
    go_loopw [1, 5] (fun k i wr => ∃ (j : Nat) (ys : List Bool), j ≤ n ∧ i = .int .i64 j ∧ k = .int .i64 (c + (j : Int)) ∧ ys.length = n ∧ Hid (∀ t, t < j → ys.getD t false = (mkB c n).getD t false) ∧
        wr.ownsRow base 4 1 (.slice (some ⟨g, 0, none⟩) n cap) n (ys.map Value.bool) ∧ Below base w wr ∧ w.grownBy wr (some g)) (fun _ i _ => n - (intOf i).toNat)
    case atStart => exact ⟨0, xs, by omega, rfl, by simp, HL.out, fun t ht => absurd ht (Nat.not_lt_zero _), HO.out, Below.refl _ _, World.grownBy.refl _ _⟩
    case round =>
      obtain ⟨j, ys, hj, rfl, rfl, hyl, HY, hown, hbel, hgr⟩ := hrel
      by_cases hlt : j < n
      · have hltI : (j : Int) < (n : Int) := by omega
        have hcl := hown.cellAt j (by omega)
        have hfr := hown.frozenAt j
        obtain ⟨u, hu⟩ : ∃ u, wr.cell? ⟨g, j, none⟩ = some u := ⟨_, hcl.trans (List.getElem?_eq_getElem (by simp; omega))⟩
        have hst := hown.stored j (.bool (bq (c + (j : Int))))
        have R : ∃ (j' : Nat) (ys' : List Bool), j' ≤ n ∧ Value.int .i64 ((j : Int) + 1) = .int .i64 j' ∧ Value.int .i64 (c + (j : Int) + 1) = .int .i64 (c + (j' : Int)) ∧ ys'.length = n ∧ Hid (∀ t, t < j' → ys'.getD t false = (mkB c n).getD t false) ∧
            (wr.setCell ⟨g, j, none⟩ (.bool (bq (c + (j : Int))))).ownsRow base 4 1 (.slice (some ⟨g, 0, none⟩) n cap) n (ys'.map Value.bool) ∧ Below base w (wr.setCell ⟨g, j, none⟩ (.bool (bq (c + (j : Int))))) ∧ w.grownBy (wr.setCell ⟨g, j, none⟩ (.bool (bq (c + (j : Int))))) (some g) := by
          refine ⟨j + 1, ys.set j (bq (c + (j : Int))), by omega, by simp, by simp; omega, by simpa using hyl, ?_, by rw [List.map_set]; exact hst.1, hbel.setCell (p := ⟨g, j, none⟩) hge _, hgr.trans hst.2⟩
          intro t ht
          by_cases e : t = j
          · subst e
            rw [mkB_get c n t (by omega)]
            simp [List.getD, hyl, hlt]
          · rw [← HY.out t (by omega)]
            simp [List.getD, Ne.symm e]
        have HR := hide R
        obtain ⟨q, hq⟩ : ∃ q, q = bq (c + (j : Int)) := ⟨_, rfl⟩
        rw [← hq] at HR
        have hbq : ((c + (j : Int)) % 3 == 0) = q := by rw [hq]; rfl
        clear hq
        clear hcl hst R hyl
        go_wp2
        go_roundw
        case rel => exact HR.out
        case measure => simp [intOf]; omega
      · obtain rfl : j = n := by omega
        have e : ys = mkB c j := list_sameB (mkB_len c j) hyl (fun t ht => HY.out t ht)
        subst e
        have hltI : ¬ (j : Int) < (j : Int) := by omega
        clear hyl
        go_wp2
        go_ret
        exact ⟨rfl, hown, hbel, hgr⟩

set_option maxRecDepth 100000 in
set_option maxHeartbeats 1000000 in
theorem heldBoolS_from (a : Option Addr) (n cap : Nat) (c : Int) (w : World) (hc0 : 0 ≤ c) (hc1 : c ≤ 4294967296) (hn2 : n ≤ 1048576) (hs : SlB w a (mkB c n)) :
    Calls Try.prog 34 #[.slice a n cap, .int .i64 c] w fun e w' => e = .returned (.int .i64 (c + (n : Int))) ∧ Below w.heap.size w w' := by
  have HS := hide hs
  clear hs
  go_enter Try.func34, Try.ntmps34
  go_wp2
  go_loop [1, 5] (fun k i => ∃ j : Nat, j ≤ n ∧ i = .int .i64 j ∧ k = .int .i64 (c + (j : Int))) (fun _ i => n - (intOf i).toNat)
  case atStart => exact ⟨0, by omega, rfl, by simp⟩
  case round =>
    obtain ⟨j, hj, rfl, rfl⟩ := hrel
    by_cases hlt : j < n
    · obtain ⟨b, off, rfl, hc⟩ := HS.out j (by rw [mkB_len]; exact hlt)
      rw [mkB_get c n j hlt] at hc
      have hltI : (j : Int) < (n : Int) := by omega
      obtain ⟨q, hq⟩ : ∃ q, q = bq (c + (j : Int)) := ⟨_, rfl⟩
      rw [← hq] at hc
      have hbq : ((c + (j : Int)) % 3 == 0) = q := by rw [hq]; rfl
      clear hq
      go_wp2
      go_round
      case rel => exact ⟨j + 1, by omega, by go_num, by go_num⟩
      case measure => simp [intOf]; omega
    · have hltI : ¬ (j : Int) < (n : Int) := by omega
      obtain rfl : j = n := by omega
      go_wp2
      go_ret
      exact ⟨rfl, Below.refl _ _⟩

set_option maxRecDepth 100000 in
set_option maxHeartbeats 1000000 in
theorem heldIntS_from (a : Option Addr) (n cap : Nat) (c : Int) (w : World) (hc0 : 0 ≤ c) (hc1 : c ≤ 4294967296) (hn2 : n ≤ 1048576) (hs : Sl w a (mkC c n)) :
    Calls Try.prog 49 #[.slice a n cap, .int .i64 c] w fun e w' => e = .returned (.int .i64 (c + (n : Int))) ∧ Below w.heap.size w w' := by
  have HS := hide hs
  clear hs
  go_enter Try.func49, Try.ntmps49
  go_wp2
  go_loop [1, 5] (fun k i => ∃ j : Nat, j ≤ n ∧ i = .int .i64 j ∧ k = .int .i64 (c + (j : Int))) (fun _ i => n - (intOf i).toNat)
  case atStart => exact ⟨0, by omega, rfl, by simp⟩
  case round =>
    obtain ⟨j, hj, rfl, rfl⟩ := hrel
    by_cases hlt : j < n
    · obtain ⟨b, off, rfl, hc⟩ := HS.out j (by rw [mkC_len]; exact hlt)
      rw [mkC_get c n j hlt] at hc
      have hltI : (j : Int) < (n : Int) := by omega
      go_wp2
      go_round
      case rel => exact ⟨j + 1, by omega, by go_num, by go_num⟩
      case measure => simp [intOf]; omega
    · have hltI : ¬ (j : Int) < (n : Int) := by omega
      obtain rfl : j = n := by omega
      go_wp2
      go_ret
      exact ⟨rfl, Below.refl _ _⟩


theorem ty6 : 30 ≠ 4 := by decide
set_option maxRecDepth 100000 in
set_option maxHeartbeats 400000 in
theorem markEntryS_nil (cap : Nat) (c : Int) (w : World) :
    Calls Try.prog 47 #[.slice none 0 cap, .int .i64 c] w fun e w' => e = .returned (.int .i64 c) ∧ w = w' := by
  go_enter Try.func47, Try.ntmps47
  go_wp2
  go_loop [1, 5] (fun k i => k = .int .i64 c ∧ i = .int .i64 0) (fun _ _ => 0)
  case atStart => exact ⟨rfl, rfl⟩
  case round =>
    obtain ⟨rfl, rfl⟩ := hrel
    go_wp2
    go_ret
    exact ⟨rfl, rfl⟩
set_option maxRecDepth 100000 in
set_option maxHeartbeats 400000 in
theorem markEntrySS_nil (a : Option Addr) (m cap : Nat) (c : Int) (w : World) (hm : m ≤ 5) (hc0 : 0 ≤ c) (hc1 : c ≤ 4294967296) {base : Nat} (ho : w.ownsRow base 30 1 (.slice a m cap) m (List.replicate m (.slice none 0 0))) :
    Calls Try.prog 45 #[.slice a m cap, .int .i64 c] w fun e w' => e = .returned (.int .i64 c) ∧ Below w.heap.size w w' := by
  have HC : Hid (∀ i, i < m → ∃ g, a = some ⟨g, 0, none⟩ ∧ w.cell? ⟨g, i, none⟩ = some (.slice none 0 0)) := fun i hi => by
    rcases ho.2 with ⟨_, h0⟩ | ⟨g, cp, cur, hv, _⟩
    · omega
    · cases hv
      have := ho.cells (g := g) rfl i (.slice none 0 0) (by simp [hi])
      rw [addr_add] at this
      exact ⟨g, rfl, by simpa using this⟩
  have hcn : ¬ c < 0 := by omega
  clear ho
  go_enter Try.func45, Try.ntmps45
  go_wp2
  go_loopw [1, 5] (fun k i wr => ∃ j : Nat, j ≤ m ∧ i = .int .i64 j ∧ k = .int .i64 c ∧ w = wr) (fun _ i _ => m - (intOf i).toNat)
  case atStart => exact ⟨0, Nat.zero_le _, rfl, rfl, rfl⟩
  case round =>
    obtain ⟨j, hj, rfl, rfl, rfl⟩ := hrel
    by_cases hlt : j < m
    · obtain ⟨g, rfl, hc⟩ := HC.out j hlt
      have hltI : (j : Int) < (m : Int) := by omega
      go_wp2_with fail
      refine (markEntryS_nil 0 c _).mono ?_
      rintro e w1 ⟨rfl, rfl⟩
      go_wp2
      go_roundw
      case rel => exact ⟨j + 1, by omega, by go_num, by first | trivial | rfl, by first | trivial | rfl⟩
      case measure => simp [intOf]; omega
    · have hltI : ¬ (j : Int) < (m : Int) := by omega
      go_wp2
      go_ret
      exact ⟨rfl, Below.refl _ _⟩
set_option maxRecDepth 100000 in
set_option maxHeartbeats 400000 in
theorem heldEntryS_nil (cap : Nat) (c : Int) (w : World) :
    Calls Try.prog 50 #[.slice none 0 cap, .int .i64 c] w fun e w' => e = .returned (.int .i64 c) ∧ w = w' := by
  go_enter Try.func50, Try.ntmps50
  go_wp2
  go_loop [1, 5] (fun k i => k = .int .i64 c ∧ i = .int .i64 0) (fun _ _ => 0)
  case atStart => exact ⟨rfl, rfl⟩
  case round =>
    obtain ⟨rfl, rfl⟩ := hrel
    go_wp2
    go_ret
    exact ⟨rfl, rfl⟩
set_option maxRecDepth 100000 in
set_option maxHeartbeats 400000 in
theorem heldEntrySS_nil (a : Option Addr) (m cap : Nat) (c : Int) (w : World) (hm : m ≤ 5) (hc0 : 0 ≤ c) (hc1 : c ≤ 4294967296) {base : Nat} (ho : w.ownsRow base 30 1 (.slice a m cap) m (List.replicate m (.slice none 0 0))) :
    Calls Try.prog 48 #[.slice a m cap, .int .i64 c] w fun e w' => e = .returned (.int .i64 c) ∧ Below w.heap.size w w' := by
  have HC : Hid (∀ i, i < m → ∃ g, a = some ⟨g, 0, none⟩ ∧ w.cell? ⟨g, i, none⟩ = some (.slice none 0 0)) := fun i hi => by
    rcases ho.2 with ⟨_, h0⟩ | ⟨g, cp, cur, hv, _⟩
    · omega
    · cases hv
      have := ho.cells (g := g) rfl i (.slice none 0 0) (by simp [hi])
      rw [addr_add] at this
      exact ⟨g, rfl, by simpa using this⟩
  have hcn : ¬ c < 0 := by omega
  clear ho
  go_enter Try.func48, Try.ntmps48
  go_wp2
  go_loopw [1, 5] (fun k i wr => ∃ j : Nat, j ≤ m ∧ i = .int .i64 j ∧ k = .int .i64 c ∧ w = wr) (fun _ i _ => m - (intOf i).toNat)
  case atStart => exact ⟨0, Nat.zero_le _, rfl, rfl, rfl⟩
  case round =>
    obtain ⟨j, hj, rfl, rfl, rfl⟩ := hrel
    by_cases hlt : j < m
    · obtain ⟨g, rfl, hc⟩ := HC.out j hlt
      have hltI : (j : Int) < (m : Int) := by omega
      go_wp2_with fail
      refine (heldEntryS_nil 0 c _).mono ?_
      rintro e w1 ⟨rfl, rfl⟩
      go_wp2
      go_roundw
      case rel => exact ⟨j + 1, by omega, by go_num, by first | trivial | rfl, by first | trivial | rfl⟩
      case measure => simp [intOf]; omega
    · have hltI : ¬ (j : Int) < (m : Int) := by omega
      go_wp2
      go_ret
      exact ⟨rfl, Below.refl _ _⟩
/-- Nil logs, as they lie in memory. -/
theorem nil_cells {w : World} {base m : Nat} {a : Option Addr} {c : Nat} (h : w.ownsRow base 30 1 (.slice a m c) m (List.replicate m (.slice none 0 0))) : SlG w a (List.replicate m []) := fun i hi => by
  have hi' : i < m := by simpa using hi
  rcases h.2 with ⟨_, h0⟩ | ⟨g, cap, cur, hv, _⟩
  · omega
  · cases hv
    have := h.cells (g := g) rfl i (.slice none 0 0) (by simp [hi'])
    rw [addr_add] at this
    have e : (List.replicate m ([] : List En)).getD i [] = [] := by simp [List.getD, hi']
    rw [e]
    exact ⟨g, 0, rfl, none, 0, by simpa using this, fun j hj => by simp at hj⟩
theorem OwR.rpf {w : World} {base m : Nat} {ag ad ay : Option Addr} {cg cd cy : Nat} {dn : List Bool} {sy : List Int} (h : OwR w base (.slice ag m cg) (.slice ad m cd) (.slice ay m cy) m dn sy) : RpF w ag ad ay none (List.replicate m []) dn sy [] := by
  obtain ⟨a1, c1, e1, s1, _⟩ := own_formB h.d
  obtain ⟨a2, c2, e2, s2, _⟩ := own_form h.y
  cases e1
  cases e2
  exact ⟨⟨nil_cells h.g, s2, fun i hi => by simp at hi⟩, s1⟩
theorem OwR.below {w w' : World} {base m : Nat} {vg vd vy : Value} {dn : List Bool} {sy : List Int} (h : OwR w base vg vd vy m dn sy) (hb : Below w.heap.size w w') : OwR w' base vg vd vy m dn sy := ⟨L7.own_belowT h.g hb, L7.own_belowT h.d hb, L7.own_belowT h.y hb⟩
theorem rpz_new {m : Nat} {sy : List Int} (hm : m ≤ 5) (hy : sy.length = m) : RpZ (List.replicate m []) sy [] m m m 0 := by
  have e : ∀ i, i < m → (List.replicate m ([] : List En)).getD i [] = [] := fun i hi => by simp [List.getD, hi]
  refine ⟨by simp, hy, rfl, by omega, by omega, by omega, by omega, fun i hi => ?_, fun i hi => ?_⟩
  · rw [e i (by simpa using hi)]
    simp
  · rw [e i (by simpa using hi)]
    exact ⟨by simp, fun j hj => by simp at hj⟩
set_option maxRecDepth 100000 in
set_option maxHeartbeats 2000000 in
theorem markRepl_new (base hi : Nat) (ag : Option Addr) (cg : Nat) (ad : Option Addr) (cd : Nat) (ay : Option Addr) (cy m : Nat) (ep : Int) (dn : List Bool) (sy : List Int) (w : World) (hm : m ≤ 5) (ho : OwR w base (.slice ag m cg) (.slice ad m cd) (.slice ay m cy) m dn sy) (hd : ∀ g, (Value.slice ad m cd).ownBlock = some g → g < hi) (hy : ∀ g, (Value.slice ay m cy).ownBlock = some g → g < hi) (hb0 : base ≤ w.heap.size) :
    Calls Try.prog 16 #[rpV ag m cg ad m cd 0 ep ay m cy none 0 0, .int .i64 1] w fun e w' => e = .returned (.int .i64 (1 + (m : Int) + (m : Int))) ∧ OwR w' base (.slice ag m cg) (.slice ad m cd) (.slice ay m cy) m (mkB 1 m) (mkC (1 + (m : Int)) m) ∧ L8.Only base hi w w' := by
  have BX := (Below.refl w.heap.size w).alloc (Nat.le_refl _) (rpO ag m cg ad m cd 0 ep ay m cy none 0 0)
  have HX := hide BX
  have O0 := hide (ho.below BX)
  have HD := hide hd
  have HY := hide hy
  clear ho BX hd hy
  go_enter Try.func16, Try.ntmps16
  go_wp2_with fail
  refine (markEntrySS_nil ag m cg 1 _ hm (by omega) (by omega) O0.out.g).mono ?_
  rintro e w1 ⟨rfl, hb⟩
  have G1 := hide ((hb.block w.heap.size (by simp)).trans (blk_new9 _ _))
  have ON1 : Hid (L8.Only base hi w w1) := hide (L8.Only.of_below (HX.out.trans (hb.mono HX.out.size)))
  have O1 := hide (O0.out.below hb)
  have hz1 : base ≤ w1.heap.size := by have := hb.size; simp at this; omega
  have hbs : base ≤ w.heap.size := hb0
  obtain ⟨k0, k1, k2, k3, k4, k5⟩ := blk6 G1.out
  clear hb O0
  go_wp2_with fail
  refine (markBoolS_from base _ dn m _ 1 (by omega) (by omega) (by omega) O1.out.d).mono ?_
  rintro e w2 ⟨rfl, hd2, hb2, hg2⟩
  have nd : ∀ b cur, w1.heap[b]? = some (.cells cur 32 (0, 0)) → some b ≠ (Value.slice ad m cd).ownBlock := fun b cur h => not_own O1.out.d h (Ne.symm ty5)
  have G2 := hide ((hg2.block w.heap.size (Array.getElem?_eq_some_iff.1 G1.out).1 (nd _ _ G1.out)).trans G1.out)
  have O2 : Hid (OwR w2 base (.slice ag m cg) (.slice ad m cd) (.slice ay m cy) m (mkB 1 m) sy) := hide ⟨L8.own_kept O1.out.g hg2 (fun g hg e => L8.own_two O1.out.g O1.out.d ty6 g hg e), hd2, L8.own_kept O1.out.y hg2 (fun g hg e => L8.own_two O1.out.y O1.out.d ty3 g hg e)⟩
  have ON2 : Hid (L8.Only base hi w w2) := hide (ON1.out.grown hg2 (fun g hg => ⟨(L8.own_lt O1.out.d g hg).1, HD.out g hg⟩))
  clear hd2 hb2 nd k0 k1 k2 k3 k4 k5
  obtain ⟨k0, k1, k2, k3, k4, k5⟩ := blk6 G2.out
  clear hg2 O1 ON1 G1
  go_wp2_with fail
  refine (markIntS_from base _ sy m _ (1 + (m : Int)) (by omega) (by omega) (by omega) O2.out.y).mono ?_
  rintro e w3 ⟨rfl, hd3, hb3, hg3⟩
  have G3 := hide ((hg3.block w.heap.size (Array.getElem?_eq_some_iff.1 G2.out).1 (not_own O2.out.y G2.out ty1)).trans G2.out)
  have O3 : Hid (OwR w3 base (.slice ag m cg) (.slice ad m cd) (.slice ay m cy) m (mkB 1 m) (mkC (1 + (m : Int)) m)) := hide ⟨L8.own_kept O2.out.g hg3 (fun g hg e => L8.own_two O2.out.g O2.out.y (Ne.symm ty2) g hg e), L8.own_kept O2.out.d hg3 (fun g hg e => L8.own_two O2.out.d O2.out.y (Ne.symm ty3) g hg e), hd3⟩
  have ON3 : Hid (L8.Only base hi w w3) := hide (ON2.out.grown hg3 (fun g hg => ⟨(L8.own_lt O2.out.y g hg).1, HY.out g hg⟩))
  clear hd3 hb3 k0 k1 k2 k3 k4 k5
  obtain ⟨k0, k1, k2, k3, k4, k5⟩ := blk6 G3.out
  clear hg3 O2 ON2 G2
  go_wp2_with fail
  refine (markEntryS_nil 0 _ _).mono ?_
  rintro e w4 ⟨rfl, rfl⟩
  go_wp2
  go_ret
  exact ⟨rfl, O3.out, ON3.out⟩
set_option maxRecDepth 100000 in
set_option maxHeartbeats 2000000 in
theorem heldRepl_new (ag : Option Addr) (cg : Nat) (ad : Option Addr) (cd : Nat) (ay : Option Addr) (cy m base : Nat) (ep : Int) (w : World) (hm : m ≤ 5) (ho : OwR w base (.slice ag m cg) (.slice ad m cd) (.slice ay m cy) m (mkB 1 m) (mkC (1 + (m : Int)) m)) :
    Calls Try.prog 17 #[rpV ag m cg ad m cd 0 ep ay m cy none 0 0, .int .i64 1] w fun e w' => e = .returned (.int .i64 (1 + (m : Int) + (m : Int))) ∧ Below w.heap.size w w' := by
  have BX := (Below.refl w.heap.size w).alloc (Nat.le_refl _) (rpO ag m cg ad m cd 0 ep ay m cy none 0 0)
  have HX := hide BX
  have O0 := hide (ho.below BX)
  clear ho BX
  go_enter Try.func17, Try.ntmps17
  go_wp2_with fail
  refine (heldEntrySS_nil ag m cg 1 _ hm (by omega) (by omega) O0.out.g).mono ?_
  rintro e w1 ⟨rfl, hb⟩
  have G1 := hide ((hb.block w.heap.size (by simp)).trans (blk_new9 _ _))
  have B1 := hide (HX.out.trans (hb.mono HX.out.size))
  have O1 := hide (O0.out.below hb).rpf
  obtain ⟨k0, k1, k2, k3, k4, k5⟩ := blk6 G1.out
  clear hb O0
  go_wp2_with fail
  refine (heldBoolS_from ad m cd 1 _ (by omega) (by omega) (by omega) O1.out.d).mono ?_
  rintro e w2 ⟨rfl, hb⟩
  have G2 := hide ((hb.block w.heap.size (Array.getElem?_eq_some_iff.1 G1.out).1).trans G1.out)
  have B2 := hide (B1.out.trans (hb.mono B1.out.size))
  have O2 := hide (O1.out.below hb)
  clear hb k0 k1 k2 k3 k4 k5
  obtain ⟨k0, k1, k2, k3, k4, k5⟩ := blk6 G2.out
  have n2 : ¬ 1 + (m : Int) < 0 := by omega
  go_wp2_with fail
  refine (heldIntS_from ay m cy (1 + (m : Int)) _ (by omega) (by omega) (by omega) O2.out.s.y).mono ?_
  rintro e w3 ⟨rfl, hb⟩
  have G3 := hide ((hb.block w.heap.size (Array.getElem?_eq_some_iff.1 G2.out).1).trans G2.out)
  have B3 := hide (B2.out.trans (hb.mono B2.out.size))
  clear hb k0 k1 k2 k3 k4 k5
  obtain ⟨k0, k1, k2, k3, k4, k5⟩ := blk6 G3.out
  have n3 : ¬ 1 + (m : Int) + (m : Int) < 0 := by omega
  go_wp2_with fail
  refine (heldEntryS_nil 0 _ _).mono ?_
  rintro e w4 ⟨rfl, rfl⟩
  go_wp2
  go_ret
  exact ⟨rfl, B3.out⟩
end Go.Proofs.Ythmekhhfihjclbd.L9

namespace Go.Proofs.Ythmekhhfihjclbd.L1
open Go.RowKit
set_option linter.unusedVariables false

theorem info_u8 : (Try.prog.info? 5).map (fun i => (i.zero, i.size, i.bytes)) = some (some (.int .u8 0), 1, 1) := by kernel_rfl

/-- A row of bytes that a call owns, as a text. -/
theorem conv_own {w : World} {base : Nat} {v : Value} {n : Nat} {l : List Int} (hown : w.ownsRow base 5 1 v n (l.map (Value.int .u8))) (hn : 0 < n) :
    (convert 102 9 v).run Try.prog w = .ok (.string (strOfNums l)) w := by
  have hlen := hown.1
  rcases hown.2 with ⟨_, h0⟩ | ⟨g, cap, cur, rfl, hb, hg, hle, hm, hs, ht⟩
  · omega
  · simp at hlen
    exact run_convert_bytes_arg w 102 5 Try.underlying102 Try.underlying5 g 0 n cap l hlen (fun i hi => by
      have := hown.cells (g := g) rfl i (.int .u8 (l.getD i 0)) (by
        rw [List.getElem?_map, List.getElem?_eq_getElem (by omega)]
        simp [List.getD, List.getElem?_eq_getElem (show i < l.length by omega)])
      rw [addr_add] at this
      simpa using this) 9 Try.underlying9
end Go.Proofs.Ythmekhhfihjclbd.L1

namespace Go.Proofs.Ythmekhhfihjclbd.L3
open Go.RowKit L1
set_option linter.unusedVariables false

/-- A number's digits. -/
def dgN (k : Nat) : List Int := if h : k = 0 then [] else dgN (k / 10) ++ [48 + ((k % 10 : Nat) : Int)]
termination_by k
decreasing_by omega
theorem dgN_zero : dgN 0 = [] := by rw [dgN]; simp
theorem dgN_succ (k : Nat) (h : k ≠ 0) : dgN k = dgN (k / 10) ++ [48 + ((k % 10 : Nat) : Int)] := by
  conv => lhs; rw [dgN]
  rw [dif_neg h]
theorem dgN_len (k : Nat) : (dgN k).length ≤ k := by
  induction k using Nat.strongRecOn with
  | _ k ih =>
    by_cases h : k = 0
    · rw [h, dgN_zero]; simp
    · rw [dgN_succ k h]
      have := ih (k / 10) (by omega)
      simp only [List.length_append, List.length_cons, List.length_nil]
      omega
theorem str_app (l m : List Int) : strOfNums (l ++ m) = strOfNums l ++ strOfNums m := by
  apply ByteArray.ext
  apply Array.toList_inj.1
  show _ = (ByteArray.append (strOfNums l) (strOfNums m)).data.toList
  simp [strOfNums, ByteArray.append]
theorem str_size (l : List Int) : (strOfNums l).size = l.length := by
  show (strOfNums l).data.size = _
  simp [strOfNums]
/-- The text that marks a number. -/
def mkT (k : Int) : ByteArray := if k ≤ 0 then ⟨#[109, 48]⟩ else strOfNums (109 :: dgN k.toNat)

set_option maxRecDepth 100000 in
set_option maxHeartbeats 1000000 in
theorem markText_any (k : Int) (w : World) (h0 : 0 < k) (h1 : k ≤ 4294967296) :
    Calls Try.prog 69 #[.int .i64 k] w fun e w' => e = .returned (.string (mkT k)) ∧ Below w.heap.size w w' := by
  obtain ⟨n, rfl⟩ : ∃ n : Nat, k = (n : Int) := ⟨k.toNat, by omega⟩
  have hk : ¬ (n : Int) ≤ 0 := by omega
  have HT : Hid (mkT (n : Int) = strOfNums [109] ++ strOfNums (dgN n)) := by
    show mkT (n : Int) = _
    unfold mkT
    rw [if_neg hk, ← str_app]
    simp
  have HL := hide (dgN_len n)
  go_enter Try.func69, Try.ntmps69
  go_wp2
  go_loopw [0, 3] (fun kv o wr => ∃ (j : Nat) (L : List Int), j ≤ n ∧ kv = .int .i64 j ∧ o = .string (strOfNums L) ∧ Hid (dgN j ++ L = dgN n) ∧ Below w.heap.size w wr) (fun kv _ _ => (intOf kv).toNat)
  case atStart => exact ⟨n, [], Nat.le_refl _, rfl, rfl, by show dgN n ++ [] = dgN n; simp, Below.refl _ _⟩
  case round =>
    obtain ⟨j, L, hj, rfl, rfl, HD, hbel⟩ := hrel
    have hLs : L.length ≤ n := by
      have := congrArg List.length HD.out
      have h2 := HL.out
      rw [List.length_append] at this
      omega
    have hsz := str_size L
    have happ := fun d => str_app [d] L
    obtain ⟨A, hA⟩ : ∃ A, A = strOfNums L := ⟨_, rfl⟩
    rw [← hA] at hsz ⊢
    simp only [← hA] at happ
    have hA8 : (A.size : Int) ≤ 4294967296 := by omega
    have HA := hide hA
    have HAPP := hide happ
    clear hsz hA happ
    by_cases hj0 : 0 < (j : Int)
    · have hd : Int.tmod (j : Int) 10 = ((j % 10 : Nat) : Int) := by rw [Int.tmod_eq_emod_of_nonneg (by omega)]; omega
      have hq : Int.tdiv (j : Int) 10 = ((j / 10 : Nat) : Int) := by rw [Int.tdiv_eq_ediv_of_nonneg (by omega)]; omega
      have hst := dgN_succ j (by omega)
      have hd9 : j % 10 < 10 := Nat.mod_lt _ (by omega)
      have hjq : j / 10 < j := by omega
      obtain ⟨d, hde⟩ : ∃ d, d = j % 10 := ⟨_, rfl⟩
      obtain ⟨q, hqe⟩ : ∃ q, q = j / 10 := ⟨_, rfl⟩
      rw [← hde] at hd hst hd9
      rw [← hqe] at hq hst hjq
      have hcv : (convert 102 9 (.slice (some ⟨wr.heap.size, 0, none⟩) 1 1)).run Try.prog (wr.alloc (.cells #[.int .u8 (48 + (d : Int))] 5)) = .ok (.string (strOfNums [48 + (d : Int)])) (wr.alloc (.cells #[.int .u8 (48 + (d : Int))] 5)) :=
        run_convert_bytes_arg _ 102 5 Try.underlying102 Try.underlying5 wr.heap.size 0 1 1 [48 + (d : Int)] rfl (fun i hi => by
          obtain rfl : i = 0 := by omega
          simp) 9 Try.underlying9
      have hw8 : IntKind.u8.wrap (48 + (d : Int)) = 48 + (d : Int) := by
        simp only [IntKind.wrap, IntKind.bits, IntKind.signed]
        simp
        omega
      obtain ⟨D, hD⟩ : ∃ D, D = strOfNums [48 + (d : Int)] := ⟨_, rfl⟩
      have hDs : (D.size : Int) ≤ 8 := by rw [hD, str_size]; simp
      rw [← hD] at hcv
      have R : Hid (D ++ A = strOfNums ((48 + (d : Int)) :: L)) := by show D ++ A = _; rw [hD, ← HAPP.out]; rfl
      have R2 : Hid (dgN q ++ ((48 + (d : Int)) :: L) = dgN n) := by show _ = _; rw [← HD.out, hst]; simp
      have B0 := hide hbel
      clear hde hqe hD hst hbel
      go_wp2
      go_roundw
      case rel => exact ⟨q, (48 + (d : Int)) :: L, by omega, by go_num, by rw [R.out], R2.out, B0.out.alloc B0.out.size _⟩
      case measure => simp [intOf]; omega
    · obtain rfl : j = 0 := by omega
      have e : L = dgN n := by have := HD.out; rw [dgN_zero] at this; simpa using this
      have HE : Hid (mkT (n : Int) = ⟨#[109]⟩ ++ A) := by show mkT (n : Int) = _; rw [HT.out, HA.out, e]; rfl
      have B0 := hide hbel
      clear e hbel
      go_wp2
      go_ret
      exact ⟨by rw [HE.out]; rfl, B0.out⟩
end Go.Proofs.Ythmekhhfihjclbd.L3

namespace Go.Proofs.Ythmekhhfihjclbd.L7
open Go.RowKit L1 L3
set_option linter.unusedVariables false


def mkE (c : Int) (n : Nat) : List En := (List.range n).map fun i : Nat => ((c + 2 * (i : Int)), mkT (c + 2 * (i : Int) + 1))
theorem mkE_len (c : Int) (n : Nat) : (mkE c n).length = n := by simp [mkE]
theorem mkE_get (c : Int) (n j : Nat) (h : j < n) : (mkE c n).getD j eE = ((c + 2 * (j : Int)), mkT (c + 2 * (j : Int) + 1)) := by
  simp [mkE, List.getD, h]

theorem grown_below {w w' : World} (h : Below w.heap.size w w') (row : Option Nat) : w.grownBy w' row := ⟨h.os, h.tape, h.output, h.size, fun k hk _ => h.block k hk⟩
set_option maxRecDepth 100000 in
set_option maxHeartbeats 2000000 in
theorem markEntryS_from (base : Nat) (v : Value) (l : List En) (n : Nat) (w : World) (c : Int) (hc0 : 0 < c) (hc1 : c ≤ 1073741824) (hn2 : n ≤ 1048576) (ho : w.ownsRow base 93 2 v n (flatE l)) (hbase : base ≤ w.heap.size) :
    Calls Try.prog 47 #[v, .int .i64 c] w fun e w' => e = .returned (.int .i64 (c + 2 * (n : Int))) ∧ w'.ownsRow base 93 2 v n (flatE (mkE c n)) ∧ Below base w w' ∧ w.grownBy w' v.ownBlock := by
  obtain ⟨a, cap0, rfl, _, hl0⟩ := own_formE ho
  by_cases hn0 : n = 0
  · subst hn0
    have hx : l = [] := List.eq_nil_of_length_eq_zero hl0
    subst hx
    have HO := hide ho
    clear ho hl0
    go_enter Try.func47, Try.ntmps47
    go_wp2
    go_loop [1, 5] (fun k i => k = .int .i64 c ∧ i = .int .i64 0) (fun _ _ => 0)
    case atStart => exact ⟨rfl, rfl⟩
    case round =>
      obtain ⟨rfl, rfl⟩ := hrel
      go_wp2
      go_ret
      exact ⟨by simp, HO.out, Below.refl _ _, World.grownBy.refl _ _⟩
  · obtain ⟨g, cap, e⟩ : ∃ g cap, Value.slice a n cap0 = .slice (some ⟨g, 0, none⟩) n cap := by
      rcases ho.2 with ⟨_, h0⟩ | ⟨g, cap, cur, hv, _⟩
      · omega
      · exact ⟨g, cap, hv⟩
    cases e
    have hge := (ho.lt g rfl).1
    have HO := hide ho
    have HL := hide hl0
    clear ho hl0 hn0
    go_enter Try.func47, Try.ntmps47
    go_wp2
    go_loopw [1, 5] (fun k i wr => ∃ (j : Nat) (ys : List En), j ≤ n ∧ i = .int .i64 j ∧ k = .int .i64 (c + 2 * (j : Int)) ∧ ys.length = n ∧ Hid (∀ t, t < j → ys.getD t eE = (mkE c n).getD t eE) ∧
        wr.ownsRow base 93 2 (.slice (some ⟨g, 0, none⟩) n cap0) n (flatE ys) ∧ Below base w wr ∧ w.grownBy wr (some g)) (fun _ i _ => n - (intOf i).toNat)
    case atStart => exact ⟨0, l, by omega, rfl, by simp, HL.out, fun t ht => absurd ht (Nat.not_lt_zero _), HO.out, Below.refl _ _, World.grownBy.refl _ _⟩
    case round =>
      obtain ⟨j, ys, hj, rfl, rfl, hyl, HY, hown, hbel, hgr⟩ := hrel
      by_cases hlt : j < n
      · have hltI : (j : Int) < (n : Int) := by omega
        have C2 := hide (fun w => markText_any (c + 2 * (j : Int) + 1) w (by omega) (by omega))
        have hlf : (flatE ys).length = n * 2 := by rw [flatE_len, hyl]
        have hcl := hown.cellAt (j * 2) (by omega)
        have hfr := hown.frozenAt (j * 2)
        obtain ⟨u, hu⟩ : ∃ u, wr.cell? ⟨g, j * 2, none⟩ = some u := ⟨_, hcl.trans (List.getElem?_eq_getElem (by omega))⟩
        have hs1 := hown.stored (j * 2) (.int .i64 (c + 2 * (j : Int)))
        have B1 := hide (hbel.setCell (p := ⟨g, j * 2, none⟩) hge (.int .i64 (c + 2 * (j : Int))))
        have G1 := hide (hgr.trans hs1.2)
        have O1 := hide hs1.1
        obtain ⟨y, hy⟩ : ∃ y, y = mkT (c + 2 * (j : Int) + 1) := ⟨_, rfl⟩
        simp only [← hy] at C2
        have hsz := hbel.size
        have HLF := hide hlf
        have HYY := hide hy
        have HYL := hide hyl
        clear hlf hown hbel hgr hy hyl hcl hs1
        go_wp2_with fail
        refine (C2.out _).mono ?_
        rintro e w2 ⟨rfl, hb2⟩
        have hown2 := own_belowT O1.out hb2
        have hcl := hown2.cellAt (j * 2 + 1) (by omega)
        have hfr2 := hown2.frozenAt (j * 2 + 1)
        obtain ⟨u2, hu2⟩ : ∃ u, w2.cell? ⟨g, j * 2 + 1, none⟩ = some u := ⟨_, hcl.trans (List.getElem?_eq_getElem (by rw [List.length_set, HLF.out]; omega))⟩
        have hs2 := hown2.stored (j * 2 + 1) (.string y)
        have hz1 := B1.out.size
        have B2 := hide ((B1.out.trans (hb2.mono (by omega))).setCell (p := ⟨g, j * 2 + 1, none⟩) hge (.string y))
        have G2 := hide (G1.out.trans ((grown_below hb2 _).trans hs2.2))
        have R : ∃ (j' : Nat) (ys' : List En), j' ≤ n ∧ Value.int .i64 ((j : Int) + 1) = .int .i64 j' ∧ Value.int .i64 (c + 2 * (j : Int) + 1 + 1) = .int .i64 (c + 2 * (j' : Int)) ∧ ys'.length = n ∧ Hid (∀ t, t < j' → ys'.getD t eE = (mkE c n).getD t eE) ∧
            (w2.setCell ⟨g, j * 2 + 1, none⟩ (.string y)).ownsRow base 93 2 (.slice (some ⟨g, 0, none⟩) n cap0) n (flatE ys') ∧ Below base w (w2.setCell ⟨g, j * 2 + 1, none⟩ (.string y)) ∧ w.grownBy (w2.setCell ⟨g, j * 2 + 1, none⟩ (.string y)) (some g) := by
          refine ⟨j + 1, ys.set j (c + 2 * (j : Int), y), by omega, by simp, by simp; omega, by simpa using HYL.out, ?_, by rw [flatE_set]; exact hs2.1, B2.out, G2.out⟩
          intro t ht
          by_cases e : t = j
          · subst e
            rw [mkE_get c n t (by omega), ← HYY.out]
            simp [List.getD, HYL.out, hlt]
          · rw [← HY.out t (by omega)]
            simp [List.getD, Ne.symm e]
        have HR := hide R
        clear hcl hs2 hown2 R hb2
        go_wp2
        go_roundw
        case rel => exact HR.out
        case measure => simp [intOf]; omega
      · obtain rfl : j = n := by omega
        have e : ys = mkE c j := list_sameE (mkE_len c j) hyl (fun t ht => HY.out t ht)
        subst e
        have hltI : ¬ (j : Int) < (j : Int) := by omega
        clear hyl
        go_wp2
        go_ret
        exact ⟨rfl, hown, hbel, hgr⟩

theorem markEntryS_all (base : Nat) (v : Value) (l : List En) (n : Nat) (w : World) (hn2 : n ≤ 1048576) (ho : w.ownsRow base 93 2 v n (flatE l)) (hbase : base ≤ w.heap.size) :
    Calls Try.prog 47 #[v, .int .i64 1] w fun e w' => e = .returned (.int .i64 (1 + 2 * (n : Int))) ∧ w'.ownsRow base 93 2 v n (flatE (mkE 1 n)) ∧ Below base w w' ∧ w.grownBy w' v.ownBlock :=
  markEntryS_from base v l n w 1 (by omega) (by omega) hn2 ho hbase

end Go.Proofs.Ythmekhhfihjclbd.L7

namespace Go.Proofs.Ythmekhhfihjclbd.L7
open Go.RowKit L1 L3
set_option linter.unusedVariables false


theorem keep1E {wa wb : World} {B1 O1 N : Nat} {v1 : Value} {W : World} (h : wa.cell? ⟨B1, O1, none⟩ = some v1 ∧ Below N W wa) (hb : Below wa.heap.size wa wb) (hN : N ≤ W.heap.size) :
    wb.cell? ⟨B1, O1, none⟩ = some v1 ∧ Below N W wb :=
  ⟨(hb.cell (p := ⟨B1, O1, none⟩) (blk_lt h.1)).trans h.1, h.2.trans (hb.mono (Nat.le_trans hN h.2.size))⟩

set_option maxRecDepth 100000 in
set_option maxHeartbeats 2000000 in
theorem heldEntryS_any (a : Option Addr) (n cap : Nat) (w : World) (hn2 : n ≤ 1048576) (hs : SlE w a (mkE 1 n)) :
    Calls Try.prog 50 #[.slice a n cap, .int .i64 1] w fun e w' => e = .returned (.int .i64 (1 + 2 * (n : Int))) ∧ Below w.heap.size w w' := by
  have HS := hide hs
  clear hs
  go_enter Try.func50, Try.ntmps50
  go_wp2
  go_loopw [1, 5] (fun k i wr => ∃ j : Nat, j ≤ n ∧ i = .int .i64 j ∧ k = .int .i64 (1 + 2 * (j : Int)) ∧ Below w.heap.size w wr) (fun _ i _ => n - (intOf i).toNat)
  case atStart => exact ⟨0, by omega, rfl, rfl, Below.refl _ _⟩
  case round =>
    obtain ⟨j, hj, rfl, rfl, hbel⟩ := hrel
    by_cases hlt : j < n
    · obtain ⟨b, off, rfl, hc0, hd0⟩ := HS.out j (by rw [mkE_len]; exact hlt)
      rw [mkE_get 1 n j hlt] at hc0 hd0
      have hc := (hbel.cell (p := ⟨b, off + j * 2, none⟩) (blk_lt hc0)).trans hc0
      have hd := (hbel.cell (p := ⟨b, off + j * 2 + 1, none⟩) (blk_lt hd0)).trans hd0
      have hltI : (j : Int) < (n : Int) := by omega
      have hj0 : (0 : Int) ≤ (j : Int) := by omega
      have C2 := hide (fun w => markText_any (1 + 2 * (j : Int) + 1) w (by omega) (by omega))
      obtain ⟨y, hy⟩ : ∃ y, y = mkT (1 + 2 * (j : Int) + 1) := ⟨_, rfl⟩
      simp only [← hy] at C2 hd
      have hyy : (y.toList == y.toList) = true := by simp
      have B0 := hide hbel
      clear hc0 hd0 hy hbel
      go_wp2
      go_region_held3 (fun wx => wx.cell? ⟨b, off + j * 2 + 1, none⟩ = some (.string y) ∧ Below wr.heap.size wr wx) (first | exact ⟨hd, (Below.refl _ _).drew⟩ | exact keep1E (by assumption) (by assumption) (Nat.le_refl _)) ((go_at_call 69; refine (C2.out _).mono ?_; rintro e w1 ⟨rfl, hb⟩))
      rename_i hHeld
      have B2 := hide (B0.out.trans (hHeld.2.mono B0.out.size))
      clear hHeld hd
      go_wp2
      go_roundw
      case rel => exact ⟨j + 1, by omega, by go_num, by simp; omega, B2.out⟩
      case measure => simp [intOf]; omega
    · have hltI : ¬ (j : Int) < (n : Int) := by omega
      obtain rfl : j = n := by omega
      go_wp2
      go_ret
      exact ⟨rfl, hbel⟩
end Go.Proofs.Ythmekhhfihjclbd.L7

namespace Go.Proofs.Ythmekhhfihjclbd.L7
open Go.RowKit L1 L3
set_option linter.unusedVariables false

set_option maxRecDepth 100000 in
set_option maxHeartbeats 2000000 in
theorem heldEntryS_from (a : Option Addr) (n cap : Nat) (w : World) (c : Int) (hcl : 0 < c) (hch : c ≤ 1073741824) (hn2 : n ≤ 1048576) (hs : SlE w a (mkE c n)) :
    Calls Try.prog 50 #[.slice a n cap, .int .i64 c] w fun e w' => e = .returned (.int .i64 (c + 2 * (n : Int))) ∧ Below w.heap.size w w' := by
  have HS := hide hs
  clear hs
  go_enter Try.func50, Try.ntmps50
  go_wp2
  go_loopw [1, 5] (fun k i wr => ∃ j : Nat, j ≤ n ∧ i = .int .i64 j ∧ k = .int .i64 (c + 2 * (j : Int)) ∧ Below w.heap.size w wr) (fun _ i _ => n - (intOf i).toNat)
  case atStart => exact ⟨0, by omega, rfl, by simp, Below.refl _ _⟩
  case round =>
    obtain ⟨j, hj, rfl, rfl, hbel⟩ := hrel
    by_cases hlt : j < n
    · obtain ⟨b, off, rfl, hc0, hd0⟩ := HS.out j (by rw [mkE_len]; exact hlt)
      rw [mkE_get c n j hlt] at hc0 hd0
      have hc := (hbel.cell (p := ⟨b, off + j * 2, none⟩) (blk_lt hc0)).trans hc0
      have hd := (hbel.cell (p := ⟨b, off + j * 2 + 1, none⟩) (blk_lt hd0)).trans hd0
      have hltI : (j : Int) < (n : Int) := by omega
      have hj0 : (0 : Int) ≤ (j : Int) := by omega
      have C2 := hide (fun w => markText_any (c + 2 * (j : Int) + 1) w (by omega) (by omega))
      obtain ⟨y, hy⟩ : ∃ y, y = mkT (c + 2 * (j : Int) + 1) := ⟨_, rfl⟩
      simp only [← hy] at C2 hd
      have hyy : (y.toList == y.toList) = true := by simp
      have B0 := hide hbel
      clear hc0 hd0 hy hbel
      go_wp2
      go_region_held3 (fun wx => wx.cell? ⟨b, off + j * 2 + 1, none⟩ = some (.string y) ∧ Below wr.heap.size wr wx) (first | exact ⟨hd, (Below.refl _ _).drew⟩ | exact keep1E (by assumption) (by assumption) (Nat.le_refl _)) ((go_at_call 69; refine (C2.out _).mono ?_; rintro e w1 ⟨rfl, hb⟩))
      rename_i hHeld
      have B2 := hide (B0.out.trans (hHeld.2.mono B0.out.size))
      clear hHeld hd
      go_wp2
      go_roundw
      case rel => exact ⟨j + 1, by omega, by go_num, by simp; omega, B2.out⟩
      case measure => simp [intOf]; omega
    · have hltI : ¬ (j : Int) < (n : Int) := by omega
      obtain rfl : j = n := by omega
      go_wp2
      go_ret
      exact ⟨rfl, hbel⟩
end Go.Proofs.Ythmekhhfihjclbd.L7
