/-
  Contracts of the laws' own helpers on lists of texts: laws.eqStringS says that two lists alike are alike, laws.markStringS writes rising texts, laws.heldStringS finds them.
-/
import Derived.Test.YtkjogjjfpjkeoazDoorL6Str
import Derived.Test.YtkjogjjfpjkeoazDoorL3MarkText
import Derived.Test.YtkjogjjfpjkeoazDoorL6Grown
import Derived.Test.YtkjogjjfpjkeoazDoorL6Keep
import Derived.Deep.RegionHeld3
import Derived.Deep.QuietTactic
import Derived.BigQuiet
namespace Go.Proofs.YtkjogjjfpjkeoazDoor.L6
open Go.RowKit L1 L3
set_option linter.unusedVariables false

theorem keep1P {wa wb W : World} {N : Nat} {p : Addr} {v : Value} (h : wa.cell? p = some v ∧ Below N W wa) (hb : Below wa.heap.size wa wb) (hN : N ≤ W.heap.size) : wb.cell? p = some v ∧ Below N W wb :=
  ⟨(hb.cell (blk_ltA h.1)).trans h.1, h.2.trans (hb.mono (Nat.le_trans hN h.2.size))⟩
set_option maxRecDepth 100000 in
set_option maxHeartbeats 2000000 in
theorem eqStringS_same (a b : Option Addr) (xs : List ByteArray) (n c1 c2 : Nat) (w : World) (hn : xs.length = n) (ha : SlT w a xs) (hb : SlT w b xs) (hn2 : n ≤ 1048576) :
    Calls Tryd.prog 23 #[.slice a n c1, .slice b n c2] w fun e w' => e = .returned (.bool true) ∧ Below w.heap.size w w' := by
  have HA := hide ha
  have HB := hide hb
  have HN := hide hn
  clear ha hb hn
  go_enter Tryd.func23, Tryd.ntmps23
  go_wp2
  go_loopw [5] (fun i wr => ∃ k : Nat, k ≤ n ∧ i = .int .i64 k ∧ Below w.heap.size w wr) (fun i _ => n - (intOf i).toNat)
  case atStart => exact ⟨0, Nat.zero_le _, rfl, Below.refl _ _⟩
  case round =>
    obtain ⟨k, hk, rfl, hbel⟩ := hrel
    by_cases hlt : k < n
    · obtain ⟨b1, o1, rfl, h1⟩ := HA.out k (by rw [HN.out]; exact hlt)
      obtain ⟨b2, o2, rfl, h2⟩ := HB.out k (by rw [HN.out]; exact hlt)
      have g1 := (hbel.cell (p := ⟨b1, o1 + k, none⟩) (blk_lt h1)).trans h1
      have g2 := (hbel.cell (p := ⟨b2, o2 + k, none⟩) (blk_lt h2)).trans h2
      obtain ⟨x, hx⟩ : ∃ x, x = xs.getD k e0 := ⟨_, rfl⟩
      rw [← hx] at g1 g2
      have hxx : (x.toList == x.toList) = true := by simp
      have hltI : (k : Int) < (n : Int) := by omega
      clear h1 h2 hx
      go_wp2
      go_quiet (fail)
      go_wp2
      go_roundw
      case rel => exact ⟨k + 1, by omega, by go_num, below_drewN hbel _⟩
      case measure => simp [intOf]; omega
    · have hltI : ¬ (k : Int) < (n : Int) := by omega
      go_wp2
      go_ret
      exact ⟨rfl, hbel⟩
def mkS (c : Int) (n : Nat) : List ByteArray := (List.range n).map fun i : Nat => mkT (c + (i : Int))
theorem mkS_len (c : Int) (n : Nat) : (mkS c n).length = n := by simp [mkS]
theorem mkS_get (c : Int) (n j : Nat) (h : j < n) : (mkS c n).getD j e0 = mkT (c + (j : Int)) := by
  simp [mkS, List.getD, h]
theorem list_sameT {xs ys : List ByteArray} {n : Nat} (h1 : xs.length = n) (h2 : ys.length = n) (h : ∀ t, t < n → ys.getD t e0 = xs.getD t e0) : ys = xs := by
  apply List.ext_getElem (by omega)
  intro i hi1 hi2
  have := h i (by omega)
  simp [List.getD, List.getElem?_eq_getElem hi1, List.getElem?_eq_getElem hi2] at this
  exact this
theorem mapT_set (xs : List ByteArray) (j : Nat) (x : ByteArray) : mapT (xs.set j x) = (mapT xs).set j (.string x) := by simp [List.map_set]
set_option maxRecDepth 100000 in
set_option maxHeartbeats 4000000 in
theorem markStringS_all (base : Nat) (v : Value) (l : List ByteArray) (n : Nat) (w : World) (hn2 : n ≤ 1048576) (ho : w.ownsRow base 9 1 v n (mapT l)) (hbase : base ≤ w.heap.size) :
    Calls Tryd.prog 24 #[v, .int .i64 1] w fun e w' => e = .returned (.int .i64 (1 + (n : Int))) ∧ w'.ownsRow base 9 1 v n (mapT (mkS 1 n)) ∧ Below base w w' ∧ w.grownBy w' v.ownBlock := by
  obtain ⟨a, cap0, rfl, _, hl0⟩ := own_formT ho
  by_cases hn0 : n = 0
  · subst hn0
    have hx : l = [] := List.eq_nil_of_length_eq_zero hl0
    subst hx
    have HO := hide ho
    clear ho hl0
    go_enter Tryd.func24, Tryd.ntmps24
    go_wp2
    go_loop [1, 5] (fun k i => k = .int .i64 1 ∧ i = .int .i64 0) (fun _ _ => 0)
    case atStart => exact ⟨rfl, rfl⟩
    case round =>
      obtain ⟨rfl, rfl⟩ := hrel
      go_wp2
      go_ret
      exact ⟨by simp, HO.out, Below.refl _ _, World.grownBy.refl _ _⟩
  · obtain ⟨g, cap, e⟩ : ∃ g cap, Value.slice a n cap0 = .slice (some ⟨g, 0, none⟩) n cap := by
      rcases ho.2 with ⟨_, h0⟩ | ⟨g, cap, cur, hv, _⟩
      · omega
      · exact ⟨g, cap, hv⟩
    cases e
    have hge := (ho.lt g rfl).1
    have HO := hide ho
    have HL := hide hl0
    clear ho hl0 hn0
    go_enter Tryd.func24, Tryd.ntmps24
    go_wp2
    go_loopw [1, 5] (fun k i wr => ∃ (j : Nat) (ys : List ByteArray), j ≤ n ∧ i = .int .i64 j ∧ k = .int .i64 (1 + (j : Int)) ∧ ys.length = n ∧ Hid (∀ t, t < j → ys.getD t e0 = (mkS 1 n).getD t e0) ∧
        wr.ownsRow base 9 1 (.slice (some ⟨g, 0, none⟩) n cap0) n (mapT ys) ∧ Below base w wr ∧ w.grownBy wr (some g)) (fun _ i _ => n - (intOf i).toNat)
    case atStart => exact ⟨0, l, by omega, rfl, by simp, HL.out, fun t ht => absurd ht (Nat.not_lt_zero _), HO.out, Below.refl _ _, World.grownBy.refl _ _⟩
    case round =>
      obtain ⟨j, ys, hj, rfl, rfl, hyl, HY, hown, hbel, hgr⟩ := hrel
      by_cases hlt : j < n
      · have hltI : (j : Int) < (n : Int) := by omega
        have C1 := hide (fun w => markText_any (1 + (j : Int)) w (by omega) (by omega))
        obtain ⟨x, hx⟩ : ∃ x, x = mkT (1 + (j : Int)) := ⟨_, rfl⟩
        simp only [← hx] at C1
        have hsz := hbel.size
        have HX := hide hx
        have HYL := hide hyl
        have O0 := hide hown
        have B0 := hide hbel
        have G0 := hide hgr
        clear hown hbel hgr hx hyl
        go_wp2_with fail
        refine (C1.out _).mono ?_
        rintro e w1 ⟨rfl, hb1⟩
        have hown1 := own_belowC O0.out hb1
        have hcl := hown1.cellAt j (by omega)
        have hfr := hown1.frozenAt j
        obtain ⟨u, hu⟩ : ∃ u, w1.cell? ⟨g, j, none⟩ = some u := ⟨_, hcl.trans (List.getElem?_eq_getElem (by simp [HYL.out]; omega))⟩
        have hs1 := hown1.stored j (.string x)
        have B1 := hide ((B0.out.trans (hb1.mono (Nat.le_trans hbase B0.out.size))).setCell (p := ⟨g, j, none⟩) hge (.string x))
        have G1 := hide (G0.out.trans ((grown_below hb1).trans hs1.2))
        have R : ∃ (j' : Nat) (ys' : List ByteArray), j' ≤ n ∧ Value.int .i64 ((j : Int) + 1) = .int .i64 j' ∧ Value.int .i64 (1 + (j : Int) + 1) = .int .i64 (1 + (j' : Int)) ∧ ys'.length = n ∧ Hid (∀ t, t < j' → ys'.getD t e0 = (mkS 1 n).getD t e0) ∧
            (w1.setCell ⟨g, j, none⟩ (.string x)).ownsRow base 9 1 (.slice (some ⟨g, 0, none⟩) n cap0) n (mapT ys') ∧ Below base w (w1.setCell ⟨g, j, none⟩ (.string x)) ∧ w.grownBy (w1.setCell ⟨g, j, none⟩ (.string x)) (some g) := by
          refine ⟨j + 1, ys.set j x, by omega, by simp, by simp; omega, by simpa using HYL.out, ?_, by rw [mapT_set]; exact hs1.1, B1.out, G1.out⟩
          intro t ht
          by_cases e : t = j
          · subst e
            rw [mkS_get 1 n t (by omega), HX.out]
            simp [List.getD, HYL.out, hlt]
          · rw [← HY.out t (by omega)]
            simp [List.getD, Ne.symm e]
        have HR := hide R
        clear hcl hs1 hown1 R hb1
        go_wp2
        go_roundw
        case rel => exact HR.out
        case measure => simp [intOf]; omega
      · obtain rfl : j = n := by omega
        have e : ys = mkS 1 j := list_sameT (mkS_len 1 j) hyl (fun t ht => HY.out t ht)
        subst e
        have hltI : ¬ (j : Int) < (j : Int) := by omega
        clear hyl
        go_wp2
        go_ret
        exact ⟨rfl, hown, hbel, hgr⟩
set_option maxRecDepth 100000 in
set_option maxHeartbeats 4000000 in
theorem heldStringS_any (a : Option Addr) (n cap : Nat) (w : World) (hn2 : n ≤ 1048576) (hs : SlT w a (mkS 1 n)) :
    Calls Tryd.prog 25 #[.slice a n cap, .int .i64 1] w fun e w' => e = .returned (.int .i64 (1 + (n : Int))) ∧ Below w.heap.size w w' := by
  have HS := hide hs
  clear hs
  go_enter Tryd.func25, Tryd.ntmps25
  go_wp2
  go_loopw [1, 5] (fun k i wr => ∃ j : Nat, j ≤ n ∧ i = .int .i64 j ∧ k = .int .i64 (1 + (j : Int)) ∧ Below w.heap.size w wr) (fun _ i _ => n - (intOf i).toNat)
  case atStart => exact ⟨0, by omega, rfl, rfl, Below.refl _ _⟩
  case round =>
    obtain ⟨j, hj, rfl, rfl, hbel⟩ := hrel
    by_cases hlt : j < n
    · obtain ⟨b, off, rfl, hc0⟩ := HS.out j (by rw [mkS_len]; exact hlt)
      rw [mkS_get 1 n j hlt] at hc0
      have hc := (hbel.cell (p := ⟨b, off + j, none⟩) (blk_lt hc0)).trans hc0
      have hltI : (j : Int) < (n : Int) := by omega
      have hj0 : (0 : Int) ≤ (j : Int) := by omega
      have C1 := hide (fun w => markText_any (1 + (j : Int)) w (by omega) (by omega))
      obtain ⟨x, hx⟩ : ∃ x, x = mkT (1 + (j : Int)) := ⟨_, rfl⟩
      rw [← hx] at hc
      simp only [← hx] at C1
      have hxx : (x.toList == x.toList) = true := by simp
      have B0 := hide hbel
      clear hc0 hx hbel
      go_wp2
      go_region_held3 (fun wx => wx.cell? ⟨b, off + j, none⟩ = some (.string x) ∧ Below wr.heap.size wr wx) (first | exact ⟨hc, (Below.refl _ _).drew⟩ | exact keep1P (by assumption) (by assumption) (Nat.le_refl _)) ((go_at_call 49; refine (C1.out _).mono ?_; rintro e w1 ⟨rfl, hb⟩))
      rename_i hHeld
      have B2 := hide (B0.out.trans (hHeld.2.mono B0.out.size))
      clear hHeld hc
      go_wp2
      go_roundw
      case rel => exact ⟨j + 1, by omega, by go_num, by go_num, B2.out⟩
      case measure => simp [intOf]; omega
    · have hltI : ¬ (j : Int) < (n : Int) := by omega
      obtain rfl : j = n := by omega
      go_wp2
      go_ret
      exact ⟨rfl, hbel⟩
end Go.Proofs.YtkjogjjfpjkeoazDoor.L6
