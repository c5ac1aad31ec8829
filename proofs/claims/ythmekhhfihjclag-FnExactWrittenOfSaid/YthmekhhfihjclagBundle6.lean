/-
  Contract of the laws' own helper markNoteS.
  Contract of the laws' own helper heldNoteS.
  What markXS writes into lists of structs of an int, an int and a text. Nothing of the program's text is proved here.
  Contract of the laws' own helper markToldS.
  Contract of the laws' own helper heldToldS.
  Contract of the laws' own helper eqIntS: it says that two lists of ints alike are alike.
  Plain mathematics: the numbers of a text, one behind the other. Nothing of Go stands here.
  Contracts of the laws' own helpers: laws.markIntS writes rising numbers into a list that the caller owns, laws.heldIntS finds them there.
-/
import Derived.Test.YthmekhhfihjclagBundle5
import Derived.Deep.RegionHeld3
import Derived.Test.YthmekhhfihjclagBundle1
import Derived.Deep.QuietTactic
import Derived.BigQuiet
import Derived.Maps.AppendAt
namespace Go.Proofs.Ythmekhhfihjclag.Nte
open Go.RowKit L1 L3
set_option linter.unusedVariables false

set_option maxRecDepth 100000 in
set_option maxHeartbeats 2000000 in
theorem markNoteS_from (base : Nat) (v : Value) (l : List Nt) (n : Nat) (w : World) (c : Int) (hc0 : 0 < c) (hc1 : c ≤ 1073741824) (hn2 : n ≤ 1048576) (ho : w.ownsRow base 77 4 v n (flat4 l)) (hbase : base ≤ w.heap.size) :
    Calls Try.prog 63 #[v, .int .i64 c] w fun e w' => e = .returned (.int .i64 (c + 4 * (n : Int))) ∧ w'.ownsRow base 77 4 v n (flat4 (mk4 c n)) ∧ Below base w w' ∧ w.grownBy w' v.ownBlock := by
  obtain ⟨a, cap0, rfl, _, hl0⟩ := own_form4 ho
  by_cases hn0 : n = 0
  · subst hn0
    have hx : l = [] := List.eq_nil_of_length_eq_zero hl0
    subst hx
    have HO := hide ho
    clear ho hl0
    go_enter Try.func63, Try.ntmps63
    go_wp2
    go_loop [1, 5] (fun k i => k = .int .i64 c ∧ i = .int .i64 0) (fun _ _ => 0)
    case atStart => exact ⟨rfl, rfl⟩
    case round =>
      obtain ⟨rfl, rfl⟩ := hrel
      go_wp2
      go_ret
      exact ⟨by simp, HO.out, Below.refl _ _, World.grownBy.refl _ _⟩
  · obtain ⟨g, cap, e⟩ : ∃ g cap, Value.slice a n cap0 = .slice (some ⟨g, 0, none⟩) n cap := by
      rcases ho.2 with ⟨_, h0⟩ | ⟨g, cap, cur, hv, _⟩
      · omega
      · exact ⟨g, cap, hv⟩
    cases e
    have hge := (ho.lt g rfl).1
    have HO := hide ho
    have HL := hide hl0
    clear ho hl0 hn0
    go_enter Try.func63, Try.ntmps63
    go_wp2
    go_loopw [1, 5] (fun k i wr => ∃ (j : Nat) (ys : List Nt), j ≤ n ∧ i = .int .i64 j ∧ k = .int .i64 (c + 4 * (j : Int)) ∧ ys.length = n ∧ Hid (∀ t, t < j → ys.getD t e4 = (mk4 c n).getD t e4) ∧
        wr.ownsRow base 77 4 (.slice (some ⟨g, 0, none⟩) n cap0) n (flat4 ys) ∧ Below base w wr ∧ w.grownBy wr (some g)) (fun _ i _ => n - (intOf i).toNat)
    case atStart => exact ⟨0, l, by omega, rfl, by simp, HL.out, fun t ht => absurd ht (Nat.not_lt_zero _), HO.out, Below.refl _ _, World.grownBy.refl _ _⟩
    case round =>
      obtain ⟨j, ys, hj, rfl, rfl, hyl, HY, hown, hbel, hgr⟩ := hrel
      by_cases hlt : j < n
      · have hltI : (j : Int) < (n : Int) := by omega
        have C2 := hide (fun w => markText_any (c + 4 * (j : Int) + 1 + 1 + 1) w (by omega) (by omega))
        have hlf : (flat4 ys).length = n * 4 := by rw [flat4_len, hyl]
        obtain ⟨q, hq⟩ : ∃ q, q = b3 (c + 4 * (j : Int)) := ⟨_, rfl⟩
        have hbq : ((c + 4 * (j : Int)) % 3 == 0) = q := by rw [hq]; rfl
        have hcl := hown.cellAt (j * 4) (by omega)
        have hfr := hown.frozenAt (j * 4)
        obtain ⟨u, hu⟩ : ∃ u, wr.cell? ⟨g, j * 4, none⟩ = some u := ⟨_, hcl.trans (List.getElem?_eq_getElem (by omega))⟩
        have hs0 := hown.stored (j * 4) (.bool q)
        have hcl1 := hs0.1.cellAt (j * 4 + 1) (by omega)
        have hfr1 := hs0.1.frozenAt (j * 4 + 1)
        obtain ⟨u1, hu1⟩ : ∃ u, (wr.setCell ⟨g, j * 4, none⟩ (.bool q)).cell? ⟨g, j * 4 + 1, none⟩ = some u := ⟨_, hcl1.trans (List.getElem?_eq_getElem (by rw [List.length_set]; omega))⟩
        have hs1 := hs0.1.stored (j * 4 + 1) (.int .i64 (c + 4 * (j : Int) + 1))
        have hcl2 := hs1.1.cellAt (j * 4 + 2) (by omega)
        have hfr2 := hs1.1.frozenAt (j * 4 + 2)
        obtain ⟨u2, hu2⟩ : ∃ u, ((wr.setCell ⟨g, j * 4, none⟩ (.bool q)).setCell ⟨g, j * 4 + 1, none⟩ (.int .i64 (c + 4 * (j : Int) + 1))).cell? ⟨g, j * 4 + 2, none⟩ = some u := ⟨_, hcl2.trans (List.getElem?_eq_getElem (by rw [List.length_set, List.length_set]; omega))⟩
        have hs2 := hs1.1.stored (j * 4 + 2) (.int .i64 (c + 4 * (j : Int) + 1 + 1))
        have B1 := hide (((hbel.setCell (p := ⟨g, j * 4, none⟩) hge (.bool q)).setCell (p := ⟨g, j * 4 + 1, none⟩) hge (.int .i64 (c + 4 * (j : Int) + 1))).setCell (p := ⟨g, j * 4 + 2, none⟩) hge (.int .i64 (c + 4 * (j : Int) + 1 + 1)))
        have G1 := hide (((hgr.trans hs0.2).trans hs1.2).trans hs2.2)
        have O1 := hide hs2.1
        obtain ⟨y, hy⟩ : ∃ y, y = mkT (c + 4 * (j : Int) + 1 + 1 + 1) := ⟨_, rfl⟩
        simp only [← hy] at C2
        have hsz := hbel.size
        have HLF := hide hlf
        have HYY := hide hy
        have HQQ := hide hq
        have HYL := hide hyl
        clear hlf hown hbel hgr hy hyl hcl hcl1 hcl2 hs1 hs0 hs2 hq
        go_wp2_with fail
        refine (C2.out _).mono ?_
        rintro e w2 ⟨rfl, hb2⟩
        have hown2 := own_below4 O1.out hb2
        have hcl := hown2.cellAt (j * 4 + 3) (by omega)
        have hfr3 := hown2.frozenAt (j * 4 + 3)
        obtain ⟨u3, hu3⟩ : ∃ u, w2.cell? ⟨g, j * 4 + 3, none⟩ = some u := ⟨_, hcl.trans (List.getElem?_eq_getElem (by rw [List.length_set, List.length_set, List.length_set, HLF.out]; omega))⟩
        have hs3 := hown2.stored (j * 4 + 3) (.string y)
        have hz1 := B1.out.size
        have B2 := hide ((B1.out.trans (hb2.mono (by have h := B1.out.size; simp at h ⊢; omega))).setCell (p := ⟨g, j * 4 + 3, none⟩) hge (.string y))
        have G2 := hide (G1.out.trans ((grown_below4 hb2 _).trans hs3.2))
        have R : ∃ (j' : Nat) (ys' : List Nt), j' ≤ n ∧ Value.int .i64 ((j : Int) + 1) = .int .i64 j' ∧ Value.int .i64 (c + 4 * (j : Int) + 1 + 1 + 1 + 1) = .int .i64 (c + 4 * (j' : Int)) ∧ ys'.length = n ∧ Hid (∀ t, t < j' → ys'.getD t e4 = (mk4 c n).getD t e4) ∧
            (w2.setCell ⟨g, j * 4 + 3, none⟩ (.string y)).ownsRow base 77 4 (.slice (some ⟨g, 0, none⟩) n cap0) n (flat4 ys') ∧ Below base w (w2.setCell ⟨g, j * 4 + 3, none⟩ (.string y)) ∧ w.grownBy (w2.setCell ⟨g, j * 4 + 3, none⟩ (.string y)) (some g) := by
          refine ⟨j + 1, ys.set j (q, c + 4 * (j : Int) + 1, c + 4 * (j : Int) + 1 + 1, y), by omega, by simp, by simp; omega, by simpa using HYL.out, ?_, by rw [flat4_set]; exact hs3.1, B2.out, G2.out⟩
          intro t ht
          by_cases e : t = j
          · subst e
            rw [mk4_get c n t (by omega), ← HYY.out, ← HQQ.out]
            simp [List.getD, HYL.out, hlt]
          · rw [← HY.out t (by omega)]
            simp [List.getD, Ne.symm e]
        have HR := hide R
        clear hcl hs3 hown2 R hb2
        go_wp2
        go_roundw
        case rel => exact HR.out
        case measure => simp [intOf]; omega
      · obtain rfl : j = n := by omega
        have e : ys = mk4 c j := list_same4 (mk4_len c j) hyl (fun t ht => HY.out t ht)
        subst e
        have hltI : ¬ (j : Int) < (j : Int) := by omega
        clear hyl
        go_wp2
        go_ret
        exact ⟨rfl, hown, hbel, hgr⟩
end Go.Proofs.Ythmekhhfihjclag.Nte

namespace Go.Proofs.Ythmekhhfihjclag.Nte
open Go.RowKit L1 L3
set_option linter.unusedVariables false

set_option maxRecDepth 100000 in
set_option maxHeartbeats 2000000 in
theorem heldNoteS_from (a : Option Addr) (n cap : Nat) (w : World) (c : Int) (hc0 : 0 < c) (hc1 : c ≤ 1073741824) (hn2 : n ≤ 1048576) (hs : Sl4 w a (mk4 c n)) :
    Calls Try.prog 67 #[.slice a n cap, .int .i64 c] w fun e w' => e = .returned (.int .i64 (c + 4 * (n : Int))) ∧ Below w.heap.size w w' := by
  have HS := hide hs
  clear hs
  go_enter Try.func67, Try.ntmps67
  go_wp2
  go_loopw [1, 5] (fun k i wr => ∃ j : Nat, j ≤ n ∧ i = .int .i64 j ∧ k = .int .i64 (c + 4 * (j : Int)) ∧ Below w.heap.size w wr) (fun _ i _ => n - (intOf i).toNat)
  case atStart => exact ⟨0, by omega, rfl, by simp, Below.refl _ _⟩
  case round =>
    obtain ⟨j, hj, rfl, rfl, hbel⟩ := hrel
    by_cases hlt : j < n
    · obtain ⟨b, off, rfl, hq0, hc0', he0, hd0⟩ := HS.out j (by rw [mk4_len]; exact hlt)
      rw [mk4_get c n j hlt] at hq0 hc0' hd0 he0
      have hqc := (hbel.cell (p := ⟨b, off + j * 4, none⟩) (blk_lt hq0)).trans hq0
      have hc := (hbel.cell (p := ⟨b, off + j * 4 + 1, none⟩) (blk_lt hc0')).trans hc0'
      have he := (hbel.cell (p := ⟨b, off + j * 4 + 2, none⟩) (blk_lt he0)).trans he0
      have hd := (hbel.cell (p := ⟨b, off + j * 4 + 3, none⟩) (blk_lt hd0)).trans hd0
      have hltI : (j : Int) < (n : Int) := by omega
      have hj0 : (0 : Int) ≤ (j : Int) := by omega
      obtain ⟨q, hq⟩ : ∃ q, q = b3 (c + 4 * (j : Int)) := ⟨_, rfl⟩
      have hbq : ((c + 4 * (j : Int)) % 3 == 0) = q := by rw [hq]; rfl
      rw [← hq] at hqc
      have C2 := hide (fun w => markText_any (c + 4 * (j : Int) + 1 + 1 + 1) w (by omega) (by omega))
      obtain ⟨y, hy⟩ : ∃ y, y = mkT (c + 4 * (j : Int) + 1 + 1 + 1) := ⟨_, rfl⟩
      simp only [← hy] at C2 hd
      have hyy : (y.toList == y.toList) = true := by simp
      have B0 := hide hbel
      clear hc0' hd0 he0 hq0 hq hy hbel
      go_wp2
      go_region_held3 (fun wx => wx.cell? ⟨b, off + j * 4 + 3, none⟩ = some (.string y) ∧ Below wr.heap.size wr wx) (first | exact ⟨hd, (Below.refl _ _).drew⟩ | exact keep1N (by assumption) (by assumption) (Nat.le_refl _)) ((go_at_call 72; refine (C2.out _).mono ?_; rintro e w1 ⟨rfl, hb⟩))
      rename_i hHeld
      have B2 := hide (B0.out.trans (hHeld.2.mono B0.out.size))
      clear hHeld hd
      go_wp2
      go_roundw
      case rel => exact ⟨j + 1, by omega, by go_num, by simp; omega, B2.out⟩
      case measure => simp [intOf]; omega
    · have hltI : ¬ (j : Int) < (n : Int) := by omega
      obtain rfl : j = n := by omega
      go_wp2
      go_ret
      exact ⟨rfl, hbel⟩
end Go.Proofs.Ythmekhhfihjclag.Nte

namespace Go.Proofs.Ythmekhhfihjclag.Tri
open Go.RowKit L1 L3
set_option linter.unusedVariables false

def mk3 (c : Int) (n : Nat) : List Tr := (List.range n).map fun i : Nat => ((c + 3 * (i : Int)), (c + 3 * (i : Int) + 1), mkT (c + 3 * (i : Int) + 1 + 1))
theorem mk3_len (c : Int) (n : Nat) : (mk3 c n).length = n := by simp [mk3]
theorem mk3_get (c : Int) (n j : Nat) (h : j < n) : (mk3 c n).getD j e3 = ((c + 3 * (j : Int)), (c + 3 * (j : Int) + 1), mkT (c + 3 * (j : Int) + 1 + 1)) := by
  simp [mk3, List.getD, h]
theorem grown_below3 {w w' : World} (h : Below w.heap.size w w') (row : Option Nat) : w.grownBy w' row := ⟨h.os, h.tape, h.output, h.size, fun k hk _ => h.block k hk⟩
theorem keep1T {wa wb : World} {B1 O1 N : Nat} {v1 : Value} {W : World} (h : wa.cell? ⟨B1, O1, none⟩ = some v1 ∧ Below N W wa) (hb : Below wa.heap.size wa wb) (hN : N ≤ W.heap.size) :
    wb.cell? ⟨B1, O1, none⟩ = some v1 ∧ Below N W wb :=
  ⟨(hb.cell (p := ⟨B1, O1, none⟩) (blk_lt h.1)).trans h.1, h.2.trans (hb.mono (Nat.le_trans hN h.2.size))⟩
end Go.Proofs.Ythmekhhfihjclag.Tri

namespace Go.Proofs.Ythmekhhfihjclag.Tri
open Go.RowKit L1 L3
set_option linter.unusedVariables false

set_option maxRecDepth 100000 in
set_option maxHeartbeats 2000000 in
theorem markToldS_from (base : Nat) (v : Value) (l : List Tr) (n : Nat) (w : World) (c : Int) (hc0 : 0 < c) (hc1 : c ≤ 1073741824) (hn2 : n ≤ 1048576) (ho : w.ownsRow base 75 3 v n (flat3 l)) (hbase : base ≤ w.heap.size) :
    Calls Try.prog 64 #[v, .int .i64 c] w fun e w' => e = .returned (.int .i64 (c + 3 * (n : Int))) ∧ w'.ownsRow base 75 3 v n (flat3 (mk3 c n)) ∧ Below base w w' ∧ w.grownBy w' v.ownBlock := by
  obtain ⟨a, cap0, rfl, _, hl0⟩ := own_form3 ho
  by_cases hn0 : n = 0
  · subst hn0
    have hx : l = [] := List.eq_nil_of_length_eq_zero hl0
    subst hx
    have HO := hide ho
    clear ho hl0
    go_enter Try.func64, Try.ntmps64
    go_wp2
    go_loop [1, 5] (fun k i => k = .int .i64 c ∧ i = .int .i64 0) (fun _ _ => 0)
    case atStart => exact ⟨rfl, rfl⟩
    case round =>
      obtain ⟨rfl, rfl⟩ := hrel
      go_wp2
      go_ret
      exact ⟨by simp, HO.out, Below.refl _ _, World.grownBy.refl _ _⟩
  · obtain ⟨g, cap, e⟩ : ∃ g cap, Value.slice a n cap0 = .slice (some ⟨g, 0, none⟩) n cap := by
      rcases ho.2 with ⟨_, h0⟩ | ⟨g, cap, cur, hv, _⟩
      · omega
      · exact ⟨g, cap, hv⟩
    cases e
    have hge := (ho.lt g rfl).1
    have HO := hide ho
    have HL := hide hl0
    clear ho hl0 hn0
    go_enter Try.func64, Try.ntmps64
    go_wp2
    go_loopw [1, 5] (fun k i wr => ∃ (j : Nat) (ys : List Tr), j ≤ n ∧ i = .int .i64 j ∧ k = .int .i64 (c + 3 * (j : Int)) ∧ ys.length = n ∧ Hid (∀ t, t < j → ys.getD t e3 = (mk3 c n).getD t e3) ∧
        wr.ownsRow base 75 3 (.slice (some ⟨g, 0, none⟩) n cap0) n (flat3 ys) ∧ Below base w wr ∧ w.grownBy wr (some g)) (fun _ i _ => n - (intOf i).toNat)
    case atStart => exact ⟨0, l, by omega, rfl, by simp, HL.out, fun t ht => absurd ht (Nat.not_lt_zero _), HO.out, Below.refl _ _, World.grownBy.refl _ _⟩
    case round =>
      obtain ⟨j, ys, hj, rfl, rfl, hyl, HY, hown, hbel, hgr⟩ := hrel
      by_cases hlt : j < n
      · have hltI : (j : Int) < (n : Int) := by omega
        have C2 := hide (fun w => markText_any (c + 3 * (j : Int) + 1 + 1) w (by omega) (by omega))
        have hlf : (flat3 ys).length = n * 3 := by rw [flat3_len, hyl]
        have hcl := hown.cellAt (j * 3) (by omega)
        have hfr := hown.frozenAt (j * 3)
        obtain ⟨u, hu⟩ : ∃ u, wr.cell? ⟨g, j * 3, none⟩ = some u := ⟨_, hcl.trans (List.getElem?_eq_getElem (by omega))⟩
        have hs0 := hown.stored (j * 3) (.int .i64 (c + 3 * (j : Int)))
        have hcl1 := hs0.1.cellAt (j * 3 + 1) (by omega)
        have hfr1 := hs0.1.frozenAt (j * 3 + 1)
        obtain ⟨u1, hu1⟩ : ∃ u, (wr.setCell ⟨g, j * 3, none⟩ (.int .i64 (c + 3 * (j : Int)))).cell? ⟨g, j * 3 + 1, none⟩ = some u := ⟨_, hcl1.trans (List.getElem?_eq_getElem (by rw [List.length_set]; omega))⟩
        have hs1 := hs0.1.stored (j * 3 + 1) (.int .i64 (c + 3 * (j : Int) + 1))
        have B1 := hide ((hbel.setCell (p := ⟨g, j * 3, none⟩) hge (.int .i64 (c + 3 * (j : Int)))).setCell (p := ⟨g, j * 3 + 1, none⟩) hge (.int .i64 (c + 3 * (j : Int) + 1)))
        have G1 := hide ((hgr.trans hs0.2).trans hs1.2)
        have O1 := hide hs1.1
        obtain ⟨y, hy⟩ : ∃ y, y = mkT (c + 3 * (j : Int) + 1 + 1) := ⟨_, rfl⟩
        simp only [← hy] at C2
        have hsz := hbel.size
        have HLF := hide hlf
        have HYY := hide hy
        have HYL := hide hyl
        clear hlf hown hbel hgr hy hyl hcl hcl1 hs1 hs0
        go_wp2_with fail
        refine (C2.out _).mono ?_
        rintro e w2 ⟨rfl, hb2⟩
        have hown2 := own_below3 O1.out hb2
        have hcl := hown2.cellAt (j * 3 + 2) (by omega)
        have hfr2 := hown2.frozenAt (j * 3 + 2)
        obtain ⟨u2, hu2⟩ : ∃ u, w2.cell? ⟨g, j * 3 + 2, none⟩ = some u := ⟨_, hcl.trans (List.getElem?_eq_getElem (by rw [List.length_set, List.length_set, HLF.out]; omega))⟩
        have hs2 := hown2.stored (j * 3 + 2) (.string y)
        have hz1 := B1.out.size
        have B2 := hide ((B1.out.trans (hb2.mono (by omega))).setCell (p := ⟨g, j * 3 + 2, none⟩) hge (.string y))
        have G2 := hide (G1.out.trans ((grown_below3 hb2 _).trans hs2.2))
        have R : ∃ (j' : Nat) (ys' : List Tr), j' ≤ n ∧ Value.int .i64 ((j : Int) + 1) = .int .i64 j' ∧ Value.int .i64 (c + 3 * (j : Int) + 1 + 1 + 1) = .int .i64 (c + 3 * (j' : Int)) ∧ ys'.length = n ∧ Hid (∀ t, t < j' → ys'.getD t e3 = (mk3 c n).getD t e3) ∧
            (w2.setCell ⟨g, j * 3 + 2, none⟩ (.string y)).ownsRow base 75 3 (.slice (some ⟨g, 0, none⟩) n cap0) n (flat3 ys') ∧ Below base w (w2.setCell ⟨g, j * 3 + 2, none⟩ (.string y)) ∧ w.grownBy (w2.setCell ⟨g, j * 3 + 2, none⟩ (.string y)) (some g) := by
          refine ⟨j + 1, ys.set j (c + 3 * (j : Int), c + 3 * (j : Int) + 1, y), by omega, by simp, by simp; omega, by simpa using HYL.out, ?_, by rw [flat3_set]; exact hs2.1, B2.out, G2.out⟩
          intro t ht
          by_cases e : t = j
          · subst e
            rw [mk3_get c n t (by omega), ← HYY.out]
            simp [List.getD, HYL.out, hlt]
          · rw [← HY.out t (by omega)]
            simp [List.getD, Ne.symm e]
        have HR := hide R
        clear hcl hs2 hown2 R hb2
        go_wp2
        go_roundw
        case rel => exact HR.out
        case measure => simp [intOf]; omega
      · obtain rfl : j = n := by omega
        have e : ys = mk3 c j := list_same3 (mk3_len c j) hyl (fun t ht => HY.out t ht)
        subst e
        have hltI : ¬ (j : Int) < (j : Int) := by omega
        clear hyl
        go_wp2
        go_ret
        exact ⟨rfl, hown, hbel, hgr⟩
end Go.Proofs.Ythmekhhfihjclag.Tri

namespace Go.Proofs.Ythmekhhfihjclag.Tri
open Go.RowKit L1 L3
set_option linter.unusedVariables false

set_option maxRecDepth 100000 in
set_option maxHeartbeats 2000000 in
theorem heldToldS_any (a : Option Addr) (n cap : Nat) (w : World) (c : Int) (hc0 : 0 < c) (hc1 : c ≤ 1073741824) (hn2 : n ≤ 1048576) (hs : Sl3 w a (mk3 c n)) :
    Calls Try.prog 68 #[.slice a n cap, .int .i64 c] w fun e w' => e = .returned (.int .i64 (c + 3 * (n : Int))) ∧ Below w.heap.size w w' := by
  have HS := hide hs
  clear hs
  go_enter Try.func68, Try.ntmps68
  go_wp2
  go_loopw [1, 5] (fun k i wr => ∃ j : Nat, j ≤ n ∧ i = .int .i64 j ∧ k = .int .i64 (c + 3 * (j : Int)) ∧ Below w.heap.size w wr) (fun _ i _ => n - (intOf i).toNat)
  case atStart => exact ⟨0, by omega, rfl, by simp, Below.refl _ _⟩
  case round =>
    obtain ⟨j, hj, rfl, rfl, hbel⟩ := hrel
    by_cases hlt : j < n
    · obtain ⟨b, off, rfl, hc0', he0, hd0⟩ := HS.out j (by rw [mk3_len]; exact hlt)
      rw [mk3_get c n j hlt] at hc0' hd0 he0
      have hc := (hbel.cell (p := ⟨b, off + j * 3, none⟩) (blk_lt hc0')).trans hc0'
      have he := (hbel.cell (p := ⟨b, off + j * 3 + 1, none⟩) (blk_lt he0)).trans he0
      have hd := (hbel.cell (p := ⟨b, off + j * 3 + 2, none⟩) (blk_lt hd0)).trans hd0
      have hltI : (j : Int) < (n : Int) := by omega
      have hj0 : (0 : Int) ≤ (j : Int) := by omega
      have C2 := hide (fun w => markText_any (c + 3 * (j : Int) + 1 + 1) w (by omega) (by omega))
      obtain ⟨y, hy⟩ : ∃ y, y = mkT (c + 3 * (j : Int) + 1 + 1) := ⟨_, rfl⟩
      simp only [← hy] at C2 hd
      have hyy : (y.toList == y.toList) = true := by simp
      have B0 := hide hbel
      clear hc0' hd0 he0 hy hbel
      go_wp2
      go_region_held3 (fun wx => wx.cell? ⟨b, off + j * 3 + 2, none⟩ = some (.string y) ∧ Below wr.heap.size wr wx) (first | exact ⟨hd, (Below.refl _ _).drew⟩ | exact keep1T (by assumption) (by assumption) (Nat.le_refl _)) ((go_at_call 72; refine (C2.out _).mono ?_; rintro e w1 ⟨rfl, hb⟩))
      rename_i hHeld
      have B2 := hide (B0.out.trans (hHeld.2.mono B0.out.size))
      clear hHeld hd
      go_wp2
      go_roundw
      case rel => exact ⟨j + 1, by omega, by go_num, by simp; omega, B2.out⟩
      case measure => simp [intOf]; omega
    · have hltI : ¬ (j : Int) < (n : Int) := by omega
      obtain rfl : j = n := by omega
      go_wp2
      go_ret
      exact ⟨rfl, hbel⟩
end Go.Proofs.Ythmekhhfihjclag.Tri

namespace Go.Proofs.Ythmekhhfihjclag.L1
open Go.RowKit
set_option linter.unusedVariables false

set_option maxRecDepth 100000 in
set_option maxHeartbeats 1000000 in
theorem eqIntS_same (a b : Option Addr) (xs : List Int) (n c1 c2 : Nat) (w : World) (hn : xs.length = n) (ha : Sl w a xs) (hb : Sl w b xs) (hn2 : n ≤ 1048576) :
    Calls Try.prog 54 #[.slice a n c1, .slice b n c2] w fun e w' => e = .returned (.bool true) ∧ Below w.heap.size w w' := by
  have HA := hide ha
  have HB := hide hb
  have HN := hide hn
  clear ha hb hn
  go_enter Try.func54, Try.ntmps54
  go_wp2
  go_loopw [5] (fun i wr => ∃ k : Nat, k ≤ n ∧ i = .int .i64 k ∧ Below w.heap.size w wr) (fun i _ => n - (intOf i).toNat)
  case atStart => exact ⟨0, Nat.zero_le _, rfl, Below.refl _ _⟩
  case round =>
    obtain ⟨k, hk, rfl, hbel⟩ := hrel
    by_cases hlt : k < n
    · obtain ⟨b1, o1, rfl, h1⟩ := HA.out k (by rw [HN.out]; exact hlt)
      obtain ⟨b2, o2, rfl, h2⟩ := HB.out k (by rw [HN.out]; exact hlt)
      have g1 : wr.cell? ⟨b1, o1 + k, none⟩ = some (.int .i64 (xs.getD k 0)) := by
        rw [hbel.cell (p := ⟨b1, o1 + k, none⟩) (blk_lt h1)]
        exact h1
      have g2 : wr.cell? ⟨b2, o2 + k, none⟩ = some (.int .i64 (xs.getD k 0)) := by
        rw [hbel.cell (p := ⟨b2, o2 + k, none⟩) (blk_lt h2)]
        exact h2
      obtain ⟨x, hx⟩ : ∃ x, x = xs.getD k 0 := ⟨_, rfl⟩
      rw [← hx] at g1 g2
      have hltI : (k : Int) < (n : Int) := by omega
      clear h1 h2 hx
      go_wp2
      go_quiet (fail)
      go_wp2
      go_roundw
      case rel => exact ⟨k + 1, by omega, by go_num, below_drewN hbel _⟩
      case measure => simp [intOf]; omega
    · have hltI : ¬ (k : Int) < (n : Int) := by omega
      go_wp2
      go_ret
      exact ⟨rfl, hbel⟩
end Go.Proofs.Ythmekhhfihjclag.L1

namespace Go.Proofs.Ythmekhhfihjclag.L1

theorem gvf_some : ∀ (f : Nat) (pre t l : List Int), gvf f pre t = some l → ∃ m, 1 ≤ m ∧ m ≤ t.length ∧ l = pre ++ t.take m
  | 0, _, _, _, h => by simp [gvf] at h
  | _ + 1, _, [], _, h => by simp [gvf] at h
  | f + 1, pre, x :: r, l, h => by
    simp only [gvf] at h
    split at h
    · obtain ⟨m, h1, h2, h3⟩ := gvf_some f (pre ++ [x]) r l h
      refine ⟨m + 1, by omega, by simp; omega, ?_⟩
      rw [h3]
      simp
    · split at h
      · simp only [Option.some.injEq] at h
        exact ⟨1, by omega, by simp, by rw [← h]; simp⟩
      · simp at h
theorem gv_some {t l : List Int} (h : gv t = some l) : 1 ≤ l.length ∧ l.length ≤ t.length := by
  obtain ⟨m, h1, h2, h3⟩ := gvf_some 6 [] t l h
  rw [h3]
  simp
  omega

/-- All numbers of a text. -/
def ga : Nat → List Int → Option (List Int)
  | _, [] => some []
  | 0, _ :: _ => none
  | f + 1, x :: r => match gv (x :: r) with
    | none => none
    | some l => (ga f ((x :: r).drop l.length)).map fun o => zag (val l) :: o

theorem ga_fuel : ∀ (n : Nat) (t : List Int) (f g : Nat), t.length ≤ n → t.length ≤ f → t.length ≤ g → ga f t = ga g t
  | _, [], f, g, _, _, _ => by cases f <;> cases g <;> rfl
  | 0, x :: r, _, _, h, _, _ => by simp at h
  | n + 1, x :: r, f, g, h, hf, hg => by
    obtain ⟨f, rfl⟩ : ∃ j, f = j + 1 := ⟨f - 1, by simp at hf; omega⟩
    obtain ⟨g, rfl⟩ : ∃ j, g = j + 1 := ⟨g - 1, by simp at hg; omega⟩
    simp only [ga]
    cases hv : gv (x :: r) with
    | none => rfl
    | some l =>
      have hl := gv_some hv
      have e := ga_fuel n ((x :: r).drop l.length) f g (by simp at *; omega) (by simp at *; omega) (by simp at *; omega)
      simp only [e]

def gall (t : List Int) : Option (List Int) := ga t.length t
theorem gall_nil : gall [] = some [] := rfl
theorem gall_none {t : List Int} (h0 : 0 < t.length) (h : gv t = none) : gall t = none := by
  cases t with
  | nil => simp at h0
  | cons x r => simp only [gall, List.length_cons, ga, h]
theorem gall_some {t l : List Int} (h0 : 0 < t.length) (h : gv t = some l) : gall t = (gall (t.drop l.length)).map fun o => zag (val l) :: o := by
  cases t with
  | nil => simp at h0
  | cons x r =>
    have hl := gv_some h
    simp only [gall, List.length_cons, ga, h]
    rw [ga_fuel (r.length + 1) ((x :: r).drop l.length) r.length ((x :: r).drop l.length).length (by simp) (by simp at *; omega) (by simp)]

/-- What is read so far, and what is still to be read. -/
theorem gall_step {A : Option (List Int)} {xs t l : List Int} (h0 : 0 < t.length) (h : gv t = some l) (hA : A = (gall t).map fun o => xs ++ o) :
    A = (gall (t.drop l.length)).map fun o => (xs ++ [zag (val l)]) ++ o := by
  rw [hA, gall_some h0 h]
  cases gall (t.drop l.length) <;> simp
theorem gall_stop {A : Option (List Int)} {xs t : List Int} (h0 : 0 < t.length) (h : gv t = none) (hA : A = (gall t).map fun o => xs ++ o) : A = none := by
  rw [hA, gall_none h0 h]
  rfl
theorem gall_over {A : Option (List Int)} {xs t : List Int} (hA : A = (gall t).map fun o => xs ++ o) {ys : List Int} (h : A = some ys) : xs.length ≤ ys.length := by
  rw [hA] at h
  cases hg : gall t with
  | none => rw [hg] at h; simp at h
  | some o =>
    rw [hg] at h
    simp at h
    rw [← h]
    simp

/-- The numbers of a text that are at most 60. -/
def gaRes (t : List Int) : Option (List Int) := if t.length ≤ 600 then (gall t).bind (fun xs => if xs.length ≤ 60 then some xs else none) else none
def marks (k : Int) (n : Nat) : List Int := (List.range n).map fun i : Nat => k + (i : Int)
theorem marks_len (k : Int) (n : Nat) : (marks k n).length = n := by simp [marks]
theorem marks_get (k : Int) (n j : Nat) (h : j < n) : (marks k n).getD j 0 = k + (j : Int) := by
  simp [marks, List.getD, h]
end Go.Proofs.Ythmekhhfihjclag.L1

namespace Go.Proofs.Ythmekhhfihjclag.L1
open Go.RowKit
set_option linter.unusedVariables false

set_option maxRecDepth 100000 in
set_option maxHeartbeats 1000000 in
theorem markIntS_all (base : Nat) (v : Value) (xs : List Int) (n : Nat) (w : World) (hn2 : n ≤ 1048576) (ho : w.ownsRow base 3 1 v n (xs.map (Value.int .i64))) :
    Calls Try.prog 62 #[v, .int .i64 1] w fun e w' => e = .returned (.int .i64 (1 + (n : Int))) ∧ w'.ownsRow base 3 1 v n ((marks 1 n).map (Value.int .i64)) ∧ Below base w w' ∧ w.grownBy w' v.ownBlock := by
  have hl0 := ho.1
  simp at hl0
  by_cases hn0 : n = 0
  · subst hn0
    obtain ⟨a, cap, rfl, _, hl⟩ := own_form ho
    have hx : xs = [] := List.eq_nil_of_length_eq_zero hl
    subst hx
    have HO := hide ho
    clear ho hl hl0
    go_enter Try.func62, Try.ntmps62
    go_wp2
    go_loop [1, 5] (fun k i => k = .int .i64 1 ∧ i = .int .i64 0) (fun _ _ => 0)
    case atStart => exact ⟨rfl, rfl⟩
    case round =>
      obtain ⟨rfl, rfl⟩ := hrel
      go_wp2
      go_ret
      exact ⟨rfl, HO.out, Below.refl _ _, World.grownBy.refl _ _⟩
  · obtain ⟨g, cap, rfl⟩ : ∃ g cap, v = .slice (some ⟨g, 0, none⟩) n cap := by
      rcases ho.2 with ⟨_, h0⟩ | ⟨g, cap, cur, hv, _⟩
      · omega
      · exact ⟨g, cap, hv⟩
    have hge := own_ge ho
    have HO := hide ho
    have HL := hide hl0
    clear ho hl0 hn0
    go_enter Try.func62, Try.ntmps62
    go_wp2
    go_loopw [1, 5] (fun k i wr => ∃ (j : Nat) (ys : List Int), j ≤ n ∧ i = .int .i64 j ∧ k = .int .i64 (1 + (j : Int)) ∧ ys.length = n ∧ Hid (∀ t, t < j → ys.getD t 0 = (marks 1 n).getD t 0) ∧
        wr.ownsRow base 3 1 (.slice (some ⟨g, 0, none⟩) n cap) n (ys.map (Value.int .i64)) ∧ Below base w wr ∧ w.grownBy wr (some g)) (fun _ i _ => n - (intOf i).toNat)
    case atStart => exact ⟨0, xs, by omega, rfl, rfl, HL.out, fun t ht => absurd ht (Nat.not_lt_zero _), HO.out, Below.refl _ _, World.grownBy.refl _ _⟩
    case round =>
      obtain ⟨j, ys, hj, rfl, rfl, hyl, HY, hown, hbel, hgr⟩ := hrel
      by_cases hlt : j < n
      · have hltI : (j : Int) < (n : Int) := by omega
        have hcl := hown.cellAt j (by omega)
        have hfr := hown.frozenAt j
        obtain ⟨u, hu⟩ : ∃ u, wr.cell? ⟨g, j, none⟩ = some u := ⟨_, hcl.trans (List.getElem?_eq_getElem (by simp; omega))⟩
        have hst := hown.stored j (.int .i64 (1 + (j : Int)))
        have R : ∃ (j' : Nat) (ys' : List Int), j' ≤ n ∧ Value.int .i64 ((j : Int) + 1) = .int .i64 j' ∧ Value.int .i64 (1 + (j : Int) + 1) = .int .i64 (1 + (j' : Int)) ∧ ys'.length = n ∧ Hid (∀ t, t < j' → ys'.getD t 0 = (marks 1 n).getD t 0) ∧
            (wr.setCell ⟨g, j, none⟩ (.int .i64 (1 + (j : Int)))).ownsRow base 3 1 (.slice (some ⟨g, 0, none⟩) n cap) n (ys'.map (Value.int .i64)) ∧ Below base w (wr.setCell ⟨g, j, none⟩ (.int .i64 (1 + (j : Int)))) ∧ w.grownBy (wr.setCell ⟨g, j, none⟩ (.int .i64 (1 + (j : Int)))) (some g) := by
          refine ⟨j + 1, ys.set j (1 + (j : Int)), by omega, by simp, by simp; omega, by simpa using hyl, ?_, by rw [List.map_set]; exact hst.1, hbel.setCell (p := ⟨g, j, none⟩) hge _, hgr.trans hst.2⟩
          intro t ht
          by_cases e : t = j
          · subst e
            rw [marks_get 1 n t (by omega)]
            simp [List.getD, hyl, hlt]
          · rw [← HY.out t (by omega)]
            simp [List.getD, Ne.symm e]
        have HR := hide R
        clear hcl hst R hyl
        go_wp2
        go_roundw
        case rel => exact HR.out
        case measure => simp [intOf]; omega
      · obtain rfl : j = n := by omega
        have e : ys = marks 1 j := list_same (marks_len 1 j) hyl (fun t ht => HY.out t ht)
        subst e
        have hltI : ¬ (j : Int) < (j : Int) := by omega
        clear hyl
        go_wp2
        go_ret
        exact ⟨rfl, hown, hbel, hgr⟩

theorem markIntS_any (base : Nat) (v : Value) (xs : List Int) (n : Nat) (w : World) (hn2 : n ≤ 1048576) (ho : w.ownsRow base 3 1 v n (xs.map (Value.int .i64))) :
    Calls Try.prog 62 #[v, .int .i64 1] w fun e w' => e = .returned (.int .i64 (1 + (n : Int))) ∧ w'.ownsRow base 3 1 v n ((marks 1 n).map (Value.int .i64)) ∧ Below base w w' :=
  (markIntS_all base v xs n w hn2 ho).mono fun e w' h => ⟨h.1, h.2.1, h.2.2.1⟩

set_option maxRecDepth 100000 in
set_option maxHeartbeats 1000000 in
theorem heldIntS_any (a : Option Addr) (n cap : Nat) (w : World) (hn2 : n ≤ 1048576) (hs : Sl w a (marks 1 n)) :
    Calls Try.prog 66 #[.slice a n cap, .int .i64 1] w fun e w' => e = .returned (.int .i64 (1 + (n : Int))) ∧ Below w.heap.size w w' := by
  have HS := hide hs
  clear hs
  go_enter Try.func66, Try.ntmps66
  go_wp2
  go_loop [1, 5] (fun k i => ∃ j : Nat, j ≤ n ∧ i = .int .i64 j ∧ k = .int .i64 (1 + (j : Int))) (fun _ i => n - (intOf i).toNat)
  case atStart => exact ⟨0, by omega, rfl, rfl⟩
  case round =>
    obtain ⟨j, hj, rfl, rfl⟩ := hrel
    by_cases hlt : j < n
    · obtain ⟨b, off, rfl, hc⟩ := HS.out j (by rw [marks_len]; exact hlt)
      rw [marks_get 1 n j hlt] at hc
      have hltI : (j : Int) < (n : Int) := by omega
      go_wp2
      go_round
      case rel => exact ⟨j + 1, by omega, by go_num, by go_num⟩
      case measure => simp [intOf]; omega
    · have hltI : ¬ (j : Int) < (n : Int) := by omega
      obtain rfl : j = n := by omega
      go_wp2
      go_ret
      exact ⟨rfl, Below.refl _ _⟩
end Go.Proofs.Ythmekhhfihjclag.L1
