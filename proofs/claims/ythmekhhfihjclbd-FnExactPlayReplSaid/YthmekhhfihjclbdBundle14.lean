/-
  Contracts of the laws' own helpers eqReplStep, eqReplStepS.
  What markXS writes into lists of structs of an int, an int and a text. Nothing of the program's text is proved here.
  Contract of the laws' own helper markReplStepS.
  The walk of the law FnExactPlayRepl: it returns true at every number and every list of steps; memory that was there stays as it was.
-/
import Derived.Test.YthmekhhfihjclbdBundle13
import Derived.Deep.RegionHeld3
import Derived.Test.YthmekhhfihjclbdBundle12
import Derived.Test.YthmekhhfihjclbdBundle11
namespace Go.Proofs.Ythmekhhfihjclbd.Tri
open Go.RowKit L1
set_option linter.unusedVariables false

set_option maxRecDepth 100000 in
set_option maxHeartbeats 400000 in
theorem eqReplStep_same (x z : Int) (y : ByteArray) (w : World) :
    Calls Try.prog 68 #[.agg #[.int .i64 x, .int .i64 z, .string y], .agg #[.int .i64 x, .int .i64 z, .string y]] w fun e w' => e = .returned (.bool true) ∧ Below w.heap.size w w' := by
  go_enter Try.func68, Try.ntmps68
  go_wp2
  go_ret
  exact ⟨rfl, ((Below.refl _ _).alloc (Nat.le_refl _) _).alloc (by simp) _⟩

theorem keep6ReplStep {wa wb : World} {B1 O1 B2 O2 N : Nat} {v1 v2 v3 v4 v5 v6 : Value} {W : World} (h : wa.cell? ⟨B1, O1, none⟩ = some v1 ∧ wa.cell? ⟨B1, O1 + 1, none⟩ = some v2 ∧ wa.cell? ⟨B1, O1 + 2, none⟩ = some v3 ∧ wa.cell? ⟨B2, O2, none⟩ = some v4 ∧ wa.cell? ⟨B2, O2 + 1, none⟩ = some v5 ∧ wa.cell? ⟨B2, O2 + 2, none⟩ = some v6 ∧ Below N W wa) (hb : Below wa.heap.size wa wb) (hN : N ≤ W.heap.size) :
    wb.cell? ⟨B1, O1, none⟩ = some v1 ∧ wb.cell? ⟨B1, O1 + 1, none⟩ = some v2 ∧ wb.cell? ⟨B1, O1 + 2, none⟩ = some v3 ∧ wb.cell? ⟨B2, O2, none⟩ = some v4 ∧ wb.cell? ⟨B2, O2 + 1, none⟩ = some v5 ∧ wb.cell? ⟨B2, O2 + 2, none⟩ = some v6 ∧ Below N W wb := by
  obtain ⟨h1, h2, h3, h4, h5, h6, h7⟩ := h
  exact ⟨(hb.cell (p := ⟨B1, O1, none⟩) (blk_lt h1)).trans h1, (hb.cell (p := ⟨B1, O1 + 1, none⟩) (blk_lt h2)).trans h2, (hb.cell (p := ⟨B1, O1 + 2, none⟩) (blk_lt h3)).trans h3, (hb.cell (p := ⟨B2, O2, none⟩) (blk_lt h4)).trans h4, (hb.cell (p := ⟨B2, O2 + 1, none⟩) (blk_lt h5)).trans h5, (hb.cell (p := ⟨B2, O2 + 2, none⟩) (blk_lt h6)).trans h6, h7.trans (hb.mono (Nat.le_trans hN h7.size))⟩

set_option maxRecDepth 100000 in
set_option maxHeartbeats 1000000 in
theorem eqReplStepS_same (a b : Option Addr) (xs : List Tr) (n c1 c2 : Nat) (w : World) (hn : xs.length = n) (ha : Sl3 w a xs) (hb : Sl3 w b xs) (hn2 : n ≤ 1048576) :
    Calls Try.prog 31 #[.slice a n c1, .slice b n c2] w fun e w' => e = .returned (.bool true) ∧ Below w.heap.size w w' := by
  have HA := hide ha
  have HB := hide hb
  have HN := hide hn
  clear ha hb hn
  go_enter Try.func31, Try.ntmps31
  go_wp2
  go_loopw [5] (fun i wr => ∃ k : Nat, k ≤ n ∧ i = .int .i64 k ∧ Below w.heap.size w wr) (fun i _ => n - (intOf i).toNat)
  case atStart => exact ⟨0, Nat.zero_le _, rfl, Below.refl _ _⟩
  case round =>
    obtain ⟨k, hk, rfl, hbel⟩ := hrel
    by_cases hlt : k < n
    · obtain ⟨b1, o1, rfl, h1, h1', h1''⟩ := HA.out k (by rw [HN.out]; exact hlt)
      obtain ⟨b2, o2, rfl, h2, h2', h2''⟩ := HB.out k (by rw [HN.out]; exact hlt)
      have g1 := (hbel.cell (p := ⟨b1, o1 + k * 3, none⟩) (blk_lt h1)).trans h1
      have g1' := (hbel.cell (p := ⟨b1, o1 + k * 3 + 1, none⟩) (blk_lt h1')).trans h1'
      have g1'' := (hbel.cell (p := ⟨b1, o1 + k * 3 + 2, none⟩) (blk_lt h1'')).trans h1''
      have g2 := (hbel.cell (p := ⟨b2, o2 + k * 3, none⟩) (blk_lt h2)).trans h2
      have g2' := (hbel.cell (p := ⟨b2, o2 + k * 3 + 1, none⟩) (blk_lt h2')).trans h2'
      have g2'' := (hbel.cell (p := ⟨b2, o2 + k * 3 + 2, none⟩) (blk_lt h2'')).trans h2''
      obtain ⟨x, hx⟩ : ∃ x, x = (xs.getD k e3).1 := ⟨_, rfl⟩
      obtain ⟨z, hz⟩ : ∃ z, z = (xs.getD k e3).2.1 := ⟨_, rfl⟩
      obtain ⟨y, hy⟩ : ∃ y, y = (xs.getD k e3).2.2 := ⟨_, rfl⟩
      rw [← hx] at g1 g2
      rw [← hz] at g1' g2'
      rw [← hy] at g1'' g2''
      have hltI : (k : Int) < (n : Int) := by omega
      have hk0 : (0 : Int) ≤ (k : Int) := by omega
      clear h1 h2 h1' h2' h1'' h2'' hx hy hz
      go_wp2
      go_region_held3 (fun wx => wx.cell? ⟨b1, o1 + k * 3, none⟩ = some (.int .i64 x) ∧ wx.cell? ⟨b1, o1 + k * 3 + 1, none⟩ = some (.int .i64 z) ∧ wx.cell? ⟨b1, o1 + k * 3 + 2, none⟩ = some (.string y) ∧ wx.cell? ⟨b2, o2 + k * 3, none⟩ = some (.int .i64 x) ∧ wx.cell? ⟨b2, o2 + k * 3 + 1, none⟩ = some (.int .i64 z) ∧ wx.cell? ⟨b2, o2 + k * 3 + 2, none⟩ = some (.string y) ∧ Below wr.heap.size wr wx) (first | exact ⟨g1, g1', g1'', g2, g2', g2'', (Below.refl _ _).drew⟩ | exact keep6ReplStep (by assumption) (by assumption) (Nat.le_refl _)) ((go_at_call 68; refine (eqReplStep_same x z y _).mono ?_; rintro e w1 ⟨rfl, hb⟩))
      rename_i hHeld
      have B1 := hide (hbel.trans (hHeld.2.2.2.2.2.2.mono hbel.size))
      clear hHeld
      go_wp2
      go_roundw
      case rel => exact ⟨k + 1, by omega, by go_num, B1.out⟩
      case measure => simp [intOf]; omega
    · have hltI : ¬ (k : Int) < (n : Int) := by omega
      go_wp2
      go_ret
      exact ⟨rfl, hbel⟩
end Go.Proofs.Ythmekhhfihjclbd.Tri

namespace Go.Proofs.Ythmekhhfihjclbd.Tri
open Go.RowKit L1 L3
set_option linter.unusedVariables false

def mk3 (c : Int) (n : Nat) : List Tr := (List.range n).map fun i : Nat => ((c + 3 * (i : Int)), (c + 3 * (i : Int) + 1), mkT (c + 3 * (i : Int) + 1 + 1))
theorem mk3_len (c : Int) (n : Nat) : (mk3 c n).length = n := by simp [mk3]
theorem mk3_get (c : Int) (n j : Nat) (h : j < n) : (mk3 c n).getD j e3 = ((c + 3 * (j : Int)), (c + 3 * (j : Int) + 1), mkT (c + 3 * (j : Int) + 1 + 1)) := by
  simp [mk3, List.getD, h]
theorem grown_below3 {w w' : World} (h : Below w.heap.size w w') (row : Option Nat) : w.grownBy w' row := ⟨h.os, h.tape, h.output, h.size, fun k hk _ => h.block k hk⟩
theorem keep1T {wa wb : World} {B1 O1 N : Nat} {v1 : Value} {W : World} (h : wa.cell? ⟨B1, O1, none⟩ = some v1 ∧ Below N W wa) (hb : Below wa.heap.size wa wb) (hN : N ≤ W.heap.size) :
    wb.cell? ⟨B1, O1, none⟩ = some v1 ∧ Below N W wb :=
  ⟨(hb.cell (p := ⟨B1, O1, none⟩) (blk_lt h.1)).trans h.1, h.2.trans (hb.mono (Nat.le_trans hN h.2.size))⟩
end Go.Proofs.Ythmekhhfihjclbd.Tri

namespace Go.Proofs.Ythmekhhfihjclbd.Tri
open Go.RowKit L1 L3
set_option linter.unusedVariables false

set_option maxRecDepth 100000 in
set_option maxHeartbeats 2000000 in
theorem markReplStepS_from (base : Nat) (v : Value) (l : List Tr) (n : Nat) (w : World) (c : Int) (hc0 : 0 < c) (hc1 : c ≤ 1073741824) (hn2 : n ≤ 1048576) (ho : w.ownsRow base 50 3 v n (flat3 l)) (hbase : base ≤ w.heap.size) :
    Calls Try.prog 32 #[v, .int .i64 c] w fun e w' => e = .returned (.int .i64 (c + 3 * (n : Int))) ∧ w'.ownsRow base 50 3 v n (flat3 (mk3 c n)) ∧ Below base w w' ∧ w.grownBy w' v.ownBlock := by
  obtain ⟨a, cap0, rfl, _, hl0⟩ := own_form3 ho
  by_cases hn0 : n = 0
  · subst hn0
    have hx : l = [] := List.eq_nil_of_length_eq_zero hl0
    subst hx
    have HO := hide ho
    clear ho hl0
    go_enter Try.func32, Try.ntmps32
    go_wp2
    go_loop [1, 5] (fun k i => k = .int .i64 c ∧ i = .int .i64 0) (fun _ _ => 0)
    case atStart => exact ⟨rfl, rfl⟩
    case round =>
      obtain ⟨rfl, rfl⟩ := hrel
      go_wp2
      go_ret
      exact ⟨by simp, HO.out, Below.refl _ _, World.grownBy.refl _ _⟩
  · obtain ⟨g, cap, e⟩ : ∃ g cap, Value.slice a n cap0 = .slice (some ⟨g, 0, none⟩) n cap := by
      rcases ho.2 with ⟨_, h0⟩ | ⟨g, cap, cur, hv, _⟩
      · omega
      · exact ⟨g, cap, hv⟩
    cases e
    have hge := (ho.lt g rfl).1
    have HO := hide ho
    have HL := hide hl0
    clear ho hl0 hn0
    go_enter Try.func32, Try.ntmps32
    go_wp2
    go_loopw [1, 5] (fun k i wr => ∃ (j : Nat) (ys : List Tr), j ≤ n ∧ i = .int .i64 j ∧ k = .int .i64 (c + 3 * (j : Int)) ∧ ys.length = n ∧ Hid (∀ t, t < j → ys.getD t e3 = (mk3 c n).getD t e3) ∧
        wr.ownsRow base 50 3 (.slice (some ⟨g, 0, none⟩) n cap0) n (flat3 ys) ∧ Below base w wr ∧ w.grownBy wr (some g)) (fun _ i _ => n - (intOf i).toNat)
    case atStart => exact ⟨0, l, by omega, rfl, by simp, HL.out, fun t ht => absurd ht (Nat.not_lt_zero _), HO.out, Below.refl _ _, World.grownBy.refl _ _⟩
    case round =>
      obtain ⟨j, ys, hj, rfl, rfl, hyl, HY, hown, hbel, hgr⟩ := hrel
      by_cases hlt : j < n
      · have hltI : (j : Int) < (n : Int) := by omega
        have C2 := hide (fun w => markText_any (c + 3 * (j : Int) + 1 + 1) w (by omega) (by omega))
        have hlf : (flat3 ys).length = n * 3 := by rw [flat3_len, hyl]
        have hcl := hown.cellAt (j * 3) (by omega)
        have hfr := hown.frozenAt (j * 3)
        obtain ⟨u, hu⟩ : ∃ u, wr.cell? ⟨g, j * 3, none⟩ = some u := ⟨_, hcl.trans (List.getElem?_eq_getElem (by omega))⟩
        have hs0 := hown.stored (j * 3) (.int .i64 (c + 3 * (j : Int)))
        have hcl1 := hs0.1.cellAt (j * 3 + 1) (by omega)
        have hfr1 := hs0.1.frozenAt (j * 3 + 1)
        obtain ⟨u1, hu1⟩ : ∃ u, (wr.setCell ⟨g, j * 3, none⟩ (.int .i64 (c + 3 * (j : Int)))).cell? ⟨g, j * 3 + 1, none⟩ = some u := ⟨_, hcl1.trans (List.getElem?_eq_getElem (by rw [List.length_set]; omega))⟩
        have hs1 := hs0.1.stored (j * 3 + 1) (.int .i64 (c + 3 * (j : Int) + 1))
        have B1 := hide ((hbel.setCell (p := ⟨g, j * 3, none⟩) hge (.int .i64 (c + 3 * (j : Int)))).setCell (p := ⟨g, j * 3 + 1, none⟩) hge (.int .i64 (c + 3 * (j : Int) + 1)))
        have G1 := hide ((hgr.trans hs0.2).trans hs1.2)
        have O1 := hide hs1.1
        obtain ⟨y, hy⟩ : ∃ y, y = mkT (c + 3 * (j : Int) + 1 + 1) := ⟨_, rfl⟩
        simp only [← hy] at C2
        have hsz := hbel.size
        have HLF := hide hlf
        have HYY := hide hy
        have HYL := hide hyl
        clear hlf hown hbel hgr hy hyl hcl hcl1 hs1 hs0
        go_wp2_with fail
        refine (C2.out _).mono ?_
        rintro e w2 ⟨rfl, hb2⟩
        have hown2 := own_below3 O1.out hb2
        have hcl := hown2.cellAt (j * 3 + 2) (by omega)
        have hfr2 := hown2.frozenAt (j * 3 + 2)
        obtain ⟨u2, hu2⟩ : ∃ u, w2.cell? ⟨g, j * 3 + 2, none⟩ = some u := ⟨_, hcl.trans (List.getElem?_eq_getElem (by rw [List.length_set, List.length_set, HLF.out]; omega))⟩
        have hs2 := hown2.stored (j * 3 + 2) (.string y)
        have hz1 := B1.out.size
        have B2 := hide ((B1.out.trans (hb2.mono (by omega))).setCell (p := ⟨g, j * 3 + 2, none⟩) hge (.string y))
        have G2 := hide (G1.out.trans ((grown_below3 hb2 _).trans hs2.2))
        have R : ∃ (j' : Nat) (ys' : List Tr), j' ≤ n ∧ Value.int .i64 ((j : Int) + 1) = .int .i64 j' ∧ Value.int .i64 (c + 3 * (j : Int) + 1 + 1 + 1) = .int .i64 (c + 3 * (j' : Int)) ∧ ys'.length = n ∧ Hid (∀ t, t < j' → ys'.getD t e3 = (mk3 c n).getD t e3) ∧
            (w2.setCell ⟨g, j * 3 + 2, none⟩ (.string y)).ownsRow base 50 3 (.slice (some ⟨g, 0, none⟩) n cap0) n (flat3 ys') ∧ Below base w (w2.setCell ⟨g, j * 3 + 2, none⟩ (.string y)) ∧ w.grownBy (w2.setCell ⟨g, j * 3 + 2, none⟩ (.string y)) (some g) := by
          refine ⟨j + 1, ys.set j (c + 3 * (j : Int), c + 3 * (j : Int) + 1, y), by omega, by simp, by simp; omega, by simpa using HYL.out, ?_, by rw [flat3_set]; exact hs2.1, B2.out, G2.out⟩
          intro t ht
          by_cases e : t = j
          · subst e
            rw [mk3_get c n t (by omega), ← HYY.out]
            simp [List.getD, HYL.out, hlt]
          · rw [← HY.out t (by omega)]
            simp [List.getD, Ne.symm e]
        have HR := hide R
        clear hcl hs2 hown2 R hb2
        go_wp2
        go_roundw
        case rel => exact HR.out
        case measure => simp [intOf]; omega
      · obtain rfl : j = n := by omega
        have e : ys = mk3 c j := list_same3 (mk3_len c j) hyl (fun t ht => HY.out t ht)
        subst e
        have hltI : ¬ (j : Int) < (j : Int) := by omega
        clear hyl
        go_wp2
        go_ret
        exact ⟨rfl, hown, hbel, hgr⟩
end Go.Proofs.Ythmekhhfihjclbd.Tri

namespace Go.Proofs.Ythmekhhfihjclbd.L9
open Go.RowKit L1 L7 Tri
set_option linter.unusedVariables false

theorem RW.tight {w : World} {S : Nat → Prop} {V : List Value} {vg vd vy vc : Value} {r : Rm} (h : RW w S V vg vd vy vc r) : RW w (fun q => S q ∧ q < w.heap.size) V vg vd vy vc r :=
  ⟨h.g, h.l, h.ap, h.ac, h.d, h.y, h.c, fun q hq => ⟨h.sg q hq, own_lt9 h.g q hq⟩, fun i hi q hq => ⟨h.sl i hi q hq, own_lt9 (h.l i hi) q hq⟩, fun q hq => ⟨h.sd q hq, own_lt9 h.d q hq⟩, fun q hq => ⟨h.sy q hq, own_lt9 h.y q hq⟩, fun q hq => ⟨h.sc q hq, own_lt9 h.c q hq⟩⟩
/-- A played world that the law keeps: its box, its rows, who was done. -/
structure GI (c : Nat) (wi : World) (b : Nat) (S : Nat → Prop) (V : List Value) (ag : Option Addr) (n cg : Nat) (ad : Option Addr) (nd cd : Nat) (x1 x2 : Int) (ay : Option Addr) (ny cy : Nat) (ac : Option Addr) (nc cc : Nat) (R : Rm) (ab : Option Addr) (nD cb : Nat) (D : List Bool) : Prop where
  box : wi.heap[b]? = some (rpO ag n cg ad nd cd x1 x2 ay ny cy ac nc cc)
  rw : RW wi S V (.slice ag n cg) (.slice ad nd cd) (.slice ay ny cy) (.slice ac nc cc) R
  did : wi.ownsRow c 4 1 (.slice ab nD cb) nD (D.map Value.bool)
  far : ∀ q, (Value.slice ab nD cb).ownBlock = some q → ¬ S q
  lo : ∀ q, S q → c ≤ q ∧ q < wi.heap.size
  bl : c ≤ b ∧ ¬ S b
section
variable {c : Nat} {wi wj : World} {b : Nat} {S : Nat → Prop} {V : List Value} {ag : Option Addr} {n cg : Nat} {ad : Option Addr} {nd cd : Nat} {x1 x2 : Int} {ay : Option Addr} {ny cy : Nat} {ac : Option Addr} {nc cc : Nat} {R : Rm} {ab : Option Addr} {nD cb : Nat} {D : List Bool}
theorem GI.keep (h : GI c wi b S V ag n cg ad nd cd x1 x2 ay ny cy ac nc cc R ab nD cb D) (hs : wi.heap.size ≤ wj.heap.size) (hb : ∀ q, c ≤ q → q < wi.heap.size → wj.heap[q]? = wi.heap[q]?) : GI c wj b S V ag n cg ad nd cd x1 x2 ay ny cy ac nc cc R ab nD cb D :=
  ⟨(hb b h.bl.1 (Array.getElem?_eq_some_iff.1 h.box).1).trans h.box, h.rw.at (fun q hq hl => hb q (h.lo q hq).1 hl), own_at h.did (fun q hq => hb q (own_ge h.did q hq) (own_lt9 h.did q hq)), h.far, fun q hq => ⟨(h.lo q hq).1, Nat.lt_of_lt_of_le (h.lo q hq).2 hs⟩, h.bl⟩
theorem GI.below (h : GI c wi b S V ag n cg ad nd cd x1 x2 ay ny cy ac nc cc R ab nD cb D) (hb : Below wi.heap.size wi wj) : GI c wj b S V ag n cg ad nd cd x1 x2 ay ny cy ac nc cc R ab nD cb D := h.keep hb.size (fun q _ hq => hb.block q hq)
theorem GI.rpf (h : GI c wi b S V ag n cg ad nd cd x1 x2 ay ny cy ac nc cc R ab nD cb D) : RpF wi ag ad ay ac R.G R.dn R.sy R.ce := ⟨h.rw.rps.1, h.rw.rps.2⟩
theorem GI.slB (h : GI c wi b S V ag n cg ad nd cd x1 x2 ay ny cy ac nc cc R ab nD cb D) : SlB wi ab D := by
  obtain ⟨a, cap, e, hs, _⟩ := own_formB h.did
  cases e
  exact hs
theorem GI.made {w w1 : World} {e : Ending} {ok : Bool} (hc : c ≤ w.heap.size) (h : PlRet w R D ok e w1) : ∃ V ag cg ad cd ay cy ac cc ab cb S, e = .returned (.tuple #[rpV ag R.G.length cg ad R.dn.length cd R.ld R.ep ay R.sy.length cy ac R.ce.length cc, .slice ab D.length cb, .bool ok]) ∧ Below w.heap.size w w1 ∧ GI c (w1.alloc (rpO ag R.G.length cg ad R.dn.length cd R.ld R.ep ay R.sy.length cy ac R.ce.length cc)) w1.heap.size S V ag R.G.length cg ad R.dn.length cd R.ld R.ep ay R.sy.length cy ac R.ce.length cc R ab D.length cb D := by
  obtain ⟨V, ag, cg, ad, cd, ay, cy, ac, cc, ab, cb, S, h1, h2, h3, h4, h5, h6⟩ := h
  have hA := (Below.refl w1.heap.size w1).alloc (Nat.le_refl _) (rpO ag R.G.length cg ad R.dn.length cd R.ld R.ep ay R.sy.length cy ac R.ce.length cc)
  have hs6 := h6.size
  have hT := h2.tight
  refine ⟨V, ag, cg, ad, cd, ay, cy, ac, cc, ab, cb, _, h1, h6, ⟨blk_new9 _ _, hT.below hA, own_at (own_from (own_zero h3) (fun q hq => Nat.le_trans hc (own_ge h3 q hq))) (fun q hq => hA.block q (own_lt9 h3 q hq)), fun q hq hS => h4 q hq hS.1, fun q hq => ⟨Nat.le_trans hc (h5 q hq.1), Nat.lt_of_lt_of_le hq.2 hA.size⟩, ⟨by omega, fun hq => Nat.lt_irrefl _ hq.2⟩⟩⟩
theorem GI.mark (h : GI c wi b S V ag n cg ad nd cd x1 x2 ay ny cy ac nc cc R ab nD cb D) {R' : Rm} (hW : RW wj S V (.slice ag n cg) (.slice ad nd cd) (.slice ay ny cy) (.slice ac nc cc) R') (hK : Kept S wi wj) : GI c wj b S V ag n cg ad nd cd x1 x2 ay ny cy ac nc cc R' ab nD cb D :=
  ⟨(hK.block b (Array.getElem?_eq_some_iff.1 h.box).1 h.bl.2).trans h.box, hW, own_at h.did (fun q hq => hK.block q (own_lt9 h.did q hq) (h.far q hq)), h.far, fun q hq => ⟨(h.lo q hq).1, Nat.lt_of_lt_of_le (h.lo q hq).2 hK.size⟩, h.bl⟩
theorem GI.markB (h : GI c wi b S V ag n cg ad nd cd x1 x2 ay ny cy ac nc cc R ab nD cb D) {D' : List Bool} (ho : wj.ownsRow c 4 1 (.slice ab nD cb) nD (D'.map Value.bool)) (hg : wi.grownBy wj (Value.slice ab nD cb).ownBlock) : GI c wj b S V ag n cg ad nd cd x1 x2 ay ny cy ac nc cc R ab nD cb D' := by
  refine ⟨(hg.block b (Array.getElem?_eq_some_iff.1 h.box).1 (fun e => ?_)).trans h.box, h.rw.at (fun q hq hl => hg.block q hl (fun e => h.far q e.symm hq)), ho, h.far, fun q hq => ⟨(h.lo q hq).1, Nat.lt_of_lt_of_le (h.lo q hq).2 hg.size⟩, h.bl⟩
  rcases h.did.2 with ⟨hv, _⟩ | ⟨g, cap, cur, hv, _, hh, _⟩
  · rw [hv] at e; cases e
  · rw [hv] at e
    have e' : b = g := Option.some.inj e
    subst e'
    rw [h.box] at hh
    cases hh
end
theorem play_small {k : Int} {ss : List Stp} {R : Rm} {D : List Bool} {ok : Bool} (h : PlIs k ss R D ok) : RpZ R.G R.sy R.ce R.G.length R.dn.length R.sy.length R.ce.length ∧ Sm R ∧ D.length ≤ 120 := by
  by_cases hc : (1 ≤ k ∧ k ≤ 5) ∧ ss.length ≤ 120
  · obtain ⟨e1, e2, _⟩ := h.yes hc
    have hI : Inv R := by rw [e1]; exact plK_inv (newM_inv k.toNat (by omega) (by omega)) ss _
    have h1 := hI.good.logs
    have h2 := hI.good.down
    refine ⟨rpz_of hI, ⟨h1.1.2, fun i hi => (h1.2 i hi).1, by have := h1.1.2; omega, rn_small hI, ?_⟩, ?_⟩
    · obtain ⟨t, ht⟩ := hI.cert hI.good.lead
      have h7 : (R.ce ++ t).length ≤ 40 := by rw [ht]; exact (h1.2 _ hI.leadAt).1
      rw [List.length_append] at h7
      omega
    · rw [e2, plK_len]
      exact hc.2
  · obtain ⟨rfl, rfl, _⟩ := h.no hc
    exact ⟨⟨rfl, rfl, rfl, by simp, by simp, by simp, by simp, fun i hi => absurd hi (Nat.not_lt_zero _), fun i hi => absurd hi (Nat.not_lt_zero _)⟩, ⟨by simp, fun i hi => absurd hi (Nat.not_lt_zero _), by simp, by simp, by simp⟩, by simp⟩
end Go.Proofs.Ythmekhhfihjclbd.L9
namespace Go.Proofs.Ythmekhhfihjclbd.fnExactPlayRepl
open Go.RowKit L1 L7 L9 Tri
set_option linter.unusedVariables false

set_option maxRecDepth 100000 in
set_option maxHeartbeats 8000000 in
theorem walk (k : Int) (a : Option Addr) (n cap : Nat) (ss : List Tr) (w : World) (wf : (Lit.int .i64 k).wf = true) (hrow : IsRow3 w a n ss) :
    Calls Try.prog 7 #[.int .i64 k, .slice a n cap] w fun e w' => e = .returned (.bool true) ∧ Below w.heap.size w w' := by
  clear wf
  by_cases hfit : (wt3 ss : Int) ≤ 1048576
  · obtain ⟨⟨hn, hmx, hs⟩, htx⟩ := hrow
    have hwt : wt3 ss = n + szs3 ss := by unfold wt3; rw [hn]
    have hn2 : n ≤ 1048576 := by omega
    obtain ⟨L, hL⟩ : ∃ L, L = (1048576 : Int) - (wt3 ss : Int) := ⟨_, rfl⟩
    have hLn : ¬ L < 0 := by omega
    have CZ := hide (szReplStepS_any a ss n cap 1048576 w hn (by omega) hs htx (by omega) (by omega) L (by rw [if_pos hfit]; exact hL))
    obtain ⟨R, D, ok, hv⟩ := play_is k ss
    obtain ⟨hz, hsm, hD⟩ := play_small hv
    have CT := hide (fun wx (hb : Below w.heap.size w wx) => toReplStepS_any a ss n cap wx hn (hs.below hb) hn2)
    have CS := hide (fun wx a' c' (h : Sl3 wx a' ss) => specPlay_any k a' ss n c' wx hn h hn2 htx R D ok hv)
    have CI := hide (fun wx a' c' (h : Sl3 wx a' ss) => implPlay_any k a' ss n c' wx hn h hn2 htx R D ok hv)
    have MADE := hide (fun c wx w' e (hc : c ≤ wx.heap.size) (h : PlRet wx R D ok e w') => GI.made hc h)
    have CE := hide (fun p0 c0 p1 c1 p2 c2 p3 c3 q0 d0 q1 d1 q2 d2 q3 d3 wx h1 h2 => eqRepl_same p0 c0 p1 c1 p2 c2 p3 c3 q0 d0 q1 d1 q2 d2 q3 d3 R.G.length R.dn.length R.sy.length R.ce.length R.ld R.ep R.G R.dn R.sy R.ce wx hz rfl h1 h2)
    have CB := hide (fun p q c d wx h1 h2 => eqBoolS_same p q D D.length c d wx rfl h1 h2 (by omega))
    have CQ := hide (fun p q c d wx h1 h2 => eqReplStepS_same p q ss n c d wx hn h1 h2 hn2)
    have CM := hide (fun b v wx (u : Unit) (ho : wx.ownsRow b 50 3 v n (flat3 ss)) hb => markReplStepS_from b v ss n wx 1 (by omega) (by omega) hn2 ho hb)
    have CMR := hide (fun wx S V ag cg ad cd ay cy ac cc hS hW => markRepl_rw S V ag cg ad cd R.ld R.ep ay cy ac cc R.G.length R.dn.length R.sy.length R.ce.length R wx rfl rfl rfl rfl hsm hS hW)
    have CHR := hide (fun wx S V ag cg ad cd ay cy ac cc hW => heldRepl_rw S V ag cg ad cd R.ld R.ep ay cy ac cc R.G.length R.dn.length R.sy.length R.ce.length R wx rfl rfl rfl rfl hsm hW)
    obtain ⟨M, hM⟩ : ∃ M, M = c4 R := ⟨_, rfl⟩
    have hM1 : 1 ≤ M ∧ M ≤ 1000 := by
      have h1 := hsm.pre
      have h2 := hsm.d
      have h3 := hsm.y
      have h4 := hsm.c
      rw [hM]
      unfold c4 c3 c2 c1
      omega
    have CMB := hide (fun b v wx (u1 u2 : Unit) (ho : wx.ownsRow b 4 1 v D.length (D.map Value.bool)) => markBoolS_from b v D D.length wx M (by omega) (by omega) (by omega) ho)
    have CHB := hide (fun p c wx (h : SlB wx p (mkB M D.length)) => heldBoolS_from p D.length c M wx (by omega) (by omega) (by omega) h)
    rw [← hM] at CMR CHR
    obtain ⟨n1, hn1⟩ : ∃ x, x = R.G.length := ⟨_, rfl⟩
    obtain ⟨n2, hn2'⟩ : ∃ x, x = R.dn.length := ⟨_, rfl⟩
    obtain ⟨n3, hn3⟩ : ∃ x, x = R.sy.length := ⟨_, rfl⟩
    obtain ⟨n4, hn4⟩ : ∃ x, x = R.ce.length := ⟨_, rfl⟩
    obtain ⟨x1, hx1⟩ : ∃ x, x = R.ld := ⟨_, rfl⟩
    obtain ⟨x2, hx2⟩ : ∃ x, x = R.ep := ⟨_, rfl⟩
    obtain ⟨nD, hnD⟩ : ∃ x, x = D.length := ⟨_, rfl⟩
    rw [← hnD] at hD
    simp only [← hn1, ← hn2', ← hn3, ← hn4, ← hx1, ← hx2, ← hnD] at MADE CE CB CMR CHR CMB CHB
    have hk3 : ¬ 1 + 3 * (n : Int) < 0 := by omega
    have hM2 : ¬ M < 0 := by omega
    have hM3 : ¬ M + (nD : Int) < 0 := by omega
    clear hn hs htx hwt hv hz hsm hL hM hn1 hn2' hn3 hn4 hx1 hx2 hnD hfit
    obtain ⟨hM0, hM9⟩ := hM1
    go_enter Try.func7, Try.ntmps7
    go_wp2_with fail
    refine CZ.out.mono ?_
    rintro e w1 ⟨rfl, hb1⟩
    have B1 := hide hb1
    clear hb1 CZ
    go_wp2_with fail
    refine (CT.out _ B1.out).mono ?_
    rintro e w2 ⟨rfl, ho2, hb2⟩
    have HX := hide (own_sl3 ho2)
    have B2 := hide hb2
    clear hb2 ho2
    go_wp2_with fail
    refine (CS.out _ _ _ HX.out).mono ?_
    rintro e w3 hret
    obtain ⟨V0, ag0, cg0, ad0, cd0, ay0, cy0, ac0, cc0, ab0, cb0, S0, rfl, hb, hG⟩ := MADE.out (w1.heap.size) _ _ _ (B2.out.size) hret
    have hA := hb.alloc hb.size (rpO ag0 n1 cg0 ad0 n2 cd0 x1 x2 ay0 n3 cy0 ac0 n4 cc0)
    obtain ⟨wA, hwA⟩ : ∃ x, x = w3.alloc (rpO ag0 n1 cg0 ad0 n2 cd0 x1 x2 ay0 n3 cy0 ac0 n4 cc0) := ⟨_, rfl⟩
    obtain ⟨b0, hbb⟩ : ∃ x, x = w3.heap.size := ⟨_, rfl⟩
    rw [← hwA] at hG hA
    rw [← hbb] at hG
    have HWwA := hide hwA
    have HBb0 := hide hbb
    have G0 := hide hG
    have A0 := hide hA
    clear hwA hbb hret hb hG hA
    have BA := hide (B1.out.trans ((B2.out.trans (A0.out.mono B2.out.size)).mono B1.out.size))
    clear HX A0 B2
    go_upto_region 6 with fail
    rw [← HWwA.out, ← HBb0.out]
    go_wp2_with fail
    refine (CT.out _ BA.out).mono ?_
    rintro e w5 ⟨rfl, ho5, hb5⟩
    obtain ⟨g, hg⟩ : ∃ g, g = wA.heap.size := ⟨_, rfl⟩
    have HG := hide hg
    have hgl : g < w5.heap.size := (ho5.lt g (by rw [hg]; rfl)).2
    rw [← hg] at ho5 ⊢
    have X5 := hide ho5
    have C5 := hide hb5
    clear ho5 hb5 hg
    go_wp2_with fail
    refine (CI.out _ _ _ (own_sl3 X5.out)).mono ?_
    rintro e w6 hret
    obtain ⟨V1, ag1, cg1, ad1, cd1, ay1, cy1, ac1, cc1, ab1, cb1, S1, rfl, hb, hG⟩ := MADE.out (w5.heap.size) _ _ _ (Nat.le_refl _) hret
    have hA := hb.alloc hb.size (rpO ag1 n1 cg1 ad1 n2 cd1 x1 x2 ay1 n3 cy1 ac1 n4 cc1)
    obtain ⟨wB, hwA⟩ : ∃ x, x = w6.alloc (rpO ag1 n1 cg1 ad1 n2 cd1 x1 x2 ay1 n3 cy1 ac1 n4 cc1) := ⟨_, rfl⟩
    obtain ⟨b1, hbb⟩ : ∃ x, x = w6.heap.size := ⟨_, rfl⟩
    rw [← hwA] at hG hA
    rw [← hbb] at hG
    have HWwB := hide hwA
    have HBb1 := hide hbb
    have G1 := hide hG
    have A1 := hide hA
    clear hwA hbb hret hb hG hA
    have X7 := hide (own_below3 X5.out A1.out)
    have C7 := hide (C5.out.trans (A1.out.mono C5.out.size))
    clear A1 X5
    go_upto_region 8 with fail
    rw [← HWwB.out, ← HBb1.out]
    obtain ⟨p0, p1, p2, p3, p4, p5⟩ := blk6 (G0.out.below C7.out).box
    obtain ⟨j0, j1, j2, j3, j4, j5⟩ := blk6 G1.out.box
    go_wp2_with fail
    refine (CE.out _ _ _ _ _ _ _ _ _ _ _ _ _ _ _ _ _ (G1.out).rpf ((G0.out.below C7.out)).rpf).mono ?_
    rintro e w8 ⟨rfl, hb⟩
    have K1 := hide hb
    clear hb
    go_wp2_with fail
    refine (CB.out _ _ _ _ _ ((G1.out).below K1.out).slB (((G0.out.below C7.out)).below K1.out).slB).mono ?_
    rintro e w9 ⟨rfl, hb⟩
    have K9 := hide (K1.out.trans (hb.mono K1.out.size))
    clear hb K1
    have G9 := hide (G1.out.below K9.out)
    have X9 := hide (own_below3 X7.out K9.out)
    have C9 := hide (C7.out.trans (K9.out.mono C7.out.size))
    clear G1 X7 C7 K9 p0 p1 p2 p3 p4 p5 j0 j1 j2 j3 j4 j5
    go_wp2_with fail
    refine (CT.out _ (BA.out.trans (C9.out.mono BA.out.size))).mono ?_
    rintro e w10 ⟨rfl, ho10, hb10⟩
    have X10 := hide (own_below3 X9.out hb10)
    have Y10 := hide (own_sl3 ho10)
    have C10 := hide (C9.out.trans (hb10.mono C9.out.size))
    have G10 := hide (G9.out.below hb10)
    clear ho10 hb10 G9 X9 C9
    go_wp2_with fail
    refine (CQ.out _ _ _ _ _ (own_sl3 X10.out) Y10.out).mono ?_
    rintro e w11 ⟨rfl, hb11⟩
    have X11 := hide (own_below3 X10.out hb11)
    have C11 := hide (C10.out.trans (hb11.mono C10.out.size))
    have G11 := hide (G10.out.below hb11)
    clear hb11 G10 X10 C10 Y10
    go_wp2_with fail
    refine (CM.out _ _ _ () X11.out (by rw [HG.out]; exact C11.out.size)).mono ?_
    rintro e w12 ⟨rfl, ho12, hb12, hg12⟩
    have C12 := hide (C11.out.grown hg12 C11.out.size (fun q e => by have e' : g = q := Option.some.inj e; rw [← e', HG.out]; exact Nat.le_refl _))
    have G12 := hide (G11.out.keep hg12.size (fun q hc hq => hg12.block q hq (fun e => by have e' : q = g := Option.some.inj e; omega)))
    clear ho12 hb12 hg12 G11 X11 C11
    obtain ⟨p0, p1, p2, p3, p4, p5⟩ := blk6 (G0.out.below C12.out).box
    obtain ⟨j0, j1, j2, j3, j4, j5⟩ := blk6 G12.out.box
    go_wp2_with fail
    refine (CE.out _ _ _ _ _ _ _ _ _ _ _ _ _ _ _ _ _ (G12.out).rpf ((G0.out.below C12.out)).rpf).mono ?_
    rintro e w13 ⟨rfl, hb⟩
    have K1 := hide hb
    clear hb
    go_wp2_with fail
    refine (CB.out _ _ _ _ _ ((G12.out).below K1.out).slB (((G0.out.below C12.out)).below K1.out).slB).mono ?_
    rintro e w14 ⟨rfl, hb⟩
    have K14 := hide (K1.out.trans (hb.mono K1.out.size))
    clear hb K1
    have G14 := hide (G12.out.below K14.out)
    have C14 := hide (C12.out.trans (K14.out.mono C12.out.size))
    clear G12 C12 K14 p0 p1 p2 p3 p4 p5 j0 j1 j2 j3 j4 j5
    obtain ⟨j0, j1, j2, j3, j4, j5⟩ := blk6 G14.out.box
    go_wp2_with fail
    refine (CMR.out _ _ _ _ _ _ _ _ _ _ _ (fun q hq => (G14.out.lo q hq).2) G14.out.rw).mono ?_
    rintro e w15 ⟨rfl, hW15, hK15⟩
    have G15 := hide (G14.out.mark hW15 hK15)
    have C15 := hide (bel_kept C14.out hK15 (fun q hq => Nat.le_trans C5.out.size (G14.out.lo q hq).1))
    clear hW15 hK15 G14 C14 j0 j1 j2 j3 j4 j5
    go_wp2_with fail
    refine (CMB.out _ _ _ () () G15.out.did).mono ?_
    rintro e w16 ⟨rfl, ho16, hb16, hg16⟩
    have G16 := hide (G15.out.markB ho16 hg16)
    have C16 := hide (C15.out.trans (hb16.mono C5.out.size))
    clear ho16 hb16 hg16 G15 C15
    obtain ⟨j0, j1, j2, j3, j4, j5⟩ := blk6 G16.out.box
    go_wp2_with fail
    refine (CHR.out _ _ _ _ _ _ _ _ _ _ _ G16.out.rw).mono ?_
    rintro e w17 ⟨rfl, hb⟩
    have K1 := hide hb
    clear hb
    go_wp2_with fail
    refine (CHB.out _ _ _ (G16.out.below K1.out).slB).mono ?_
    rintro e w18 ⟨rfl, hb⟩
    have K2 := hide (K1.out.trans (hb.mono K1.out.size))
    have G18 := hide (G16.out.below K2.out)
    have C18 := hide (C16.out.trans (K2.out.mono C16.out.size))
    clear hb K1 K2 G16 C16 j0 j1 j2 j3 j4 j5
    go_wp2_with fail
    refine (CT.out _ (BA.out.trans (C18.out.mono BA.out.size))).mono ?_
    rintro e w19 ⟨rfl, ho19, hb19⟩
    have Y19 := hide (own_sl3 ho19)
    have C19 := hide (C18.out.trans (hb19.mono C18.out.size))
    have G19 := hide (G18.out.below hb19)
    clear ho19 hb19 G18 C18
    go_wp2_with fail
    refine (CI.out _ _ _ Y19.out).mono ?_
    rintro e w20 hret
    obtain ⟨V2, ag2, cg2, ad2, cd2, ay2, cy2, ac2, cc2, ab2, cb2, S2, rfl, hb, hG⟩ := MADE.out (w19.heap.size) _ _ _ (Nat.le_refl _) hret
    have hA := hb.alloc hb.size (rpO ag2 n1 cg2 ad2 n2 cd2 x1 x2 ay2 n3 cy2 ac2 n4 cc2)
    obtain ⟨wC, hwA⟩ : ∃ x, x = w20.alloc (rpO ag2 n1 cg2 ad2 n2 cd2 x1 x2 ay2 n3 cy2 ac2 n4 cc2) := ⟨_, rfl⟩
    obtain ⟨b2, hbb⟩ : ∃ x, x = w20.heap.size := ⟨_, rfl⟩
    rw [← hwA] at hG hA
    rw [← hbb] at hG
    have HWwC := hide hwA
    have HBb2 := hide hbb
    have G2 := hide hG
    have A2 := hide hA
    clear hwA hbb hret hb hG hA
    have G20 := hide (G19.out.below A2.out)
    have C20 := hide (C19.out.trans (A2.out.mono C19.out.size))
    clear A2 Y19 G19 C19
    go_upto_region 29 with fail
    rw [← HWwC.out, ← HBb2.out]
    obtain ⟨p0, p1, p2, p3, p4, p5⟩ := blk6 (G0.out.below C20.out).box
    obtain ⟨j0, j1, j2, j3, j4, j5⟩ := blk6 G2.out.box
    go_wp2_with fail
    refine (CE.out _ _ _ _ _ _ _ _ _ _ _ _ _ _ _ _ _ (G2.out).rpf ((G0.out.below C20.out)).rpf).mono ?_
    rintro e w21 ⟨rfl, hb⟩
    have K1 := hide hb
    clear hb
    go_wp2_with fail
    refine (CB.out _ _ _ _ _ ((G2.out).below K1.out).slB (((G0.out.below C20.out)).below K1.out).slB).mono ?_
    rintro e w22 ⟨rfl, hb⟩
    have K22 := hide (K1.out.trans (hb.mono K1.out.size))
    clear hb K1
    have G22 := hide (G20.out.below K22.out)
    have C22 := hide (C20.out.trans (K22.out.mono C20.out.size))
    clear G20 C20 K22 G2 p0 p1 p2 p3 p4 p5 j0 j1 j2 j3 j4 j5
    obtain ⟨j0, j1, j2, j3, j4, j5⟩ := blk6 G22.out.box
    go_wp2_with fail
    refine (CHR.out _ _ _ _ _ _ _ _ _ _ _ G22.out.rw).mono ?_
    rintro e w23 ⟨rfl, hb⟩
    have K1 := hide hb
    clear hb
    go_wp2_with fail
    refine (CHB.out _ _ _ (G22.out.below K1.out).slB).mono ?_
    rintro e w24 ⟨rfl, hb⟩
    have K2 := hide (K1.out.trans (hb.mono K1.out.size))
    have G24 := hide (G22.out.below K2.out)
    have C24 := hide (C22.out.trans (K2.out.mono C22.out.size))
    clear hb K1 K2 G22 C22 j0 j1 j2 j3 j4 j5
    go_wp2
    go_ret
    exact ⟨rfl, BA.out.trans (C24.out.mono BA.out.size)⟩
  · obtain ⟨⟨hn, hmx, hs⟩, htx⟩ := hrow
    have hmx' : n ≤ 9223372036854775807 := by unfold maxLen at hmx; omega
    have CZ := hide (szReplStepS_any a ss n cap 1048576 w hn hmx' hs htx (by omega) (by omega) (-1) (by rw [if_neg hfit]))
    clear hn hs htx hfit
    go_enter Try.func7, Try.ntmps7
    go_wp2_with fail
    refine CZ.out.mono ?_
    rintro e w1 ⟨rfl, hb1⟩
    have B1 := hide hb1
    clear hb1 CZ
    go_wp2
    go_ret
    exact ⟨rfl, B1.out⟩
end Go.Proofs.Ythmekhhfihjclbd.fnExactPlayRepl
