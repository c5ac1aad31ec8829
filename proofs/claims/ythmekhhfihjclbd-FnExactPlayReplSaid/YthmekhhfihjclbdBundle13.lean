/-
  Contracts of the laws' own helpers laws.markRepl and laws.heldRepl over a world of logs in memory of its own: all that it owns is written over, and found so.
  Contract of the laws' own helper eqBoolS.
  Contract of the laws' own helper eqEntryS: it says that two lists of entries alike are alike.
  Contract of the laws' own helper eqEntrySS.
  Contract of the laws' own helper eqRepl.
  Lists of structs of an int, an int and a text in memory. Nothing of the program's text is proved here.
  Contracts of the laws' own helpers szReplStep, szReplStepS.
  Contracts of the laws' own helpers toReplStep, toReplStepS.
-/
import Derived.Test.YthmekhhfihjclbdBundle4
import Derived.Test.YthmekhhfihjclbdBundle12
import Derived.Test.YthmekhhfihjclbdBundle3
import Derived.Deep.QuietTactic
import Derived.BigQuiet
import Derived.Test.YthmekhhfihjclbdBundle1
import Derived.Test.YthmekhhfihjclbdBundle2
import Derived.Deep.RegionHeld3
import Derived.Test.YthmekhhfihjclbdBundle11
namespace Go.Proofs.Ythmekhhfihjclbd.L9
open Go.RowKit L1 L4 L7
set_option linter.unusedVariables false

/-- How many entries the first logs have. -/
def pre (G : List (List En)) : Nat → Nat
  | 0 => 0
  | j + 1 => pre G j + (G.getD j []).length
theorem pre_le {G : List (List En)} (h : ∀ i, i < G.length → (G.getD i []).length ≤ 40) : ∀ j, j ≤ G.length → pre G j ≤ 40 * j
  | 0, _ => by simp [pre]
  | j + 1, hj => by
    have := pre_le h j (by omega)
    have := h j (by omega)
    simp only [pre]
    omega
/-- The first j logs are written over. -/
def mkUp (c : Int) (G : List (List En)) (j : Nat) : List (List En) := (List.range G.length).map fun i => if i < j then mkE (c + 2 * (pre G i : Int)) (G.getD i []).length else G.getD i []
theorem mkUp_len (c : Int) (G : List (List En)) (j : Nat) : (mkUp c G j).length = G.length := by simp [mkUp]
theorem mkUp_get (c : Int) (G : List (List En)) (j i : Nat) (hi : i < G.length) : (mkUp c G j).getD i [] = if i < j then mkE (c + 2 * (pre G i : Int)) (G.getD i []).length else G.getD i [] := by
  simp [mkUp, List.getD, hi]
theorem mkUp_gl (c : Int) (G : List (List En)) (j i : Nat) (hi : i < G.length) : ((mkUp c G j).getD i []).length = (G.getD i []).length := by
  rw [mkUp_get c G j i hi]
  split
  · rw [mkE_len]
  · rfl
theorem listG_same {X Y : List (List En)} (h1 : X.length = Y.length) (h : ∀ i, i < X.length → X.getD i [] = Y.getD i []) : X = Y := by
  apply List.ext_getElem?
  intro j
  by_cases hj : j < X.length
  · have h := h j hj
    simp only [List.getD, List.getElem?_eq_getElem hj, List.getElem?_eq_getElem (show j < Y.length by omega), Option.getD_some] at h
    rw [List.getElem?_eq_getElem hj, List.getElem?_eq_getElem (show j < Y.length by omega), h]
  · rw [List.getElem?_eq_none (by omega), List.getElem?_eq_none (by omega)]
theorem mkUp_zero (c : Int) (G : List (List En)) : mkUp c G 0 = G := listG_same (mkUp_len c G 0) fun i hi => by
  rw [mkUp_len] at hi
  rw [mkUp_get c G 0 i hi, if_neg (by omega)]
theorem mkUp_succ (c : Int) (G : List (List En)) (j : Nat) (hj : j < G.length) : mkUp c G (j + 1) = (mkUp c G j).set j (mkE (c + 2 * (pre G j : Int)) (G.getD j []).length) := listG_same (by simp [mkUp_len]) fun i hi => by
  rw [mkUp_len] at hi
  rw [mkUp_get c G (j + 1) i hi, getD_setG _ _ _ _ (by rw [mkUp_len]; exact hi), mkUp_get c G j i hi]
  by_cases e : j = i
  · subst e
    rw [if_pos (by omega), if_pos rfl]
  · rw [if_neg e]
    by_cases h : i < j
    · rw [if_pos h, if_pos (by omega)]
    · rw [if_neg h, if_neg (by omega)]
/-- A small world. -/
structure Sm (r : Rm) : Prop where
  n : r.G.length ≤ 5
  l : ∀ i, i < r.G.length → (r.G.getD i []).length ≤ 40
  d : r.dn.length ≤ 5
  y : r.sy.length ≤ 5
  c : r.ce.length ≤ 40
abbrev c1 (r : Rm) : Int := 1 + 2 * (pre r.G r.G.length : Int)
abbrev c2 (r : Rm) : Int := c1 r + (r.dn.length : Int)
abbrev c3 (r : Rm) : Int := c2 r + (r.sy.length : Int)
abbrev c4 (r : Rm) : Int := c3 r + 2 * (r.ce.length : Int)
abbrev mkM1 (r : Rm) : Rm := { r with G := mkUp 1 r.G r.G.length }
abbrev mkM2 (r : Rm) : Rm := { r with G := mkUp 1 r.G r.G.length, dn := mkB (c1 r) r.dn.length }
abbrev mkM3 (r : Rm) : Rm := { r with G := mkUp 1 r.G r.G.length, dn := mkB (c1 r) r.dn.length, sy := mkC (c2 r) r.sy.length }
abbrev mkM (r : Rm) : Rm := { r with G := mkUp 1 r.G r.G.length, dn := mkB (c1 r) r.dn.length, sy := mkC (c2 r) r.sy.length, ce := mkE (c3 r) r.ce.length }
theorem Sm.pre {r : Rm} (h : Sm r) : pre r.G r.G.length ≤ 200 := by
  have h1 := pre_le h.l r.G.length (Nat.le_refl _)
  have h2 := h.n
  omega
section
variable {w w' : World} {S : Nat → Prop} {V : List Value} {vg vd vy vc : Value} {r : Rm}
theorem own_past {base c n : Nat} {t : TypeId} {v u : Value} {xs : List Value} (ho : w.ownsRow base t c v n xs) (hg : w.grownBy w' u.ownBlock) (hq : ∀ q, v.ownBlock = some q → u.ownBlock ≠ some q) : w'.ownsRow base t c v n xs := own_at ho fun q e => hg.block q (own_lt9 ho q e) (fun e2 => hq q e e2.symm)
theorem RW.mark (h : RW w S V vg vd vy vc r) (k : Nat) (hk : k < r.G.length) (l' : List En) (hown : w'.ownsRow 0 93 2 (V.getD k nilV) l'.length (flatE l')) (hg : w.grownBy w' (V.getD k nilV).ownBlock) : RW w' S V vg vd vy vc { r with G := r.G.set k l' } := by
  have hl : ({ r with G := r.G.set k l' } : Rm).G.length = r.G.length := by simp
  have ne : ∀ {c n : Nat} {t : TypeId} {v : Value} {xs : List Value}, w.ownsRow 0 t c v n xs → 93 ≠ t → ∀ q, v.ownBlock = some q → (V.getD k nilV).ownBlock ≠ some q := fun ho ht q hq e => L8.own_two (h.l k hk) ho ht q e hq
  refine ⟨?_, fun i hi => ?_, fun i j q hi hj hij e => ?_, fun i q hi e => ?_, own_past h.d hg (ne h.d t_eb), own_past h.y hg (ne h.y t_ei), own_past h.c hg (fun q hq e => h.ac k q hk e hq), h.sg, fun i hi => ?_, h.sd, h.sy, h.sc⟩
  · rw [hl]
    exact own_past h.g hg (ne h.g t_ge.symm)
  · rw [hl] at hi
    show World.ownsRow _ 0 _ 2 (V.getD i nilV) ((r.G.set k l').getD i []).length (flatE ((r.G.set k l').getD i []))
    rw [getD_setG r.G k i l' hi]
    split
    · rename_i e
      subst e
      exact hown
    · rename_i e
      exact own_past (h.l i hi) hg (fun q hq e2 => h.ap i k q hi hk (fun e3 => e e3.symm) hq e2)
  · rw [hl] at hi hj
    exact h.ap i j q hi hj hij e
  · rw [hl] at hi
    exact h.ac i q hi e
  · rw [hl] at hi
    exact h.sl i hi
theorem RW.markD (h : RW w S V vg vd vy vc r) (d' : List Bool) (hown : w'.ownsRow 0 4 1 vd d'.length (d'.map Value.bool)) (hg : w.grownBy w' vd.ownBlock) : RW w' S V vg vd vy vc { r with dn := d' } := by
  have ne : ∀ {c n : Nat} {t : TypeId} {v : Value} {xs : List Value}, w.ownsRow 0 t c v n xs → 4 ≠ t → ∀ q, v.ownBlock = some q → vd.ownBlock ≠ some q := fun ho ht q hq e => L8.own_two h.d ho ht q e hq
  exact ⟨own_past h.g hg (ne h.g t_gb.symm), fun i hi => own_past (h.l i hi) hg (ne (h.l i hi) t_eb.symm), h.ap, h.ac, hown, own_past h.y hg (ne h.y t_bi), own_past h.c hg (ne h.c t_eb.symm), h.sg, h.sl, h.sd, h.sy, h.sc⟩
theorem RW.markY (h : RW w S V vg vd vy vc r) (y' : List Int) (hown : w'.ownsRow 0 3 1 vy y'.length (y'.map (Value.int .i64))) (hg : w.grownBy w' vy.ownBlock) : RW w' S V vg vd vy vc { r with sy := y' } := by
  have ne : ∀ {c n : Nat} {t : TypeId} {v : Value} {xs : List Value}, w.ownsRow 0 t c v n xs → 3 ≠ t → ∀ q, v.ownBlock = some q → vy.ownBlock ≠ some q := fun ho ht q hq e => L8.own_two h.y ho ht q e hq
  exact ⟨own_past h.g hg (ne h.g t_gi.symm), fun i hi => own_past (h.l i hi) hg (ne (h.l i hi) t_ei.symm), h.ap, h.ac, own_past h.d hg (ne h.d t_bi.symm), hown, own_past h.c hg (ne h.c t_ei.symm), h.sg, h.sl, h.sd, h.sy, h.sc⟩
theorem RW.markC (h : RW w S V vg vd vy vc r) (c' : List En) (hown : w'.ownsRow 0 93 2 vc c'.length (flatE c')) (hg : w.grownBy w' vc.ownBlock) : RW w' S V vg vd vy vc { r with ce := c' } := by
  have ne : ∀ {c n : Nat} {t : TypeId} {v : Value} {xs : List Value}, w.ownsRow 0 t c v n xs → 93 ≠ t → ∀ q, v.ownBlock = some q → vc.ownBlock ≠ some q := fun ho ht q hq e => L8.own_two h.c ho ht q e hq
  exact ⟨own_past h.g hg (ne h.g t_ge.symm), fun i hi => own_past (h.l i hi) hg (fun q hq e => h.ac i q hi hq e), h.ap, h.ac, own_past h.d hg (ne h.d t_eb), own_past h.y hg (ne h.y t_ei), hown, h.sg, h.sl, h.sd, h.sy, h.sc⟩
end

set_option maxRecDepth 100000 in
set_option maxHeartbeats 2000000 in
theorem markEntrySS_rw (S : Nat → Prop) (V : List Value) (ag : Option Addr) (n cg : Nat) (vd vy vc : Value) (r : Rm) (w : World) (hn : r.G.length = n) (hz : Sm r) (hW : RW w S V (.slice ag n cg) vd vy vc r) :
    Calls Try.prog 45 #[.slice ag n cg, .int .i64 1] w fun e w' => e = .returned (.int .i64 (c1 r)) ∧ RW w' S V (.slice ag n cg) vd vy vc (mkM1 r) ∧ Kept S w w' := by
  have hn5 : n ≤ 5 := by have := hz.n; omega
  have HW0 : Hid (RW w S V (.slice ag n cg) vd vy vc { r with G := mkUp 1 r.G 0 }) := by rw [mkUp_zero]; exact hide hW
  have HZ := hide hz
  have HN := hide hn
  have HA : Hid (0 < n → ∃ gb, ag = some ⟨gb, 0, none⟩) := hide (fun h0 => by
    rcases hW.g.2 with ⟨hv, h1⟩ | ⟨g, cap, cur, hv, _⟩
    · omega
    · obtain ⟨e, _, _⟩ := Value.slice.inj hv; exact ⟨g, e⟩)
  clear hW hz hn
  go_enter Try.func45, Try.ntmps45
  go_wp2
  go_loopw [1, 5] (fun k i wr => ∃ j : Nat, j ≤ n ∧ i = .int .i64 j ∧ k = .int .i64 (1 + 2 * (pre r.G j : Int)) ∧ Hid (RW wr S V (.slice ag n cg) vd vy vc { r with G := mkUp 1 r.G j }) ∧ Hid (Kept S w wr)) (fun _ i _ => n - (intOf i).toNat)
  case atStart => exact ⟨0, Nat.zero_le _, rfl, rfl, HW0, hide (Kept.refl S w)⟩
  case round =>
    obtain ⟨j, hj, rfl, rfl, HW, HK⟩ := hrel
    by_cases hlt : j < n
    · obtain ⟨gb, rfl⟩ := HA.out (by omega)
      have hltI : (j : Int) < (n : Int) := by omega
      have hj0 : (0 : Int) ≤ (j : Int) := by omega
      have hjG : j < r.G.length := by rw [HN.out]; exact hlt
      have hjU : j < (mkUp 1 r.G j).length := by rw [mkUp_len]; exact hjG
      obtain ⟨ai, ci, hv, hc, hs⟩ := HW.out.logAt j hjU
      have hgl : ((mkUp 1 r.G j).getD j []).length = (r.G.getD j []).length := mkUp_gl 1 r.G j j hjG
      have hc' : wr.cell? ⟨gb, j, none⟩ = some (.slice ai (r.G.getD j []).length ci) := by rw [← hgl]; exact hc
      have hl40 := HZ.out.l j hjG
      have hp : pre r.G j ≤ 200 := by have := pre_le HZ.out.l j (by omega); omega
      have hown := HW.out.l j hjU
      obtain ⟨m, hm⟩ : ∃ m, m = (r.G.getD j []).length := ⟨_, rfl⟩
      have hps : pre r.G (j + 1) = pre r.G j + m := by rw [hm]; rfl
      have hv' : V.getD j nilV = .slice ai m ci := by rw [hv, hm, ← hgl]
      have hown' : wr.ownsRow 0 93 2 (.slice ai m ci) m (flatE ((mkUp 1 r.G j).getD j [])) := by
        rw [← hv']
        have e : ((mkUp 1 r.G j).getD j []).length = m := by rw [hgl, hm]
        rw [← e]
        exact hown
      rw [← hm] at hc' hl40
      have C := hide (fun wx => markEntryS_from 0 (.slice ai m ci) ((mkUp 1 r.G j).getD j []) m wx (1 + 2 * (pre r.G j : Int)) (by omega) (by omega) (by omega))
      have HOW := hide hown'
      have HV := hide hv'
      have HM := hide hm
      have HPS := hide hps
      clear hown hown' hv hv' hm hps hc hs hgl
      go_wp2_with fail
      refine (C.out _ HOW.out (Nat.zero_le _)).mono ?_
      rintro e w1 ⟨rfl, ho1, _, hg1⟩
      have hU : { r with G := mkUp 1 r.G (j + 1) } = ({ ({ r with G := mkUp 1 r.G j } : Rm) with G := (mkUp 1 r.G j).set j (mkE (1 + 2 * (pre r.G j : Int)) m) } : Rm) := by
        rw [mkUp_succ 1 r.G j hjG, ← HM.out]
      have hW1 : RW w1 S V (.slice (some ⟨gb, 0, none⟩) n cg) vd vy vc { r with G := mkUp 1 r.G (j + 1) } := by
        rw [hU]
        refine HW.out.mark j hjU (mkE (1 + 2 * (pre r.G j : Int)) m) ?_ ?_
        · rw [HV.out, mkE_len]; exact ho1
        · rw [HV.out]; exact hg1
      have hK1 : Kept S w w1 := HK.out.trans (kept_grown hg1 (fun q e => HW.out.sl j hjU q (by rw [HV.out]; exact e))) (fun q _ h => h)
      have hcn : ¬ 1 + 2 * (pre r.G j : Int) + 2 * (m : Int) < 0 := by omega
      have H1 := hide hW1
      have K1 := hide hK1
      clear hU hW1 hK1 ho1 hg1 C
      go_wp2
      go_roundw
      case rel => exact ⟨j + 1, by omega, by go_num, by rw [HPS.out]; simp; omega, H1, K1⟩
      case measure => simp [intOf]; omega
    · obtain rfl : j = n := by omega
      have hltI : ¬ (j : Int) < (j : Int) := by omega
      go_wp2
      go_ret
      refine ⟨?_, ?_, HK.out⟩
      · show _ = Ending.returned (.int .i64 (1 + 2 * (pre r.G r.G.length : Int)))
        rw [HN.out]
        rfl
      · show RW _ S V _ vd vy vc { r with G := mkUp 1 r.G r.G.length }
        rw [HN.out]
        exact HW.out

set_option maxRecDepth 100000 in
set_option maxHeartbeats 2000000 in
theorem heldEntrySS_rw (S : Nat → Prop) (V : List Value) (ag : Option Addr) (n cg : Nat) (vd vy vc : Value) (r r' : Rm) (w : World) (hn : r.G.length = n) (hz : Sm r) (hr : r'.G = mkUp 1 r.G n) (hW : RW w S V (.slice ag n cg) vd vy vc r') :
    Calls Try.prog 48 #[.slice ag n cg, .int .i64 1] w fun e w' => e = .returned (.int .i64 (c1 r)) ∧ Below w.heap.size w w' := by
  have hn5 : n ≤ 5 := by have := hz.n; omega
  have hG : r'.G.length = n := by rw [hr, mkUp_len, hn]
  have HC : Hid (∀ i, i < n → ∃ g ai ci, ag = some ⟨g, 0, none⟩ ∧ w.cell? ⟨g, i, none⟩ = some (.slice ai (r.G.getD i []).length ci) ∧ SlE w ai (mkE (1 + 2 * (pre r.G i : Int)) (r.G.getD i []).length)) := hide (fun i hi => by
    rcases hW.g.2 with ⟨hv, h1⟩ | ⟨g, cap, cur, hv, _⟩
    · omega
    · obtain ⟨e, _, _⟩ := Value.slice.inj hv
      subst e
      obtain ⟨ai, ci, _, hc, hs⟩ := hW.logAt i (by omega)
      have e1 : r'.G.getD i [] = mkE (1 + 2 * (pre r.G i : Int)) (r.G.getD i []).length := by rw [hr, mkUp_get 1 r.G n i (by omega), if_pos hi]
      rw [e1, mkE_len] at hc
      rw [e1] at hs
      exact ⟨g, ai, ci, rfl, hc, hs⟩)
  have HZ := hide hz
  have HN := hide hn
  clear hW hz hr hG hn
  go_enter Try.func48, Try.ntmps48
  go_wp2
  go_loopw [1, 5] (fun k i wr => ∃ j : Nat, j ≤ n ∧ i = .int .i64 j ∧ k = .int .i64 (1 + 2 * (pre r.G j : Int)) ∧ Hid (Below w.heap.size w wr)) (fun _ i _ => n - (intOf i).toNat)
  case atStart => exact ⟨0, Nat.zero_le _, rfl, rfl, hide (Below.refl _ _)⟩
  case round =>
    obtain ⟨j, hj, rfl, rfl, HB⟩ := hrel
    by_cases hlt : j < n
    · obtain ⟨g, ai, ci, rfl, hc0, hs0⟩ := HC.out j hlt
      have hc := (HB.out.cell (p := ⟨g, j, none⟩) (blk_lt9 hc0)).trans hc0
      have hs := hs0.below HB.out
      have hltI : (j : Int) < (n : Int) := by omega
      have hj0 : (0 : Int) ≤ (j : Int) := by omega
      have hjG : j < r.G.length := by rw [HN.out]; exact hlt
      have hl40 := HZ.out.l j hjG
      have hp : pre r.G j ≤ 200 := by have := pre_le HZ.out.l j (by omega); omega
      obtain ⟨m, hm⟩ : ∃ m, m = (r.G.getD j []).length := ⟨_, rfl⟩
      have hps : pre r.G (j + 1) = pre r.G j + m := by rw [hm]; rfl
      rw [← hm] at hc hl40 hs
      have C := hide (heldEntryS_from ai m ci wr (1 + 2 * (pre r.G j : Int)) (by omega) (by omega) (by omega) hs)
      have HPS := hide hps
      have hcn : ¬ 1 + 2 * (pre r.G j : Int) + 2 * (m : Int) < 0 := by omega
      clear hm hps hc0 hs hs0
      go_wp2_with fail
      refine C.out.mono ?_
      rintro e w1 ⟨rfl, hb1⟩
      have H1 := hide (HB.out.trans (hb1.mono HB.out.size))
      clear hb1 C
      go_wp2
      go_roundw
      case rel => exact ⟨j + 1, by omega, by go_num, by rw [HPS.out]; simp; omega, H1⟩
      case measure => simp [intOf]; omega
    · obtain rfl : j = n := by omega
      have hltI : ¬ (j : Int) < (j : Int) := by omega
      go_wp2
      go_ret
      refine ⟨?_, HB.out⟩
      show _ = Ending.returned (.int .i64 (1 + 2 * (pre r.G r.G.length : Int)))
      rw [HN.out]
      rfl

set_option maxRecDepth 100000 in
set_option maxHeartbeats 2000000 in
theorem markRepl_rw (S : Nat → Prop) (V : List Value) (ag : Option Addr) (cg : Nat) (ad : Option Addr) (cd : Nat) (ld ep : Int) (ay : Option Addr) (cy : Nat) (ac : Option Addr) (cc n nd ny nc : Nat) (r : Rm) (w : World) (hn : r.G.length = n) (hnd : r.dn.length = nd) (hny : r.sy.length = ny) (hnc : r.ce.length = nc) (hz : Sm r) (hS : ∀ q, S q → q < w.heap.size) (hW : RW w S V (.slice ag n cg) (.slice ad nd cd) (.slice ay ny cy) (.slice ac nc cc) r) :
    Calls Try.prog 16 #[rpV ag n cg ad nd cd ld ep ay ny cy ac nc cc, .int .i64 1] w fun e w' => e = .returned (.int .i64 (c4 r)) ∧ RW w' S V (.slice ag n cg) (.slice ad nd cd) (.slice ay ny cy) (.slice ac nc cc) (mkM r) ∧ Kept S w w' := by
  have hpp := hz.pre
  have z1 := hz.d
  have z2 := hz.y
  have z3 := hz.c
  obtain ⟨k1, hk1⟩ : ∃ k, k = c1 r := ⟨_, rfl⟩
  have b1 : 1 ≤ k1 ∧ k1 ≤ 401 := by rw [hk1]; unfold c1; omega
  have BX := (Below.refl w.heap.size w).alloc (Nat.le_refl _) (rpO ag n cg ad nd cd ld ep ay ny cy ac nc cc)
  have HX := hide (kept_below (S := S) BX)
  have nS : Hid (¬ S w.heap.size) := hide (fun h => by have := hS _ h; omega)
  have O0 := hide (hW.below BX)
  have GX := hide (blk_new9 w (rpO ag n cg ad nd cd ld ep ay ny cy ac nc cc))
  have HLT : Hid (w.heap.size < (w.alloc (rpO ag n cg ad nd cd ld ep ay ny cy ac nc cc)).heap.size) := hide (by simp)
  have CE := hide (fun wx => markEntrySS_rw S V ag n cg (.slice ad nd cd) (.slice ay ny cy) (.slice ac nc cc) r wx hn hz)
  rw [← hk1] at CE
  have HK := hide hk1
  have HND := hide hnd
  have HNY := hide hny
  have HNC := hide hnc
  rw [hnd] at z1
  rw [hny] at z2
  rw [hnc] at z3
  clear hW BX hS hk1 hz hpp hn hnd hny hnc
  go_enter Try.func16, Try.ntmps16
  go_wp2_with fail
  refine (CE.out _ O0.out).mono ?_
  rintro e w1 ⟨rfl, hW1, hK1⟩
  have G1 := hide ((hK1.block w.heap.size HLT.out nS.out).trans GX.out)
  have K1 := hide (HX.out.trans hK1 (fun q _ h => h))
  have O1 := hide hW1
  clear hW1 hK1 CE O0 GX HX HLT
  obtain ⟨k_0, k_1, k_2, k_3, k_4, k_5⟩ := blk6 G1.out
  have D1 : Hid (w1.ownsRow 0 4 1 (.slice ad nd cd) nd (r.dn.map Value.bool)) := by
    have h := O1.out.d
    rw [show (mkM1 r).dn.length = _ from HND.out] at h
    exact hide h
  go_wp2_with fail
  refine (markBoolS_from 0 _ r.dn nd _ k1 (by omega) (by omega) (by omega) D1.out).mono ?_
  rintro e w2 ⟨rfl, hd2, _, hg2⟩
  have hW2 : RW w2 S V (.slice ag n cg) (.slice ad nd cd) (.slice ay ny cy) (.slice ac nc cc) (mkM2 r) := O1.out.markD (mkB (c1 r) r.dn.length) (by rw [mkB_len, HND.out, ← HK.out]; exact hd2) hg2
  have hk2 := kept_grown (S := S) hg2 (fun q e => O1.out.sd q e)
  have G2 := hide ((hk2.block w.heap.size (Array.getElem?_eq_some_iff.1 G1.out).1 nS.out).trans G1.out)
  have K2 := hide (K1.out.trans hk2 (fun q _ h => h))
  have O2 := hide hW2
  clear hW2 hk2 hd2 hg2 O1 D1 K1 k_0 k_1 k_2 k_3 k_4 k_5 G1
  obtain ⟨k_0, k_1, k_2, k_3, k_4, k_5⟩ := blk6 G2.out
  have D2 : Hid (w2.ownsRow 0 3 1 (.slice ay ny cy) ny (r.sy.map (Value.int .i64))) := by
    have h := O2.out.y
    rw [show (mkM2 r).sy.length = _ from HNY.out] at h
    exact hide h
  go_wp2_with fail
  refine (markIntS_from 0 _ r.sy ny _ (k1 + (nd : Int)) (by omega) (by omega) (by omega) D2.out).mono ?_
  rintro e w3 ⟨rfl, hd2, _, hg2⟩
  have hW2 : RW w3 S V (.slice ag n cg) (.slice ad nd cd) (.slice ay ny cy) (.slice ac nc cc) (mkM3 r) := O2.out.markY (mkC (c2 r) r.sy.length) (by rw [mkC_len, HNY.out]; unfold c2; rw [HND.out, ← HK.out]; exact hd2) hg2
  have hk2 := kept_grown (S := S) hg2 (fun q e => O2.out.sy q e)
  have G3 := hide ((hk2.block w.heap.size (Array.getElem?_eq_some_iff.1 G2.out).1 nS.out).trans G2.out)
  have K3 := hide (K2.out.trans hk2 (fun q _ h => h))
  have O3 := hide hW2
  clear hW2 hk2 hd2 hg2 O2 D2 K2 k_0 k_1 k_2 k_3 k_4 k_5 G2
  obtain ⟨k_0, k_1, k_2, k_3, k_4, k_5⟩ := blk6 G3.out
  have D3 : Hid (w3.ownsRow 0 93 2 (.slice ac nc cc) nc (flatE r.ce)) := by
    have h := O3.out.c
    rw [show (mkM3 r).ce.length = _ from HNC.out] at h
    exact hide h
  go_wp2_with fail
  refine (markEntryS_from 0 _ r.ce nc _ (k1 + (nd : Int) + (ny : Int)) (by omega) (by omega) (by omega) D3.out (Nat.zero_le _)).mono ?_
  rintro e w4 ⟨rfl, hd2, _, hg2⟩
  have hW2 : RW w4 S V (.slice ag n cg) (.slice ad nd cd) (.slice ay ny cy) (.slice ac nc cc) (mkM r) := O3.out.markC (mkE (c3 r) r.ce.length) (by rw [mkE_len, HNC.out]; unfold c3 c2; rw [HND.out, HNY.out, ← HK.out]; exact hd2) hg2
  have hk2 := kept_grown (S := S) hg2 (fun q e => O3.out.sc q e)
  have K4 := hide (K3.out.trans hk2 (fun q _ h => h))
  have O4 := hide hW2
  clear hW2 hk2 hd2 hg2 O3 D3 K3 k_0 k_1 k_2 k_3 k_4 k_5 G3
  go_wp2
  go_ret
  refine ⟨?_, O4.out, K4.out⟩
  unfold c4 c3 c2
  rw [HND.out, HNY.out, HNC.out, ← HK.out]
  rfl

set_option maxRecDepth 100000 in
set_option maxHeartbeats 2000000 in
theorem heldRepl_rw (S : Nat → Prop) (V : List Value) (ag : Option Addr) (cg : Nat) (ad : Option Addr) (cd : Nat) (ld ep : Int) (ay : Option Addr) (cy : Nat) (ac : Option Addr) (cc n nd ny nc : Nat) (r : Rm) (w : World) (hn : r.G.length = n) (hnd : r.dn.length = nd) (hny : r.sy.length = ny) (hnc : r.ce.length = nc) (hz : Sm r) (hW : RW w S V (.slice ag n cg) (.slice ad nd cd) (.slice ay ny cy) (.slice ac nc cc) (mkM r)) :
    Calls Try.prog 17 #[rpV ag n cg ad nd cd ld ep ay ny cy ac nc cc, .int .i64 1] w fun e w' => e = .returned (.int .i64 (c4 r)) ∧ Below w.heap.size w w' := by
  have hpp := hz.pre
  have z1 := hz.d
  have z2 := hz.y
  have z3 := hz.c
  obtain ⟨k1, hk1⟩ : ∃ k, k = c1 r := ⟨_, rfl⟩
  have b1 : 1 ≤ k1 ∧ k1 ≤ 401 := by rw [hk1]; unfold c1; omega
  have BX := (Below.refl w.heap.size w).alloc (Nat.le_refl _) (rpO ag n cg ad nd cd ld ep ay ny cy ac nc cc)
  have HX := hide BX
  have hrp := (hW.below BX).rps
  have FD := hide hrp.2
  rw [show (mkM r).dn = mkB k1 nd by show mkB (c1 r) r.dn.length = _; rw [← hk1, hnd]] at FD
  have FY := hide hrp.1.y
  rw [show (mkM r).sy = mkC (k1 + (nd : Int)) ny by show mkC (c1 r + (r.dn.length : Int)) r.sy.length = _; rw [← hk1, hnd, hny]] at FY
  have FC := hide hrp.1.c
  rw [show (mkM r).ce = mkE (k1 + (nd : Int) + (ny : Int)) nc by show mkE (c1 r + (r.dn.length : Int) + (r.sy.length : Int)) r.ce.length = _; rw [← hk1, hnd, hny, hnc]] at FC
  have GX := hide (blk_new9 w (rpO ag n cg ad nd cd ld ep ay ny cy ac nc cc))
  have CE := hide (heldEntrySS_rw S V ag n cg (.slice ad nd cd) (.slice ay ny cy) (.slice ac nc cc) r (mkM r) _ hn hz (by show mkUp 1 r.G r.G.length = _; rw [hn]) (hW.below BX))
  rw [← hk1] at CE
  have HK := hide hk1
  have HE : Hid (c4 r = k1 + (nd : Int) + (ny : Int) + 2 * (nc : Int)) := hide (by unfold c4 c3 c2; rw [hnd, hny, hnc, ← hk1])
  rw [hnd] at z1
  rw [hny] at z2
  rw [hnc] at z3
  obtain ⟨wa, hwa⟩ : ∃ wa, wa = w.alloc (rpO ag n cg ad nd cd ld ep ay ny cy ac nc cc) := ⟨_, rfl⟩
  rw [← hwa] at HX FD FY FC GX CE
  have HWA := hide hwa
  clear hW BX hk1 hz hpp hn hnd hny hnc hrp hwa
  go_enter Try.func17, Try.ntmps17
  go_upto_region 1 with fail
  rw [← HWA.out]
  obtain ⟨k_0, k_1, k_2, k_3, k_4, k_5⟩ := blk6 GX.out
  go_wp2_with fail
  refine CE.out.mono ?_
  rintro e w1 ⟨rfl, hb⟩
  have B1 := hide hb
  have n1 : ¬ k1 < 0 := by omega
  have G1 := (hb.block w.heap.size (Array.getElem?_eq_some_iff.1 GX.out).1).trans GX.out
  clear hb CE k_0 k_1 k_2 k_3 k_4 k_5
  obtain ⟨k_0, k_1, k_2, k_3, k_4, k_5⟩ := blk6 G1
  clear G1
  go_wp2_with fail
  refine (heldBoolS_from ad nd cd k1 _ (by omega) (by omega) (by omega) (FD.out.below B1.out)).mono ?_
  rintro e w2 ⟨rfl, hb⟩
  have B2 := hide (B1.out.trans (hb.mono B1.out.size))
  have n2 : ¬ k1 + (nd : Int) < 0 := by omega
  have G1 := (B2.out.block w.heap.size (Array.getElem?_eq_some_iff.1 GX.out).1).trans GX.out
  clear hb B1 k_0 k_1 k_2 k_3 k_4 k_5
  obtain ⟨k_0, k_1, k_2, k_3, k_4, k_5⟩ := blk6 G1
  clear G1
  go_wp2_with fail
  refine (heldIntS_from ay ny cy (k1 + (nd : Int)) _ (by omega) (by omega) (by omega) (FY.out.below B2.out)).mono ?_
  rintro e w3 ⟨rfl, hb⟩
  have B3 := hide (B2.out.trans (hb.mono B2.out.size))
  have n3 : ¬ k1 + (nd : Int) + (ny : Int) < 0 := by omega
  have G1 := (B3.out.block w.heap.size (Array.getElem?_eq_some_iff.1 GX.out).1).trans GX.out
  clear hb B2 k_0 k_1 k_2 k_3 k_4 k_5
  obtain ⟨k_0, k_1, k_2, k_3, k_4, k_5⟩ := blk6 G1
  clear G1
  go_wp2_with fail
  refine (heldEntryS_from ac nc cc _ (k1 + (nd : Int) + (ny : Int)) (by omega) (by omega) (by omega) (FC.out.below B3.out)).mono ?_
  rintro e w4 ⟨rfl, hb⟩
  have B4 := hide (B3.out.trans (hb.mono B3.out.size))
  have n4 : ¬ k1 + (nd : Int) + (ny : Int) + 2 * (nc : Int) < 0 := by omega
  clear hb B3 k_0 k_1 k_2 k_3 k_4 k_5
  go_wp2
  go_ret
  exact ⟨by rw [HE.out]; rfl, HX.out.trans (B4.out.mono HX.out.size)⟩
end Go.Proofs.Ythmekhhfihjclbd.L9

namespace Go.Proofs.Ythmekhhfihjclbd.L9
open Go.RowKit L1
set_option linter.unusedVariables false

set_option maxRecDepth 100000 in
set_option maxHeartbeats 1000000 in
theorem eqBoolS_same (a b : Option Addr) (xs : List Bool) (n c1 c2 : Nat) (w : World) (hn : xs.length = n) (ha : SlB w a xs) (hb : SlB w b xs) (hn2 : n ≤ 1048576) :
    Calls Try.prog 30 #[.slice a n c1, .slice b n c2] w fun e w' => e = .returned (.bool true) ∧ Below w.heap.size w w' := by
  have HA := hide ha
  have HB := hide hb
  have HN := hide hn
  clear ha hb hn
  go_enter Try.func30, Try.ntmps30
  go_wp2
  go_loopw [5] (fun i wr => ∃ k : Nat, k ≤ n ∧ i = .int .i64 k ∧ Below w.heap.size w wr) (fun i _ => n - (intOf i).toNat)
  case atStart => exact ⟨0, Nat.zero_le _, rfl, Below.refl _ _⟩
  case round =>
    obtain ⟨k, hk, rfl, hbel⟩ := hrel
    by_cases hlt : k < n
    · obtain ⟨b1, o1, rfl, h1⟩ := HA.out k (by rw [HN.out]; exact hlt)
      obtain ⟨b2, o2, rfl, h2⟩ := HB.out k (by rw [HN.out]; exact hlt)
      have g1 : wr.cell? ⟨b1, o1 + k, none⟩ = some (.bool (xs.getD k false)) := by
        rw [hbel.cell (p := ⟨b1, o1 + k, none⟩) (blk_lt h1)]
        exact h1
      have g2 : wr.cell? ⟨b2, o2 + k, none⟩ = some (.bool (xs.getD k false)) := by
        rw [hbel.cell (p := ⟨b2, o2 + k, none⟩) (blk_lt h2)]
        exact h2
      obtain ⟨x, hx⟩ : ∃ x, x = xs.getD k false := ⟨_, rfl⟩
      rw [← hx] at g1 g2
      have hltI : (k : Int) < (n : Int) := by omega
      clear h1 h2 hx
      go_wp2
      go_quiet (fail)
      go_wp2
      go_roundw
      case rel => exact ⟨k + 1, by omega, by go_num, below_drewN hbel _⟩
      case measure => simp [intOf]; omega
    · have hltI : ¬ (k : Int) < (n : Int) := by omega
      go_wp2
      go_ret
      exact ⟨rfl, hbel⟩
end Go.Proofs.Ythmekhhfihjclbd.L9

namespace Go.Proofs.Ythmekhhfihjclbd.L7
open Go.RowKit L1
set_option linter.unusedVariables false
set_option maxRecDepth 100000 in
set_option maxHeartbeats 400000 in
theorem eqEntry_same (x : Int) (y : ByteArray) (w : World) :
    Calls Try.prog 73 #[.agg #[.int .i64 x, .string y], .agg #[.int .i64 x, .string y]] w fun e w' => e = .returned (.bool true) ∧ Below w.heap.size w w' := by
  go_enter Try.func73, Try.ntmps73
  go_wp2
  go_ret
  exact ⟨rfl, ((Below.refl _ _).alloc (Nat.le_refl _) _).alloc (by simp) _⟩


theorem keep4E {wa wb : World} {B1 O1 B2 O2 N : Nat} {v1 v2 v3 v4 : Value} {W : World} (h : wa.cell? ⟨B1, O1, none⟩ = some v1 ∧ wa.cell? ⟨B1, O1 + 1, none⟩ = some v2 ∧ wa.cell? ⟨B2, O2, none⟩ = some v3 ∧ wa.cell? ⟨B2, O2 + 1, none⟩ = some v4 ∧ Below N W wa) (hb : Below wa.heap.size wa wb) (hN : N ≤ W.heap.size) :
    wb.cell? ⟨B1, O1, none⟩ = some v1 ∧ wb.cell? ⟨B1, O1 + 1, none⟩ = some v2 ∧ wb.cell? ⟨B2, O2, none⟩ = some v3 ∧ wb.cell? ⟨B2, O2 + 1, none⟩ = some v4 ∧ Below N W wb := by
  obtain ⟨h1, h2, h3, h4, h5⟩ := h
  exact ⟨(hb.cell (p := ⟨B1, O1, none⟩) (blk_lt h1)).trans h1, (hb.cell (p := ⟨B1, O1 + 1, none⟩) (blk_lt h2)).trans h2, (hb.cell (p := ⟨B2, O2, none⟩) (blk_lt h3)).trans h3, (hb.cell (p := ⟨B2, O2 + 1, none⟩) (blk_lt h4)).trans h4, h5.trans (hb.mono (Nat.le_trans hN h5.size))⟩

set_option maxRecDepth 100000 in
set_option maxHeartbeats 1000000 in
theorem eqEntryS_same (a b : Option Addr) (xs : List En) (n c1 c2 : Nat) (w : World) (hn : xs.length = n) (ha : SlE w a xs) (hb : SlE w b xs) (hn2 : n ≤ 1048576) :
    Calls Try.prog 44 #[.slice a n c1, .slice b n c2] w fun e w' => e = .returned (.bool true) ∧ Below w.heap.size w w' := by
  have HA := hide ha
  have HB := hide hb
  have HN := hide hn
  clear ha hb hn
  go_enter Try.func44, Try.ntmps44
  go_wp2
  go_loopw [5] (fun i wr => ∃ k : Nat, k ≤ n ∧ i = .int .i64 k ∧ Below w.heap.size w wr) (fun i _ => n - (intOf i).toNat)
  case atStart => exact ⟨0, Nat.zero_le _, rfl, Below.refl _ _⟩
  case round =>
    obtain ⟨k, hk, rfl, hbel⟩ := hrel
    by_cases hlt : k < n
    · obtain ⟨b1, o1, rfl, h1, h1'⟩ := HA.out k (by rw [HN.out]; exact hlt)
      obtain ⟨b2, o2, rfl, h2, h2'⟩ := HB.out k (by rw [HN.out]; exact hlt)
      have g1 := (hbel.cell (p := ⟨b1, o1 + k * 2, none⟩) (blk_lt h1)).trans h1
      have g1' := (hbel.cell (p := ⟨b1, o1 + k * 2 + 1, none⟩) (blk_lt h1')).trans h1'
      have g2 := (hbel.cell (p := ⟨b2, o2 + k * 2, none⟩) (blk_lt h2)).trans h2
      have g2' := (hbel.cell (p := ⟨b2, o2 + k * 2 + 1, none⟩) (blk_lt h2')).trans h2'
      obtain ⟨x, hx⟩ : ∃ x, x = (xs.getD k eE).1 := ⟨_, rfl⟩
      obtain ⟨y, hy⟩ : ∃ y, y = (xs.getD k eE).2 := ⟨_, rfl⟩
      rw [← hx] at g1 g2
      rw [← hy] at g1' g2'
      have hltI : (k : Int) < (n : Int) := by omega
      have hk0 : (0 : Int) ≤ (k : Int) := by omega
      clear h1 h2 h1' h2' hx hy
      go_wp2
      go_region_held3 (fun wx => wx.cell? ⟨b1, o1 + k * 2, none⟩ = some (.int .i64 x) ∧ wx.cell? ⟨b1, o1 + k * 2 + 1, none⟩ = some (.string y) ∧ wx.cell? ⟨b2, o2 + k * 2, none⟩ = some (.int .i64 x) ∧ wx.cell? ⟨b2, o2 + k * 2 + 1, none⟩ = some (.string y) ∧ Below wr.heap.size wr wx) (first | exact ⟨g1, g1', g2, g2', (Below.refl _ _).drew⟩ | exact keep4E (by assumption) (by assumption) (Nat.le_refl _)) ((go_at_call 73; refine (eqEntry_same x y _).mono ?_; rintro e w1 ⟨rfl, hb⟩))
      rename_i hHeld
      have B1 := hide (hbel.trans (hHeld.2.2.2.2.mono hbel.size))
      clear hHeld
      go_wp2
      go_roundw
      case rel => exact ⟨k + 1, by omega, by go_num, B1.out⟩
      case measure => simp [intOf]; omega
    · have hltI : ¬ (k : Int) < (n : Int) := by omega
      go_wp2
      go_ret
      exact ⟨rfl, hbel⟩
end Go.Proofs.Ythmekhhfihjclbd.L7

namespace Go.Proofs.Ythmekhhfihjclbd.L9
open Go.RowKit L1 L7
set_option linter.unusedVariables false

theorem keepG {wa wb : World} {B1 O1 B2 O2 N : Nat} {v1 v2 : Value} {W : World} (h : (wa.cell? ⟨B1, O1, none⟩ = some v1 ∧ wa.cell? ⟨B2, O2, none⟩ = some v2) ∧ Below N W wa) (hb : Below wa.heap.size wa wb) (hN : N ≤ W.heap.size) : (wb.cell? ⟨B1, O1, none⟩ = some v1 ∧ wb.cell? ⟨B2, O2, none⟩ = some v2) ∧ Below N W wb := by
  obtain ⟨⟨h1, h2⟩, h3⟩ := h
  exact ⟨⟨(hb.cell (p := ⟨B1, O1, none⟩) (blk_lt h1)).trans h1, (hb.cell (p := ⟨B2, O2, none⟩) (blk_lt h2)).trans h2⟩, h3.trans (hb.mono (Nat.le_trans hN h3.size))⟩
set_option maxRecDepth 100000 in
set_option maxHeartbeats 2000000 in
theorem eqEntrySS_same (a b : Option Addr) (ls : List (List En)) (n c1 c2 : Nat) (w : World) (hn : ls.length = n) (ha : SlG w a ls) (hb : SlG w b ls) (hn2 : n ≤ 1048576) (hls : ∀ i, i < ls.length → (ls.getD i []).length ≤ 1048576) :
    Calls Try.prog 43 #[.slice a n c1, .slice b n c2] w fun e w' => e = .returned (.bool true) ∧ Below w.heap.size w w' := by
  have HA := hide ha
  have HB := hide hb
  have HN := hide hn
  have HLS := hide hls
  clear ha hb hn hls
  go_enter Try.func43, Try.ntmps43
  go_wp2
  go_loopw [5] (fun i wr => ∃ k : Nat, k ≤ n ∧ i = .int .i64 k ∧ Below w.heap.size w wr) (fun i _ => n - (intOf i).toNat)
  case atStart => exact ⟨0, Nat.zero_le _, rfl, Below.refl _ _⟩
  case round =>
    obtain ⟨k, hk, rfl, hbel⟩ := hrel
    by_cases hlt : k < n
    · obtain ⟨b1, o1, rfl, x1, q1, h1, s1⟩ := HA.out k (by rw [HN.out]; exact hlt)
      obtain ⟨b2, o2, rfl, x2, q2, h2, s2⟩ := HB.out k (by rw [HN.out]; exact hlt)
      have g1 := (hbel.cell (p := ⟨b1, o1 + k, none⟩) (blk_lt h1)).trans h1
      have g2 := (hbel.cell (p := ⟨b2, o2 + k, none⟩) (blk_lt h2)).trans h2
      have t1 := s1.below hbel
      have t2 := s2.below hbel
      have hlx := HLS.out k (by rw [HN.out]; exact hlt)
      obtain ⟨l, hl⟩ : ∃ l, l = ls.getD k [] := ⟨_, rfl⟩
      rw [← hl] at g1 g2 t1 t2 hlx
      obtain ⟨m, hmm⟩ : ∃ m, m = l.length := ⟨_, rfl⟩
      rw [← hmm] at g1 g2 hlx
      have hltI : (k : Int) < (n : Int) := by omega
      have hk0 : (0 : Int) ≤ (k : Int) := by omega
      have C := hide (fun wx (hb : Below wr.heap.size wr wx) => eqEntryS_same x1 x2 l m q1 q2 wx hmm.symm (t1.below hb) (t2.below hb) hlx)
      clear h1 h2 s1 s2 t1 t2 hl hmm
      go_wp2
      go_region_held3 (fun wx => (wx.cell? ⟨b1, o1 + k, none⟩ = some (.slice x1 m q1) ∧ wx.cell? ⟨b2, o2 + k, none⟩ = some (.slice x2 m q2)) ∧ Below wr.heap.size wr wx) (first | exact ⟨⟨g1, g2⟩, (Below.refl _ _).drew⟩ | exact keepG (by assumption) (by assumption) (Nat.le_refl _)) ((go_at_call 44; refine (C.out _ (by first | exact And.right (by assumption) | exact (Below.refl _ _).drew | exact Below.refl _ _)).mono ?_; rintro e w1 ⟨rfl, hb⟩))
      rename_i hHeld
      have B1 := hide (hbel.trans (hHeld.2.mono hbel.size))
      clear hHeld
      go_wp2
      go_roundw
      case rel => exact ⟨k + 1, by omega, by go_num, B1.out⟩
      case measure => simp [intOf]; omega
    · have hltI : ¬ (k : Int) < (n : Int) := by omega
      go_wp2
      go_ret
      exact ⟨rfl, hbel⟩
end Go.Proofs.Ythmekhhfihjclbd.L9

namespace Go.Proofs.Ythmekhhfihjclbd.L9
open Go.RowKit L1 L7
set_option linter.unusedVariables false

set_option maxRecDepth 100000 in
set_option maxHeartbeats 2000000 in
theorem eqRepl_same (ag : Option Addr) (cg : Nat) (ad : Option Addr) (cd : Nat) (ay : Option Addr) (cy : Nat) (ac : Option Addr) (cc : Nat) (bg : Option Addr) (eg : Nat) (bd : Option Addr) (ed : Nat) (b_ : Option Addr) (ey : Nat) (bc : Option Addr) (ec : Nat) (n nd ny nc : Nat) (ld ep : Int) (G : List (List En)) (dn : List Bool) (sy : List Int) (ce : List En) (w : World) (hz : RpZ G sy ce n nd ny nc) (hd : dn.length = nd) (h1 : RpF w ag ad ay ac G dn sy ce) (h2 : RpF w bg bd b_ bc G dn sy ce) :
    Calls Try.prog 15 #[rpV ag n cg ad nd cd ld ep ay ny cy ac nc cc, rpV bg n eg bd nd ed ld ep b_ ny ey bc nc ec] w fun e w' => e = .returned (.bool true) ∧ Below w.heap.size w w' := by
  obtain ⟨hn, hy, hc, n2, d2, y2, c2, hls, htx⟩ := hz
  obtain ⟨W0, hW0⟩ : ∃ W0, (w.alloc (rpO ag n cg ad nd cd ld ep ay ny cy ac nc cc)).alloc (rpO bg n eg bd nd ed ld ep b_ ny ey bc nc ec) = W0 := ⟨_, rfl⟩
  have BX : Hid (Below w.heap.size w W0) := by rw [← hW0]; exact hide (((Below.refl _ _).alloc (Nat.le_refl _) _).alloc (by simp) _)
  have G0 : Hid (W0.heap[w.heap.size]? = some (rpO ag n cg ad nd cd ld ep ay ny cy ac nc cc)) := by
    rw [← hW0]
    exact hide ((((Below.refl (w.alloc (rpO ag n cg ad nd cd ld ep ay ny cy ac nc cc)).heap.size _).alloc (Nat.le_refl _) _).block w.heap.size (by simp)).trans (blk_new9 _ _))
  have H0 : Hid (W0.heap[w.heap.size + 1]? = some (rpO bg n eg bd nd ed ld ep b_ ny ey bc nc ec)) := by
    rw [← hW0]
    have := blk_new9 (w.alloc (rpO ag n cg ad nd cd ld ep ay ny cy ac nc cc)) (rpO bg n eg bd nd ed ld ep b_ ny ey bc nc ec)
    rw [World.size_alloc] at this
    exact hide this
  have C1 := hide (fun wx (hb : Below w.heap.size w wx) => eqEntrySS_same ag bg G n cg eg wx hn (h1.s.g.below hb) (h2.s.g.below hb) n2 hls)
  have C2 := hide (fun wx (hb : Below w.heap.size w wx) => eqBoolS_same ad bd dn nd cd ed wx hd (h1.d.below hb) (h2.d.below hb) d2)
  have C3 := hide (fun wx (hb : Below w.heap.size w wx) => eqIntS_same ay b_ sy ny cy ey wx hy (h1.s.y.below hb) (h2.s.y.below hb) y2)
  have C4 := hide (fun wx (hb : Below w.heap.size w wx) => eqEntryS_same ac bc ce nc cc ec wx hc (h1.s.c.below hb) (h2.s.c.below hb) c2)
  have HW := hide hW0
  clear hW0 h1 h2 hn hy hc hls htx hd
  obtain ⟨k0, k1, k2, k3, k4, k5⟩ := blk6 G0.out
  obtain ⟨j0, j1, j2, j3, j4, j5⟩ := blk6 H0.out
  go_enter Try.func15, Try.ntmps15
  go_upto_region 1 with fail
  rw [HW.out]
  clear HW
  go_wp2_with fail
  refine (C1.out _ BX.out).mono ?_
  rintro e w1 ⟨rfl, hb⟩
  have B1 := hide (BX.out.trans (hb.mono BX.out.size))
  have G1 := hide ((hb.block w.heap.size (Array.getElem?_eq_some_iff.1 G0.out).1).trans G0.out)
  have H1 := hide ((hb.block (w.heap.size + 1) (Array.getElem?_eq_some_iff.1 H0.out).1).trans H0.out)
  clear hb k0 k1 k2 k3 k4 k5 j0 j1 j2 j3 j4 j5
  obtain ⟨k0, k1, k2, k3, k4, k5⟩ := blk6 G1.out
  obtain ⟨j0, j1, j2, j3, j4, j5⟩ := blk6 H1.out
  go_wp2_with fail
  refine (C2.out _ B1.out).mono ?_
  rintro e w2 ⟨rfl, hb⟩
  have B2 := hide (B1.out.trans (hb.mono B1.out.size))
  have G2 := hide ((hb.block w.heap.size (Array.getElem?_eq_some_iff.1 G1.out).1).trans G1.out)
  have H2 := hide ((hb.block (w.heap.size + 1) (Array.getElem?_eq_some_iff.1 H1.out).1).trans H1.out)
  clear hb k0 k1 k2 k3 k4 k5 j0 j1 j2 j3 j4 j5
  obtain ⟨k0, k1, k2, k3, k4, k5⟩ := blk6 G2.out
  obtain ⟨j0, j1, j2, j3, j4, j5⟩ := blk6 H2.out
  go_wp2_with fail
  refine (C3.out _ B2.out).mono ?_
  rintro e w3 ⟨rfl, hb⟩
  have B3 := hide (B2.out.trans (hb.mono B2.out.size))
  have G3 := hide ((hb.block w.heap.size (Array.getElem?_eq_some_iff.1 G2.out).1).trans G2.out)
  have H3 := hide ((hb.block (w.heap.size + 1) (Array.getElem?_eq_some_iff.1 H2.out).1).trans H2.out)
  clear hb k0 k1 k2 k3 k4 k5 j0 j1 j2 j3 j4 j5
  obtain ⟨k0, k1, k2, k3, k4, k5⟩ := blk6 G3.out
  obtain ⟨j0, j1, j2, j3, j4, j5⟩ := blk6 H3.out
  go_wp2_with fail
  refine (C4.out _ B3.out).mono ?_
  rintro e w4 ⟨rfl, hb⟩
  have B4 := hide (B3.out.trans (hb.mono B3.out.size))
  have G4 := hide ((hb.block w.heap.size (Array.getElem?_eq_some_iff.1 G3.out).1).trans G3.out)
  have H4 := hide ((hb.block (w.heap.size + 1) (Array.getElem?_eq_some_iff.1 H3.out).1).trans H3.out)
  clear hb k0 k1 k2 k3 k4 k5 j0 j1 j2 j3 j4 j5
  obtain ⟨k0, k1, k2, k3, k4, k5⟩ := blk6 G4.out
  obtain ⟨j0, j1, j2, j3, j4, j5⟩ := blk6 H4.out
  go_wp2
  go_ret
  exact ⟨rfl, B4.out⟩
end Go.Proofs.Ythmekhhfihjclbd.L9

namespace Go.Proofs.Ythmekhhfihjclbd.Tri
open Go.RowKit L1
set_option linter.unusedVariables false
abbrev Tr := Int × Int × ByteArray
abbrev e3 : Tr := (0, 0, ByteArray.empty)
def Sl3 (w : World) (a : Option Addr) (l : List Tr) : Prop := ∀ i, i < l.length → ∃ b off, a = some ⟨b, off, none⟩ ∧ w.cell? ⟨b, off + i * 3, none⟩ = some (.int .i64 (l.getD i e3).1) ∧ w.cell? ⟨b, off + i * 3 + 1, none⟩ = some (.int .i64 (l.getD i e3).2.1) ∧ w.cell? ⟨b, off + i * 3 + 2, none⟩ = some (.string (l.getD i e3).2.2)
theorem Sl3.below {w w' : World} {a : Option Addr} {xs : List Tr} (h : Sl3 w a xs) (hb : Below w.heap.size w w') : Sl3 w' a xs := fun i hi => by
  obtain ⟨b, off, ha, hc, hd, he⟩ := h i hi
  exact ⟨b, off, ha, (hb.cell (p := ⟨b, off + i * 3, none⟩) (blk_lt hc)).trans hc, (hb.cell (p := ⟨b, off + i * 3 + 1, none⟩) (blk_lt hd)).trans hd, (hb.cell (p := ⟨b, off + i * 3 + 2, none⟩) (blk_lt he)).trans he⟩
def Tx3 (l : List Tr) : Prop := ∀ j, j < l.length → (l.getD j e3).2.2.size ≤ 9223372036854775807
/-- What a walk is told of a slice that came in. -/
def IsRow3 (w : World) (a : Option Addr) (len : Nat) (l : List Tr) : Prop := (l.length = len ∧ len ≤ maxLen ∧ Sl3 w a l) ∧ Tx3 l
open Classical in
theorem row3_of {w : World} {a : Addr} {len cap : Nat} (hl : len ≤ cap) (hm : cap ≤ maxLen) (h : ∀ i, i < len → ∃ p : Tr, (w.cell? (a.add (i * 3)) = some (.int .i64 p.1) ∧ w.cell? (a.add (i * 3 + 1)) = some (.int .i64 p.2.1) ∧ w.cell? (a.add (i * 3 + 2)) = some (.string p.2.2)) ∧ p.2.2.size ≤ maxLen) : ∃ l, IsRow3 w (some a) len l := by
  have hc : ∃ f : Nat → Tr, ∀ i, i < len → (w.cell? (a.add (i * 3)) = some (.int .i64 (f i).1) ∧ w.cell? (a.add (i * 3 + 1)) = some (.int .i64 (f i).2.1) ∧ w.cell? (a.add (i * 3 + 2)) = some (.string (f i).2.2)) ∧ (f i).2.2.size ≤ maxLen := by
    refine ⟨fun i => if hi : i < len then Classical.choose (h i hi) else e3, fun i hi => ?_⟩
    simp only [dif_pos hi]
    exact Classical.choose_spec (h i hi)
  obtain ⟨f, hf⟩ := hc
  have hg : ∀ i, i < len → ((List.range len).map f).getD i e3 = f i := fun i hi' => by simp [List.getD, hi']
  refine ⟨(List.range len).map f, ⟨by simp, Nat.le_trans hl hm, fun i hi => ?_⟩, fun j hj => ?_⟩
  · have hi' : i < len := by simpa using hi
    obtain ⟨b, off, spot⟩ := a
    have hspot : spot = none := by
      have h00 := (hf 0 (by omega)).1.1
      have := World.cell?_spot h00
      simpa [Addr.add] using this
    subst hspot
    have e0 : ∀ j, (⟨b, off, none⟩ : Addr).add j = ⟨b, off + j, none⟩ := fun j => by unfold Addr.add; split <;> simp_all
    have := (hf i hi').1
    rw [e0, e0, e0] at this
    rw [hg i hi']
    exact ⟨b, off, rfl, this.1, this.2.1, this.2.2⟩
  · have hj' : j < len := by simpa using hj
    rw [hg j hj']
    have := (hf j hj').2
    unfold maxLen at this
    omega
/-- The cells, one behind the other. -/
def flat3 : List Tr → List Value
  | [] => []
  | p :: l => .int .i64 p.1 :: .int .i64 p.2.1 :: .string p.2.2 :: flat3 l
theorem flat3_len : ∀ l : List Tr, (flat3 l).length = l.length * 3
  | [] => rfl
  | p :: l => by simp [flat3, flat3_len l]; omega
theorem flat3_get : ∀ (l : List Tr) (i : Nat), i < l.length → (flat3 l)[i * 3]? = some (.int .i64 (l.getD i e3).1) ∧ (flat3 l)[i * 3 + 1]? = some (.int .i64 (l.getD i e3).2.1) ∧ (flat3 l)[i * 3 + 2]? = some (.string (l.getD i e3).2.2)
  | [], i, h => by simp at h
  | p :: l, 0, _ => ⟨rfl, rfl, rfl⟩
  | p :: l, i + 1, h => by
    have := flat3_get l i (by simpa using h)
    have e1 : (i + 1) * 3 = i * 3 + 1 + 1 + 1 := by omega
    rw [e1]
    simpa only [flat3, List.getElem?_cons_succ, List.getD_cons_succ] using this
theorem flat3_append (l m : List Tr) : flat3 (l ++ m) = flat3 l ++ flat3 m := by
  induction l with
  | nil => rfl
  | cons p l ih => simp [flat3, ih]
theorem flat3_one (l : List Tr) : ∀ u ∈ flat3 l, u.oneCell' = true := by
  induction l with
  | nil => intro u hu; cases hu
  | cons p l ih =>
    intro u hu
    simp only [flat3, List.mem_cons] at hu
    rcases hu with rfl | rfl | rfl | hu
    · rfl
    · rfl
    · rfl
    · exact ih u hu
theorem flat3_set : ∀ (l : List Tr) (i : Nat) (p : Tr), flat3 (l.set i p) = (((flat3 l).set (i * 3) (.int .i64 p.1)).set (i * 3 + 1) (.int .i64 p.2.1)).set (i * 3 + 2) (.string p.2.2)
  | [], _, _ => rfl
  | q :: l, 0, p => rfl
  | q :: l, i + 1, p => by
    have := flat3_set l i p
    have e1 : (i + 1) * 3 = i * 3 + 1 + 1 + 1 := by omega
    rw [e1]
    simp only [List.set_cons_succ, flat3, this]
theorem own_form3 {w : World} {base n : Nat} {t : TypeId} {v : Value} {l : List Tr} (h : w.ownsRow base t 3 v n (flat3 l)) : ∃ a cap, v = .slice a n cap ∧ Sl3 w a l ∧ l.length = n := by
  have hl := h.1
  rw [flat3_len] at hl
  have hl' : l.length = n := by omega
  rcases h.2 with ⟨hv, h0⟩ | ⟨g, cap, cur, hv, _⟩
  · subst h0
    exact ⟨none, 0, hv, fun i hi => by omega, hl'⟩
  · subst hv
    refine ⟨_, cap, rfl, fun i hi => ?_, hl'⟩
    have hf := flat3_get l i hi
    have h1 := h.cells (g := g) rfl (i * 3) _ hf.1
    have h2 := h.cells (g := g) rfl (i * 3 + 1) _ hf.2.1
    have h3 := h.cells (g := g) rfl (i * 3 + 2) _ hf.2.2
    rw [addr_add] at h1 h2 h3
    exact ⟨g, 0, rfl, by simpa using h1, by simpa using h2, by simpa using h3⟩
theorem own_sl3 {w : World} {base n cap : Nat} {t : TypeId} {a : Option Addr} {l : List Tr} (h : w.ownsRow base t 3 (.slice a n cap) n (flat3 l)) : Sl3 w a l := by
  obtain ⟨b, q, e, s, _⟩ := own_form3 h
  cases e
  exact s
theorem own_below3 {w w' : World} {base n : Nat} {t : TypeId} {c : Nat} {v : Value} {ys : List Value} (h : w.ownsRow base t c v n ys) (hb : Below w.heap.size w w') : w'.ownsRow base t c v n ys := by
  refine ⟨h.1, ?_⟩
  rcases h.2 with h0 | ⟨g, cap, cur, rfl, hbg, hg, r⟩
  · exact .inl h0
  · exact .inr ⟨g, cap, cur, rfl, hbg, by rw [hb.block g (Array.getElem?_eq_some_iff.1 hg).1]; exact hg, r⟩
theorem list_same3 {xs ys : List Tr} {m : Nat} (h1 : xs.length = m) (h2 : ys.length = m) (h : ∀ j, j < m → ys.getD j e3 = xs.getD j e3) : ys = xs := by
  apply List.ext_getElem?
  intro j
  by_cases hj : j < m
  · have h := h j hj
    simp only [List.getD, List.getElem?_eq_getElem (show j < ys.length by omega), List.getElem?_eq_getElem (show j < xs.length by omega), Option.getD_some] at h
    rw [List.getElem?_eq_getElem (show j < ys.length by omega), List.getElem?_eq_getElem (show j < xs.length by omega), h]
  · rw [List.getElem?_eq_none (by omega), List.getElem?_eq_none (by omega)]
theorem made_3 (n : Nat) : (madeCells (Value.agg #[.int .i64 0, .int .i64 0, .string ByteArray.empty]).cells (n * 3)).toList = flat3 (List.replicate n e3) := by
  apply List.ext_getElem?
  intro j
  by_cases hj : j < n * 3
  · have hi : j / 3 < (List.replicate n e3).length := by simp; omega
    have hf := flat3_get (List.replicate n e3) (j / 3) hi
    have hg : (List.replicate n e3).getD (j / 3) e3 = e3 := by
      simp [List.getD, List.getElem?_replicate]; split <;> rfl
    rw [hg] at hf
    have hm : (madeCells (Value.agg #[.int .i64 0, .int .i64 0, .string ByteArray.empty]).cells (n * 3)).toList[j]? = some (if j % 3 = 2 then .string ByteArray.empty else .int .i64 0) := by
      simp only [madeCells, Value.cells, Array.toList_map, Array.toList_range, List.getElem?_map]
      rw [List.getElem?_range hj]
      simp only [Option.map_some, List.size_toArray, List.length_cons, List.length_nil]
      have h01 : j % 3 = 0 ∨ j % 3 = 1 ∨ j % 3 = 2 := by omega
      rcases h01 with h | h | h <;> simp [h]
    rw [hm]
    have h01 : j % 3 = 0 ∨ j % 3 = 1 ∨ j % 3 = 2 := by omega
    rcases h01 with h | h | h
    · rw [if_neg (by omega), show j = j / 3 * 3 by omega]; exact hf.1.symm
    · rw [if_neg (by omega), show j = j / 3 * 3 + 1 by omega]; exact hf.2.1.symm
    · rw [if_pos h, show j = j / 3 * 3 + 2 by omega]; exact hf.2.2.symm
  · rw [List.getElem?_eq_none (by simp [size_madeCells]; omega), List.getElem?_eq_none (by rw [flat3_len]; simp; omega)]
/-- The lengths of all texts. -/
def szs3 : List Tr → Nat
  | [] => 0
  | p :: l => p.2.2.size + szs3 l
theorem szs3_append : ∀ l m : List Tr, szs3 (l ++ m) = szs3 l + szs3 m
  | [], m => by simp [szs3]
  | p :: l, m => by simp [szs3, szs3_append l m]; omega
theorem szs3_take (l : List Tr) (k : Nat) (hk : k < l.length) : szs3 (l.take (k + 1)) = szs3 (l.take k) + (l.getD k e3).2.2.size := by
  rw [List.take_succ_eq_append_getElem hk, szs3_append]
  simp [szs3, List.getD, List.getElem?_eq_getElem hk]
theorem szs3_le (l : List Tr) (k : Nat) : szs3 (l.take k) ≤ szs3 l := by
  have h : l = l.take k ++ l.drop k := (List.take_append_drop k l).symm
  have := szs3_append (l.take k) (l.drop k)
  rw [← h] at this
  omega
theorem szs3_get : ∀ (l : List Tr) (k : Nat), k < l.length → (l.getD k e3).2.2.size ≤ szs3 l
  | [], k, h => by simp at h
  | p :: l, 0, _ => by simp [szs3]
  | p :: l, k + 1, h => by
    have := szs3_get l k (by simpa using h)
    simp only [List.getD_cons_succ, szs3]
    omega
/-- What a list weighs. -/
def wt3 (l : List Tr) : Nat := l.length + szs3 l
end Go.Proofs.Ythmekhhfihjclbd.Tri

namespace Go.Proofs.Ythmekhhfihjclbd.Tri
open Go.RowKit L1
set_option linter.unusedVariables false

set_option maxRecDepth 100000 in
set_option maxHeartbeats 400000 in
theorem szReplStep_any (x z : Int) (y : ByteArray) (L : Int) (w : World) (hy : y.size ≤ 9223372036854775807) (h0 : 0 ≤ L) (h1 : L ≤ 1048576) (r : Int) (hr : r = if (y.size : Int) ≤ L then L - (y.size : Int) else -1) :
    Calls Try.prog 22 #[.agg #[.int .i64 x, .int .i64 z, .string y], .int .i64 L] w fun e w' => e = .returned (.int .i64 r) ∧ Below w.heap.size w w' := by
  have HR := hide hr
  clear hr
  by_cases ha : L - (y.size : Int) < 0
  · go_enter Try.func22, Try.ntmps22
    go_wp2
    go_ret
    exact ⟨by rw [HR.out, if_neg (by omega)]; rfl, (Below.refl _ _).alloc (Nat.le_refl _) _⟩
  · go_enter Try.func22, Try.ntmps22
    go_wp2
    go_ret
    exact ⟨by rw [HR.out, if_pos (by omega)]; rfl, (Below.refl _ _).alloc (Nat.le_refl _) _⟩

set_option maxRecDepth 100000 in
set_option maxHeartbeats 1000000 in
theorem szReplStepS_any (a : Option Addr) (l : List Tr) (n cap : Nat) (L : Int) (w : World) (hn : l.length = n) (hm : n ≤ 9223372036854775807) (hs : Sl3 w a l) (hst : Tx3 l) (h0 : 0 ≤ L) (h1 : L ≤ 1048576) (r : Int) (hr : r = if (wt3 l : Int) ≤ L then L - (wt3 l : Int) else -1) :
    Calls Try.prog 26 #[.slice a n cap, .int .i64 L] w fun e w' => e = .returned (.int .i64 r) ∧ Below w.heap.size w w' := by
  have HR := hide hr
  have HS := hide hs
  have HN := hide hn
  have HST := hide hst
  clear hr hs hn hst
  have HW : Hid (wt3 l = n + szs3 l) := by show wt3 l = n + szs3 l; unfold wt3; rw [HN.out]
  by_cases ha : L - (n : Int) < 0
  · go_enter Try.func26, Try.ntmps26
    go_wp2
    go_ret
    exact ⟨by rw [HR.out, HW.out, if_neg (by omega)]; rfl, Below.refl _ _⟩
  · go_enter Try.func26, Try.ntmps26
    go_wp2
    go_loopw [1, 5] (fun t i wr => ∃ k : Nat, k ≤ n ∧ i = .int .i64 k ∧ t = .int .i64 (L - (n : Int) - (szs3 (l.take k) : Int)) ∧ Hid ((szs3 (l.take k) : Int) ≤ L - (n : Int)) ∧ Below w.heap.size w wr) (fun _ i _ => n - (intOf i).toNat)
    case atStart => exact ⟨0, Nat.zero_le _, rfl, by simp [szs3], by show (szs3 (l.take 0) : Int) ≤ L - (n : Int); simp [szs3]; omega, Below.refl _ _⟩
    case round =>
      obtain ⟨k, hk, rfl, rfl, HK, hbel⟩ := hrel
      by_cases hlt : k < n
      · obtain ⟨b, off, rfl, hc0, he0, hd0⟩ := HS.out k (by rw [HN.out]; exact hlt)
        have hc := (hbel.cell (p := ⟨b, off + k * 3, none⟩) (blk_lt hc0)).trans hc0
        have he := (hbel.cell (p := ⟨b, off + k * 3 + 1, none⟩) (blk_lt he0)).trans he0
        have hd := (hbel.cell (p := ⟨b, off + k * 3 + 2, none⟩) (blk_lt hd0)).trans hd0
        have hltI : (k : Int) < (n : Int) := by omega
        have hsx := HST.out k (by rw [HN.out]; exact hlt)
        have htk := szs3_take l k (by rw [HN.out]; exact hlt)
        have hle := szs3_le l (k + 1)
        obtain ⟨x, hx⟩ : ∃ x, x = (l.getD k e3).1 := ⟨_, rfl⟩
        obtain ⟨z, hz⟩ : ∃ z, z = (l.getD k e3).2.1 := ⟨_, rfl⟩
        obtain ⟨y, hy⟩ : ∃ y, y = (l.getD k e3).2.2 := ⟨_, rfl⟩
        rw [← hx] at hc
        rw [← hz] at he
        rw [← hy] at hd hsx htk
        obtain ⟨c, hcc⟩ : ∃ c, c = L - (n : Int) - (szs3 (l.take k) : Int) := ⟨_, rfl⟩
        have hc0 : 0 ≤ c := by have := HK.out; omega
        have hc1 : c ≤ 1048576 := by omega
        rw [← hcc]
        have HC := hide hcc
        have HTK := hide htk
        have HLE := hide hle
        have B0 := hide hbel
        clear hx hy hz hcc htk hle hbel hd0 he0
        by_cases hfit : (y.size : Int) ≤ c
        · have C := hide (fun w => szReplStep_any x z y c w hsx hc0 hc1 _ rfl)
          simp only [if_pos hfit] at C
          obtain ⟨d, hd'⟩ : ∃ d, d = c - (y.size : Int) := ⟨_, rfl⟩
          simp only [← hd'] at C
          have hd0 : ¬ d < 0 := by omega
          have HD := hide hd'
          clear hd' hsx
          go_wp2_with fail
          refine (C.out _).mono ?_
          rintro e w1 ⟨rfl, hb1⟩
          have B1 := hide (B0.out.trans (hb1.mono B0.out.size))
          clear hb1
          go_wp2
          go_roundw
          case rel => exact ⟨k + 1, by omega, by go_num, by rw [HD.out, HC.out, HTK.out]; go_num, by show (szs3 (l.take (k + 1)) : Int) ≤ L - (n : Int); have := HC.out; have := HTK.out; omega, B1.out⟩
          case measure => simp [intOf]; omega
        · have C := hide (fun w => szReplStep_any x z y c w hsx hc0 hc1 _ rfl)
          simp only [if_neg hfit] at C
          have E : Hid (r = -1) := by show r = -1; have := HC.out; have := HTK.out; have := HLE.out; rw [HR.out, HW.out, if_neg (by omega)]
          clear hsx hfit
          go_wp2_with fail
          refine (C.out _).mono ?_
          rintro e w1 ⟨rfl, hb1⟩
          have B1 := hide (B0.out.trans (hb1.mono B0.out.size))
          clear hb1
          go_wp2
          go_ret
          exact ⟨by rw [E.out]; rfl, B1.out⟩
      · obtain rfl : k = n := by omega
        have hltI : ¬ (k : Int) < (k : Int) := by omega
        have e1 : l.take k = l := List.take_of_length_le (by rw [HN.out]; exact Nat.le_refl _)
        rw [e1] at HK ⊢
        have E : Hid (r = L - (k : Int) - (szs3 l : Int)) := by show r = _; have := HK.out; rw [HR.out, HW.out, if_pos (by omega)]; omega
        clear e1
        go_wp2
        go_ret
        exact ⟨by rw [E.out]; rfl, hbel⟩
end Go.Proofs.Ythmekhhfihjclbd.Tri

namespace Go.Proofs.Ythmekhhfihjclbd.Tri
open Go.RowKit L1
set_option linter.unusedVariables false

theorem info_ReplStep : (Try.prog.info? 50).map (fun i => (i.zero, i.size, i.bytes)) = some (some (.agg #[.int .i64 0, .int .i64 0, .string ByteArray.empty]), 3, 32) := by kernel_rfl
set_option maxRecDepth 100000 in
set_option maxHeartbeats 400000 in
theorem toReplStep_any (x z : Int) (y : ByteArray) (w : World) :
    Calls Try.prog 24 #[.agg #[.int .i64 x, .int .i64 z, .string y]] w fun e w' => e = .returned (.agg #[.int .i64 x, .int .i64 z, .string y]) ∧ Below w.heap.size w w' := by
  go_enter Try.func24, Try.ntmps24
  go_wp2
  refine bodyPost_ret (v := .agg #[.int .i64 x, .int .i64 z, .string y]) (by simp [results, Try.f24, go_sem]) rfl ⟨rfl, ?_⟩
  exact (((Below.refl _ _).alloc (Nat.le_refl _) _).alloc (by simp) _).alloc (by simp; omega) _

/-- One round of the copy. -/
theorem copy_roundReplStep {w wr : World} {xs ys : List Tr} {m k : Nat} {x z : Int} {y : ByteArray} (hx : xs.getD k e3 = (x, z, y)) (hlt : k < m) (hm : xs.length = m) (hl : ys.length = m) (HX : ∀ j, j < k → ys.getD j e3 = xs.getD j e3)
    (hown : wr.ownsRow w.heap.size 50 3 (.slice (some ⟨w.heap.size, 0, none⟩) m m) m (flat3 ys)) (hb : Below w.heap.size w wr) :
    ∃ (k' : Nat) (ys' : List Tr), k' ≤ m ∧ Value.int .i64 ((k : Int) + 1) = .int .i64 k' ∧ ys'.length = m ∧ Hid (∀ j, j < k' → ys'.getD j e3 = xs.getD j e3) ∧
      (((wr.setCell ⟨w.heap.size, k * 3, none⟩ (.int .i64 x)).setCell ⟨w.heap.size, k * 3 + 1, none⟩ (.int .i64 z)).setCell ⟨w.heap.size, k * 3 + 2, none⟩ (.string y)).ownsRow w.heap.size 50 3 (.slice (some ⟨w.heap.size, 0, none⟩) m m) m (flat3 ys') ∧ Below w.heap.size w (((wr.setCell ⟨w.heap.size, k * 3, none⟩ (.int .i64 x)).setCell ⟨w.heap.size, k * 3 + 1, none⟩ (.int .i64 z)).setCell ⟨w.heap.size, k * 3 + 2, none⟩ (.string y)) := by
  have hst := (((hown.stored (k * 3) (.int .i64 x)).1.stored (k * 3 + 1) (.int .i64 z)).1.stored (k * 3 + 2) (.string y))
  have hb2 := ((hb.setCell (p := ⟨w.heap.size, k * 3, none⟩) (Nat.le_refl _) (.int .i64 x)).setCell (p := ⟨w.heap.size, k * 3 + 1, none⟩) (Nat.le_refl _) (.int .i64 z)).setCell (p := ⟨w.heap.size, k * 3 + 2, none⟩) (Nat.le_refl _) (.string y)
  refine ⟨k + 1, ys.set k (x, z, y), by omega, by simp, by simpa using hl, ?_, by rw [flat3_set]; exact hst.1, hb2⟩
  intro j hj
  by_cases e : j = k
  · subst e
    rw [hx]
    simp [List.getD, hl, hlt]
  · rw [← HX j (by omega)]
    simp [List.getD, Ne.symm e]

set_option maxRecDepth 100000 in
set_option maxHeartbeats 1000000 in
theorem toReplStepS_any (a : Option Addr) (xs : List Tr) (n cap : Nat) (w : World) (hn : xs.length = n) (hs : Sl3 w a xs) (hn2 : n ≤ 1048576) :
    Calls Try.prog 28 #[.slice a n cap] w fun e w' => e = .returned (.slice (some ⟨w.heap.size, 0, none⟩) n n) ∧
      w'.ownsRow w.heap.size 50 3 (.slice (some ⟨w.heap.size, 0, none⟩) n n) n (flat3 xs) ∧ Below w.heap.size w w' := by
  obtain ⟨i0, hi, hz0, hz1, hz2⟩ := info_parts info_ReplStep
  obtain ⟨w1, hmk, hown1, hg1⟩ := run_make_full (P := Try.prog) w w.heap.size 57 50 i0 (.agg #[.int .i64 0, .int .i64 0, .string ByteArray.empty]) 3 Try.underlying57 hi hz0 hz1 .i64 .i64 n (by rw [hz2]; omega) (by unfold maxLen; omega) (Nat.le_refl _)
  rw [made_3] at hown1
  have hb1 : Below w.heap.size w w1 := (Below.refl _ _).grown hg1 (Nat.le_refl _) (fun k hk => by cases hk)
  have HO := hide hown1
  have HS := hide hs
  have HN := hide hn
  clear hown1 hg1 hs hn
  go_enter Try.func28, Try.ntmps28
  go_wp2
  go_loopw [4] (fun i wr => ∃ (k : Nat) (ys : List Tr), k ≤ n ∧ i = .int .i64 k ∧ ys.length = n ∧ Hid (∀ j, j < k → ys.getD j e3 = xs.getD j e3) ∧
      wr.ownsRow w.heap.size 50 3 (.slice (some ⟨w.heap.size, 0, none⟩) n n) n (flat3 ys) ∧ Below w.heap.size w wr) (fun i _ => n - (intOf i).toNat)
  case atStart => exact ⟨0, List.replicate n e3, Nat.zero_le _, rfl, by simp, fun j hj => absurd hj (Nat.not_lt_zero _), HO, hb1⟩
  case round =>
    obtain ⟨k, ys, hk, rfl, hyl, HX, hown, hbel⟩ := hrel
    have HL := hide hyl
    clear hyl
    by_cases hlt : k < n
    · obtain ⟨b, off, rfl, hc0, he0, hd0⟩ := HS.out k (by rw [HN.out]; exact hlt)
      have hc := (hbel.cell (p := ⟨b, off + k * 3, none⟩) (blk_lt hc0)).trans hc0
      have he := (hbel.cell (p := ⟨b, off + k * 3 + 1, none⟩) (blk_lt he0)).trans he0
      have hd := (hbel.cell (p := ⟨b, off + k * 3 + 2, none⟩) (blk_lt hd0)).trans hd0
      have hltI : (k : Int) < (n : Int) := by omega
      obtain ⟨x, hx⟩ : ∃ x, x = (xs.getD k e3).1 := ⟨_, rfl⟩
      obtain ⟨z, hz⟩ : ∃ z, z = (xs.getD k e3).2.1 := ⟨_, rfl⟩
      obtain ⟨y, hy⟩ : ∃ y, y = (xs.getD k e3).2.2 := ⟨_, rfl⟩
      rw [← hx] at hc
      rw [← hz] at he
      rw [← hy] at hd
      have hxy : xs.getD k e3 = (x, z, y) := by rw [hx, hz, hy]
      have HXY := hide hxy
      have HO2 := hide hown
      have HB2 := hide hbel
      clear hc0 hd0 he0 hx hy hz hxy hown hbel
      go_wp2_with fail
      refine (toReplStep_any x z y _).mono ?_
      rintro e w2 ⟨rfl, hb2⟩
      have hown2 := own_below3 HO2.out hb2
      have hbel2 := HB2.out.trans (hb2.mono HB2.out.size)
      have hl0 : k * 3 < (flat3 ys).length := by rw [flat3_len, HL.out]; omega
      have hl1 : k * 3 + 1 < (flat3 ys).length := by rw [flat3_len, HL.out]; omega
      have hl2 : k * 3 + 2 < (flat3 ys).length := by rw [flat3_len, HL.out]; omega
      have hcl := hown2.cellAt (k * 3) (by have := HL.out; omega)
      have hcl1 := hown2.cellAt (k * 3 + 1) (by have := HL.out; omega)
      have hcl2 := hown2.cellAt (k * 3 + 2) (by have := HL.out; omega)
      have hfr := hown2.frozenAt (k * 3)
      have hfr1 := hown2.frozenAt (k * 3 + 1)
      have hfr2 := hown2.frozenAt (k * 3 + 2)
      obtain ⟨v, hv⟩ : ∃ v, w2.cell? ⟨w.heap.size, k * 3, none⟩ = some v := ⟨_, hcl.trans (List.getElem?_eq_getElem hl0)⟩
      obtain ⟨v1, hv1⟩ : ∃ v, w2.cell? ⟨w.heap.size, k * 3 + 1, none⟩ = some v := ⟨_, hcl1.trans (List.getElem?_eq_getElem hl1)⟩
      obtain ⟨v2, hv2⟩ : ∃ v, w2.cell? ⟨w.heap.size, k * 3 + 2, none⟩ = some v := ⟨_, hcl2.trans (List.getElem?_eq_getElem hl2)⟩
      have R := hide (copy_roundReplStep HXY.out hlt HN.out HL.out HX.out hown2 hbel2)
      clear hcl hcl1 hcl2 hl0 hl1 hl2 hown2 hbel2 hb2
      go_wp2
      go_roundw
      case rel => exact R.out
      case measure => simp [intOf]; omega
    · have e : ys = xs := list_same3 HN.out HL.out (fun j hj => HX.out j (by omega))
      subst e
      have hltI : ¬ (k : Int) < (n : Int) := by omega
      go_wp2
      go_ret
      exact ⟨rfl, hown, hbel⟩
end Go.Proofs.Ythmekhhfihjclbd.Tri
