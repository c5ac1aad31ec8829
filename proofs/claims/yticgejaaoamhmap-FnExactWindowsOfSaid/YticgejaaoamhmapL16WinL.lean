/-
  Windows in memory; contracts of the laws' own helpers: eqWindowS, markWindowS, heldWindowS.
-/
import Derived.Test.YticgejaaoamhmapL16WinR
import Derived.Test.YticgejaaoamhmapL16Law
import Derived.Test.YticgejaaoamhmapL16Mark
import Derived.Test.YticgejaaoamhmapL2Lists2
namespace Go.Proofs.Yticgejaaoamhmap.L16
open Go.RowKit L1
set_option linter.unusedVariables false

def eW : Wn := ⟨0, 0, 0, 0, 0⟩
/-- A window lies in memory from a place on. -/
structure AtW (w : World) (b o : Nat) (p : Wn) : Prop where
  f : w.cell? ⟨b, o, none⟩ = some (.int .i64 p.f)
  a : w.cell? ⟨b, o + 1, none⟩ = some (.int .i64 p.a)
  z : w.cell? ⟨b, o + 2, none⟩ = some (.int .i64 p.z)
  c : w.cell? ⟨b, o + 3, none⟩ = some (.int .i64 p.c)
  r : w.cell? ⟨b, o + 4, none⟩ = some (.int .i64 p.r)
theorem AtW.base {w w' : World} {b o B : Nat} {p : Wn} (h : AtW w b o p) (hb : Below B w w') (hB : b < B) : AtW w' b o p :=
  ⟨(hb.cell (p := ⟨b, o, none⟩) hB).trans h.f, (hb.cell (p := ⟨b, o + 1, none⟩) hB).trans h.a, (hb.cell (p := ⟨b, o + 2, none⟩) hB).trans h.z, (hb.cell (p := ⟨b, o + 3, none⟩) hB).trans h.c, (hb.cell (p := ⟨b, o + 4, none⟩) hB).trans h.r⟩
theorem AtW.below {w w' : World} {b o : Nat} {p : Wn} (h : AtW w b o p) (hb : Below w.heap.size w w') : AtW w' b o p := h.base hb (blk_lt h.f)
/-- Windows lie in memory from an address on. -/
def SlW (w : World) (a : Option Addr) (l : List Wn) : Prop := ∀ i, i < l.length → ∃ b off, a = some ⟨b, off, none⟩ ∧ AtW w b (off + i * 5) (l.getD i eW)
theorem SlW.below {w w' : World} {a : Option Addr} {xs : List Wn} (h : SlW w a xs) (hb : Below w.heap.size w w') : SlW w' a xs := fun i hi => by
  obtain ⟨b, off, ha, hc⟩ := h i hi
  exact ⟨b, off, ha, hc.below hb⟩
theorem slW_base {w w' : World} {a : Option Addr} {xs : List Wn} {base : Nat} (h : SlW w a xs) (hb : Below base w w') (hlt : ∀ x, a = some x → x.block < base) : SlW w' a xs := fun i hi => by
  obtain ⟨b, off, ha, hc⟩ := h i hi
  exact ⟨b, off, ha, hc.base hb (hlt ⟨b, off, none⟩ ha)⟩
theorem flatW_get : ∀ (l : List Wn) (i : Nat), i < l.length → (flatW l)[i * 5]? = some (.int .i64 (l.getD i eW).f) ∧ (flatW l)[i * 5 + 1]? = some (.int .i64 (l.getD i eW).a) ∧ (flatW l)[i * 5 + 2]? = some (.int .i64 (l.getD i eW).z) ∧ (flatW l)[i * 5 + 3]? = some (.int .i64 (l.getD i eW).c) ∧ (flatW l)[i * 5 + 4]? = some (.int .i64 (l.getD i eW).r)
  | [], i, h => by simp at h
  | p :: l, 0, _ => ⟨rfl, rfl, rfl, rfl, rfl⟩
  | p :: l, i + 1, h => by
    have := flatW_get l i (by simpa using h)
    have e1 : (i + 1) * 5 = i * 5 + 1 + 1 + 1 + 1 + 1 := by omega
    have e2 : (i + 1) * 5 + 1 = i * 5 + 1 + 1 + 1 + 1 + 1 + 1 := by omega
    have e3 : (i + 1) * 5 + 2 = i * 5 + 2 + 1 + 1 + 1 + 1 + 1 := by omega
    have e4 : (i + 1) * 5 + 3 = i * 5 + 3 + 1 + 1 + 1 + 1 + 1 := by omega
    have e5 : (i + 1) * 5 + 4 = i * 5 + 4 + 1 + 1 + 1 + 1 + 1 := by omega
    rw [e2, e3, e4, e5, e1]
    simpa only [flatW, List.getElem?_cons_succ, List.getD_cons_succ] using this
/-- One window written over. -/
def setW5 (c : List Value) (o : Nat) (p : Wn) : List Value := ((((c.set o (.int .i64 p.f)).set (o + 1) (.int .i64 p.a)).set (o + 2) (.int .i64 p.z)).set (o + 3) (.int .i64 p.c)).set (o + 4) (.int .i64 p.r)
theorem flatW_set : ∀ (l : List Wn) (i : Nat) (p : Wn), flatW (l.set i p) = setW5 (flatW l) (i * 5) p
  | [], _, _ => rfl
  | q :: l, 0, p => rfl
  | q :: l, i + 1, p => by
    have := flatW_set l i p
    have e1 : (i + 1) * 5 = i * 5 + 1 + 1 + 1 + 1 + 1 := by omega
    unfold setW5 at this ⊢
    rw [e1]
    have f2 : i * 5 + 1 + 1 + 1 + 1 + 1 + 2 = i * 5 + 2 + 1 + 1 + 1 + 1 + 1 := by omega
    have f3 : i * 5 + 1 + 1 + 1 + 1 + 1 + 3 = i * 5 + 3 + 1 + 1 + 1 + 1 + 1 := by omega
    have f4 : i * 5 + 1 + 1 + 1 + 1 + 1 + 4 = i * 5 + 4 + 1 + 1 + 1 + 1 + 1 := by omega
    rw [f2, f3, f4]
    simp only [List.set_cons_succ, flatW, this]
theorem own_formW {w : World} {base n : Nat} {v : Value} {l : List Wn} (h : w.ownsRow base 52 5 v n (flatW l)) : ∃ a cap, v = .slice a n cap ∧ SlW w a l ∧ l.length = n := by
  have hl := h.1
  rw [flatW_len] at hl
  have hl' : l.length = n := by omega
  rcases h.2 with ⟨hv, h0⟩ | ⟨g, cap, cur, hv, _⟩
  · subst h0
    exact ⟨none, 0, hv, fun i hi => by omega, hl'⟩
  · subst hv
    refine ⟨_, cap, rfl, fun i hi => ?_, hl'⟩
    obtain ⟨f1, f2, f3, f4, f5⟩ := flatW_get l i hi
    have h1 := h.cells (g := g) rfl (i * 5) _ f1
    have h2 := h.cells (g := g) rfl (i * 5 + 1) _ f2
    have h3 := h.cells (g := g) rfl (i * 5 + 2) _ f3
    have h4 := h.cells (g := g) rfl (i * 5 + 3) _ f4
    have h5 := h.cells (g := g) rfl (i * 5 + 4) _ f5
    rw [add_at16] at h1 h2 h3 h4 h5
    exact ⟨g, 0, rfl, by simpa using h1, by simpa using h2, by simpa using h3, by simpa using h4, by simpa using h5⟩
theorem own_slW {w : World} {base n cap : Nat} {a : Option Addr} {l : List Wn} (h : w.ownsRow base 52 5 (.slice a n cap) n (flatW l)) : SlW w a l := by
  obtain ⟨b, q, e, s, _⟩ := own_formW h
  cases e
  exact s
theorem own_belowWn {w w' : World} {base n : Nat} {v : Value} {ys : List Value} (h : w.ownsRow base 52 5 v n ys) (hb : Below w.heap.size w w') : w'.ownsRow base 52 5 v n ys := by
  refine ⟨h.1, ?_⟩
  rcases h.2 with h0 | ⟨g, cap, cur, rfl, hbg, hg, r⟩
  · exact .inl h0
  · exact .inr ⟨g, cap, cur, rfl, hbg, by rw [hb.block g (Array.getElem?_eq_some_iff.1 hg).1]; exact hg, r⟩
theorem list_sameW {xs ys : List Wn} {m : Nat} (h1 : xs.length = m) (h2 : ys.length = m) (h : ∀ j, j < m → ys.getD j eW = xs.getD j eW) : ys = xs := by
  apply List.ext_getElem?
  intro j
  by_cases hj : j < m
  · have h := h j hj
    simp only [List.getD, List.getElem?_eq_getElem (show j < ys.length by omega), List.getElem?_eq_getElem (show j < xs.length by omega), Option.getD_some] at h
    rw [List.getElem?_eq_getElem (show j < ys.length by omega), List.getElem?_eq_getElem (show j < xs.length by omega), h]
  · rw [List.getElem?_eq_none (by omega), List.getElem?_eq_none (by omega)]
set_option maxRecDepth 100000 in
set_option maxHeartbeats 1000000 in
theorem eqWindow_same (k a z c r : Int) (w : World) :
    Calls Try.prog 38 #[.agg #[.int .i64 k, .int .i64 a, .int .i64 z, .int .i64 c, .int .i64 r], .agg #[.int .i64 k, .int .i64 a, .int .i64 z, .int .i64 c, .int .i64 r]] w fun e w' => e = .returned (.bool true) ∧ Below w.heap.size w w' := by
  go_enter Try.func38, Try.ntmps38
  go_wp2
  go_ret
  exact ⟨rfl, ((Below.refl _ _).alloc (Nat.le_refl _) _).alloc (by simp) _⟩
theorem keepW {wa wb : World} {B1 O1 B2 O2 N : Nat} {v0 v1 v2 v3 v4 u0 u1 u2 u3 u4 : Value} {W : World} (h : (wa.cell? ⟨B1, O1, none⟩ = some v0 ∧ wa.cell? ⟨B1, O1 + 1, none⟩ = some v1 ∧ wa.cell? ⟨B1, O1 + 2, none⟩ = some v2 ∧ wa.cell? ⟨B1, O1 + 3, none⟩ = some v3 ∧ wa.cell? ⟨B1, O1 + 4, none⟩ = some v4 ∧ wa.cell? ⟨B2, O2, none⟩ = some u0 ∧ wa.cell? ⟨B2, O2 + 1, none⟩ = some u1 ∧ wa.cell? ⟨B2, O2 + 2, none⟩ = some u2 ∧ wa.cell? ⟨B2, O2 + 3, none⟩ = some u3 ∧ wa.cell? ⟨B2, O2 + 4, none⟩ = some u4) ∧ Below N W wa) (hb : Below wa.heap.size wa wb) (hN : N ≤ W.heap.size) :
    (wb.cell? ⟨B1, O1, none⟩ = some v0 ∧ wb.cell? ⟨B1, O1 + 1, none⟩ = some v1 ∧ wb.cell? ⟨B1, O1 + 2, none⟩ = some v2 ∧ wb.cell? ⟨B1, O1 + 3, none⟩ = some v3 ∧ wb.cell? ⟨B1, O1 + 4, none⟩ = some v4 ∧ wb.cell? ⟨B2, O2, none⟩ = some u0 ∧ wb.cell? ⟨B2, O2 + 1, none⟩ = some u1 ∧ wb.cell? ⟨B2, O2 + 2, none⟩ = some u2 ∧ wb.cell? ⟨B2, O2 + 3, none⟩ = some u3 ∧ wb.cell? ⟨B2, O2 + 4, none⟩ = some u4) ∧ Below N W wb := by
  obtain ⟨⟨h1, h2, h3, h4, h5, h6, h7, h8, h9, h10⟩, h11⟩ := h
  exact ⟨⟨(hb.cell (p := ⟨B1, O1, none⟩) (blk_lt h1)).trans h1, (hb.cell (p := ⟨B1, O1 + 1, none⟩) (blk_lt h2)).trans h2, (hb.cell (p := ⟨B1, O1 + 2, none⟩) (blk_lt h3)).trans h3, (hb.cell (p := ⟨B1, O1 + 3, none⟩) (blk_lt h4)).trans h4, (hb.cell (p := ⟨B1, O1 + 4, none⟩) (blk_lt h5)).trans h5, (hb.cell (p := ⟨B2, O2, none⟩) (blk_lt h6)).trans h6, (hb.cell (p := ⟨B2, O2 + 1, none⟩) (blk_lt h7)).trans h7, (hb.cell (p := ⟨B2, O2 + 2, none⟩) (blk_lt h8)).trans h8, (hb.cell (p := ⟨B2, O2 + 3, none⟩) (blk_lt h9)).trans h9, (hb.cell (p := ⟨B2, O2 + 4, none⟩) (blk_lt h10)).trans h10⟩, h11.trans (hb.mono (Nat.le_trans hN h11.size))⟩
set_option maxRecDepth 100000 in
set_option maxHeartbeats 2000000 in
theorem eqWindowS_same (a b : Option Addr) (xs : List Wn) (n c1 c2 : Nat) (w : World) (hn : xs.length = n) (ha : SlW w a xs) (hb : SlW w b xs) (hn2 : n ≤ 1048576) :
    Calls Try.prog 17 #[.slice a n c1, .slice b n c2] w fun e w' => e = .returned (.bool true) ∧ Below w.heap.size w w' := by
  have HA := hide ha
  have HB := hide hb
  have HN := hide hn
  clear ha hb hn
  go_enter Try.func17, Try.ntmps17
  go_wp2
  go_loopw [5] (fun i wr => ∃ k : Nat, k ≤ n ∧ i = .int .i64 k ∧ Below w.heap.size w wr) (fun i _ => n - (intOf i).toNat)
  case atStart => exact ⟨0, Nat.zero_le _, rfl, Below.refl _ _⟩
  case round =>
    obtain ⟨k, hk, rfl, hbel⟩ := hrel
    by_cases hlt : k < n
    · obtain ⟨b1, o1, rfl, hA0⟩ := HA.out k (by rw [HN.out]; exact hlt)
      obtain ⟨b2, o2, rfl, hB0⟩ := HB.out k (by rw [HN.out]; exact hlt)
      have hA := hA0.base hbel (blk_lt hA0.f)
      have hB := hB0.base hbel (blk_lt hB0.f)
      obtain ⟨⟨pf, pa, pz, pc, pr⟩, hp⟩ : ∃ p, p = xs.getD k eW := ⟨_, rfl⟩
      rw [← hp] at hA hB
      have g0 := hA.f
      have g1 := hA.a
      have g2 := hA.z
      have g3 := hA.c
      have g4 := hA.r
      have g5 := hB.f
      have g6 := hB.a
      have g7 := hB.z
      have g8 := hB.c
      have g9 := hB.r
      simp only at g0 g1 g2 g3 g4 g5 g6 g7 g8 g9
      have hltI : (k : Int) < (n : Int) := by omega
      have hk0 : (0 : Int) ≤ (k : Int) := by omega
      clear hA0 hB0 hA hB hp
      go_wp2
      go_region_held3 (fun wx => (wx.cell? ⟨b1, o1 + k * 5, none⟩ = some (.int .i64 pf) ∧ wx.cell? ⟨b1, o1 + k * 5 + 1, none⟩ = some (.int .i64 pa) ∧ wx.cell? ⟨b1, o1 + k * 5 + 2, none⟩ = some (.int .i64 pz) ∧ wx.cell? ⟨b1, o1 + k * 5 + 3, none⟩ = some (.int .i64 pc) ∧ wx.cell? ⟨b1, o1 + k * 5 + 4, none⟩ = some (.int .i64 pr) ∧ wx.cell? ⟨b2, o2 + k * 5, none⟩ = some (.int .i64 pf) ∧ wx.cell? ⟨b2, o2 + k * 5 + 1, none⟩ = some (.int .i64 pa) ∧ wx.cell? ⟨b2, o2 + k * 5 + 2, none⟩ = some (.int .i64 pz) ∧ wx.cell? ⟨b2, o2 + k * 5 + 3, none⟩ = some (.int .i64 pc) ∧ wx.cell? ⟨b2, o2 + k * 5 + 4, none⟩ = some (.int .i64 pr)) ∧ Below wr.heap.size wr wx) (first | exact ⟨⟨g0, g1, g2, g3, g4, g5, g6, g7, g8, g9⟩, (Below.refl _ _).drew⟩ | exact keepW (by assumption) (by assumption) (Nat.le_refl _)) ((go_at_call 38; refine (eqWindow_same pf pa pz pc pr _).mono ?_; rintro e w1 ⟨rfl, hb⟩))
      rename_i hHeld
      have B1 := hide (hbel.trans (hHeld.2.mono hbel.size))
      clear hHeld
      go_wp2
      go_roundw
      case rel => exact ⟨k + 1, by omega, by go_num, B1.out⟩
      case measure => simp [intOf]; omega
    · have hltI : ¬ (k : Int) < (n : Int) := by omega
      go_wp2
      go_ret
      exact ⟨rfl, hbel⟩
def mkW (n : Nat) : List Wn := (List.range n).map fun i : Nat => ⟨1 + 5 * (i : Int), 1 + 5 * (i : Int) + 1, 1 + 5 * (i : Int) + 1 + 1, 1 + 5 * (i : Int) + 1 + 1 + 1, 1 + 5 * (i : Int) + 1 + 1 + 1 + 1⟩
theorem mkW_len (n : Nat) : (mkW n).length = n := by simp [mkW]
theorem mkW_get (n j : Nat) (h : j < n) : (mkW n).getD j eW = ⟨1 + 5 * (j : Int), 1 + 5 * (j : Int) + 1, 1 + 5 * (j : Int) + 1 + 1, 1 + 5 * (j : Int) + 1 + 1 + 1, 1 + 5 * (j : Int) + 1 + 1 + 1 + 1⟩ := by
  simp [mkW, List.getD, h]
set_option maxRecDepth 100000 in
set_option maxHeartbeats 2000000 in
theorem markWindowS_all (base : Nat) (v : Value) (l : List Wn) (n : Nat) (w : World) (hn2 : n ≤ 1048576) (ho : w.ownsRow base 52 5 v n (flatW l)) :
    Calls Try.prog 18 #[v, .int .i64 1] w fun e w' => e = .returned (.int .i64 (1 + 5 * (n : Int))) ∧ w'.ownsRow base 52 5 v n (flatW (mkW n)) ∧ Below base w w' ∧ w.grownBy w' v.ownBlock := by
  obtain ⟨a, cap0, rfl, _, hl0⟩ := own_formW ho
  by_cases hn0 : n = 0
  · subst hn0
    have hx : l = [] := List.eq_nil_of_length_eq_zero hl0
    subst hx
    have HO := hide ho
    clear ho hl0
    go_enter Try.func18, Try.ntmps18
    go_wp2
    go_loop [1, 5] (fun k i => k = .int .i64 1 ∧ i = .int .i64 0) (fun _ _ => 0)
    case atStart => exact ⟨rfl, rfl⟩
    case round =>
      obtain ⟨rfl, rfl⟩ := hrel
      go_wp2
      go_ret
      exact ⟨rfl, HO.out, Below.refl _ _, World.grownBy.refl _ _⟩
  · obtain ⟨g, cap, e⟩ : ∃ g cap, Value.slice a n cap0 = .slice (some ⟨g, 0, none⟩) n cap := by
      rcases ho.2 with ⟨_, h0⟩ | ⟨g, cap, cur, hv, _⟩
      · omega
      · exact ⟨g, cap, hv⟩
    cases e
    have hge := (ho.lt g rfl).1
    have HO := hide ho
    have HL := hide hl0
    clear ho hl0 hn0
    go_enter Try.func18, Try.ntmps18
    go_wp2
    go_loopw [1, 5] (fun k i wr => ∃ (j : Nat) (ys : List Wn), j ≤ n ∧ i = .int .i64 j ∧ k = .int .i64 (1 + 5 * (j : Int)) ∧ ys.length = n ∧ Hid (∀ t, t < j → ys.getD t eW = (mkW n).getD t eW) ∧
        wr.ownsRow base 52 5 (.slice (some ⟨g, 0, none⟩) n cap0) n (flatW ys) ∧ Below base w wr ∧ w.grownBy wr (some g)) (fun _ i _ => n - (intOf i).toNat)
    case atStart => exact ⟨0, l, by omega, rfl, rfl, HL.out, fun t ht => absurd ht (Nat.not_lt_zero _), HO.out, Below.refl _ _, World.grownBy.refl _ _⟩
    case round =>
      obtain ⟨j, ys, hj, rfl, rfl, hyl, HY, hown, hbel, hgr⟩ := hrel
      by_cases hlt : j < n
      · have hltI : (j : Int) < (n : Int) := by omega
        have hlf : (flatW ys).length = n * 5 := by rw [flatW_len, hyl]
        have hcl0 := hown.cellAt (j * 5) (by omega)
        have hfr0 := hown.frozenAt (j * 5)
        obtain ⟨u0, hu0⟩ : ∃ u, wr.cell? ⟨g, j * 5, none⟩ = some u := ⟨_, hcl0.trans (List.getElem?_eq_getElem (by omega))⟩
        have hcl1 := hown.cellAt (j * 5 + 1) (by omega)
        have hfr1 := hown.frozenAt (j * 5 + 1)
        obtain ⟨u1, hu1⟩ : ∃ u, wr.cell? ⟨g, j * 5 + 1, none⟩ = some u := ⟨_, hcl1.trans (List.getElem?_eq_getElem (by omega))⟩
        have hcl2 := hown.cellAt (j * 5 + 2) (by omega)
        have hfr2 := hown.frozenAt (j * 5 + 2)
        obtain ⟨u2, hu2⟩ : ∃ u, wr.cell? ⟨g, j * 5 + 2, none⟩ = some u := ⟨_, hcl2.trans (List.getElem?_eq_getElem (by omega))⟩
        have hcl3 := hown.cellAt (j * 5 + 3) (by omega)
        have hfr3 := hown.frozenAt (j * 5 + 3)
        obtain ⟨u3, hu3⟩ : ∃ u, wr.cell? ⟨g, j * 5 + 3, none⟩ = some u := ⟨_, hcl3.trans (List.getElem?_eq_getElem (by omega))⟩
        have hcl4 := hown.cellAt (j * 5 + 4) (by omega)
        have hfr4 := hown.frozenAt (j * 5 + 4)
        obtain ⟨u4, hu4⟩ : ∃ u, wr.cell? ⟨g, j * 5 + 4, none⟩ = some u := ⟨_, hcl4.trans (List.getElem?_eq_getElem (by omega))⟩
        have hs0 := hown.stored (j * 5) (.int .i64 (1 + 5 * (j : Int)))
        have hs1 := hs0.1.stored (j * 5 + 1) (.int .i64 (1 + 5 * (j : Int) + 1))
        have hs2 := hs1.1.stored (j * 5 + 2) (.int .i64 (1 + 5 * (j : Int) + 1 + 1))
        have hs3 := hs2.1.stored (j * 5 + 3) (.int .i64 (1 + 5 * (j : Int) + 1 + 1 + 1))
        have hs4 := hs3.1.stored (j * 5 + 4) (.int .i64 (1 + 5 * (j : Int) + 1 + 1 + 1 + 1))
        have R : ∃ (j' : Nat) (ys' : List Wn), j' ≤ n ∧ Value.int .i64 ((j : Int) + 1) = .int .i64 j' ∧ Value.int .i64 (1 + 5 * (j : Int) + 1 + 1 + 1 + 1 + 1) = .int .i64 (1 + 5 * (j' : Int)) ∧ ys'.length = n ∧ Hid (∀ t, t < j' → ys'.getD t eW = (mkW n).getD t eW) ∧
            (((((wr.setCell ⟨g, j * 5, none⟩ (.int .i64 (1 + 5 * (j : Int)))).setCell ⟨g, j * 5 + 1, none⟩ (.int .i64 (1 + 5 * (j : Int) + 1))).setCell ⟨g, j * 5 + 2, none⟩ (.int .i64 (1 + 5 * (j : Int) + 1 + 1))).setCell ⟨g, j * 5 + 3, none⟩ (.int .i64 (1 + 5 * (j : Int) + 1 + 1 + 1))).setCell ⟨g, j * 5 + 4, none⟩ (.int .i64 (1 + 5 * (j : Int) + 1 + 1 + 1 + 1))).ownsRow base 52 5 (.slice (some ⟨g, 0, none⟩) n cap0) n (flatW ys') ∧ Below base w (((((wr.setCell ⟨g, j * 5, none⟩ (.int .i64 (1 + 5 * (j : Int)))).setCell ⟨g, j * 5 + 1, none⟩ (.int .i64 (1 + 5 * (j : Int) + 1))).setCell ⟨g, j * 5 + 2, none⟩ (.int .i64 (1 + 5 * (j : Int) + 1 + 1))).setCell ⟨g, j * 5 + 3, none⟩ (.int .i64 (1 + 5 * (j : Int) + 1 + 1 + 1))).setCell ⟨g, j * 5 + 4, none⟩ (.int .i64 (1 + 5 * (j : Int) + 1 + 1 + 1 + 1))) ∧ w.grownBy (((((wr.setCell ⟨g, j * 5, none⟩ (.int .i64 (1 + 5 * (j : Int)))).setCell ⟨g, j * 5 + 1, none⟩ (.int .i64 (1 + 5 * (j : Int) + 1))).setCell ⟨g, j * 5 + 2, none⟩ (.int .i64 (1 + 5 * (j : Int) + 1 + 1))).setCell ⟨g, j * 5 + 3, none⟩ (.int .i64 (1 + 5 * (j : Int) + 1 + 1 + 1))).setCell ⟨g, j * 5 + 4, none⟩ (.int .i64 (1 + 5 * (j : Int) + 1 + 1 + 1 + 1))) (some g) := by
          refine ⟨j + 1, ys.set j ⟨1 + 5 * (j : Int), 1 + 5 * (j : Int) + 1, 1 + 5 * (j : Int) + 1 + 1, 1 + 5 * (j : Int) + 1 + 1 + 1, 1 + 5 * (j : Int) + 1 + 1 + 1 + 1⟩, by omega, by simp, by simp; omega, by simpa using hyl, ?_, by rw [flatW_set]; exact hs4.1, (((((hbel.setCell (p := ⟨g, j * 5, none⟩) hge (.int .i64 (1 + 5 * (j : Int)))).setCell (p := ⟨g, j * 5 + 1, none⟩) hge (.int .i64 (1 + 5 * (j : Int) + 1))).setCell (p := ⟨g, j * 5 + 2, none⟩) hge (.int .i64 (1 + 5 * (j : Int) + 1 + 1))).setCell (p := ⟨g, j * 5 + 3, none⟩) hge (.int .i64 (1 + 5 * (j : Int) + 1 + 1 + 1))).setCell (p := ⟨g, j * 5 + 4, none⟩) hge (.int .i64 (1 + 5 * (j : Int) + 1 + 1 + 1 + 1))), hgr.trans (hs0.2.trans (hs1.2.trans (hs2.2.trans (hs3.2.trans hs4.2))))⟩
          intro t ht
          by_cases e : t = j
          · subst e
            rw [mkW_get n t (by omega)]
            simp [List.getD, hyl, hlt]
          · rw [← HY.out t (by omega)]
            simp [List.getD, Ne.symm e]
        have HR := hide R
        clear hcl0 hcl1 hcl2 hcl3 hcl4 hs0 hs1 hs2 hs3 hs4 R hyl hlf
        go_wp2
        go_roundw
        case rel => exact HR.out
        case measure => simp [intOf]; omega
      · obtain rfl : j = n := by omega
        have e : ys = mkW j := list_sameW (mkW_len j) hyl (fun t ht => HY.out t ht)
        subst e
        have hltI : ¬ (j : Int) < (j : Int) := by omega
        clear hyl
        go_wp2
        go_ret
        exact ⟨rfl, hown, hbel, hgr⟩
set_option maxRecDepth 100000 in
set_option maxHeartbeats 2000000 in
theorem heldWindowS_any (a : Option Addr) (n cap : Nat) (w : World) (hn2 : n ≤ 1048576) (hs : SlW w a (mkW n)) :
    Calls Try.prog 19 #[.slice a n cap, .int .i64 1] w fun e w' => e = .returned (.int .i64 (1 + 5 * (n : Int))) ∧ Below w.heap.size w w' := by
  have HS := hide hs
  clear hs
  go_enter Try.func19, Try.ntmps19
  go_wp2
  go_loop [1, 5] (fun k i => ∃ j : Nat, j ≤ n ∧ i = .int .i64 j ∧ k = .int .i64 (1 + 5 * (j : Int))) (fun _ i => n - (intOf i).toNat)
  case atStart => exact ⟨0, by omega, rfl, rfl⟩
  case round =>
    obtain ⟨j, hj, rfl, rfl⟩ := hrel
    by_cases hlt : j < n
    · obtain ⟨b, off, rfl, hA⟩ := HS.out j (by rw [mkW_len]; exact hlt)
      rw [mkW_get n j hlt] at hA
      obtain ⟨c0, c1, c2, c3, c4⟩ := hA
      simp only at c0 c1 c2 c3 c4
      have hltI : (j : Int) < (n : Int) := by omega
      go_wp2
      go_round
      case rel => exact ⟨j + 1, by omega, by go_num, by simp; omega⟩
      case measure => simp [intOf]; omega
    · have hltI : ¬ (j : Int) < (n : Int) := by omega
      obtain rfl : j = n := by omega
      go_wp2
      go_ret
      exact ⟨rfl, Below.refl _ _⟩
end Go.Proofs.Yticgejaaoamhmap.L16
