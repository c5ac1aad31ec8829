/-
  Plain mathematics of cuts of events. Nothing of Go stands here.
  Arrays of ints in a block of their own. Nothing of the program's text is proved here.
  Clocks as arrays; contracts: impl.joinClocks, isAtMost, isLess.
  Clocks of events in memory.
  Contract: impl.clocksOf.
  Contracts: impl.isAtMost, isLess.
  Contract: impl.CameFirst.
  Contract: spec.GoodEvents tells whether events are good.
-/
import Derived.Test.YtkfnejiiancmhadBundle1
import Derived.Deep.DeepCutAuto
import Derived.RegionTactic
import Derived.BigRegion
import Derived.Deep.QuietTactic
import Derived.BigQuiet
import Derived.Deep.RegionHeld3
import Derived.Maps.AppendAt
import Derived.Deep.RegionWith
import Derived.ChangeKeysEq
import Derived.Laws.StructEq
import Derived.Test.YtkfnejiiancmhadBundle2
namespace Go.Proofs.Ytkfnejiiancmhad.L11
set_option linter.unusedVariables false

/-- Of what each event of a cut heard of is in it. -/
def ClS (l : List Ev) (u : Int → Int) : Prop := ∀ k, k < l.length → cnt l (nd l k) (k + 1) ≤ u (nd l k) → 0 ≤ fr l k → cnt l (nd l (fr l k).toNat) ((fr l k).toNat + 1) ≤ u (nd l (fr l k).toNat)
/-- The clock of each event of a cut is in it. -/
def ClI (l : List Ev) (u : Int → Int) : Prop := ∀ k, k < l.length → clk l k (nd l k) ≤ u (nd l k) → ∀ i : Nat, i < 5 → clk l k (i : Int) ≤ u (i : Int)
theorem cl_iff {N : Int} {l : List Ev} (hg : GoodV N l) (u : Int → Int) (h0 : ∀ i : Nat, i < 5 → 0 ≤ u (i : Int)) : ClI l u ↔ ClS l u := by
  have h5 := hg.2.1
  constructor
  · intro h k hk hc hf
    have hv := hg.2.2.2 k hk
    have hfk : fr l k < k := hv.2.2.2.1
    have hf2 := hg.2.2.2 (fr l k).toNat (by omega)
    have h1 := h k hk (by rw [clk_own]; exact hc) (nd l (fr l k).toNat).toNat (by have := hf2.1; have := hf2.2.1; omega)
    have e : ((nd l (fr l k).toNat).toNat : Int) = nd l (fr l k).toNat := by have := hf2.1; omega
    rw [e] at h1
    have h2 : Par l (fr l k).toNat k := .inr ⟨by omega, by omega⟩
    have h3 := h2.le (nd l (fr l k).toNat)
    rw [clk_own] at h3
    omega
  · intro h k
    induction k using Nat.strongRecOn with
    | ind k ih =>
      intro hk hc i hi
      have hv := hg.2.2.2 k hk
      by_cases e : (i : Int) = nd l k
      · rw [e]; exact hc
      · rw [clk_two, if_neg e]
        have h1 : cP l k (i : Int) ≤ u (i : Int) := by
          unfold cP clkO
          split
          · rename_i hp
            have hpl := pri_lt l (nd l k) k
            have hpn := pri_nd l (nd l k) k hp
            obtain ⟨p, hpe⟩ : ∃ p : Nat, pri l (nd l k) k = (p : Int) := ⟨(pri l (nd l k) k).toNat, by omega⟩
            rw [hpe] at hpn hpl ⊢
            have hpn2 : nd l p = nd l k := hpn
            refine ih p (by omega) (by omega) ?_ i hi
            rw [clk_own, hpn2]
            rw [clk_own] at hc
            exact Int.le_trans (cnt_mono l _ (by omega)) hc
          · exact h0 i hi
        have h2 : cF l k (i : Int) ≤ u (i : Int) := by
          unfold cF
          split
          · rename_i hf
            refine ih _ (by omega) (by omega) ?_ i hi
            rw [clk_own]
            exact h k hk (by rw [← clk_own]; exact hc) hf.1
          · exact h0 i hi
        omega
theorem anc_cE {N : Int} {l : List Ev} (hg : GoodV N l) (a b : Nat) (ha : a < l.length) (hb : b < l.length) :
    ((∀ i : Nat, i < 5 → clk l a (i : Int) ≤ clk l b (i : Int)) ∧ ¬ ∀ i : Nat, i < 5 → clk l a (i : Int) = clk l b (i : Int)) ↔ Anc l a b := by
  have h5 := hg.2.1
  have hva := hg.2.2.2 a ha
  have hvb := hg.2.2.2 b hb
  constructor
  · rintro ⟨h1, h2⟩
    have h3 := h1 (nd l a).toNat (by have := hva.1; have := hva.2.1; omega)
    have e : ((nd l a).toNat : Int) = nd l a := by have := hva.1; omega
    rw [e, clk_own] at h3
    rcases anc_of l b a h3 with rfl | h
    · exact absurd (fun i _ => rfl) h2
    · exact h
  · intro h
    refine ⟨fun i _ => h.le i, fun h2 => ?_⟩
    have h3 := anc_own_lt h
    have h4 := h2 (nd l b).toNat (by have := hvb.1; have := hvb.2.1; omega)
    have e : ((nd l b).toNat : Int) = nd l b := by have := hvb.1; omega
    rw [e] at h4
    omega
end Go.Proofs.Ytkfnejiiancmhad.L11

namespace Go.Proofs.Ytkfnejiiancmhad.Own
open Go.RowKit L1
set_option linter.unusedVariables false

/-- A function with another value at one place. -/
def updI (E : Nat → Int) (i : Nat) (v : Int) : Nat → Int := fun k => if k = i then v else E k
theorem updI_self (E : Nat → Int) (i : Nat) (v : Int) : updI E i v i = v := by simp [updI]
theorem updI_ne (E : Nat → Int) (i : Nat) (v : Int) (k : Nat) (h : k ≠ i) : updI E i v k = E k := by simp [updI, h]
/-- The cells of an array. -/
def lA (n : Nat) (E : Nat → Int) : List Value := (List.range n).map fun i => .int .i64 (E i)
/-- An array lies in a block. -/
abbrev Arr (t : TypeId) (n : Nat) (w : World) (base g : Nat) (E : Nat → Int) : Prop := w.ownsRow base t 1 (.slice (some ⟨g, 0, none⟩) n n) n (lA n E)
theorem lA_get (n : Nat) (E : Nat → Int) (i : Nat) (h : i < n) : (lA n E)[i]? = some (.int .i64 (E i)) := by
  simp [lA, h]
theorem lA_upd (n : Nat) (E : Nat → Int) (i : Nat) (v : Int) : (lA n E).set i (.int .i64 v) = lA n (updI E i v) := by
  apply List.ext_getElem?
  intro j
  by_cases hj : j < n
  · rw [lA_get _ _ j hj]
    by_cases e : i = j
    · subst e
      rw [List.getElem?_set_self (by simp [lA, hj]), updI_self]
    · rw [List.getElem?_set_ne e, lA_get _ _ j hj, updI_ne _ _ _ _ (Ne.symm e)]
  · rw [List.getElem?_eq_none (by simp [lA]; omega), List.getElem?_eq_none (by simp [lA]; omega)]
theorem lA_congr (n : Nat) (E F : Nat → Int) (h : ∀ i, i < n → E i = F i) : lA n E = lA n F := by
  apply List.ext_getElem?
  intro j
  by_cases hj : j < n
  · rw [lA_get _ _ j hj, lA_get _ _ j hj, h j hj]
  · rw [List.getElem?_eq_none (by simp [lA]; omega), List.getElem?_eq_none (by simp [lA]; omega)]
section
variable {t : TypeId} {n : Nat} {w w' : World} {base g : Nat} {E : Nat → Int}
theorem arr_new (t : TypeId) (n : Nat) (w : World) (g base : Nat) (hg : w.heap.size = g) (hb : base ≤ g) (hn : n ≤ 1048576) (E : Nat → Int) (cs : Array Value) (hcs : cs.toList = lA n E) : Arr t n (w.alloc (.cells cs t)) base g E := by
  subst hg
  have hl : cs.size = n := by
    have : cs.toList.length = n := by rw [hcs]; simp [lA]
    simpa using this
  exact ⟨by simp [lA], .inr ⟨w.heap.size, n, cs, rfl, hb, by show (w.heap.push _)[w.heap.size]? = _; exact Array.getElem?_push_size, Nat.le_refl _, by unfold maxLen; omega, by rw [hl]; omega, by rw [hcs]; exact List.take_of_length_le (by simp [lA])⟩⟩
theorem Arr.cell (h : Arr t n w base g E) (i : Nat) (hi : i < n) : w.cell? ⟨g, i, none⟩ = some (.int .i64 (E i)) := (h.cellAt i (by omega)).trans (lA_get n E i hi)
theorem Arr.set (h : Arr t n w base g E) (i : Nat) (v : Int) : Arr t n (w.setCell ⟨g, i, none⟩ (.int .i64 v)) base g (updI E i v) := by
  have := (h.stored i (.int .i64 v)).1
  rw [lA_upd] at this
  exact this
theorem Arr.keep {g' : Nat} (h : Arr t n w base g E) (i : Nat) (u : Value) (hne : g ≠ g') : Arr t n (w.setCell ⟨g', i, none⟩ u) base g E := by
  refine ⟨h.1, ?_⟩
  rcases h.2 with ⟨h0, _⟩ | ⟨q, cap, cur, hv, hb, hh, rest⟩
  · cases h0
  · cases hv
    exact .inr ⟨g, n, cur, rfl, hb, by rw [Below.heap_setCell w ⟨g', i, none⟩ u g hne]; exact hh, rest⟩
theorem Arr.drew (h : Arr t n w base g E) : Arr t n w.drew base g E := h
theorem Arr.lt (h : Arr t n w base g E) : g < w.heap.size := (World.ownsRow.lt h g rfl).2
theorem Arr.congr {F : Nat → Int} (h : Arr t n w base g E) (he : ∀ i, i < n → E i = F i) : Arr t n w base g F := by
  have := h
  unfold Arr at *
  rw [lA_congr n E F he] at this
  exact this
theorem Arr.below (h : Arr t n w base g E) (hb : Below w.heap.size w w') : Arr t n w' base g E := by
  refine ⟨h.1, ?_⟩
  rcases h.2 with h0 | ⟨q, cap, cur, hv, hbg, hg, r⟩
  · exact .inl h0
  · cases hv
    exact .inr ⟨g, _, cur, rfl, hbg, by rw [hb.block g (Array.getElem?_eq_some_iff.1 hg).1]; exact hg, r⟩
theorem Arr.alloc (h : Arr t n w base g E) (o) : Arr t n (w.alloc o) base g E := h.below ((Below.refl _ _).alloc (Nat.le_refl _) _)
end
end Go.Proofs.Ytkfnejiiancmhad.Own

namespace Go.Proofs.Ytkfnejiiancmhad.L11
open Go.RowKit L1 Own
set_option linter.unusedVariables false

/-- A clock as a value. -/
abbrev cv (E : Nat → Int) : Value := .agg #[.int .i64 (E 0), .int .i64 (E 1), .int .i64 (E 2), .int .i64 (E 3), .int .i64 (E 4)]
/-- A clock lies in a block. -/
abbrev Clk (w : World) (base g : Nat) (E : Nat → Int) : Prop := Arr 112 5 w base g E
theorem clk_new (w : World) (g base : Nat) (hg : w.heap.size = g) (hb : base ≤ g) (E : Nat → Int) : Clk (w.alloc (.cells #[.int .i64 (E 0), .int .i64 (E 1), .int .i64 (E 2), .int .i64 (E 3), .int .i64 (E 4)] 112)) base g E := arr_new _ 5 w g base hg hb (by omega) E _ rfl
theorem clk_zero (w : World) (g base : Nat) (hg : w.heap.size = g) (hb : base ≤ g) : Clk (w.alloc (.cells #[.int .i64 0, .int .i64 0, .int .i64 0, .int .i64 0, .int .i64 0] 112)) base g (fun _ => 0) := arr_new _ 5 w g base hg hb (by omega) _ _ rfl
/-- Three clocks in memory, and nothing older turned. -/
structure K3 (w wr : World) (A B C : Nat → Int) : Prop where
  a : Clk wr w.heap.size w.heap.size A
  b : Clk wr w.heap.size (w.heap.size + 1) B
  c : Clk wr w.heap.size (w.heap.size + 2) C
  bel : Below w.heap.size w wr
/-- Of two clocks the greater numbers, up to a place. -/
def jnK (E F : Nat → Int) (k : Nat) : Nat → Int := fun i => if i < k then max (E i) (F i) else E i
def jn (E F : Nat → Int) : Nat → Int := fun i => max (E i) (F i)
theorem jnK_self (E F : Nat → Int) (k : Nat) : jnK E F k k = E k := by simp [jnK]
theorem jnK_succ (E F : Nat → Int) (k i : Nat) : updI (jnK E F k) k (max (E k) (F k)) i = jnK E F (k + 1) i := by
  unfold updI jnK
  by_cases e : i = k
  · subst e; simp
  · rw [if_neg e]
    by_cases h : i < k
    · rw [if_pos h, if_pos (by omega)]
    · rw [if_neg h, if_neg (by omega)]
theorem jnK_all (E F : Nat → Int) (i : Nat) (h : i < 5) : jnK E F 5 i = jn E F i := by unfold jnK jn; rw [if_pos h]
set_option maxRecDepth 100000 in
set_option maxHeartbeats 4000000 in
theorem joinClocks_any (E F : Nat → Int) (w : World) :
    Calls Try.prog 93 #[cv E, cv F] w fun e w' => e = .returned (cv (jn E F)) ∧ Below w.heap.size w w' := by
  go_enter Try.func93, Try.ntmps93
  go_wp2
  obtain ⟨W, hW⟩ : ∃ W, W = ((w.alloc (.cells #[.int .i64 (E 0), .int .i64 (E 1), .int .i64 (E 2), .int .i64 (E 3), .int .i64 (E 4)] 112)).alloc (.cells #[.int .i64 (F 0), .int .i64 (F 1), .int .i64 (F 2), .int .i64 (F 3), .int .i64 (F 4)] 112)).alloc (.cells #[.int .i64 0, .int .i64 0, .int .i64 0, .int .i64 0, .int .i64 0] 112) := ⟨_, rfl⟩
  rw [← hW]
  have H0 : Hid (K3 w W (jnK E F 0) F (fun _ => 0)) := hide (by
    rw [hW]
    exact ⟨((clk_new w _ _ rfl (Nat.le_refl _) E).alloc _).alloc _, (clk_new _ _ _ (by simp) (by omega) F).alloc _, clk_zero _ _ _ (by simp) (by omega), (((Below.refl _ _).alloc (Nat.le_refl _) _).alloc (by simp) _).alloc (by simp; omega) _⟩)
  clear hW
  go_loopw [6] (fun i wr => ∃ k : Nat, k ≤ 5 ∧ i = .int .i64 k ∧ Hid (K3 w wr (jnK E F k) F (fun _ => 0))) (fun i _ => 5 - (intOf i).toNat)
  case atStart => exact ⟨0, by omega, rfl, H0⟩
  case round =>
    obtain ⟨k, hk, rfl, HS⟩ := hrel
    by_cases hlt : k < 5
    · have hltI : (k : Int) < 5 := by omega
      have hk0 : (0 : Int) ≤ (k : Int) := by omega
      have ca := HS.out.a.cell k hlt
      rw [jnK_self] at ca
      have fa := HS.out.a.frozenAt k
      have cb := HS.out.b.cell k hlt
      have hsu := jnK_succ E F k
      obtain ⟨x, hx⟩ : ∃ x, x = E k := ⟨_, rfl⟩
      obtain ⟨y, hy⟩ : ∃ y, y = F k := ⟨_, rfl⟩
      rw [← hx] at ca hsu
      rw [← hy] at cb hsu
      obtain ⟨mx, hmx, hmm⟩ : ∃ mx, (if x < y then y else x) = mx ∧ max x y = mx := ⟨_, rfl, by split <;> omega⟩
      rw [hmm] at hsu
      have HN : Hid (K3 w (wr.setCell ⟨w.heap.size, k, none⟩ (.int .i64 mx)).drew (jnK E F (k + 1)) F (fun _ => 0)) := hide
        ⟨((HS.out.a.set k mx).congr (fun i _ => hsu i)).drew, (HS.out.b.keep k _ (by omega)).drew, (HS.out.c.keep k _ (by omega)).drew, (HS.out.bel.setCell (p := ⟨w.heap.size, k, none⟩) (Nat.le_refl _) _).drew⟩
      clear hx hy hmm hsu HS
      go_wp2
      go_region
      go_wp2
      go_roundw
      case rel => exact ⟨k + 1, by omega, by go_num, HN⟩
      case measure => simp [intOf]; omega
    · obtain rfl : k = 5 := by omega
      have H5 : Hid (K3 w wr (jn E F) F (fun _ => 0)) := hide ⟨HS.out.a.congr (jnK_all E F), HS.out.b, HS.out.c, HS.out.bel⟩
      have e0 := H5.out.a.cell 0 (by omega)
      have r0 := H5.out.c.cell 0 (by omega)
      have f0 := H5.out.c.frozenAt 0
      have e1 := H5.out.a.cell 1 (by omega)
      have r1 := H5.out.c.cell 1 (by omega)
      have f1 := H5.out.c.frozenAt 1
      have e2 := H5.out.a.cell 2 (by omega)
      have r2 := H5.out.c.cell 2 (by omega)
      have f2 := H5.out.c.frozenAt 2
      have e3 := H5.out.a.cell 3 (by omega)
      have r3 := H5.out.c.cell 3 (by omega)
      have f3 := H5.out.c.frozenAt 3
      have e4 := H5.out.a.cell 4 (by omega)
      have r4 := H5.out.c.cell 4 (by omega)
      have f4 := H5.out.c.frozenAt 4
      have h55 : ((5 : Nat) : Int) = 5 := rfl
      rw [h55]
      clear h55
      go_wp2
      refine bodyPost_ret (v := cv (jn E F)) (by simp [results, Try.f93, go_sem, *]) rfl ⟨rfl, ?_⟩
      exact (((((H5.out.bel.setCell (p := ⟨w.heap.size + 2, 0, none⟩) (by simp only; omega) _).setCell (p := ⟨w.heap.size + 2, 1, none⟩) (by simp only; omega) _).setCell (p := ⟨w.heap.size + 2, 2, none⟩) (by simp only; omega) _).setCell (p := ⟨w.heap.size + 2, 3, none⟩) (by simp only; omega) _).setCell (p := ⟨w.heap.size + 2, 4, none⟩) (by simp only; omega) _)
end Go.Proofs.Ytkfnejiiancmhad.L11

namespace Go.Proofs.Ytkfnejiiancmhad.L11
open Go.RowKit L1 Own
set_option linter.unusedVariables false

/-- The clock of an event, by places. -/
def cE (l : List Ev) (k : Nat) : Nat → Int := fun i => clk l k (i : Int)
/-- The cells of clocks, one behind the other. -/
def flat5 (G : Nat → Nat → Int) : Nat → List Value
  | 0 => []
  | k + 1 => flat5 G k ++ lA 5 (G k)
theorem flat5_len (G : Nat → Nat → Int) : ∀ k, (flat5 G k).length = k * 5
  | 0 => rfl
  | k + 1 => by simp [flat5, flat5_len G k, lA]; omega
theorem flat5_get (G : Nat → Nat → Int) : ∀ (k j i : Nat), j < k → i < 5 → (flat5 G k)[j * 5 + i]? = some (.int .i64 (G j i))
  | 0, j, i, h, _ => by omega
  | k + 1, j, i, h, hi => by
    unfold flat5
    by_cases e : j = k
    · subst e
      rw [List.getElem?_append_right (by rw [flat5_len]; omega), flat5_len, show j * 5 + i - j * 5 = i by omega]
      exact lA_get 5 _ i hi
    · rw [List.getElem?_append_left (by rw [flat5_len]; omega)]
      exact flat5_get G k j i (by omega) hi
/-- The last clock of each node, one behind the other. -/
def LE (l : List Ev) (k : Nat) : Nat → Int := fun q => clkO l (pri l ((q / 5 : Nat) : Int) k) ((q % 5 : Nat) : Int)
theorem LE_at (l : List Ev) (k x i : Nat) (h : i < 5) : LE l k (x * 5 + i) = clkO l (pri l (x : Int) k) (i : Int) := by
  unfold LE
  rw [show (x * 5 + i) / 5 = x by omega, show (x * 5 + i) % 5 = i by omega]
theorem LE_succ (l : List Ev) (k x : Nat) (hx : nd l k = (x : Int)) (q : Nat) (hq : q < 25) :
    updI (updI (updI (updI (updI (LE l k) (x * 5) (cE l k 0)) (x * 5 + 1) (cE l k 1)) (x * 5 + 2) (cE l k 2)) (x * 5 + 3) (cE l k 3)) (x * 5 + 4) (cE l k 4) q = LE l (k + 1) q := by
  have hq5 : q = q / 5 * 5 + q % 5 := by omega
  obtain ⟨y, hy⟩ : ∃ y, y = q / 5 := ⟨_, rfl⟩
  obtain ⟨i, hi⟩ : ∃ i, i = q % 5 := ⟨_, rfl⟩
  have hi5 : i < 5 := by omega
  rw [← hy, ← hi] at hq5
  subst hq5
  rw [LE_at l (k + 1) y i hi5]
  have hu : pri l (y : Int) (k + 1) = if nd l k = (y : Int) then (k : Int) else pri l (y : Int) k := rfl
  rw [hu]
  unfold updI
  by_cases e : y = x
  · subst e
    rw [if_pos hx]
    have hk : clkO l (k : Int) (i : Int) = cE l k i := by unfold clkO cE; rw [if_pos (by omega)]; rfl
    rw [hk]
    match i, hi5 with
    | 0, _ => simp
    | 1, _ => simp
    | 2, _ => simp
    | 3, _ => simp
    | 4, _ => simp
  · rw [if_neg (show ¬ nd l k = (y : Int) by rw [hx]; omega), if_neg (by omega), if_neg (by omega), if_neg (by omega), if_neg (by omega), if_neg (by omega)]
    exact LE_at l k y i hi5
theorem clkO_bd (l : List Ev) (i : Int) (k : Nat) (hik : i < (k : Int)) (x : Int) : 0 ≤ clkO l i x ∧ clkO l i x ≤ (k : Int) := by
  refine ⟨clkO_nn l i x, ?_⟩
  unfold clkO
  split
  · have h1 := clk_le l i.toNat x
    have h2 := cnt_le l x (i.toNat + 1)
    omega
  · omega
theorem own_setNe {w : World} {base n c : Nat} {t : TypeId} {v : Value} {xs : List Value} (h : w.ownsRow base t c v n xs) (g i : Nat) (u : Value) (hg : v.ownBlock ≠ some g) : (w.setCell ⟨g, i, none⟩ u).ownsRow base t c v n xs := by
  refine ⟨h.1, ?_⟩
  rcases h.2 with h0 | ⟨q, cap, cur, hv, hb, hh, rest⟩
  · exact .inl h0
  · have hqg : q ≠ g := fun e => hg (by rw [hv, e]; rfl)
    exact .inr ⟨q, cap, cur, hv, hb, by rw [Below.heap_setCell w ⟨g, i, none⟩ u q hqg]; exact hh, rest⟩
theorem arr_grown2 {w w' : World} {t : TypeId} {n base g : Nat} {E : Nat → Int} {r : Option Nat} (h : Arr t n w base g E) (hg : w.grownBy w' r) (hne : r ≠ some g) : Arr t n w' base g E :=
  World.ownsRow.kept h hg (.inr (fun e => hne e.symm))
theorem info_clk : (Try.prog.info? 112).map (fun i => (i.zero, i.size, i.bytes)) = some (some (.agg #[.int .i64 0, .int .i64 0, .int .i64 0, .int .i64 0, .int .i64 0]), 5, 40) := by kernel_rfl
theorem cell_five (w : World) (g : Nat) (hg : w.heap.size = g) (E : Nat → Int) (t : TypeId) : ∀ j u, (lA 5 E)[j]? = some u → (w.alloc (.cells #[.int .i64 (E 0), .int .i64 (E 1), .int .i64 (E 2), .int .i64 (E 3), .int .i64 (E 4)] t)).cell? ((⟨g, 0, none⟩ : Addr).add j) = some u := by
  intro j u h
  have hj : j < 5 := by
    by_cases h2 : j < 5
    · exact h2
    · rw [List.getElem?_eq_none (by simp [lA]; omega)] at h; cases h
  rw [addr_add]
  have hA := arr_new t 5 w g 0 hg (Nat.zero_le _) (by omega) E #[.int .i64 (E 0), .int .i64 (E 1), .int .i64 (E 2), .int .i64 (E 3), .int .i64 (E 4)] rfl
  rw [lA_get 5 E j hj] at h
  cases h
  exact hA.cell j hj
/-- What is in memory while clocks are made: the last ones, the ones that are told, the event's own box. -/
structure KC (w V : World) (g : Nat) (v : Value) (l : List Ev) (k : Nat) : Prop where
  L : Arr 144 25 V w.heap.size g (LE l k)
  O : V.ownsRow (g + 1) 112 5 v k (flat5 (cE l) k)
  bel : Below w.heap.size w V
theorem KC.below {w V V' : World} {g k : Nat} {v : Value} {l : List Ev} (h : KC w V g v l k) (hb : Below V.heap.size V V') : KC w V' g v l k :=
  ⟨h.L.below hb, own_belowT h.O hb, h.bel.trans (hb.mono h.bel.size)⟩
theorem KC.set {w V : World} {g k q : Nat} {v : Value} {l : List Ev} (h : KC w V g v l k) (i : Nat) (u : Value) (hq : w.heap.size ≤ q) (h1 : g ≠ q) (h2 : v.ownBlock ≠ some q) : KC w (V.setCell ⟨q, i, none⟩ u) g v l k :=
  ⟨h.L.keep i u h1, own_setNe h.O q i u h2, h.bel.setCell (p := ⟨q, i, none⟩) hq u⟩
theorem KC.drew {w V : World} {g k : Nat} {v : Value} {l : List Ev} (h : KC w V g v l k) : KC w V.drew g v l k := ⟨h.L.drew, h.O, h.bel.drew⟩
theorem cell_set5 {V : World} {eb cb : Nat} {x : Value} (h : V.cell? ⟨eb, 0, none⟩ = some x) (hne : eb ≠ cb) (u0 u1 u2 u3 u4 : Value) : (((((V.setCell ⟨cb, 0, none⟩ u0).setCell ⟨cb, 1, none⟩ u1).setCell ⟨cb, 2, none⟩ u2).setCell ⟨cb, 3, none⟩ u3).setCell ⟨cb, 4, none⟩ u4).cell? ⟨eb, 0, none⟩ = some x := by
  unfold World.cell?
  rw [Below.heap_setCell _ ⟨cb, 4, none⟩ _ eb hne, Below.heap_setCell _ ⟨cb, 3, none⟩ _ eb hne, Below.heap_setCell _ ⟨cb, 2, none⟩ _ eb hne, Below.heap_setCell _ ⟨cb, 1, none⟩ _ eb hne, Below.heap_setCell _ ⟨cb, 0, none⟩ _ eb hne]
  exact h
theorem arr_set5 {t : TypeId} {V : World} {base q : Nat} {C : Nat → Int} (h : Arr t 5 V base q C) (E : Nat → Int) : Arr t 5 (((((V.setCell ⟨q, 0, none⟩ (.int .i64 (E 0))).setCell ⟨q, 1, none⟩ (.int .i64 (E 1))).setCell ⟨q, 2, none⟩ (.int .i64 (E 2))).setCell ⟨q, 3, none⟩ (.int .i64 (E 3))).setCell ⟨q, 4, none⟩ (.int .i64 (E 4))) base q E :=
  (((((h.set 0 (E 0)).set 1 (E 1)).set 2 (E 2)).set 3 (E 3)).set 4 (E 4)).congr (fun i hi => by
    match i, hi with
    | 0, _ => simp [updI]
    | 1, _ => simp [updI]
    | 2, _ => simp [updI]
    | 3, _ => simp [updI]
    | 4, _ => simp [updI])
theorem KC.set5 {w V : World} {g k q : Nat} {v : Value} {l : List Ev} (h : KC w V g v l k) (u0 u1 u2 u3 u4 : Value) (hq : w.heap.size ≤ q) (h1 : g ≠ q) (h2 : v.ownBlock ≠ some q) : KC w (((((V.setCell ⟨q, 0, none⟩ u0).setCell ⟨q, 1, none⟩ u1).setCell ⟨q, 2, none⟩ u2).setCell ⟨q, 3, none⟩ u3).setCell ⟨q, 4, none⟩ u4) g v l k :=
  ((((h.set 0 u0 hq h1 h2).set 1 u1 hq h1 h2).set 2 u2 hq h1 h2).set 3 u3 hq h1 h2).set 4 u4 hq h1 h2
theorem own_setLt {w : World} {base n c : Nat} {t : TypeId} {v : Value} {xs : List Value} (h : w.ownsRow base t c v n xs) (g i : Nat) (u : Value) (hg : g < base) : (w.setCell ⟨g, i, none⟩ u).ownsRow base t c v n xs :=
  own_setNe h g i u (fun e => by have := (h.lt g e).1; omega)
end Go.Proofs.Ytkfnejiiancmhad.L11

namespace Go.Proofs.Ytkfnejiiancmhad.L11
open Go.RowKit L1 Own
set_option linter.unusedVariables false

set_option maxRecDepth 100000 in
set_option maxHeartbeats 8000000 in
theorem clocksOf_any (N : Int) (a : Option Addr) (l : List (Int × Int)) (n cap : Nat) (w : World) (hn : l.length = n) (hs : Sl2 w a l) (hg : GoodV N l) :
    Calls Try.prog 75 #[.slice a n cap] w fun e w' => ∃ v, e = .returned v ∧ w'.ownsRow w.heap.size 112 5 v n (flat5 (cE l) n) ∧ Below w.heap.size w w' := by
  have h40 : n ≤ 40 := by have := hg.2.2.1; omega
  obtain ⟨i1, hi1, hy0, hy1, hy2⟩ := info_parts info_clk
  have HG := hide hg
  have HS := hide hs
  have HN := hide hn
  clear hg hs hn
  go_enter Try.func75, Try.ntmps75
  go_upto_region 3 with fail
  obtain ⟨W, hW⟩ : ∃ W, w.alloc (.cells #[.int .i64 0, .int .i64 0, .int .i64 0, .int .i64 0, .int .i64 0, .int .i64 0, .int .i64 0, .int .i64 0, .int .i64 0, .int .i64 0, .int .i64 0, .int .i64 0, .int .i64 0, .int .i64 0, .int .i64 0, .int .i64 0, .int .i64 0, .int .i64 0, .int .i64 0, .int .i64 0, .int .i64 0, .int .i64 0, .int .i64 0, .int .i64 0, .int .i64 0] 144) = W := ⟨_, rfl⟩
  have A0 : Hid (Arr 144 25 W w.heap.size w.heap.size (LE l 0)) := by
    rw [← hW]
    refine hide (arr_new _ 25 w _ _ rfl (Nat.le_refl _) (by omega) _ _ ?_)
    show lA 25 (fun _ => 0) = _
    exact lA_congr 25 _ _ (fun i _ => rfl)
  have B2 : Hid (Below w.heap.size w W) := by rw [← hW]; exact hide ((Below.refl _ _).alloc (Nat.le_refl _) _)
  rw [hW]
  obtain ⟨g, hg⟩ : ∃ g, g = w.heap.size := ⟨_, rfl⟩
  have HGE := hide hg
  have A1 : Hid (Arr 144 25 W w.heap.size g (LE l 0)) := by rw [hg]; exact A0
  rw [← hg]
  clear hW hg A0
  go_wp2
  go_loopw [3, 10] (fun ot i wr => ∃ k : Nat, k ≤ n ∧ i = .int .i64 k ∧ Hid (KC w wr g ot l k)) (fun _ i _ => n - (intOf i).toNat)
  case atStart => exact ⟨0, Nat.zero_le _, rfl, ⟨A1.out, World.ownsRow_nil _ _ _ _, B2.out⟩⟩
  case round =>
    obtain ⟨k, hk, rfl, HKC⟩ := hrel
    have HWG : Hid (w.heap.size ≤ g) := by rw [HGE.out]; exact Nat.le_refl _
    obtain ⟨oa, ocap, hov⟩ : ∃ oa ocap, u3 = .slice oa k ocap := by
      rcases HKC.out.O.2 with ⟨hv, h0⟩ | ⟨q, cap, cur, hv, _⟩
      · subst h0; exact ⟨none, 0, hv⟩
      · exact ⟨_, cap, hv⟩
    subst hov
    by_cases hlt : k < n
    · have hv := HG.out.2.2.2 k (by rw [HN.out]; exact hlt)
      have hN5 := HG.out.2.1
      obtain ⟨xn, hx⟩ : ∃ xn : Nat, nd l k = (xn : Int) := ⟨(nd l k).toNat, by have := hv.1; omega⟩
      have hx5 : xn < 5 := by have := hv.2.1; omega
      have hsl := HS.out.below HKC.out.bel
      obtain ⟨b, off, rfl, q1, q2⟩ := hsl k (by rw [HN.out]; exact hlt)
      clear q1 q2
      obtain ⟨hc, hd⟩ := hsl.two k (by rw [HN.out]; exact hlt)
      rw [hx] at hc
      have hltI : (k : Int) < (n : Int) := by omega
      have hxI : (xn : Int) < 5 := by omega
      have hx0 : (0 : Int) ≤ (xn : Int) := by omega
      obtain ⟨y, hy⟩ : ∃ y, y = fr l k := ⟨_, rfl⟩
      rw [← hy] at hd
      have HY := hide hy
      have HX := hide hx
      have HV := hide hv
      clear hy hx hv hsl
      go_upto_region 6 with fail
      obtain ⟨W0, hW0⟩ : ∃ W0, wr.alloc (.cells #[.int .i64 xn, .int .i64 y] 118) = W0 := ⟨_, rfl⟩
      have hbw : Below wr.heap.size wr W0 := by rw [← hW0]; exact (Below.refl _ _).alloc (Nat.le_refl _) _
      have e0 : W0.cell? ⟨wr.heap.size, 0, none⟩ = some (.int .i64 xn) := by rw [← hW0]; simp
      have e1 : W0.cell? ⟨wr.heap.size, 1, none⟩ = some (.int .i64 y) := by rw [← hW0]; simp
      have HK0 := hide (HKC.out.below hbw)
      have hgw := HKC.out.L.lt
      have hob : ∀ q, (Value.slice oa k ocap).ownBlock = some q → q < wr.heap.size := fun q hq => (HKC.out.O.lt q hq).2
      have hzw : wr.heap.size < W0.heap.size := by rw [← hW0]; simp
      rw [hW0]
      obtain ⟨eb, heb⟩ : ∃ eb, eb = wr.heap.size := ⟨_, rfl⟩
      rw [← heb] at e0 e1 hgw hob hzw ⊢
      clear hW0 hbw heb HKC
      have l0 := HK0.out.L.cell (xn * 5 + 0) (by omega)
      rw [LE_at l k xn 0 (by omega)] at l0
      have l1 := HK0.out.L.cell (xn * 5 + 1) (by omega)
      rw [LE_at l k xn 1 (by omega)] at l1
      have l2 := HK0.out.L.cell (xn * 5 + 2) (by omega)
      rw [LE_at l k xn 2 (by omega)] at l2
      have l3 := HK0.out.L.cell (xn * 5 + 3) (by omega)
      rw [LE_at l k xn 3 (by omega)] at l3
      have l4 := HK0.out.L.cell (xn * 5 + 4) (by omega)
      rw [LE_at l k xn 4 (by omega)] at l4
      rw [Nat.add_zero] at l0
      obtain ⟨P, hP⟩ : ∃ P : Nat → Int, P = fun i : Nat => clkO l (pri l (xn : Int) k) (i : Int) := ⟨_, rfl⟩
      have hPi : ∀ i : Nat, clkO l (pri l (xn : Int) k) (i : Int) = P i := fun i => by rw [hP]
      rw [hPi] at l0 l1 l2 l3 l4
      have hPb : ∀ i : Nat, 0 ≤ P i ∧ P i ≤ (k : Int) := fun i => by rw [← hPi]; exact clkO_bd l _ k (pri_lt l _ k) _
      have hcl : ∀ i : Nat, clk l k (i : Int) = max (P i) (clkO l y (i : Int)) + if (i : Int) = (xn : Int) then 1 else 0 := fun i => by
        rw [clk_eq l k _ HV.out.2.2.2.1, HX.out, hPi, HY.out]
      have HPB := hide hPb
      have HCL := hide hcl
      clear hP hPi hPb hcl
      go_upto_region 7 with fail
      obtain ⟨V, hV⟩ : ∃ V, W0.alloc (.cells #[.int .i64 (P 0), .int .i64 (P 1), .int .i64 (P 2), .int .i64 (P 3), .int .i64 (P 4)] 112) = V := ⟨_, rfl⟩
      have hbv : Below W0.heap.size W0 V := by rw [← hV]; exact (Below.refl _ _).alloc (Nat.le_refl _) _
      have HC : Hid (Clk V w.heap.size W0.heap.size P) := by rw [← hV]; exact hide (clk_new W0 _ _ rfl HK0.out.bel.size P)
      have HKC := hide (HK0.out.below hbv)
      have E0 : Hid (V.cell? ⟨eb, 0, none⟩ = some (.int .i64 xn)) := hide ((hbv.cell (p := ⟨eb, 0, none⟩) (blk_lt e0)).trans e0)
      have e1v : V.cell? ⟨eb, 1, none⟩ = some (.int .i64 y) := (hbv.cell (p := ⟨eb, 1, none⟩) (blk_lt e1)).trans e1
      have hwz := HK0.out.bel.size
      rw [hV]
      obtain ⟨cb, hcb⟩ : ∃ cb, cb = W0.heap.size := ⟨_, rfl⟩
      rw [← hcb] at HC hzw hwz ⊢
      have HCB : Hid (w.heap.size ≤ cb ∧ g ≠ cb ∧ (Value.slice oa k ocap).ownBlock ≠ some cb) := hide ⟨hwz, by omega, fun e => by have := hob cb e; omega⟩
      have HEC : Hid (eb ≠ cb) := hide (by omega)
      clear hV hbv hcb e0 e1 l0 l1 l2 l3 l4 HK0 hgw hob hzw hwz
      by_cases hy1 : y = -1
      · have hyb : (y != -1) = false := by simp [hy1]
        obtain ⟨M, hMP⟩ : ∃ M : Nat → Int, M = P := ⟨_, rfl⟩
        rw [← hMP] at HC
        have HMB : Hid (∀ i, i < 5 → 0 ≤ M i ∧ M i ≤ (k : Int)) := hide (fun i _ => by rw [hMP]; exact HPB.out i)
        have HM : Hid (∀ i : Nat, i < 5 → (M i + if i = xn then 1 else 0) = cE l k i) := hide (fun i _ => by
          have h1 := HCL.out i
          have h2 := HPB.out i
          unfold cE
          rw [h1, hMP, hy1]
          have h3 : clkO l (-1) (i : Int) = 0 := rfl
          rw [h3]
          by_cases e : i = xn
          · rw [if_pos e, if_pos (by omega)]; omega
          · rw [if_neg e, if_neg (by omega)]; omega)
        clear hy1 hMP HCL HPB
        have hcx := HC.out.cell xn hx5
        have hcf := HC.out.frozenAt xn
        have hMb := HMB.out xn hx5
        obtain ⟨mx, hmx⟩ : ∃ mx, mx = M xn := ⟨_, rfl⟩
        rw [← hmx] at hcx hMb
        have hmb0 := hMb.1
        have hmb1 : mx ≤ 40 := by omega
        have HMX := hide hmx
        have e0 := E0.out
        clear hmx hMb
        go_upto_region 10 with fail
        obtain ⟨V4, hV4⟩ : ∃ V4, V.setCell ⟨cb, xn, none⟩ (.int .i64 (mx + 1)) = V4 := ⟨_, rfl⟩
        have HC4 : Hid (Clk V4 w.heap.size cb (cE l k)) := by
          rw [← hV4]
          refine hide ((HC.out.set xn (mx + 1)).congr (fun i hi => ?_))
          have := HM.out i hi
          unfold updI
          by_cases e : i = xn
          · subst e; rw [if_pos rfl]; rw [if_pos rfl] at this; rw [HMX.out]; exact this
          · rw [if_neg e]; rw [if_neg e] at this; omega
        have HK4 : Hid (KC w V4 g (Value.slice oa k ocap) l k) := by rw [← hV4]; exact hide (HKC.out.set xn _ HCB.out.1 HCB.out.2.1 HCB.out.2.2)
        have E04 : Hid (V4.cell? ⟨eb, 0, none⟩ = some (.int .i64 xn)) := by
          rw [← hV4]
          exact hide (by unfold World.cell?; rw [Below.heap_setCell V ⟨cb, xn, none⟩ _ eb HEC.out]; exact E0.out)
        rw [hV4]
        clear hV4 hcx hcf e0 HC HKC E0 hmb0 hmb1
        have e0 := E04.out
        have c0 := HC4.out.cell 0 (by omega)
        have l0 := HK4.out.L.cell (xn * 5 + 0) (by omega)
        have lf0 := HK4.out.L.frozenAt (xn * 5 + 0)
        have c1 := HC4.out.cell 1 (by omega)
        have l1 := HK4.out.L.cell (xn * 5 + 1) (by omega)
        have lf1 := HK4.out.L.frozenAt (xn * 5 + 1)
        have c2 := HC4.out.cell 2 (by omega)
        have l2 := HK4.out.L.cell (xn * 5 + 2) (by omega)
        have lf2 := HK4.out.L.frozenAt (xn * 5 + 2)
        have c3 := HC4.out.cell 3 (by omega)
        have l3 := HK4.out.L.cell (xn * 5 + 3) (by omega)
        have lf3 := HK4.out.L.frozenAt (xn * 5 + 3)
        have c4 := HC4.out.cell 4 (by omega)
        have l4 := HK4.out.L.cell (xn * 5 + 4) (by omega)
        have lf4 := HK4.out.L.frozenAt (xn * 5 + 4)
        rw [Nat.add_zero] at l0 lf0
        go_upto_region 11 with fail
        obtain ⟨V5, hV5⟩ : ∃ V5, (((((V4.setCell ⟨g, xn * 5, none⟩ (.int .i64 (cE l k 0))).setCell ⟨g, xn * 5 + 1, none⟩ (.int .i64 (cE l k 1))).setCell ⟨g, xn * 5 + 2, none⟩ (.int .i64 (cE l k 2))).setCell ⟨g, xn * 5 + 3, none⟩ (.int .i64 (cE l k 3))).setCell ⟨g, xn * 5 + 4, none⟩ (.int .i64 (cE l k 4))) = V5 := ⟨_, rfl⟩
        have HL5 : Hid (Arr 144 25 V5 w.heap.size g (LE l (k + 1))) := by
          rw [← hV5]
          exact hide ((((((HK4.out.L.set (xn * 5) _).set (xn * 5 + 1) _).set (xn * 5 + 2) _).set (xn * 5 + 3) _).set (xn * 5 + 4) _).congr (fun q hq => LE_succ l k xn HX.out q hq))
        have HO5 : Hid (V5.ownsRow (g + 1) 112 5 (Value.slice oa k ocap) k (flat5 (cE l) k)) := by
          rw [← hV5]
          exact hide (own_setLt (own_setLt (own_setLt (own_setLt (own_setLt HK4.out.O g _ _ (by omega)) g _ _ (by omega)) g _ _ (by omega)) g _ _ (by omega)) g _ _ (by omega))
        have HC5 : Hid (Clk V5 w.heap.size cb (cE l k)) := by
          rw [← hV5]
          exact hide (((((HC4.out.keep _ _ (Ne.symm HCB.out.2.1)).keep _ _ (Ne.symm HCB.out.2.1)).keep _ _ (Ne.symm HCB.out.2.1)).keep _ _ (Ne.symm HCB.out.2.1)).keep _ _ (Ne.symm HCB.out.2.1))
        have B5 : Hid (Below w.heap.size w V5) := by
          rw [← hV5]
          exact hide (((((HK4.out.bel.setCell (p := ⟨g, xn * 5, none⟩) HWG.out _).setCell (p := ⟨g, xn * 5 + 1, none⟩) HWG.out _).setCell (p := ⟨g, xn * 5 + 2, none⟩) HWG.out _).setCell (p := ⟨g, xn * 5 + 3, none⟩) HWG.out _).setCell (p := ⟨g, xn * 5 + 4, none⟩) HWG.out _)
        rw [hV5]
        clear hV5 e0 E04 HK4 HC4 c0 c1 c2 c3 c4 l0 l1 l2 l3 l4 lf0 lf1 lf2 lf3 lf4
        have hgV := HL5.out.lt
        have hsz5 := B5.out.size
        have c0 := HC5.out.cell 0 (by omega)
        have c1 := HC5.out.cell 1 (by omega)
        have c2 := HC5.out.cell 2 (by omega)
        have c3 := HC5.out.cell 3 (by omega)
        have c4 := HC5.out.cell 4 (by omega)
        go_wp2_with (first
          | (at_builtin; refine wpList_append_own_at _ rfl _ _ 108 rfl (g + 1) 112 i1 (.agg #[.int .i64 0, .int .i64 0, .int .i64 0, .int .i64 0, .int .i64 0]) 5 40 Try.underlying108 hi1 hy0 hy1 hy2 rfl (by decide) _ _ _ rfl (HO5.out.alloc _) ⟨V5.heap.size, 0, none⟩ 1 1 (lA 5 (cE l k)) rfl (by simp [lA]) (cell_five _ _ rfl _ _) (by intro u hu; simp [lA] at hu; obtain ⟨q, _, rfl⟩ := hu; rfl) (by unfold maxLen; omega) (by omega) (by simp; omega) ?_)
          | go_in)
        intro v6 w6 hown6 hgrow6 _ hat6
        have hob : ∀ q, (Value.slice oa k ocap).ownBlock = some q → g + 1 ≤ q := fun q hq => (HO5.out.lt q hq).1
        have hb6 : Below w.heap.size w w6 := (B5.out.alloc hsz5 _).grown hgrow6 (by simp; omega) (fun q hq => by have h1 := hob q hq; have h2 := HWG.out; omega)
        have harr6 : Arr 144 25 w6 w.heap.size g (LE l (k + 1)) := arr_grown2 (HL5.out.alloc _) hgrow6 (fun e => by have := hob g e; omega)
        have H7 : Hid (KC w w6 g v6 l (k + 1)) := hide ⟨harr6, hown6, hb6⟩
        clear hown6 hgrow6 harr6 hat6 hb6
        go_wp2
        go_roundw
        case rel => exact ⟨k + 1, by omega, by go_num, H7⟩
        case measure => simp [intOf]; omega
      · have hyb : (y != -1) = true := by simp [hy1]
        have hv4 := HV.out.2.2.2.1
        have hv3 := HV.out.2.2.1
        rw [← HY.out] at hv3 hv4
        obtain ⟨f, hf⟩ : ∃ f : Nat, y = (f : Int) := ⟨y.toNat, by omega⟩
        subst hf
        have hfk : f < k := by omega
        have hfI : (f : Int) < (k : Int) := by omega
        have hf0 : (0 : Int) ≤ (f : Int) := by omega
        obtain ⟨oq, hoa⟩ : ∃ q, oa = some ⟨q, 0, none⟩ := by
          rcases HKC.out.O.2 with ⟨hv, h0⟩ | ⟨q, cap, cur, hv, _⟩
          · omega
          · exact ⟨q, by simp at hv; exact hv.1⟩
        subst hoa
        have o0 := HKC.out.O.cells (g := oq) rfl (f * 5 + 0) _ (flat5_get (cE l) k f 0 hfk (by omega))
        have o1 := HKC.out.O.cells (g := oq) rfl (f * 5 + 1) _ (flat5_get (cE l) k f 1 hfk (by omega))
        have o2 := HKC.out.O.cells (g := oq) rfl (f * 5 + 2) _ (flat5_get (cE l) k f 2 hfk (by omega))
        have o3 := HKC.out.O.cells (g := oq) rfl (f * 5 + 3) _ (flat5_get (cE l) k f 3 hfk (by omega))
        have o4 := HKC.out.O.cells (g := oq) rfl (f * 5 + 4) _ (flat5_get (cE l) k f 4 hfk (by omega))
        rw [addr_add] at o0 o1 o2 o3 o4
        simp only [Nat.add_zero] at o0 o1 o2 o3 o4
        have p0 := HC.out.cell 0 (by omega)
        have p1 := HC.out.cell 1 (by omega)
        have p2 := HC.out.cell 2 (by omega)
        have p3 := HC.out.cell 3 (by omega)
        have p4 := HC.out.cell 4 (by omega)
        have CJ : Hid (∀ wx, Below V.heap.size V wx → Calls Try.prog 93 #[cv P, cv (cE l f)] wx fun e w' => e = .returned (cv (jn P (cE l f))) ∧ (w'.cell? ⟨cb, 0, none⟩ = some (.int .i64 (P 0)) ∧ w'.frozen? ⟨cb, 0, none⟩ = false ∧ w'.cell? ⟨cb, 1, none⟩ = some (.int .i64 (P 1)) ∧ w'.frozen? ⟨cb, 1, none⟩ = false ∧ w'.cell? ⟨cb, 2, none⟩ = some (.int .i64 (P 2)) ∧ w'.frozen? ⟨cb, 2, none⟩ = false ∧ w'.cell? ⟨cb, 3, none⟩ = some (.int .i64 (P 3)) ∧ w'.frozen? ⟨cb, 3, none⟩ = false ∧ w'.cell? ⟨cb, 4, none⟩ = some (.int .i64 (P 4)) ∧ w'.frozen? ⟨cb, 4, none⟩ = false) ∧ Below V.heap.size V w') := hide (fun wx hb => (joinClocks_any P (cE l f) wx).mono (fun e w' h => by
          have hb2 : Below V.heap.size V w' := hb.trans (h.2.mono hb.size)
          have hC2 := HC.out.below hb2
          exact ⟨h.1, ⟨hC2.cell 0 (by omega), hC2.frozenAt 0, hC2.cell 1 (by omega), hC2.frozenAt 1, hC2.cell 2 (by omega), hC2.frozenAt 2, hC2.cell 3 (by omega), hC2.frozenAt 3, hC2.cell 4 (by omega), hC2.frozenAt 4⟩, hb2⟩))
        obtain ⟨M, hMJ⟩ : ∃ M : Nat → Int, M = jn P (cE l f) := ⟨_, rfl⟩
        have hfe : ∀ i : Nat, clkO l (f : Int) (i : Int) = cE l f i := fun i => by unfold clkO cE; rw [if_pos (by omega)]; rfl
        have HMB : Hid (∀ i, i < 5 → 0 ≤ M i ∧ M i ≤ (k : Int)) := hide (fun i _ => by
          have h1 := HPB.out i
          have h2 := clkO_bd l (f : Int) k (by omega) (i : Int)
          rw [hfe] at h2
          rw [hMJ]; unfold jn; omega)
        have HM : Hid (∀ i : Nat, i < 5 → (M i + if i = xn then 1 else 0) = cE l k i) := hide (fun i _ => by
          have h1 := HCL.out i
          rw [hfe] at h1
          show _ = clk l k (i : Int)
          rw [h1, hMJ]
          unfold jn
          by_cases e : i = xn
          · rw [if_pos e, if_pos (by omega)]
          · rw [if_neg e, if_neg (by omega)])
        rw [← hMJ] at CJ
        clear hy1 HCL HPB hv3 hv4 hfe hMJ
        go_upto_region 8 with fail
        go_cut [7] from 18 to 27 (fun t wx => t = .pointer (some ⟨cb, 0, none⟩) ∧ ∃ v2, Below V.heap.size V v2 ∧ (wx = (((((v2.setCell ⟨cb, 0, none⟩ (.int .i64 (M 0))).setCell ⟨cb, 1, none⟩ (.int .i64 (M 1))).setCell ⟨cb, 2, none⟩ (.int .i64 (M 2))).setCell ⟨cb, 3, none⟩ (.int .i64 (M 3))).setCell ⟨cb, 4, none⟩ (.int .i64 (M 4))) ∨ wx = ((((((v2.setCell ⟨cb, 0, none⟩ (.int .i64 (M 0))).setCell ⟨cb, 1, none⟩ (.int .i64 (M 1))).setCell ⟨cb, 2, none⟩ (.int .i64 (M 2))).setCell ⟨cb, 3, none⟩ (.int .i64 (M 3))).setCell ⟨cb, 4, none⟩ (.int .i64 (M 4)))).drew))
        case first =>
          go_region_with (go_at_call 93; refine (CJ.out _ ?_).mono ?_; (first | exact Below.refl _ _ | exact (Below.refl _ _).drew | exact ((Below.refl _ _).drew).drew); rintro e w2 ⟨rfl, ⟨a0, b0, a1, b1, a2, b2, a3, b3, a4, b4⟩, hb2⟩)
          all_goals
            go_wp2
            go_meet
            first
              | exact ⟨rfl, w2, hb2, .inl rfl⟩
              | exact ⟨rfl, w2, hb2, .inr rfl⟩
        case rest =>
          obtain ⟨rfl, v2, hb2, hwx⟩ := hcut
          have hk3 := (HKC.out.below hb2).set5 (.int .i64 (M 0)) (.int .i64 (M 1)) (.int .i64 (M 2)) (.int .i64 (M 3)) (.int .i64 (M 4)) HCB.out.1 HCB.out.2.1 HCB.out.2.2
          have hc3 := arr_set5 (HC.out.below hb2) M
          have h1 : v2.cell? ⟨eb, 0, none⟩ = some (.int .i64 xn) := (hb2.cell (p := ⟨eb, 0, none⟩) (blk_lt E0.out)).trans E0.out
          have he3 := cell_set5 h1 HEC.out (.int .i64 (M 0)) (.int .i64 (M 1)) (.int .i64 (M 2)) (.int .i64 (M 3)) (.int .i64 (M 4))
          obtain ⟨U, hU⟩ : ∃ U, U = (((((v2.setCell ⟨cb, 0, none⟩ (.int .i64 (M 0))).setCell ⟨cb, 1, none⟩ (.int .i64 (M 1))).setCell ⟨cb, 2, none⟩ (.int .i64 (M 2))).setCell ⟨cb, 3, none⟩ (.int .i64 (M 3))).setCell ⟨cb, 4, none⟩ (.int .i64 (M 4))) := ⟨_, rfl⟩
          rw [← hU] at hk3 hc3 he3 hwx
          have HK3 : Hid (KC w wc g (.slice (some ⟨oq, 0, none⟩) k ocap) l k) := by
            rcases hwx with h | h
            · rw [h]; exact hide hk3
            · rw [h]; exact hide hk3.drew
          have HC3 : Hid (Clk wc w.heap.size cb M) := by
            rcases hwx with h | h
            · rw [h]; exact hide hc3
            · rw [h]; exact hide hc3.drew
          have E03 : Hid (wc.cell? ⟨eb, 0, none⟩ = some (.int .i64 xn)) := by
            rcases hwx with h | h
            · rw [h]; exact hide he3
            · rw [h]; exact hide he3
          clear hk3 hc3 he3 hwx hU h1 U
          clear hb2 v2 E0 HC HKC CJ o0 o1 o2 o3 o4 p0 p1 p2 p3 p4 e1v
          obtain ⟨V', hV'⟩ : ∃ V', V' = wc := ⟨_, rfl⟩
          rw [← hV'] at HK3 HC3 E03 ⊢
          clear hV'
          have hcx := HC3.out.cell xn hx5
          have hcf := HC3.out.frozenAt xn
          have hMb := HMB.out xn hx5
          obtain ⟨mx, hmx⟩ : ∃ mx, mx = M xn := ⟨_, rfl⟩
          rw [← hmx] at hcx hMb
          have hmb0 := hMb.1
          have hmb1 : mx ≤ 40 := by omega
          have HMX := hide hmx
          have e0 := E03.out
          clear hmx hMb
          go_upto_region 10 with fail
          obtain ⟨V4, hV4⟩ : ∃ V4, V'.setCell ⟨cb, xn, none⟩ (.int .i64 (mx + 1)) = V4 := ⟨_, rfl⟩
          have HC4 : Hid (Clk V4 w.heap.size cb (cE l k)) := by
            rw [← hV4]
            refine hide ((HC3.out.set xn (mx + 1)).congr (fun i hi => ?_))
            have := HM.out i hi
            unfold updI
            by_cases e : i = xn
            · subst e; rw [if_pos rfl]; rw [if_pos rfl] at this; rw [HMX.out]; exact this
            · rw [if_neg e]; rw [if_neg e] at this; omega
          have HK4 : Hid (KC w V4 g (Value.slice (some ⟨oq, 0, none⟩) k ocap) l k) := by rw [← hV4]; exact hide (HK3.out.set xn _ HCB.out.1 HCB.out.2.1 HCB.out.2.2)
          have E04 : Hid (V4.cell? ⟨eb, 0, none⟩ = some (.int .i64 xn)) := by
            rw [← hV4]
            exact hide (by unfold World.cell?; rw [Below.heap_setCell V' ⟨cb, xn, none⟩ _ eb HEC.out]; exact E03.out)
          rw [hV4]
          clear hV4 hcx hcf e0 HC3 HK3 E03 hmb0 hmb1
          have e0 := E04.out
          have c0 := HC4.out.cell 0 (by omega)
          have l0 := HK4.out.L.cell (xn * 5 + 0) (by omega)
          have lf0 := HK4.out.L.frozenAt (xn * 5 + 0)
          have c1 := HC4.out.cell 1 (by omega)
          have l1 := HK4.out.L.cell (xn * 5 + 1) (by omega)
          have lf1 := HK4.out.L.frozenAt (xn * 5 + 1)
          have c2 := HC4.out.cell 2 (by omega)
          have l2 := HK4.out.L.cell (xn * 5 + 2) (by omega)
          have lf2 := HK4.out.L.frozenAt (xn * 5 + 2)
          have c3 := HC4.out.cell 3 (by omega)
          have l3 := HK4.out.L.cell (xn * 5 + 3) (by omega)
          have lf3 := HK4.out.L.frozenAt (xn * 5 + 3)
          have c4 := HC4.out.cell 4 (by omega)
          have l4 := HK4.out.L.cell (xn * 5 + 4) (by omega)
          have lf4 := HK4.out.L.frozenAt (xn * 5 + 4)
          rw [Nat.add_zero] at l0 lf0
          go_upto_region 11 with fail
          obtain ⟨V5, hV5⟩ : ∃ V5, (((((V4.setCell ⟨g, xn * 5, none⟩ (.int .i64 (cE l k 0))).setCell ⟨g, xn * 5 + 1, none⟩ (.int .i64 (cE l k 1))).setCell ⟨g, xn * 5 + 2, none⟩ (.int .i64 (cE l k 2))).setCell ⟨g, xn * 5 + 3, none⟩ (.int .i64 (cE l k 3))).setCell ⟨g, xn * 5 + 4, none⟩ (.int .i64 (cE l k 4))) = V5 := ⟨_, rfl⟩
          have HL5 : Hid (Arr 144 25 V5 w.heap.size g (LE l (k + 1))) := by
            rw [← hV5]
            exact hide ((((((HK4.out.L.set (xn * 5) _).set (xn * 5 + 1) _).set (xn * 5 + 2) _).set (xn * 5 + 3) _).set (xn * 5 + 4) _).congr (fun q hq => LE_succ l k xn HX.out q hq))
          have HO5 : Hid (V5.ownsRow (g + 1) 112 5 (Value.slice (some ⟨oq, 0, none⟩) k ocap) k (flat5 (cE l) k)) := by
            rw [← hV5]
            exact hide (own_setLt (own_setLt (own_setLt (own_setLt (own_setLt HK4.out.O g _ _ (by omega)) g _ _ (by omega)) g _ _ (by omega)) g _ _ (by omega)) g _ _ (by omega))
          have HC5 : Hid (Clk V5 w.heap.size cb (cE l k)) := by
            rw [← hV5]
            exact hide (((((HC4.out.keep _ _ (Ne.symm HCB.out.2.1)).keep _ _ (Ne.symm HCB.out.2.1)).keep _ _ (Ne.symm HCB.out.2.1)).keep _ _ (Ne.symm HCB.out.2.1)).keep _ _ (Ne.symm HCB.out.2.1))
          have B5 : Hid (Below w.heap.size w V5) := by
            rw [← hV5]
            exact hide (((((HK4.out.bel.setCell (p := ⟨g, xn * 5, none⟩) HWG.out _).setCell (p := ⟨g, xn * 5 + 1, none⟩) HWG.out _).setCell (p := ⟨g, xn * 5 + 2, none⟩) HWG.out _).setCell (p := ⟨g, xn * 5 + 3, none⟩) HWG.out _).setCell (p := ⟨g, xn * 5 + 4, none⟩) HWG.out _)
          rw [hV5]
          clear hV5 e0 E04 HK4 HC4 c0 c1 c2 c3 c4 l0 l1 l2 l3 l4 lf0 lf1 lf2 lf3 lf4
          have hgV := HL5.out.lt
          have hsz5 := B5.out.size
          have c0 := HC5.out.cell 0 (by omega)
          have c1 := HC5.out.cell 1 (by omega)
          have c2 := HC5.out.cell 2 (by omega)
          have c3 := HC5.out.cell 3 (by omega)
          have c4 := HC5.out.cell 4 (by omega)
          go_wp2_with (first
            | (at_builtin; refine wpList_append_own_at _ rfl _ _ 108 rfl (g + 1) 112 i1 (.agg #[.int .i64 0, .int .i64 0, .int .i64 0, .int .i64 0, .int .i64 0]) 5 40 Try.underlying108 hi1 hy0 hy1 hy2 rfl (by decide) _ _ _ rfl (HO5.out.alloc _) ⟨V5.heap.size, 0, none⟩ 1 1 (lA 5 (cE l k)) rfl (by simp [lA]) (cell_five _ _ rfl _ _) (by intro u hu; simp [lA] at hu; obtain ⟨q, _, rfl⟩ := hu; rfl) (by unfold maxLen; omega) (by omega) (by simp; omega) ?_)
            | go_in)
          intro v6 w6 hown6 hgrow6 _ hat6
          have hob : ∀ q, (Value.slice (some ⟨oq, 0, none⟩) k ocap).ownBlock = some q → g + 1 ≤ q := fun q hq => (HO5.out.lt q hq).1
          have hb6 : Below w.heap.size w w6 := (B5.out.alloc hsz5 _).grown hgrow6 (by simp; omega) (fun q hq => by have h1 := hob q hq; have h2 := HWG.out; omega)
          have harr6 : Arr 144 25 w6 w.heap.size g (LE l (k + 1)) := arr_grown2 (HL5.out.alloc _) hgrow6 (fun e => by have := hob g e; omega)
          have H7 : Hid (KC w w6 g v6 l (k + 1)) := hide ⟨harr6, hown6, hb6⟩
          clear hown6 hgrow6 harr6 hat6 hb6
          go_wp2
          go_roundw
          case rel => exact ⟨k + 1, by omega, by go_num, H7⟩
          case measure => simp [intOf]; omega
    · have hltI : ¬ (k : Int) < (n : Int) := by omega
      obtain rfl : k = n := by omega
      have HO := hide (own_baseT HKC.out.O (show w.heap.size ≤ g + 1 by have := HWG.out; omega))
      have B9 := hide HKC.out.bel
      clear HKC
      go_wp2
      go_ret
      exact ⟨_, rfl, HO.out, B9.out⟩
end Go.Proofs.Ytkfnejiiancmhad.L11

namespace Go.Proofs.Ytkfnejiiancmhad.L11
open Go.RowKit L1 Own
set_option linter.unusedVariables false

theorem info_int11 : (Try.prog.info? 3).map (fun i => (i.zero, i.size, i.bytes)) = some (some (.int .i64 0), 1, 8) := by kernel_rfl
theorem cells_int11 : Try.prog.cellsOf 3 = 1 := by kernel_rfl
set_option maxRecDepth 100000 in
theorem eq_clk (E F : Nat → Int) (b : Bool) (hb : b = true ↔ ∀ i, i < 5 → E i = F i) (w : World) : (Op.equalIn 10000 112 (cv E) (cv F)).run Try.prog w = .ok b w := by
  obtain ⟨i1, hi1, _, _, _⟩ := info_parts info_int11
  rw [Go.run_equalIn_array w 9999 _ _ Try.underlying112 hi1, cells_int11, show List.range 5 = [0, 1, 2, 3, 4] from rfl]
  have hall : (∀ i, i < 5 → E i = F i) ↔ E 0 = F 0 ∧ E 1 = F 1 ∧ E 2 = F 2 ∧ E 3 = F 3 ∧ E 4 = F 4 := by
    constructor
    · intro h; exact ⟨h 0 (by omega), h 1 (by omega), h 2 (by omega), h 3 (by omega), h 4 (by omega)⟩
    · rintro ⟨h0, h1, h2, h3, h4⟩ i hi
      match i, hi with
      | 0, _ => exact h0
      | 1, _ => exact h1
      | 2, _ => exact h2
      | 3, _ => exact h3
      | 4, _ => exact h4
  rw [hall] at hb
  have s0 : ∀ (a b : Int) (w : World), (Op.equalIn 9999 3 (.int .i64 a) (.int .i64 b)).run Try.prog w = .ok (a == b) w := fun a b w => run_equalIn_int w 9998 3 .i64 .i64 a b Try.underlying3
  have hp : ∀ (G : Nat → Int) (k : Nat) (hk : k < 5) (w : World), (part 3 #[.int .i64 (G 0), .int .i64 (G 1), .int .i64 (G 2), .int .i64 (G 3), .int .i64 (G 4)] (k * 1)).run Try.prog w = .ok (.int .i64 (G k)) w := fun G k hk w => by
    match k, hk with
    | 0, _ => simp [go_sem]
    | 1, _ => simp [go_sem]
    | 2, _ => simp [go_sem]
    | 3, _ => simp [go_sem]
    | 4, _ => simp [go_sem]
  simp only [Op.eqItems, Sem.run_bind, hp E 0 (by omega), hp E 1 (by omega), hp E 2 (by omega), hp E 3 (by omega), hp E 4 (by omega), hp F 0 (by omega), hp F 1 (by omega), hp F 2 (by omega), hp F 3 (by omega), hp F 4 (by omega), Result.andThen_ok, s0, Sem.run_ite, Sem.run_pure]
  cases b with
  | true =>
    obtain ⟨h0, h1, h2, h3, h4⟩ := hb.1 rfl
    simp [h0, h1, h2, h3, h4]
  | false =>
    have hno : ¬ (E 0 = F 0 ∧ E 1 = F 1 ∧ E 2 = F 2 ∧ E 3 = F 3 ∧ E 4 = F 4) := fun h => by have := hb.2 h; cases this
    by_cases h0 : E 0 = F 0
    · by_cases h1 : E 1 = F 1
      · by_cases h2 : E 2 = F 2
        · by_cases h3 : E 3 = F 3
          · by_cases h4 : E 4 = F 4
            · exact absurd ⟨h0, h1, h2, h3, h4⟩ hno
            · simp [h0, h1, h2, h3, h4]
          · simp [h0, h1, h2, h3]
        · simp [h0, h1, h2]
      · simp [h0, h1]
    · simp [h0]
set_option maxRecDepth 100000 in
set_option maxHeartbeats 4000000 in
theorem isAtMost_any (E F : Nat → Int) (w : World) (b : Bool) (hb : b = true ↔ ∀ i, i < 5 → E i ≤ F i) :
    Calls Try.prog 90 #[cv E, cv F] w fun e w' => e = .returned (.bool b) ∧ Below w.heap.size w w' := by
  have heq := eq_clk (jn E F) F b (hb.trans ⟨fun h i hi => by have := h i hi; unfold jn; omega, fun h i hi => by have := h i hi; unfold jn at this; omega⟩)
  have CJ := hide (joinClocks_any E F)
  clear hb
  go_enter Try.func90, Try.ntmps90
  go_wp2
  obtain ⟨W, hW⟩ : ∃ W, W = ((w.alloc (.cells #[.int .i64 (E 0), .int .i64 (E 1), .int .i64 (E 2), .int .i64 (E 3), .int .i64 (E 4)] 112)).alloc (.cells #[.int .i64 (F 0), .int .i64 (F 1), .int .i64 (F 2), .int .i64 (F 3), .int .i64 (F 4)] 112)) := ⟨_, rfl⟩
  rw [← hW]
  have hA : Clk W w.heap.size w.heap.size E := by rw [hW]; exact (clk_new w _ _ rfl (Nat.le_refl _) E).alloc _
  have hB : Clk W w.heap.size (w.heap.size + 1) F := by rw [hW]; exact clk_new _ _ _ (by simp) (by omega) F
  have hbel : Below w.heap.size w W := by rw [hW]; exact ((Below.refl _ _).alloc (Nat.le_refl _) _).alloc (by simp) _
  have gE0 := hA.cell 0 (by omega)
  have gE1 := hA.cell 1 (by omega)
  have gE2 := hA.cell 2 (by omega)
  have gE3 := hA.cell 3 (by omega)
  have gE4 := hA.cell 4 (by omega)
  have gF0 := hB.cell 0 (by omega)
  have gF1 := hB.cell 1 (by omega)
  have gF2 := hB.cell 2 (by omega)
  have gF3 := hB.cell 3 (by omega)
  have gF4 := hB.cell 4 (by omega)
  clear hW hA hB
  refine wp_region_held_drew (S := (fun wx => wx.cell? ⟨w.heap.size, 0, none⟩ = some (.int .i64 (E 0)) ∧ wx.cell? ⟨w.heap.size, 1, none⟩ = some (.int .i64 (E 1)) ∧ wx.cell? ⟨w.heap.size, 2, none⟩ = some (.int .i64 (E 2)) ∧ wx.cell? ⟨w.heap.size, 3, none⟩ = some (.int .i64 (E 3)) ∧ wx.cell? ⟨w.heap.size, 4, none⟩ = some (.int .i64 (E 4)) ∧ wx.cell? ⟨w.heap.size + 1, 0, none⟩ = some (.int .i64 (F 0)) ∧ wx.cell? ⟨w.heap.size + 1, 1, none⟩ = some (.int .i64 (F 1)) ∧ wx.cell? ⟨w.heap.size + 1, 2, none⟩ = some (.int .i64 (F 2)) ∧ wx.cell? ⟨w.heap.size + 1, 3, none⟩ = some (.int .i64 (F 3)) ∧ wx.cell? ⟨w.heap.size + 1, 4, none⟩ = some (.int .i64 (F 4)) ∧ Below w.heap.size w wx)) (by kernel_rfl) ⟨gE0, gE1, gE2, gE3, gE4, gF0, gF1, gF2, gF3, gF4, hbel.drew⟩ (fun hHeld => ?_)
  refine wpAnyH_take (i := 0) (v := ?v1) rfl (by kernel_rfl) (by kernel_rfl) (by kernel_rfl) (fun _ _ _ h => h) (Or.inl ⟨by rfl, ?y1⟩) (by assumption) ?r1
  case y1 => (intro w hSw; (try dsimp only at hSw); go_simp; try (with_reducible rfl))
  simp only [List.getElem_toArray, List.getElem_cons_zero, Act.put, List.setIfInBounds_toArray, List.set_cons_zero, List.set_cons_succ]
  refine wpAnyH_take (i := 1) (v := ?v2) rfl (by kernel_rfl) (by kernel_rfl) (by kernel_rfl) (fun _ _ _ h => h) (Or.inl ⟨by rfl, ?y2⟩) (by assumption) ?r2
  case y2 => (intro w hSw; (try dsimp only at hSw); go_simp; try (with_reducible rfl))
  simp only [List.getElem_toArray, List.getElem_cons_succ, List.getElem_cons_zero, Act.put, List.setIfInBounds_toArray, List.set_cons_zero, List.set_cons_succ]
  refine wpAnyH_take (i := 3) (v := ?v3) rfl (by kernel_rfl) (by kernel_rfl) (by kernel_rfl) (fun _ _ _ h => h) (Or.inl ⟨by rfl, ?y3⟩) (by assumption) ?r3
  case y3 => (intro w hSw; (try dsimp only at hSw); go_simp; try (with_reducible rfl))
  simp only [List.getElem_toArray, List.getElem_cons_succ, List.getElem_cons_zero, Act.put, List.setIfInBounds_toArray, List.set_cons_zero, List.set_cons_succ]
  refine wpAnyH_ready (rs := [2]) (by kernel_rfl) (by simp) ?_
  refine AllReadyH.cons rfl (fun K hK => ?_) AllReadyH.nil
  simp only [List.getElem_toArray, List.getElem_cons_succ, List.getElem_cons_zero]
  go_simp
  go_at_call 93
  refine (CJ.out _).mono ?_
  rintro e w1 ⟨rfl, hb1⟩
  dsimp only
  refine hK.out _ _ ?_ (fun hHeld => ?_)
  · exact ⟨(hb1.cell (p := ⟨w.heap.size, 0, none⟩) (blk_lt hHeld.1)).trans hHeld.1, (hb1.cell (p := ⟨w.heap.size, 1, none⟩) (blk_lt hHeld.2.1)).trans hHeld.2.1, (hb1.cell (p := ⟨w.heap.size, 2, none⟩) (blk_lt hHeld.2.2.1)).trans hHeld.2.2.1, (hb1.cell (p := ⟨w.heap.size, 3, none⟩) (blk_lt hHeld.2.2.2.1)).trans hHeld.2.2.2.1, (hb1.cell (p := ⟨w.heap.size, 4, none⟩) (blk_lt hHeld.2.2.2.2.1)).trans hHeld.2.2.2.2.1, (hb1.cell (p := ⟨w.heap.size + 1, 0, none⟩) (blk_lt hHeld.2.2.2.2.2.1)).trans hHeld.2.2.2.2.2.1, (hb1.cell (p := ⟨w.heap.size + 1, 1, none⟩) (blk_lt hHeld.2.2.2.2.2.2.1)).trans hHeld.2.2.2.2.2.2.1, (hb1.cell (p := ⟨w.heap.size + 1, 2, none⟩) (blk_lt hHeld.2.2.2.2.2.2.2.1)).trans hHeld.2.2.2.2.2.2.2.1, (hb1.cell (p := ⟨w.heap.size + 1, 3, none⟩) (blk_lt hHeld.2.2.2.2.2.2.2.2.1)).trans hHeld.2.2.2.2.2.2.2.2.1, (hb1.cell (p := ⟨w.heap.size + 1, 4, none⟩) (blk_lt hHeld.2.2.2.2.2.2.2.2.2.1)).trans hHeld.2.2.2.2.2.2.2.2.2.1, hHeld.2.2.2.2.2.2.2.2.2.2.trans (hb1.mono hHeld.2.2.2.2.2.2.2.2.2.2.size)⟩
  clear hK K
  try simp only [Act.put, List.setIfInBounds_toArray, List.set_cons_zero, List.set_cons_succ]
  refine wpAnyH_take (i := 4) (v := ?v4) rfl (by kernel_rfl) (by kernel_rfl) (by kernel_rfl) (fun _ _ _ h => h) (Or.inl ⟨by rfl, ?y4⟩) (by assumption) ?r4
  case y4 => (intro w hSw; (try dsimp only at hSw); go_simp; try (with_reducible rfl))
  simp only [List.getElem_toArray, List.getElem_cons_succ, List.getElem_cons_zero, Act.put, List.setIfInBounds_toArray, List.set_cons_zero, List.set_cons_succ]
  refine wpAnyH_take (i := 5) (v := ?v5) rfl (by kernel_rfl) (by kernel_rfl) (by kernel_rfl) (fun _ _ _ h => h) (Or.inl ⟨by rfl, ?y5⟩) (by assumption) ?r5
  case y5 => (intro w hSw; (try dsimp only at hSw); go_simp; try (with_reducible rfl))
  simp only [List.getElem_toArray, List.getElem_cons_succ, List.getElem_cons_zero, Act.put, List.setIfInBounds_toArray, List.set_cons_zero, List.set_cons_succ]
  refine wpAnyH_done (by kernel_rfl) ?_ _
  go_wp2
  go_ret
  exact ⟨rfl, hHeld.2.2.2.2.2.2.2.2.2.2⟩
set_option maxRecDepth 100000 in
set_option maxHeartbeats 4000000 in
theorem isLess_any (E F : Nat → Int) (w : World) (b : Bool) (hb : b = true ↔ (∀ i, i < 5 → E i ≤ F i) ∧ ¬ ∀ i, i < 5 → E i = F i) :
    Calls Try.prog 76 #[cv E, cv F] w fun e w' => e = .returned (.bool b) ∧ Below w.heap.size w w' := by
  by_cases he : ∀ i, i < 5 → E i = F i
  · have heq := eq_clk E F true (by simpa using he)
    have HB : Hid (b = false) := by
      cases b with
      | false => rfl
      | true => exact absurd he (hb.1 rfl).2
    clear hb he
    go_enter Try.func76, Try.ntmps76
    go_wp2
    go_ret
    exact ⟨by rw [HB.out]; rfl, ((Below.refl _ _).alloc (Nat.le_refl _) _).alloc (by simp) _⟩
  · have heq := eq_clk E F false (by simpa using he)
    have C := hide (fun w => isAtMost_any E F w b (hb.trans ⟨fun h => h.1, fun h => ⟨h, he⟩⟩))
    clear hb he
    go_enter Try.func76, Try.ntmps76
    go_wp2_with fail
    refine (C.out _).mono ?_
    rintro e w1 ⟨rfl, hb1⟩
    have B1 := hide hb1
    clear hb1
    go_wp2
    go_ret
    exact ⟨rfl, ((((Below.refl _ _).alloc (Nat.le_refl _) _).alloc (by simp) _).trans (B1.out.mono (by simp; omega)))⟩
end Go.Proofs.Ytkfnejiiancmhad.L11

namespace Go.Proofs.Ytkfnejiiancmhad.L11
open Go.RowKit L1 Own
set_option linter.unusedVariables false

/-- Two events are asked for. -/
def CFok (N : Int) (l : List Ev) (A B : Int) : Prop := GoodV N l ∧ (0 ≤ A ∧ A < (l.length : Int)) ∧ (0 ≤ B ∧ B < (l.length : Int))
set_option maxRecDepth 100000 in
set_option maxHeartbeats 4000000 in
theorem cameFirst_any (N : Int) (a : Option Addr) (l : List (Int × Int)) (n cap : Nat) (A B : Int) (w : World) (hn : l.length = n) (hs : Sl2 w a l) (hn2 : n ≤ 1048576) (c r : Bool) (hc : c = true ↔ CFok N l A B) (hr : r = true ↔ CFok N l A B ∧ Anc l A.toNat B.toNat) :
    Calls Try.prog 31 #[.int .i64 N, .slice a n cap, .int .i64 A, .int .i64 B] w fun e w' => e = .returned (.tuple #[.bool r, .bool c]) ∧ Below w.heap.size w w' := by
  have hrc : c = false → r = false := fun e => by
    subst e
    cases r with
    | false => rfl
    | true => exact absurd (hc.2 (hr.1 rfl).1) (by simp)
  by_cases hg : GoodV N l
  case neg =>
    have CG := hide (fun w hs => goodEvents_any N a l n cap w hn hs hn2 false (by simp [hg]))
    obtain rfl : c = false := by
      cases c with
      | false => rfl
      | true => exact absurd (hc.1 rfl) (fun h => hg h.1)
    obtain rfl := hrc rfl
    have HS := hide hs
    clear hg hc hr hrc hs hn
    go_enter Try.func31, Try.ntmps31
    go_wp2_with fail
    refine (CG.out _ HS.out).mono ?_
    rintro e w1 ⟨rfl, hb1⟩
    have B1 := hide hb1
    clear hb1
    go_wp2
    go_ret2
    exact ⟨rfl, B1.out⟩
  have CG := hide (fun w hs => goodEvents_any N a l n cap w hn hs hn2 true (by simp [hg]))
  by_cases hA : 0 ≤ A ∧ A < (n : Int)
  case neg =>
    have CA := hide (fun w => isBelow_any A (n : Int) w false (by simp; omega))
    obtain rfl : c = false := by
      cases c with
      | false => rfl
      | true => exact absurd (hc.1 rfl) (fun h => hA (by rw [← hn]; exact h.2.1))
    obtain rfl := hrc rfl
    have HS := hide hs
    clear hg hc hr hrc hs hn hA
    go_enter Try.func31, Try.ntmps31
    go_wp2_with fail
    refine (CG.out _ HS.out).mono ?_
    rintro e w1 ⟨rfl, hb1⟩
    have B1 := hide hb1
    clear hb1
    go_wp2_with fail
    refine (CA.out _).mono ?_
    rintro e w2 ⟨rfl, rfl⟩
    go_wp2
    go_ret2
    exact ⟨rfl, B1.out⟩
  have CA := hide (fun w => isBelow_any A (n : Int) w true (by simp; omega))
  by_cases hB : 0 ≤ B ∧ B < (n : Int)
  case neg =>
    have CB := hide (fun w => isBelow_any B (n : Int) w false (by simp; omega))
    obtain rfl : c = false := by
      cases c with
      | false => rfl
      | true => exact absurd (hc.1 rfl) (fun h => hB (by rw [← hn]; exact h.2.2))
    obtain rfl := hrc rfl
    have HS := hide hs
    clear hg hc hr hrc hs hn hA hB
    go_enter Try.func31, Try.ntmps31
    go_wp2_with fail
    refine (CG.out _ HS.out).mono ?_
    rintro e w1 ⟨rfl, hb1⟩
    have B1 := hide hb1
    clear hb1
    go_wp2_with fail
    refine (CA.out _).mono ?_
    rintro e w2 ⟨rfl, rfl⟩
    go_wp2_with fail
    refine (CB.out _).mono ?_
    rintro e w2 ⟨rfl, rfl⟩
    go_wp2
    go_ret2
    exact ⟨rfl, B1.out⟩
  have CB := hide (fun w => isBelow_any B (n : Int) w true (by simp; omega))
  obtain ⟨An, hAn⟩ : ∃ An : Nat, A = (An : Int) := ⟨A.toNat, by omega⟩
  obtain ⟨Bn, hBn⟩ : ∃ Bn : Nat, B = (Bn : Int) := ⟨B.toNat, by omega⟩
  subst hAn
  subst hBn
  have hAl : An < n := by omega
  have hBl : Bn < n := by omega
  have hok : CFok N l An Bn := ⟨hg, by rw [hn]; exact hA, by rw [hn]; exact hB⟩
  obtain rfl : c = true := hc.2 hok
  have CC := hide (fun w hs => clocksOf_any N a l n cap w hn hs hg)
  have CL := hide (fun w => isLess_any (cE l An) (cE l Bn) w r (by
    rw [hr]
    refine Iff.trans ⟨fun h => h.2, fun h => ⟨hok, h⟩⟩ ?_
    exact (anc_cE hg An Bn (by omega) (by omega)).symm))
  have HS := hide hs
  have hAI : (An : Int) < (n : Int) := by omega
  have hA0 : (0 : Int) ≤ (An : Int) := by omega
  have hBI : (Bn : Int) < (n : Int) := by omega
  have hB0 : (0 : Int) ≤ (Bn : Int) := by omega
  clear hg hc hr hrc hs hn hA hB hok
  go_enter Try.func31, Try.ntmps31
  go_wp2_with fail
  refine (CG.out _ HS.out).mono ?_
  rintro e w1 ⟨rfl, hb1⟩
  have B1 := hide hb1
  clear hb1
  go_wp2_with fail
  refine (CA.out _).mono ?_
  rintro e w2 ⟨rfl, rfl⟩
  go_wp2_with fail
  refine (CB.out _).mono ?_
  rintro e w2 ⟨rfl, rfl⟩
  go_wp2_with fail
  refine (CC.out _ (HS.out.below B1.out)).mono ?_
  rintro e w3 ⟨v, rfl, ho, hb3⟩
  have B3 := hide (B1.out.trans (hb3.mono B1.out.size))
  obtain ⟨oq, ocap, rfl⟩ : ∃ oq ocap, v = .slice (some ⟨oq, 0, none⟩) n ocap := by
    rcases ho.2 with ⟨hv, h0⟩ | ⟨q, cap, cur, hv, _⟩
    · omega
    · exact ⟨q, cap, hv⟩
  have p0 := ho.cells (g := oq) rfl (An * 5 + 0) _ (flat5_get (cE l) n An 0 hAl (by omega))
  have q0 := ho.cells (g := oq) rfl (Bn * 5 + 0) _ (flat5_get (cE l) n Bn 0 hBl (by omega))
  have p1 := ho.cells (g := oq) rfl (An * 5 + 1) _ (flat5_get (cE l) n An 1 hAl (by omega))
  have q1 := ho.cells (g := oq) rfl (Bn * 5 + 1) _ (flat5_get (cE l) n Bn 1 hBl (by omega))
  have p2 := ho.cells (g := oq) rfl (An * 5 + 2) _ (flat5_get (cE l) n An 2 hAl (by omega))
  have q2 := ho.cells (g := oq) rfl (Bn * 5 + 2) _ (flat5_get (cE l) n Bn 2 hBl (by omega))
  have p3 := ho.cells (g := oq) rfl (An * 5 + 3) _ (flat5_get (cE l) n An 3 hAl (by omega))
  have q3 := ho.cells (g := oq) rfl (Bn * 5 + 3) _ (flat5_get (cE l) n Bn 3 hBl (by omega))
  have p4 := ho.cells (g := oq) rfl (An * 5 + 4) _ (flat5_get (cE l) n An 4 hAl (by omega))
  have q4 := ho.cells (g := oq) rfl (Bn * 5 + 4) _ (flat5_get (cE l) n Bn 4 hBl (by omega))
  rw [addr_add] at p0 p1 p2 p3 p4 q0 q1 q2 q3 q4
  simp only [Nat.add_zero] at p0 p1 p2 p3 p4 q0 q1 q2 q3 q4
  obtain ⟨E, hE⟩ : ∃ E : Nat → Int, E = cE l An := ⟨_, rfl⟩
  obtain ⟨F, hF⟩ : ∃ F : Nat → Int, F = cE l Bn := ⟨_, rfl⟩
  rw [← hE] at p0 p1 p2 p3 p4 CL
  rw [← hF] at q0 q1 q2 q3 q4 CL
  clear ho hb3 hE hF CC CA CB CG B1
  go_upto_region 4 with fail
  refine wp_region_held_drew (S := (fun wx => wx.cell? ⟨oq, An * 5, none⟩ = some (.int .i64 (E 0)) ∧ wx.cell? ⟨oq, An * 5 + 1, none⟩ = some (.int .i64 (E 1)) ∧ wx.cell? ⟨oq, An * 5 + 2, none⟩ = some (.int .i64 (E 2)) ∧ wx.cell? ⟨oq, An * 5 + 3, none⟩ = some (.int .i64 (E 3)) ∧ wx.cell? ⟨oq, An * 5 + 4, none⟩ = some (.int .i64 (E 4)) ∧ wx.cell? ⟨oq, Bn * 5, none⟩ = some (.int .i64 (F 0)) ∧ wx.cell? ⟨oq, Bn * 5 + 1, none⟩ = some (.int .i64 (F 1)) ∧ wx.cell? ⟨oq, Bn * 5 + 2, none⟩ = some (.int .i64 (F 2)) ∧ wx.cell? ⟨oq, Bn * 5 + 3, none⟩ = some (.int .i64 (F 3)) ∧ wx.cell? ⟨oq, Bn * 5 + 4, none⟩ = some (.int .i64 (F 4)) ∧ Below w3.heap.size w3 wx)) (by kernel_rfl) ⟨p0, p1, p2, p3, p4, q0, q1, q2, q3, q4, (Below.refl _ _).drew⟩ (fun hHeld => ?_)
  refine wpAnyH_take (i := 0) (v := ?v1) rfl (by kernel_rfl) (by kernel_rfl) (by kernel_rfl) (fun _ _ _ h => h) (Or.inl ⟨by rfl, ?y1⟩) (by assumption) ?r1
  case y1 => (intro w hSw; (try dsimp only at hSw); go_simp; try (with_reducible rfl))
  simp only [List.getElem_toArray, List.getElem_cons_zero, Act.put, List.setIfInBounds_toArray, List.set_cons_zero, List.set_cons_succ]
  refine wpAnyH_take (i := 1) (v := ?v2) rfl (by kernel_rfl) (by kernel_rfl) (by kernel_rfl) (fun _ _ _ h => h) (Or.inl ⟨by rfl, ?y2⟩) (by assumption) ?r2
  case y2 => (intro w hSw; (try dsimp only at hSw); go_simp; try (with_reducible rfl))
  simp only [List.getElem_toArray, List.getElem_cons_succ, List.getElem_cons_zero, Act.put, List.setIfInBounds_toArray, List.set_cons_zero, List.set_cons_succ]
  refine wpAnyH_take (i := 2) (v := ?v3) rfl (by kernel_rfl) (by kernel_rfl) (by kernel_rfl) (fun _ _ _ h => h) (Or.inl ⟨by rfl, ?y3⟩) (by assumption) ?r3
  case y3 => (intro w hSw; (try dsimp only at hSw); go_simp; try (with_reducible rfl))
  simp only [List.getElem_toArray, List.getElem_cons_succ, List.getElem_cons_zero, Act.put, List.setIfInBounds_toArray, List.set_cons_zero, List.set_cons_succ]
  refine wpAnyH_take (i := 3) (v := ?v4) rfl (by kernel_rfl) (by kernel_rfl) (by kernel_rfl) (fun _ _ _ h => h) (Or.inl ⟨by rfl, ?y4⟩) (by assumption) ?r4
  case y4 => (intro w hSw; (try dsimp only at hSw); go_simp; try (with_reducible rfl))
  simp only [List.getElem_toArray, List.getElem_cons_succ, List.getElem_cons_zero, Act.put, List.setIfInBounds_toArray, List.set_cons_zero, List.set_cons_succ]
  refine wpAnyH_take (i := 4) (v := ?v5) rfl (by kernel_rfl) (by kernel_rfl) (by kernel_rfl) (fun _ _ _ h => h) (Or.inl ⟨by rfl, ?y5⟩) (by assumption) ?r5
  case y5 => (intro w hSw; (try dsimp only at hSw); go_simp; try (with_reducible rfl))
  simp only [List.getElem_toArray, List.getElem_cons_succ, List.getElem_cons_zero, Act.put, List.setIfInBounds_toArray, List.set_cons_zero, List.set_cons_succ]
  refine wpAnyH_take (i := 5) (v := ?v6) rfl (by kernel_rfl) (by kernel_rfl) (by kernel_rfl) (fun _ _ _ h => h) (Or.inl ⟨by rfl, ?y6⟩) (by assumption) ?r6
  case y6 => (intro w hSw; (try dsimp only at hSw); go_simp; try (with_reducible rfl))
  simp only [List.getElem_toArray, List.getElem_cons_succ, List.getElem_cons_zero, Act.put, List.setIfInBounds_toArray, List.set_cons_zero, List.set_cons_succ]
  refine wpAnyH_take (i := 6) (v := ?v7) rfl (by kernel_rfl) (by kernel_rfl) (by kernel_rfl) (fun _ _ _ h => h) (Or.inl ⟨by rfl, ?y7⟩) (by assumption) ?r7
  case y7 => (intro w hSw; (try dsimp only at hSw); go_simp; try (with_reducible rfl))
  simp only [List.getElem_toArray, List.getElem_cons_succ, List.getElem_cons_zero, Act.put, List.setIfInBounds_toArray, List.set_cons_zero, List.set_cons_succ]
  refine wpAnyH_take (i := 7) (v := ?v8) rfl (by kernel_rfl) (by kernel_rfl) (by kernel_rfl) (fun _ _ _ h => h) (Or.inl ⟨by rfl, ?y8⟩) (by assumption) ?r8
  case y8 => (intro w hSw; (try dsimp only at hSw); go_simp; try (with_reducible rfl))
  simp only [List.getElem_toArray, List.getElem_cons_succ, List.getElem_cons_zero, Act.put, List.setIfInBounds_toArray, List.set_cons_zero, List.set_cons_succ]
  refine wpAnyH_ready (rs := [8]) (by kernel_rfl) (by simp) ?_
  refine AllReadyH.cons rfl (fun K hK => ?_) AllReadyH.nil
  simp only [List.getElem_toArray, List.getElem_cons_succ, List.getElem_cons_zero]
  go_simp
  go_at_call 76
  refine (CL.out _).mono ?_
  rintro e w4 ⟨rfl, hb4⟩
  dsimp only
  refine hK.out _ _ ?_ (fun hHeld => ?_)
  · exact ⟨(hb4.cell (p := ⟨oq, An * 5, none⟩) (blk_lt hHeld.1)).trans hHeld.1, (hb4.cell (p := ⟨oq, An * 5 + 1, none⟩) (blk_lt hHeld.2.1)).trans hHeld.2.1, (hb4.cell (p := ⟨oq, An * 5 + 2, none⟩) (blk_lt hHeld.2.2.1)).trans hHeld.2.2.1, (hb4.cell (p := ⟨oq, An * 5 + 3, none⟩) (blk_lt hHeld.2.2.2.1)).trans hHeld.2.2.2.1, (hb4.cell (p := ⟨oq, An * 5 + 4, none⟩) (blk_lt hHeld.2.2.2.2.1)).trans hHeld.2.2.2.2.1, (hb4.cell (p := ⟨oq, Bn * 5, none⟩) (blk_lt hHeld.2.2.2.2.2.1)).trans hHeld.2.2.2.2.2.1, (hb4.cell (p := ⟨oq, Bn * 5 + 1, none⟩) (blk_lt hHeld.2.2.2.2.2.2.1)).trans hHeld.2.2.2.2.2.2.1, (hb4.cell (p := ⟨oq, Bn * 5 + 2, none⟩) (blk_lt hHeld.2.2.2.2.2.2.2.1)).trans hHeld.2.2.2.2.2.2.2.1, (hb4.cell (p := ⟨oq, Bn * 5 + 3, none⟩) (blk_lt hHeld.2.2.2.2.2.2.2.2.1)).trans hHeld.2.2.2.2.2.2.2.2.1, (hb4.cell (p := ⟨oq, Bn * 5 + 4, none⟩) (blk_lt hHeld.2.2.2.2.2.2.2.2.2.1)).trans hHeld.2.2.2.2.2.2.2.2.2.1, hHeld.2.2.2.2.2.2.2.2.2.2.trans (hb4.mono hHeld.2.2.2.2.2.2.2.2.2.2.size)⟩
  clear hK K
  try simp only [Act.put, List.setIfInBounds_toArray, List.set_cons_zero, List.set_cons_succ]
  refine wpAnyH_take (i := 9) (v := ?v9) rfl (by kernel_rfl) (by kernel_rfl) (by kernel_rfl) (fun _ _ _ h => h) (Or.inl ⟨by rfl, ?y9⟩) (by assumption) ?r9
  case y9 => (intro w hSw; (try dsimp only at hSw); go_simp; try (with_reducible rfl))
  simp only [List.getElem_toArray, List.getElem_cons_succ, List.getElem_cons_zero, Act.put, List.setIfInBounds_toArray, List.set_cons_zero, List.set_cons_succ]
  refine wpAnyH_take (i := 10) (v := ?v10) rfl (by kernel_rfl) (by kernel_rfl) (by kernel_rfl) (fun _ _ _ h => h) (Or.inl ⟨by rfl, ?y10⟩) (by assumption) ?r10
  case y10 => (intro w hSw; (try dsimp only at hSw); go_simp; try (with_reducible rfl))
  simp only [List.getElem_toArray, List.getElem_cons_succ, List.getElem_cons_zero, Act.put, List.setIfInBounds_toArray, List.set_cons_zero, List.set_cons_succ]
  refine wpAnyH_done (by kernel_rfl) ?_ _
  go_wp2
  go_ret2
  exact ⟨rfl, B3.out.trans (hHeld.2.2.2.2.2.2.2.2.2.2.mono B3.out.size)⟩
end Go.Proofs.Ytkfnejiiancmhad.L11

namespace Go.Proofs.Ytkfnejiiancmhad.L11
open Go.RowKit L1 Own
set_option linter.unusedVariables false

theorem wrap6 (z : Int) (h1 : -9223372036854775808 ≤ z) (h2 : z ≤ 9223372036854775807) : IntKind.i64.wrap z = z := by
  simp [IntKind.wrap, IntKind.bits, IntKind.signed]
  omega
/-- The event at a place is good, its node at most a number. -/
def StepM (M : Int) (l : List Ev) (k : Nat) : Prop := 0 ≤ nd l k ∧ nd l k ≤ M ∧ -1 ≤ fr l k ∧ fr l k ≤ (k : Int) - 1 ∧ (0 ≤ fr l k → nd l (fr l k).toNat ≠ nd l k)
set_option maxRecDepth 100000 in
set_option maxHeartbeats 4000000 in
theorem specGoodEvents_any (N : Int) (a : Option Addr) (l : List (Int × Int)) (n cap : Nat) (w : World) (hn : l.length = n) (hs : Sl2 w a l) (hn2 : n ≤ 1048576) (hN : N ≤ 9223372036854775807) (bb : Bool) (hbb : bb = true ↔ GoodV N l) :
    Calls Try.prog 77 #[.int .i64 N, .slice a n cap] w fun e w' => e = .returned (.bool bb) ∧ Below w.heap.size w w' := by
  obtain ⟨M, hM⟩ : ∃ M, IntKind.i64.wrap (N - 1) = M := ⟨_, rfl⟩
  have hMN : 1 ≤ N → M = N - 1 := fun h => by
    rw [← hM]
    exact wrap6 _ (by omega) (by omega)
  have HMN := hide hMN
  have HBB := hide hbb
  have HS := hide hs
  have HN := hide hn
  clear hs hn hbb hN hMN
  go_enter Try.func77, Try.ntmps77
  go_wp2
  go_loopw [9] (fun i wr => ∃ k : Nat, k ≤ n ∧ i = .int .i64 k ∧ Hid (∀ j, j < k → StepM M l j) ∧ Below w.heap.size w wr) (fun i _ => n - (intOf i).toNat)
  case atStart => exact ⟨0, Nat.zero_le _, rfl, fun j hj => absurd hj (Nat.not_lt_zero _), Below.refl _ _⟩
  case round =>
    obtain ⟨k, hk, rfl, HJ, hbel⟩ := hrel
    by_cases hlt : k < n
    · have hno : bb = true → StepM M l k := fun h => by
        have h1 := HBB.out.1 h
        have h2 := h1.2.2.2 k (by rw [HN.out]; exact hlt)
        have h3 := HMN.out h1.1
        exact ⟨h2.1, by have := h2.2.1; omega, h2.2.2.1, by have := h2.2.2.2.1; omega, h2.2.2.2.2⟩
      have hste : StepM M l k ↔ 0 ≤ nd l k ∧ nd l k ≤ M ∧ -1 ≤ fr l k ∧ fr l k ≤ (k : Int) - 1 ∧ (0 ≤ fr l k → nd l (fr l k).toNat ≠ nd l k) := Iff.rfl
      obtain ⟨b, off, rfl, hc0, hd0⟩ := HS.out k (by rw [HN.out]; exact hlt)
      have hc : wr.cell? ⟨b, off + k * 2, none⟩ = some (.int .i64 (nd l k)) := (hbel.cell (p := ⟨b, off + k * 2, none⟩) (blk_lt hc0)).trans hc0
      have hd : wr.cell? ⟨b, off + k * 2 + 1, none⟩ = some (.int .i64 (fr l k)) := (hbel.cell (p := ⟨b, off + k * 2 + 1, none⟩) (blk_lt hd0)).trans hd0
      have hzc : ∀ f : Nat, f < n → wr.cell? ⟨b, off + f * 2, none⟩ = some (.int .i64 (nd l f)) := fun f hf => ((HS.out.below hbel).two f (by rw [HN.out]; exact hf)).1
      have hltI : (k : Int) < (n : Int) := by omega
      obtain ⟨km, hkm⟩ : ∃ km, IntKind.i64.wrap ((k : Int) - 1) = km := ⟨_, rfl⟩
      have hkm2 : km = (k : Int) - 1 := by rw [← hkm]; exact wrap6 _ (by omega) (by omega)
      obtain ⟨x, hx⟩ : ∃ x, x = nd l k := ⟨_, rfl⟩
      obtain ⟨y, hy⟩ : ∃ y, y = fr l k := ⟨_, rfl⟩
      rw [← hx] at hc
      rw [← hy] at hd
      rw [← hx, ← hy, ← hkm2] at hste
      have HKM := hide hkm2
      have HNO := hide hno
      have HSTE := hide hste
      have HZC := hide hzc
      have B0 := hide hbel
      clear hc0 hd0 hx hy hbel hno hste hkm2 hzc
      go_wp2
      obtain ⟨W0, hW0⟩ : ∃ W0, wr.alloc (.cells #[.int .i64 x, .int .i64 y] 118) = W0 := ⟨_, rfl⟩
      have c0 : W0.cell? ⟨wr.heap.size, 0, none⟩ = some (.int .i64 x) := by rw [← hW0]; simp
      have c1 : W0.cell? ⟨wr.heap.size, 1, none⟩ = some (.int .i64 y) := by rw [← hW0]; simp
      have hb0 : Below wr.heap.size wr W0 := by rw [← hW0]; exact (Below.refl _ _).alloc (Nat.le_refl _) _
      rw [hW0]
      clear hW0
      by_cases hA : 0 ≤ x ∧ x ≤ M
      case neg =>
        have CA := hide (fun w => l1In_any x 0 M w false (by simp; omega))
        have E : Hid (bb = false) := by
          cases bb with
          | false => rfl
          | true => have := HSTE.out.1 (HNO.out rfl); omega
        clear hA
        refine wp_region_held_drew (S := (fun wx => wx.cell? ⟨wr.heap.size, 0, none⟩ = some (.int .i64 x) ∧ wx.cell? ⟨wr.heap.size, 1, none⟩ = some (.int .i64 y) ∧ Below W0.heap.size W0 wx)) (by kernel_rfl) ⟨c0, c1, (Below.refl _ _).drew⟩ (fun hHeld => ?_)
        refine wpAnyH_take (i := 0) (v := ?v1) rfl (by kernel_rfl) (by kernel_rfl) (by kernel_rfl) (fun _ _ _ h => h) (Or.inl ⟨by rfl, ?y1⟩) (by assumption) ?r1
        case y1 => (intro w hSw; (try dsimp only at hSw); go_simp; try (with_reducible rfl))
        simp only [List.getElem_toArray, List.getElem_cons_zero, Act.put, List.setIfInBounds_toArray, List.set_cons_zero, List.set_cons_succ]
        refine wpAnyH_take (i := 1) (v := ?v2) rfl (by kernel_rfl) (by kernel_rfl) (by kernel_rfl) (fun _ _ _ h => h) (Or.inl ⟨by rfl, ?y2⟩) (by assumption) ?r2
        case y2 => (intro w hSw; (try dsimp only at hSw); go_simp; try (with_reducible rfl))
        simp only [List.getElem_toArray, List.getElem_cons_succ, List.getElem_cons_zero, Act.put, List.setIfInBounds_toArray, List.set_cons_zero, List.set_cons_succ]
        refine wpAnyH_take (i := 2) (v := ?v3) rfl (by kernel_rfl) (by kernel_rfl) (by kernel_rfl) (fun _ _ _ h => h) (Or.inl ⟨by rfl, ?y3⟩) (by assumption) ?r3
        case y3 => (intro w hSw; (try dsimp only at hSw); go_simp; try (with_reducible rfl))
        simp only [List.getElem_toArray, List.getElem_cons_succ, List.getElem_cons_zero, Act.put, List.setIfInBounds_toArray, List.set_cons_zero, List.set_cons_succ]
        refine wpAnyH_take (i := 3) (v := ?v4) rfl (by kernel_rfl) (by kernel_rfl) (by kernel_rfl) (fun _ _ _ h => h) (Or.inl ⟨by rfl, ?y4⟩) (by assumption) ?r4
        case y4 => (intro w hSw; (try dsimp only at hSw); go_simp; try (with_reducible rfl))
        simp only [List.getElem_toArray, List.getElem_cons_succ, List.getElem_cons_zero, Act.put, List.setIfInBounds_toArray, List.set_cons_zero, List.set_cons_succ]
        refine wpAnyH_ready (rs := [4]) (by kernel_rfl) (by simp) ?_
        refine AllReadyH.cons rfl (fun K hK => ?_) AllReadyH.nil
        simp only [List.getElem_toArray, List.getElem_cons_succ, List.getElem_cons_zero]
        go_simp
        go_at_call 66
        refine (CA.out _).mono ?_
        rintro e w1 ⟨rfl, rfl⟩
        dsimp only
        refine hK.out _ _ ?_ (fun hHeld => ?_)
        · assumption
        clear hK K
        try simp only [Act.put, List.setIfInBounds_toArray, List.set_cons_zero, List.set_cons_succ]
        refine wpAnyH_take (i := 5) (v := ?v5) rfl (by kernel_rfl) (by kernel_rfl) (by kernel_rfl) (fun _ _ _ h => h) (Or.inl ⟨by rfl, ?y5⟩) (by assumption) ?r5
        case y5 => (intro w hSw; (try dsimp only at hSw); go_simp; try (with_reducible rfl))
        simp only [List.getElem_toArray, List.getElem_cons_succ, List.getElem_cons_zero, Act.put, List.setIfInBounds_toArray, List.set_cons_zero, List.set_cons_succ]
        refine wpAnyH_take (i := 6) (v := ?v6) rfl (by kernel_rfl) (by kernel_rfl) (by kernel_rfl) (fun _ _ _ h => h) (Or.inl ⟨by rfl, ?y6⟩) (by assumption) ?r6
        case y6 => (intro w hSw; (try dsimp only at hSw); go_simp; try (with_reducible rfl))
        simp only [List.getElem_toArray, List.getElem_cons_succ, List.getElem_cons_zero, Act.put, List.setIfInBounds_toArray, List.set_cons_zero, List.set_cons_succ]
        refine wpAnyH_take (i := 7) (v := undef) rfl (by kernel_rfl) (by kernel_rfl) (by kernel_rfl) (fun _ _ _ h => h) (Or.inr ⟨by rfl, rfl⟩) (by assumption) ?_
        simp only [List.getElem_toArray, List.getElem_cons_succ, List.getElem_cons_zero, Act.put, List.setIfInBounds_toArray, List.set_cons_zero, List.set_cons_succ]
        refine wpAnyH_take (i := 8) (v := undef) rfl (by kernel_rfl) (by kernel_rfl) (by kernel_rfl) (fun _ _ _ h => h) (Or.inr ⟨by rfl, rfl⟩) (by assumption) ?_
        simp only [List.getElem_toArray, List.getElem_cons_succ, List.getElem_cons_zero, Act.put, List.setIfInBounds_toArray, List.set_cons_zero, List.set_cons_succ]
        refine wpAnyH_take (i := 9) (v := undef) rfl (by kernel_rfl) (by kernel_rfl) (by kernel_rfl) (fun _ _ _ h => h) (Or.inr ⟨by rfl, rfl⟩) (by assumption) ?_
        simp only [List.getElem_toArray, List.getElem_cons_succ, List.getElem_cons_zero, Act.put, List.setIfInBounds_toArray, List.set_cons_zero, List.set_cons_succ]
        refine wpAnyH_take (i := 10) (v := undef) rfl (by kernel_rfl) (by kernel_rfl) (by kernel_rfl) (fun _ _ _ h => h) (Or.inr ⟨by rfl, rfl⟩) (by assumption) ?_
        simp only [List.getElem_toArray, List.getElem_cons_succ, List.getElem_cons_zero, Act.put, List.setIfInBounds_toArray, List.set_cons_zero, List.set_cons_succ]
        refine wpAnyH_take (i := 11) (v := undef) rfl (by kernel_rfl) (by kernel_rfl) (by kernel_rfl) (fun _ _ _ h => h) (Or.inr ⟨by rfl, rfl⟩) (by assumption) ?_
        simp only [List.getElem_toArray, List.getElem_cons_succ, List.getElem_cons_zero, Act.put, List.setIfInBounds_toArray, List.set_cons_zero, List.set_cons_succ]
        refine wpAnyH_take (i := 12) (v := undef) rfl (by kernel_rfl) (by kernel_rfl) (by kernel_rfl) (fun _ _ _ h => h) (Or.inr ⟨by rfl, rfl⟩) (by assumption) ?_
        simp only [List.getElem_toArray, List.getElem_cons_succ, List.getElem_cons_zero, Act.put, List.setIfInBounds_toArray, List.set_cons_zero, List.set_cons_succ]
        refine wpAnyH_take (i := 13) (v := ?v13) rfl (by kernel_rfl) (by kernel_rfl) (by kernel_rfl) (fun _ _ _ h => h) (Or.inl ⟨by rfl, ?y13⟩) (by assumption) ?r13
        case y13 => (intro w hSw; (try dsimp only at hSw); go_simp; try (with_reducible rfl))
        simp only [List.getElem_toArray, List.getElem_cons_succ, List.getElem_cons_zero, Act.put, List.setIfInBounds_toArray, List.set_cons_zero, List.set_cons_succ]
        refine wpAnyH_take (i := 14) (v := ?v14) rfl (by kernel_rfl) (by kernel_rfl) (by kernel_rfl) (fun _ _ _ h => h) (Or.inl ⟨by rfl, ?y14⟩) (by assumption) ?r14
        case y14 => (intro w hSw; (try dsimp only at hSw); go_simp; try (with_reducible rfl))
        simp only [List.getElem_toArray, List.getElem_cons_succ, List.getElem_cons_zero, Act.put, List.setIfInBounds_toArray, List.set_cons_zero, List.set_cons_succ]
        refine wpAnyH_take (i := 15) (v := undef) rfl (by kernel_rfl) (by kernel_rfl) (by kernel_rfl) (fun _ _ _ h => h) (Or.inr ⟨by rfl, rfl⟩) (by assumption) ?_
        simp only [List.getElem_toArray, List.getElem_cons_succ, List.getElem_cons_zero, Act.put, List.setIfInBounds_toArray, List.set_cons_zero, List.set_cons_succ]
        refine wpAnyH_take (i := 16) (v := undef) rfl (by kernel_rfl) (by kernel_rfl) (by kernel_rfl) (fun _ _ _ h => h) (Or.inr ⟨by rfl, rfl⟩) (by assumption) ?_
        simp only [List.getElem_toArray, List.getElem_cons_succ, List.getElem_cons_zero, Act.put, List.setIfInBounds_toArray, List.set_cons_zero, List.set_cons_succ]
        refine wpAnyH_take (i := 17) (v := undef) rfl (by kernel_rfl) (by kernel_rfl) (by kernel_rfl) (fun _ _ _ h => h) (Or.inr ⟨by rfl, rfl⟩) (by assumption) ?_
        simp only [List.getElem_toArray, List.getElem_cons_succ, List.getElem_cons_zero, Act.put, List.setIfInBounds_toArray, List.set_cons_zero, List.set_cons_succ]
        refine wpAnyH_take (i := 18) (v := undef) rfl (by kernel_rfl) (by kernel_rfl) (by kernel_rfl) (fun _ _ _ h => h) (Or.inr ⟨by rfl, rfl⟩) (by assumption) ?_
        simp only [List.getElem_toArray, List.getElem_cons_succ, List.getElem_cons_zero, Act.put, List.setIfInBounds_toArray, List.set_cons_zero, List.set_cons_succ]
        refine wpAnyH_take (i := 19) (v := undef) rfl (by kernel_rfl) (by kernel_rfl) (by kernel_rfl) (fun _ _ _ h => h) (Or.inr ⟨by rfl, rfl⟩) (by assumption) ?_
        simp only [List.getElem_toArray, List.getElem_cons_succ, List.getElem_cons_zero, Act.put, List.setIfInBounds_toArray, List.set_cons_zero, List.set_cons_succ]
        refine wpAnyH_take (i := 20) (v := undef) rfl (by kernel_rfl) (by kernel_rfl) (by kernel_rfl) (fun _ _ _ h => h) (Or.inr ⟨by rfl, rfl⟩) (by assumption) ?_
        simp only [List.getElem_toArray, List.getElem_cons_succ, List.getElem_cons_zero, Act.put, List.setIfInBounds_toArray, List.set_cons_zero, List.set_cons_succ]
        refine wpAnyH_take (i := 21) (v := undef) rfl (by kernel_rfl) (by kernel_rfl) (by kernel_rfl) (fun _ _ _ h => h) (Or.inr ⟨by rfl, rfl⟩) (by assumption) ?_
        simp only [List.getElem_toArray, List.getElem_cons_succ, List.getElem_cons_zero, Act.put, List.setIfInBounds_toArray, List.set_cons_zero, List.set_cons_succ]
        refine wpAnyH_take (i := 22) (v := undef) rfl (by kernel_rfl) (by kernel_rfl) (by kernel_rfl) (fun _ _ _ h => h) (Or.inr ⟨by rfl, rfl⟩) (by assumption) ?_
        simp only [List.getElem_toArray, List.getElem_cons_succ, List.getElem_cons_zero, Act.put, List.setIfInBounds_toArray, List.set_cons_zero, List.set_cons_succ]
        refine wpAnyH_take (i := 23) (v := undef) rfl (by kernel_rfl) (by kernel_rfl) (by kernel_rfl) (fun _ _ _ h => h) (Or.inr ⟨by rfl, rfl⟩) (by assumption) ?_
        simp only [List.getElem_toArray, List.getElem_cons_succ, List.getElem_cons_zero, Act.put, List.setIfInBounds_toArray, List.set_cons_zero, List.set_cons_succ]
        refine wpAnyH_take (i := 24) (v := undef) rfl (by kernel_rfl) (by kernel_rfl) (by kernel_rfl) (fun _ _ _ h => h) (Or.inr ⟨by rfl, rfl⟩) (by assumption) ?_
        simp only [List.getElem_toArray, List.getElem_cons_succ, List.getElem_cons_zero, Act.put, List.setIfInBounds_toArray, List.set_cons_zero, List.set_cons_succ]
        refine wpAnyH_take (i := 25) (v := undef) rfl (by kernel_rfl) (by kernel_rfl) (by kernel_rfl) (fun _ _ _ h => h) (Or.inr ⟨by rfl, rfl⟩) (by assumption) ?_
        simp only [List.getElem_toArray, List.getElem_cons_succ, List.getElem_cons_zero, Act.put, List.setIfInBounds_toArray, List.set_cons_zero, List.set_cons_succ]
        refine wpAnyH_take (i := 26) (v := undef) rfl (by kernel_rfl) (by kernel_rfl) (by kernel_rfl) (fun _ _ _ h => h) (Or.inr ⟨by rfl, rfl⟩) (by assumption) ?_
        simp only [List.getElem_toArray, List.getElem_cons_succ, List.getElem_cons_zero, Act.put, List.setIfInBounds_toArray, List.set_cons_zero, List.set_cons_succ]
        refine wpAnyH_take (i := 27) (v := undef) rfl (by kernel_rfl) (by kernel_rfl) (by kernel_rfl) (fun _ _ _ h => h) (Or.inr ⟨by rfl, rfl⟩) (by assumption) ?_
        simp only [List.getElem_toArray, List.getElem_cons_succ, List.getElem_cons_zero, Act.put, List.setIfInBounds_toArray, List.set_cons_zero, List.set_cons_succ]
        refine wpAnyH_take (i := 28) (v := undef) rfl (by kernel_rfl) (by kernel_rfl) (by kernel_rfl) (fun _ _ _ h => h) (Or.inr ⟨by rfl, rfl⟩) (by assumption) ?_
        simp only [List.getElem_toArray, List.getElem_cons_succ, List.getElem_cons_zero, Act.put, List.setIfInBounds_toArray, List.set_cons_zero, List.set_cons_succ]
        refine wpAnyH_take (i := 29) (v := ?v29) rfl (by kernel_rfl) (by kernel_rfl) (by kernel_rfl) (fun _ _ _ h => h) (Or.inl ⟨by rfl, ?y29⟩) (by assumption) ?r29
        case y29 => (intro w hSw; (try dsimp only at hSw); go_simp; try (with_reducible rfl))
        simp only [List.getElem_toArray, List.getElem_cons_succ, List.getElem_cons_zero, Act.put, List.setIfInBounds_toArray, List.set_cons_zero, List.set_cons_succ]
        refine wpAnyH_done (by kernel_rfl) ?_ _
        have B1 := hide ((B0.out.trans (hb0.mono B0.out.size)).trans (hHeld.2.2.mono (Nat.le_trans B0.out.size hb0.size)))
        clear hHeld
        go_wp2
        go_ret
        exact ⟨by rw [E.out]; rfl, B1.out⟩
      have CA := hide (fun w => l1In_any x 0 M w true (by simp; omega))
      have HA := hide hA
      clear hA
      by_cases hB : -1 ≤ y ∧ y ≤ km
      case neg =>
        have CB := hide (fun w => l1In_any y (-1) km w false (by simp; omega))
        have E : Hid (bb = false) := by
          cases bb with
          | false => rfl
          | true => have := HSTE.out.1 (HNO.out rfl); omega
        clear hB
        refine wp_region_held_drew (S := (fun wx => wx.cell? ⟨wr.heap.size, 0, none⟩ = some (.int .i64 x) ∧ wx.cell? ⟨wr.heap.size, 1, none⟩ = some (.int .i64 y) ∧ Below W0.heap.size W0 wx)) (by kernel_rfl) ⟨c0, c1, (Below.refl _ _).drew⟩ (fun hHeld => ?_)
        refine wpAnyH_take (i := 0) (v := ?v30) rfl (by kernel_rfl) (by kernel_rfl) (by kernel_rfl) (fun _ _ _ h => h) (Or.inl ⟨by rfl, ?y30⟩) (by assumption) ?r30
        case y30 => (intro w hSw; (try dsimp only at hSw); go_simp; try (with_reducible rfl))
        simp only [List.getElem_toArray, List.getElem_cons_zero, Act.put, List.setIfInBounds_toArray, List.set_cons_zero, List.set_cons_succ]
        refine wpAnyH_take (i := 1) (v := ?v31) rfl (by kernel_rfl) (by kernel_rfl) (by kernel_rfl) (fun _ _ _ h => h) (Or.inl ⟨by rfl, ?y31⟩) (by assumption) ?r31
        case y31 => (intro w hSw; (try dsimp only at hSw); go_simp; try (with_reducible rfl))
        simp only [List.getElem_toArray, List.getElem_cons_succ, List.getElem_cons_zero, Act.put, List.setIfInBounds_toArray, List.set_cons_zero, List.set_cons_succ]
        refine wpAnyH_take (i := 2) (v := ?v32) rfl (by kernel_rfl) (by kernel_rfl) (by kernel_rfl) (fun _ _ _ h => h) (Or.inl ⟨by rfl, ?y32⟩) (by assumption) ?r32
        case y32 => (intro w hSw; (try dsimp only at hSw); go_simp; try (with_reducible rfl))
        simp only [List.getElem_toArray, List.getElem_cons_succ, List.getElem_cons_zero, Act.put, List.setIfInBounds_toArray, List.set_cons_zero, List.set_cons_succ]
        refine wpAnyH_take (i := 3) (v := ?v33) rfl (by kernel_rfl) (by kernel_rfl) (by kernel_rfl) (fun _ _ _ h => h) (Or.inl ⟨by rfl, ?y33⟩) (by assumption) ?r33
        case y33 => (intro w hSw; (try dsimp only at hSw); go_simp; try (with_reducible rfl))
        simp only [List.getElem_toArray, List.getElem_cons_succ, List.getElem_cons_zero, Act.put, List.setIfInBounds_toArray, List.set_cons_zero, List.set_cons_succ]
        refine wpAnyH_ready (rs := [4]) (by kernel_rfl) (by simp) ?_
        refine AllReadyH.cons rfl (fun K hK => ?_) AllReadyH.nil
        simp only [List.getElem_toArray, List.getElem_cons_succ, List.getElem_cons_zero]
        go_simp
        go_at_call 66
        refine (CA.out _).mono ?_
        rintro e w1 ⟨rfl, rfl⟩
        dsimp only
        refine hK.out _ _ ?_ (fun hHeld => ?_)
        · assumption
        clear hK K
        try simp only [Act.put, List.setIfInBounds_toArray, List.set_cons_zero, List.set_cons_succ]
        refine wpAnyH_take (i := 5) (v := ?v34) rfl (by kernel_rfl) (by kernel_rfl) (by kernel_rfl) (fun _ _ _ h => h) (Or.inl ⟨by rfl, ?y34⟩) (by assumption) ?r34
        case y34 => (intro w hSw; (try dsimp only at hSw); go_simp; try (with_reducible rfl))
        simp only [List.getElem_toArray, List.getElem_cons_succ, List.getElem_cons_zero, Act.put, List.setIfInBounds_toArray, List.set_cons_zero, List.set_cons_succ]
        refine wpAnyH_take (i := 6) (v := ?v35) rfl (by kernel_rfl) (by kernel_rfl) (by kernel_rfl) (fun _ _ _ h => h) (Or.inl ⟨by rfl, ?y35⟩) (by assumption) ?r35
        case y35 => (intro w hSw; (try dsimp only at hSw); go_simp; try (with_reducible rfl))
        simp only [List.getElem_toArray, List.getElem_cons_succ, List.getElem_cons_zero, Act.put, List.setIfInBounds_toArray, List.set_cons_zero, List.set_cons_succ]
        refine wpAnyH_take (i := 7) (v := ?v36) rfl (by kernel_rfl) (by kernel_rfl) (by kernel_rfl) (fun _ _ _ h => h) (Or.inl ⟨by rfl, ?y36⟩) (by assumption) ?r36
        case y36 => (intro w hSw; (try dsimp only at hSw); go_simp; try (with_reducible rfl))
        simp only [List.getElem_toArray, List.getElem_cons_succ, List.getElem_cons_zero, Act.put, List.setIfInBounds_toArray, List.set_cons_zero, List.set_cons_succ]
        refine wpAnyH_take (i := 8) (v := ?v37) rfl (by kernel_rfl) (by kernel_rfl) (by kernel_rfl) (fun _ _ _ h => h) (Or.inl ⟨by rfl, ?y37⟩) (by assumption) ?r37
        case y37 => (intro w hSw; (try dsimp only at hSw); go_simp; try (with_reducible rfl))
        simp only [List.getElem_toArray, List.getElem_cons_succ, List.getElem_cons_zero, Act.put, List.setIfInBounds_toArray, List.set_cons_zero, List.set_cons_succ]
        refine wpAnyH_take (i := 9) (v := ?v38) rfl (by kernel_rfl) (by kernel_rfl) (by kernel_rfl) (fun _ _ _ h => h) (Or.inl ⟨by rfl, ?y38⟩) (by assumption) ?r38
        case y38 => (intro w hSw; (try dsimp only at hSw); go_simp; try (with_reducible rfl))
        simp only [List.getElem_toArray, List.getElem_cons_succ, List.getElem_cons_zero, Act.put, List.setIfInBounds_toArray, List.set_cons_zero, List.set_cons_succ]
        refine wpAnyH_take (i := 10) (v := ?v39) rfl (by kernel_rfl) (by kernel_rfl) (by kernel_rfl) (fun _ _ _ h => h) (Or.inl ⟨by rfl, ?y39⟩) (by assumption) ?r39
        case y39 => (intro w hSw; (try dsimp only at hSw); go_simp; try (with_reducible rfl))
        simp only [List.getElem_toArray, List.getElem_cons_succ, List.getElem_cons_zero, Act.put, List.setIfInBounds_toArray, List.set_cons_zero, List.set_cons_succ]
        refine wpAnyH_ready (rs := [11]) (by kernel_rfl) (by simp) ?_
        refine AllReadyH.cons rfl (fun K hK => ?_) AllReadyH.nil
        simp only [List.getElem_toArray, List.getElem_cons_succ, List.getElem_cons_zero]
        go_simp
        go_at_call 66
        refine (CB.out _).mono ?_
        rintro e w1 ⟨rfl, rfl⟩
        dsimp only
        refine hK.out _ _ ?_ (fun hHeld => ?_)
        · assumption
        clear hK K
        try simp only [Act.put, List.setIfInBounds_toArray, List.set_cons_zero, List.set_cons_succ]
        refine wpAnyH_take (i := 12) (v := ?v40) rfl (by kernel_rfl) (by kernel_rfl) (by kernel_rfl) (fun _ _ _ h => h) (Or.inl ⟨by rfl, ?y40⟩) (by assumption) ?r40
        case y40 => (intro w hSw; (try dsimp only at hSw); go_simp; try (with_reducible rfl))
        simp only [List.getElem_toArray, List.getElem_cons_succ, List.getElem_cons_zero, Act.put, List.setIfInBounds_toArray, List.set_cons_zero, List.set_cons_succ]
        refine wpAnyH_take (i := 13) (v := ?v41) rfl (by kernel_rfl) (by kernel_rfl) (by kernel_rfl) (fun _ _ _ h => h) (Or.inl ⟨by rfl, ?y41⟩) (by assumption) ?r41
        case y41 => (intro w hSw; (try dsimp only at hSw); go_simp; try (with_reducible rfl))
        simp only [List.getElem_toArray, List.getElem_cons_succ, List.getElem_cons_zero, Act.put, List.setIfInBounds_toArray, List.set_cons_zero, List.set_cons_succ]
        refine wpAnyH_take (i := 14) (v := ?v42) rfl (by kernel_rfl) (by kernel_rfl) (by kernel_rfl) (fun _ _ _ h => h) (Or.inl ⟨by rfl, ?y42⟩) (by assumption) ?r42
        case y42 => (intro w hSw; (try dsimp only at hSw); go_simp; try (with_reducible rfl))
        simp only [List.getElem_toArray, List.getElem_cons_succ, List.getElem_cons_zero, Act.put, List.setIfInBounds_toArray, List.set_cons_zero, List.set_cons_succ]
        refine wpAnyH_take (i := 15) (v := undef) rfl (by kernel_rfl) (by kernel_rfl) (by kernel_rfl) (fun _ _ _ h => h) (Or.inr ⟨by rfl, rfl⟩) (by assumption) ?_
        simp only [List.getElem_toArray, List.getElem_cons_succ, List.getElem_cons_zero, Act.put, List.setIfInBounds_toArray, List.set_cons_zero, List.set_cons_succ]
        refine wpAnyH_take (i := 16) (v := undef) rfl (by kernel_rfl) (by kernel_rfl) (by kernel_rfl) (fun _ _ _ h => h) (Or.inr ⟨by rfl, rfl⟩) (by assumption) ?_
        simp only [List.getElem_toArray, List.getElem_cons_succ, List.getElem_cons_zero, Act.put, List.setIfInBounds_toArray, List.set_cons_zero, List.set_cons_succ]
        refine wpAnyH_take (i := 17) (v := undef) rfl (by kernel_rfl) (by kernel_rfl) (by kernel_rfl) (fun _ _ _ h => h) (Or.inr ⟨by rfl, rfl⟩) (by assumption) ?_
        simp only [List.getElem_toArray, List.getElem_cons_succ, List.getElem_cons_zero, Act.put, List.setIfInBounds_toArray, List.set_cons_zero, List.set_cons_succ]
        refine wpAnyH_take (i := 18) (v := undef) rfl (by kernel_rfl) (by kernel_rfl) (by kernel_rfl) (fun _ _ _ h => h) (Or.inr ⟨by rfl, rfl⟩) (by assumption) ?_
        simp only [List.getElem_toArray, List.getElem_cons_succ, List.getElem_cons_zero, Act.put, List.setIfInBounds_toArray, List.set_cons_zero, List.set_cons_succ]
        refine wpAnyH_take (i := 19) (v := undef) rfl (by kernel_rfl) (by kernel_rfl) (by kernel_rfl) (fun _ _ _ h => h) (Or.inr ⟨by rfl, rfl⟩) (by assumption) ?_
        simp only [List.getElem_toArray, List.getElem_cons_succ, List.getElem_cons_zero, Act.put, List.setIfInBounds_toArray, List.set_cons_zero, List.set_cons_succ]
        refine wpAnyH_take (i := 20) (v := undef) rfl (by kernel_rfl) (by kernel_rfl) (by kernel_rfl) (fun _ _ _ h => h) (Or.inr ⟨by rfl, rfl⟩) (by assumption) ?_
        simp only [List.getElem_toArray, List.getElem_cons_succ, List.getElem_cons_zero, Act.put, List.setIfInBounds_toArray, List.set_cons_zero, List.set_cons_succ]
        refine wpAnyH_take (i := 21) (v := undef) rfl (by kernel_rfl) (by kernel_rfl) (by kernel_rfl) (fun _ _ _ h => h) (Or.inr ⟨by rfl, rfl⟩) (by assumption) ?_
        simp only [List.getElem_toArray, List.getElem_cons_succ, List.getElem_cons_zero, Act.put, List.setIfInBounds_toArray, List.set_cons_zero, List.set_cons_succ]
        refine wpAnyH_take (i := 22) (v := undef) rfl (by kernel_rfl) (by kernel_rfl) (by kernel_rfl) (fun _ _ _ h => h) (Or.inr ⟨by rfl, rfl⟩) (by assumption) ?_
        simp only [List.getElem_toArray, List.getElem_cons_succ, List.getElem_cons_zero, Act.put, List.setIfInBounds_toArray, List.set_cons_zero, List.set_cons_succ]
        refine wpAnyH_take (i := 23) (v := undef) rfl (by kernel_rfl) (by kernel_rfl) (by kernel_rfl) (fun _ _ _ h => h) (Or.inr ⟨by rfl, rfl⟩) (by assumption) ?_
        simp only [List.getElem_toArray, List.getElem_cons_succ, List.getElem_cons_zero, Act.put, List.setIfInBounds_toArray, List.set_cons_zero, List.set_cons_succ]
        refine wpAnyH_take (i := 24) (v := undef) rfl (by kernel_rfl) (by kernel_rfl) (by kernel_rfl) (fun _ _ _ h => h) (Or.inr ⟨by rfl, rfl⟩) (by assumption) ?_
        simp only [List.getElem_toArray, List.getElem_cons_succ, List.getElem_cons_zero, Act.put, List.setIfInBounds_toArray, List.set_cons_zero, List.set_cons_succ]
        refine wpAnyH_take (i := 25) (v := undef) rfl (by kernel_rfl) (by kernel_rfl) (by kernel_rfl) (fun _ _ _ h => h) (Or.inr ⟨by rfl, rfl⟩) (by assumption) ?_
        simp only [List.getElem_toArray, List.getElem_cons_succ, List.getElem_cons_zero, Act.put, List.setIfInBounds_toArray, List.set_cons_zero, List.set_cons_succ]
        refine wpAnyH_take (i := 26) (v := undef) rfl (by kernel_rfl) (by kernel_rfl) (by kernel_rfl) (fun _ _ _ h => h) (Or.inr ⟨by rfl, rfl⟩) (by assumption) ?_
        simp only [List.getElem_toArray, List.getElem_cons_succ, List.getElem_cons_zero, Act.put, List.setIfInBounds_toArray, List.set_cons_zero, List.set_cons_succ]
        refine wpAnyH_take (i := 27) (v := undef) rfl (by kernel_rfl) (by kernel_rfl) (by kernel_rfl) (fun _ _ _ h => h) (Or.inr ⟨by rfl, rfl⟩) (by assumption) ?_
        simp only [List.getElem_toArray, List.getElem_cons_succ, List.getElem_cons_zero, Act.put, List.setIfInBounds_toArray, List.set_cons_zero, List.set_cons_succ]
        refine wpAnyH_take (i := 28) (v := undef) rfl (by kernel_rfl) (by kernel_rfl) (by kernel_rfl) (fun _ _ _ h => h) (Or.inr ⟨by rfl, rfl⟩) (by assumption) ?_
        simp only [List.getElem_toArray, List.getElem_cons_succ, List.getElem_cons_zero, Act.put, List.setIfInBounds_toArray, List.set_cons_zero, List.set_cons_succ]
        refine wpAnyH_take (i := 29) (v := ?v57) rfl (by kernel_rfl) (by kernel_rfl) (by kernel_rfl) (fun _ _ _ h => h) (Or.inl ⟨by rfl, ?y57⟩) (by assumption) ?r57
        case y57 => (intro w hSw; (try dsimp only at hSw); go_simp; try (with_reducible rfl))
        simp only [List.getElem_toArray, List.getElem_cons_succ, List.getElem_cons_zero, Act.put, List.setIfInBounds_toArray, List.set_cons_zero, List.set_cons_succ]
        refine wpAnyH_done (by kernel_rfl) ?_ _
        have B1 := hide ((B0.out.trans (hb0.mono B0.out.size)).trans (hHeld.2.2.mono (Nat.le_trans B0.out.size hb0.size)))
        clear hHeld
        go_wp2
        go_ret
        exact ⟨by rw [E.out]; rfl, B1.out⟩
      have CB := hide (fun w => l1In_any y (-1) km w true (by simp; omega))
      have HB := hide hB
      by_cases h0 : 0 ≤ y
      case neg =>
        have HK : Hid (∀ j, j < k + 1 → StepM M l j) := fun j hj => by
          by_cases e : j = k
          · subst e; have h1 := HA.out; have h2 := HB.out; exact HSTE.out.2 ⟨h1.1, h1.2, h2.1, h2.2, fun h => absurd h h0⟩
          · exact HJ.out j (by omega)
        clear hB
        refine wp_region_held_drew (S := (fun wx => wx.cell? ⟨wr.heap.size, 0, none⟩ = some (.int .i64 x) ∧ wx.cell? ⟨wr.heap.size, 1, none⟩ = some (.int .i64 y) ∧ Below W0.heap.size W0 wx)) (by kernel_rfl) ⟨c0, c1, (Below.refl _ _).drew⟩ (fun hHeld => ?_)
        refine wpAnyH_take (i := 0) (v := ?v58) rfl (by kernel_rfl) (by kernel_rfl) (by kernel_rfl) (fun _ _ _ h => h) (Or.inl ⟨by rfl, ?y58⟩) (by assumption) ?r58
        case y58 => (intro w hSw; (try dsimp only at hSw); go_simp; try (with_reducible rfl))
        simp only [List.getElem_toArray, List.getElem_cons_zero, Act.put, List.setIfInBounds_toArray, List.set_cons_zero, List.set_cons_succ]
        refine wpAnyH_take (i := 1) (v := ?v59) rfl (by kernel_rfl) (by kernel_rfl) (by kernel_rfl) (fun _ _ _ h => h) (Or.inl ⟨by rfl, ?y59⟩) (by assumption) ?r59
        case y59 => (intro w hSw; (try dsimp only at hSw); go_simp; try (with_reducible rfl))
        simp only [List.getElem_toArray, List.getElem_cons_succ, List.getElem_cons_zero, Act.put, List.setIfInBounds_toArray, List.set_cons_zero, List.set_cons_succ]
        refine wpAnyH_take (i := 2) (v := ?v60) rfl (by kernel_rfl) (by kernel_rfl) (by kernel_rfl) (fun _ _ _ h => h) (Or.inl ⟨by rfl, ?y60⟩) (by assumption) ?r60
        case y60 => (intro w hSw; (try dsimp only at hSw); go_simp; try (with_reducible rfl))
        simp only [List.getElem_toArray, List.getElem_cons_succ, List.getElem_cons_zero, Act.put, List.setIfInBounds_toArray, List.set_cons_zero, List.set_cons_succ]
        refine wpAnyH_take (i := 3) (v := ?v61) rfl (by kernel_rfl) (by kernel_rfl) (by kernel_rfl) (fun _ _ _ h => h) (Or.inl ⟨by rfl, ?y61⟩) (by assumption) ?r61
        case y61 => (intro w hSw; (try dsimp only at hSw); go_simp; try (with_reducible rfl))
        simp only [List.getElem_toArray, List.getElem_cons_succ, List.getElem_cons_zero, Act.put, List.setIfInBounds_toArray, List.set_cons_zero, List.set_cons_succ]
        refine wpAnyH_ready (rs := [4]) (by kernel_rfl) (by simp) ?_
        refine AllReadyH.cons rfl (fun K hK => ?_) AllReadyH.nil
        simp only [List.getElem_toArray, List.getElem_cons_succ, List.getElem_cons_zero]
        go_simp
        go_at_call 66
        refine (CA.out _).mono ?_
        rintro e w1 ⟨rfl, rfl⟩
        dsimp only
        refine hK.out _ _ ?_ (fun hHeld => ?_)
        · assumption
        clear hK K
        try simp only [Act.put, List.setIfInBounds_toArray, List.set_cons_zero, List.set_cons_succ]
        refine wpAnyH_take (i := 5) (v := ?v62) rfl (by kernel_rfl) (by kernel_rfl) (by kernel_rfl) (fun _ _ _ h => h) (Or.inl ⟨by rfl, ?y62⟩) (by assumption) ?r62
        case y62 => (intro w hSw; (try dsimp only at hSw); go_simp; try (with_reducible rfl))
        simp only [List.getElem_toArray, List.getElem_cons_succ, List.getElem_cons_zero, Act.put, List.setIfInBounds_toArray, List.set_cons_zero, List.set_cons_succ]
        refine wpAnyH_take (i := 6) (v := ?v63) rfl (by kernel_rfl) (by kernel_rfl) (by kernel_rfl) (fun _ _ _ h => h) (Or.inl ⟨by rfl, ?y63⟩) (by assumption) ?r63
        case y63 => (intro w hSw; (try dsimp only at hSw); go_simp; try (with_reducible rfl))
        simp only [List.getElem_toArray, List.getElem_cons_succ, List.getElem_cons_zero, Act.put, List.setIfInBounds_toArray, List.set_cons_zero, List.set_cons_succ]
        refine wpAnyH_take (i := 7) (v := ?v64) rfl (by kernel_rfl) (by kernel_rfl) (by kernel_rfl) (fun _ _ _ h => h) (Or.inl ⟨by rfl, ?y64⟩) (by assumption) ?r64
        case y64 => (intro w hSw; (try dsimp only at hSw); go_simp; try (with_reducible rfl))
        simp only [List.getElem_toArray, List.getElem_cons_succ, List.getElem_cons_zero, Act.put, List.setIfInBounds_toArray, List.set_cons_zero, List.set_cons_succ]
        refine wpAnyH_take (i := 8) (v := ?v65) rfl (by kernel_rfl) (by kernel_rfl) (by kernel_rfl) (fun _ _ _ h => h) (Or.inl ⟨by rfl, ?y65⟩) (by assumption) ?r65
        case y65 => (intro w hSw; (try dsimp only at hSw); go_simp; try (with_reducible rfl))
        simp only [List.getElem_toArray, List.getElem_cons_succ, List.getElem_cons_zero, Act.put, List.setIfInBounds_toArray, List.set_cons_zero, List.set_cons_succ]
        refine wpAnyH_take (i := 9) (v := ?v66) rfl (by kernel_rfl) (by kernel_rfl) (by kernel_rfl) (fun _ _ _ h => h) (Or.inl ⟨by rfl, ?y66⟩) (by assumption) ?r66
        case y66 => (intro w hSw; (try dsimp only at hSw); go_simp; try (with_reducible rfl))
        simp only [List.getElem_toArray, List.getElem_cons_succ, List.getElem_cons_zero, Act.put, List.setIfInBounds_toArray, List.set_cons_zero, List.set_cons_succ]
        refine wpAnyH_take (i := 10) (v := ?v67) rfl (by kernel_rfl) (by kernel_rfl) (by kernel_rfl) (fun _ _ _ h => h) (Or.inl ⟨by rfl, ?y67⟩) (by assumption) ?r67
        case y67 => (intro w hSw; (try dsimp only at hSw); go_simp; try (with_reducible rfl))
        simp only [List.getElem_toArray, List.getElem_cons_succ, List.getElem_cons_zero, Act.put, List.setIfInBounds_toArray, List.set_cons_zero, List.set_cons_succ]
        refine wpAnyH_ready (rs := [11]) (by kernel_rfl) (by simp) ?_
        refine AllReadyH.cons rfl (fun K hK => ?_) AllReadyH.nil
        simp only [List.getElem_toArray, List.getElem_cons_succ, List.getElem_cons_zero]
        go_simp
        go_at_call 66
        refine (CB.out _).mono ?_
        rintro e w1 ⟨rfl, rfl⟩
        dsimp only
        refine hK.out _ _ ?_ (fun hHeld => ?_)
        · assumption
        clear hK K
        try simp only [Act.put, List.setIfInBounds_toArray, List.set_cons_zero, List.set_cons_succ]
        refine wpAnyH_take (i := 12) (v := ?v68) rfl (by kernel_rfl) (by kernel_rfl) (by kernel_rfl) (fun _ _ _ h => h) (Or.inl ⟨by rfl, ?y68⟩) (by assumption) ?r68
        case y68 => (intro w hSw; (try dsimp only at hSw); go_simp; try (with_reducible rfl))
        simp only [List.getElem_toArray, List.getElem_cons_succ, List.getElem_cons_zero, Act.put, List.setIfInBounds_toArray, List.set_cons_zero, List.set_cons_succ]
        refine wpAnyH_take (i := 13) (v := ?v69) rfl (by kernel_rfl) (by kernel_rfl) (by kernel_rfl) (fun _ _ _ h => h) (Or.inl ⟨by rfl, ?y69⟩) (by assumption) ?r69
        case y69 => (intro w hSw; (try dsimp only at hSw); go_simp; try (with_reducible rfl))
        simp only [List.getElem_toArray, List.getElem_cons_succ, List.getElem_cons_zero, Act.put, List.setIfInBounds_toArray, List.set_cons_zero, List.set_cons_succ]
        refine wpAnyH_take (i := 14) (v := ?v70) rfl (by kernel_rfl) (by kernel_rfl) (by kernel_rfl) (fun _ _ _ h => h) (Or.inl ⟨by rfl, ?y70⟩) (by assumption) ?r70
        case y70 => (intro w hSw; (try dsimp only at hSw); go_simp; try (with_reducible rfl))
        simp only [List.getElem_toArray, List.getElem_cons_succ, List.getElem_cons_zero, Act.put, List.setIfInBounds_toArray, List.set_cons_zero, List.set_cons_succ]
        refine wpAnyH_take (i := 15) (v := ?v71) rfl (by kernel_rfl) (by kernel_rfl) (by kernel_rfl) (fun _ _ _ h => h) (Or.inl ⟨by rfl, ?y71⟩) (by assumption) ?r71
        case y71 => (intro w hSw; (try dsimp only at hSw); go_simp; try (with_reducible rfl))
        simp only [List.getElem_toArray, List.getElem_cons_succ, List.getElem_cons_zero, Act.put, List.setIfInBounds_toArray, List.set_cons_zero, List.set_cons_succ]
        refine wpAnyH_take (i := 16) (v := ?v72) rfl (by kernel_rfl) (by kernel_rfl) (by kernel_rfl) (fun _ _ _ h => h) (Or.inl ⟨by rfl, ?y72⟩) (by assumption) ?r72
        case y72 => (intro w hSw; (try dsimp only at hSw); go_simp; try (with_reducible rfl))
        simp only [List.getElem_toArray, List.getElem_cons_succ, List.getElem_cons_zero, Act.put, List.setIfInBounds_toArray, List.set_cons_zero, List.set_cons_succ]
        refine wpAnyH_take (i := 17) (v := ?v73) rfl (by kernel_rfl) (by kernel_rfl) (by kernel_rfl) (fun _ _ _ h => h) (Or.inl ⟨by rfl, ?y73⟩) (by assumption) ?r73
        case y73 => (intro w hSw; (try dsimp only at hSw); go_simp; try (with_reducible rfl))
        simp only [List.getElem_toArray, List.getElem_cons_succ, List.getElem_cons_zero, Act.put, List.setIfInBounds_toArray, List.set_cons_zero, List.set_cons_succ]
        refine wpAnyH_take (i := 18) (v := ?v74) rfl (by kernel_rfl) (by kernel_rfl) (by kernel_rfl) (fun _ _ _ h => h) (Or.inl ⟨by rfl, ?y74⟩) (by assumption) ?r74
        case y74 => (intro w hSw; (try dsimp only at hSw); go_simp; try (with_reducible rfl))
        simp only [List.getElem_toArray, List.getElem_cons_succ, List.getElem_cons_zero, Act.put, List.setIfInBounds_toArray, List.set_cons_zero, List.set_cons_succ]
        refine wpAnyH_take (i := 19) (v := undef) rfl (by kernel_rfl) (by kernel_rfl) (by kernel_rfl) (fun _ _ _ h => h) (Or.inr ⟨by rfl, rfl⟩) (by assumption) ?_
        simp only [List.getElem_toArray, List.getElem_cons_succ, List.getElem_cons_zero, Act.put, List.setIfInBounds_toArray, List.set_cons_zero, List.set_cons_succ]
        refine wpAnyH_take (i := 20) (v := undef) rfl (by kernel_rfl) (by kernel_rfl) (by kernel_rfl) (fun _ _ _ h => h) (Or.inr ⟨by rfl, rfl⟩) (by assumption) ?_
        simp only [List.getElem_toArray, List.getElem_cons_succ, List.getElem_cons_zero, Act.put, List.setIfInBounds_toArray, List.set_cons_zero, List.set_cons_succ]
        refine wpAnyH_take (i := 21) (v := undef) rfl (by kernel_rfl) (by kernel_rfl) (by kernel_rfl) (fun _ _ _ h => h) (Or.inr ⟨by rfl, rfl⟩) (by assumption) ?_
        simp only [List.getElem_toArray, List.getElem_cons_succ, List.getElem_cons_zero, Act.put, List.setIfInBounds_toArray, List.set_cons_zero, List.set_cons_succ]
        refine wpAnyH_take (i := 22) (v := undef) rfl (by kernel_rfl) (by kernel_rfl) (by kernel_rfl) (fun _ _ _ h => h) (Or.inr ⟨by rfl, rfl⟩) (by assumption) ?_
        simp only [List.getElem_toArray, List.getElem_cons_succ, List.getElem_cons_zero, Act.put, List.setIfInBounds_toArray, List.set_cons_zero, List.set_cons_succ]
        refine wpAnyH_take (i := 23) (v := undef) rfl (by kernel_rfl) (by kernel_rfl) (by kernel_rfl) (fun _ _ _ h => h) (Or.inr ⟨by rfl, rfl⟩) (by assumption) ?_
        simp only [List.getElem_toArray, List.getElem_cons_succ, List.getElem_cons_zero, Act.put, List.setIfInBounds_toArray, List.set_cons_zero, List.set_cons_succ]
        refine wpAnyH_take (i := 24) (v := undef) rfl (by kernel_rfl) (by kernel_rfl) (by kernel_rfl) (fun _ _ _ h => h) (Or.inr ⟨by rfl, rfl⟩) (by assumption) ?_
        simp only [List.getElem_toArray, List.getElem_cons_succ, List.getElem_cons_zero, Act.put, List.setIfInBounds_toArray, List.set_cons_zero, List.set_cons_succ]
        refine wpAnyH_take (i := 25) (v := undef) rfl (by kernel_rfl) (by kernel_rfl) (by kernel_rfl) (fun _ _ _ h => h) (Or.inr ⟨by rfl, rfl⟩) (by assumption) ?_
        simp only [List.getElem_toArray, List.getElem_cons_succ, List.getElem_cons_zero, Act.put, List.setIfInBounds_toArray, List.set_cons_zero, List.set_cons_succ]
        refine wpAnyH_take (i := 26) (v := undef) rfl (by kernel_rfl) (by kernel_rfl) (by kernel_rfl) (fun _ _ _ h => h) (Or.inr ⟨by rfl, rfl⟩) (by assumption) ?_
        simp only [List.getElem_toArray, List.getElem_cons_succ, List.getElem_cons_zero, Act.put, List.setIfInBounds_toArray, List.set_cons_zero, List.set_cons_succ]
        refine wpAnyH_take (i := 27) (v := undef) rfl (by kernel_rfl) (by kernel_rfl) (by kernel_rfl) (fun _ _ _ h => h) (Or.inr ⟨by rfl, rfl⟩) (by assumption) ?_
        simp only [List.getElem_toArray, List.getElem_cons_succ, List.getElem_cons_zero, Act.put, List.setIfInBounds_toArray, List.set_cons_zero, List.set_cons_succ]
        refine wpAnyH_take (i := 28) (v := ?v84) rfl (by kernel_rfl) (by kernel_rfl) (by kernel_rfl) (fun _ _ _ h => h) (Or.inl ⟨by rfl, ?y84⟩) (by assumption) ?r84
        case y84 => (intro w hSw; (try dsimp only at hSw); go_simp; try (with_reducible rfl))
        simp only [List.getElem_toArray, List.getElem_cons_succ, List.getElem_cons_zero, Act.put, List.setIfInBounds_toArray, List.set_cons_zero, List.set_cons_succ]
        refine wpAnyH_take (i := 29) (v := ?v85) rfl (by kernel_rfl) (by kernel_rfl) (by kernel_rfl) (fun _ _ _ h => h) (Or.inl ⟨by rfl, ?y85⟩) (by assumption) ?r85
        case y85 => (intro w hSw; (try dsimp only at hSw); go_simp; try (with_reducible rfl))
        simp only [List.getElem_toArray, List.getElem_cons_succ, List.getElem_cons_zero, Act.put, List.setIfInBounds_toArray, List.set_cons_zero, List.set_cons_succ]
        refine wpAnyH_done (by kernel_rfl) ?_ _
        have B1 := hide ((B0.out.trans (hb0.mono B0.out.size)).trans (hHeld.2.2.mono (Nat.le_trans B0.out.size hb0.size)))
        clear hHeld
        go_wp2
        go_roundw
        case rel => exact ⟨k + 1, by omega, by go_num, HK.out, B1.out⟩
        case measure => simp [intOf]; omega
      obtain ⟨f, hfe⟩ : ∃ f : Nat, y = (f : Int) := ⟨y.toNat, by omega⟩
      subst hfe
      have hfn : f < n := by have := HKM.out; omega
      have hfi : (f : Int) < (n : Int) := by omega
      have hz := (hb0.cell (p := ⟨b, off + f * 2, none⟩) (blk_lt (HZC.out f hfn))).trans (HZC.out f hfn)
      have hft : (f : Int).toNat = f := rfl
      have hste := HSTE.out
      rw [hft] at hste
      obtain ⟨z, hze⟩ : ∃ z, z = nd l f := ⟨_, rfl⟩
      rw [← hze] at hz hste
      have HSTF := hide hste
      clear hste hze hft HSTE hfn hB
      by_cases hzx : z = x
      · have E : Hid (bb = false) := by
          cases bb with
          | false => rfl
          | true => have := HSTF.out.1 (HNO.out rfl); exact absurd hzx (this.2.2.2.2 h0)
        have hzb : (z == x) = true := by simp [hzx]
        clear hzx
        refine wp_region_held_drew (S := (fun wx => wx.cell? ⟨b, off + f * 2, none⟩ = some (.int .i64 z) ∧ wx.cell? ⟨wr.heap.size, 0, none⟩ = some (.int .i64 x) ∧ wx.cell? ⟨wr.heap.size, 1, none⟩ = some (.int .i64 (f : Int)) ∧ Below W0.heap.size W0 wx)) (by kernel_rfl) ⟨hz, c0, c1, (Below.refl _ _).drew⟩ (fun hHeld => ?_)
        refine wpAnyH_take (i := 0) (v := ?v86) rfl (by kernel_rfl) (by kernel_rfl) (by kernel_rfl) (fun _ _ _ h => h) (Or.inl ⟨by rfl, ?y86⟩) (by assumption) ?r86
        case y86 => (intro w hSw; (try dsimp only at hSw); go_simp; try (with_reducible rfl))
        simp only [List.getElem_toArray, List.getElem_cons_zero, Act.put, List.setIfInBounds_toArray, List.set_cons_zero, List.set_cons_succ]
        refine wpAnyH_take (i := 1) (v := ?v87) rfl (by kernel_rfl) (by kernel_rfl) (by kernel_rfl) (fun _ _ _ h => h) (Or.inl ⟨by rfl, ?y87⟩) (by assumption) ?r87
        case y87 => (intro w hSw; (try dsimp only at hSw); go_simp; try (with_reducible rfl))
        simp only [List.getElem_toArray, List.getElem_cons_succ, List.getElem_cons_zero, Act.put, List.setIfInBounds_toArray, List.set_cons_zero, List.set_cons_succ]
        refine wpAnyH_take (i := 2) (v := ?v88) rfl (by kernel_rfl) (by kernel_rfl) (by kernel_rfl) (fun _ _ _ h => h) (Or.inl ⟨by rfl, ?y88⟩) (by assumption) ?r88
        case y88 => (intro w hSw; (try dsimp only at hSw); go_simp; try (with_reducible rfl))
        simp only [List.getElem_toArray, List.getElem_cons_succ, List.getElem_cons_zero, Act.put, List.setIfInBounds_toArray, List.set_cons_zero, List.set_cons_succ]
        refine wpAnyH_take (i := 3) (v := ?v89) rfl (by kernel_rfl) (by kernel_rfl) (by kernel_rfl) (fun _ _ _ h => h) (Or.inl ⟨by rfl, ?y89⟩) (by assumption) ?r89
        case y89 => (intro w hSw; (try dsimp only at hSw); go_simp; try (with_reducible rfl))
        simp only [List.getElem_toArray, List.getElem_cons_succ, List.getElem_cons_zero, Act.put, List.setIfInBounds_toArray, List.set_cons_zero, List.set_cons_succ]
        refine wpAnyH_ready (rs := [4]) (by kernel_rfl) (by simp) ?_
        refine AllReadyH.cons rfl (fun K hK => ?_) AllReadyH.nil
        simp only [List.getElem_toArray, List.getElem_cons_succ, List.getElem_cons_zero]
        go_simp
        go_at_call 66
        refine (CA.out _).mono ?_
        rintro e w1 ⟨rfl, rfl⟩
        dsimp only
        refine hK.out _ _ ?_ (fun hHeld => ?_)
        · assumption
        clear hK K
        try simp only [Act.put, List.setIfInBounds_toArray, List.set_cons_zero, List.set_cons_succ]
        refine wpAnyH_take (i := 5) (v := ?v90) rfl (by kernel_rfl) (by kernel_rfl) (by kernel_rfl) (fun _ _ _ h => h) (Or.inl ⟨by rfl, ?y90⟩) (by assumption) ?r90
        case y90 => (intro w hSw; (try dsimp only at hSw); go_simp; try (with_reducible rfl))
        simp only [List.getElem_toArray, List.getElem_cons_succ, List.getElem_cons_zero, Act.put, List.setIfInBounds_toArray, List.set_cons_zero, List.set_cons_succ]
        refine wpAnyH_take (i := 6) (v := ?v91) rfl (by kernel_rfl) (by kernel_rfl) (by kernel_rfl) (fun _ _ _ h => h) (Or.inl ⟨by rfl, ?y91⟩) (by assumption) ?r91
        case y91 => (intro w hSw; (try dsimp only at hSw); go_simp; try (with_reducible rfl))
        simp only [List.getElem_toArray, List.getElem_cons_succ, List.getElem_cons_zero, Act.put, List.setIfInBounds_toArray, List.set_cons_zero, List.set_cons_succ]
        refine wpAnyH_take (i := 7) (v := ?v92) rfl (by kernel_rfl) (by kernel_rfl) (by kernel_rfl) (fun _ _ _ h => h) (Or.inl ⟨by rfl, ?y92⟩) (by assumption) ?r92
        case y92 => (intro w hSw; (try dsimp only at hSw); go_simp; try (with_reducible rfl))
        simp only [List.getElem_toArray, List.getElem_cons_succ, List.getElem_cons_zero, Act.put, List.setIfInBounds_toArray, List.set_cons_zero, List.set_cons_succ]
        refine wpAnyH_take (i := 8) (v := ?v93) rfl (by kernel_rfl) (by kernel_rfl) (by kernel_rfl) (fun _ _ _ h => h) (Or.inl ⟨by rfl, ?y93⟩) (by assumption) ?r93
        case y93 => (intro w hSw; (try dsimp only at hSw); go_simp; try (with_reducible rfl))
        simp only [List.getElem_toArray, List.getElem_cons_succ, List.getElem_cons_zero, Act.put, List.setIfInBounds_toArray, List.set_cons_zero, List.set_cons_succ]
        refine wpAnyH_take (i := 9) (v := ?v94) rfl (by kernel_rfl) (by kernel_rfl) (by kernel_rfl) (fun _ _ _ h => h) (Or.inl ⟨by rfl, ?y94⟩) (by assumption) ?r94
        case y94 => (intro w hSw; (try dsimp only at hSw); go_simp; try (with_reducible rfl))
        simp only [List.getElem_toArray, List.getElem_cons_succ, List.getElem_cons_zero, Act.put, List.setIfInBounds_toArray, List.set_cons_zero, List.set_cons_succ]
        refine wpAnyH_take (i := 10) (v := ?v95) rfl (by kernel_rfl) (by kernel_rfl) (by kernel_rfl) (fun _ _ _ h => h) (Or.inl ⟨by rfl, ?y95⟩) (by assumption) ?r95
        case y95 => (intro w hSw; (try dsimp only at hSw); go_simp; try (with_reducible rfl))
        simp only [List.getElem_toArray, List.getElem_cons_succ, List.getElem_cons_zero, Act.put, List.setIfInBounds_toArray, List.set_cons_zero, List.set_cons_succ]
        refine wpAnyH_ready (rs := [11]) (by kernel_rfl) (by simp) ?_
        refine AllReadyH.cons rfl (fun K hK => ?_) AllReadyH.nil
        simp only [List.getElem_toArray, List.getElem_cons_succ, List.getElem_cons_zero]
        go_simp
        go_at_call 66
        refine (CB.out _).mono ?_
        rintro e w1 ⟨rfl, rfl⟩
        dsimp only
        refine hK.out _ _ ?_ (fun hHeld => ?_)
        · assumption
        clear hK K
        try simp only [Act.put, List.setIfInBounds_toArray, List.set_cons_zero, List.set_cons_succ]
        refine wpAnyH_take (i := 12) (v := ?v96) rfl (by kernel_rfl) (by kernel_rfl) (by kernel_rfl) (fun _ _ _ h => h) (Or.inl ⟨by rfl, ?y96⟩) (by assumption) ?r96
        case y96 => (intro w hSw; (try dsimp only at hSw); go_simp; try (with_reducible rfl))
        simp only [List.getElem_toArray, List.getElem_cons_succ, List.getElem_cons_zero, Act.put, List.setIfInBounds_toArray, List.set_cons_zero, List.set_cons_succ]
        refine wpAnyH_take (i := 13) (v := ?v97) rfl (by kernel_rfl) (by kernel_rfl) (by kernel_rfl) (fun _ _ _ h => h) (Or.inl ⟨by rfl, ?y97⟩) (by assumption) ?r97
        case y97 => (intro w hSw; (try dsimp only at hSw); go_simp; try (with_reducible rfl))
        simp only [List.getElem_toArray, List.getElem_cons_succ, List.getElem_cons_zero, Act.put, List.setIfInBounds_toArray, List.set_cons_zero, List.set_cons_succ]
        refine wpAnyH_take (i := 14) (v := ?v98) rfl (by kernel_rfl) (by kernel_rfl) (by kernel_rfl) (fun _ _ _ h => h) (Or.inl ⟨by rfl, ?y98⟩) (by assumption) ?r98
        case y98 => (intro w hSw; (try dsimp only at hSw); go_simp; try (with_reducible rfl))
        simp only [List.getElem_toArray, List.getElem_cons_succ, List.getElem_cons_zero, Act.put, List.setIfInBounds_toArray, List.set_cons_zero, List.set_cons_succ]
        refine wpAnyH_take (i := 15) (v := ?v99) rfl (by kernel_rfl) (by kernel_rfl) (by kernel_rfl) (fun _ _ _ h => h) (Or.inl ⟨by rfl, ?y99⟩) (by assumption) ?r99
        case y99 => (intro w hSw; (try dsimp only at hSw); go_simp; try (with_reducible rfl))
        simp only [List.getElem_toArray, List.getElem_cons_succ, List.getElem_cons_zero, Act.put, List.setIfInBounds_toArray, List.set_cons_zero, List.set_cons_succ]
        refine wpAnyH_take (i := 16) (v := ?v100) rfl (by kernel_rfl) (by kernel_rfl) (by kernel_rfl) (fun _ _ _ h => h) (Or.inl ⟨by rfl, ?y100⟩) (by assumption) ?r100
        case y100 => (intro w hSw; (try dsimp only at hSw); go_simp; try (with_reducible rfl))
        simp only [List.getElem_toArray, List.getElem_cons_succ, List.getElem_cons_zero, Act.put, List.setIfInBounds_toArray, List.set_cons_zero, List.set_cons_succ]
        refine wpAnyH_take (i := 17) (v := ?v101) rfl (by kernel_rfl) (by kernel_rfl) (by kernel_rfl) (fun _ _ _ h => h) (Or.inl ⟨by rfl, ?y101⟩) (by assumption) ?r101
        case y101 => (intro w hSw; (try dsimp only at hSw); go_simp; try (with_reducible rfl))
        simp only [List.getElem_toArray, List.getElem_cons_succ, List.getElem_cons_zero, Act.put, List.setIfInBounds_toArray, List.set_cons_zero, List.set_cons_succ]
        refine wpAnyH_take (i := 18) (v := ?v102) rfl (by kernel_rfl) (by kernel_rfl) (by kernel_rfl) (fun _ _ _ h => h) (Or.inl ⟨by rfl, ?y102⟩) (by assumption) ?r102
        case y102 => (intro w hSw; (try dsimp only at hSw); go_simp; try (with_reducible rfl))
        simp only [List.getElem_toArray, List.getElem_cons_succ, List.getElem_cons_zero, Act.put, List.setIfInBounds_toArray, List.set_cons_zero, List.set_cons_succ]
        refine wpAnyH_take (i := 19) (v := ?v103) rfl (by kernel_rfl) (by kernel_rfl) (by kernel_rfl) (fun _ _ _ h => h) (Or.inl ⟨by rfl, ?y103⟩) (by assumption) ?r103
        case y103 => (intro w hSw; (try dsimp only at hSw); go_simp; try (with_reducible rfl))
        simp only [List.getElem_toArray, List.getElem_cons_succ, List.getElem_cons_zero, Act.put, List.setIfInBounds_toArray, List.set_cons_zero, List.set_cons_succ]
        refine wpAnyH_take (i := 20) (v := ?v104) rfl (by kernel_rfl) (by kernel_rfl) (by kernel_rfl) (fun _ _ _ h => h) (Or.inl ⟨by rfl, ?y104⟩) (by assumption) ?r104
        case y104 => (intro w hSw; (try dsimp only at hSw); go_simp; try (with_reducible rfl))
        simp only [List.getElem_toArray, List.getElem_cons_succ, List.getElem_cons_zero, Act.put, List.setIfInBounds_toArray, List.set_cons_zero, List.set_cons_succ]
        refine wpAnyH_take (i := 21) (v := ?v105) rfl (by kernel_rfl) (by kernel_rfl) (by kernel_rfl) (fun _ _ _ h => h) (Or.inl ⟨by rfl, ?y105⟩) (by assumption) ?r105
        case y105 => (intro w hSw; (try dsimp only at hSw); go_simp; try (with_reducible rfl))
        simp only [List.getElem_toArray, List.getElem_cons_succ, List.getElem_cons_zero, Act.put, List.setIfInBounds_toArray, List.set_cons_zero, List.set_cons_succ]
        refine wpAnyH_take (i := 22) (v := ?v106) rfl (by kernel_rfl) (by kernel_rfl) (by kernel_rfl) (fun _ _ _ h => h) (Or.inl ⟨by rfl, ?y106⟩) (by assumption) ?r106
        case y106 => (intro w hSw; (try dsimp only at hSw); go_simp; try (with_reducible rfl))
        simp only [List.getElem_toArray, List.getElem_cons_succ, List.getElem_cons_zero, Act.put, List.setIfInBounds_toArray, List.set_cons_zero, List.set_cons_succ]
        refine wpAnyH_take (i := 23) (v := ?v107) rfl (by kernel_rfl) (by kernel_rfl) (by kernel_rfl) (fun _ _ _ h => h) (Or.inl ⟨by rfl, ?y107⟩) (by assumption) ?r107
        case y107 => (intro w hSw; (try dsimp only at hSw); go_simp; try (with_reducible rfl))
        simp only [List.getElem_toArray, List.getElem_cons_succ, List.getElem_cons_zero, Act.put, List.setIfInBounds_toArray, List.set_cons_zero, List.set_cons_succ]
        refine wpAnyH_take (i := 24) (v := ?v108) rfl (by kernel_rfl) (by kernel_rfl) (by kernel_rfl) (fun _ _ _ h => h) (Or.inl ⟨by rfl, ?y108⟩) (by assumption) ?r108
        case y108 => (intro w hSw; (try dsimp only at hSw); go_simp; try (with_reducible rfl))
        simp only [List.getElem_toArray, List.getElem_cons_succ, List.getElem_cons_zero, Act.put, List.setIfInBounds_toArray, List.set_cons_zero, List.set_cons_succ]
        refine wpAnyH_take (i := 25) (v := ?v109) rfl (by kernel_rfl) (by kernel_rfl) (by kernel_rfl) (fun _ _ _ h => h) (Or.inl ⟨by rfl, ?y109⟩) (by assumption) ?r109
        case y109 => (intro w hSw; (try dsimp only at hSw); go_simp; try (with_reducible rfl))
        simp only [List.getElem_toArray, List.getElem_cons_succ, List.getElem_cons_zero, Act.put, List.setIfInBounds_toArray, List.set_cons_zero, List.set_cons_succ]
        refine wpAnyH_take (i := 26) (v := ?v110) rfl (by kernel_rfl) (by kernel_rfl) (by kernel_rfl) (fun _ _ _ h => h) (Or.inl ⟨by rfl, ?y110⟩) (by assumption) ?r110
        case y110 => (intro w hSw; (try dsimp only at hSw); go_simp; try (with_reducible rfl))
        simp only [List.getElem_toArray, List.getElem_cons_succ, List.getElem_cons_zero, Act.put, List.setIfInBounds_toArray, List.set_cons_zero, List.set_cons_succ]
        refine wpAnyH_take (i := 27) (v := ?v111) rfl (by kernel_rfl) (by kernel_rfl) (by kernel_rfl) (fun _ _ _ h => h) (Or.inl ⟨by rfl, ?y111⟩) (by assumption) ?r111
        case y111 => (intro w hSw; (try dsimp only at hSw); go_simp; try (with_reducible rfl))
        simp only [List.getElem_toArray, List.getElem_cons_succ, List.getElem_cons_zero, Act.put, List.setIfInBounds_toArray, List.set_cons_zero, List.set_cons_succ]
        refine wpAnyH_take (i := 28) (v := ?v112) rfl (by kernel_rfl) (by kernel_rfl) (by kernel_rfl) (fun _ _ _ h => h) (Or.inl ⟨by rfl, ?y112⟩) (by assumption) ?r112
        case y112 => (intro w hSw; (try dsimp only at hSw); go_simp; try (with_reducible rfl))
        simp only [List.getElem_toArray, List.getElem_cons_succ, List.getElem_cons_zero, Act.put, List.setIfInBounds_toArray, List.set_cons_zero, List.set_cons_succ]
        refine wpAnyH_take (i := 29) (v := ?v113) rfl (by kernel_rfl) (by kernel_rfl) (by kernel_rfl) (fun _ _ _ h => h) (Or.inl ⟨by rfl, ?y113⟩) (by assumption) ?r113
        case y113 => (intro w hSw; (try dsimp only at hSw); go_simp; try (with_reducible rfl))
        simp only [List.getElem_toArray, List.getElem_cons_succ, List.getElem_cons_zero, Act.put, List.setIfInBounds_toArray, List.set_cons_zero, List.set_cons_succ]
        refine wpAnyH_done (by kernel_rfl) ?_ _
        have B1 := hide ((B0.out.trans (hb0.mono B0.out.size)).trans (hHeld.2.2.2.mono (Nat.le_trans B0.out.size hb0.size)))
        clear hHeld
        go_wp2
        go_ret
        exact ⟨by rw [E.out]; rfl, B1.out⟩
      · have HK : Hid (∀ j, j < k + 1 → StepM M l j) := fun j hj => by
          by_cases e : j = k
          · subst e; have h1 := HA.out; have h2 := HB.out; exact HSTF.out.2 ⟨h1.1, h1.2, h2.1, h2.2, fun h => hzx⟩
          · exact HJ.out j (by omega)
        have hzb : (z == x) = false := by simp [hzx]
        have HZX := hide hzx
        clear hzx
        refine wp_region_held_drew (S := (fun wx => wx.cell? ⟨b, off + f * 2, none⟩ = some (.int .i64 z) ∧ wx.cell? ⟨wr.heap.size, 0, none⟩ = some (.int .i64 x) ∧ wx.cell? ⟨wr.heap.size, 1, none⟩ = some (.int .i64 (f : Int)) ∧ Below W0.heap.size W0 wx)) (by kernel_rfl) ⟨hz, c0, c1, (Below.refl _ _).drew⟩ (fun hHeld => ?_)
        refine wpAnyH_take (i := 0) (v := ?v114) rfl (by kernel_rfl) (by kernel_rfl) (by kernel_rfl) (fun _ _ _ h => h) (Or.inl ⟨by rfl, ?y114⟩) (by assumption) ?r114
        case y114 => (intro w hSw; (try dsimp only at hSw); go_simp; try (with_reducible rfl))
        simp only [List.getElem_toArray, List.getElem_cons_zero, Act.put, List.setIfInBounds_toArray, List.set_cons_zero, List.set_cons_succ]
        refine wpAnyH_take (i := 1) (v := ?v115) rfl (by kernel_rfl) (by kernel_rfl) (by kernel_rfl) (fun _ _ _ h => h) (Or.inl ⟨by rfl, ?y115⟩) (by assumption) ?r115
        case y115 => (intro w hSw; (try dsimp only at hSw); go_simp; try (with_reducible rfl))
        simp only [List.getElem_toArray, List.getElem_cons_succ, List.getElem_cons_zero, Act.put, List.setIfInBounds_toArray, List.set_cons_zero, List.set_cons_succ]
        refine wpAnyH_take (i := 2) (v := ?v116) rfl (by kernel_rfl) (by kernel_rfl) (by kernel_rfl) (fun _ _ _ h => h) (Or.inl ⟨by rfl, ?y116⟩) (by assumption) ?r116
        case y116 => (intro w hSw; (try dsimp only at hSw); go_simp; try (with_reducible rfl))
        simp only [List.getElem_toArray, List.getElem_cons_succ, List.getElem_cons_zero, Act.put, List.setIfInBounds_toArray, List.set_cons_zero, List.set_cons_succ]
        refine wpAnyH_take (i := 3) (v := ?v117) rfl (by kernel_rfl) (by kernel_rfl) (by kernel_rfl) (fun _ _ _ h => h) (Or.inl ⟨by rfl, ?y117⟩) (by assumption) ?r117
        case y117 => (intro w hSw; (try dsimp only at hSw); go_simp; try (with_reducible rfl))
        simp only [List.getElem_toArray, List.getElem_cons_succ, List.getElem_cons_zero, Act.put, List.setIfInBounds_toArray, List.set_cons_zero, List.set_cons_succ]
        refine wpAnyH_ready (rs := [4]) (by kernel_rfl) (by simp) ?_
        refine AllReadyH.cons rfl (fun K hK => ?_) AllReadyH.nil
        simp only [List.getElem_toArray, List.getElem_cons_succ, List.getElem_cons_zero]
        go_simp
        go_at_call 66
        refine (CA.out _).mono ?_
        rintro e w1 ⟨rfl, rfl⟩
        dsimp only
        refine hK.out _ _ ?_ (fun hHeld => ?_)
        · assumption
        clear hK K
        try simp only [Act.put, List.setIfInBounds_toArray, List.set_cons_zero, List.set_cons_succ]
        refine wpAnyH_take (i := 5) (v := ?v118) rfl (by kernel_rfl) (by kernel_rfl) (by kernel_rfl) (fun _ _ _ h => h) (Or.inl ⟨by rfl, ?y118⟩) (by assumption) ?r118
        case y118 => (intro w hSw; (try dsimp only at hSw); go_simp; try (with_reducible rfl))
        simp only [List.getElem_toArray, List.getElem_cons_succ, List.getElem_cons_zero, Act.put, List.setIfInBounds_toArray, List.set_cons_zero, List.set_cons_succ]
        refine wpAnyH_take (i := 6) (v := ?v119) rfl (by kernel_rfl) (by kernel_rfl) (by kernel_rfl) (fun _ _ _ h => h) (Or.inl ⟨by rfl, ?y119⟩) (by assumption) ?r119
        case y119 => (intro w hSw; (try dsimp only at hSw); go_simp; try (with_reducible rfl))
        simp only [List.getElem_toArray, List.getElem_cons_succ, List.getElem_cons_zero, Act.put, List.setIfInBounds_toArray, List.set_cons_zero, List.set_cons_succ]
        refine wpAnyH_take (i := 7) (v := ?v120) rfl (by kernel_rfl) (by kernel_rfl) (by kernel_rfl) (fun _ _ _ h => h) (Or.inl ⟨by rfl, ?y120⟩) (by assumption) ?r120
        case y120 => (intro w hSw; (try dsimp only at hSw); go_simp; try (with_reducible rfl))
        simp only [List.getElem_toArray, List.getElem_cons_succ, List.getElem_cons_zero, Act.put, List.setIfInBounds_toArray, List.set_cons_zero, List.set_cons_succ]
        refine wpAnyH_take (i := 8) (v := ?v121) rfl (by kernel_rfl) (by kernel_rfl) (by kernel_rfl) (fun _ _ _ h => h) (Or.inl ⟨by rfl, ?y121⟩) (by assumption) ?r121
        case y121 => (intro w hSw; (try dsimp only at hSw); go_simp; try (with_reducible rfl))
        simp only [List.getElem_toArray, List.getElem_cons_succ, List.getElem_cons_zero, Act.put, List.setIfInBounds_toArray, List.set_cons_zero, List.set_cons_succ]
        refine wpAnyH_take (i := 9) (v := ?v122) rfl (by kernel_rfl) (by kernel_rfl) (by kernel_rfl) (fun _ _ _ h => h) (Or.inl ⟨by rfl, ?y122⟩) (by assumption) ?r122
        case y122 => (intro w hSw; (try dsimp only at hSw); go_simp; try (with_reducible rfl))
        simp only [List.getElem_toArray, List.getElem_cons_succ, List.getElem_cons_zero, Act.put, List.setIfInBounds_toArray, List.set_cons_zero, List.set_cons_succ]
        refine wpAnyH_take (i := 10) (v := ?v123) rfl (by kernel_rfl) (by kernel_rfl) (by kernel_rfl) (fun _ _ _ h => h) (Or.inl ⟨by rfl, ?y123⟩) (by assumption) ?r123
        case y123 => (intro w hSw; (try dsimp only at hSw); go_simp; try (with_reducible rfl))
        simp only [List.getElem_toArray, List.getElem_cons_succ, List.getElem_cons_zero, Act.put, List.setIfInBounds_toArray, List.set_cons_zero, List.set_cons_succ]
        refine wpAnyH_ready (rs := [11]) (by kernel_rfl) (by simp) ?_
        refine AllReadyH.cons rfl (fun K hK => ?_) AllReadyH.nil
        simp only [List.getElem_toArray, List.getElem_cons_succ, List.getElem_cons_zero]
        go_simp
        go_at_call 66
        refine (CB.out _).mono ?_
        rintro e w1 ⟨rfl, rfl⟩
        dsimp only
        refine hK.out _ _ ?_ (fun hHeld => ?_)
        · assumption
        clear hK K
        try simp only [Act.put, List.setIfInBounds_toArray, List.set_cons_zero, List.set_cons_succ]
        refine wpAnyH_take (i := 12) (v := ?v124) rfl (by kernel_rfl) (by kernel_rfl) (by kernel_rfl) (fun _ _ _ h => h) (Or.inl ⟨by rfl, ?y124⟩) (by assumption) ?r124
        case y124 => (intro w hSw; (try dsimp only at hSw); go_simp; try (with_reducible rfl))
        simp only [List.getElem_toArray, List.getElem_cons_succ, List.getElem_cons_zero, Act.put, List.setIfInBounds_toArray, List.set_cons_zero, List.set_cons_succ]
        refine wpAnyH_take (i := 13) (v := ?v125) rfl (by kernel_rfl) (by kernel_rfl) (by kernel_rfl) (fun _ _ _ h => h) (Or.inl ⟨by rfl, ?y125⟩) (by assumption) ?r125
        case y125 => (intro w hSw; (try dsimp only at hSw); go_simp; try (with_reducible rfl))
        simp only [List.getElem_toArray, List.getElem_cons_succ, List.getElem_cons_zero, Act.put, List.setIfInBounds_toArray, List.set_cons_zero, List.set_cons_succ]
        refine wpAnyH_take (i := 14) (v := ?v126) rfl (by kernel_rfl) (by kernel_rfl) (by kernel_rfl) (fun _ _ _ h => h) (Or.inl ⟨by rfl, ?y126⟩) (by assumption) ?r126
        case y126 => (intro w hSw; (try dsimp only at hSw); go_simp; try (with_reducible rfl))
        simp only [List.getElem_toArray, List.getElem_cons_succ, List.getElem_cons_zero, Act.put, List.setIfInBounds_toArray, List.set_cons_zero, List.set_cons_succ]
        refine wpAnyH_take (i := 15) (v := ?v127) rfl (by kernel_rfl) (by kernel_rfl) (by kernel_rfl) (fun _ _ _ h => h) (Or.inl ⟨by rfl, ?y127⟩) (by assumption) ?r127
        case y127 => (intro w hSw; (try dsimp only at hSw); go_simp; try (with_reducible rfl))
        simp only [List.getElem_toArray, List.getElem_cons_succ, List.getElem_cons_zero, Act.put, List.setIfInBounds_toArray, List.set_cons_zero, List.set_cons_succ]
        refine wpAnyH_take (i := 16) (v := ?v128) rfl (by kernel_rfl) (by kernel_rfl) (by kernel_rfl) (fun _ _ _ h => h) (Or.inl ⟨by rfl, ?y128⟩) (by assumption) ?r128
        case y128 => (intro w hSw; (try dsimp only at hSw); go_simp; try (with_reducible rfl))
        simp only [List.getElem_toArray, List.getElem_cons_succ, List.getElem_cons_zero, Act.put, List.setIfInBounds_toArray, List.set_cons_zero, List.set_cons_succ]
        refine wpAnyH_take (i := 17) (v := ?v129) rfl (by kernel_rfl) (by kernel_rfl) (by kernel_rfl) (fun _ _ _ h => h) (Or.inl ⟨by rfl, ?y129⟩) (by assumption) ?r129
        case y129 => (intro w hSw; (try dsimp only at hSw); go_simp; try (with_reducible rfl))
        simp only [List.getElem_toArray, List.getElem_cons_succ, List.getElem_cons_zero, Act.put, List.setIfInBounds_toArray, List.set_cons_zero, List.set_cons_succ]
        refine wpAnyH_take (i := 18) (v := ?v130) rfl (by kernel_rfl) (by kernel_rfl) (by kernel_rfl) (fun _ _ _ h => h) (Or.inl ⟨by rfl, ?y130⟩) (by assumption) ?r130
        case y130 => (intro w hSw; (try dsimp only at hSw); go_simp; try (with_reducible rfl))
        simp only [List.getElem_toArray, List.getElem_cons_succ, List.getElem_cons_zero, Act.put, List.setIfInBounds_toArray, List.set_cons_zero, List.set_cons_succ]
        refine wpAnyH_take (i := 19) (v := ?v131) rfl (by kernel_rfl) (by kernel_rfl) (by kernel_rfl) (fun _ _ _ h => h) (Or.inl ⟨by rfl, ?y131⟩) (by assumption) ?r131
        case y131 => (intro w hSw; (try dsimp only at hSw); go_simp; try (with_reducible rfl))
        simp only [List.getElem_toArray, List.getElem_cons_succ, List.getElem_cons_zero, Act.put, List.setIfInBounds_toArray, List.set_cons_zero, List.set_cons_succ]
        refine wpAnyH_take (i := 20) (v := ?v132) rfl (by kernel_rfl) (by kernel_rfl) (by kernel_rfl) (fun _ _ _ h => h) (Or.inl ⟨by rfl, ?y132⟩) (by assumption) ?r132
        case y132 => (intro w hSw; (try dsimp only at hSw); go_simp; try (with_reducible rfl))
        simp only [List.getElem_toArray, List.getElem_cons_succ, List.getElem_cons_zero, Act.put, List.setIfInBounds_toArray, List.set_cons_zero, List.set_cons_succ]
        refine wpAnyH_take (i := 21) (v := ?v133) rfl (by kernel_rfl) (by kernel_rfl) (by kernel_rfl) (fun _ _ _ h => h) (Or.inl ⟨by rfl, ?y133⟩) (by assumption) ?r133
        case y133 => (intro w hSw; (try dsimp only at hSw); go_simp; try (with_reducible rfl))
        simp only [List.getElem_toArray, List.getElem_cons_succ, List.getElem_cons_zero, Act.put, List.setIfInBounds_toArray, List.set_cons_zero, List.set_cons_succ]
        refine wpAnyH_take (i := 22) (v := ?v134) rfl (by kernel_rfl) (by kernel_rfl) (by kernel_rfl) (fun _ _ _ h => h) (Or.inl ⟨by rfl, ?y134⟩) (by assumption) ?r134
        case y134 => (intro w hSw; (try dsimp only at hSw); go_simp; try (with_reducible rfl))
        simp only [List.getElem_toArray, List.getElem_cons_succ, List.getElem_cons_zero, Act.put, List.setIfInBounds_toArray, List.set_cons_zero, List.set_cons_succ]
        refine wpAnyH_take (i := 23) (v := ?v135) rfl (by kernel_rfl) (by kernel_rfl) (by kernel_rfl) (fun _ _ _ h => h) (Or.inl ⟨by rfl, ?y135⟩) (by assumption) ?r135
        case y135 => (intro w hSw; (try dsimp only at hSw); go_simp; try (with_reducible rfl))
        simp only [List.getElem_toArray, List.getElem_cons_succ, List.getElem_cons_zero, Act.put, List.setIfInBounds_toArray, List.set_cons_zero, List.set_cons_succ]
        refine wpAnyH_take (i := 24) (v := ?v136) rfl (by kernel_rfl) (by kernel_rfl) (by kernel_rfl) (fun _ _ _ h => h) (Or.inl ⟨by rfl, ?y136⟩) (by assumption) ?r136
        case y136 => (intro w hSw; (try dsimp only at hSw); go_simp; try (with_reducible rfl))
        simp only [List.getElem_toArray, List.getElem_cons_succ, List.getElem_cons_zero, Act.put, List.setIfInBounds_toArray, List.set_cons_zero, List.set_cons_succ]
        refine wpAnyH_take (i := 25) (v := ?v137) rfl (by kernel_rfl) (by kernel_rfl) (by kernel_rfl) (fun _ _ _ h => h) (Or.inl ⟨by rfl, ?y137⟩) (by assumption) ?r137
        case y137 => (intro w hSw; (try dsimp only at hSw); go_simp; try (with_reducible rfl))
        simp only [List.getElem_toArray, List.getElem_cons_succ, List.getElem_cons_zero, Act.put, List.setIfInBounds_toArray, List.set_cons_zero, List.set_cons_succ]
        refine wpAnyH_take (i := 26) (v := ?v138) rfl (by kernel_rfl) (by kernel_rfl) (by kernel_rfl) (fun _ _ _ h => h) (Or.inl ⟨by rfl, ?y138⟩) (by assumption) ?r138
        case y138 => (intro w hSw; (try dsimp only at hSw); go_simp; try (with_reducible rfl))
        simp only [List.getElem_toArray, List.getElem_cons_succ, List.getElem_cons_zero, Act.put, List.setIfInBounds_toArray, List.set_cons_zero, List.set_cons_succ]
        refine wpAnyH_take (i := 27) (v := ?v139) rfl (by kernel_rfl) (by kernel_rfl) (by kernel_rfl) (fun _ _ _ h => h) (Or.inl ⟨by rfl, ?y139⟩) (by assumption) ?r139
        case y139 => (intro w hSw; (try dsimp only at hSw); go_simp; try (with_reducible rfl))
        simp only [List.getElem_toArray, List.getElem_cons_succ, List.getElem_cons_zero, Act.put, List.setIfInBounds_toArray, List.set_cons_zero, List.set_cons_succ]
        refine wpAnyH_take (i := 28) (v := ?v140) rfl (by kernel_rfl) (by kernel_rfl) (by kernel_rfl) (fun _ _ _ h => h) (Or.inl ⟨by rfl, ?y140⟩) (by assumption) ?r140
        case y140 => (intro w hSw; (try dsimp only at hSw); go_simp; try (with_reducible rfl))
        simp only [List.getElem_toArray, List.getElem_cons_succ, List.getElem_cons_zero, Act.put, List.setIfInBounds_toArray, List.set_cons_zero, List.set_cons_succ]
        refine wpAnyH_take (i := 29) (v := ?v141) rfl (by kernel_rfl) (by kernel_rfl) (by kernel_rfl) (fun _ _ _ h => h) (Or.inl ⟨by rfl, ?y141⟩) (by assumption) ?r141
        case y141 => (intro w hSw; (try dsimp only at hSw); go_simp; try (with_reducible rfl))
        simp only [List.getElem_toArray, List.getElem_cons_succ, List.getElem_cons_zero, Act.put, List.setIfInBounds_toArray, List.set_cons_zero, List.set_cons_succ]
        refine wpAnyH_done (by kernel_rfl) ?_ _
        have B1 := hide ((B0.out.trans (hb0.mono B0.out.size)).trans (hHeld.2.2.2.mono (Nat.le_trans B0.out.size hb0.size)))
        clear hHeld
        go_wp2
        go_roundw
        case rel => exact ⟨k + 1, by omega, by go_num, HK.out, B1.out⟩
        case measure => simp [intOf]; omega
    · have hltI : ¬ (k : Int) < (n : Int) := by omega
      by_cases h5 : 1 ≤ N ∧ N ≤ 5
      · have C := hide (fun w => l1In_any N 1 5 w true (by simp; omega))
        by_cases h40 : (n : Int) ≤ 40
        · have E : Hid (bb = true) := HBB.out.2 ⟨h5.1, h5.2, by rw [HN.out]; omega, fun j hj => by
            have h1 := HJ.out j (by rw [HN.out] at hj; omega)
            have h2 := HMN.out h5.1
            exact ⟨h1.1, by have := h1.2.1; omega, h1.2.2.1, by have := h1.2.2.2.1; omega, h1.2.2.2.2⟩⟩
          clear h5
          go_wp2_with fail
          refine (C.out _).mono ?_
          rintro e w1 ⟨rfl, rfl⟩
          go_wp2
          go_ret
          exact ⟨by rw [E.out]; rfl, hbel⟩
        · have E : Hid (bb = false) := bool_noT HBB.out (fun h => by have := h.2.2.1; rw [HN.out] at this; omega)
          clear h5
          go_wp2_with fail
          refine (C.out _).mono ?_
          rintro e w1 ⟨rfl, rfl⟩
          go_wp2
          go_ret
          exact ⟨by rw [E.out]; show Ending.returned (Value.bool (decide ((n : Int) ≤ 40))) = _; rw [decide_eq_false (by omega)], hbel⟩
      · have C := hide (fun w => l1In_any N 1 5 w false (by simp; omega))
        have E : Hid (bb = false) := bool_noT HBB.out (fun h => h5 ⟨h.1, h.2.1⟩)
        clear h5
        go_wp2_with fail
        refine (C.out _).mono ?_
        rintro e w1 ⟨rfl, rfl⟩
        go_wp2
        go_ret
        exact ⟨by rw [E.out]; rfl, hbel⟩
end Go.Proofs.Ytkfnejiiancmhad.L11
