/-
  Clocks of events in memory.
-/
import Derived.Test.YtkfnejiiancmhahL11Good
import Derived.Test.YtkfnejiiancmhahL11Join
import Derived.Maps.AppendAt
import Derived.Deep.RegionWith
namespace Go.Proofs.Ytkfnejiiancmhah.L11
open Go.RowKit L1 Own
set_option linter.unusedVariables false

/-- The clock of an event, by places. -/
def cE (l : List Ev) (k : Nat) : Nat → Int := fun i => clk l k (i : Int)
/-- The cells of clocks, one behind the other. -/
def flat5 (G : Nat → Nat → Int) : Nat → List Value
  | 0 => []
  | k + 1 => flat5 G k ++ lA 5 (G k)
theorem flat5_len (G : Nat → Nat → Int) : ∀ k, (flat5 G k).length = k * 5
  | 0 => rfl
  | k + 1 => by simp [flat5, flat5_len G k, lA]; omega
theorem flat5_get (G : Nat → Nat → Int) : ∀ (k j i : Nat), j < k → i < 5 → (flat5 G k)[j * 5 + i]? = some (.int .i64 (G j i))
  | 0, j, i, h, _ => by omega
  | k + 1, j, i, h, hi => by
    unfold flat5
    by_cases e : j = k
    · subst e
      rw [List.getElem?_append_right (by rw [flat5_len]; omega), flat5_len, show j * 5 + i - j * 5 = i by omega]
      exact lA_get 5 _ i hi
    · rw [List.getElem?_append_left (by rw [flat5_len]; omega)]
      exact flat5_get G k j i (by omega) hi
/-- The last clock of each node, one behind the other. -/
def LE (l : List Ev) (k : Nat) : Nat → Int := fun q => clkO l (pri l ((q / 5 : Nat) : Int) k) ((q % 5 : Nat) : Int)
theorem LE_at (l : List Ev) (k x i : Nat) (h : i < 5) : LE l k (x * 5 + i) = clkO l (pri l (x : Int) k) (i : Int) := by
  unfold LE
  rw [show (x * 5 + i) / 5 = x by omega, show (x * 5 + i) % 5 = i by omega]
theorem LE_succ (l : List Ev) (k x : Nat) (hx : nd l k = (x : Int)) (q : Nat) (hq : q < 25) :
    updI (updI (updI (updI (updI (LE l k) (x * 5) (cE l k 0)) (x * 5 + 1) (cE l k 1)) (x * 5 + 2) (cE l k 2)) (x * 5 + 3) (cE l k 3)) (x * 5 + 4) (cE l k 4) q = LE l (k + 1) q := by
  have hq5 : q = q / 5 * 5 + q % 5 := by omega
  obtain ⟨y, hy⟩ : ∃ y, y = q / 5 := ⟨_, rfl⟩
  obtain ⟨i, hi⟩ : ∃ i, i = q % 5 := ⟨_, rfl⟩
  have hi5 : i < 5 := by omega
  rw [← hy, ← hi] at hq5
  subst hq5
  rw [LE_at l (k + 1) y i hi5]
  have hu : pri l (y : Int) (k + 1) = if nd l k = (y : Int) then (k : Int) else pri l (y : Int) k := rfl
  rw [hu]
  unfold updI
  by_cases e : y = x
  · subst e
    rw [if_pos hx]
    have hk : clkO l (k : Int) (i : Int) = cE l k i := by unfold clkO cE; rw [if_pos (by omega)]; rfl
    rw [hk]
    match i, hi5 with
    | 0, _ => simp
    | 1, _ => simp
    | 2, _ => simp
    | 3, _ => simp
    | 4, _ => simp
  · rw [if_neg (show ¬ nd l k = (y : Int) by rw [hx]; omega), if_neg (by omega), if_neg (by omega), if_neg (by omega), if_neg (by omega), if_neg (by omega)]
    exact LE_at l k y i hi5
theorem clkO_bd (l : List Ev) (i : Int) (k : Nat) (hik : i < (k : Int)) (x : Int) : 0 ≤ clkO l i x ∧ clkO l i x ≤ (k : Int) := by
  refine ⟨clkO_nn l i x, ?_⟩
  unfold clkO
  split
  · have h1 := clk_le l i.toNat x
    have h2 := cnt_le l x (i.toNat + 1)
    omega
  · omega
theorem own_setNe {w : World} {base n c : Nat} {t : TypeId} {v : Value} {xs : List Value} (h : w.ownsRow base t c v n xs) (g i : Nat) (u : Value) (hg : v.ownBlock ≠ some g) : (w.setCell ⟨g, i, none⟩ u).ownsRow base t c v n xs := by
  refine ⟨h.1, ?_⟩
  rcases h.2 with h0 | ⟨q, cap, cur, hv, hb, hh, rest⟩
  · exact .inl h0
  · have hqg : q ≠ g := fun e => hg (by rw [hv, e]; rfl)
    exact .inr ⟨q, cap, cur, hv, hb, by rw [Below.heap_setCell w ⟨g, i, none⟩ u q hqg]; exact hh, rest⟩
theorem arr_grown2 {w w' : World} {t : TypeId} {n base g : Nat} {E : Nat → Int} {r : Option Nat} (h : Arr t n w base g E) (hg : w.grownBy w' r) (hne : r ≠ some g) : Arr t n w' base g E :=
  World.ownsRow.kept h hg (.inr (fun e => hne e.symm))
theorem info_clk : (Try.prog.info? 59).map (fun i => (i.zero, i.size, i.bytes)) = some (some (.agg #[.int .i64 0, .int .i64 0, .int .i64 0, .int .i64 0, .int .i64 0]), 5, 40) := by kernel_rfl
theorem cell_five (w : World) (g : Nat) (hg : w.heap.size = g) (E : Nat → Int) (t : TypeId) : ∀ j u, (lA 5 E)[j]? = some u → (w.alloc (.cells #[.int .i64 (E 0), .int .i64 (E 1), .int .i64 (E 2), .int .i64 (E 3), .int .i64 (E 4)] t)).cell? ((⟨g, 0, none⟩ : Addr).add j) = some u := by
  intro j u h
  have hj : j < 5 := by
    by_cases h2 : j < 5
    · exact h2
    · rw [List.getElem?_eq_none (by simp [lA]; omega)] at h; cases h
  rw [addr_add]
  have hA := arr_new t 5 w g 0 hg (Nat.zero_le _) (by omega) E #[.int .i64 (E 0), .int .i64 (E 1), .int .i64 (E 2), .int .i64 (E 3), .int .i64 (E 4)] rfl
  rw [lA_get 5 E j hj] at h
  cases h
  exact hA.cell j hj
/-- What is in memory while clocks are made: the last ones, the ones that are told, the event's own box. -/
structure KC (w V : World) (g : Nat) (v : Value) (l : List Ev) (k : Nat) : Prop where
  L : Arr 74 25 V w.heap.size g (LE l k)
  O : V.ownsRow (g + 1) 59 5 v k (flat5 (cE l) k)
  bel : Below w.heap.size w V
theorem KC.below {w V V' : World} {g k : Nat} {v : Value} {l : List Ev} (h : KC w V g v l k) (hb : Below V.heap.size V V') : KC w V' g v l k :=
  ⟨h.L.below hb, own_belowT h.O hb, h.bel.trans (hb.mono h.bel.size)⟩
theorem KC.set {w V : World} {g k q : Nat} {v : Value} {l : List Ev} (h : KC w V g v l k) (i : Nat) (u : Value) (hq : w.heap.size ≤ q) (h1 : g ≠ q) (h2 : v.ownBlock ≠ some q) : KC w (V.setCell ⟨q, i, none⟩ u) g v l k :=
  ⟨h.L.keep i u h1, own_setNe h.O q i u h2, h.bel.setCell (p := ⟨q, i, none⟩) hq u⟩
theorem KC.drew {w V : World} {g k : Nat} {v : Value} {l : List Ev} (h : KC w V g v l k) : KC w V.drew g v l k := ⟨h.L.drew, h.O, h.bel.drew⟩
theorem cell_set5 {V : World} {eb cb : Nat} {x : Value} (h : V.cell? ⟨eb, 0, none⟩ = some x) (hne : eb ≠ cb) (u0 u1 u2 u3 u4 : Value) : (((((V.setCell ⟨cb, 0, none⟩ u0).setCell ⟨cb, 1, none⟩ u1).setCell ⟨cb, 2, none⟩ u2).setCell ⟨cb, 3, none⟩ u3).setCell ⟨cb, 4, none⟩ u4).cell? ⟨eb, 0, none⟩ = some x := by
  unfold World.cell?
  rw [Below.heap_setCell _ ⟨cb, 4, none⟩ _ eb hne, Below.heap_setCell _ ⟨cb, 3, none⟩ _ eb hne, Below.heap_setCell _ ⟨cb, 2, none⟩ _ eb hne, Below.heap_setCell _ ⟨cb, 1, none⟩ _ eb hne, Below.heap_setCell _ ⟨cb, 0, none⟩ _ eb hne]
  exact h
theorem arr_set5 {t : TypeId} {V : World} {base q : Nat} {C : Nat → Int} (h : Arr t 5 V base q C) (E : Nat → Int) : Arr t 5 (((((V.setCell ⟨q, 0, none⟩ (.int .i64 (E 0))).setCell ⟨q, 1, none⟩ (.int .i64 (E 1))).setCell ⟨q, 2, none⟩ (.int .i64 (E 2))).setCell ⟨q, 3, none⟩ (.int .i64 (E 3))).setCell ⟨q, 4, none⟩ (.int .i64 (E 4))) base q E :=
  (((((h.set 0 (E 0)).set 1 (E 1)).set 2 (E 2)).set 3 (E 3)).set 4 (E 4)).congr (fun i hi => by
    match i, hi with
    | 0, _ => simp [updI]
    | 1, _ => simp [updI]
    | 2, _ => simp [updI]
    | 3, _ => simp [updI]
    | 4, _ => simp [updI])
theorem KC.set5 {w V : World} {g k q : Nat} {v : Value} {l : List Ev} (h : KC w V g v l k) (u0 u1 u2 u3 u4 : Value) (hq : w.heap.size ≤ q) (h1 : g ≠ q) (h2 : v.ownBlock ≠ some q) : KC w (((((V.setCell ⟨q, 0, none⟩ u0).setCell ⟨q, 1, none⟩ u1).setCell ⟨q, 2, none⟩ u2).setCell ⟨q, 3, none⟩ u3).setCell ⟨q, 4, none⟩ u4) g v l k :=
  ((((h.set 0 u0 hq h1 h2).set 1 u1 hq h1 h2).set 2 u2 hq h1 h2).set 3 u3 hq h1 h2).set 4 u4 hq h1 h2
theorem own_setLt {w : World} {base n c : Nat} {t : TypeId} {v : Value} {xs : List Value} (h : w.ownsRow base t c v n xs) (g i : Nat) (u : Value) (hg : g < base) : (w.setCell ⟨g, i, none⟩ u).ownsRow base t c v n xs :=
  own_setNe h g i u (fun e => by have := (h.lt g e).1; omega)
end Go.Proofs.Ytkfnejiiancmhah.L11
