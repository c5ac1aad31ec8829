/-
  A list of parts that grows, in memory of the call's own; parts in a box. Nothing of the program's text is proved here but closed facts on its types.
-/
import Derived.Test.YtkdiffpbljohkayL5Pt
import Derived.Maps.AppendAt
import Derived.Lib.Builder
namespace Go.Proofs.Ytkdiffpbljohkay.L5
open Go.RowKit L1 L4
set_option linter.unusedVariables false

theorem grown_trans {a b c : World} {r s : Option Nat} (h : a.grownBy b r) (k : b.grownBy c s) (hs : ∀ g, s = some g → r = some g ∨ a.heap.size ≤ g) : a.grownBy c r :=
  ⟨k.os.trans h.os, k.tape.trans h.tape, k.output.trans h.output, Nat.le_trans h.size k.size, fun i hi hne => by
    have h1 := h.block i hi hne
    have h2 := k.block i (Nat.lt_of_lt_of_le hi h.size) (fun e => by
      rcases hs i e.symm with h3 | h3
      · exact hne h3.symm
      · omega)
    exact h2.trans h1⟩
theorem grown_below0 {w w' : World} (h : Below w.heap.size w w') (row : Option Nat) : w.grownBy w' row := ⟨h.os, h.tape, h.output, h.size, fun k hk _ => h.block k hk⟩
/-- A part in a box of its own. -/
def PX (w : World) (g : Nat) (p : Pr) : Prop := w.heap[g]? = some (.cells #[.int .i64 p.k, .string p.t, .int .i64 p.a, .int .i64 p.b] 55 (0, 0))
theorem PX.newAt (w : World) (g : Nat) (p : Pr) (hg : w.heap.size = g) : PX (w.alloc (.cells #[.int .i64 p.k, .string p.t, .int .i64 p.a, .int .i64 p.b] 55)) g p := by
  subst hg
  unfold PX
  show (w.heap.push _)[w.heap.size]? = _
  exact Array.getElem?_push_size
theorem PX.lt {w : World} {g : Nat} {p : Pr} (h : PX w g p) : g < w.heap.size := (Array.getElem?_eq_some_iff.1 h).1
theorem PX.at {w : World} {g : Nat} {p : Pr} (h : PX w g p) : AtP w g 0 p := ⟨Lib.cell_of_heap h 0, Lib.cell_of_heap h 1, Lib.cell_of_heap h 2, Lib.cell_of_heap h 3⟩
theorem PX.frozen {w : World} {g : Nat} {p : Pr} (h : PX w g p) (j : Nat) : w.frozen? ⟨g, j, none⟩ = false := Lib.frozen_of_heap h j
theorem PX.below {w w' : World} {g : Nat} {p : Pr} (h : PX w g p) (hb : Below w.heap.size w w') : PX w' g p := (hb.block g h.lt).trans h
theorem PX.grown {w w' : World} {g : Nat} {p : Pr} {r : Option Nat} (h : PX w g p) (hb : w.grownBy w' r) (hne : r ≠ some g) : PX w' g p := (hb.block g h.lt (fun e => hne e.symm)).trans h
theorem PX.setT {w : World} {g : Nat} {p : Pr} (h : PX w g p) (y : ByteArray) : PX (w.setCell ⟨g, 1, none⟩ (.string y)) g { p with t := y } := by
  have h1 := heap_setCell_same w g 1 _ _ (.string y) h
  unfold PX
  rw [h1]
  rfl
theorem PX.setA {w : World} {g : Nat} {p : Pr} (h : PX w g p) (y : Int) : PX (w.setCell ⟨g, 2, none⟩ (.int .i64 y)) g { p with a := y } := by
  have h1 := heap_setCell_same w g 2 _ _ (.int .i64 y) h
  unfold PX
  rw [h1]
  rfl
theorem PX.setB {w : World} {g : Nat} {p : Pr} (h : PX w g p) (y : Int) : PX (w.setCell ⟨g, 3, none⟩ (.int .i64 y)) g { p with b := y } := by
  have h1 := heap_setCell_same w g 3 _ _ (.int .i64 y) h
  unfold PX
  rw [h1]
  rfl
/-- A list of parts of the call's own. -/
abbrev OwP (w : World) (base : Nat) (v : Value) (l : List Pr) : Prop := w.ownsRow base 55 4 v l.length (flatP l)
/-- A list of parts that a call hands back: what it was handed, and more; nothing else has turned. -/
def RetF (w : World) (base : Nat) (v : Value) (l : List Pr) (e : Ending) (w' : World) : Prop :=
  ∃ v', e = .returned v' ∧ OwP w' base v' l ∧ w.grownBy w' v.ownBlock ∧ ∀ g, v'.ownBlock = some g → v.ownBlock = some g ∨ w.heap.size ≤ g
theorem OwP.grown {w w' : World} {base : Nat} {v : Value} {l : List Pr} {r : Option Nat} (h : OwP w base v l) (hg : w.grownBy w' r) (hne : ∀ g, v.ownBlock = some g → r ≠ some g) : OwP w' base v l := by
  refine ⟨h.1, ?_⟩
  rcases h.2 with h0 | ⟨g, cap, cur, hv, hb, hh, rest⟩
  · exact .inl h0
  · refine .inr ⟨g, cap, cur, hv, hb, ?_, rest⟩
    rw [hg.block g (Array.getElem?_eq_some_iff.1 hh).1 (fun e => hne g (by rw [hv]; rfl) e.symm)]
    exact hh
theorem cell_four_newP (w : World) (g : Nat) (hg : w.heap.size = g) (a b c d : Value) (t : TypeId) : ∀ j u, [a, b, c, d][j]? = some u → (w.alloc (.cells #[a, b, c, d] t)).cell? ((⟨g, 0, none⟩ : Addr).add j) = some u := by
  subst hg
  intro j u h
  rw [addr_add]
  match j, h with
  | 0, h => simp at h; subst h; simp
  | 1, h => simp at h; subst h; simp
  | 2, h => simp at h; subst h; simp
  | 3, h => simp at h; subst h; simp
  | j + 4, h => simp at h
theorem four_one (a : Int) (b : ByteArray) (c d : Int) : ∀ u ∈ ([.int .i64 a, .string b, .int .i64 c, .int .i64 d] : List Value), u.oneCell' = true := by
  intro u hu
  simp at hu
  rcases hu with rfl | rfl | rfl | rfl <;> rfl
theorem own_at_lt {w : World} {base n g : Nat} {v : Value} {xs : List Value} (h : w.ownsRow base 55 4 v n xs) (hg : v.ownBlock = some g) : g < w.heap.size := (h.lt g hg).2
theorem grown_set (w : World) (g j : Nat) (u : Value) : w.grownBy (w.setCell ⟨g, j, none⟩ u) (some g) :=
  ⟨rfl, rfl, rfl, by simp [World.setCell], fun k _ hk => Below.heap_setCell w ⟨g, j, none⟩ u k (fun e => hk (by rw [e]))⟩
theorem grown_alloc (w : World) (o : Obj) (r : Option Nat) : w.grownBy (w.alloc o) r := grown_below0 ((Below.refl _ _).alloc (Nat.le_refl _) _) r
/-- The end of such a call: one part more. -/
theorem fin_ret {w w5 w6 : World} {base : Nat} {v v5 v6 : Value} {l' : List Pr} {p : Pr} {o : Obj} (G5 : w.grownBy w5 v.ownBlock) (K5 : ∀ g, v5.ownBlock = some g → v.ownBlock = some g ∨ w.heap.size ≤ g)
    (h6 : w6.ownsRow base 55 4 v6 (l'.length + 1) (flatP l' ++ [.int .i64 p.k, .string p.t, .int .i64 p.a, .int .i64 p.b])) (g6 : (w5.alloc o).grownBy w6 v5.ownBlock) (hat : v6.ownBlock = v5.ownBlock ∨ ∃ q, v6.ownBlock = some q ∧ w5.heap.size ≤ q) :
    RetF w base v (l' ++ [p]) (.returned v6) w6 := by
  have ha : (w5.alloc o).heap.size = w5.heap.size + 1 := by simp
  refine ⟨v6, rfl, ?_, ?_, ?_⟩
  · unfold OwP
    rw [flatP_append, List.length_append]
    exact h6
  · exact grown_trans G5 (grown_trans (grown_alloc w5 o v5.ownBlock) g6 (fun g hg => .inl hg)) K5
  · intro g hg
    have := G5.size
    rcases hat with e | e
    · exact K5 g (by rw [← e]; exact hg)
    · obtain ⟨q, e, hq⟩ := e
      rw [e] at hg
      cases hg
      exact .inr (by omega)
end Go.Proofs.Ytkdiffpbljohkay.L5
