/-
  A list of texts that grows, and what is kept meanwhile. Nothing of the program's text is proved here but closed facts on its types.
-/
import Derived.Test.YtkjogjjfpjkeoazDoorL6Str
import Derived.Test.YtkjogjjfpjkeoazDoorL6Grown
import Derived.Test.YtkjogjjfpjkeoazDoorL6Log
namespace Go.Proofs.YtkjogjjfpjkeoazDoor.L6
open Go.RowKit L1
set_option linter.unusedVariables false

theorem alk_len_le {L : List Pc} {B : Int} (h : ∀ j, j < L.length → cnt (gc L j).s ≤ 60) : ∀ i, i ≤ L.length → (alk L B i).length ≤ 60 * i
  | 0, _ => by simp [alk]
  | i + 1, hi => by
    have h1 := alk_len_le (B := B) h i (by omega)
    have h2 := fl_len B (gc L i).f (gc L i).s (cnt (gc L i).s)
    have h3 := h i (by omega)
    show (alk L B i ++ fl B (gc L i).f (gc L i).s (cnt (gc L i).s)).length ≤ _
    rw [List.length_append]
    omega
/-- What is kept while a list of texts grows: blocks between two numbers, and one cell. -/
structure Gro (lo hi g : Nat) (B : Int) (w1 : World) (v : Value) (xs : List ByteArray) (w : World) : Prop where
  own : w.ownsRow (g + 1) 9 1 v xs.length (mapT xs)
  out : ∀ b, v.ownBlock = some b → b < lo ∨ hi ≤ b
  kept : ∀ k, lo ≤ k → k < hi → w.heap[k]? = w1.heap[k]?
  cell : w.cell? ⟨g, 1, none⟩ = some (.int .i64 B)
  size : w1.heap.size ≤ w.heap.size
  bel : Below g w1 w
theorem Gro.step {lo hi g : Nat} {B : Int} {w1 w w6 : World} {v v6 : Value} {xs : List ByteArray} {y : ByteArray} {ob : Obj} (h : Gro lo hi g B w1 v xs w) (hhi : hi ≤ w1.heap.size) (hg : g < w1.heap.size)
    (h6 : w6.ownsRow (g + 1) 9 1 v6 (xs.length + 1) (mapT xs ++ [.string y])) (g6 : (w.alloc ob).grownBy w6 v.ownBlock) (hat : v6.ownBlock = v.ownBlock ∨ v6.ownBlock = some (w.alloc ob).heap.size) : Gro lo hi g B w1 v6 (xs ++ [y]) w6 := by
  have hz := h.size
  have hal := (Below.refl w.heap.size w).alloc (Nat.le_refl _) ob
  refine ⟨?_, fun b hb => ?_, fun k h1 h2 => ?_, ?_, ?_, ?_⟩
  · rw [List.length_append]
    unfold mapT
    rw [List.map_append]
    exact h6
  · rcases hat with e | e
    · exact h.out b (by rw [← e]; exact hb)
    · rw [e] at hb
      simp at hb
      omega
  · rw [g6.block k (by simp; omega) (fun e => by have := h.out k e.symm; omega), hal.block k (by omega)]
    exact h.kept k h1 h2
  · refine grown_cell g6 ⟨g, 1, none⟩ (Go.Lib.cell?_alloc_some ob h.cell) (fun e => ?_)
    have := (own_ltC h.own g e.symm).1
    omega
  · have := g6.size
    simp at this
    omega
  · exact ((h.bel.alloc (by omega) ob).grown g6 (by simp; omega) (fun k hk => by have := (own_ltC h.own k hk).1; omega))
open Classical in
/-- What AllOf answers. -/
noncomputable def allRes (L : List Pc) (B : Int) : Option (List ByteArray) := if GoodG L B then some (allG L B) else none
theorem allRes_len (L : List Pc) (B : Int) : ((allRes L B).getD []).length ≤ 1200 := by
  unfold allRes
  split
  · rename_i h
    have h1 := alk_len_le (L := L) (B := B) (fun j hj => good_cnt (h.ps j hj).1) L.length (Nat.le_refl _)
    have h2 := h.many
    simp only [Option.getD_some]
    show (alk L B L.length).length ≤ _
    omega
  · simp
/-- Texts that a call hands back, in new memory, and whether there are some. -/
def RetT (w : World) (r : Option (List ByteArray)) (e : Ending) (w' : World) : Prop :=
  ∃ v, e = .returned (.tuple #[v, .bool r.isSome]) ∧ w'.ownsRow w.heap.size 9 1 v (r.getD []).length (mapT (r.getD [])) ∧ Below w.heap.size w w'
theorem retT_none {w w' : World} (hb : Below w.heap.size w w') : RetT w none (.returned (.tuple #[.slice none 0 0, .bool false])) w' := ⟨_, rfl, World.ownsRow_nil _ _ _ _, hb⟩
end Go.Proofs.YtkjogjjfpjkeoazDoor.L6
