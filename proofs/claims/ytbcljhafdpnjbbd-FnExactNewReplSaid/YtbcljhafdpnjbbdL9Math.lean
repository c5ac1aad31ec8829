/-
  What is good of a world of logs, and what is certain in it. Nothing of the program's text is proved here.
-/
import Derived.Test.YtbcljhafdpnjbbdL9Lg
import Derived.Test.YtbcljhafdpnjbbdL7Math
import Derived.Test.YtbcljhafdpnjbbdL8Rise
namespace Go.Proofs.Ytbcljhafdpnjbbd.L9
open Go.RowKit L1 L7
set_option linter.unusedVariables false

/-- The log of a node. -/
abbrev gg (G : List (List En)) (k : Int) : List En := G.getD k.toNat []
def GoodLs (G : List (List En)) : Prop := (1 ≤ G.length ∧ G.length ≤ 5) ∧ ∀ i, i < G.length → GoodE (G.getD i [])
structure GoodR (G : List (List En)) (nd : Nat) (ld ep : Int) (sy : List Int) (ce : List En) : Prop where
  logs : GoodLs G
  down : nd = G.length
  e0 : 1 ≤ ep
  e1 : ep ≤ 1000
  rise : L8.RN (G.length : Int) sy
  lead : ld ∈ sy
  cert : ∀ j, j < sy.length → prt (gg G (sy.getD j 0)) ce = ce.length
theorem GoodR.node {G : List (List En)} {nd : Nat} {ld ep : Int} {sy : List Int} {ce : List En} (h : GoodR G nd ld ep sy ce) : 0 ≤ ld ∧ ld < (G.length : Int) := by
  obtain ⟨j, hj, e⟩ := List.getElem_of_mem h.lead
  have h1 := (h.rise j hj).1
  have e2 : sy.getD j 0 = ld := by simp [List.getD, List.getElem?_eq_getElem hj, e]
  rw [e2] at h1
  exact h1
theorem rn_mem {n : Int} {sy : List Int} {ld : Int} (h : L8.RN n sy) (hm : ld ∈ sy) : 0 ≤ ld ∧ ld < n := by
  obtain ⟨j, hj, e⟩ := List.getElem_of_mem hm
  have h1 := (h j hj).1
  have e2 : sy.getD j 0 = ld := by simp [List.getD, List.getElem?_eq_getElem hj, e]
  rw [e2] at h1
  exact h1
theorem prt_le : ∀ a b : List En, prt a b ≤ a.length ∧ prt a b ≤ b.length
  | [], b => by simp [prt]
  | x :: a, [] => by simp [prt]
  | x :: a, y :: b => by
    have := prt_le a b
    unfold prt
    split <;> simp <;> omega
/-- The least place at which a log of the first nodes in step parts from the leader's. -/
def cerK (G : List (List En)) (lead : List En) (sy : List Int) : Nat → Nat
  | 0 => lead.length
  | k + 1 => min (cerK G lead sy k) (prt (gg G (sy.getD k 0)) lead)
theorem cerK_le (G : List (List En)) (lead : List En) (sy : List Int) : ∀ k, cerK G lead sy k ≤ lead.length
  | 0 => Nat.le_refl _
  | k + 1 => by
    have := cerK_le G lead sy k
    show min _ _ ≤ _
    omega
def cerL (G : List (List En)) (ld : Int) (sy : List Int) : Nat := cerK G (gg G ld) sy sy.length
theorem prt_whole : ∀ a b : List En, (a.length = b.length ∧ prt a b = b.length) ↔ a = b
  | [], [] => by simp [prt]
  | [], y :: b => by simp
  | x :: a, [] => by simp
  | x :: a, y :: b => by
    have ih := prt_whole a b
    unfold prt
    by_cases e : x = y
    · subst e
      simp only [List.length_cons, if_pos, List.cons.injEq, true_and]
      rw [← ih]
      omega
    · rw [if_neg e]
      simp [e]
theorem blk6 {w : World} {g : Nat} {a b c d e f : Value} {t : TypeId} (h : w.heap[g]? = some (.cells #[a, b, c, d, e, f] t (0, 0))) :
    w.cell? ⟨g, 0, none⟩ = some a ∧ w.cell? ⟨g, 1, none⟩ = some b ∧ w.cell? ⟨g, 2, none⟩ = some c ∧ w.cell? ⟨g, 3, none⟩ = some d ∧ w.cell? ⟨g, 4, none⟩ = some e ∧ w.cell? ⟨g, 5, none⟩ = some f := by
  simp [World.cell?, h]
theorem blk_new9 (w : World) (o : Obj) : (w.alloc o).heap[w.heap.size]? = some o := by
  show (w.heap.push o)[w.heap.size]? = some o
  exact Array.getElem?_push_size
theorem SlG.at' {w : World} {a : Option Addr} {G : List (List En)} (h : SlG w a G) (k : Int) (h0 : 0 ≤ k) (h1 : k < (G.length : Int)) : ∃ b off, a = some ⟨b, off, none⟩ ∧ ∃ (i : Nat) (ai : Option Addr) (ci : Nat), k = (i : Int) ∧ i < G.length ∧ w.cell? ⟨b, off + i, none⟩ = some (.slice ai (gg G k).length ci) ∧ SlE w ai (gg G k) := by
  obtain ⟨b, off, ha, ai, ci, hc, hs⟩ := h k.toNat (by omega)
  exact ⟨b, off, ha, k.toNat, ai, ci, by omega, by omega, hc, hs⟩
end Go.Proofs.Ytbcljhafdpnjbbd.L9
