/-
  A list more behind lists of lists. Nothing of the program's text is proved here but closed facts on its types.
-/
import Derived.Test.YtkfnejiiancmhahSSI
import Derived.Test.YtkfnejiiancmhahL11Reads
import Derived.Test.YtkfnejiiancmhahL11Clocks
namespace Go.Proofs.Ytkfnejiiancmhah.L11
open Go.RowKit L1 Own
set_option linter.unusedVariables false

theorem info_sl11 : (Try.prog.info? 38).map (fun i => (i.zero, i.size, i.bytes)) = some (some (.slice none 0 0), 1, 24) := by kernel_rfl
theorem sv_push {w W w6 : World} {B T : Nat} {ot v6 : Value} {k N : Nat} {bs cs : Nat → Nat} {G : Nat → Nat → Int} (h : SV w B T ot k N bs cs G) (q c : Nat) (hq : T ≤ q) (hr : w.ownsRow B 3 1 (.slice (some ⟨q, 0, none⟩) N c) N (lA N (G k))) (hW : Below w.heap.size w W)
    (h6 : w6.ownsRow B 38 1 v6 (k + 1) (lS k N bs cs ++ [.slice (some ⟨q, 0, none⟩) N c])) (hg : W.grownBy w6 ot.ownBlock) : SW w6 B w6.heap.size v6 (k + 1) N G := by
  have hqo : ot.ownBlock ≠ some q := fun e => by have := h.top q e; omega
  have hkeep : ∀ r, r < w.heap.size → ot.ownBlock ≠ some r → w6.heap[r]? = w.heap[r]? := fun r h1 h2 => (hg.block r (Nat.lt_of_lt_of_le h1 hW.size) (Ne.symm h2)).trans (hW.block r h1)
  have hrow : ∀ i, i < k + 1 → w6.ownsRow B 3 1 (.slice (some ⟨if i = k then q else bs i, 0, none⟩) N (if i = k then c else cs i)) N (lA N (G i)) := fun i hi => by
    by_cases e : i = k
    · subst e
      rw [if_pos rfl, if_pos rfl]
      exact own_blkS hr (fun r hr2 => by
        have h5 : q = r := by simpa [Value.ownBlock] using hr2
        rw [← h5]
        exact hkeep q ((hr.lt q rfl).2) hqo)
    · rw [if_neg e, if_neg e]
      exact own_blkS (h.row i (by omega)) (fun r hr2 => by
        have h5 : bs i = r := by simpa [Value.ownBlock] using hr2
        rw [← h5]
        exact hkeep (bs i) (((h.row i (by omega)).lt (bs i) rfl).2) (h.two i (by omega)))
  refine ⟨fun i => if i = k then q else bs i, fun i => if i = k then c else cs i, ?_, fun r hr => (h6.lt r hr).2, hrow, fun i hi => ((hrow i hi).lt _ rfl).2, fun i j hi hj e => ?_⟩
  · rw [lS_succ, if_pos rfl, if_pos rfl]
    have e2 : lS k N (fun i => if i = k then q else bs i) (fun i => if i = k then c else cs i) = lS k N bs cs := lS_congr k N _ _ _ _ (fun i hi => by
      have : i ≠ k := by omega
      simp [this])
    rw [e2]
    exact h6
  · (try dsimp only at e)
    by_cases hik : i = k
    · by_cases hjk : j = k
      · omega
      · rw [if_pos hik, if_neg hjk] at e
        have := h.rtop j (by omega)
        omega
    · by_cases hjk : j = k
      · rw [if_neg hik, if_pos hjk] at e
        have := h.rtop i (by omega)
        omega
      · rw [if_neg hik, if_neg hjk] at e
        exact h.inj i j (by omega) (by omega) e
theorem cell_sl11 (w : World) (g : Nat) (hg : w.heap.size = g) (p : Value) (t : TypeId) : ∀ j u, [p][j]? = some u → (w.alloc (.cells #[p] t)).cell? ((⟨g, 0, none⟩ : Addr).add j) = some u := by
  subst hg
  intro j u h
  rw [addr_add]
  match j, h with
  | 0, h => simp at h; subst h; simp
  | j + 1, h => simp at h
theorem lS_one (k N : Nat) (bs cs : Nat → Nat) : ∀ u ∈ [Value.slice (some ⟨k, 0, none⟩) N k], u.oneCell' = true := by intro u hu; simp at hu; subst hu; rfl
/-- What ClocksOf hands back. -/
def RetS (w : World) (b : Bool) (n N : Nat) (G : Nat → Nat → Int) (e : Ending) (w' : World) : Prop :=
  ∃ v, e = .returned (.tuple #[v, .bool b]) ∧ SW w' w.heap.size w'.heap.size v n N G ∧ Below w.heap.size w w'
end Go.Proofs.Ytkfnejiiancmhah.L11
