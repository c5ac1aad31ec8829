/-
  Lists of lists of ints in memory, each list in a block of its own. Nothing of the program's text is proved here but closed facts on its types.
-/
import Derived.Test.YtkfnejiiancmhahArr
import Derived.Maps.AppendAt
namespace Go.Proofs.Ytkfnejiiancmhah.Own
open Go.RowKit L1
set_option linter.unusedVariables false

/-- The cells of a list of lists. -/
def lS (n N : Nat) (bs cs : Nat → Nat) : List Value := (List.range n).map fun i => Value.slice (some ⟨bs i, 0, none⟩) N (cs i)
theorem lS_len (n N : Nat) (bs cs : Nat → Nat) : (lS n N bs cs).length = n := by simp [lS]
theorem lS_get (n N : Nat) (bs cs : Nat → Nat) (i : Nat) (h : i < n) : (lS n N bs cs)[i]? = some (.slice (some ⟨bs i, 0, none⟩) N (cs i)) := by simp [lS, h]
theorem lS_congr (n N : Nat) (bs cs bs' cs' : Nat → Nat) (h : ∀ i, i < n → bs i = bs' i ∧ cs i = cs' i) : lS n N bs cs = lS n N bs' cs' := by
  unfold lS
  apply List.map_congr_left
  intro i hi
  have := h i (by simpa using hi)
  rw [this.1, this.2]
theorem lS_succ (n N : Nat) (bs cs : Nat → Nat) : lS (n + 1) N bs cs = lS n N bs cs ++ [.slice (some ⟨bs n, 0, none⟩) N (cs n)] := by simp [lS, List.range_succ]
/-- Lists of N ints, n of them, in blocks from B on and below T. -/
structure SV (w : World) (B T : Nat) (v : Value) (n N : Nat) (bs cs : Nat → Nat) (G : Nat → Nat → Int) : Prop where
  out : w.ownsRow B 38 1 v n (lS n N bs cs)
  top : ∀ q, v.ownBlock = some q → q < T
  row : ∀ i, i < n → w.ownsRow B 3 1 (.slice (some ⟨bs i, 0, none⟩) N (cs i)) N (lA N (G i))
  rtop : ∀ i, i < n → bs i < T
  inj : ∀ i j, i < n → j < n → bs i = bs j → i = j
def SW (w : World) (B T : Nat) (v : Value) (n N : Nat) (G : Nat → Nat → Int) : Prop := ∃ bs cs, SV w B T v n N bs cs G
theorem own_blkS {w w' : World} {base n c : Nat} {t : TypeId} {v : Value} {xs : List Value} (h : w.ownsRow base t c v n xs) (hb : ∀ q, v.ownBlock = some q → w'.heap[q]? = w.heap[q]?) : w'.ownsRow base t c v n xs := by
  refine ⟨h.1, ?_⟩
  rcases h.2 with h0 | ⟨q, cap, cur, hv, hbg, hh, rest⟩
  · exact .inl h0
  · exact .inr ⟨q, cap, cur, hv, hbg, (hb q (by rw [hv]; rfl)).trans hh, rest⟩
section
variable {w w' : World} {B T : Nat} {v : Value} {n N : Nat} {bs cs : Nat → Nat} {G : Nat → Nat → Int}
theorem SV.keep (h : SV w B T v n N bs cs G) (hb : ∀ q, B ≤ q → q < T → w'.heap[q]? = w.heap[q]?) : SV w' B T v n N bs cs G :=
  ⟨own_blkS h.out (fun q hq => hb q (h.out.lt q hq).1 (h.top q hq)), h.top, fun i hi => own_blkS (h.row i hi) (fun q hq => by
    have h1 := ((h.row i hi).lt q hq).1
    have h2 : bs i = q := by simpa [Value.ownBlock] using hq
    exact hb q h1 (by rw [← h2]; exact h.rtop i hi)), h.rtop, h.inj⟩
theorem SV.lt (h : SV w B T v n N bs cs G) : (∀ q, v.ownBlock = some q → q < w.heap.size) ∧ ∀ i, i < n → bs i < w.heap.size := ⟨fun q hq => (h.out.lt q hq).2, fun i hi => ((h.row i hi).lt (bs i) rfl).2⟩
theorem SV.below (h : SV w B T v n N bs cs G) (hb : Below w.heap.size w w') : SV w' B T v n N bs cs G :=
  ⟨own_blkS h.out (fun q hq => hb.block q (h.lt.1 q hq)), h.top, fun i hi => own_blkS (h.row i hi) (fun q hq => hb.block q (((h.row i hi).lt q hq).2)), h.rtop, h.inj⟩
theorem SV.form (h : SV w B T v n N bs cs G) : ∃ a cap, v = .slice a n cap := by
  rcases h.out.2 with ⟨hv, h0⟩ | ⟨q, cap, cur, hv, _⟩
  · subst h0; exact ⟨none, 0, hv⟩
  · exact ⟨_, cap, hv⟩
theorem SV.addr {a : Option Addr} {cap : Nat} (h : SV w B T (.slice a n cap) n N bs cs G) (hn : 0 < n) : ∃ g, a = some ⟨g, 0, none⟩ ∧ ∀ i, i < n → w.cell? ⟨g, i, none⟩ = some (.slice (some ⟨bs i, 0, none⟩) N (cs i)) := by
  rcases h.out.2 with ⟨hv, h0⟩ | ⟨q, cap', cur, hv, _⟩
  · omega
  · simp at hv
    refine ⟨q, hv.1, fun i hi => ?_⟩
    have h1 := h.out
    rw [hv.1] at h1
    have h2 := h1.cells (g := q) rfl i _ (lS_get n N bs cs i hi)
    rw [addr_add] at h2
    exact h2
theorem SV.sl (h : SV w B T v n N bs cs G) (i : Nat) (hi : i < n) : Sl w (some ⟨bs i, 0, none⟩) ((List.range N).map (G i)) := fun j hj => by
  have hj' : j < N := by simpa using hj
  have h1 := (h.row i hi).cellAt j (by omega)
  rw [lA_get N (G i) j hj'] at h1
  exact ⟨bs i, 0, rfl, by rw [Nat.zero_add, h1]; simp [List.getD, hj']⟩
/-- The row of lists and a list are two blocks. -/
theorem SV.two (h : SV w B T v n N bs cs G) (i : Nat) (hi : i < n) : v.ownBlock ≠ some (bs i) := fun e => by
  rcases h.out.2 with ⟨hv, _⟩ | ⟨q, cap, cur, hv, _, hh, _⟩
  · rw [hv] at e; cases e
  · rw [hv] at e
    have e2 : q = bs i := by simpa [Value.ownBlock] using e
    rcases (h.row i hi).2 with ⟨hv2, _⟩ | ⟨q2, cap2, cur2, hv2, _, hh2, _⟩
    · cases hv2
    · simp at hv2
      rw [e2] at hh
      rw [← hv2.1] at hh2
      rw [hh] at hh2
      simp at hh2
end
theorem SW.below {w w' : World} {B T : Nat} {v : Value} {n N : Nat} {G : Nat → Nat → Int} (h : SW w B T v n N G) (hb : Below w.heap.size w w') : SW w' B T v n N G := by
  obtain ⟨bs, cs, h⟩ := h
  exact ⟨bs, cs, h.below hb⟩
theorem SW.keep {w w' : World} {B T : Nat} {v : Value} {n N : Nat} {G : Nat → Nat → Int} (h : SW w B T v n N G) (hb : ∀ q, B ≤ q → q < T → w'.heap[q]? = w.heap[q]?) : SW w' B T v n N G := by
  obtain ⟨bs, cs, h⟩ := h
  exact ⟨bs, cs, h.keep hb⟩
theorem SW.zero {w : World} {B T : Nat} {v : Value} {N N' : Nat} {G : Nat → Nat → Int} (h : SW w B T v 0 N G) : SW w B T v 0 N' G := by
  obtain ⟨bs, cs, h⟩ := h
  exact ⟨bs, cs, h.out, h.top, fun i hi => absurd hi (Nat.not_lt_zero _), h.rtop, h.inj⟩
theorem SW.nil (w : World) (B T N : Nat) (G : Nat → Nat → Int) : SW w B T (.slice none 0 0) 0 N G :=
  ⟨fun _ => 0, fun _ => 0, World.ownsRow_nil _ _ _ _, (fun q hq => by cases hq), (fun i hi => by omega), (fun i hi => by omega), (fun i j hi => by omega)⟩
end Go.Proofs.Ytkfnejiiancmhah.Own
