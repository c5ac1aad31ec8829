/-
  What a follower comes to.
-/
import Derived.Test.YtdnmklcnlndmhbbL7FndA0
import Derived.Test.YtdnmklcnlndmhbbL7App
namespace Go.Proofs.Ytdnmklcnlndmhbb.L7
open Go.RowKit L1
set_option linter.unusedVariables false

/-- What holds of the starts of the first entries. -/
theorem sts_inv {l : List En} (hM : Mono l) : ∀ k, k ≤ l.length → (∀ i j, i < j → j < (stsK l k).length → ((stsK l k).getD i (0, 0)).1 < ((stsK l k).getD j (0, 0)).1) ∧ (∀ i, i < (stsK l k).length → 0 ≤ ((stsK l k).getD i (0, 0)).2 ∧ ((stsK l k).getD i (0, 0)).2 < (k : Int) ∧ (0 < k → ((stsK l k).getD i (0, 0)).1 ≤ (l.getD (k - 1) eE).1))
  | 0, _ => ⟨fun i j h1 h2 => by simp [stsK] at h2, fun i h => by simp [stsK] at h⟩
  | k + 1, hk => by
    obtain ⟨ih1, ih2⟩ := sts_inv hM k (by omega)
    by_cases h : k = 0 ∨ (l.getD (k - 1) eE).1 ≠ (l.getD k eE).1
    · rw [stsK_yes l k h]
      have hlt : 0 < k → (l.getD (k - 1) eE).1 < (l.getD k eE).1 := fun h0 => by
        have h1 := hM (k - 1) k (by omega) (by omega)
        rcases h with h | h
        · omega
        · omega
      have g1 : ∀ i, i < (stsK l k).length → (stsK l k ++ [((l.getD k eE).1, (k : Int))]).getD i (0, 0) = (stsK l k).getD i (0, 0) := fun i hi => by
        simp [List.getD, List.getElem?_append_left hi]
      have g2 : (stsK l k ++ [((l.getD k eE).1, (k : Int))]).getD (stsK l k).length (0, 0) = ((l.getD k eE).1, (k : Int)) := by
        simp [List.getD]
      have hk0 : ∀ i, i < (stsK l k).length → 0 < k := fun i hi => by
        by_cases e : k = 0
        · subst e; simp [stsK] at hi
        · omega
      refine ⟨fun i j h1 h2 => ?_, fun i hi => ?_⟩
      · simp only [List.length_append, List.length_cons, List.length_nil] at h2
        rw [g1 i (by omega)]
        by_cases e : j = (stsK l k).length
        · rw [e, g2]
          have := (ih2 i (by omega)).2.2 (hk0 i (by omega))
          have := hlt (hk0 i (by omega))
          simp only
          omega
        · rw [g1 j (by omega)]
          exact ih1 i j h1 (by omega)
      · simp only [List.length_append, List.length_cons, List.length_nil] at hi
        by_cases e : i = (stsK l k).length
        · rw [e, g2]
          simp only [Nat.add_sub_cancel]
          omega
        · rw [g1 i (by omega)]
          have h3 := ih2 i (by omega)
          have h4 := h3.2.2 (hk0 i (by omega))
          have h5 := hlt (hk0 i (by omega))
          simp only [Nat.add_sub_cancel]
          omega
    · rw [stsK_no l k h]
      have he : 0 < k ∧ (l.getD (k - 1) eE).1 = (l.getD k eE).1 := by omega
      refine ⟨ih1, fun i hi => ?_⟩
      have h3 := ih2 i hi
      have h4 := h3.2.2 he.1
      simp only [Nat.add_sub_cancel]
      omega
theorem sts_rise {l : List En} (hM : Mono l) : Rise (sts l) := (sts_inv hM l.length (Nat.le_refl _)).1
theorem sts_at {l : List En} (hM : Mono l) : ∀ i, i < (sts l).length → 0 ≤ ((sts l).getD i (0, 0)).2 ∧ ((sts l).getD i (0, 0)).2 < (l.length : Int) := fun i hi => by
  have := (sts_inv hM l.length (Nat.le_refl _)).2 i hi
  exact ⟨this.1, this.2.1⟩
theorem endE_le (l : List En) (e : Int) : endE l e ≤ l.length := endK_le l e l.length
theorem fnd_bd (l : List En) (own st : List (Int × Int)) (en : Int) (h0 : 0 ≤ en) (h : ∀ k, k < st.length → 0 ≤ (st.getD k (0, 0)).2 ∧ (st.getD k (0, 0)).2 ≤ en) : ∀ i q, 0 ≤ (fnd l own st en i q).1 ∧ (fnd l own st en i q).1 ≤ (l.length : Int) ∧ (fnd l own st en i q).1 ≤ en
  | 0, q => by simp only [fnd]; omega
  | i + 1, q => by
    cases e : idx st (own.getD i (0, 0)).1 with
    | none => rw [fnd_none e]; exact fnd_bd l own st en h0 h i (q + 1)
    | some k =>
      rw [fnd_some e]
      have h1 := endE_le l (own.getD i (0, 0)).1
      have h2 : 0 ≤ nxt st k en ∧ nxt st k en ≤ en := by
        unfold nxt
        split
        · rename_i hk; exact h _ hk
        · omega
      simp only
      omega
theorem find_bd {l m : List En} (hM : Mono m) : 0 ≤ (find l (sts m) m.length).1 ∧ (find l (sts m) m.length).1 ≤ (l.length : Int) ∧ (find l (sts m) m.length).1 ≤ (m.length : Int) :=
  fnd_bd l _ _ _ (by omega) (fun k hk => by have := sts_at hM k hk; omega) _ _
/-- What a follower comes to, and the place. -/
def fol (l m : List En) : List En × Int := (l.take (find l (sts m) m.length).1.toNat ++ m.drop (find l (sts m) m.length).1.toNat, (find l (sts m) m.length).1)
open Classical in
/-- What FollowLog answers. -/
noncomputable def folR (l m : List En) : List En × Int × Bool := if GoodE l ∧ GoodE m then ((fol l m).1, (fol l m).2, true) else ([], 0, false)
theorem fol_len {l m : List En} (hM : Mono m) : (fol l m).1.length = m.length := by
  have := find_bd (l := l) hM
  simp only [fol, List.length_append, List.length_take, List.length_drop]
  omega
theorem folR_len (l m : List En) : (folR l m).1.length ≤ 40 := by
  unfold folR
  split
  · rename_i h
    rw [fol_len h.2.mono]
    exact h.2.1
  · simp
/-- Entries that a call hands back, in new memory, a place, and whether there are some. -/
def RetF (w : World) (ys : List En) (p : Int) (ok : Bool) (e : Ending) (w' : World) : Prop :=
  ∃ v, e = .returned (.tuple #[v, .int .i64 p, .bool ok]) ∧ w'.ownsRow w.heap.size 50 2 v ys.length (flatE ys) ∧ Below w.heap.size w w'
end Go.Proofs.Ytdnmklcnlndmhbb.L7
