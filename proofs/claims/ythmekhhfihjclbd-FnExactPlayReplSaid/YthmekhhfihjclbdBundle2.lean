/-
  What a follower comes to.
  Logs that are newer, and logs of one history.
  What is good of starts.
  The mathematics of the laws on two logs and their epochs: where an Epoch ends the next start is; logs of one history are alike up to where a follower cuts. Nothing of the program is used.
  Small facts that the walks of chapter 7's laws share.
  Lists of logs (lists of entries) in memory.
  Plain mathematics of chapter 4: rising lists of ints, leaps, what is met, taken off and joined. Nothing of Go stands here.
  Small facts on lists of ints that chapter 4's contracts and walks share. Nothing of the program's text is proved here but closed facts on its types.
-/
import Derived.Test.YthmekhhfihjclbdBundle1
import Derived.KernelRfl
import Derived.Maps.AppendAt
namespace Go.Proofs.Ythmekhhfihjclbd.L7
open Go.RowKit L1
set_option linter.unusedVariables false

/-- What holds of the starts of the first entries. -/
theorem sts_inv {l : List En} (hM : Mono l) : ∀ k, k ≤ l.length → (∀ i j, i < j → j < (stsK l k).length → ((stsK l k).getD i (0, 0)).1 < ((stsK l k).getD j (0, 0)).1) ∧ (∀ i, i < (stsK l k).length → 0 ≤ ((stsK l k).getD i (0, 0)).2 ∧ ((stsK l k).getD i (0, 0)).2 < (k : Int) ∧ (0 < k → ((stsK l k).getD i (0, 0)).1 ≤ (l.getD (k - 1) eE).1))
  | 0, _ => ⟨fun i j h1 h2 => by simp [stsK] at h2, fun i h => by simp [stsK] at h⟩
  | k + 1, hk => by
    obtain ⟨ih1, ih2⟩ := sts_inv hM k (by omega)
    by_cases h : k = 0 ∨ (l.getD (k - 1) eE).1 ≠ (l.getD k eE).1
    · rw [stsK_yes l k h]
      have hlt : 0 < k → (l.getD (k - 1) eE).1 < (l.getD k eE).1 := fun h0 => by
        have h1 := hM (k - 1) k (by omega) (by omega)
        rcases h with h | h
        · omega
        · omega
      have g1 : ∀ i, i < (stsK l k).length → (stsK l k ++ [((l.getD k eE).1, (k : Int))]).getD i (0, 0) = (stsK l k).getD i (0, 0) := fun i hi => by
        simp [List.getD, List.getElem?_append_left hi]
      have g2 : (stsK l k ++ [((l.getD k eE).1, (k : Int))]).getD (stsK l k).length (0, 0) = ((l.getD k eE).1, (k : Int)) := by
        simp [List.getD]
      have hk0 : ∀ i, i < (stsK l k).length → 0 < k := fun i hi => by
        by_cases e : k = 0
        · subst e; simp [stsK] at hi
        · omega
      refine ⟨fun i j h1 h2 => ?_, fun i hi => ?_⟩
      · simp only [List.length_append, List.length_cons, List.length_nil] at h2
        rw [g1 i (by omega)]
        by_cases e : j = (stsK l k).length
        · rw [e, g2]
          have := (ih2 i (by omega)).2.2 (hk0 i (by omega))
          have := hlt (hk0 i (by omega))
          simp only
          omega
        · rw [g1 j (by omega)]
          exact ih1 i j h1 (by omega)
      · simp only [List.length_append, List.length_cons, List.length_nil] at hi
        by_cases e : i = (stsK l k).length
        · rw [e, g2]
          simp only [Nat.add_sub_cancel]
          omega
        · rw [g1 i (by omega)]
          have h3 := ih2 i (by omega)
          have h4 := h3.2.2 (hk0 i (by omega))
          have h5 := hlt (hk0 i (by omega))
          simp only [Nat.add_sub_cancel]
          omega
    · rw [stsK_no l k h]
      have he : 0 < k ∧ (l.getD (k - 1) eE).1 = (l.getD k eE).1 := by omega
      refine ⟨ih1, fun i hi => ?_⟩
      have h3 := ih2 i hi
      have h4 := h3.2.2 he.1
      simp only [Nat.add_sub_cancel]
      omega
theorem sts_rise {l : List En} (hM : Mono l) : Rise (sts l) := (sts_inv hM l.length (Nat.le_refl _)).1
theorem sts_at {l : List En} (hM : Mono l) : ∀ i, i < (sts l).length → 0 ≤ ((sts l).getD i (0, 0)).2 ∧ ((sts l).getD i (0, 0)).2 < (l.length : Int) := fun i hi => by
  have := (sts_inv hM l.length (Nat.le_refl _)).2 i hi
  exact ⟨this.1, this.2.1⟩
theorem endE_le (l : List En) (e : Int) : endE l e ≤ l.length := endK_le l e l.length
theorem fnd_bd (l : List En) (own st : List (Int × Int)) (en : Int) (h0 : 0 ≤ en) (h : ∀ k, k < st.length → 0 ≤ (st.getD k (0, 0)).2 ∧ (st.getD k (0, 0)).2 ≤ en) : ∀ i q, 0 ≤ (fnd l own st en i q).1 ∧ (fnd l own st en i q).1 ≤ (l.length : Int) ∧ (fnd l own st en i q).1 ≤ en
  | 0, q => by simp only [fnd]; omega
  | i + 1, q => by
    cases e : idx st (own.getD i (0, 0)).1 with
    | none => rw [fnd_none e]; exact fnd_bd l own st en h0 h i (q + 1)
    | some k =>
      rw [fnd_some e]
      have h1 := endE_le l (own.getD i (0, 0)).1
      have h2 : 0 ≤ nxt st k en ∧ nxt st k en ≤ en := by
        unfold nxt
        split
        · rename_i hk; exact h _ hk
        · omega
      simp only
      omega
theorem find_bd {l m : List En} (hM : Mono m) : 0 ≤ (find l (sts m) m.length).1 ∧ (find l (sts m) m.length).1 ≤ (l.length : Int) ∧ (find l (sts m) m.length).1 ≤ (m.length : Int) :=
  fnd_bd l _ _ _ (by omega) (fun k hk => by have := sts_at hM k hk; omega) _ _
/-- What a follower comes to, and the place. -/
def fol (l m : List En) : List En × Int := (l.take (find l (sts m) m.length).1.toNat ++ m.drop (find l (sts m) m.length).1.toNat, (find l (sts m) m.length).1)
open Classical in
/-- What FollowLog answers. -/
noncomputable def folR (l m : List En) : List En × Int × Bool := if GoodE l ∧ GoodE m then ((fol l m).1, (fol l m).2, true) else ([], 0, false)
theorem fol_len {l m : List En} (hM : Mono m) : (fol l m).1.length = m.length := by
  have := find_bd (l := l) hM
  simp only [fol, List.length_append, List.length_take, List.length_drop]
  omega
theorem folR_len (l m : List En) : (folR l m).1.length ≤ 40 := by
  unfold folR
  split
  · rename_i h
    rw [fol_len h.2.mono]
    exact h.2.1
  · simp
/-- Entries that a call hands back, in new memory, a place, and whether there are some. -/
def RetF (w : World) (ys : List En) (p : Int) (ok : Bool) (e : Ending) (w' : World) : Prop :=
  ∃ v, e = .returned (.tuple #[v, .int .i64 p, .bool ok]) ∧ w'.ownsRow w.heap.size 93 2 v ys.length (flatE ys) ∧ Below w.heap.size w w'
end Go.Proofs.Ythmekhhfihjclbd.L7

namespace Go.Proofs.Ythmekhhfihjclbd.L7
open Go.RowKit L1
set_option linter.unusedVariables false

/-- The last Epoch, 0 for none. -/
def lastE (l : List En) : Int := if l.length = 0 then 0 else (l.getD (l.length - 1) eE).1
/-- A log is newer than another. -/
def NewE (l m : List En) : Prop := lastE m < lastE l ∨ lastE l = lastE m ∧ m.length < l.length
/-- Each Epoch that both have begins at one place. -/
def BegP (S T : List (Int × Int)) : Prop := ∀ i, i < S.length → ∀ j, j < T.length → (S.getD i (0, 0)).1 = (T.getD j (0, 0)).1 → (S.getD i (0, 0)).2 = (T.getD j (0, 0)).2
/-- No place from one on has one Epoch in both. -/
def StayP (l m : List En) (p : Nat) : Prop := ∀ i, p ≤ i → i < l.length → i < m.length → (l.getD i eE).1 ≠ (m.getD i eE).1
/-- Two logs have one history. -/
def MatP (l m : List En) : Prop := BegP (sts l) (sts m) ∧ StayP l m (prt l m)
end Go.Proofs.Ythmekhhfihjclbd.L7

namespace Go.Proofs.Ythmekhhfihjclbd.L7
open Go.RowKit L1
set_option linter.unusedVariables false

/-- The least Epoch and At that may stand at a place. -/
def lsS (l : List (Int × Int)) : Nat → Int
  | 0 => 1
  | k + 1 => (l.getD k (0, 0)).1 + 1
def laS (l : List (Int × Int)) : Nat → Int
  | 0 => 0
  | k + 1 => (l.getD k (0, 0)).2 + 1
/-- The start at a place is good behind those ahead. -/
def StepS (l : List (Int × Int)) (en : Int) (k : Nat) : Prop := lsS l k ≤ (l.getD k (0, 0)).1 ∧ (l.getD k (0, 0)).1 ≤ 1000 ∧ laS l k ≤ (l.getD k (0, 0)).2 ∧ (l.getD k (0, 0)).2 < en
theorem ls_ge (l : List (Int × Int)) (en : Int) (k : Nat) (h : ∀ j, j < k → StepS l en j) : 1 ≤ lsS l k ∧ 0 ≤ laS l k := by
  induction k with
  | zero => simp [lsS, laS]
  | succ k ih =>
    have h0 := h k (by omega)
    have h1 := ih (fun j hj => h j (by omega))
    unfold StepS at h0
    show 1 ≤ (l.getD k (0, 0)).1 + 1 ∧ 0 ≤ (l.getD k (0, 0)).2 + 1
    omega
theorem goodS_step (l : List (Int × Int)) (en : Int) : GoodS l en ↔ (l.length ≤ 40 ∧ 0 ≤ en ∧ en ≤ 40) ∧ ∀ j, j < l.length → StepS l en j := by
  constructor
  · rintro ⟨h1, h2⟩
    refine ⟨h1, fun j hj => ?_⟩
    have h := h2 j hj
    unfold okS at h
    unfold StepS
    cases j with
    | zero => simp only [lsS, laS]; omega
    | succ j => have h3 := h.2 (by omega); simp only [Nat.add_sub_cancel] at h3; simp only [lsS, laS]; omega
  · rintro ⟨h1, h2⟩
    refine ⟨h1, fun j hj => ?_⟩
    have h := h2 j hj
    have hl := ls_ge l en j (fun i hi => h2 i (by omega))
    unfold StepS at h
    unfold okS
    refine ⟨by omega, fun h0 => ?_⟩
    cases j with
    | zero => omega
    | succ j => simp only [lsS, laS] at h; simp only [Nat.add_sub_cancel]; omega
/-- What the model asks of the start at a place. -/
def PS (l : List (Int × Int)) (E1 : Int) (j : Nat) : Prop := (1 ≤ (l.getD j (0, 0)).1 ∧ (l.getD j (0, 0)).1 ≤ 1000) ∧ (0 ≤ (l.getD j (0, 0)).2 ∧ (l.getD j (0, 0)).2 ≤ E1) ∧ (0 < j → (l.getD (j - 1) (0, 0)).1 < (l.getD j (0, 0)).1 ∧ (l.getD (j - 1) (0, 0)).2 < (l.getD j (0, 0)).2)
theorem goodS_PS (l : List (Int × Int)) (en E1 : Int) (hE : 0 ≤ en → en ≤ 40 → E1 = en - 1) : GoodS l en ↔ (l.length ≤ 40 ∧ 0 ≤ en ∧ en ≤ 40) ∧ ∀ j, j < l.length → PS l E1 j := by
  constructor
  · rintro ⟨h1, h2⟩
    refine ⟨h1, fun j hj => ?_⟩
    have h := h2 j hj
    have := hE h1.2.1 h1.2.2
    unfold okS at h
    exact ⟨⟨by omega, by omega⟩, ⟨by omega, by omega⟩, h.2⟩
  · rintro ⟨h1, h2⟩
    refine ⟨h1, fun j hj => ?_⟩
    have h := h2 j hj
    have := hE h1.2.1 h1.2.2
    unfold PS at h
    unfold okS
    exact ⟨by omega, h.2.2⟩
end Go.Proofs.Ythmekhhfihjclbd.L7

namespace Go.Proofs.Ythmekhhfihjclbd.L7
open Go.RowKit L1
set_option linter.unusedVariables false

/-- What holds of each start of the first entries. -/
def StI (l : List En) (K : Nat) (S : List (Int × Int)) (i : Nat) : Prop :=
  (∃ s : Nat, (S.getD i (0, 0)).2 = (s : Int) ∧ s < K ∧ (l.getD s eE).1 = (S.getD i (0, 0)).1) ∧
  (∀ j, j < K → (i + 1 < S.length → (j : Int) < (S.getD (i + 1) (0, 0)).2) → (l.getD j eE).1 ≤ (S.getD i (0, 0)).1) ∧
  (i + 1 < S.length → (S.getD i (0, 0)).2 < (S.getD (i + 1) (0, 0)).2)
theorem sts_each {l : List En} (hM : Mono l) : ∀ K, K ≤ l.length → ∀ i, i < (stsK l K).length → StI l K (stsK l K) i
  | 0, _, i, hi => by simp [stsK] at hi
  | K + 1, hK, i, hi => by
    have ih := sts_each hM K (by omega)
    by_cases h : K = 0 ∨ (l.getD (K - 1) eE).1 ≠ (l.getD K eE).1
    · rw [stsK_yes l K h] at hi ⊢
      simp only [List.length_append, List.length_cons, List.length_nil] at hi
      have g1 : ∀ i, i < (stsK l K).length → (stsK l K ++ [((l.getD K eE).1, (K : Int))]).getD i (0, 0) = (stsK l K).getD i (0, 0) := fun i hi => by
        simp [List.getD, List.getElem?_append_left hi]
      have g2 : (stsK l K ++ [((l.getD K eE).1, (K : Int))]).getD (stsK l K).length (0, 0) = ((l.getD K eE).1, (K : Int)) := by
        simp [List.getD]
      by_cases e : i = (stsK l K).length
      · refine ⟨⟨K, by rw [e, g2], by omega, by rw [e, g2]⟩, fun j hj _ => ?_, fun h => ?_⟩
        · rw [e, g2]; exact hM j K (by omega) (by omega)
        · simp only [List.length_append, List.length_cons, List.length_nil] at h; omega
      · have hi' : i < (stsK l K).length := by omega
        obtain ⟨⟨s, h1, h2, h3⟩, h4, h5⟩ := ih i hi'
        by_cases e2 : i + 1 = (stsK l K).length
        · refine ⟨⟨s, by rw [g1 i hi']; exact h1, by omega, by rw [g1 i hi']; exact h3⟩, fun j hj hh => ?_, fun _ => ?_⟩
          · have h6 := hh (by simp only [List.length_append, List.length_cons, List.length_nil]; omega)
            rw [e2, g2] at h6
            simp only at h6
            rw [g1 i hi']
            exact h4 j (by omega) (fun h => by omega)
          · rw [e2, g2, g1 i hi', h1]
            simp only
            omega
        · have hi2 : i + 1 < (stsK l K).length := by omega
          obtain ⟨⟨s2, k1, k2, _⟩, _, _⟩ := ih (i + 1) hi2
          refine ⟨⟨s, by rw [g1 i hi']; exact h1, by omega, by rw [g1 i hi']; exact h3⟩, fun j hj hh => ?_, fun _ => ?_⟩
          · have h6 := hh (by simp only [List.length_append, List.length_cons, List.length_nil]; omega)
            rw [g1 (i + 1) hi2] at h6
            rw [g1 i hi']
            exact h4 j (by omega) (fun _ => h6)
          · rw [g1 i hi', g1 (i + 1) hi2]
            exact h5 hi2
    · rw [stsK_no l K h] at hi ⊢
      have he : 0 < K ∧ (l.getD (K - 1) eE).1 = (l.getD K eE).1 := by omega
      obtain ⟨⟨s, h1, h2, h3⟩, h4, h5⟩ := ih i hi
      refine ⟨⟨s, h1, by omega, h3⟩, fun j hj hh => ?_, h5⟩
      by_cases e : j = K
      · by_cases e2 : i + 1 < (stsK l K).length
        · obtain ⟨⟨s2, k1, k2, _⟩, _, _⟩ := ih (i + 1) e2
          have := hh e2
          rw [k1] at this
          omega
        · rw [e, ← he.2]
          exact h4 (K - 1) (by omega) (fun h => absurd h e2)
      · exact h4 j (by omega) hh
theorem sts_st {l : List En} (hM : Mono l) (i : Nat) (hi : i < (sts l).length) : StI l l.length (sts l) i := sts_each hM l.length (Nat.le_refl _) i hi
/-- Where an Epoch ends the next start is. -/
theorem end_nxt {l : List En} (hM : Mono l) (i : Nat) (hi : i < (sts l).length) : (endE l ((sts l).getD i (0, 0)).1 : Int) = nxt (sts l) i l.length := by
  obtain ⟨⟨s, h1, h2, h3⟩, h4, h5⟩ := sts_st hM i hi
  unfold nxt
  by_cases e : i + 1 < (sts l).length
  · rw [if_pos e]
    obtain ⟨⟨s2, k1, k2, k3⟩, _, _⟩ := sts_st hM (i + 1) e
    rw [k1]
    have hr := sts_rise hM i (i + 1) (by omega) e
    rw [endE_back l _ s2 hM (by omega) (fun j hj1 hj2 => by
      have := hM s2 j hj1 hj2
      rw [k3] at this
      omega) (by
      by_cases e0 : s2 = 0
      · exact .inl e0
      · exact .inr (h4 (s2 - 1) (by omega) (fun _ => by rw [k1]; omega)))]
  · rw [if_neg e]
    rw [endE_back l _ l.length hM (Nat.le_refl _) (fun j hj1 hj2 => by omega) (by
      by_cases e0 : l.length = 0
      · exact .inl e0
      · exact .inr (h4 (l.length - 1) (by omega) (fun h => absurd h e)))]
theorem end_up {l : List En} (hM : Mono l) (e : Int) (j : Nat) (hj : j < endE l e) (hl : j < l.length) : (l.getD j eE).1 ≤ e := by
  by_cases h : (l.getD j eE).1 ≤ e
  · exact h
  · have h2 : endE l e ≤ j := by
      have hz : ∀ k, j ≤ k → k ≤ l.length → endK l e k ≤ j := by
        intro k hk hkl
        induction k with
        | zero => simp [endK]
        | succ k ih =>
          by_cases e1 : j = k + 1
          · rw [e1]; exact endK_le l e (k + 1)
          · have h3 := hM j k (by omega) (by omega)
            simp only [endK]
            rw [if_neg (by omega)]
            exact ih (by omega) (by omega)
      exact hz _ (by omega) (Nat.le_refl _)
    omega
theorem end_ge {l : List En} (hM : Mono l) (e : Int) (s : Nat) (hs : s < l.length) (h : (l.getD s eE).1 ≤ e) : s < endE l e := by
  have hz : ∀ k, s < k → k ≤ l.length → s < endK l e k := by
    intro k hk hkl
    induction k with
    | zero => omega
    | succ k ih =>
      by_cases e1 : s = k
      · have hall : ∀ q, q ≤ k → endK l e q = q := by
          intro q hq
          induction q with
          | zero => rfl
          | succ q ihq =>
            have := hM q k (by omega) (by omega)
            rw [e1] at h
            simp only [endK]
            rw [ihq (by omega), if_pos (by omega)]
        simp only [endK]
        rw [hall k (Nat.le_refl _)]
        rw [e1] at h ⊢
        rw [if_pos h]
        omega
      · have := ih (by omega) (by omega)
        simp only [endK]
        omega
  exact hz _ hs (Nat.le_refl _)
/-- A follower with one history cuts where the logs are still alike. -/
theorem fnd_match {l m : List En} (hl : Mono l) (hm : Mono m) (h : MatP l m) : ∀ i q, i ≤ (sts l).length → (fnd l (sts l) (sts m) m.length i q).1 ≤ (prt l m : Int)
  | 0, q, _ => by simp only [fnd]; omega
  | i + 1, q, hi => by
    cases e : idx (sts m) ((sts l).getD i (0, 0)).1 with
    | none => rw [fnd_none e]; exact fnd_match hl hm h i (q + 1) (by omega)
    | some k =>
      rw [fnd_some e]
      obtain ⟨hk, hke⟩ := idx_lt _ _ _ e
      have hb := h.1 i (by omega) k hk hke.symm
      have hn := end_nxt hm k hk
      obtain ⟨⟨s, h1, h2, h3⟩, _, _⟩ := sts_st hl i (by omega)
      obtain ⟨⟨s', k1, k2, k3⟩, _, _⟩ := sts_st hm k hk
      obtain rfl : s = s' := by rw [h1, k1] at hb; omega
      simp only
      rw [← hn, hke]
      rw [hke] at k3
      have g1 := end_ge hl ((sts l).getD i (0, 0)).1 s h2 (by rw [h3]; exact Int.le_refl _)
      have g2 := end_ge hm ((sts l).getD i (0, 0)).1 s k2 (by rw [k3]; exact Int.le_refl _)
      have g3 := endE_le l ((sts l).getD i (0, 0)).1
      have g4 := endE_le m ((sts l).getD i (0, 0)).1
      obtain ⟨p, hp⟩ : ∃ p, p = min (endE l ((sts l).getD i (0, 0)).1) (endE m ((sts l).getD i (0, 0)).1) := ⟨_, rfl⟩
      by_cases hc : p ≤ prt l m
      · omega
      · exfalso
        have u1 := end_up hl ((sts l).getD i (0, 0)).1 (p - 1) (by omega) (by omega)
        have u2 := end_up hm ((sts l).getD i (0, 0)).1 (p - 1) (by omega) (by omega)
        have v1 := hl s (p - 1) (by omega) (by omega)
        have v2 := hm s (p - 1) (by omega) (by omega)
        rw [h3] at v1
        rw [k3] at v2
        exact h.2 (p - 1) (by omega) (by omega) (by omega) (by omega)
theorem take_prt {l m : List En} (p : Nat) (h : p ≤ prt l m) : l.take p = m.take p := by
  have hle := prt_le l m
  apply List.ext_getElem?
  intro j
  by_cases hj : j < p
  · have h1 := prt_same l m j (by omega)
    simp only [List.getD, List.getElem?_eq_getElem (show j < l.length by omega), List.getElem?_eq_getElem (show j < m.length by omega), Option.getD_some] at h1
    rw [List.getElem?_take_of_lt hj, List.getElem?_take_of_lt hj, List.getElem?_eq_getElem (show j < l.length by omega), List.getElem?_eq_getElem (show j < m.length by omega), h1]
  · rw [List.getElem?_eq_none (by simp; omega), List.getElem?_eq_none (by simp; omega)]
theorem fol_match {l m : List En} (hl : Mono l) (hm : Mono m) (h : MatP l m) : (fol l m).1 = m ∧ (fol l m).2 ≤ (prt l m : Int) := by
  have h1 := fnd_match hl hm h (sts l).length 0 (Nat.le_refl _)
  have h2 := find_bd (l := l) hm
  refine ⟨?_, h1⟩
  have h3 : (find l (sts m) m.length).1.toNat ≤ prt l m := by
    have : (find l (sts m) m.length).1 ≤ (prt l m : Int) := h1
    omega
  show l.take _ ++ m.drop _ = m
  rw [take_prt _ h3, List.take_append_drop]
/-- A follower that has the leader's log keeps all of it. -/
theorem fol_self {m : List En} (hm : Mono m) : fol m m = (m, (m.length : Int)) := by
  have hf : (find m (sts m) m.length).1 = (m.length : Int) := by
    unfold find
    cases e : (sts m).length with
    | zero =>
      have : m.length = 0 := by
        cases m with
        | nil => rfl
        | cons x m =>
          exfalso
          have h0 : 0 < (stsK (x :: m) 1).length := by rw [stsK_yes _ 0 (.inl rfl)]; simp
          have hmon : ∀ K, 1 ≤ K → 0 < (stsK (x :: m) K).length := by
            intro K hK
            induction K with
            | zero => omega
            | succ K ih =>
              by_cases e1 : K = 0
              · rw [e1]; exact h0
              · have := ih (by omega)
                simp only [stsK, List.length_append]
                omega
          have := hmon (x :: m).length (by simp)
          have e2 : (sts (x :: m)).length = 0 := e
          unfold sts at e2
          omega
      simp only [fnd, this]
      rfl
    | succ i =>
      have hi : i < (sts m).length := by omega
      have hx : idx (sts m) ((sts m).getD i (0, 0)).1 = some i := idx_some _ _ i hi rfl (fun j hj => by have := sts_rise hm j i hj hi; omega)
      rw [fnd_some hx]
      have hn := end_nxt hm i hi
      have hq : nxt (sts m) i m.length = (m.length : Int) := by unfold nxt; rw [if_neg (by omega)]
      simp only
      rw [hq] at hn ⊢
      omega
  unfold fol
  rw [hf]
  simp
/-- What is found lies within both. -/
theorem find_in {l : List En} {st : List (Int × Int)} {en : Int} (h : GoodS st en) : (find l st en).1 ≤ (l.length : Int) ∧ (find l st en).1 ≤ en := by
  have := fnd_bd l (sts l) st en h.1.2.1 (fun k hk => by have := (h.2 k hk).1; unfold okS at this; omega) (sts l).length 0
  exact ⟨this.2.1, this.2.2⟩
theorem prt_comm : ∀ a b : List En, prt a b = prt b a
  | [], [] => rfl
  | [], _ :: _ => by simp [prt]
  | _ :: _, [] => by simp [prt]
  | x :: a, y :: b => by
    simp only [prt]
    by_cases e : x = y
    · rw [if_pos e, if_pos e.symm, prt_comm a b]
    · rw [if_neg e, if_neg (fun h => e h.symm)]
theorem mat_comm (l m : List En) : MatP l m ↔ MatP m l := by
  have h : ∀ l m : List En, MatP l m → MatP m l := fun l m h =>
    ⟨fun i hi j hj e => (h.1 j hj i hi e.symm).symm, fun i h1 h2 h3 e => h.2 i (by rw [prt_comm]; exact h1) h3 h2 e.symm⟩
  exact ⟨h l m, h m l⟩
theorem new_not (l m : List En) (h1 : NewE l m) (h2 : NewE m l) : False := by
  unfold NewE at h1 h2
  omega
end Go.Proofs.Ythmekhhfihjclbd.L7

namespace Go.Proofs.Ythmekhhfihjclbd.L7
open Go.RowKit L1
set_option linter.unusedVariables false
theorem own_neG {w : World} {base n cap g c : Nat} {t : TypeId} {a : Option Addr} {xs : List Value} (h : w.ownsRow base t c (.slice a n cap) n xs) (hg : g < base) : (Value.slice a n cap).ownBlock = none ∨ (Value.slice a n cap).ownBlock ≠ some g := by
  cases a with
  | none => exact .inl rfl
  | some x =>
    refine .inr fun e => ?_
    have := (h.lt g e).1
    omega
theorem slE_base {w w' : World} {a : Option Addr} {xs : List En} {base : Nat} (h : SlE w a xs) (hb : Below base w w') (hlt : ∀ x, a = some x → x.block < base) : SlE w' a xs := fun i hi => by
  obtain ⟨b, off, ha, hc, hd⟩ := h i hi
  exact ⟨b, off, ha, (hb.cell (p := ⟨b, off + i * 2, none⟩) (hlt ⟨b, off, none⟩ ha)).trans hc, (hb.cell (p := ⟨b, off + i * 2 + 1, none⟩) (hlt ⟨b, off, none⟩ ha)).trans hd⟩
end Go.Proofs.Ythmekhhfihjclbd.L7

namespace Go.Proofs.Ythmekhhfihjclbd.L9
open Go.RowKit L1 L7
set_option linter.unusedVariables false

/-- A list of lists of entries lies in memory from an address on. -/
def SlG (w : World) (a : Option Addr) (ls : List (List En)) : Prop := ∀ i, i < ls.length → ∃ b off, a = some ⟨b, off, none⟩ ∧ ∃ ai ci, w.cell? ⟨b, off + i, none⟩ = some (.slice ai (ls.getD i []).length ci) ∧ SlE w ai (ls.getD i [])
theorem SlG.below {w w' : World} {a : Option Addr} {xs : List (List En)} (h : SlG w a xs) (hb : Below w.heap.size w w') : SlG w' a xs := fun i hi => by
  obtain ⟨b, off, ha, ai, ci, hc, hs⟩ := h i hi
  exact ⟨b, off, ha, ai, ci, (hb.cell (p := ⟨b, off + i, none⟩) (blk_lt hc)).trans hc, hs.below hb⟩
theorem add_at (b off i : Nat) : (⟨b, off, none⟩ : Addr).add i = ⟨b, off + i, none⟩ := by unfold Addr.add; split <;> simp_all
def TxE (l : List En) : Prop := ∀ j, j < l.length → (l.getD j eE).2.size ≤ 9223372036854775807
/-- Texts and lists are no longer than a machine's. -/
def TxG (ls : List (List En)) : Prop := ∀ i, i < ls.length → (ls.getD i []).length ≤ 9223372036854775807 ∧ TxE (ls.getD i [])
/-- What a walk is told of a slice of slices of entries that came in. -/
def IsRowG (w : World) (a : Option Addr) (len : Nat) (ls : List (List En)) : Prop := (ls.length = len ∧ len ≤ maxLen ∧ SlG w a ls) ∧ TxG ls
open Classical in
theorem rowG_of {w : World} {a : Addr} {len cap : Nat} (hl : len ≤ cap) (hm : cap ≤ maxLen) (h : ∀ i, i < len → ∃ (l : List En) (ai : Option Addr) (ci : Nat), w.cell? (a.add i) = some (.slice ai l.length ci) ∧ IsRowES w ai l.length l) : ∃ ls, IsRowG w (some a) len ls := by
  obtain ⟨f, hf⟩ : ∃ f : Nat → List En, ∀ i, i < len → ∃ ai ci, w.cell? (a.add i) = some (.slice ai (f i).length ci) ∧ IsRowES w ai (f i).length (f i) := by
    refine ⟨fun i => if hi : i < len then Classical.choose (h i hi) else [], fun i hi => ?_⟩
    simp only [dif_pos hi]
    exact Classical.choose_spec (h i hi)
  have hg : ∀ i, i < len → ((List.range len).map f).getD i [] = f i := fun i hi => by simp [List.getD, hi]
  refine ⟨(List.range len).map f, ⟨by simp, Nat.le_trans hl hm, fun i hi => ?_⟩, fun i hi => ?_⟩
  · have hi' : i < len := by simpa using hi
    obtain ⟨b, off, spot⟩ := a
    have hspot : spot = none := by
      obtain ⟨_, _, h00, _⟩ := hf 0 (by omega)
      have := World.cell?_spot h00
      simpa [Addr.add] using this
    subst hspot
    obtain ⟨ai, ci, h1, h2⟩ := hf i hi'
    rw [add_at] at h1
    rw [hg i hi']
    exact ⟨b, off, rfl, ai, ci, h1, h2.1.2.2⟩
  · have hi' : i < len := by simpa using hi
    obtain ⟨ai, ci, h1, h2⟩ := hf i hi'
    rw [hg i hi']
    have := h2.1.2.1
    unfold maxLen at this
    exact ⟨by omega, h2.2⟩
end Go.Proofs.Ythmekhhfihjclbd.L9

namespace Go.Proofs.Ythmekhhfihjclbd.L4
set_option linter.unusedVariables false

/-- Posts are good. -/
def GoodP (l : List Int) : Prop := l.length ≤ 60 ∧ ∀ j, j < l.length → (0 ≤ l.getD j 0 ∧ l.getD j 0 ≤ 9999) ∧ (0 < j → l.getD (j - 1) 0 < l.getD j 0)
def Rise (l : List Int) : Prop := l.Pairwise fun x y => x < y

theorem getD_eq {l : List Int} {j : Nat} (h : j < l.length) : l.getD j 0 = l[j] := by simp [List.getD, List.getElem?_eq_getElem h]
theorem getD_mem {l : List Int} {j : Nat} (h : j < l.length) : l.getD j 0 ∈ l := by rw [getD_eq h]; exact List.getElem_mem h
theorem mem_getD {l : List Int} {x : Int} (h : x ∈ l) : ∃ j, j < l.length ∧ l.getD j 0 = x := by
  obtain ⟨j, hj, e⟩ := List.getElem_of_mem h
  exact ⟨j, hj, by rw [getD_eq hj]; exact e⟩
theorem rise_get {l : List Int} (h : Rise l) {i j : Nat} (hij : i < j) (hj : j < l.length) : l.getD i 0 < l.getD j 0 := by
  rw [getD_eq hj, getD_eq (Nat.lt_trans hij hj)]
  exact List.pairwise_iff_getElem.1 h i j _ _ hij
theorem rise_le {l : List Int} (h : Rise l) {i j : Nat} (hij : i ≤ j) (hj : j < l.length) : l.getD i 0 ≤ l.getD j 0 := by
  by_cases e : i = j
  · subst e; omega
  · have := rise_get h (show i < j by omega) hj; omega
theorem rise_of_step {l : List Int} (h : ∀ j, j < l.length → 0 < j → l.getD (j - 1) 0 < l.getD j 0) : Rise l := by
  refine List.pairwise_iff_getElem.2 fun i j hi hj hij => ?_
  have key : ∀ d, i + 1 + d < l.length → l.getD i 0 < l.getD (i + 1 + d) 0 := fun d => by
    induction d with
    | zero => intro hd; have := h (i + 1) hd (by omega); simpa using this
    | succ d ih =>
      intro hd
      have h1 := ih (by omega)
      have h2 := h (i + 1 + (d + 1)) hd (by omega)
      have e : i + 1 + (d + 1) - 1 = i + 1 + d := by omega
      rw [e] at h2
      omega
  have := key (j - i - 1) (by omega)
  rw [show i + 1 + (j - i - 1) = j by omega, getD_eq hi, getD_eq hj] at this
  exact this
theorem good_rise {l : List Int} (h : GoodP l) : Rise l := rise_of_step fun j hj h0 => (h.2 j hj).2 h0
theorem rise_uniq : ∀ {l m : List Int}, Rise l → Rise m → (∀ x, x ∈ l ↔ x ∈ m) → l = m
  | [], [], _, _, _ => rfl
  | [], y :: m, _, _, h => by have := (h y).2 (by simp); simp at this
  | x :: l, [], _, _, h => by have := (h x).1 (by simp); simp at this
  | x :: l, y :: m, hl, hm, h => by
    have hl' := List.pairwise_cons.1 hl
    have hm' := List.pairwise_cons.1 hm
    have e : x = y := by
      have h1 := (h x).1 (by simp)
      have h2 := (h y).2 (by simp)
      simp only [List.mem_cons] at h1 h2
      rcases h1 with h1 | h1
      · exact h1
      · rcases h2 with h2 | h2
        · exact h2.symm
        · have := hm'.1 x h1; have := hl'.1 y h2; omega
    subst e
    rw [rise_uniq hl'.2 hm'.2 fun z => by
      have hz := h z
      simp only [List.mem_cons] at hz
      constructor
      · intro hz1
        rcases hz.1 (.inr hz1) with e | e
        · subst e; have := hl'.1 z hz1; omega
        · exact e
      · intro hz1
        rcases hz.2 (.inr hz1) with e | e
        · subst e; have := hm'.1 z hz1; omega
        · exact e]

/-- How many at the front are less. -/
def lp (n : Int) : List Int → Nat
  | [] => 0
  | x :: l => if x < n then lp n l + 1 else 0
theorem lp_le (n : Int) : ∀ l : List Int, lp n l ≤ l.length
  | [] => Nat.le_refl _
  | x :: l => by
    have := lp_le n l
    unfold lp
    split <;> simp <;> omega
theorem lp_lt (n : Int) : ∀ (l : List Int) (j : Nat), j < lp n l → l.getD j 0 < n
  | [], j, h => by simp [lp] at h
  | x :: l, j, h => by
    unfold lp at h
    split at h
    · cases j with
      | zero => simpa
      | succ j => simpa using lp_lt n l j (by omega)
    · omega
theorem lp_stop (n : Int) : ∀ (l : List Int), lp n l < l.length → ¬ l.getD (lp n l) 0 < n
  | [], h => by simp at h
  | x :: l, h => by
    unfold lp at h ⊢
    split
    · rename_i hx
      rw [if_pos hx] at h
      simpa using lp_stop n l (by simpa using h)
    · rename_i hx
      simpa using Int.not_lt.1 hx
theorem lp_at {n : Int} : ∀ (l : List Int) (k : Nat), k ≤ l.length → (∀ j, j < k → l.getD j 0 < n) → (k < l.length → ¬ l.getD k 0 < n) → lp n l = k := fun l k hk h1 h2 => by
  rcases Nat.lt_trichotomy (lp n l) k with h | h | h
  · exact absurd (h1 _ h) (lp_stop n l (by omega))
  · exact h
  · have := lp_le n l
    exact absurd (lp_lt n l k h) (h2 (by omega))
theorem count_lp (n : Int) : ∀ {l : List Int}, Rise l → l.countP (fun y => decide (y < n)) = lp n l
  | [], _ => rfl
  | x :: l, h => by
    have h' := List.pairwise_cons.1 h
    rw [List.countP_cons, count_lp n h'.2]
    conv => rhs; unfold lp
    by_cases hx : x < n
    · simp [hx]
    · have h0 : lp n l = 0 := by
        have := h'.1
        cases l with
        | nil => rfl
        | cons z zs =>
          have := this z (by simp)
          unfold lp
          rw [if_neg (by omega)]
      simp [hx, h0]
/-- The first place from a place on with a number that is great enough. -/
def leap (l : List Int) (f : Nat) (n : Int) : Nat := f + lp n (l.drop f)
theorem drop_getD (l : List Int) (f j : Nat) : (l.drop f).getD j 0 = l.getD (f + j) 0 := by simp [List.getD]
theorem leap_ge (l : List Int) (f : Nat) (n : Int) : f ≤ leap l f n := by unfold leap; omega
theorem leap_le (l : List Int) (f : Nat) (n : Int) (hf : f ≤ l.length) : leap l f n ≤ l.length := by
  have := lp_le n (l.drop f)
  unfold leap
  simp at this
  omega
theorem leap_lt (l : List Int) (f : Nat) (n : Int) (j : Nat) (h1 : f ≤ j) (h2 : j < leap l f n) : l.getD j 0 < n := by
  unfold leap at h2
  have := lp_lt n (l.drop f) (j - f) (by omega)
  rw [drop_getD, show f + (j - f) = j by omega] at this
  exact this
theorem leap_stop (l : List Int) (f : Nat) (n : Int) (h : leap l f n < l.length) : ¬ l.getD (leap l f n) 0 < n := by
  unfold leap at h ⊢
  have := lp_stop n (l.drop f) (by simp; omega)
  rw [drop_getD] at this
  exact this
theorem leap_at {l : List Int} {f k : Nat} {n : Int} (hfk : f ≤ k) (hk : k ≤ l.length) (h1 : ∀ j, f ≤ j → j < k → l.getD j 0 < n) (h2 : k < l.length → ¬ l.getD k 0 < n) : leap l f n = k := by
  have := lp_at (n := n) (l.drop f) (k - f) (by simp; omega) (fun j hj => by rw [drop_getD]; exact h1 _ (by omega) (by omega)) (fun h => by
    rw [drop_getD, show f + (k - f) = k by omega]
    exact h2 (by simp at h; omega))
  unfold leap
  omega

/-- What both have; what the first alone has. -/
def those (b : List Int) (s : Bool) (a : List Int) : List Int := a.filter fun x => decide (x ∈ b) == s
theorem those_len (a b : List Int) (s : Bool) : (those b s a).length ≤ a.length := List.length_filter_le _ _
theorem those_snoc (a b : List Int) (s : Bool) (k : Nat) (h : k < a.length) : those b s (a.take (k + 1)) = if (decide (a.getD k 0 ∈ b) == s) = true then those b s (a.take k) ++ [a.getD k 0] else those b s (a.take k) := by
  unfold those
  rw [List.take_succ_eq_append_getElem h, List.filter_append, getD_eq h]
  by_cases e : (decide (a[k] ∈ b) == s) = true
  · rw [if_pos e]; simp [e]
  · rw [if_neg e]; simp only [Bool.not_eq_true] at e; simp [e]
theorem leap_mem {b : List Int} {f : Nat} {x : Int} (hb : Rise b) (hf : f ≤ b.length) (h : ∀ j, j < f → b.getD j 0 < x) : x ∈ b ↔ leap b f x < b.length ∧ b.getD (leap b f x) 0 = x := by
  constructor
  · intro hx
    obtain ⟨j, hj, e⟩ := mem_getD hx
    have h1 : ¬ j < leap b f x := fun hlt => by
      by_cases hjf : j < f
      · have := h j hjf; omega
      · have := leap_lt b f x j (by omega) hlt; omega
    have h2 : leap b f x ≤ j := by omega
    have h3 := leap_stop b f x (by omega)
    have h4 := rise_le hb h2 hj
    exact ⟨by omega, by omega⟩
  · rintro ⟨h1, h2⟩
    rw [← h2]
    exact getD_mem h1

/-- A number put into a list. -/
def put (l : List Int) (x : Int) : List Int := if lp x l < l.length ∧ l.getD (lp x l) 0 = x then l else l.take (lp x l) ++ x :: l.drop (lp x l)
theorem put_len (l : List Int) (x : Int) : (put l x).length ≤ l.length + 1 := by
  unfold put
  split
  · omega
  · simp; omega
theorem put_mem (l : List Int) (x y : Int) : y ∈ put l x ↔ y = x ∨ y ∈ l := by
  unfold put
  split
  · rename_i h
    constructor
    · exact .inr
    · rintro (rfl | h1)
      · have h2 := h.2
        have := getD_mem h.1
        rwa [h2] at this
      · exact h1
  · have e := List.take_append_drop (lp x l) l
    constructor
    · intro h
      simp only [List.mem_append, List.mem_cons] at h
      rcases h with h | h | h
      · exact .inr (List.mem_of_mem_take h)
      · exact .inl h
      · exact .inr (List.mem_of_mem_drop h)
    · rintro (rfl | h)
      · simp
      · rw [← e] at h
        simp only [List.mem_append, List.mem_cons] at h ⊢
        rcases h with h | h
        · exact .inl h
        · exact .inr (.inr h)
theorem take_lt {l : List Int} {k : Nat} {x y : Int} (h : ∀ j, j < k → l.getD j 0 < x) (hy : y ∈ l.take k) : y < x := by
  obtain ⟨j, hj, e⟩ := mem_getD hy
  have hj' : j < k ∧ j < l.length := by simp at hj; omega
  have := h j hj'.1
  rw [getD_eq hj] at e
  rw [getD_eq hj'.2] at this
  simp at e
  omega
theorem drop_mem {l : List Int} {k : Nat} {y : Int} (hy : y ∈ l.drop k) : ∃ j, k ≤ j ∧ j < l.length ∧ l.getD j 0 = y := by
  obtain ⟨j, hj, e⟩ := mem_getD hy
  rw [drop_getD] at e
  exact ⟨k + j, by omega, by simp at hj; omega, e⟩
theorem put_rise {l : List Int} {x : Int} (h : Rise l) : Rise (put l x) := by
  unfold put
  split
  · exact h
  · rename_i hno
    refine List.pairwise_append.2 ⟨h.sublist (List.take_sublist _ _), List.pairwise_cons.2 ⟨fun y hy => ?_, h.sublist (List.drop_sublist _ _)⟩, fun y hy z hz => ?_⟩
    · obtain ⟨j, hj, hl, e⟩ := drop_mem hy
      have h1 := lp_stop x l (by omega)
      have h2 := rise_le h hj hl
      by_cases e2 : l.getD (lp x l) 0 = x
      · exact absurd ⟨by omega, e2⟩ hno
      · omega
    · have h1 := take_lt (lp_lt x l) hy
      simp only [List.mem_cons] at hz
      rcases hz with rfl | hz
      · exact h1
      · obtain ⟨j, hj, hl, e⟩ := drop_mem hz
        have h2 := lp_stop x l (by omega)
        have h3 := rise_le h hj hl
        omega
/-- Those of either. -/
def joinL (a b : List Int) : List Int := b.foldl put a
theorem joinL_snoc (a b : List Int) (k : Nat) (h : k < b.length) : joinL a (b.take (k + 1)) = put (joinL a (b.take k)) (b.getD k 0) := by
  unfold joinL
  rw [List.take_succ_eq_append_getElem h, List.foldl_append, getD_eq h]
  rfl
theorem joinL_len (a b : List Int) : ∀ k, (joinL a (b.take k)).length ≤ a.length + k
  | 0 => by simp [joinL]
  | k + 1 => by
    have ih := joinL_len a b k
    by_cases h : k < b.length
    · rw [joinL_snoc a b k h]
      have := put_len (joinL a (b.take k)) (b.getD k 0)
      omega
    · rw [List.take_of_length_le (by omega)] at ih ⊢
      omega
theorem joinL_mem : ∀ (b a : List Int) (y : Int), y ∈ joinL a b ↔ y ∈ a ∨ y ∈ b
  | [], a, y => by simp [joinL]
  | x :: b, a, y => by
    have := joinL_mem b (put a x) y
    unfold joinL at this ⊢
    rw [List.foldl_cons, this, put_mem]
    simp only [List.mem_cons]
    constructor
    · rintro ((h | h) | h)
      · exact .inr (.inl h)
      · exact .inl h
      · exact .inr (.inr h)
    · rintro (h | h | h)
      · exact .inl (.inr h)
      · exact .inl (.inl h)
      · exact .inr h
theorem joinL_rise : ∀ (b a : List Int), Rise a → Rise (joinL a b)
  | [], a, h => h
  | x :: b, a, h => joinL_rise b (put a x) (put_rise h)

/-- The program's way: a's numbers one by one, those of b that are less ahead of each. -/
def jst (a b : List Int) : Nat → List Int × Nat
  | 0 => ([], 0)
  | k + 1 =>
    let u := leap b (jst a b k).2 (a.getD k 0)
    ((jst a b k).1 ++ (b.drop (jst a b k).2).take (u - (jst a b k).2) ++ [a.getD k 0], if u < b.length ∧ b.getD u 0 = a.getD k 0 then u + 1 else u)
/-- What holds after k of a's numbers. -/
structure JInv (a b : List Int) (k : Nat) : Prop where
  le : (jst a b k).2 ≤ b.length
  rise : Rise (jst a b k).1
  mem : ∀ y, y ∈ (jst a b k).1 ↔ y ∈ a.take k ∨ y ∈ b.take (jst a b k).2
  low : ∀ y ∈ (jst a b k).1, ∀ j, k ≤ j → j < a.length → y < a.getD j 0
  high : ∀ y ∈ (jst a b k).1, ∀ j, (jst a b k).2 ≤ j → j < b.length → y < b.getD j 0
  len : (jst a b k).1.length ≤ k + (jst a b k).2
theorem take_mem_iff {l : List Int} {k : Nat} {y : Int} : y ∈ l.take k ↔ ∃ j, j < k ∧ j < l.length ∧ l.getD j 0 = y := by
  constructor
  · intro h
    obtain ⟨j, hj, e⟩ := mem_getD h
    have hj' : j < k ∧ j < l.length := by simp at hj; omega
    refine ⟨j, hj'.1, hj'.2, ?_⟩
    rw [getD_eq hj] at e
    rw [getD_eq hj'.2]
    simpa using e
  · rintro ⟨j, h1, h2, rfl⟩
    rw [getD_eq h2]
    exact List.mem_take_iff_getElem.2 ⟨j, by omega, rfl⟩
theorem seg_mem {l : List Int} {f u : Nat} {y : Int} : y ∈ (l.drop f).take (u - f) ↔ ∃ j, f ≤ j ∧ j < u ∧ j < l.length ∧ l.getD j 0 = y := by
  rw [take_mem_iff]
  constructor
  · rintro ⟨j, h1, h2, h3⟩
    rw [drop_getD] at h3
    exact ⟨f + j, by omega, by omega, by simp at h2; omega, h3⟩
  · rintro ⟨j, h1, h2, h3, h4⟩
    exact ⟨j - f, by omega, by simp; omega, by rw [drop_getD, show f + (j - f) = j by omega]; exact h4⟩
theorem jinv {a b : List Int} (ha : Rise a) (hb : Rise b) : ∀ k, k ≤ a.length → JInv a b k
  | 0, _ => ⟨Nat.zero_le _, List.Pairwise.nil, fun y => by simp [jst], fun y hy => by simp [jst] at hy, fun y hy => by simp [jst] at hy, Nat.zero_le _⟩
  | k + 1, hk => by
    have I := jinv ha hb k (by omega)
    obtain ⟨⟨o, f⟩, e⟩ : ∃ p, p = jst a b k := ⟨_, rfl⟩
    have h1 := I.le; have h2 := I.rise; have h3 := I.mem; have h4 := I.low; have h5 := I.high; have h6 := I.len
    rw [← e] at h1 h2 h3 h4 h5 h6
    simp only at h1 h2 h3 h4 h5 h6
    obtain ⟨x, hx⟩ : ∃ x, x = a.getD k 0 := ⟨_, rfl⟩
    obtain ⟨u, hu⟩ : ∃ u, u = leap b f x := ⟨_, rfl⟩
    have u1 : f ≤ u := by rw [hu]; exact leap_ge _ _ _
    have u2 : u ≤ b.length := by rw [hu]; exact leap_le _ _ _ h1
    have u3 : ∀ j, f ≤ j → j < u → b.getD j 0 < x := fun j q1 q2 => leap_lt b f x j q1 (by rw [← hu]; exact q2)
    have u4 : u < b.length → ¬ b.getD u 0 < x := fun q => by have := leap_stop b f x (by rw [← hu]; exact q); rwa [← hu] at this
    obtain ⟨g, hg⟩ : ∃ g, g = if u < b.length ∧ b.getD u 0 = x then u + 1 else u := ⟨_, rfl⟩
    have e2 : jst a b (k + 1) = (o ++ (b.drop f).take (u - f) ++ [x], g) := by
      rw [hg, hu, hx]
      conv => lhs; unfold jst
      rw [← e]
    have g1 : u ≤ g ∧ g ≤ b.length ∧ (g = u ∨ (g = u + 1 ∧ b.getD u 0 = x)) := by
      rw [hg]
      split
      · rename_i q; exact ⟨by omega, by omega, .inr ⟨rfl, q.2⟩⟩
      · exact ⟨Nat.le_refl _, u2, .inl rfl⟩
    have g2 : ∀ j, g ≤ j → j < b.length → x < b.getD j 0 := fun j q1 q2 => by
      have w1 := rise_le hb (show u ≤ j by omega) q2
      have w2 := u4 (by omega)
      rw [hg] at q1
      split at q1
      · rename_i q; have := rise_get hb (show u < j by omega) q2; omega
      · rename_i q
        by_cases e3 : b.getD u 0 = x
        · exact absurd ⟨by omega, e3⟩ q
        · omega
    have ox : ∀ y ∈ o, y < x := fun y hy => by rw [hx]; exact h4 y hy k (Nat.le_refl _) (by omega)
    have newmem : ∀ y, y ∈ o ++ (b.drop f).take (u - f) ++ [x] ↔ y ∈ o ∨ (∃ j, f ≤ j ∧ j < u ∧ j < b.length ∧ b.getD j 0 = y) ∨ y = x := fun y => by
      simp only [List.mem_append, List.mem_singleton, seg_mem]
      constructor
      · rintro ((q | q) | q)
        · exact .inl q
        · exact .inr (.inl q)
        · exact .inr (.inr q)
      · rintro (q | q | q)
        · exact .inl (.inl q)
        · exact .inl (.inr q)
        · exact .inr q
    have lex : ∀ y, y ∈ o ++ (b.drop f).take (u - f) ++ [x] → y ≤ x := fun y hy => by
      rcases (newmem y).1 hy with q | ⟨j, q1, q2, q3, q4⟩ | q
      · have := ox y q; omega
      · have := u3 j q1 q2; omega
      · omega
    refine ⟨?_, ?_, ?_, ?_, ?_, ?_⟩ <;> rw [e2] <;> simp only
    · exact g1.2.1
    · refine List.pairwise_append.2 ⟨List.pairwise_append.2 ⟨h2, (hb.sublist (List.drop_sublist _ _)).sublist (List.take_sublist _ _), fun y hy z hz => ?_⟩, by simp, fun y hy z hz => ?_⟩
      · obtain ⟨j, q1, q2, q3, q4⟩ := seg_mem.1 hz
        have := h5 y hy j q1 q3
        omega
      · simp only [List.mem_singleton] at hz
        subst hz
        rcases List.mem_append.1 hy with q | q
        · exact ox y q
        · obtain ⟨j, q1, q2, q3, q4⟩ := seg_mem.1 q
          have := u3 j q1 q2
          omega
    · intro y
      rw [newmem, h3, take_mem_iff, take_mem_iff, take_mem_iff, take_mem_iff]
      constructor
      · rintro ((⟨j, q1, q2, q3⟩ | ⟨j, q1, q2, q3⟩) | ⟨j, q1, q2, q3, q4⟩ | q)
        · exact .inl ⟨j, by omega, q2, q3⟩
        · exact .inr ⟨j, by omega, q2, q3⟩
        · exact .inr ⟨j, by omega, q3, q4⟩
        · exact .inl ⟨k, by omega, by omega, by rw [q, hx]⟩
      · rintro (⟨j, q1, q2, q3⟩ | ⟨j, q1, q2, q3⟩)
        · by_cases ej : j = k
          · subst ej; exact .inr (.inr (by rw [← q3, hx]))
          · exact .inl (.inl ⟨j, by omega, q2, q3⟩)
        · by_cases ej : j < f
          · exact .inl (.inr ⟨j, ej, q2, q3⟩)
          · by_cases ej2 : j < u
            · exact .inr (.inl ⟨j, by omega, ej2, q2, q3⟩)
            · rcases g1.2.2 with q | ⟨q, q'⟩
              · omega
              · obtain rfl : j = u := by omega
                exact .inr (.inr (by rw [← q3, q']))
    · intro y hy j q1 q2
      have := lex y hy
      have := rise_get ha (show k < j by omega) q2
      omega
    · intro y hy j q1 q2
      have := lex y hy
      have := g2 j q1 q2
      omega
    · simp; omega
theorem join_eq {a b : List Int} (ha : Rise a) (hb : Rise b) : (jst a b a.length).1 ++ b.drop (jst a b a.length).2 = joinL a b := by
  have I := jinv ha hb a.length (Nat.le_refl _)
  refine rise_uniq (List.pairwise_append.2 ⟨I.rise, hb.sublist (List.drop_sublist _ _), fun y hy z hz => ?_⟩) (joinL_rise b a ha) fun y => ?_
  · obtain ⟨j, q1, q2, q3⟩ := drop_mem hz
    have := I.high y hy j q1 q2
    omega
  · rw [joinL_mem, List.mem_append, I.mem, List.take_length]
    conv => rhs; rw [← List.take_append_drop (jst a b a.length).2 b]
    rw [List.mem_append]
    constructor
    · rintro ((q | q) | q)
      · exact .inl q
      · exact .inr (.inl q)
      · exact .inr (.inr q)
    · rintro (q | q | q)
      · exact .inl (.inl q)
      · exact .inl (.inr q)
      · exact .inr q
end Go.Proofs.Ythmekhhfihjclbd.L4

namespace Go.Proofs.Ythmekhhfihjclbd.L4
open Go.RowKit L1
set_option linter.unusedVariables false

theorem own_belowT {w w' : World} {base n : Nat} {t : TypeId} {c : Nat} {v : Value} {ys : List Value} (h : w.ownsRow base t c v n ys) (hb : Below w.heap.size w w') : w'.ownsRow base t c v n ys := by
  refine ⟨h.1, ?_⟩
  rcases h.2 with h0 | ⟨g, cap, cur, rfl, hbg, hg, r⟩
  · exact .inl h0
  · exact .inr ⟨g, cap, cur, rfl, hbg, by rw [hb.block g (Array.getElem?_eq_some_iff.1 hg).1]; exact hg, r⟩
theorem own_baseT {w : World} {b c n size : Nat} {e : TypeId} {v : Value} {xs : List Value} (h : w.ownsRow c e size v n xs) (hbc : b ≤ c) : w.ownsRow b e size v n xs := by
  refine ⟨h.1, ?_⟩
  rcases h.2 with h0 | ⟨g, cap, cur, hv, hg, r⟩
  · exact .inl h0
  · exact .inr ⟨g, cap, cur, hv, Nat.le_trans hbc hg, r⟩
theorem own_some {w : World} {base n c : Nat} {t : TypeId} {v : Value} {xs : List Value} (h : w.ownsRow base t c v n xs) (hv : ¬ v = .slice none 0 0) : ∃ g cap, v = .slice (some ⟨g, 0, none⟩) n cap ∧ n ≤ cap ∧ cap ≤ maxLen := by
  rcases h.2 with ⟨hv', h0⟩ | ⟨g, cap, cur, hv', _, _, hc, hm, _⟩
  · exact absurd hv' hv
  · exact ⟨g, cap, hv', hc, hm⟩
theorem own_shapeT {w : World} {base n c : Nat} {t : TypeId} {v : Value} {xs : List Value} (h : w.ownsRow base t c v n xs) : ∃ a cap, v = .slice a n cap := by
  rcases h.2 with ⟨hv, h0⟩ | ⟨g, cap, cur, hv, _⟩
  · exact ⟨none, 0, by rw [hv, h0]⟩
  · exact ⟨_, cap, hv⟩
theorem bool_noT {b : Bool} {p : Prop} (h : b = true ↔ p) (hp : ¬ p) : b = false := by
  cases b with
  | false => rfl
  | true => exact absurd (h.1 rfl) hp
theorem own_neG {w : World} {base n cap g c : Nat} {t : TypeId} {a : Option Addr} {xs : List Value} (h : w.ownsRow base t c (.slice a n cap) n xs) (hg : g < base) : (Value.slice a n cap).ownBlock = none ∨ (Value.slice a n cap).ownBlock ≠ some g := by
  cases a with
  | none => exact .inl rfl
  | some x =>
    refine .inr fun e => ?_
    have := (h.lt g e).1
    omega
theorem sl_baseI {w w' : World} {a : Option Addr} {xs : List Int} {base : Nat} (h : Sl w a xs) (hb : Below base w w') (hlt : ∀ x, a = some x → x.block < base) : Sl w' a xs := fun i hi => by
  obtain ⟨b, off, ha, hc⟩ := h i hi
  exact ⟨b, off, ha, (hb.cell (p := ⟨b, off + i, none⟩) (hlt ⟨b, off, none⟩ ha)).trans hc⟩
theorem own_slI {w : World} {base n cap : Nat} {a : Option Addr} {xs : List Int} (h : w.ownsRow base 3 1 (.slice a n cap) n (xs.map (Value.int .i64))) : Sl w a xs := by
  obtain ⟨b, q, e, s, _⟩ := own_form h
  cases e
  exact s
theorem cell_one_new (w : World) (p : Value) (t : TypeId) : ∀ j u, [p][j]? = some u → (w.alloc (.cells #[p] t)).cell? ((⟨w.heap.size, 0, none⟩ : Addr).add j) = some u := by
  intro j u h
  rw [addr_add]
  match j, h with
  | 0, h => simp at h; subst h; simp
  | j + 1, h => simp at h
theorem ints_one (xs : List Int) : ∀ u ∈ xs.map (Value.int .i64), u.oneCell' = true := fun u hu => by
  obtain ⟨x, _, rfl⟩ := List.mem_map.1 hu
  rfl
theorem add_at (b off i : Nat) : (⟨b, off, none⟩ : Addr).add i = ⟨b, off + i, none⟩ := by unfold Addr.add; split <;> simp_all
/-- What lies from a place on. -/
theorem sl_seg {w : World} {b off : Nat} {xs : List Int} (h : Sl w (some ⟨b, off, none⟩) xs) (f m : Nat) : ∀ j u, (((xs.drop f).take m).map (Value.int .i64))[j]? = some u → w.cell? ((⟨b, off + f, none⟩ : Addr).add j) = some u := fun j u hu => by
  rw [add_at]
  rw [List.getElem?_map, List.getElem?_take] at hu
  split at hu
  · rw [List.getElem?_drop] at hu
    by_cases hj : f + j < xs.length
    · have := h.at (f + j) hj
      rw [List.getElem?_eq_getElem hj] at hu
      simp only [Option.map_some, Option.some.injEq] at hu
      rw [← hu, Nat.add_assoc, this, getD_eq hj]
    · rw [List.getElem?_eq_none (by omega)] at hu
      simp at hu
  · simp at hu
end Go.Proofs.Ythmekhhfihjclbd.L4
