/-
  The mathematics of the laws on two logs and their epochs: where an Epoch ends the next start is; logs of one history are alike up to where a follower cuts. Nothing of the program is used.
-/
import Derived.Test.YtdnmklcnlndmhacL7FolMath
import Derived.Test.YtdnmklcnlndmhacL7MatMath
import Derived.Test.YtdnmklcnlndmhacL7GSMath
namespace Go.Proofs.Ytdnmklcnlndmhac.L7
open Go.RowKit L1
set_option linter.unusedVariables false

/-- What holds of each start of the first entries. -/
def StI (l : List En) (K : Nat) (S : List (Int × Int)) (i : Nat) : Prop :=
  (∃ s : Nat, (S.getD i (0, 0)).2 = (s : Int) ∧ s < K ∧ (l.getD s eE).1 = (S.getD i (0, 0)).1) ∧
  (∀ j, j < K → (i + 1 < S.length → (j : Int) < (S.getD (i + 1) (0, 0)).2) → (l.getD j eE).1 ≤ (S.getD i (0, 0)).1) ∧
  (i + 1 < S.length → (S.getD i (0, 0)).2 < (S.getD (i + 1) (0, 0)).2)
theorem sts_each {l : List En} (hM : Mono l) : ∀ K, K ≤ l.length → ∀ i, i < (stsK l K).length → StI l K (stsK l K) i
  | 0, _, i, hi => by simp [stsK] at hi
  | K + 1, hK, i, hi => by
    have ih := sts_each hM K (by omega)
    by_cases h : K = 0 ∨ (l.getD (K - 1) eE).1 ≠ (l.getD K eE).1
    · rw [stsK_yes l K h] at hi ⊢
      simp only [List.length_append, List.length_cons, List.length_nil] at hi
      have g1 : ∀ i, i < (stsK l K).length → (stsK l K ++ [((l.getD K eE).1, (K : Int))]).getD i (0, 0) = (stsK l K).getD i (0, 0) := fun i hi => by
        simp [List.getD, List.getElem?_append_left hi]
      have g2 : (stsK l K ++ [((l.getD K eE).1, (K : Int))]).getD (stsK l K).length (0, 0) = ((l.getD K eE).1, (K : Int)) := by
        simp [List.getD]
      by_cases e : i = (stsK l K).length
      · refine ⟨⟨K, by rw [e, g2], by omega, by rw [e, g2]⟩, fun j hj _ => ?_, fun h => ?_⟩
        · rw [e, g2]; exact hM j K (by omega) (by omega)
        · simp only [List.length_append, List.length_cons, List.length_nil] at h; omega
      · have hi' : i < (stsK l K).length := by omega
        obtain ⟨⟨s, h1, h2, h3⟩, h4, h5⟩ := ih i hi'
        by_cases e2 : i + 1 = (stsK l K).length
        · refine ⟨⟨s, by rw [g1 i hi']; exact h1, by omega, by rw [g1 i hi']; exact h3⟩, fun j hj hh => ?_, fun _ => ?_⟩
          · have h6 := hh (by simp only [List.length_append, List.length_cons, List.length_nil]; omega)
            rw [e2, g2] at h6
            simp only at h6
            rw [g1 i hi']
            exact h4 j (by omega) (fun h => by omega)
          · rw [e2, g2, g1 i hi', h1]
            simp only
            omega
        · have hi2 : i + 1 < (stsK l K).length := by omega
          obtain ⟨⟨s2, k1, k2, _⟩, _, _⟩ := ih (i + 1) hi2
          refine ⟨⟨s, by rw [g1 i hi']; exact h1, by omega, by rw [g1 i hi']; exact h3⟩, fun j hj hh => ?_, fun _ => ?_⟩
          · have h6 := hh (by simp only [List.length_append, List.length_cons, List.length_nil]; omega)
            rw [g1 (i + 1) hi2] at h6
            rw [g1 i hi']
            exact h4 j (by omega) (fun _ => h6)
          · rw [g1 i hi', g1 (i + 1) hi2]
            exact h5 hi2
    · rw [stsK_no l K h] at hi ⊢
      have he : 0 < K ∧ (l.getD (K - 1) eE).1 = (l.getD K eE).1 := by omega
      obtain ⟨⟨s, h1, h2, h3⟩, h4, h5⟩ := ih i hi
      refine ⟨⟨s, h1, by omega, h3⟩, fun j hj hh => ?_, h5⟩
      by_cases e : j = K
      · by_cases e2 : i + 1 < (stsK l K).length
        · obtain ⟨⟨s2, k1, k2, _⟩, _, _⟩ := ih (i + 1) e2
          have := hh e2
          rw [k1] at this
          omega
        · rw [e, ← he.2]
          exact h4 (K - 1) (by omega) (fun h => absurd h e2)
      · exact h4 j (by omega) hh
theorem sts_st {l : List En} (hM : Mono l) (i : Nat) (hi : i < (sts l).length) : StI l l.length (sts l) i := sts_each hM l.length (Nat.le_refl _) i hi
/-- Where an Epoch ends the next start is. -/
theorem end_nxt {l : List En} (hM : Mono l) (i : Nat) (hi : i < (sts l).length) : (endE l ((sts l).getD i (0, 0)).1 : Int) = nxt (sts l) i l.length := by
  obtain ⟨⟨s, h1, h2, h3⟩, h4, h5⟩ := sts_st hM i hi
  unfold nxt
  by_cases e : i + 1 < (sts l).length
  · rw [if_pos e]
    obtain ⟨⟨s2, k1, k2, k3⟩, _, _⟩ := sts_st hM (i + 1) e
    rw [k1]
    have hr := sts_rise hM i (i + 1) (by omega) e
    rw [endE_back l _ s2 hM (by omega) (fun j hj1 hj2 => by
      have := hM s2 j hj1 hj2
      rw [k3] at this
      omega) (by
      by_cases e0 : s2 = 0
      · exact .inl e0
      · exact .inr (h4 (s2 - 1) (by omega) (fun _ => by rw [k1]; omega)))]
  · rw [if_neg e]
    rw [endE_back l _ l.length hM (Nat.le_refl _) (fun j hj1 hj2 => by omega) (by
      by_cases e0 : l.length = 0
      · exact .inl e0
      · exact .inr (h4 (l.length - 1) (by omega) (fun h => absurd h e)))]
theorem end_up {l : List En} (hM : Mono l) (e : Int) (j : Nat) (hj : j < endE l e) (hl : j < l.length) : (l.getD j eE).1 ≤ e := by
  by_cases h : (l.getD j eE).1 ≤ e
  · exact h
  · have h2 : endE l e ≤ j := by
      have hz : ∀ k, j ≤ k → k ≤ l.length → endK l e k ≤ j := by
        intro k hk hkl
        induction k with
        | zero => simp [endK]
        | succ k ih =>
          by_cases e1 : j = k + 1
          · rw [e1]; exact endK_le l e (k + 1)
          · have h3 := hM j k (by omega) (by omega)
            simp only [endK]
            rw [if_neg (by omega)]
            exact ih (by omega) (by omega)
      exact hz _ (by omega) (Nat.le_refl _)
    omega
theorem end_ge {l : List En} (hM : Mono l) (e : Int) (s : Nat) (hs : s < l.length) (h : (l.getD s eE).1 ≤ e) : s < endE l e := by
  have hz : ∀ k, s < k → k ≤ l.length → s < endK l e k := by
    intro k hk hkl
    induction k with
    | zero => omega
    | succ k ih =>
      by_cases e1 : s = k
      · have hall : ∀ q, q ≤ k → endK l e q = q := by
          intro q hq
          induction q with
          | zero => rfl
          | succ q ihq =>
            have := hM q k (by omega) (by omega)
            rw [e1] at h
            simp only [endK]
            rw [ihq (by omega), if_pos (by omega)]
        simp only [endK]
        rw [hall k (Nat.le_refl _)]
        rw [e1] at h ⊢
        rw [if_pos h]
        omega
      · have := ih (by omega) (by omega)
        simp only [endK]
        omega
  exact hz _ hs (Nat.le_refl _)
/-- A follower with one history cuts where the logs are still alike. -/
theorem fnd_match {l m : List En} (hl : Mono l) (hm : Mono m) (h : MatP l m) : ∀ i q, i ≤ (sts l).length → (fnd l (sts l) (sts m) m.length i q).1 ≤ (prt l m : Int)
  | 0, q, _ => by simp only [fnd]; omega
  | i + 1, q, hi => by
    cases e : idx (sts m) ((sts l).getD i (0, 0)).1 with
    | none => rw [fnd_none e]; exact fnd_match hl hm h i (q + 1) (by omega)
    | some k =>
      rw [fnd_some e]
      obtain ⟨hk, hke⟩ := idx_lt _ _ _ e
      have hb := h.1 i (by omega) k hk hke.symm
      have hn := end_nxt hm k hk
      obtain ⟨⟨s, h1, h2, h3⟩, _, _⟩ := sts_st hl i (by omega)
      obtain ⟨⟨s', k1, k2, k3⟩, _, _⟩ := sts_st hm k hk
      obtain rfl : s = s' := by rw [h1, k1] at hb; omega
      simp only
      rw [← hn, hke]
      rw [hke] at k3
      have g1 := end_ge hl ((sts l).getD i (0, 0)).1 s h2 (by rw [h3]; exact Int.le_refl _)
      have g2 := end_ge hm ((sts l).getD i (0, 0)).1 s k2 (by rw [k3]; exact Int.le_refl _)
      have g3 := endE_le l ((sts l).getD i (0, 0)).1
      have g4 := endE_le m ((sts l).getD i (0, 0)).1
      obtain ⟨p, hp⟩ : ∃ p, p = min (endE l ((sts l).getD i (0, 0)).1) (endE m ((sts l).getD i (0, 0)).1) := ⟨_, rfl⟩
      by_cases hc : p ≤ prt l m
      · omega
      · exfalso
        have u1 := end_up hl ((sts l).getD i (0, 0)).1 (p - 1) (by omega) (by omega)
        have u2 := end_up hm ((sts l).getD i (0, 0)).1 (p - 1) (by omega) (by omega)
        have v1 := hl s (p - 1) (by omega) (by omega)
        have v2 := hm s (p - 1) (by omega) (by omega)
        rw [h3] at v1
        rw [k3] at v2
        exact h.2 (p - 1) (by omega) (by omega) (by omega) (by omega)
theorem take_prt {l m : List En} (p : Nat) (h : p ≤ prt l m) : l.take p = m.take p := by
  have hle := prt_le l m
  apply List.ext_getElem?
  intro j
  by_cases hj : j < p
  · have h1 := prt_same l m j (by omega)
    simp only [List.getD, List.getElem?_eq_getElem (show j < l.length by omega), List.getElem?_eq_getElem (show j < m.length by omega), Option.getD_some] at h1
    rw [List.getElem?_take_of_lt hj, List.getElem?_take_of_lt hj, List.getElem?_eq_getElem (show j < l.length by omega), List.getElem?_eq_getElem (show j < m.length by omega), h1]
  · rw [List.getElem?_eq_none (by simp; omega), List.getElem?_eq_none (by simp; omega)]
theorem fol_match {l m : List En} (hl : Mono l) (hm : Mono m) (h : MatP l m) : (fol l m).1 = m ∧ (fol l m).2 ≤ (prt l m : Int) := by
  have h1 := fnd_match hl hm h (sts l).length 0 (Nat.le_refl _)
  have h2 := find_bd (l := l) hm
  refine ⟨?_, h1⟩
  have h3 : (find l (sts m) m.length).1.toNat ≤ prt l m := by
    have : (find l (sts m) m.length).1 ≤ (prt l m : Int) := h1
    omega
  show l.take _ ++ m.drop _ = m
  rw [take_prt _ h3, List.take_append_drop]
/-- A follower that has the leader's log keeps all of it. -/
theorem fol_self {m : List En} (hm : Mono m) : fol m m = (m, (m.length : Int)) := by
  have hf : (find m (sts m) m.length).1 = (m.length : Int) := by
    unfold find
    cases e : (sts m).length with
    | zero =>
      have : m.length = 0 := by
        cases m with
        | nil => rfl
        | cons x m =>
          exfalso
          have h0 : 0 < (stsK (x :: m) 1).length := by rw [stsK_yes _ 0 (.inl rfl)]; simp
          have hmon : ∀ K, 1 ≤ K → 0 < (stsK (x :: m) K).length := by
            intro K hK
            induction K with
            | zero => omega
            | succ K ih =>
              by_cases e1 : K = 0
              · rw [e1]; exact h0
              · have := ih (by omega)
                simp only [stsK, List.length_append]
                omega
          have := hmon (x :: m).length (by simp)
          have e2 : (sts (x :: m)).length = 0 := e
          unfold sts at e2
          omega
      simp only [fnd, this]
      rfl
    | succ i =>
      have hi : i < (sts m).length := by omega
      have hx : idx (sts m) ((sts m).getD i (0, 0)).1 = some i := idx_some _ _ i hi rfl (fun j hj => by have := sts_rise hm j i hj hi; omega)
      rw [fnd_some hx]
      have hn := end_nxt hm i hi
      have hq : nxt (sts m) i m.length = (m.length : Int) := by unfold nxt; rw [if_neg (by omega)]
      simp only
      rw [hq] at hn ⊢
      omega
  unfold fol
  rw [hf]
  simp
/-- What is found lies within both. -/
theorem find_in {l : List En} {st : List (Int × Int)} {en : Int} (h : GoodS st en) : (find l st en).1 ≤ (l.length : Int) ∧ (find l st en).1 ≤ en := by
  have := fnd_bd l (sts l) st en h.1.2.1 (fun k hk => by have := (h.2 k hk).1; unfold okS at this; omega) (sts l).length 0
  exact ⟨this.2.1, this.2.2⟩
theorem prt_comm : ∀ a b : List En, prt a b = prt b a
  | [], [] => rfl
  | [], _ :: _ => by simp [prt]
  | _ :: _, [] => by simp [prt]
  | x :: a, y :: b => by
    simp only [prt]
    by_cases e : x = y
    · rw [if_pos e, if_pos e.symm, prt_comm a b]
    · rw [if_neg e, if_neg (fun h => e h.symm)]
theorem mat_comm (l m : List En) : MatP l m ↔ MatP m l := by
  have h : ∀ l m : List En, MatP l m → MatP m l := fun l m h =>
    ⟨fun i hi j hj e => (h.1 j hj i hi e.symm).symm, fun i h1 h2 h3 e => h.2 i (by rw [prt_comm]; exact h1) h3 h2 e.symm⟩
  exact ⟨h l m, h m l⟩
theorem new_not (l m : List En) (h1 : NewE l m) (h2 : NewE m l) : False := by
  unfold NewE at h1 h2
  omega
end Go.Proofs.Ytdnmklcnlndmhac.L7
