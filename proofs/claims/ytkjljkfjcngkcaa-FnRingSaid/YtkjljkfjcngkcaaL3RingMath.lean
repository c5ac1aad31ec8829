/-
  Plain mathematics of a ring: where an owner comes nothing goes but to it, and when it leaves all is as it was. Nothing of the program's text is proved here.
-/
import Derived.Test.YtkjljkfjcngkcaaL3AddMath
import Derived.Test.YtkjljkfjcngkcaaL3Owner
namespace Go.Proofs.Ytkjljkfjcngkcaa.L3
open Go.RowKit L1
set_option linter.unusedVariables false

/-- The owner of the token for a hash, where there is a token. -/
def ownAt (l : List (Int × Int)) (h : Int) : Int := (l.getD (fst l h) (0, 0)).2
theorem fi_app_none {h : Int} : ∀ {l : List (Int × Int)}, fi h l = none → ∀ p ∈ l, p.1 < h
  | [], _, p, hp => by simp at hp
  | q :: l, hn, p, hp => by
    unfold fi at hn
    split at hn
    · cases hn
    · rename_i hq
      cases hl : fi h l with
      | none =>
        rcases List.mem_cons.1 hp with rfl | hp
        · omega
        · exact fi_app_none hl p hp
      | some k => rw [hl] at hn; simp at hn
/-- The token for a hash: the first at it or behind it, else the first of all. -/
theorem tok_at {h : Int} : ∀ {l : List (Int × Int)} {k : Nat}, fi h l = some k → ∃ u q v, l = u ++ q :: v ∧ u.length = k ∧ h ≤ q.1 ∧ ∀ p ∈ u, p.1 < h
  | [], k, hk => by simp [fi] at hk
  | p :: l, k, hk => by
    unfold fi at hk
    split at hk
    · rename_i hp
      cases hk
      exact ⟨[], p, l, rfl, rfl, hp, fun p hp => by simp at hp⟩
    · rename_i hp
      cases hl : fi h l with
      | none => rw [hl] at hk; simp at hk
      | some j =>
        rw [hl] at hk
        simp at hk
        obtain ⟨u, q, v, rfl, hu, hq, hall⟩ := tok_at hl
        refine ⟨p :: u, q, v, rfl, by simp [hu]; omega, hq, fun r hr => ?_⟩
        rcases List.mem_cons.1 hr with rfl | hr
        · omega
        · exact hall r hr
theorem getD_mid (u v : List (Int × Int)) (q : Int × Int) : (u ++ q :: v).getD u.length (0, 0) = q := by simp [List.getD]
/-- What the token for a hash is, in words: of a list by rising At. -/
def IsTok (l : List (Int × Int)) (h : Int) (q : Int × Int) : Prop :=
  q ∈ l ∧ ((h ≤ q.1 ∧ ∀ p ∈ l, h ≤ p.1 → q.1 ≤ p.1) ∨ ((∀ p ∈ l, p.1 < h) ∧ ∀ p ∈ l, q.1 ≤ p.1))
theorem isTok {l : List (Int × Int)} (hu : UpS l) (h : Int) (h0 : 0 < l.length) : IsTok l h (l.getD (fst l h) (0, 0)) := by
  unfold fst
  cases hf : fi h l with
  | some k =>
    obtain ⟨u, q, v, rfl, rfl, hq, hall⟩ := tok_at hf
    rw [Option.getD_some, getD_mid]
    have hp := List.pairwise_append.1 hu
    refine ⟨by simp, .inl ⟨hq, fun p hp' hh => ?_⟩⟩
    rcases List.mem_append.1 hp' with h1 | h1
    · have := hall p h1; omega
    · rcases List.mem_cons.1 h1 with rfl | h1
      · exact Int.le_refl _
      · have := (List.pairwise_cons.1 hp.2.1).1 p h1; omega
  | none =>
    cases l with
    | nil => simp at h0
    | cons q l =>
      refine ⟨by simp, .inr ⟨fi_app_none hf, fun p hp => ?_⟩⟩
      simp only [Option.getD_none, List.getD_cons_zero]
      rcases List.mem_cons.1 hp with rfl | hp
      · exact Int.le_refl _
      · have := (List.pairwise_cons.1 hu).1 p hp; omega
theorem isTok_uniq {l : List (Int × Int)} (hu : UpS l) {h : Int} {p q : Int × Int} (hp : IsTok l h p) (hq : IsTok l h q) : p.1 = q.1 := by
  obtain ⟨m1, c1⟩ := hp
  obtain ⟨m2, c2⟩ := hq
  rcases c1 with ⟨a1, b1⟩ | ⟨a1, b1⟩ <;> rcases c2 with ⟨a2, b2⟩ | ⟨a2, b2⟩
  · have := b1 q m2 a2; have := b2 p m1 a1; omega
  · have := a2 p m1; omega
  · have := a1 q m2; omega
  · have := b1 q m2; have := b2 p m1; omega
theorem up_key {l : List (Int × Int)} (hu : UpS l) {p q : Int × Int} (hp : p ∈ l) (hq : q ∈ l) (e : p.1 = q.1) : p = q := by
  obtain ⟨i, hi, rfl⟩ := List.getElem_of_mem hp
  obtain ⟨j, hj, rfl⟩ := List.getElem_of_mem hq
  rcases Nat.lt_trichotomy i j with h | h | h
  · have := List.pairwise_iff_getElem.1 hu i j hi hj h; omega
  · subst h; rfl
  · have := List.pairwise_iff_getElem.1 hu j i hj hi h; omega
/-- Where an owner comes nothing goes but to it (Karger). -/
theorem karger {l s : List (Int × Int)} {o : Int} {ps : List Int} (hl : UpS l) (hs : UpS s) (hp : s.Perm (l ++ news o ps)) (h : Int) (h0 : 0 < l.length) : ownAt s h = ownAt l h ∨ ownAt s h = o := by
  have hs0 : 0 < s.length := by rw [hp.length_eq, List.length_append]; omega
  have t1 := isTok hl h h0
  have t2 := isTok hs h hs0
  unfold ownAt
  obtain ⟨p, hpe⟩ : ∃ p, p = l.getD (fst l h) (0, 0) := ⟨_, rfl⟩
  obtain ⟨q, hqe⟩ : ∃ q, q = s.getD (fst s h) (0, 0) := ⟨_, rfl⟩
  rw [← hpe] at t1 ⊢
  rw [← hqe] at t2 ⊢
  rcases List.mem_append.1 (hp.subset t2.1) with hq | hq
  · left
    have hsub : ∀ x ∈ l, x ∈ s := fun x hx => hp.symm.subset (List.mem_append.2 (.inl hx))
    have t3 : IsTok l h q := by
      refine ⟨hq, ?_⟩
      rcases t2.2 with ⟨a, b⟩ | ⟨a, b⟩
      · exact .inl ⟨a, fun x hx hh => b x (hsub x hx) hh⟩
      · exact .inr ⟨fun x hx => a x (hsub x hx), fun x hx => b x (hsub x hx)⟩
    rw [up_key hl hq t1.1 (isTok_uniq hl t3 t1)]
  · right
    unfold news at hq
    obtain ⟨a, _, rfl⟩ := List.mem_map.1 hq
    rfl
/-- When it leaves all is as it was. -/
theorem back {l s : List (Int × Int)} {o : Int} {ps : List Int} (hl : UpS l) (hs : UpS s) (hno : ¬ HasO l o) (hp : s.Perm (l ++ news o ps)) : dropL s o = l := by
  have hll : dropL l o = l := by
    unfold dropL
    rw [List.filter_eq_self]
    intro p hp
    obtain ⟨j, hj, rfl⟩ := List.getElem_of_mem hp
    have : ¬ l[j].2 = o := fun e => hno ⟨j, hj, by simp only [List.getD, List.getElem?_eq_getElem hj, Option.getD_some]; exact e⟩
    simpa using this
  have hnn : dropL (news o ps) o = [] := by
    unfold dropL news
    rw [List.filter_eq_nil_iff]
    intro p hp
    obtain ⟨a, _, rfl⟩ := List.mem_map.1 hp
    simp
  have h1 : (dropL s o).Perm (dropL (l ++ news o ps) o) := hp.filter _
  have h2 : dropL (l ++ news o ps) o = l := by
    unfold dropL at *
    rw [List.filter_append, hll, hnn, List.append_nil]
  rw [h2] at h1
  exact upS_uniq (List.Pairwise.sublist List.filter_sublist hs) hl h1
theorem came_has {s l : List (Int × Int)} {o : Int} {ps : List Int} (h1 : 1 ≤ ps.length) (hp : s.Perm (l ++ news o ps)) : HasO s o := by
  obtain ⟨a, ha⟩ : ∃ a, a ∈ ps := by cases ps with
    | nil => simp at h1
    | cons a _ => exact ⟨a, by simp⟩
  have hm : (a, o) ∈ s := hp.symm.subset (List.mem_append.2 (.inr (List.mem_map.2 ⟨a, ha, rfl⟩)))
  obtain ⟨j, hj, e⟩ := List.getElem_of_mem hm
  exact ⟨j, hj, by simp only [List.getD, List.getElem?_eq_getElem hj, Option.getD_some]; rw [e]⟩
theorem addRes_inv {l : List (Int × Int)} {o : Int} {ps : List Int} {s : List (Int × Int)} (h : addRes l o ps = some s) : AddAsk l o ps ∧ s.Perm (l ++ news o ps) ∧ GoodT s := by
  unfold addRes at h
  split at h
  · rename_i hh
    have := Classical.choose_spec hh.2
    rw [Option.some.injEq] at h
    rw [h] at this
    exact ⟨hh.1, this⟩
  · cases h
end Go.Proofs.Ytkjljkfjcngkcaa.L3
