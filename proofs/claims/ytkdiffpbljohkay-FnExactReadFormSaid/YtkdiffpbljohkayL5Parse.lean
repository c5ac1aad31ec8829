/-
  How a form is read off a text: a parser over the text's bytes, by place and by how deep it may still go. Nothing of the program is proved here.
-/
import Derived.Test.YtkdiffpbljohkayL5Str
namespace Go.Proofs.Ytkdiffpbljohkay.L5
open Go.RowKit L1 L4
set_option linter.unusedVariables false

/-- The byte at a place; behind the end none that means something. -/
def byt (s : ByteArray) (k : Nat) : Int := (bts s 0).getD k 0
theorem byt_end {s : ByteArray} {k : Nat} (h : s.size ≤ k) : byt s k = 0 := by
  unfold byt
  have : (bts s 0).length = s.size := by rw [bts_len]; omega
  simp [List.getD, List.getElem?_eq_none (by omega : (bts s 0).length ≤ k)]
theorem byt_lt {s : ByteArray} {k : Nat} (h : byt s k ≠ 0) : k < s.size := by
  rcases Nat.lt_or_ge k s.size with h1 | h1
  · exact h1
  · exact absurd (byt_end h1) h
theorem byt_byte (s : ByteArray) (k : Nat) : 0 ≤ byt s k ∧ byt s k < 256 := bts_byte s 0 k
/-- Stars and hats behind a form. -/
def post (s : ByteArray) : Nat → Sh → Nat → Sh × Nat
  | 0, x, k => (x, k)
  | f + 1, x, k => if byt s k = 42 then post s f (.many x) (k + 1) else if byt s k = 94 then post s f (.inv x) (k + 1) else (x, k)
def PP (s : ByteArray) (x : Sh) (k : Nat) : Sh × Nat := post s (s.size - k) x k
theorem PP_star {s : ByteArray} {x : Sh} {k : Nat} (h : byt s k = 42) : PP s x k = PP s (.many x) (k + 1) := by
  have hk := byt_lt (s := s) (k := k) (by omega)
  unfold PP
  rw [show s.size - k = (s.size - (k + 1)) + 1 by omega, post, if_pos h]
theorem PP_hat {s : ByteArray} {x : Sh} {k : Nat} (h : byt s k = 94) : PP s x k = PP s (.inv x) (k + 1) := by
  have hk := byt_lt (s := s) (k := k) (by omega)
  unfold PP
  rw [show s.size - k = (s.size - (k + 1)) + 1 by omega, post, if_neg (by omega), if_pos h]
theorem PP_stop {s : ByteArray} {x : Sh} {k : Nat} (h1 : byt s k ≠ 42) (h2 : byt s k ≠ 94) : PP s x k = (x, k) := by
  unfold PP
  cases s.size - k with
  | zero => rfl
  | succ f => rw [post, if_neg h1, if_neg h2]
theorem post_le (s : ByteArray) : ∀ (f : Nat) (x : Sh) (k : Nat), k ≤ (post s f x k).2 ∧ (k ≤ s.size → (post s f x k).2 ≤ s.size)
  | 0, x, k => ⟨Nat.le_refl _, fun h => h⟩
  | f + 1, x, k => by
    unfold post
    by_cases h1 : byt s k = 42
    · rw [if_pos h1]
      have := post_le s f (.many x) (k + 1)
      have hk := byt_lt (s := s) (k := k) (by omega)
      exact ⟨by omega, fun _ => this.2 (by omega)⟩
    · rw [if_neg h1]
      by_cases h2 : byt s k = 94
      · rw [if_pos h2]
        have := post_le s f (.inv x) (k + 1)
        have hk := byt_lt (s := s) (k := k) (by omega)
        exact ⟨by omega, fun _ => this.2 (by omega)⟩
      · rw [if_neg h2]
        exact ⟨Nat.le_refl _, fun h => h⟩
/-- Two forms, with a byte between (0: none) and a byte behind. -/
def twoOf (p : Nat → Option Sh × Nat) (s : ByteArray) (mid behind : Int) (mk : Sh → Sh → Sh) (k : Nat) : Option Sh × Nat :=
  match p k with
  | (none, k2) => (none, k2)
  | (some a, k2) => if mid ≠ 0 ∧ byt s k2 ≠ mid then (none, k2) else
    match p (if mid = 0 then k2 else k2 + 1) with
    | (none, k4) => (none, k4)
    | (some b, k4) => if byt s k4 = behind then (some (mk a b), k4 + 1) else (none, k4)
/-- A form without what stands behind it. -/
def firstOf (p : Nat → Option Sh × Nat) (s : ByteArray) (k : Nat) : Option Sh × Nat :=
  if byt s k = 33 then (some .none, k + 1)
  else if byt s k = 37 then (some .empty, k + 1)
  else if byt s k = 46 then (some .any, k + 1)
  else if byt s k = 40 then twoOf p s 0 41 .seq (k + 1)
  else if byt s k = 91 then twoOf p s 124 93 .alt (k + 1)
  else if 97 ≤ byt s k ∧ byt s k ≤ 122 then (some (.letter (byt s k)), k + 1)
  else (none, k)
def prs (s : ByteArray) : Nat → Nat → Option Sh × Nat
  | 0, k => (none, k)
  | n + 1, k => match firstOf (prs s n) s k with
    | (none, k1) => (none, k1)
    | (some x, k1) => (some (PP s x k1).1, (PP s x k1).2)
/-- Where a reader may end. -/
def InT (s : ByteArray) (k : Nat) (r : Option Sh × Nat) : Prop := k ≤ r.2 ∧ r.2 ≤ s.size
theorem two_in {p : Nat → Option Sh × Nat} {s : ByteArray} (hp : ∀ k, k ≤ s.size → InT s k (p k)) (mid behind : Int) (hb : behind ≠ 0) (mk : Sh → Sh → Sh) (k : Nat) (hk : k ≤ s.size) : InT s k (twoOf p s mid behind mk k) := by
  unfold twoOf
  have h1 := hp k hk
  unfold InT at h1
  rcases he : p k with ⟨r, k2⟩
  rw [he] at h1
  cases r with
  | none => exact h1
  | some a =>
    simp only at h1 ⊢
    by_cases hm : mid ≠ 0 ∧ byt s k2 ≠ mid
    · rw [if_pos hm]; exact h1
    · rw [if_neg hm]
      have hk3 : (if mid = 0 then k2 else k2 + 1) ≤ s.size ∧ k2 ≤ (if mid = 0 then k2 else k2 + 1) := by
        by_cases h0 : mid = 0
        · rw [if_pos h0]; exact ⟨h1.2, Nat.le_refl _⟩
        · rw [if_neg h0]
          have : byt s k2 = mid := by
            apply Classical.byContradiction
            intro h; exact hm ⟨h0, h⟩
          have := byt_lt (s := s) (k := k2) (by omega)
          omega
      have h3 := hp _ hk3.1
      rcases he2 : p (if mid = 0 then k2 else k2 + 1) with ⟨r2, k4⟩
      rw [he2] at h3
      unfold InT at h3
      cases r2 with
      | none => exact ⟨by simp only at h3 ⊢; omega, h3.2⟩
      | some b =>
        simp only at h3 ⊢
        by_cases hq : byt s k4 = behind
        · rw [if_pos hq]
          have := byt_lt (s := s) (k := k4) (by omega)
          exact ⟨by simp only; omega, by simp only; omega⟩
        · rw [if_neg hq]; exact ⟨by simp only; omega, h3.2⟩
theorem first_in {p : Nat → Option Sh × Nat} {s : ByteArray} (hp : ∀ k, k ≤ s.size → InT s k (p k)) (k : Nat) (hk : k ≤ s.size) : InT s k (firstOf p s k) := by
  unfold firstOf
  have hs : byt s k ≠ 0 → k + 1 ≤ s.size := fun h => byt_lt h
  split
  · exact ⟨by simp only; omega, hs (by omega)⟩
  split
  · exact ⟨by simp only; omega, hs (by omega)⟩
  split
  · exact ⟨by simp only; omega, hs (by omega)⟩
  split
  · have := two_in hp 0 41 (by decide) .seq (k + 1) (hs (by omega))
    exact ⟨Nat.le_trans (by omega) this.1, this.2⟩
  split
  · have := two_in hp 124 93 (by decide) .alt (k + 1) (hs (by omega))
    exact ⟨Nat.le_trans (by omega) this.1, this.2⟩
  split
  · exact ⟨by simp only; omega, hs (by omega)⟩
  · exact ⟨Nat.le_refl _, hk⟩
theorem prs_in (s : ByteArray) : ∀ (n k : Nat), k ≤ s.size → InT s k (prs s n k)
  | 0, k, h => ⟨Nat.le_refl _, h⟩
  | n + 1, k, h => by
    have h1 := first_in (prs_in s n) k h
    unfold prs
    unfold InT at h1
    rcases he : firstOf (prs s n) s k with ⟨r, k1⟩
    rw [he] at h1
    cases r with
    | none => exact h1
    | some x =>
      simp only at h1
      have := post_le s (s.size - k1) x k1
      exact ⟨by show k ≤ (PP s x k1).2; unfold PP; omega, this.2 h1.2⟩
/-- What is read is a shape that a form may have. -/
def OkR (r : Option Sh × Nat) : Prop := ∀ x, r.1 = some x → okS x
theorem post_ok (s : ByteArray) : ∀ (f : Nat) (x : Sh) (k : Nat), okS x → okS (post s f x k).1
  | 0, x, k, h => h
  | f + 1, x, k, h => by
    unfold post
    split
    · exact post_ok s f (.many x) (k + 1) h
    split
    · exact post_ok s f (.inv x) (k + 1) h
    · exact h
theorem two_ok {p : Nat → Option Sh × Nat} {s : ByteArray} (hp : ∀ k, OkR (p k)) (mid behind : Int) (mk : Sh → Sh → Sh) (hmk : ∀ a b, okS a → okS b → okS (mk a b)) (k : Nat) : OkR (twoOf p s mid behind mk k) := by
  intro x hx
  unfold twoOf at hx
  rcases he : p k with ⟨r, k2⟩
  rw [he] at hx
  cases r with
  | none => cases hx
  | some a =>
    simp only at hx
    split at hx
    · cases hx
    · rcases he2 : p (if mid = 0 then k2 else k2 + 1) with ⟨r2, k4⟩
      rw [he2] at hx
      cases r2 with
      | none => cases hx
      | some b =>
        simp only at hx
        split at hx
        · cases hx
          exact hmk a b (hp k a (by rw [he])) (hp _ b (by rw [he2]))
        · cases hx
theorem first_ok {p : Nat → Option Sh × Nat} {s : ByteArray} (hp : ∀ k, OkR (p k)) (k : Nat) : OkR (firstOf p s k) := by
  unfold firstOf
  split
  · intro x hx; cases hx; exact trivial
  split
  · intro x hx; cases hx; exact trivial
  split
  · intro x hx; cases hx; exact trivial
  split
  · exact two_ok hp _ _ .seq (fun a b h1 h2 => And.intro h1 h2) _
  split
  · exact two_ok hp _ _ .alt (fun a b h1 h2 => And.intro h1 h2) _
  split
  · rename_i h
    intro x hx; cases hx; exact h
  · intro x hx; cases hx
theorem prs_ok (s : ByteArray) : ∀ (n k : Nat), OkR (prs s n k)
  | 0, k => fun x hx => by cases hx
  | n + 1, k => by
    intro x hx
    unfold prs at hx
    have h1 := first_ok (s := s) (prs_ok s n) k
    rcases he : firstOf (prs s n) s k with ⟨r, k1⟩
    rw [he] at hx
    cases r with
    | none => cases hx
    | some y =>
      simp only [Option.some.injEq] at hx
      subst hx
      exact post_ok s _ y k1 (h1 y (by rw [he]))
end Go.Proofs.Ytkdiffpbljohkay.L5
