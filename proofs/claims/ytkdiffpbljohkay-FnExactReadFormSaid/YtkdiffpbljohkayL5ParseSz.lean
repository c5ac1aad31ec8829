/-
  What is read is no greater than what was read off; what reading a form is to answer.
-/
import Derived.Test.YtkdiffpbljohkayL5Parse
import Derived.Test.YtkdiffpbljohkayL5Grow
namespace Go.Proofs.Ytkdiffpbljohkay.L5
open Go.RowKit L1 L4
set_option linter.unusedVariables false

def SzR (k : Nat) (r : Option Sh × Nat) : Prop := ∀ x, r.1 = some x → k + sz x ≤ r.2
theorem post_sz (s : ByteArray) : ∀ (f : Nat) (x : Sh) (k : Nat), k + sz (post s f x k).1 = (post s f x k).2 + sz x
  | 0, x, k => rfl
  | f + 1, x, k => by
    unfold post
    split
    · have := post_sz s f (.many x) (k + 1)
      simp only [sz] at this ⊢
      omega
    split
    · have := post_sz s f (.inv x) (k + 1)
      simp only [sz] at this ⊢
      omega
    · rfl
theorem two_sz {p : Nat → Option Sh × Nat} {s : ByteArray} (hp : ∀ k, SzR k (p k)) (mid behind : Int) (mk : Sh → Sh → Sh) (hmk : ∀ a b, sz (mk a b) = sz a + sz b + 1) (k : Nat) : SzR k (twoOf p s mid behind mk k) := by
  intro x hx
  unfold twoOf at hx ⊢
  rcases he : p k with ⟨r, k2⟩
  have h1 := hp k
  rw [he] at hx h1
  cases r with
  | none => cases hx
  | some a =>
    have h1 := h1 a rfl
    simp only at hx h1 ⊢
    split at hx
    · cases hx
    · rename_i hm
      rw [if_neg hm]
      have h2 := hp (if mid = 0 then k2 else k2 + 1)
      rcases he2 : p (if mid = 0 then k2 else k2 + 1) with ⟨r2, k4⟩
      rw [he2] at hx h2
      cases r2 with
      | none => cases hx
      | some b =>
        have h2 := h2 b rfl
        simp only at hx h2 ⊢
        split at hx
        · rename_i hq
          rw [if_pos hq]
          cases hx
          rw [hmk]
          have : k2 ≤ (if mid = 0 then k2 else k2 + 1) := by split <;> omega
          simp only
          omega
        · cases hx
theorem first_sz {p : Nat → Option Sh × Nat} {s : ByteArray} (hp : ∀ k, SzR k (p k)) (k : Nat) : SzR k (firstOf p s k) := by
  unfold firstOf
  split
  · intro x hx; cases hx; simp [sz]
  split
  · intro x hx; cases hx; simp [sz]
  split
  · intro x hx; cases hx; simp [sz]
  split
  · intro x hx
    have := two_sz (s := s) hp 0 41 .seq (fun a b => by simp only [sz]) (k + 1) x hx
    omega
  split
  · intro x hx
    have := two_sz (s := s) hp 124 93 .alt (fun a b => by simp only [sz]) (k + 1) x hx
    omega
  split
  · intro x hx; cases hx; simp [sz]
  · intro x hx; cases hx
theorem prs_sz (s : ByteArray) : ∀ (n k : Nat), SzR k (prs s n k)
  | 0, k => fun x hx => by cases hx
  | n + 1, k => by
    intro x hx
    unfold prs at hx ⊢
    have h1 := first_sz (s := s) (prs_sz s n) k
    rcases he : firstOf (prs s n) s k with ⟨r, k1⟩
    rw [he] at hx h1
    cases r with
    | none => cases hx
    | some y =>
      have h1 := h1 y rfl
      simp only [Option.some.injEq] at hx h1
      subst hx
      have := post_sz s (s.size - k1) y k1
      unfold PP
      simp only
      omega
/-- What reading a form is to answer. -/
def readRes (s : ByteArray) : Option (List Pr) × Int :=
  if 120 < s.size then (none, 120) else
  match prs s 61 0 with
  | (none, k) => (none, (k : Int))
  | (some x, k) => if k < s.size then (none, (k : Int)) else if 24 < (flat x []).length then (none, (s.size : Int)) else (some (flat x []), 0)
/-- What reading hands back: parts in new memory, where it stopped, whether there are some. -/
def RetQ (w : World) (r : Option (List Pr) × Int) (e : Ending) (w' : World) : Prop :=
  ∃ v, e = .returned (.tuple #[v, .int .i64 r.2, .bool r.1.isSome]) ∧ OwP w' w.heap.size v (r.1.getD []) ∧ Below w.heap.size w w'
theorem retQ_no {w w' : World} {n : Int} (hb : Below w.heap.size w w') : RetQ w (none, n) (.returned (.tuple #[.slice none 0 0, .int .i64 n, .bool false])) w' := ⟨_, rfl, World.ownsRow_nil _ _ _ _, hb⟩
theorem readRes_len (s : ByteArray) : ((readRes s).1.getD []).length ≤ 24 := by
  unfold readRes
  split
  · simp
  · rcases he : prs s 61 0 with ⟨r, k⟩
    cases r with
    | none => simp
    | some x =>
      simp only
      split
      · simp
      split
      · simp
      · simp only [Option.getD_some]; omega
theorem readRes_at (s : ByteArray) (h : s.size ≤ 1048576) : 0 ≤ (readRes s).2 ∧ (readRes s).2 ≤ 1048576 := by
  unfold readRes
  split
  · exact ⟨by decide, by decide⟩
  · have hin := prs_in s 61 0 (Nat.zero_le _)
    rcases he : prs s 61 0 with ⟨r, k⟩
    rw [he] at hin
    have := hin.2
    simp only at this
    cases r with
    | none => simp only; omega
    | some x =>
      simp only
      split
      · simp only; omega
      split
      · simp only; omega
      · simp only; omega
end Go.Proofs.Ytkdiffpbljohkay.L5
