/-
  Plain mathematics of chapter 1's bits: noughts ahead, binary digits, and what they tell. Nothing of Go stands here.
-/
import Derived.KernelRfl
namespace Go.Proofs.YtlhmailmgpocbaaDoor.L1

/-- How many noughts (the byte 48) stand ahead. -/
def nz : List Int → Nat
  | [] => 0
  | x :: l => if x = 48 then nz l + 1 else 0
theorem nz_le : ∀ t, nz t ≤ t.length
  | [] => by simp [nz]
  | x :: l => by
    have := nz_le l
    simp only [nz, List.length_cons]
    split <;> omega
theorem nz_in : ∀ (t : List Int) (k : Nat), k < nz t → t.getD k 0 = 48
  | [], k, h => by simp [nz] at h
  | x :: l, k, h => by
    simp only [nz] at h
    split at h
    · rename_i hx
      cases k with
      | zero => simp [hx]
      | succ k => simpa using nz_in l k (by omega)
    · omega
theorem nz_end : ∀ (t : List Int), nz t < t.length → t.getD (nz t) 0 ≠ 48
  | [], h => by simp [nz] at h
  | x :: l, h => by
    simp only [nz, List.length_cons] at h ⊢
    by_cases hx : x = 48
    · rw [if_pos hx] at h ⊢
      simpa using nz_end l (by omega)
    · rw [if_neg hx]
      simpa using hx

/-- Binary digits: each is the byte 48 or 49. -/
def good (l : List Int) : Bool := l.all fun x => x == 48 || x == 49
def bstep (n : Int) (l : List Int) : Int := l.foldl (fun n x => 2 * n + (x - 48)) n
def bval (l : List Int) : Int := bstep 0 l
def pw : Nat → Int
  | 0 => 1
  | k + 1 => 2 * pw k
def bres (l : List Int) : Option Int := if good l = true ∧ bval l ≤ 1000000 then some (bval l) else none

theorem good_cons {x : Int} {l : List Int} : good (x :: l) = true ↔ (x = 48 ∨ x = 49) ∧ good l = true := by simp [good]
theorem good_snoc {x : Int} {l : List Int} : good (l ++ [x]) = true ↔ good l = true ∧ (x = 48 ∨ x = 49) := by simp [good]
theorem good_append {l m : List Int} : good (l ++ m) = true ↔ good l = true ∧ good m = true := by simp [good]
theorem bval_snoc (l : List Int) (x : Int) : bval (l ++ [x]) = 2 * bval l + (x - 48) := by simp [bval, bstep]
theorem pw_pos (k : Nat) : 1 ≤ pw k := by
  induction k with
  | zero => simp [pw]
  | succ k ih => simp only [pw]; omega
theorem pw_le {j k : Nat} (h : j ≤ k) : pw j ≤ pw k := by
  induction k with
  | zero => obtain rfl : j = 0 := by omega
            exact Int.le_refl _
  | succ k ih =>
    by_cases e : j = k + 1
    · subst e; exact Int.le_refl _
    · have := ih (by omega)
      have := pw_pos k
      have hw : pw (k + 1) = 2 * pw k := rfl
      omega
theorem bstep_ge : ∀ (m : List Int) (n : Int), 0 ≤ n → good m = true → n * pw m.length ≤ bstep n m ∧ bstep n m < (n + 1) * pw m.length
  | [], n, _, _ => by simp [pw, bstep]; omega
  | x :: m, n, h, hg => by
    have hg' := good_cons.1 hg
    have ih := bstep_ge m (2 * n + (x - 48)) (by omega) hg'.2
    have hp := pw_pos m.length
    have e : bstep n (x :: m) = bstep (2 * n + (x - 48)) m := rfl
    simp only [List.length_cons, pw]
    rw [e]
    have e1 : n * (2 * pw m.length) = 2 * n * pw m.length := by rw [Int.mul_comm 2 (pw _), ← Int.mul_assoc, Int.mul_comm _ 2, Int.mul_assoc]
    have e2 : (n + 1) * (2 * pw m.length) = (2 * n + 2) * pw m.length := by rw [Int.add_mul, Int.add_mul, e1]; omega
    rw [e1, e2]
    have h1 : 2 * n * pw m.length ≤ (2 * n + (x - 48)) * pw m.length := Int.mul_le_mul_of_nonneg_right (by omega) (by omega)
    have h2 : (2 * n + (x - 48) + 1) * pw m.length ≤ (2 * n + 2) * pw m.length := Int.mul_le_mul_of_nonneg_right (by omega) (by omega)
    omega
theorem bval_bd {l : List Int} (h : good l = true) : 0 ≤ bval l ∧ bval l < pw l.length := by
  have := bstep_ge l 0 (by omega) h
  unfold bval
  simp at this
  exact this
theorem bval_append {l m : List Int} (h : good (l ++ m) = true) : bval l ≤ bval (l ++ m) := by
  have hg := good_append.1 h
  have h0 := bval_bd hg.1
  have h1 := bstep_ge m (bval l) h0.1 hg.2
  have e : bval (l ++ m) = bstep (bval l) m := by simp [bval, bstep, List.foldl_append]
  rw [e]
  have hp := pw_pos m.length
  have : bval l * 1 ≤ bval l * pw m.length := Int.mul_le_mul_of_nonneg_left hp h0.1
  omega

theorem btake_one (t : List Int) (k : Nat) (h : k < t.length) : t.take (k + 1) = t.take k ++ [t.getD k 0] := by
  rw [List.take_succ_eq_append_getElem h]; simp [List.getD, List.getElem?_eq_getElem h]
/-- Over too great a beginning nothing is told. -/
theorem bres_big (l : List Int) (k : Nat) (h : 1000000 < bval (l.take k)) : bres l = none := by
  unfold bres
  rw [if_neg]
  intro ⟨hg, hv⟩
  have e := List.take_append_drop k l
  have := bval_append (l := l.take k) (m := l.drop k) (by rw [e]; exact hg)
  rw [e] at this
  omega
/-- Where a byte is no digit nothing is told. -/
theorem bres_bad (l : List Int) (k : Nat) (h : k < l.length) (h1 : l.getD k 0 ≠ 48) (h2 : l.getD k 0 ≠ 49) : bres l = none := by
  unfold bres
  rw [if_neg]
  intro ⟨hg, _⟩
  have e := List.take_append_drop (k + 1) l
  rw [btake_one l k h] at e
  have hg2 : good ((l.take k ++ [l.getD k 0]) ++ l.drop (k + 1)) = true := by rw [e]; exact hg
  have := (good_snoc.1 (good_append.1 hg2).1).2
  omega
/-- From twenty noughts on the number is too great. -/
theorem bres_long (l : List Int) (hl : 21 ≤ l.length) (h : l.getD 0 0 ≠ 48) : bres l = none := by
  cases l with
  | nil => simp at hl
  | cons x m =>
    simp at h
    unfold bres
    rw [if_neg]
    intro ⟨hg, hv⟩
    have hg' := good_cons.1 hg
    have hx : x = 49 := by omega
    have e : bval (x :: m) = bstep 1 m := by simp [bval, bstep, hx]
    have h1 := (bstep_ge m 1 (by omega) hg'.2).1
    have h2 : pw 20 ≤ pw m.length := pw_le (by simp at hl; omega)
    have h3 : pw 20 = 1048576 := by simp [pw]
    omega

/-- The beginning of bits: what it tells, and how many bytes it has. -/
def rg (t : List Int) : Option (Int × Nat) :=
  if t.length ≤ 600 ∧ 2 * nz t + 1 ≤ t.length then (bres ((t.drop (nz t)).take (nz t + 1))).map fun v => (v, 2 * nz t + 1) else none

/-- A number's binary digits as bytes, the highest first. -/
def bl : Nat → Int → List Int
  | 0, n => [48 + n]
  | f + 1, n => if n < 2 then [48 + n] else bl f (n / 2) ++ [48 + n % 2]
theorem bl_len (f : Nat) (n : Int) : 1 ≤ (bl f n).length ∧ (bl f n).length ≤ f + 1 := by
  induction f generalizing n with
  | zero => simp [bl]
  | succ f ih =>
    simp only [bl]
    split
    · simp
    · have := ih (n / 2)
      simp
      omega
theorem bl_small (f : Nat) (n : Int) (h : n < 2) : bl f n = [48 + n] := by
  cases f with
  | zero => rfl
  | succ f => simp only [bl]; rw [if_pos h]
theorem bl_step (f : Nat) (n : Int) (h : 2 ≤ n) : bl (f + 1) n = bl f (n / 2) ++ [48 + n % 2] := by
  simp only [bl]; rw [if_neg (by omega)]
end Go.Proofs.YtlhmailmgpocbaaDoor.L1
