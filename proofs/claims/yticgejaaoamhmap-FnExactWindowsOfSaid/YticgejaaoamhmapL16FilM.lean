/-
  Gaps that are filled: multiples, and the last sample at each or ahead. Nothing of Go stands here.
-/
import Derived.Test.YticgejaaoamhmapL16Math
namespace Go.Proofs.Yticgejaaoamhmap.L16
open L1
set_option linter.unusedVariables false

/-- How many of the first k are ahead of an At. -/
def cnt (l : List (Int × Int)) (t : Int) : Nat → Nat
  | 0 => 0
  | k + 1 => if at_ l k < t then k + 1 else cnt l t k
theorem cnt_of {l : List (Int × Int)} (h : Ctr l) {t : Int} {c : Nat} (hc : c ≤ l.length) (h1 : ∀ j, j < c → at_ l j < t) (h2 : c < l.length → t ≤ at_ l c) : cnt l t l.length = c := by
  have key : ∀ m, c + m ≤ l.length → cnt l t (c + m) = c := by
    intro m
    induction m with
    | zero =>
      intro _
      cases c with
      | zero => rfl
      | succ c => show (if at_ l c < t then c + 1 else cnt l t c) = c + 1; rw [if_pos (h1 c (by omega))]
    | succ m ih =>
      intro hm
      have hno : ¬ at_ l (c + m) < t := by
        have h3 := h2 (by omega)
        by_cases e : m = 0
        · subst e; rw [Nat.add_zero]; omega
        · have := h.mono (c + m) c (by omega) (by omega); omega
      show (if at_ l (c + m) < t then c + m + 1 else cnt l t (c + m)) = c
      rw [if_neg hno, ih (by omega)]
  have := key (l.length - c) (by omega)
  rwa [show c + (l.length - c) = l.length by omega] at this
theorem cnt_le (l : List (Int × Int)) (t : Int) : ∀ k, cnt l t k ≤ k
  | 0 => Nat.le_refl _
  | k + 1 => by
    have := cnt_le l t k
    unfold cnt
    split <;> omega
theorem cnt_pos {l : List (Int × Int)} {t : Int} (h : at_ l 0 < t) : ∀ k, 0 < k → 0 < cnt l t k
  | 0, h0 => absurd h0 (Nat.lt_irrefl _)
  | k + 1, _ => by
    unfold cnt
    split
    · omega
    · next hn =>
      by_cases e : k = 0
      · subst e; exact absurd h hn
      · exact cnt_pos h k (by omega)
/-- The least multiple from an At on. -/
def mul0 (t s : Int) : Int := (t + s - 1) / s * s
theorem mul0_bd {t s : Int} (ht : 0 ≤ t ∧ t ≤ 1000000000) (hs : 1 ≤ s ∧ s ≤ 1000000) : t ≤ mul0 t s ∧ mul0 t s ≤ 1001000000 ∧ 0 ≤ (t + s - 1) / s ∧ (t + s - 1) / s ≤ 1001000000 := by
  have h1 : (t + s - 1) / s * s ≤ t + s - 1 := Int.ediv_mul_le _ (by omega)
  have h2 : t + s - 1 < ((t + s - 1) / s + 1) * s := Int.lt_ediv_add_one_mul_self _ (by omega)
  have h3 : 0 ≤ (t + s - 1) / s := Int.ediv_nonneg (by omega) (by omega)
  have h4 : (t + s - 1) / s ≤ t + s - 1 := Int.ediv_le_self _ (by omega)
  rw [Int.add_mul, Int.one_mul] at h2
  unfold mul0
  omega
/-- The j-th multiple. -/
def flj (l : List (Int × Int)) (s : Int) (j : Nat) : Int := mul0 (at_ l 0) s + (j : Int) * s
theorem flj_succ (l : List (Int × Int)) (s : Int) (j : Nat) : flj l s (j + 1) = flj l s j + s := by
  unfold flj
  rw [show ((j + 1 : Nat) : Int) = (j : Int) + 1 by omega, Int.add_mul, Int.one_mul]
  omega
theorem flj_zero (l : List (Int × Int)) (s : Int) : flj l s 0 = mul0 (at_ l 0) s := by unfold flj; simp
/-- The last Value at an At or ahead. -/
def vat (l : List (Int × Int)) (t : Int) : Int := vl l (cnt l (t + 1) l.length - 1)
/-- How many multiples there are. -/
def nfl (l : List (Int × Int)) (s : Int) : Nat := if l.length = 0 then 0 else if mul0 (at_ l 0) s ≤ at_ l (l.length - 1) then ((at_ l (l.length - 1) - mul0 (at_ l 0) s) / s).toNat + 1 else 0
theorem nfl_iff {l : List (Int × Int)} (hl : 0 < l.length) {s : Int} (hs : 1 ≤ s) (j : Nat) : j < nfl l s ↔ flj l s j ≤ at_ l (l.length - 1) := by
  have hj : 0 ≤ (j : Int) * s := Int.mul_nonneg (by omega) (by omega)
  unfold nfl flj
  rw [if_neg (by omega)]
  split
  · next h =>
    have h1 := Int.le_ediv_iff_mul_le (a := (j : Int)) (b := at_ l (l.length - 1) - mul0 (at_ l 0) s) (show 0 < s by omega)
    have h2 : 0 ≤ (at_ l (l.length - 1) - mul0 (at_ l 0) s) / s := Int.ediv_nonneg (by omega) (by omega)
    constructor
    · intro h3; have := h1.1 (by omega); omega
    · intro h3; have := h1.2 (by omega); omega
  · next h => constructor <;> intro h3 <;> omega
/-- The first j of them. -/
def filK (l : List (Int × Int)) (s : Int) (j : Nat) : List (Int × Int) := (List.range j).map fun i => (flj l s i, vat l (flj l s i))
theorem filK_len (l : List (Int × Int)) (s : Int) (j : Nat) : (filK l s j).length = j := by simp [filK]
theorem filK_succ (l : List (Int × Int)) (s : Int) (j : Nat) : filK l s (j + 1) = filK l s j ++ [(flj l s j, vat l (flj l s j))] := by simp [filK, List.range_succ]
/-- What FillGaps takes. -/
def FilOk (l : List (Int × Int)) (s : Int) : Prop := Ctr l ∧ 1 ≤ s ∧ s ≤ 1000000
open Classical in
/-- What it answers. -/
noncomputable def filR (l : List (Int × Int)) (s : Int) : Option (List (Int × Int)) := if FilOk l s ∧ nfl l s ≤ 40 then some (filK l s (nfl l s)) else none
theorem filR_le (l : List (Int × Int)) (s : Int) : ((filR l s).getD []).length ≤ 40 := by
  unfold filR
  split
  · next h => simp only [Option.getD_some, filK_len]; exact h.2
  · exact Nat.zero_le _
end Go.Proofs.Yticgejaaoamhmap.L16
