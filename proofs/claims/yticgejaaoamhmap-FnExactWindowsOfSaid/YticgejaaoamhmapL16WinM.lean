/-
  Windows of a counter: where they begin, what becomes of them. Nothing of Go stands here.
-/
import Derived.Test.YticgejaaoamhmapL16FilM
namespace Go.Proofs.Yticgejaaoamhmap.L16
open L1
set_option linter.unusedVariables false

/-- Where the window of an At begins. -/
def fr (s t : Int) : Int := t / s * s
theorem fr_bd {s t : Int} (hs : 1 ≤ s) : fr s t ≤ t ∧ t < fr s t + s := by
  have h1 : t / s * s ≤ t := Int.ediv_mul_le _ (by omega)
  have h2 : t < (t / s + 1) * s := Int.lt_ediv_add_one_mul_self _ (by omega)
  rw [Int.add_mul, Int.one_mul] at h2
  unfold fr
  omega
theorem fr_same {s t u : Int} (hs : 1 ≤ s) (h1 : fr s t ≤ u) (h2 : u < fr s t + s) : fr s u = fr s t := by
  have e : u / s = t / s := by
    have a := (Int.le_ediv_iff_mul_le (a := t / s) (b := u) (show 0 < s by omega)).2 h1
    have b := (Int.ediv_lt_iff_lt_mul (a := u) (c := s) (b := t / s + 1) (show 0 < s by omega)).2 (by rw [Int.add_mul, Int.one_mul]; exact h2)
    omega
  unfold fr
  rw [e]
theorem fr_nonneg {s t : Int} (hs : 1 ≤ s) (ht : 0 ≤ t) : 0 ≤ fr s t := Int.mul_nonneg (Int.ediv_nonneg ht (by omega)) (by omega)
theorem cnt_spec {l : List (Int × Int)} (h : Ctr l) (t : Int) : ∀ k, k ≤ l.length → (∀ j, j < cnt l t k → at_ l j < t) ∧ ∀ j, cnt l t k ≤ j → j < k → t ≤ at_ l j
  | 0, _ => ⟨fun j hj => absurd hj (Nat.not_lt_zero _), fun j _ hj => absurd hj (Nat.not_lt_zero _)⟩
  | k + 1, hk => by
    have ih := cnt_spec h t k (by omega)
    have e : cnt l t (k + 1) = if at_ l k < t then k + 1 else cnt l t k := rfl
    by_cases hc : at_ l k < t
    · rw [e, if_pos hc]
      refine ⟨fun j hj => ?_, fun j h1 h2 => by omega⟩
      by_cases ej : j = k
      · rw [ej]; exact hc
      · have := h.mono k j (by omega) (by omega); omega
    · rw [e, if_neg hc]
      refine ⟨ih.1, fun j h1 h2 => ?_⟩
      by_cases ej : j = k
      · rw [ej]; omega
      · exact ih.2 j h1 (by omega)
/-- Where the window that begins at a sample ends. -/
def nxt (l : List (Int × Int)) (s : Int) (p : Nat) : Nat := cnt l (fr s (at_ l p) + s) l.length
theorem nxt_spec {l : List (Int × Int)} (h : Ctr l) {s : Int} (hs : 1 ≤ s) {p : Nat} (hp : p < l.length) : p < nxt l s p ∧ nxt l s p ≤ l.length ∧ (∀ j, p ≤ j → j < nxt l s p → fr s (at_ l j) = fr s (at_ l p)) ∧ (nxt l s p < l.length → fr s (at_ l (nxt l s p)) ≠ fr s (at_ l p)) := by
  have c := cnt_spec h (fr s (at_ l p) + s) l.length (Nat.le_refl _)
  have hle := cnt_le l (fr s (at_ l p) + s) l.length
  have b := fr_bd (s := s) (t := at_ l p) hs
  have hpn : p < nxt l s p := by
    rcases Nat.lt_or_ge p (nxt l s p) with q | q
    · exact q
    · have := c.2 p q hp; omega
  refine ⟨hpn, hle, fun j h1 h2 => ?_, fun h1 e => ?_⟩
  · have hj : at_ l p ≤ at_ l j := by
      by_cases e : p = j
      · rw [e]; exact Int.le_refl _
      · have := h.mono j p (by unfold nxt at h2; omega) (by omega); omega
    exact fr_same hs (by omega) (c.1 j h2)
  · have h2 := c.2 (nxt l s p) (Nat.le_refl _) h1
    have h3 := fr_bd (s := s) (t := at_ l (nxt l s p)) hs
    omega
/-- A window: From, First, Last, Count, Rise. -/
structure Wn where
  f : Int
  a : Int
  z : Int
  c : Int
  r : Int
/-- The windows of the first k samples. -/
def winK (l : List (Int × Int)) (s : Int) : Nat → List Wn
  | 0 => []
  | k + 1 =>
    if k = 0 ∨ fr s (at_ l k) ≠ fr s (at_ l (k - 1)) then winK l s k ++ [⟨fr s (at_ l k), vl l k, vl l k, 1, 0⟩]
    else match (winK l s k).getLast? with
      | some w => (winK l s k).dropLast ++ [⟨w.f, w.a, vl l k, w.c + 1, w.r + stp (vl l (k - 1)) (vl l k)⟩]
      | none => []
theorem winK_new {l : List (Int × Int)} {s : Int} {k : Nat} (h : k = 0 ∨ fr s (at_ l k) ≠ fr s (at_ l (k - 1))) : winK l s (k + 1) = winK l s k ++ [⟨fr s (at_ l k), vl l k, vl l k, 1, 0⟩] := by
  rw [winK, if_pos h]
theorem winK_more {l : List (Int × Int)} {s : Int} {k : Nat} (h : ¬ (k = 0 ∨ fr s (at_ l k) ≠ fr s (at_ l (k - 1)))) (L : List Wn) (w : Wn) (e : winK l s k = L ++ [w]) : winK l s (k + 1) = L ++ [⟨w.f, w.a, vl l k, w.c + 1, w.r + stp (vl l (k - 1)) (vl l k)⟩] := by
  rw [winK, if_neg h, e]
  simp
/-- A window whole: from where one begins up to a sample that is in it still. -/
theorem winK_run {l : List (Int × Int)} {s : Int} {p : Nat} (hp : p = 0 ∨ fr s (at_ l p) ≠ fr s (at_ l (p - 1))) : ∀ m : Nat, (∀ j, p ≤ j → j < p + m + 1 → fr s (at_ l j) = fr s (at_ l p)) →
    winK l s (p + m + 1) = winK l s p ++ [⟨fr s (at_ l p), vl l p, vl l (p + m), (m : Int) + 1, ris l (p + m + 1) - ris l (p + 1)⟩]
  | 0, _ => by
    rw [show p + 0 + 1 = p + 1 from rfl, winK_new hp, show p + 0 = p from rfl]
    simp
  | m + 1, h => by
    have ih := winK_run hp m (fun j h1 h2 => h j h1 (by omega))
    have hno : ¬ (p + m + 1 = 0 ∨ fr s (at_ l (p + m + 1)) ≠ fr s (at_ l (p + m + 1 - 1))) := fun q => by
      rcases q with q | q
      · omega
      · exact q (by rw [h (p + m + 1) (by omega) (by omega), show p + m + 1 - 1 = p + m by omega, h (p + m) (by omega) (by omega)])
    have := winK_more hno _ _ ih
    rw [show p + (m + 1) + 1 = p + m + 1 + 1 by omega, this, show p + (m + 1) = p + m + 1 by omega, ris_succ l (k := p + m + 1) (by omega), show p + m + 1 - 1 = p + m by omega]
    have e2 : ∀ a b c : Int, a - b + c = a + c - b := fun a b c => by omega
    dsimp only
    rw [e2, show ((m + 1 : Nat) : Int) = (m : Int) + 1 by omega]
/-- The window that begins at a sample. -/
def wnAt (l : List (Int × Int)) (s : Int) (p : Nat) : Wn := ⟨fr s (at_ l p), vl l p, vl l (nxt l s p - 1), ((nxt l s p - p : Nat) : Int), ris l (nxt l s p) - ris l (p + 1)⟩
theorem winK_nxt {l : List (Int × Int)} (h : Ctr l) {s : Int} (hs : 1 ≤ s) {p : Nat} (hp : p < l.length) (hb : p = 0 ∨ fr s (at_ l p) ≠ fr s (at_ l (p - 1))) : winK l s (nxt l s p) = winK l s p ++ [wnAt l s p] := by
  obtain ⟨h1, h2, h3, _⟩ := nxt_spec h hs hp
  have := winK_run (l := l) (s := s) hb (nxt l s p - p - 1) (fun j a b => h3 j a (by omega))
  rw [show p + (nxt l s p - p - 1) + 1 = nxt l s p by omega, show p + (nxt l s p - p - 1) = nxt l s p - 1 by omega] at this
  rw [this]
  unfold wnAt
  congr 1
  congr 1
  congr 1
  omega
theorem nxt_new {l : List (Int × Int)} (h : Ctr l) {s : Int} (hs : 1 ≤ s) {p : Nat} (hp : p < l.length) (hq : nxt l s p < l.length) : fr s (at_ l (nxt l s p)) ≠ fr s (at_ l (nxt l s p - 1)) := by
  obtain ⟨h1, _, h3, h4⟩ := nxt_spec h hs hp
  rw [h3 (nxt l s p - 1) (by omega) (by omega)]
  exact h4 hq
end Go.Proofs.Yticgejaaoamhmap.L16
