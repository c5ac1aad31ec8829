/-
  Plain mathematics of chapter 16: counters, how much they rose, how often they began anew. Nothing of Go stands here.
-/
import Derived.Test.YticgejaaoamhmapL2Math
namespace Go.Proofs.Yticgejaaoamhmap.L16
open L1
set_option linter.unusedVariables false

/-- The At and the Value of a sample. -/
def at_ (l : List (Int × Int)) (k : Nat) : Int := (l.getD k (0, 0)).1
def vl (l : List (Int × Int)) (k : Nat) : Int := (l.getD k (0, 0)).2
theorem pair_eq (l : List (Int × Int)) (k : Nat) : l.getD k (0, 0) = (at_ l k, vl l k) := rfl
/-- A counter. -/
def Ctr (l : List (Int × Int)) : Prop := GoodS l ∧ ∀ j, j < l.length → 0 ≤ vl l j
theorem Ctr.len {l : List (Int × Int)} (h : Ctr l) : l.length ≤ 40 := h.1.1
theorem Ctr.val {l : List (Int × Int)} (h : Ctr l) {k : Nat} (hk : k < l.length) : 0 ≤ vl l k ∧ vl l k ≤ 1000000000 := ⟨h.2 k hk, ((h.1.2 k hk).1).2.2.2⟩
theorem Ctr.at_ {l : List (Int × Int)} (h : Ctr l) {k : Nat} (hk : k < l.length) : 0 ≤ at_ l k ∧ at_ l k ≤ 1000000000 := ⟨((h.1.2 k hk).1).1, ((h.1.2 k hk).1).2.1⟩
theorem Ctr.lt {l : List (Int × Int)} (h : Ctr l) {k : Nat} (hk : k < l.length) (h0 : 0 < k) : L16.at_ l (k - 1) < L16.at_ l k := (h.1.2 k hk).2 h0
theorem Ctr.mono {l : List (Int × Int)} (h : Ctr l) : ∀ (k j : Nat), k < l.length → j < k → L16.at_ l j < L16.at_ l k
  | 0, j, _, hj => absurd hj (Nat.not_lt_zero _)
  | k + 1, j, hk, hj => by
    have h1 := h.lt hk (Nat.succ_pos _)
    simp only [Nat.add_sub_cancel] at h1
    by_cases e : j = k
    · subst e; exact h1
    · have := Ctr.mono h k j (by omega) (by omega)
      omega
/-- How much one rose behind another one. -/
def stp (a b : Int) : Int := if b < a then b else b - a
theorem stp_bd {a b : Int} (ha : 0 ≤ a ∧ a ≤ 1000000000) (hb : 0 ≤ b ∧ b ≤ 1000000000) : 0 ≤ stp a b ∧ stp a b ≤ 1000000000 := by unfold stp; split <;> omega
/-- How much the first k rose. -/
def ris (l : List (Int × Int)) : Nat → Int
  | 0 => 0
  | k + 1 => ris l k + (if k = 0 then 0 else stp (vl l (k - 1)) (vl l k))
/-- How many of the first k are less than the one ahead. -/
def rst (l : List (Int × Int)) : Nat → Int
  | 0 => 0
  | k + 1 => rst l k + (if k = 0 then 0 else if vl l k < vl l (k - 1) then 1 else 0)
theorem ris_one (l : List (Int × Int)) : ris l 1 = 0 := by simp [ris]
theorem rst_one (l : List (Int × Int)) : rst l 1 = 0 := by simp [rst]
theorem ris_succ (l : List (Int × Int)) {k : Nat} (h : 0 < k) : ris l (k + 1) = ris l k + stp (vl l (k - 1)) (vl l k) := by
  rw [ris, if_neg (by omega)]
theorem rst_succ (l : List (Int × Int)) {k : Nat} (h : 0 < k) : rst l (k + 1) = rst l k + (if vl l k < vl l (k - 1) then 1 else 0) := by
  rw [rst, if_neg (by omega)]
theorem ris_bd {l : List (Int × Int)} (h : Ctr l) : ∀ k : Nat, k ≤ l.length → 0 ≤ ris l k ∧ ris l k ≤ 1000000000 * (k : Int)
  | 0, _ => by simp [ris]
  | k + 1, hk => by
    have ih := ris_bd h k (by omega)
    by_cases h0 : k = 0
    · subst h0; rw [ris_one]; omega
    · rw [ris_succ l (by omega)]
      have := stp_bd (h.val (k := k - 1) (by omega)) (h.val (k := k) (by omega))
      omega
theorem rst_bd (l : List (Int × Int)) : ∀ k : Nat, 0 ≤ rst l k ∧ rst l k ≤ (k : Int)
  | 0 => by simp [rst]
  | k + 1 => by
    have ih := rst_bd l k
    rw [rst]
    split
    · omega
    · split <;> omega
open Classical in
/-- What RiseOf, ResetsIn answer. -/
noncomputable def risR (l : List (Int × Int)) : Int := if Ctr l then ris l l.length else 0
open Classical in
noncomputable def rstR (l : List (Int × Int)) : Int := if Ctr l then rst l l.length else 0
end Go.Proofs.Yticgejaaoamhmap.L16
