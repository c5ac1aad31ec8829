/-
  What is known of entries, their starts and their ends. Nothing of the program is used.
-/
import Derived.Test.YtbcljhafdpnjbbdL7Ent
namespace Go.Proofs.Ytbcljhafdpnjbbd.L7
open Go.RowKit L1
set_option linter.unusedVariables false

/-- The starts of the first entries. -/
def stsK (l : List En) : Nat → List (Int × Int)
  | 0 => []
  | k + 1 => stsK l k ++ (if k = 0 ∨ (l.getD (k - 1) eE).1 ≠ (l.getD k eE).1 then [((l.getD k eE).1, (k : Int))] else [])
def sts (l : List En) : List (Int × Int) := stsK l l.length
theorem stsK_len (l : List En) (k : Nat) : (stsK l k).length ≤ k := by
  induction k with
  | zero => simp [stsK]
  | succ k ih => simp only [stsK, List.length_append]; split <;> simp <;> omega
theorem stsK_yes (l : List En) (k : Nat) (h : k = 0 ∨ (l.getD (k - 1) eE).1 ≠ (l.getD k eE).1) : stsK l (k + 1) = stsK l k ++ [((l.getD k eE).1, (k : Int))] := by
  show stsK l k ++ _ = _
  rw [if_pos h]
theorem stsK_no (l : List En) (k : Nat) (h : ¬ (k = 0 ∨ (l.getD (k - 1) eE).1 ≠ (l.getD k eE).1)) : stsK l (k + 1) = stsK l k := by
  show stsK l k ++ _ = _
  rw [if_neg h, List.append_nil]
/-- How many of the first entries have an Epoch up to one. -/
def endK (l : List En) (e : Int) : Nat → Nat
  | 0 => 0
  | k + 1 => endK l e k + if (l.getD k eE).1 ≤ e then 1 else 0
def endE (l : List En) (e : Int) : Nat := endK l e l.length
theorem endK_le (l : List En) (e : Int) (k : Nat) : endK l e k ≤ k := by
  induction k with
  | zero => simp [endK]
  | succ k ih => simp only [endK]; split <;> omega
/-- Epochs do not fall. -/
def Mono (l : List En) : Prop := ∀ i j, i ≤ j → j < l.length → (l.getD i eE).1 ≤ (l.getD j eE).1
theorem GoodE.mono {l : List En} (h : GoodE l) : Mono l := by
  intro i j hij hj
  induction j with
  | zero => have : i = 0 := by omega
            rw [this]; exact Int.le_refl _
  | succ j ih =>
    by_cases e : i = j + 1
    · rw [e]; exact Int.le_refl _
    · have h1 := ih (by omega) (by omega)
      have h2 := (h.2 (j + 1) hj).2 (by omega)
      simp at h2
      exact Int.le_trans h1 (by simpa using h2)
theorem endE_back (l : List En) (e : Int) (m : Nat) (hM : Mono l) (hm : m ≤ l.length) (h1 : ∀ j, m ≤ j → j < l.length → e < (l.getD j eE).1) (h2 : m = 0 ∨ (l.getD (m - 1) eE).1 ≤ e) : endE l e = m := by
  have ha : ∀ k, k ≤ m → endK l e k = k := by
    intro k hk
    induction k with
    | zero => rfl
    | succ k ih =>
      have := hM k (m - 1) (by omega) (by omega)
      simp only [endK]
      rw [ih (by omega), if_pos (by omega)]
  have hb : ∀ k, m ≤ k → k ≤ l.length → endK l e k = m := by
    intro k hk hkl
    induction k with
    | zero => have : m = 0 := by omega
              rw [this]; rfl
    | succ k ih =>
      by_cases e1 : m = k + 1
      · rw [← e1]; exact ha m (Nat.le_refl _)
      · have := h1 k (by omega) (by omega)
        simp only [endK]
        rw [ih (by omega) (by omega), if_neg (by omega)]
        rfl
  exact hb _ hm (Nat.le_refl _)
/-- Where two lists part. -/
def prt : List En → List En → Nat
  | x :: a, y :: b => if x = y then prt a b + 1 else 0
  | _, _ => 0
theorem prt_eq : ∀ (k : Nat) (a b : List En), (∀ j, j < k → a.getD j eE = b.getD j eE) → k ≤ a.length → k ≤ b.length → (k = a.length ∨ k = b.length ∨ a.getD k eE ≠ b.getD k eE) → prt a b = k
  | 0, [], b, _, _, _, _ => by simp [prt]
  | 0, x :: a, [], _, _, _, _ => by simp [prt]
  | 0, x :: a, y :: b, _, _, _, h => by
    rcases h with h | h | h
    · simp at h
    · simp at h
    · simp only [List.getD_cons_zero] at h
      simp [prt, h]
  | k + 1, [], b, _, h, _, _ => by simp at h
  | k + 1, x :: a, [], _, _, h, _ => by simp at h
  | k + 1, x :: a, y :: b, h, h1, h2, h3 => by
    have e0 := h 0 (by omega)
    simp only [List.getD_cons_zero] at e0
    have ih := prt_eq k a b (fun j hj => by have := h (j + 1) (by omega); simpa only [List.getD_cons_succ] using this) (by simpa using h1) (by simpa using h2) (by
      rcases h3 with h3 | h3 | h3
      · left; simpa using h3
      · right; left; simpa using h3
      · right; right; simpa only [List.getD_cons_succ] using h3)
    simp [prt, e0, ih]
theorem prt_le : ∀ a b : List En, prt a b ≤ a.length ∧ prt a b ≤ b.length
  | [], b => by simp [prt]
  | x :: a, [] => by simp [prt]
  | x :: a, y :: b => by
    have := prt_le a b
    simp only [prt, List.length_cons]
    split <;> omega
theorem prt_same : ∀ (a b : List En) (j : Nat), j < prt a b → a.getD j eE = b.getD j eE
  | [], b, j, h => by simp [prt] at h
  | x :: a, [], j, h => by simp [prt] at h
  | x :: a, y :: b, 0, h => by
    simp only [prt] at h
    split at h
    · simpa
    · omega
  | x :: a, y :: b, j + 1, h => by
    simp only [prt] at h
    split at h
    · have := prt_same a b j (by omega); simpa only [List.getD_cons_succ] using this
    · omega
/-- Two texts are alike just if their bytes are. -/
theorem text_ne {a b : ByteArray} (h : a ≠ b) : (a.toList == b.toList) = false := by
  cases e : (a.toList == b.toList) with
  | false => rfl
  | true =>
    rw [beq_iff_eq] at e
    rw [ByteArray.toList_eq, ByteArray.toList_eq] at e
    exact absurd (ByteArray.ext (Array.toList_inj.1 e)) h
/-- Starts are good for an end. -/
def okS (en : Int) (p : Int × Int) : Prop := 1 ≤ p.1 ∧ p.1 ≤ 1000 ∧ 0 ≤ p.2 ∧ p.2 < en
def GoodS (l : List (Int × Int)) (en : Int) : Prop := (l.length ≤ 40 ∧ 0 ≤ en ∧ en ≤ 40) ∧ ∀ j, j < l.length → okS en (l.getD j (0, 0)) ∧ (0 < j → (l.getD (j - 1) (0, 0)).1 < (l.getD j (0, 0)).1 ∧ (l.getD (j - 1) (0, 0)).2 < (l.getD j (0, 0)).2)
/-- Epochs of starts rise. -/
def Rise (l : List (Int × Int)) : Prop := ∀ i j, i < j → j < l.length → (l.getD i (0, 0)).1 < (l.getD j (0, 0)).1
theorem GoodS.rise {l : List (Int × Int)} {en : Int} (h : GoodS l en) : Rise l := by
  intro i j hij hj
  induction j with
  | zero => omega
  | succ j ih =>
    have h2 := ((h.2 (j + 1) hj).2 (by omega)).1
    simp only [Nat.add_sub_cancel] at h2
    by_cases e : i = j
    · rw [e]; exact h2
    · exact Int.lt_trans (ih (by omega) (by omega)) h2
/-- The first place of an Epoch among starts. -/
def idx : List (Int × Int) → Int → Option Nat
  | [], _ => none
  | p :: l, e => if p.1 = e then some 0 else (idx l e).map (· + 1)
theorem idx_some : ∀ (l : List (Int × Int)) (e : Int) (k : Nat), k < l.length → (l.getD k (0, 0)).1 = e → (∀ j, j < k → (l.getD j (0, 0)).1 ≠ e) → idx l e = some k
  | [], e, k, h, _, _ => by simp at h
  | p :: l, e, 0, _, h, _ => by simp only [List.getD_cons_zero] at h; simp [idx, h]
  | p :: l, e, k + 1, h, h1, h2 => by
    have h0 := h2 0 (by omega)
    simp only [List.getD_cons_zero] at h0
    have ih := idx_some l e k (by simpa using h) (by simpa only [List.getD_cons_succ] using h1) (fun j hj => by have := h2 (j + 1) (by omega); simpa only [List.getD_cons_succ] using this)
    simp [idx, h0, ih]
theorem idx_none : ∀ (l : List (Int × Int)) (e : Int), (∀ j, j < l.length → (l.getD j (0, 0)).1 ≠ e) → idx l e = none
  | [], e, _ => rfl
  | p :: l, e, h => by
    have h0 := h 0 (by simp)
    simp only [List.getD_cons_zero] at h0
    have ih := idx_none l e (fun j hj => by have := h (j + 1) (by simpa using hj); simpa only [List.getD_cons_succ] using this)
    simp [idx, h0, ih]
theorem idx_lt : ∀ (l : List (Int × Int)) (e : Int) (k : Nat), idx l e = some k → k < l.length ∧ (l.getD k (0, 0)).1 = e
  | [], e, k, h => by simp [idx] at h
  | p :: l, e, k, h => by
    simp only [idx] at h
    split at h
    · rename_i h0
      simp at h
      subst h
      exact ⟨by simp, by simpa using h0⟩
    · cases h1 : idx l e with
      | none => rw [h1] at h; simp at h
      | some q =>
        rw [h1] at h
        simp at h
        subst h
        have := idx_lt l e q h1
        exact ⟨by simpa using this.1, by simpa only [List.getD_cons_succ] using this.2⟩
/-- Where the next start is. -/
def nxt (st : List (Int × Int)) (k : Nat) (en : Int) : Int := if k + 1 < st.length then (st.getD (k + 1) (0, 0)).2 else en
/-- What a follower finds: the place, and how many Epochs were looked at. -/
def fnd (a : List En) (own st : List (Int × Int)) (en : Int) : Nat → Int → Int × Int
  | 0, q => (0, q)
  | i + 1, q => match idx st (own.getD i (0, 0)).1 with
    | some k => (min (endE a (own.getD i (0, 0)).1 : Int) (nxt st k en), q + 1)
    | none => fnd a own st en i (q + 1)
def find (a : List En) (st : List (Int × Int)) (en : Int) : Int × Int := fnd a (sts a) st en (sts a).length 0
theorem fnd_some {a : List En} {own st : List (Int × Int)} {en : Int} {i k : Nat} {q : Int} (h : idx st (own.getD i (0, 0)).1 = some k) : fnd a own st en (i + 1) q = (min (endE a (own.getD i (0, 0)).1 : Int) (nxt st k en), q + 1) := by
  simp only [fnd, h]
theorem fnd_none {a : List En} {own st : List (Int × Int)} {en : Int} {i : Nat} {q : Int} (h : idx st (own.getD i (0, 0)).1 = none) : fnd a own st en (i + 1) q = fnd a own st en i (q + 1) := by
  simp only [fnd, h]
theorem below_dN {B : Nat} {a w : World} (h : Below B a w) (n : Nat) : Below B a (w.drewN n) := h.trans ⟨rfl, rfl, rfl, Nat.le_refl _, fun _ _ => rfl⟩
end Go.Proofs.Ytbcljhafdpnjbbd.L7
