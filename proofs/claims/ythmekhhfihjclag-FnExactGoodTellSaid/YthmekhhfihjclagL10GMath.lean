/-
  What is good of a world of tellers. Nothing of the program's text is proved here.
-/
import Derived.Test.YthmekhhfihjclagL10Mem
namespace Go.Proofs.Ythmekhhfihjclag.L10
open Go.RowKit L1 Own Str Nte Tri
set_option linter.unusedVariables false

def okTx (l : List ByteArray) : Prop := l.length ≤ 20 ∧ ∀ j, j < l.length → (l.getD j e0).size ≤ 20
/-- A teller has that text with that number. -/
structure isTo (m : Tm) (p : Tr) : Prop where
  w0 : 0 ≤ p.1
  w1 : p.1 < (m.T.length : Int)
  n0 : 0 ≤ p.2.1
  n1 : p.2.1 < ((m.T.getD p.1.toNat []).length : Int)
  t : p.2.2 = (m.T.getD p.1.toNat []).getD p.2.1.toNat e0
structure okTl (m : Tm) (k : Nat) : Prop where
  t : okTx (m.T.getD k [])
  h : 0 ≤ m.hd.getD k 0
  n : m.hd.getD k 0 ≤ m.nx.getD k 0
  l : m.nx.getD k 0 ≤ ((m.T.getD k []).length : Int)
structure okB (m : Tm) (p : Tr) : Prop where
  w0 : 0 ≤ p.1
  w1 : p.1 < (m.nx.length : Int)
  n0 : 0 ≤ p.2.1
  n1 : p.2.1 ≤ m.nx.getD p.1.toNat 0
  t : p.2.2 = e0
def okN (m : Tm) (x : Nt) : Prop := (x.1 = true → okB m x.2) ∧ (x.1 = false → isTo m x.2)
/-- Of each teller, how many of the first entries of the Log it told. -/
def wrK (n : Nat) (lg : List Tr) : Nat → List Int
  | 0 => List.replicate n 0
  | j + 1 => (wrK n lg j).set (lg.getD j e3).1.toNat ((wrK n lg j).getD (lg.getD j e3).1.toNat 0 + 1)
theorem wrK_len (n : Nat) (lg : List Tr) : ∀ j, (wrK n lg j).length = n
  | 0 => by simp [wrK]
  | j + 1 => by simp [wrK, wrK_len n lg j]
theorem set_getD (l : List Int) (k i : Nat) (x : Int) (hk : k < l.length) : (l.set k x).getD i 0 = if i = k then x else l.getD i 0 := by
  simp only [List.getD, List.getElem?_set]
  by_cases h : k = i
  · subst h; simp [hk]
  · simp [h, Ne.symm h]
theorem wrK_le (n : Nat) (lg : List Tr) : ∀ j i, 0 ≤ (wrK n lg j).getD i 0 ∧ (wrK n lg j).getD i 0 ≤ (j : Int)
  | 0, i => by
    simp only [wrK, List.getD, List.getElem?_replicate]
    split <;> simp
  | j + 1, i => by
    have h1 := wrK_le n lg j i
    have h2 := wrK_le n lg j (lg.getD j e3).1.toNat
    simp only [wrK]
    by_cases hk : (lg.getD j e3).1.toNat < (wrK n lg j).length
    · rw [set_getD _ _ _ _ hk]
      split <;> omega
    · rw [List.set_eq_of_length_le (by omega)]
      omega
structure okW (m : Tm) (n : Nat) (j : Nat) : Prop where
  t : isTo m (m.lg.getD j e3)
  n : (m.lg.getD j e3).2.1 = (wrK n m.lg j).getD (m.lg.getD j e3).1.toNat 0
structure GoodA (m : Tm) : Prop where
  n : 1 ≤ m.T.length ∧ m.T.length ≤ 4
  h : m.hd.length = m.T.length
  x : m.nx.length = m.T.length
  t : ∀ k, k < m.T.length → okTl m k
structure GoodL (m : Tm) : Prop where
  ll : m.ln.length ≤ 30
  l : ∀ j, j < m.ln.length → okN m (m.ln.getD j e4)
structure GoodW (m : Tm) : Prop where
  w : ∀ j, j < m.lg.length → okW m m.nx.length j
  e : wrK m.nx.length m.lg m.lg.length = m.nx
structure GoodT (m : Tm) : Prop where
  a : GoodA m
  l : GoodL m
  w : GoodW m
theorem bool_no10 {b : Bool} {p : Prop} (h : b = true ↔ p) (hp : ¬ p) : b = false := by
  cases b with
  | false => rfl
  | true => exact absurd (h.1 rfl) hp
theorem text_ne10 {a b : ByteArray} (h : a ≠ b) : (a.toList == b.toList) = false := by
  have : ¬ a.toList = b.toList := fun e => h (by
    apply ByteArray.ext
    apply Array.toList_inj.1
    rw [← ByteArray.toList_eq, ← ByteArray.toList_eq, e])
  simpa using this
theorem dec_ex (p : Prop) : ∃ b : Bool, b = true ↔ p := by classical exact ⟨decide p, by simp⟩
end Go.Proofs.Ythmekhhfihjclag.L10
