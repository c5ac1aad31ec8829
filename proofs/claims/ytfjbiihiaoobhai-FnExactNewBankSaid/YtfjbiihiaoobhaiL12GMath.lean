/-
  What is good of a bank. Nothing of the program's text is proved here.
-/
import Derived.Test.YtfjbiihiaoobhaiL12Mem
namespace Go.Proofs.Ytfjbiihiaoobhai.L12
open Go.RowKit L1 L9 Own Sli
set_option linter.unusedVariables false

/-- What may be on a way. -/
def OnOk (l : List Int) (room : Nat) : Prop := l.length ≤ room ∧ ∀ j, j < l.length → 0 ≤ l.getD j 0 ∧ l.getD j 0 ≤ 50
abbrev Bk.n (m : Bk) : Nat := m.c.length
abbrev Bk.kp (m : Bk) (i : Nat) : Int := m.k.getD i 0
abbrev Bk.wy (m : Bk) (i j : Nat) : List Int := m.W.getD (i * m.n + j) []
abbrev Bk.hd (m : Bk) (i j : Nat) : Bool := (m.H.getD i []).getD j false
abbrev Bk.fd (m : Bk) (i j : Nat) : Int := (m.F.getD i []).getD j 0
/-- How much room a way from a node has. -/
def Bk.room (m : Bk) (i : Nat) : Nat := if m.kp i = -1 then 39 else 40
structure Lists (m : Bk) : Prop where
  n1 : 1 ≤ m.n
  n5 : m.n ≤ 5
  W : m.W.length = m.n * m.n
  k : m.k.length = m.n
  H : m.H.length = m.n
  F : m.F.length = m.n
  h : ∀ i, i < m.n → (m.H.getD i []).length = m.n
  f : ∀ i, i < m.n → (m.F.getD i []).length = m.n
structure NodeOk (m : Bk) (i : Nat) : Prop where
  c0 : 0 ≤ m.c.getD i 0
  c1 : m.c.getD i 0 ≤ 1000
  k0 : -1 ≤ m.kp i
  k1 : m.kp i ≤ 1000
  w : (m.wy i i).length = 0
  h : m.hd i i = false
  f : m.fd i i = 0
structure WayOk (m : Bk) (i j : Nat) : Prop where
  f0 : 0 ≤ m.fd i j
  f1 : m.fd i j ≤ 1000
  h : m.kp j = -1 → m.hd j i = false
  f : m.kp j = -1 → m.fd i j = 0
  w : OnOk (m.wy i j) (m.room i)
structure GoodB (m : Bk) : Prop where
  l : Lists m
  n : ∀ i, i < m.n → NodeOk m i
  w : ∀ i j, i < m.n → j < m.n → i ≠ j → WayOk m i j
theorem way_lt {n i j : Nat} (hi : i < n) (hj : j < n) : i * n + j < n * n := by
  have h1 : (i + 1) * n ≤ n * n := Nat.mul_le_mul_right n (by omega)
  rw [Nat.add_mul] at h1
  omega
theorem way_inj {n i j p q : Nat} (hj : j < n) (hq : q < n) (h : i * n + j = p * n + q) : i = p ∧ j = q := by
  have hn : 0 < n := by omega
  have h1 : (i * n + j) / n = i := by rw [Nat.mul_comm, Nat.mul_add_div hn, Nat.div_eq_of_lt hj]; omega
  have h2 : (p * n + q) / n = p := by rw [Nat.mul_comm, Nat.mul_add_div hn, Nat.div_eq_of_lt hq]; omega
  have h3 : i = p := by rw [← h1, ← h2, h]
  subst h3
  exact ⟨rfl, by omega⟩
theorem sl_cell {w : World} {a : Option Addr} {l : List Int} {n i : Nat} (hs : Sl w a l) (hn : l.length = n) (hi : i < n) : ∃ b off, a = some ⟨b, off, none⟩ ∧ w.cell? ⟨b, off + i, none⟩ = some (.int .i64 (l.getD i 0)) := hs i (by omega)
end Go.Proofs.Ytfjbiihiaoobhai.L12
