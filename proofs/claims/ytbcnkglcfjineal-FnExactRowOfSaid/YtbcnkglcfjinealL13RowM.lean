/-
  What RowOf tells. Nothing of the program's text is proved here.
-/
import Derived.Test.YtbcnkglcfjinealL13GMath
import Derived.Test.YtbcnkglcfjinealL13Law
namespace Go.Proofs.Ytbcnkglcfjineal.L13
open Go.RowKit L1
set_option linter.unusedVariables false

theorem up_lt {L : List Rw} {n : Nat} (h : UpTo L n) (i : Nat) : ∀ j, i < j → j < n → L3.Ahead (gr L i).nm (gr L j).nm
  | 0, h1, _ => absurd h1 (Nat.not_lt_zero _)
  | j + 1, h1, h2 => by
    have h3 := (h (j + 1) h2).2 (by omega)
    rw [show j + 1 - 1 = j by omega] at h3
    by_cases e : i = j
    · subst e; exact h3
    · exact L3.bl_trans _ _ _ (up_lt h i j (by omega) (by omega)) h3
theorem ahead_ne {a b : ByteArray} (h : L3.Ahead a b) : a ≠ b := fun e => by
  subst e
  unfold L3.Ahead at h
  rw [L3.bl_irrefl] at h
  cases h
theorem up_inj {L : List Rw} {n : Nat} (h : UpTo L n) {i j : Nat} (hi : i < n) (hj : j < n) (e : (gr L i).nm = (gr L j).nm) : i = j := by
  by_cases h1 : i < j
  · exact absurd e (ahead_ne (up_lt h i j h1 hj))
  · by_cases h2 : j < i
    · exact absurd e.symm (ahead_ne (up_lt h j i h2 hi))
    · omega
/-- What RowOf tells: a row's Samples, or nothing. -/
inductive RowIs (L : List Rw) (o : Int) (nm : ByteArray) : List (Int × Int) → Bool → Prop
  | bad (h : ¬ GoodH L o) : RowIs L o nm [] false
  | none (h : GoodH L o) (hn : ∀ k, k < L.length → (gr L k).nm ≠ nm) : RowIs L o nm [] false
  | some (h : GoodH L o) (k : Nat) (hk : k < L.length) (hn : (gr L k).nm = nm) : RowIs L o nm (gr L k).l true
theorem row_ex (L : List Rw) (o : Int) (nm : ByteArray) : ∃ r ok, RowIs L o nm r ok := by
  by_cases h : GoodH L o
  · by_cases hx : ∃ k, k < L.length ∧ (gr L k).nm = nm
    · obtain ⟨k, hk, hn⟩ := hx
      exact ⟨_, _, .some h k hk hn⟩
    · exact ⟨_, _, .none h (fun k hk e => hx ⟨k, hk, e⟩)⟩
  · exact ⟨_, _, .bad h⟩
/-- Samples that a call hands back, in new memory. -/
def RS (w w' : World) (v : Value) (r : List (Int × Int)) : Prop := w'.ownsRow w.heap.size 51 2 v r.length (flat r) ∧ Below w.heap.size w w'
/-- What RowOf hands back. -/
def RetS13 (w w' : World) (e : Ending) (m : Nat) (r : List (Int × Int)) (ok : Bool) : Prop := ∃ a c, e = .returned (.tuple #[.slice a m c, .bool ok]) ∧ w'.ownsRow w.heap.size 51 2 (.slice a m c) m (flat r) ∧ Below w.heap.size w w'
theorem ret_s {w w' : World} {e : Ending} {m : Nat} {r : List (Int × Int)} {ok : Bool} (hm : r.length = m) (h : ∃ v, e = .returned (.tuple #[v, .bool ok]) ∧ RS w w' v r) : RetS13 w w' e m r ok := by
  obtain ⟨v, he, ho, hb⟩ := h
  rw [hm] at ho
  obtain ⟨a, c, rfl, _, _⟩ := own_form2 ho
  exact ⟨a, c, he, ho, hb⟩
theorem rs_nil {w w' : World} (hb : Below w.heap.size w w') : RS w w' (.slice none 0 0) [] := ⟨World.ownsRow_nil _ _ _ _, hb⟩
end Go.Proofs.Ytbcnkglcfjineal.L13
