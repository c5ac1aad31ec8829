/-
  What a word is; how texts are ordered. Nothing of the program's text is proved here.
-/
import Derived.Test.YtfmfnlpajoikmaoL1Sl
import Derived.Test.YtfmfnlpajoikmaoL1Bytes
import Derived.Deep.QuietTactic
import Derived.BigQuiet
import Derived.Deep.RegionHeld3
import Derived.Laws.Cover1
import Derived.Laws.RangeAny
namespace Go.Proofs.Ytfmfnlpajoikmao.L3
open Go.RowKit L1
set_option linter.unusedVariables false

theorem bl_irrefl : ∀ x : List UInt8, Op.bytesLess x x = false
  | [] => rfl
  | a :: x => by simp [Op.bytesLess, bl_irrefl x]
theorem bl_trans : ∀ x y z : List UInt8, Op.bytesLess x y = true → Op.bytesLess y z = true → Op.bytesLess x z = true
  | _, [], _, h, _ => by simp [Op.bytesLess] at h
  | _, _ :: _, [], _, h => by simp [Op.bytesLess] at h
  | [], _ :: _, _ :: _, _, _ => rfl
  | a :: x, b :: y, c :: z, h1, h2 => by
    simp only [Op.bytesLess, Bool.or_eq_true, decide_eq_true_eq, Bool.and_eq_true, beq_iff_eq] at *
    rcases h1 with h1 | ⟨rfl, h1⟩ <;> rcases h2 with h2 | ⟨rfl, h2⟩
    · exact .inl (UInt8.lt_trans h1 h2)
    · exact .inl h1
    · exact .inl h2
    · exact .inr ⟨rfl, bl_trans x y z h1 h2⟩
theorem bl_tri : ∀ x y : List UInt8, Op.bytesLess x y = false → Op.bytesLess y x = false → x = y
  | [], [], _, _ => rfl
  | [], _ :: _, h, _ => by simp [Op.bytesLess] at h
  | _ :: _, [], _, h => by simp [Op.bytesLess] at h
  | a :: x, b :: y, h1, h2 => by
    simp only [Op.bytesLess, Bool.or_eq_false_iff, decide_eq_false_iff_not, Bool.and_eq_false_iff, beq_eq_false_iff_ne] at *
    have e : a = b := UInt8.le_antisymm (UInt8.not_lt.1 h2.1) (UInt8.not_lt.1 h1.1)
    subst e
    rw [bl_tri x y (h1.2.resolve_left (by simp)) (h2.2.resolve_left (by simp))]
/-- A text comes ahead of another one. -/
def Ahead (a b : ByteArray) : Prop := Op.bytesLess a.toList b.toList = true
instance (a b : ByteArray) : Decidable (Ahead a b) := by unfold Ahead; infer_instance
theorem ahead_not {a b : ByteArray} (h : Ahead a b) : Op.bytesLess b.toList a.toList = false ∧ (b.toList == a.toList) = false := by
  unfold Ahead at h
  constructor
  · cases e : Op.bytesLess b.toList a.toList with
    | false => rfl
    | true => have := bl_trans _ _ _ h e; rw [bl_irrefl] at this; cases this
  · cases e : (b.toList == a.toList) with
    | false => rfl
    | true =>
      rw [beq_iff_eq] at e
      rw [e, bl_irrefl] at h
      cases h
theorem not_ahead {a b : ByteArray} (h : ¬ Ahead a b) : (Op.bytesLess b.toList a.toList || b.toList == a.toList) = true := by
  unfold Ahead at h
  cases e : Op.bytesLess b.toList a.toList with
  | true => rfl
  | false => rw [bl_tri _ _ e (by simpa using h)]; simp
/-- What a byte of a word is. -/
def okB (dig : Bool) (b : Int) : Prop := (97 ≤ b ∧ b ≤ 122) ∨ (dig = true ∧ 48 ≤ b ∧ b ≤ 57)
instance (dig : Bool) (b : Int) : Decidable (okB dig b) := by unfold okB; infer_instance
/-- A word: 1 to 8 letters, or letters and digits. -/
def Word (dig : Bool) (s : ByteArray) : Prop := (1 ≤ s.size ∧ s.size ≤ 8) ∧ ∀ k, k < s.size → okB dig ((bts s 0).getD k 0)
theorem own_belowT {w w' : World} {base n : Nat} {t : TypeId} {c : Nat} {v : Value} {ys : List Value} (h : w.ownsRow base t c v n ys) (hb : Below w.heap.size w w') : w'.ownsRow base t c v n ys := by
  refine ⟨h.1, ?_⟩
  rcases h.2 with h0 | ⟨g, cap, cur, rfl, hbg, hg, r⟩
  · exact .inl h0
  · exact .inr ⟨g, cap, cur, rfl, hbg, by rw [hb.block g (Array.getElem?_eq_some_iff.1 hg).1]; exact hg, r⟩
theorem own_baseT {w : World} {b c n size : Nat} {e : TypeId} {v : Value} {xs : List Value} (h : w.ownsRow c e size v n xs) (hbc : b ≤ c) : w.ownsRow b e size v n xs := by
  refine ⟨h.1, ?_⟩
  rcases h.2 with h0 | ⟨g, cap, cur, hv, hg, r⟩
  · exact .inl h0
  · exact .inr ⟨g, cap, cur, hv, Nat.le_trans hbc hg, r⟩
theorem bool_noT {b : Bool} {p : Prop} (h : b = true ↔ p) (hp : ¬ p) : b = false := by
  cases b with
  | false => rfl
  | true => exact absurd (h.1 rfl) hp
end Go.Proofs.Ytfmfnlpajoikmao.L3
