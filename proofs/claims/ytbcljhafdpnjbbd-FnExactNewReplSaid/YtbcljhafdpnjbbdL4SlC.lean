/-
  A list of ints in memory with its slice's room; a new list that a call hands back.
-/
import Derived.Test.YtbcljhafdpnjbbdL4Base
namespace Go.Proofs.Ytbcljhafdpnjbbd.L4
open Go.RowKit L1
set_option linter.unusedVariables false

/-- A list of ints in memory, and the room that its slice has. -/
structure SlC (w : World) (a : Option Addr) (n cap : Nat) (xs : List Int) : Prop where
  sl : Sl w a xs
  le : n ≤ cap
  max : cap ≤ maxLen
  nil : a = none → cap = 0
theorem SlC.below {w w' : World} {a : Option Addr} {n cap : Nat} {xs : List Int} (h : SlC w a n cap xs) (hb : Below w.heap.size w w') : SlC w' a n cap xs := ⟨h.sl.below hb, h.le, h.max, h.nil⟩
theorem own_slC {w : World} {base n cap : Nat} {a : Option Addr} {xs : List Int} (h : w.ownsRow base 3 1 (.slice a n cap) n (xs.map (Value.int .i64))) : SlC w a n cap xs := by
  refine ⟨own_slI h, ?_, ?_, ?_⟩ <;> rcases h.2 with ⟨hv, h0⟩ | ⟨g, cap', cur, hv, _, _, hc, hm, _⟩
  · omega
  · cases hv; exact hc
  · cases hv; unfold maxLen; omega
  · cases hv; exact hm
  · cases hv; exact fun _ => rfl
  · cases hv; exact fun e => by cases e
theorem own_formC {w : World} {base n : Nat} {v : Value} {xs : List Int} (h : w.ownsRow base 3 1 v n (xs.map (Value.int .i64))) : ∃ a cap, v = .slice a n cap ∧ SlC w a n cap xs ∧ xs.length = n := by
  obtain ⟨a, cap, rfl, _, hl⟩ := own_form h
  exact ⟨a, cap, rfl, own_slC h, hl⟩
theorem slC_base {w w' : World} {a : Option Addr} {n cap : Nat} {xs : List Int} {base : Nat} (h : SlC w a n cap xs) (hb : Below base w w') (hlt : ∀ x, a = some x → x.block < base) : SlC w' a n cap xs := ⟨sl_baseI h.sl hb hlt, h.le, h.max, h.nil⟩
/-- A new list of ints that a call hands back. -/
def RetN (w : World) (xs : List Int) (e : Ending) (w' : World) : Prop := ∃ v, e = .returned v ∧ w'.ownsRow w.heap.size 3 1 v xs.length (xs.map (Value.int .i64)) ∧ Below w.heap.size w w'
end Go.Proofs.Ytbcljhafdpnjbbd.L4
