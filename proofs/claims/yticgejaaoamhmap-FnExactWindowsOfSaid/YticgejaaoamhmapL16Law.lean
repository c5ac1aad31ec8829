/-
  Small facts that the walks of chapter 16's laws share: lists that stay where they were while others are written into.
-/
import Derived.Test.YticgejaaoamhmapL16Mark
namespace Go.Proofs.Yticgejaaoamhmap.L16
open Go.RowKit L1
set_option linter.unusedVariables false

theorem own_neG {w : World} {base n cap g c : Nat} {t : TypeId} {a : Option Addr} {xs : List Value} (h : w.ownsRow base t c (.slice a n cap) n xs) (hg : g < base) : (Value.slice a n cap).ownBlock = none ∨ (Value.slice a n cap).ownBlock ≠ some g := by
  cases a with
  | none => exact .inl rfl
  | some x =>
    refine .inr fun e => ?_
    have := (h.lt g e).1
    omega
theorem sl2_base {w w' : World} {a : Option Addr} {xs : List (Int × Int)} {base : Nat} (h : Sl2 w a xs) (hb : Below base w w') (hlt : ∀ x, a = some x → x.block < base) : Sl2 w' a xs := fun i hi => by
  obtain ⟨b, off, ha, hc, hd⟩ := h i hi
  exact ⟨b, off, ha, (hb.cell (p := ⟨b, off + i * 2, none⟩) (hlt ⟨b, off, none⟩ ha)).trans hc, (hb.cell (p := ⟨b, off + i * 2 + 1, none⟩) (hlt ⟨b, off, none⟩ ha)).trans hd⟩
end Go.Proofs.Yticgejaaoamhmap.L16
