/-
  A slice of texts that came in, opened at every index.
-/
import Derived.Test.YticgejaaoamhmaoBundle1
import Derived.Deep.Slices
import Derived.ChangeSame
import Derived.OpenShut
namespace Go.Proofs.Yticgejaaoamhmao.Str
open Go.RowKit L1 Go.ChangeShapes Go.WideShapes
set_option linter.unusedVariables false

theorem cellsTx : Try.prog.cellsOf 9 = 1 := by kernel_rfl
set_option maxRecDepth 100000 in
theorem open_textsS {H : Type} {enc : TypeId × Value → H} {w : World} {base fuel len cap : Nat} {spare : Nat → Bool} {held : Bool} {a : Option Addr} {x : DataW H × List MemPlace}
    (h : DataW.trod enc Try.prog w base spare held fuel 22 [.slice a len cap] = some x) : ∃ l, IsRowS w a len l := by
  rcases Go.Deep.open_slice Try.underlying22 h with ⟨hcs, _⟩ | ⟨a', len', cap', m, n, D, Pl, hcs, hb, hl, hm, hmm, _, hx⟩
  · simp at hcs
    obtain ⟨rfl, rfl, rfl⟩ := hcs
    exact ⟨[], ⟨rfl, by unfold maxLen; omega, fun i hi => by simp at hi⟩, fun j hj => by simp at hj⟩
  · simp at hcs
    obtain ⟨rfl, rfl, rfl⟩ := hcs
    refine rowS_of hl hm fun i hi => ?_
    obtain ⟨cs', h1, h2⟩ := hx i (by rw [hmm]; split <;> omega)
    rw [cellsTx, Nat.mul_one] at h1
    obtain ⟨_, hlen, hcell⟩ := World.cells?_some h1
    obtain ⟨v0, rfl⟩ : ∃ v0, cs' = [v0] := by
      match cs', hlen with
      | [v0], _ => exact ⟨_, rfl⟩
    have c0 := hcell 0 (by omega)
    rw [Go.Deep.add_add] at c0
    obtain ⟨n0, e0, _, s0⟩ := DataW.trod_string Try.underlying9 h2
    simp at e0
    subst e0
    exact ⟨n0, by simpa using c0, s0⟩
end Go.Proofs.Yticgejaaoamhmao.Str
