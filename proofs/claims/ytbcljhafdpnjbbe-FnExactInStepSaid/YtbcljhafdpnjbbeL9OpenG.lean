/-
  A slice of slices of entries that came in, opened at every index.
-/
import Derived.Test.YtbcljhafdpnjbbeL9Lg
import Derived.Deep.SlicePairs
import Derived.ChangeSame
import Derived.OpenShut
namespace Go.Proofs.Ytbcljhafdpnjbbe.L9
open Go.RowKit L1 L7 Go.ChangeShapes Go.WideShapes
set_option linter.unusedVariables false

theorem cellsEs : Try.prog.cellsOf 25 = 1 := by kernel_rfl
set_option maxRecDepth 100000 in
theorem open_logs {H : Type} {enc : TypeId × Value → H} {w : World} {base fuel len cap : Nat} {spare : Nat → Bool} {held : Bool} {a : Option Addr} {x : DataW H × List MemPlace}
    (h : DataW.trod enc Try.prog w base spare held fuel 22 [.slice a len cap] = some x) : ∃ ls, IsRowG w a len ls := by
  rcases Go.Deep.open_slice Try.underlying22 h with ⟨hcs, _⟩ | ⟨a', len', cap', m, n, D, Pl, hcs, hb, hl, hm, hmm, _, hx⟩
  · simp at hcs
    obtain ⟨rfl, rfl, rfl⟩ := hcs
    exact ⟨[], ⟨rfl, by unfold maxLen; omega, fun i hi => by simp at hi⟩, fun j hj => by simp at hj⟩
  · simp at hcs
    obtain ⟨rfl, rfl, rfl⟩ := hcs
    refine rowG_of hl hm fun i hi => ?_
    obtain ⟨cs', h1, h2⟩ := hx i (by rw [hmm]; split <;> omega)
    rw [cellsEs, Nat.mul_one] at h1
    obtain ⟨_, hlen, hcell⟩ := World.cells?_some h1
    obtain ⟨v0, rfl⟩ : ∃ v0, cs' = [v0] := by
      match cs', hlen with
      | [v0], _ => exact ⟨_, rfl⟩
    have c0 := hcell 0 (by omega)
    rw [Go.Deep.add_add] at c0
    simp at c0
    rcases Go.Deep.open_slice_pairs Try.underlying25 Try.underlying56 (by kernel_rfl) rfl rfl (by kernel_rfl) (by kernel_rfl) h2 with ⟨hcs, _⟩ | ⟨x2, l2, c2, m2, n2, V0, V1, D0, D1, P0, P1, hcs, _, hl2, hm2, hmm2, _, each⟩
    · simp at hcs
      subst hcs
      exact ⟨[], none, 0, c0, ⟨rfl, by unfold maxLen; simp, fun i hi => by simp at hi⟩, fun i hi => by simp at hi⟩
    · simp at hcs
      subst hcs
      obtain ⟨l, hrow⟩ := rowES_of_pairs hl2 hm2 (fun i hi => by
        obtain ⟨h1, h2, h3, h4⟩ := each i (by rw [hmm2]; split <;> omega)
        obtain ⟨n0, e0, _, _⟩ := DataW.trod_int Try.underlying3 h3
        obtain ⟨n1, e1, _, s1⟩ := DataW.trod_string Try.underlying9 h4
        simp at e0 e1
        exact ⟨n0, n1, by rw [h1, e0], by rw [h2, e1], s1⟩)
      have hll := hrow.1.1
      exact ⟨l, some x2, c2, by rw [hll]; exact c0, by rw [hll]; exact hrow⟩
end Go.Proofs.Ytbcljhafdpnjbbe.L9
