/-
  A slice of slices of ints that came in, opened.
-/
import Derived.Test.YtfmfnlpajoikmanL15Mem
import Derived.Lib.SmallJoins
import Derived.ChangeSlices
import Derived.Deep.Slices
import Derived.ChangeSame
import Derived.OpenShut
namespace Go.Proofs.Ytfmfnlpajoikman.L15
open Go.RowKit L1 Own Sli Go.ChangeShapes Go.WideShapes
set_option linter.unusedVariables false

theorem cellsIn : Try.prog.cellsOf 3 = 1 := by kernel_rfl
theorem cellsI2 : Try.prog.cellsOf 41 = 1 := by kernel_rfl
theorem add_at (b off i : Nat) : (⟨b, off, none⟩ : Addr).add i = ⟨b, off + i, none⟩ := by unfold Addr.add; split <;> simp_all
theorem open_ints_cell {H : Type} {enc : TypeId × Value → H} {w : World} {base fuel : Nat} {spare : Nat → Bool} {held : Bool} {v : Value} {x : DataW H × List MemPlace}
    (h : DataW.trod enc Try.prog w base spare held fuel 41 [v] = some x) : ∃ a len cap, v = .slice a len cap ∧ ∃ l : List Int, l.length = len ∧ len ≤ maxLen ∧ Sl w a l := by
  rcases open_ints Try.underlying41 Try.underlying3 cellsIn h with ⟨hcs, _⟩ | ⟨a, len, cap, zs, hcs, _, hl, hm, hz, hx, hcell, hwz⟩
  · simp at hcs
    subst hcs
    exact ⟨_, _, _, rfl, [], rfl, by unfold maxLen; omega, fun i hi => by simp at hi⟩
  · simp at hcs
    subst hcs
    have hzl : len ≤ zs.length := by rw [hz]; split <;> omega
    refine ⟨_, _, _, rfl, zs.take len, by simp; omega, Nat.le_trans hl hm, fun i hi => ?_⟩
    have hi' : i < len := by simp at hi; omega
    obtain ⟨b, off, spot⟩ := a
    have hspot : spot = none := by
      have := World.cell?_spot (hcell 0 (by omega))
      simpa [Addr.add] using this
    subst hspot
    have h1 := hcell i (by omega)
    rw [add_at] at h1
    refine ⟨b, off, rfl, ?_⟩
    rw [h1]
    simp [List.getD, hi']
theorem open_intss {H : Type} {enc : TypeId × Value → H} {w : World} {base fuel : Nat} {spare : Nat → Bool} {held : Bool} {v : Value} {x : DataW H × List MemPlace}
    (h : DataW.trod enc Try.prog w base spare held fuel 22 [v] = some x) : ∃ a len cap, v = .slice a len cap ∧ ∃ l, IsRowSI w a len l := by
  rcases Go.Deep.open_slice Try.underlying22 h with ⟨hcs, _⟩ | ⟨a, len, cap, m, n, D, Pl, hcs, hb, hl, hm, hmm, _, hx⟩
  · simp at hcs
    subst hcs
    exact ⟨_, _, _, rfl, [], ⟨rfl, by unfold maxLen; omega, fun i hi => by simp at hi⟩, fun j hj => by simp at hj⟩
  · simp at hcs
    subst hcs
    refine ⟨_, _, _, rfl, rowSI_of hl hm fun i hi => ?_⟩
    obtain ⟨cs', h1, h2⟩ := hx i (by rw [hmm]; split <;> omega)
    rw [cellsI2, Nat.mul_one] at h1
    obtain ⟨_, hlen, hcell⟩ := World.cells?_some h1
    obtain ⟨v0, rfl⟩ : ∃ v0, cs' = [v0] := by
      match cs', hlen with
      | [v0], _ => exact ⟨_, rfl⟩
    have c0 := hcell 0 (by simp)
    rw [Go.Deep.add_add] at c0
    simp at c0
    obtain ⟨ai, li, ci, rfl, l, hll, hlm, hrow⟩ := open_ints_cell h2
    exact ⟨l, ai, ci, by rw [hll]; exact c0, ⟨by rw [hll], by rw [hll]; exact hlm, hrow⟩, by unfold TxI; unfold maxLen at hlm; omega⟩
end Go.Proofs.Ytfmfnlpajoikman.L15
