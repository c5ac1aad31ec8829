/-
  A slice of rows that came in, opened at every index.
-/
import Derived.Test.YtbcnkglcfjineakDoorL13Mem
import Derived.Deep.Slices
import Derived.Deep.SlicePairs
import Derived.ChangeSame
import Derived.OpenShut
import Derived.Lib.SmallJoins
namespace Go.Proofs.YtbcnkglcfjineakDoor.L13
open Go.RowKit L1 Go.ChangeShapes Go.WideShapes
set_option linter.unusedVariables false

theorem cellsRw : Tryd.prog.cellsOf 89 = 2 := by kernel_rfl
theorem cellsStR : Tryd.prog.cellsOf 9 = 1 := by kernel_rfl
theorem cellsSmR : Tryd.prog.cellsOf 87 = 1 := by kernel_rfl
theorem open_samples {H : Type} {enc : TypeId × Value → H} {w : World} {base fuel : Nat} {spare : Nat → Bool} {held : Bool} {v : Value} {x : DataW H × List MemPlace}
    (h : DataW.trod enc Tryd.prog w base spare held fuel 87 [v] = some x) : ∃ a len cap, v = .slice a len cap ∧ ∃ l, IsRow2 w a len l := by
  rcases Go.Deep.open_slice_pairs Tryd.underlying87 Tryd.underlying117 (by kernel_rfl) rfl rfl (by kernel_rfl) (by kernel_rfl) h with ⟨hcs, _⟩ | ⟨x, l, c, m, n, V0, V1, D0, D1, P0, P1, hcs, _, hl, hm, hmm, _, each⟩
  · simp at hcs
    subst hcs
    exact ⟨_, _, _, rfl, [], rfl, by unfold maxLen; omega, fun i hi => by simp at hi⟩
  · simp at hcs
    subst hcs
    exact ⟨_, _, _, rfl, row2_of_pairs hl hm (fun i hi => by
      obtain ⟨h1, h2, h3, h4⟩ := each i (by rw [hmm]; split <;> omega)
      obtain ⟨n0, e0, _, _⟩ := DataW.trod_int Tryd.underlying3 h3
      obtain ⟨n1, e1, _, _⟩ := DataW.trod_int Tryd.underlying3 h4
      simp at e0 e1
      exact ⟨n0, n1, by rw [h1, e0], by rw [h2, e1]⟩)⟩
set_option maxRecDepth 100000 in
theorem open_rows {H : Type} {enc : TypeId × Value → H} {w : World} {base fuel len cap : Nat} {spare : Nat → Bool} {held : Bool} {a : Option Addr} {x : DataW H × List MemPlace}
    (h : DataW.trod enc Tryd.prog w base spare held fuel 34 [.slice a len cap] = some x) : ∃ l, IsRowR w a len l := by
  rcases Go.Deep.open_slice Tryd.underlying34 h with ⟨hcs, _⟩ | ⟨a', len', cap', m, n, D, Pl, hcs, hb, hl, hm, hmm, _, hx⟩
  · simp at hcs
    obtain ⟨rfl, rfl, rfl⟩ := hcs
    exact ⟨[], ⟨rfl, by unfold maxLen; omega, fun i hi => by simp at hi⟩, fun j hj => by simp at hj⟩
  · simp at hcs
    obtain ⟨rfl, rfl, rfl⟩ := hcs
    refine rowR_of hl hm fun i hi => ?_
    obtain ⟨cs', h1, h2⟩ := hx i (by rw [hmm]; split <;> omega)
    rw [cellsRw] at h1
    obtain ⟨_, hlen, hcell⟩ := World.cells?_some h1
    obtain ⟨xs, k, hk, hxy, _, hxl, hf⟩ := DataW.trod_struct Tryd.underlying89 h2
    obtain ⟨v0, v1, rfl⟩ : ∃ v0 v1, cs' = [v0, v1] := by
      match cs', hlen with
      | [v0, v1], _ => exact ⟨_, _, rfl⟩
    obtain ⟨y0, y1, rfl⟩ : ∃ y0 y1, xs = [y0, y1] := by
      have hxl' : xs.length = 2 := hxl
      clear hf hxl hxy
      match xs, hxl' with
      | [y0, y1], _ => exact ⟨_, _, rfl⟩
    have g0 := hf 0 _ rfl
    have g1 := hf 1 _ rfl
    simp [cellsStR, cellsSmR] at g0 g1
    obtain ⟨n0, e0, _, s0⟩ := DataW.trod_string Tryd.underlying9 g0
    simp at e0
    subst e0
    obtain ⟨ax, lx, cx, rfl, l, hlx, hmx, hsx⟩ := open_samples g1
    have c0 := hcell 0 (by omega)
    have c1 := hcell 1 (by omega)
    rw [Go.Deep.add_add] at c0 c1
    subst hlx
    exact ⟨⟨n0, l⟩, ax, cx, ⟨by simpa using c0, by simpa using c1, hsx⟩, s0, hmx⟩
/-- What lies in a cell of that type is a slice. -/
theorem open_rows_cell {H : Type} {enc : TypeId × Value → H} {w : World} {base fuel : Nat} {spare : Nat → Bool} {held : Bool} {v : Value} {x : DataW H × List MemPlace}
    (h : DataW.trod enc Tryd.prog w base spare held fuel 34 [v] = some x) : ∃ a len cap, v = .slice a len cap ∧ ∃ l, IsRowR w a len l := by
  have h0 := h
  rcases Go.Deep.open_slice Tryd.underlying34 h with ⟨hcs, _⟩ | ⟨a', len', cap', m, n, D, Pl, hcs, _⟩
  · simp at hcs
    subst hcs
    exact ⟨_, _, _, rfl, open_rows h0⟩
  · simp at hcs
    subst hcs
    exact ⟨_, _, _, rfl, open_rows h0⟩
end Go.Proofs.YtbcnkglcfjineakDoor.L13
