/-
  A slice of totals that came in, opened at every index.
-/
import Derived.Test.YtohcjafklfemfamBundle2
import Derived.Deep.Slices
import Derived.Deep.SlicePairs
import Derived.ChangeSame
import Derived.OpenShut
import Derived.Lib.SmallJoins
namespace Go.Proofs.Ytohcjafklfemfam.L14T
open Go.RowKit L1 L3 Go.ChangeShapes Go.WideShapes
set_option linter.unusedVariables false

theorem cellsRw : Try.prog.cellsOf 57 = 5 := by kernel_rfl
theorem cellsIn : Try.prog.cellsOf 3 = 1 := by kernel_rfl
theorem cellsLs : Try.prog.cellsOf 55 = 1 := by kernel_rfl
theorem open_labels {H : Type} {enc : TypeId × Value → H} {w : World} {base fuel : Nat} {spare : Nat → Bool} {held : Bool} {v : Value} {x : DataW H × List MemPlace}
    (h : DataW.trod enc Try.prog w base spare held fuel 55 [v] = some x) : ∃ a len cap, v = .slice a len cap ∧ ∃ l, IsRowLS w a len l := by
  rcases Go.Deep.open_slice_pairs Try.underlying55 Try.underlying103 (by kernel_rfl) rfl rfl (by kernel_rfl) (by kernel_rfl) h with ⟨hcs, _⟩ | ⟨x, l, c, m, n, V0, V1, D0, D1, P0, P1, hcs, _, hl, hm, hmm, _, each⟩
  · simp at hcs
    subst hcs
    exact ⟨_, _, _, rfl, [], ⟨rfl, by unfold maxLen; omega, fun i hi => by simp at hi⟩, fun i hi => by simp at hi⟩
  · simp at hcs
    subst hcs
    exact ⟨_, _, _, rfl, rowLS_of_pairs hl hm (fun i hi => by
      obtain ⟨h1, h2, h3, h4⟩ := each i (by rw [hmm]; split <;> omega)
      obtain ⟨n0, e0, _, s0⟩ := DataW.trod_string Try.underlying9 h3
      obtain ⟨n1, e1, _, s1⟩ := DataW.trod_string Try.underlying9 h4
      simp at e0 e1
      exact ⟨n0, n1, by rw [h1, e0], by rw [h2, e1], s0, s1⟩)⟩
set_option maxRecDepth 100000 in
theorem open_rows {H : Type} {enc : TypeId × Value → H} {w : World} {base fuel len cap : Nat} {spare : Nat → Bool} {held : Bool} {a : Option Addr} {x : DataW H × List MemPlace}
    (h : DataW.trod enc Try.prog w base spare held fuel 22 [.slice a len cap] = some x) : ∃ l, IsRowR w a len l := by
  rcases Go.Deep.open_slice Try.underlying22 h with ⟨hcs, _⟩ | ⟨a', len', cap', m, n, D, Pl, hcs, hb, hl, hm, hmm, _, hx⟩
  · simp at hcs
    obtain ⟨rfl, rfl, rfl⟩ := hcs
    exact ⟨[], ⟨rfl, by unfold maxLen; omega, fun i hi => by simp at hi⟩, fun j hj => by simp at hj⟩
  · simp at hcs
    obtain ⟨rfl, rfl, rfl⟩ := hcs
    refine rowR_of hl hm fun i hi => ?_
    obtain ⟨cs', h1, h2⟩ := hx i (by rw [hmm]; split <;> omega)
    rw [cellsRw] at h1
    obtain ⟨_, hlen, hcell⟩ := World.cells?_some h1
    obtain ⟨xs, k, hk, hxy, _, hxl, hf⟩ := DataW.trod_struct Try.underlying57 h2
    obtain ⟨u0, u1, u2, u3, u4, rfl⟩ : ∃ u0 u1 u2 u3 u4, cs' = [u0, u1, u2, u3, u4] := by
      match cs', hlen with
      | [u0, u1, u2, u3, u4], _ => exact ⟨_, _, _, _, _, rfl⟩
    obtain ⟨y0, y1, y2, y3, y4, rfl⟩ : ∃ y0 y1 y2 y3 y4, xs = [y0, y1, y2, y3, y4] := by
      have hxl' : xs.length = 5 := hxl
      clear hf hxl hxy
      match xs, hxl' with
      | [y0, y1, y2, y3, y4], _ => exact ⟨_, _, _, _, _, rfl⟩
    have g0 := hf 0 _ rfl
    have g1 := hf 1 _ rfl
    have g2 := hf 2 _ rfl
    have g3 := hf 3 _ rfl
    have g4 := hf 4 _ rfl
    simp [cellsIn, cellsLs] at g0 g1 g2 g3 g4
    obtain ⟨n0, e0, _, _⟩ := DataW.trod_int Try.underlying3 g1
    simp at e0
    subst e0
    obtain ⟨n1, e1, _, _⟩ := DataW.trod_int Try.underlying3 g2
    simp at e1
    subst e1
    obtain ⟨n2, e2, _, _⟩ := DataW.trod_int Try.underlying3 g3
    simp at e2
    subst e2
    obtain ⟨n3, e3, _, _⟩ := DataW.trod_int Try.underlying3 g4
    simp at e3
    subst e3
    obtain ⟨ax, lx, cx, rfl, l, hlx⟩ := open_labels g0
    have c0 := hcell 0 (by omega)
    rw [Go.Deep.add_add] at c0
    have c1 := hcell 1 (by omega)
    rw [Go.Deep.add_add] at c1
    have c2 := hcell 2 (by omega)
    rw [Go.Deep.add_add] at c2
    have c3 := hcell 3 (by omega)
    rw [Go.Deep.add_add] at c3
    have c4 := hcell 4 (by omega)
    rw [Go.Deep.add_add] at c4
    have hll := hlx.1.1
    subst hll
    exact ⟨⟨l, n0, n1, n2, n3⟩, ax, cx, ⟨by simpa using c0, by simpa using c1, by simpa using c2, by simpa using c3, by simpa using c4⟩, hlx⟩
end Go.Proofs.Ytohcjafklfemfam.L14T
