/-
  A slice of a query's parts that came in, opened at every index.
-/
import Derived.Test.YthicdnkngpiccaxL4Qu
import Derived.Deep.Slices
import Derived.ChangeSame
import Derived.OpenShut
namespace Go.Proofs.Ythicdnkngpiccax.L4
open Go.RowKit L1 L3 Go.ChangeShapes Go.WideShapes
set_option linter.unusedVariables false

theorem cellsQu : Try.prog.cellsOf 72 = 5 := by kernel_rfl
theorem cellsLa : Try.prog.cellsOf 24 = 2 := by kernel_rfl
theorem cellsIn : Try.prog.cellsOf 3 = 1 := by kernel_rfl
theorem cellsSt : Try.prog.cellsOf 9 = 1 := by kernel_rfl
set_option maxRecDepth 100000 in
theorem open_queries {H : Type} {enc : TypeId × Value → H} {w : World} {base fuel len cap : Nat} {spare : Nat → Bool} {held : Bool} {a : Option Addr} {x : DataW H × List MemPlace}
    (h : DataW.trod enc Try.prog w base spare held fuel 39 [.slice a len cap] = some x) : ∃ l, IsRowQ w a len l := by
  rcases Go.Deep.open_slice Try.underlying39 h with ⟨hcs, _⟩ | ⟨a', len', cap', m, n, D, Pl, hcs, hb, hl, hm, hmm, _, hx⟩
  · simp at hcs
    obtain ⟨rfl, rfl, rfl⟩ := hcs
    exact ⟨[], ⟨rfl, by unfold maxLen; omega, fun i hi => by simp at hi⟩, fun j hj => by simp at hj⟩
  · simp at hcs
    obtain ⟨rfl, rfl, rfl⟩ := hcs
    refine rowQ_of hl hm fun i hi => ?_
    obtain ⟨cs', h1, h2⟩ := hx i (by rw [hmm]; split <;> omega)
    rw [cellsQu] at h1
    obtain ⟨_, hlen, hcell⟩ := World.cells?_some h1
    obtain ⟨xs, k, hk, hxy, _, hxl, hf⟩ := DataW.trod_struct Try.underlying72 h2
    obtain ⟨v0, v1, v2, v3, v4, rfl⟩ : ∃ v0 v1 v2 v3 v4, cs' = [v0, v1, v2, v3, v4] := by
      match cs', hlen with
      | [v0, v1, v2, v3, v4], _ => exact ⟨_, _, _, _, _, rfl⟩
    obtain ⟨y0, y1, y2, y3, rfl⟩ : ∃ y0 y1 y2 y3, xs = [y0, y1, y2, y3] := by
      have hxl' : xs.length = 4 := hxl
      clear hf hxl hxy
      match xs, hxl' with
      | [y0, y1, y2, y3], _ => exact ⟨_, _, _, _, rfl⟩
    · skip
      have g0 := hf 0 _ rfl
      have g1 := hf 1 _ rfl
      have g2 := hf 2 _ rfl
      have g3 := hf 3 _ rfl
      simp [cellsIn, cellsLa] at g0 g1 g2 g3
      obtain ⟨zs, k2, _, _, _, hzl, hf2⟩ := DataW.trod_struct Try.underlying24 g1
      obtain ⟨z0, z1, rfl⟩ : ∃ z0 z1, zs = [z0, z1] := by
        have hzl' : zs.length = 2 := hzl
        clear hf2 hzl
        match zs, hzl' with
        | [z0, z1], _ => exact ⟨_, _, rfl⟩
      · skip
        have q0 := hf2 0 _ rfl
        have q1 := hf2 1 _ rfl
        simp [cellsSt] at q0 q1
        obtain ⟨n0, e0, _, _⟩ := DataW.trod_int Try.underlying3 g0
        obtain ⟨n1, e1, _, s1⟩ := DataW.trod_string Try.underlying9 q0
        obtain ⟨n2, e2, _, s2⟩ := DataW.trod_string Try.underlying9 q1
        obtain ⟨n3, e3, _, _⟩ := DataW.trod_int Try.underlying3 g2
        obtain ⟨n4, e4, _, _⟩ := DataW.trod_int Try.underlying3 g3
        simp at e0 e1 e2 e3 e4
        subst e0 e1 e2 e3 e4
        have c0 := hcell 0 (by omega)
        have c1 := hcell 1 (by omega)
        have c2 := hcell 2 (by omega)
        have c3 := hcell 3 (by omega)
        have c4 := hcell 4 (by omega)
        rw [Go.Deep.add_add] at c0 c1 c2 c3 c4
        exact ⟨⟨n0, n1, n2, n3, n4⟩, ⟨by simpa using c0, by simpa using c1, by simpa using c2, by simpa using c3, by simpa using c4⟩, s1, s2⟩
end Go.Proofs.Ythicdnkngpiccax.L4
