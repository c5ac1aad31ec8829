/-
  A slice of notes that came in, opened at every index.
-/
import Derived.Test.YthmekhhfihjclagNote
import Derived.Deep.Slices
import Derived.ChangeSame
import Derived.OpenShut
namespace Go.Proofs.Ythmekhhfihjclag.Nte
open Go.RowKit L1 Go.ChangeShapes Go.WideShapes
set_option linter.unusedVariables false

theorem cellsNt : Try.prog.cellsOf 102 = 4 := by kernel_rfl
theorem cellsTo : Try.prog.cellsOf 100 = 3 := by kernel_rfl
theorem cellsInN : Try.prog.cellsOf 3 = 1 := by kernel_rfl
theorem cellsStN : Try.prog.cellsOf 9 = 1 := by kernel_rfl
theorem cellsBoN : Try.prog.cellsOf 4 = 1 := by kernel_rfl
set_option maxRecDepth 100000 in
theorem open_notes {H : Type} {enc : TypeId × Value → H} {w : World} {base fuel len cap : Nat} {spare : Nat → Bool} {held : Bool} {a : Option Addr} {x : DataW H × List MemPlace}
    (h : DataW.trod enc Try.prog w base spare held fuel 24 [.slice a len cap] = some x) : ∃ l, IsRow4 w a len l := by
  rcases Go.Deep.open_slice Try.underlying24 h with ⟨hcs, _⟩ | ⟨a', len', cap', m, n, D, Pl, hcs, hb, hl, hm, hmm, _, hx⟩
  · simp at hcs
    obtain ⟨rfl, rfl, rfl⟩ := hcs
    exact ⟨[], ⟨rfl, by unfold maxLen; omega, fun i hi => by simp at hi⟩, fun j hj => by simp at hj⟩
  · simp at hcs
    obtain ⟨rfl, rfl, rfl⟩ := hcs
    refine row4_of hl hm fun i hi => ?_
    obtain ⟨cs', h1, h2⟩ := hx i (by rw [hmm]; split <;> omega)
    rw [cellsNt] at h1
    obtain ⟨_, hlen, hcell⟩ := World.cells?_some h1
    obtain ⟨xs, k, hk, hxy, _, hxl, hf⟩ := DataW.trod_struct Try.underlying102 h2
    obtain ⟨v0, v1, v2, v3, rfl⟩ : ∃ v0 v1 v2 v3, cs' = [v0, v1, v2, v3] := by
      match cs', hlen with
      | [v0, v1, v2, v3], _ => exact ⟨_, _, _, _, rfl⟩
    obtain ⟨y0, y1, rfl⟩ : ∃ y0 y1, xs = [y0, y1] := by
      have hxl' : xs.length = 2 := hxl
      clear hf hxl hxy
      match xs, hxl' with
      | [y0, y1], _ => exact ⟨_, _, rfl⟩
    · skip
      have g0 := hf 0 _ rfl
      have g1 := hf 1 _ rfl
      simp [cellsBoN, cellsTo] at g0 g1
      obtain ⟨zs, k2, _, _, _, hzl, hf2⟩ := DataW.trod_struct Try.underlying100 g1
      obtain ⟨z0, z1, z2, rfl⟩ : ∃ z0 z1 z2, zs = [z0, z1, z2] := by
        have hzl' : zs.length = 3 := hzl
        clear hf2 hzl
        match zs, hzl' with
        | [z0, z1, z2], _ => exact ⟨_, _, _, rfl⟩
      · skip
        have q0 := hf2 0 _ rfl
        have q1 := hf2 1 _ rfl
        have q2 := hf2 2 _ rfl
        simp [cellsStN, cellsInN] at q0 q1 q2
        obtain ⟨n0, e0, _⟩ := DataW.trod_bool Try.underlying4 g0
        obtain ⟨n1, e1, _, _⟩ := DataW.trod_int Try.underlying3 q0
        obtain ⟨n2, e2, _, _⟩ := DataW.trod_int Try.underlying3 q1
        obtain ⟨n3, e3, _, s3⟩ := DataW.trod_string Try.underlying9 q2
        simp at e0 e1 e2 e3
        subst e0 e1 e2 e3
        have c0 := hcell 0 (by omega)
        have c1 := hcell 1 (by omega)
        have c2 := hcell 2 (by omega)
        have c3 := hcell 3 (by omega)
        rw [Go.Deep.add_add] at c0 c1 c2 c3
        exact ⟨(n0, n1, n2, n3), ⟨by simpa using c0, by simpa using c1, by simpa using c2, by simpa using c3⟩, s3⟩
end Go.Proofs.Ythmekhhfihjclag.Nte
