/-
  A Heavy that came in, opened.
-/
import Derived.Test.YtfmfnlpajoikmaoL15HMem
import Derived.Test.YtfmfnlpajoikmaoStrOpen
import Derived.Lib.SmallJoins
import Derived.ChangeSlices
import Derived.Deep.Slices
import Derived.ChangeSame
import Derived.OpenShut
namespace Go.Proofs.Ytfmfnlpajoikmao.L15H
open Go.RowKit L1 Own Str Go.ChangeShapes Go.WideShapes
set_option linter.unusedVariables false

theorem cellsInH : Try.prog.cellsOf 3 = 1 := by kernel_rfl
theorem add_atH (b off i : Nat) : (⟨b, off, none⟩ : Addr).add i = ⟨b, off + i, none⟩ := by unfold Addr.add; split <;> simp_all
theorem array4 {α : Type} {cs : Array α} (h : cs.size = 4) : ∃ c0 c1 c2 c3, cs = #[c0, c1, c2, c3] := by
  obtain ⟨l⟩ := cs
  match l, h with
  | [c0, c1, c2, c3], _ => exact ⟨c0, c1, c2, c3, rfl⟩
section
variable {H : Type} {enc : TypeId × Value → H} {P : Program} {w : World} {base : Nat} {spare : Nat → Bool} {held : Bool}
/-- A struct of four fields, each of one cell, taken apart. -/
theorem open_four {r : Reach} {b0 : Nat} {t : TypeId} {f0 f1 f2 f3 : Field} {v : Value} {d : DataW H} {p : List MemPlace} (hs : P.underlying t = some (.struct #[f0, f1, f2, f3])) (hone : Go.Deep.oneCellFields P #[f0, f1, f2, f3] = true) (hC : P.cellsOf t = 4)
    (hv : Value.okWide P w r b0 t v) (h : DataW.Trod enc P w base spare held t v d p) :
    ∃ (v0 v1 v2 v3 : Value) (y0 y1 y2 y3 : DataW H × List MemPlace) (n : Nat), v = .agg #[v0, v1, v2, v3] ∧
      DataW.trod enc P w base spare held n f0.type [v0] = some y0 ∧ DataW.trod enc P w base spare held n f1.type [v1] = some y1 ∧ DataW.trod enc P w base spare held n f2.type [v2] = some y2 ∧ DataW.trod enc P w base spare held n f3.type [v3] = some y3 := by
  obtain ⟨cs, rfl, hsz⟩ := okWide_struct hs hv
  obtain ⟨c0, c1, c2, c3, rfl⟩ := array4 (hsz.trans hC)
  obtain ⟨fuel, hf⟩ := h
  obtain ⟨xs, n, _, _, _, hlen, hx⟩ := DataW.trod_struct hs hf
  obtain ⟨y0, y1, y2, y3, rfl⟩ : ∃ y0 y1 y2 y3, xs = [y0, y1, y2, y3] := by
    match xs, hlen with
    | [y0, y1, y2, y3], _ => exact ⟨y0, y1, y2, y3, rfl⟩
  have h0 := hx 0 f0 rfl
  have h1 := hx 1 f1 rfl
  have h2 := hx 2 f2 rfl
  have h3 := hx 3 f3 rfl
  obtain ⟨o0, k0⟩ := Go.Deep.hone_of hone 0 f0 rfl
  obtain ⟨o1, k1⟩ := Go.Deep.hone_of hone 1 f1 rfl
  obtain ⟨o2, k2⟩ := Go.Deep.hone_of hone 2 f2 rfl
  obtain ⟨o3, k3⟩ := Go.Deep.hone_of hone 3 f3 rfl
  exact ⟨c0, c1, c2, c3, y0, y1, y2, y3, n, rfl, by simpa [Value.cells, o0, k0] using h0, by simpa [Value.cells, o1, k1] using h1, by simpa [Value.cells, o2, k2] using h2, by simpa [Value.cells, o3, k3] using h3⟩
end
theorem open_textsH {H : Type} {enc : TypeId × Value → H} {w : World} {base fuel : Nat} {spare : Nat → Bool} {held : Bool} {v : Value} {x : DataW H × List MemPlace}
    (h : DataW.trod enc Try.prog w base spare held fuel 22 [v] = some x) : ∃ a len cap, v = .slice a len cap ∧ ∃ l, IsRowS w a len l := by
  have h0 := h
  rcases Go.Deep.open_slice Try.underlying22 h with ⟨hcs, _⟩ | ⟨a', len', cap', m, n, D, Pl, hcs, _⟩
  · simp at hcs
    subst hcs
    exact ⟨_, _, _, rfl, open_textsS h0⟩
  · simp at hcs
    subst hcs
    exact ⟨_, _, _, rfl, open_textsS h0⟩
theorem open_intsH {H : Type} {enc : TypeId × Value → H} {w : World} {base fuel : Nat} {spare : Nat → Bool} {held : Bool} {v : Value} {x : DataW H × List MemPlace}
    (h : DataW.trod enc Try.prog w base spare held fuel 23 [v] = some x) : ∃ a len cap, v = .slice a len cap ∧ ∃ l : List Int, l.length = len ∧ len ≤ maxLen ∧ Sl w a l := by
  rcases open_ints Try.underlying23 Try.underlying3 cellsInH h with ⟨hcs, _⟩ | ⟨a, len, cap, zs, hcs, _, hl, hm, hz, hx, hcell, hwz⟩
  · simp at hcs
    subst hcs
    exact ⟨_, _, _, rfl, [], rfl, by unfold maxLen; omega, fun i hi => by simp at hi⟩
  · simp at hcs
    subst hcs
    have hzl : len ≤ zs.length := by rw [hz]; split <;> omega
    refine ⟨_, _, _, rfl, zs.take len, by simp; omega, Nat.le_trans hl hm, fun i hi => ?_⟩
    have hi' : i < len := by simp at hi; omega
    obtain ⟨b, off, spot⟩ := a
    have hspot : spot = none := by
      have := World.cell?_spot (hcell 0 (by omega))
      simpa [Addr.add] using this
    subst hspot
    have h1 := hcell i (by omega)
    rw [add_atH] at h1
    refine ⟨b, off, rfl, ?_⟩
    rw [h1]
    simp [List.getD, hi']
/-- What a walk is told of a Heavy that came in. -/
structure IsHeavy (w : World) (aN : Option Addr) (nN : Nat) (aC : Option Addr) (nC : Nat) (zN : List ByteArray) (zC : List Int) : Prop where
  N : IsRowS w aN nN zN
  C : zC.length = nC ∧ nC ≤ maxLen ∧ Sl w aC zC
set_option maxRecDepth 100000 in
theorem open_heavy {H : Type} {enc : TypeId × Value → H} {w : World} {base : Nat} {spare : Nat → Bool} {held : Bool} {r : Reach} {b0 : Nat} {v : Value} {d : DataW H} {p : List MemPlace}
    (hv : Value.okWide Try.prog w r b0 25 v) (h : DataW.Trod enc Try.prog w base spare held 25 v d p) :
    ∃ aN nN cN aC nC cC G T, v = .agg #[.slice aN nN cN, .slice aC nC cC, .int .i64 G, .int .i64 T] ∧ ∃ zN zC, IsHeavy w aN nN aC nC zN zC := by
  obtain ⟨v0, v1, v2, v3, y0, y1, y2, y3, k, rfl, t0, t1, t2, t3⟩ := open_four Try.underlying25 (by kernel_rfl) (by kernel_rfl) hv h
  obtain ⟨aN, nN, cN, rfl, zN, hN⟩ := open_textsH t0
  obtain ⟨aC, nC, cC, rfl, zC, hC⟩ := open_intsH t1
  obtain ⟨G, e2, _, _⟩ := DataW.trod_int Try.underlying3 t2
  obtain ⟨TT, e3, _, _⟩ := DataW.trod_int Try.underlying3 t3
  simp at e2 e3
  subst e2
  subst e3
  exact ⟨aN, nN, cN, aC, nC, cC, G, TT, rfl, zN, zC, hN, hC⟩
theorem IsHeavy.hf {w : World} {aN aC : Option Addr} {nN nC : Nat} {zN : List ByteArray} {zC : List Int} (h : IsHeavy w aN nN aC nC zN zC) (G T : Int) : HF w aN aC nN nC ⟨zN, zC, G, T⟩ := ⟨h.N.1.2.2, h.C.2.2, h.N.1.1, h.C.1⟩
end Go.Proofs.Ytfmfnlpajoikmao.L15H
