/-
  A slice of pieces that came in, and a log, opened at every index.
-/
import Derived.Test.YtdnmklcnlndmhazDoorL6Pc
import Derived.Deep.Slices
import Derived.ChangeSame
import Derived.OpenShut
import Derived.Lib.SmallJoins
namespace Go.Proofs.YtdnmklcnlndmhazDoor.L6
open Go.RowKit L1 Go.ChangeShapes Go.WideShapes
set_option linter.unusedVariables false

theorem sl_of_cells {w : World} {x : Addr} {zs : List Int} {len : Nat} (hl : len ≤ zs.length) (hc : ∀ i, i < zs.length → w.cell? (x.add i) = some (.int .i64 (zs.getD i 0))) : Sl w (some x) (zs.take len) ∧ (zs.take len).length = len := by
  refine ⟨fun i hi => ?_, by simp; omega⟩
  have hi' : i < zs.length := by simp at hi; omega
  have hil : i < len := by simp at hi; omega
  have h0 := hc i hi'
  obtain ⟨b, off, spot⟩ := x
  have hspot : spot = none := by
    have h00 := hc 0 (by omega)
    simpa [Addr.add] using World.cell?_spot h00
  subst hspot
  refine ⟨b, off, rfl, ?_⟩
  rw [add_at6] at h0
  rw [h0]
  simp [List.getD, hil]
theorem cellsPc : Tryd.prog.cellsOf 70 = 3 := by kernel_rfl
theorem cellsIn6 : Tryd.prog.cellsOf 3 = 1 := by kernel_rfl
theorem cellsSt6 : Tryd.prog.cellsOf 9 = 1 := by kernel_rfl
theorem cellsSi6 : Tryd.prog.cellsOf 49 = 1 := by kernel_rfl
set_option maxRecDepth 100000 in
theorem open_pieces {H : Type} {enc : TypeId × Value → H} {w : World} {base fuel len cap : Nat} {spare : Nat → Bool} {held : Bool} {a : Option Addr} {x : DataW H × List MemPlace}
    (h : DataW.trod enc Tryd.prog w base spare held fuel 22 [.slice a len cap] = some x) : ∃ l, IsRowC w a len l := by
  rcases Go.Deep.open_slice Tryd.underlying22 h with ⟨hcs, _⟩ | ⟨a', len', cap', m, n, D, Pl, hcs, hb, hl, hm, hmm, _, hx⟩
  · simp at hcs
    obtain ⟨rfl, rfl, rfl⟩ := hcs
    exact ⟨[], ⟨rfl, by unfold maxLen; omega, fun i hi => by simp at hi⟩, fun j hj => by simp at hj⟩
  · simp at hcs
    obtain ⟨rfl, rfl, rfl⟩ := hcs
    refine rowC_of hl hm fun i hi => ?_
    obtain ⟨cs', h1, h2⟩ := hx i (by rw [hmm]; split <;> omega)
    rw [cellsPc] at h1
    obtain ⟨_, hlen, hcell⟩ := World.cells?_some h1
    obtain ⟨xs, k, hk, hxy, _, hxl, hf⟩ := DataW.trod_struct Tryd.underlying70 h2
    obtain ⟨v0, v1, v2, rfl⟩ : ∃ v0 v1 v2, cs' = [v0, v1, v2] := by
      match cs', hlen with
      | [v0, v1, v2], _ => exact ⟨_, _, _, rfl⟩
    obtain ⟨y0, y1, y2, rfl⟩ : ∃ y0 y1 y2, xs = [y0, y1, y2] := by
      have hxl' : xs.length = 3 := hxl
      clear hf hxl hxy
      match xs, hxl' with
      | [y0, y1, y2], _ => exact ⟨_, _, _, rfl⟩
    have g0 := hf 0 _ rfl
    have g1 := hf 1 _ rfl
    have g2 := hf 2 _ rfl
    simp [cellsIn6, cellsSt6, cellsSi6] at g0 g1 g2
    obtain ⟨n0, e0, _, _⟩ := DataW.trod_int Tryd.underlying3 g0
    obtain ⟨n1, e1, _, s1⟩ := DataW.trod_string Tryd.underlying9 g1
    simp at e0 e1
    subst e0 e1
    have c0 := hcell 0 (by omega)
    have c1 := hcell 1 (by omega)
    have c2 := hcell 2 (by omega)
    rw [Go.Deep.add_add] at c0 c1 c2
    rcases open_ints Tryd.underlying49 Tryd.underlying3 (by kernel_rfl) g2 with ⟨hcs, _⟩ | ⟨ax, l2, cx, zs, hcs, _, hl2, hm2, hz, hx2, hcell2, hwz⟩
    · simp at hcs
      subst hcs
      exact ⟨⟨n0, n1, []⟩, none, 0, ⟨by simpa using c0, by simpa using c1, by simpa using c2, fun i hi => by simp at hi⟩, s1, by unfold maxLen; simp⟩
    · simp at hcs
      subst hcs
      obtain ⟨r1, r2⟩ := sl_of_cells (len := l2) (by rw [hz]; split <;> omega) hcell2
      exact ⟨⟨n0, n1, zs.take l2⟩, some ax, cx, ⟨by simpa using c0, by simpa using c1, by simp only [r2]; simpa using c2, r1⟩, s1, by simp only [r2]; omega⟩
/-- What lies in a cell of that type is a slice. -/
theorem open_pieces_cell {H : Type} {enc : TypeId × Value → H} {w : World} {base fuel : Nat} {spare : Nat → Bool} {held : Bool} {v : Value} {x : DataW H × List MemPlace}
    (h : DataW.trod enc Tryd.prog w base spare held fuel 22 [v] = some x) : ∃ a len cap, v = .slice a len cap ∧ ∃ l, IsRowC w a len l := by
  have h0 := h
  rcases Go.Deep.open_slice Tryd.underlying22 h with ⟨hcs, _⟩ | ⟨a', len', cap', m, n, D, Pl, hcs, _⟩
  · simp at hcs
    subst hcs
    exact ⟨_, _, _, rfl, open_pieces h0⟩
  · simp at hcs
    subst hcs
    exact ⟨_, _, _, rfl, open_pieces h0⟩
end Go.Proofs.YtdnmklcnlndmhazDoor.L6
