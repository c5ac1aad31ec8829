/-
  A world of logs that came in by value, opened: its six fields, and what lies behind them.
-/
import Derived.Test.YtbcljhafdpnjbbeL9OpenG
import Derived.Test.YtbcljhafdpnjbbeL9Bool
import Derived.Test.YtbcljhafdpnjbbeL9Rep
import Derived.Lib.SmallJoins
import Derived.ChangeSlices
namespace Go.Proofs.Ytbcljhafdpnjbbe.L9
open Go.RowKit L1 L7 Go.ChangeShapes Go.WideShapes
set_option linter.unusedVariables false

theorem array6 {α : Type} {cs : Array α} (h : cs.size = 6) : ∃ c0 c1 c2 c3 c4 c5, cs = #[c0, c1, c2, c3, c4, c5] := by
  obtain ⟨l⟩ := cs
  match l, h with
  | [c0, c1, c2, c3, c4, c5], _ => exact ⟨c0, c1, c2, c3, c4, c5, rfl⟩
section
variable {H : Type} {enc : TypeId × Value → H} {P : Program} {w : World} {base : Nat} {spare : Nat → Bool} {held : Bool}
/-- A struct of six fields, each of one cell, taken apart. -/
theorem open_six {r : Reach} {b0 : Nat} {t : TypeId} {f0 f1 f2 f3 f4 f5 : Field} {v : Value} {d : DataW H} {p : List MemPlace} (hs : P.underlying t = some (.struct #[f0, f1, f2, f3, f4, f5])) (hone : Go.Deep.oneCellFields P #[f0, f1, f2, f3, f4, f5] = true) (hC : P.cellsOf t = 6)
    (hv : Value.okWide P w r b0 t v) (h : DataW.Trod enc P w base spare held t v d p) :
    ∃ (v0 v1 v2 v3 v4 v5 : Value) (y0 y1 y2 y3 y4 y5 : DataW H × List MemPlace) (n : Nat), v = .agg #[v0, v1, v2, v3, v4, v5] ∧
      DataW.trod enc P w base spare held n f0.type [v0] = some y0 ∧ DataW.trod enc P w base spare held n f1.type [v1] = some y1 ∧ DataW.trod enc P w base spare held n f2.type [v2] = some y2 ∧ DataW.trod enc P w base spare held n f3.type [v3] = some y3 ∧ DataW.trod enc P w base spare held n f4.type [v4] = some y4 ∧ DataW.trod enc P w base spare held n f5.type [v5] = some y5 := by
  obtain ⟨cs, rfl, hsz⟩ := okWide_struct hs hv
  obtain ⟨c0, c1, c2, c3, c4, c5, rfl⟩ := array6 (hsz.trans hC)
  obtain ⟨fuel, hf⟩ := h
  obtain ⟨xs, n, _, _, _, hlen, hx⟩ := DataW.trod_struct hs hf
  obtain ⟨y0, y1, y2, y3, y4, y5, rfl⟩ : ∃ y0 y1 y2 y3 y4 y5, xs = [y0, y1, y2, y3, y4, y5] := by
    match xs, hlen with
    | [y0, y1, y2, y3, y4, y5], _ => exact ⟨y0, y1, y2, y3, y4, y5, rfl⟩
  have h0 := hx 0 f0 rfl
  have h1 := hx 1 f1 rfl
  have h2 := hx 2 f2 rfl
  have h3 := hx 3 f3 rfl
  have h4 := hx 4 f4 rfl
  have h5 := hx 5 f5 rfl
  obtain ⟨o0, k0⟩ := Go.Deep.hone_of hone 0 f0 rfl
  obtain ⟨o1, k1⟩ := Go.Deep.hone_of hone 1 f1 rfl
  obtain ⟨o2, k2⟩ := Go.Deep.hone_of hone 2 f2 rfl
  obtain ⟨o3, k3⟩ := Go.Deep.hone_of hone 3 f3 rfl
  obtain ⟨o4, k4⟩ := Go.Deep.hone_of hone 4 f4 rfl
  obtain ⟨o5, k5⟩ := Go.Deep.hone_of hone 5 f5 rfl
  exact ⟨c0, c1, c2, c3, c4, c5, y0, y1, y2, y3, y4, y5, n, rfl, by simpa [Value.cells, o0, k0] using h0, by simpa [Value.cells, o1, k1] using h1, by simpa [Value.cells, o2, k2] using h2, by simpa [Value.cells, o3, k3] using h3, by simpa [Value.cells, o4, k4] using h4, by simpa [Value.cells, o5, k5] using h5⟩
end
theorem open_logs_cell {H : Type} {enc : TypeId × Value → H} {w : World} {base fuel : Nat} {spare : Nat → Bool} {held : Bool} {v : Value} {x : DataW H × List MemPlace}
    (h : DataW.trod enc Try.prog w base spare held fuel 22 [v] = some x) : ∃ a len cap, v = .slice a len cap ∧ ∃ l, IsRowG w a len l := by
  have h0 := h
  rcases Go.Deep.open_slice Try.underlying22 h with ⟨hcs, _⟩ | ⟨a', len', cap', m, n, D, Pl, hcs, _⟩
  · simp at hcs
    subst hcs
    exact ⟨_, _, _, rfl, open_logs h0⟩
  · simp at hcs
    subst hcs
    exact ⟨_, _, _, rfl, open_logs h0⟩
theorem cellsBl : Try.prog.cellsOf 4 = 1 := by kernel_rfl
theorem cellsIn : Try.prog.cellsOf 3 = 1 := by kernel_rfl
open Classical in
theorem open_bools_cell {H : Type} {enc : TypeId × Value → H} {w : World} {base fuel : Nat} {spare : Nat → Bool} {held : Bool} {v : Value} {x : DataW H × List MemPlace}
    (h : DataW.trod enc Try.prog w base spare held fuel 23 [v] = some x) : ∃ a len cap, v = .slice a len cap ∧ ∃ l : List Bool, l.length = len ∧ len ≤ maxLen ∧ SlB w a l := by
  rcases Go.Deep.open_slice Try.underlying23 h with ⟨hcs, _⟩ | ⟨a, len, cap, m, n, D, Pl, hcs, hb, hl, hm, hmm, _, hx⟩
  · simp at hcs
    subst hcs
    exact ⟨_, _, _, rfl, [], rfl, by unfold maxLen; omega, fun i hi => by simp at hi⟩
  · simp at hcs
    subst hcs
    refine ⟨_, _, _, rfl, ?_⟩
    have each : ∀ i, i < len → ∃ b : Bool, w.cell? (a.add i) = some (.bool b) := fun i hi => by
      obtain ⟨cs', h1, h2⟩ := hx i (by rw [hmm]; split <;> omega)
      rw [cellsBl, Nat.mul_one] at h1
      obtain ⟨b, rfl, _⟩ := DataW.trod_bool Try.underlying4 h2
      obtain ⟨_, hlen, hcell⟩ := World.cells?_some h1
      have c0 := hcell 0 (by simp)
      rw [Go.Deep.add_add] at c0
      simp at c0
      exact ⟨b, c0⟩
    obtain ⟨f, hf⟩ : ∃ f : Nat → Bool, ∀ i, i < len → w.cell? (a.add i) = some (.bool (f i)) := by
      refine ⟨fun i => if hi : i < len then Classical.choose (each i hi) else false, fun i hi => ?_⟩
      simp only [dif_pos hi]
      exact Classical.choose_spec (each i hi)
    refine ⟨(List.range len).map f, by simp, Nat.le_trans hl hm, fun i hi => ?_⟩
    have hi' : i < len := by simpa using hi
    have hg : ((List.range len).map f).getD i false = f i := by simp [List.getD, hi']
    obtain ⟨b, off, spot⟩ := a
    have hspot : spot = none := by
      have := World.cell?_spot (hf 0 (by omega))
      simpa [Addr.add] using this
    subst hspot
    have h1 := hf i hi'
    rw [add_at] at h1
    exact ⟨b, off, rfl, by rw [h1, hg]⟩
theorem open_ints_cell {H : Type} {enc : TypeId × Value → H} {w : World} {base fuel : Nat} {spare : Nat → Bool} {held : Bool} {v : Value} {x : DataW H × List MemPlace}
    (h : DataW.trod enc Try.prog w base spare held fuel 24 [v] = some x) : ∃ a len cap, v = .slice a len cap ∧ ∃ l : List Int, l.length = len ∧ len ≤ maxLen ∧ Sl w a l := by
  rcases open_ints Try.underlying24 Try.underlying3 cellsIn h with ⟨hcs, _⟩ | ⟨a, len, cap, zs, hcs, _, hl, hm, hz, hx, hcell, hwz⟩
  · simp at hcs
    subst hcs
    exact ⟨_, _, _, rfl, [], rfl, by unfold maxLen; omega, fun i hi => by simp at hi⟩
  · simp at hcs
    subst hcs
    have hzl : len ≤ zs.length := by rw [hz]; split <;> omega
    refine ⟨_, _, _, rfl, zs.take len, by simp; omega, Nat.le_trans hl hm, fun i hi => ?_⟩
    have hi' : i < len := by simp at hi; omega
    obtain ⟨b, off, spot⟩ := a
    have hspot : spot = none := by
      have := World.cell?_spot (hcell 0 (by omega))
      simpa [Addr.add] using this
    subst hspot
    have h1 := hcell i (by omega)
    rw [add_at] at h1
    refine ⟨b, off, rfl, ?_⟩
    rw [h1]
    simp [List.getD, hi']
theorem open_entries_cell {H : Type} {enc : TypeId × Value → H} {w : World} {base fuel : Nat} {spare : Nat → Bool} {held : Bool} {v : Value} {x : DataW H × List MemPlace}
    (h : DataW.trod enc Try.prog w base spare held fuel 25 [v] = some x) : ∃ a len cap, v = .slice a len cap ∧ ∃ l, IsRowES w a len l := by
  rcases Go.Deep.open_slice_pairs Try.underlying25 Try.underlying56 (by kernel_rfl) rfl rfl (by kernel_rfl) (by kernel_rfl) h with ⟨hcs, _⟩ | ⟨x2, l2, c2, m2, n2, V0, V1, D0, D1, P0, P1, hcs, _, hl2, hm2, hmm2, _, each⟩
  · simp at hcs
    subst hcs
    exact ⟨_, _, _, rfl, [], ⟨rfl, by unfold maxLen; simp, fun i hi => by simp at hi⟩, fun i hi => by simp at hi⟩
  · simp at hcs
    subst hcs
    refine ⟨_, _, _, rfl, ?_⟩
    exact rowES_of_pairs hl2 hm2 (fun i hi => by
      obtain ⟨h1, h2, h3, h4⟩ := each i (by rw [hmm2]; split <;> omega)
      obtain ⟨n0, e0, _, _⟩ := DataW.trod_int Try.underlying3 h3
      obtain ⟨n1, e1, _, s1⟩ := DataW.trod_string Try.underlying9 h4
      simp at e0 e1
      exact ⟨n0, n1, by rw [h1, e0], by rw [h2, e1], s1⟩)
/-- What a walk is told of a world of logs that came in. -/
structure IsRepl (w : World) (ag : Option Addr) (n : Nat) (ad : Option Addr) (nd : Nat) (ay : Option Addr) (ny : Nat) (ac : Option Addr) (nc : Nat) (G : List (List En)) (dn : List Bool) (sy : List Int) (ce : List En) : Prop where
  g : IsRowG w ag n G
  d : dn.length = nd ∧ nd ≤ maxLen ∧ SlB w ad dn
  y : sy.length = ny ∧ ny ≤ maxLen ∧ Sl w ay sy
  c : IsRowES w ac nc ce
set_option maxRecDepth 100000 in
theorem open_repl {H : Type} {enc : TypeId × Value → H} {w : World} {base : Nat} {spare : Nat → Bool} {held : Bool} {r : Reach} {b0 : Nat} {v : Value} {d : DataW H} {p : List MemPlace}
    (hv : Value.okWide Try.prog w r b0 27 v) (h : DataW.Trod enc Try.prog w base spare held 27 v d p) :
    ∃ ag n cg ad nd cd ld ep ay ny cy ac nc cc, v = rpV ag n cg ad nd cd ld ep ay ny cy ac nc cc ∧ ∃ G dn sy ce, IsRepl w ag n ad nd ay ny ac nc G dn sy ce := by
  obtain ⟨v0, v1, v2, v3, v4, v5, y0, y1, y2, y3, y4, y5, m, rfl, t0, t1, t2, t3, t4, t5⟩ := open_six Try.underlying27 (by kernel_rfl) (by kernel_rfl) hv h
  obtain ⟨ag, n, cg, rfl, G, hG⟩ := open_logs_cell t0
  obtain ⟨ad, nd, cd, rfl, dn, hd⟩ := open_bools_cell t1
  obtain ⟨ld, e2, _, _⟩ := DataW.trod_int Try.underlying3 t2
  obtain ⟨ep, e3, _, _⟩ := DataW.trod_int Try.underlying3 t3
  obtain ⟨ay, ny, cy, rfl, sy, hy⟩ := open_ints_cell t4
  obtain ⟨ac, nc, cc, rfl, ce, hc⟩ := open_entries_cell t5
  simp at e2 e3
  subst e2
  subst e3
  exact ⟨ag, n, cg, ad, nd, cd, ld, ep, ay, ny, cy, ac, nc, cc, rfl, G, dn, sy, ce, hG, hd, hy, hc⟩
end Go.Proofs.Ytbcljhafdpnjbbe.L9
