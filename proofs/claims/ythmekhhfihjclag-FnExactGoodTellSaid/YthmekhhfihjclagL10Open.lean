/-
  A world of tellers that came in by value, opened: its five fields, and what lies behind them.
-/
import Derived.Test.YthmekhhfihjclagL10Mem
import Derived.Test.YthmekhhfihjclagNoteOpen
import Derived.Test.YthmekhhfihjclagTriToldOpen
import Derived.Lib.SmallJoins
import Derived.ChangeSlices
import Derived.Deep.Slices
import Derived.ChangeSame
import Derived.OpenShut
namespace Go.Proofs.Ythmekhhfihjclag.L10
open Go.RowKit L1 Own Str Nte Tri Go.ChangeShapes Go.WideShapes
set_option linter.unusedVariables false

theorem cellsIn : Try.prog.cellsOf 3 = 1 := by kernel_rfl
theorem cellsStO : Try.prog.cellsOf 9 = 1 := by kernel_rfl
theorem cellsSs : Try.prog.cellsOf 58 = 1 := by kernel_rfl
theorem add_at (b off i : Nat) : (⟨b, off, none⟩ : Addr).add i = ⟨b, off + i, none⟩ := by unfold Addr.add; split <;> simp_all
theorem array5 {α : Type} {cs : Array α} (h : cs.size = 5) : ∃ c0 c1 c2 c3 c4, cs = #[c0, c1, c2, c3, c4] := by
  obtain ⟨l⟩ := cs
  match l, h with
  | [c0, c1, c2, c3, c4], _ => exact ⟨c0, c1, c2, c3, c4, rfl⟩
section
variable {H : Type} {enc : TypeId × Value → H} {P : Program} {w : World} {base : Nat} {spare : Nat → Bool} {held : Bool}
/-- A struct of five fields, each of one cell, taken apart. -/
theorem open_five {r : Reach} {b0 : Nat} {t : TypeId} {f0 f1 f2 f3 f4 : Field} {v : Value} {d : DataW H} {p : List MemPlace} (hs : P.underlying t = some (.struct #[f0, f1, f2, f3, f4])) (hone : Go.Deep.oneCellFields P #[f0, f1, f2, f3, f4] = true) (hC : P.cellsOf t = 5)
    (hv : Value.okWide P w r b0 t v) (h : DataW.Trod enc P w base spare held t v d p) :
    ∃ (v0 v1 v2 v3 v4 : Value) (y0 y1 y2 y3 y4 : DataW H × List MemPlace) (n : Nat), v = .agg #[v0, v1, v2, v3, v4] ∧
      DataW.trod enc P w base spare held n f0.type [v0] = some y0 ∧ DataW.trod enc P w base spare held n f1.type [v1] = some y1 ∧ DataW.trod enc P w base spare held n f2.type [v2] = some y2 ∧ DataW.trod enc P w base spare held n f3.type [v3] = some y3 ∧ DataW.trod enc P w base spare held n f4.type [v4] = some y4 := by
  obtain ⟨cs, rfl, hsz⟩ := okWide_struct hs hv
  obtain ⟨c0, c1, c2, c3, c4, rfl⟩ := array5 (hsz.trans hC)
  obtain ⟨fuel, hf⟩ := h
  obtain ⟨xs, n, _, _, _, hlen, hx⟩ := DataW.trod_struct hs hf
  obtain ⟨y0, y1, y2, y3, y4, rfl⟩ : ∃ y0 y1 y2 y3 y4, xs = [y0, y1, y2, y3, y4] := by
    match xs, hlen with
    | [y0, y1, y2, y3, y4], _ => exact ⟨y0, y1, y2, y3, y4, rfl⟩
  have h0 := hx 0 f0 rfl
  have h1 := hx 1 f1 rfl
  have h2 := hx 2 f2 rfl
  have h3 := hx 3 f3 rfl
  have h4 := hx 4 f4 rfl
  obtain ⟨o0, k0⟩ := Go.Deep.hone_of hone 0 f0 rfl
  obtain ⟨o1, k1⟩ := Go.Deep.hone_of hone 1 f1 rfl
  obtain ⟨o2, k2⟩ := Go.Deep.hone_of hone 2 f2 rfl
  obtain ⟨o3, k3⟩ := Go.Deep.hone_of hone 3 f3 rfl
  obtain ⟨o4, k4⟩ := Go.Deep.hone_of hone 4 f4 rfl
  exact ⟨c0, c1, c2, c3, c4, y0, y1, y2, y3, y4, n, rfl, by simpa [Value.cells, o0, k0] using h0, by simpa [Value.cells, o1, k1] using h1, by simpa [Value.cells, o2, k2] using h2, by simpa [Value.cells, o3, k3] using h3, by simpa [Value.cells, o4, k4] using h4⟩
end
theorem open_ints_cell {H : Type} {enc : TypeId × Value → H} {w : World} {base fuel : Nat} {spare : Nat → Bool} {held : Bool} {v : Value} {x : DataW H × List MemPlace}
    (h : DataW.trod enc Try.prog w base spare held fuel 23 [v] = some x) : ∃ a len cap, v = .slice a len cap ∧ ∃ l : List Int, l.length = len ∧ len ≤ maxLen ∧ Sl w a l := by
  rcases open_ints Try.underlying23 Try.underlying3 cellsIn h with ⟨hcs, _⟩ | ⟨a, len, cap, zs, hcs, _, hl, hm, hz, hx, hcell, hwz⟩
  · simp at hcs
    subst hcs
    exact ⟨_, _, _, rfl, [], rfl, by unfold maxLen; omega, fun i hi => by simp at hi⟩
  · simp at hcs
    subst hcs
    have hzl : len ≤ zs.length := by rw [hz]; split <;> omega
    refine ⟨_, _, _, rfl, zs.take len, by simp; omega, Nat.le_trans hl hm, fun i hi => ?_⟩
    have hi' : i < len := by simp at hi; omega
    obtain ⟨b, off, spot⟩ := a
    have hspot : spot = none := by
      have := World.cell?_spot (hcell 0 (by omega))
      simpa [Addr.add] using this
    subst hspot
    have h1 := hcell i (by omega)
    rw [add_at] at h1
    refine ⟨b, off, rfl, ?_⟩
    rw [h1]
    simp [List.getD, hi']
theorem open_strs {H : Type} {enc : TypeId × Value → H} {w : World} {base fuel : Nat} {spare : Nat → Bool} {held : Bool} {v : Value} {x : DataW H × List MemPlace}
    (h : DataW.trod enc Try.prog w base spare held fuel 58 [v] = some x) : ∃ a len cap, v = .slice a len cap ∧ ∃ l, IsRowS w a len l := by
  rcases Go.Deep.open_slice Try.underlying58 h with ⟨hcs, _⟩ | ⟨a, len, cap, m, n, D, Pl, hcs, hb, hl, hm, hmm, _, hx⟩
  · simp at hcs
    subst hcs
    exact ⟨_, _, _, rfl, [], ⟨rfl, by unfold maxLen; omega, fun i hi => by simp at hi⟩, fun j hj => by simp at hj⟩
  · simp at hcs
    subst hcs
    refine ⟨_, _, _, rfl, rowS_of hl hm fun i hi => ?_⟩
    obtain ⟨cs', h1, h2⟩ := hx i (by rw [hmm]; split <;> omega)
    rw [cellsStO, Nat.mul_one] at h1
    obtain ⟨b, rfl, _, hs⟩ := DataW.trod_string Try.underlying9 h2
    obtain ⟨_, hlen, hcell⟩ := World.cells?_some h1
    have c0 := hcell 0 (by simp)
    rw [Go.Deep.add_add] at c0
    simp at c0
    exact ⟨b, c0, hs⟩
theorem open_strss {H : Type} {enc : TypeId × Value → H} {w : World} {base fuel : Nat} {spare : Nat → Bool} {held : Bool} {v : Value} {x : DataW H × List MemPlace}
    (h : DataW.trod enc Try.prog w base spare held fuel 22 [v] = some x) : ∃ a len cap, v = .slice a len cap ∧ ∃ l, IsRowSS w a len l := by
  rcases Go.Deep.open_slice Try.underlying22 h with ⟨hcs, _⟩ | ⟨a, len, cap, m, n, D, Pl, hcs, hb, hl, hm, hmm, _, hx⟩
  · simp at hcs
    subst hcs
    exact ⟨_, _, _, rfl, [], ⟨rfl, by unfold maxLen; omega, fun i hi => by simp at hi⟩, fun j hj => by simp at hj⟩
  · simp at hcs
    subst hcs
    refine ⟨_, _, _, rfl, rowSS_of hl hm fun i hi => ?_⟩
    obtain ⟨cs', h1, h2⟩ := hx i (by rw [hmm]; split <;> omega)
    rw [cellsSs, Nat.mul_one] at h1
    obtain ⟨_, hlen, hcell⟩ := World.cells?_some h1
    obtain ⟨v0, rfl⟩ : ∃ v0, cs' = [v0] := by
      match cs', hlen with
      | [v0], _ => exact ⟨_, rfl⟩
    have c0 := hcell 0 (by simp)
    rw [Go.Deep.add_add] at c0
    simp at c0
    obtain ⟨ai, li, ci, rfl, l, hrow⟩ := open_strs h2
    have hll := hrow.1.1
    exact ⟨l, ai, ci, by rw [hll]; exact c0, by rw [hll]; exact hrow⟩
theorem open_notes_cell {H : Type} {enc : TypeId × Value → H} {w : World} {base fuel : Nat} {spare : Nat → Bool} {held : Bool} {v : Value} {x : DataW H × List MemPlace}
    (h : DataW.trod enc Try.prog w base spare held fuel 24 [v] = some x) : ∃ a len cap, v = .slice a len cap ∧ ∃ l, IsRow4 w a len l := by
  have h0 := h
  rcases Go.Deep.open_slice Try.underlying24 h with ⟨hcs, _⟩ | ⟨a', len', cap', m, n, D, Pl, hcs, _⟩
  · simp at hcs
    subst hcs
    exact ⟨_, _, _, rfl, open_notes h0⟩
  · simp at hcs
    subst hcs
    exact ⟨_, _, _, rfl, open_notes h0⟩
theorem open_tolds_cell {H : Type} {enc : TypeId × Value → H} {w : World} {base fuel : Nat} {spare : Nat → Bool} {held : Bool} {v : Value} {x : DataW H × List MemPlace}
    (h : DataW.trod enc Try.prog w base spare held fuel 25 [v] = some x) : ∃ a len cap, v = .slice a len cap ∧ ∃ l, IsRow3 w a len l := by
  have h0 := h
  rcases Go.Deep.open_slice Try.underlying25 h with ⟨hcs, _⟩ | ⟨a', len', cap', m, n, D, Pl, hcs, _⟩
  · simp at hcs
    subst hcs
    exact ⟨_, _, _, rfl, open_ToldS h0⟩
  · simp at hcs
    subst hcs
    exact ⟨_, _, _, rfl, open_ToldS h0⟩
/-- What a walk is told of a world of tellers that came in. -/
structure IsTell (w : World) (aT : Option Addr) (nT : Nat) (aH : Option Addr) (nH : Nat) (aL : Option Addr) (nL : Nat) (aG : Option Addr) (nG : Nat) (aN : Option Addr) (nN : Nat) (m : Tm) : Prop where
  t : IsRowSS w aT nT m.T
  h : m.hd.length = nH ∧ nH ≤ maxLen ∧ Sl w aH m.hd
  l : IsRow4 w aL nL m.ln
  g : IsRow3 w aG nG m.lg
  n : m.nx.length = nN ∧ nN ≤ maxLen ∧ Sl w aN m.nx
set_option maxRecDepth 100000 in
theorem open_tell {H : Type} {enc : TypeId × Value → H} {w : World} {base : Nat} {spare : Nat → Bool} {held : Bool} {r : Reach} {b0 : Nat} {v : Value} {d : DataW H} {p : List MemPlace}
    (hv : Value.okWide Try.prog w r b0 27 v) (h : DataW.Trod enc Try.prog w base spare held 27 v d p) :
    ∃ aT nT cT aH nH cH aL nL cL aG nG cG aN nN cN, v = tlV aT nT cT aH nH cH aL nL cL aG nG cG aN nN cN ∧ ∃ m, IsTell w aT nT aH nH aL nL aG nG aN nN m := by
  obtain ⟨v0, v1, v2, v3, v4, y0, y1, y2, y3, y4, k, rfl, t0, t1, t2, t3, t4⟩ := open_five Try.underlying27 (by kernel_rfl) (by kernel_rfl) hv h
  obtain ⟨aT, nT, cT, rfl, T, hT⟩ := open_strss t0
  obtain ⟨aH, nH, cH, rfl, hd, hH⟩ := open_ints_cell t1
  obtain ⟨aL, nL, cL, rfl, ln, hL⟩ := open_notes_cell t2
  obtain ⟨aG, nG, cG, rfl, lg, hG⟩ := open_tolds_cell t3
  obtain ⟨aN, nN, cN, rfl, nx, hN⟩ := open_ints_cell t4
  exact ⟨aT, nT, cT, aH, nH, cH, aL, nL, cL, aG, nG, cG, aN, nN, cN, rfl, ⟨T, hd, ln, lg, nx⟩, hT, hH, hL, hG, hN⟩
theorem IsTell.tlf {w : World} {aT aH aL aG aN : Option Addr} {nT nH nL nG nN : Nat} {m : Tm} (h : IsTell w aT nT aH nH aL nL aG nG aN nN m) : TlF w aT aH aL aG aN m := ⟨h.t.1.2.2, h.h.2.2, h.l.1.2.2, h.g.1.2.2, h.n.2.2⟩
end Go.Proofs.Ythmekhhfihjclag.L10
