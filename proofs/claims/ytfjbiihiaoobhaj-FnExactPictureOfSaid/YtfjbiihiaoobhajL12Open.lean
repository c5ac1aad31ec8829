/-
  A bank that came in by value, opened: its five fields, and what lies behind them.
-/
import Derived.Test.YtfjbiihiaoobhajL12Mem
import Derived.Lib.SmallJoins
import Derived.ChangeSlices
import Derived.Deep.Slices
import Derived.ChangeSame
import Derived.OpenShut
namespace Go.Proofs.Ytfjbiihiaoobhaj.L12
open Go.RowKit L1 L9 Own Sli Go.ChangeShapes Go.WideShapes
set_option linter.unusedVariables false

theorem cellsIn : Try.prog.cellsOf 3 = 1 := by kernel_rfl
theorem cellsBl : Try.prog.cellsOf 4 = 1 := by kernel_rfl
theorem cellsI2 : Try.prog.cellsOf 22 = 1 := by kernel_rfl
theorem cellsB2 : Try.prog.cellsOf 52 = 1 := by kernel_rfl
theorem add_at (b off i : Nat) : (⟨b, off, none⟩ : Addr).add i = ⟨b, off + i, none⟩ := by unfold Addr.add; split <;> simp_all
theorem array5 {α : Type} {cs : Array α} (h : cs.size = 5) : ∃ c0 c1 c2 c3 c4, cs = #[c0, c1, c2, c3, c4] := by
  obtain ⟨l⟩ := cs
  match l, h with
  | [c0, c1, c2, c3, c4], _ => exact ⟨c0, c1, c2, c3, c4, rfl⟩
section
variable {H : Type} {enc : TypeId × Value → H} {P : Program} {w : World} {base : Nat} {spare : Nat → Bool} {held : Bool}
/-- A struct of five fields, each of one cell, taken apart. -/
theorem open_five {r : Reach} {b0 : Nat} {t : TypeId} {f0 f1 f2 f3 f4 : Field} {v : Value} {d : DataW H} {p : List MemPlace} (hs : P.underlying t = some (.struct #[f0, f1, f2, f3, f4])) (hone : Go.Deep.oneCellFields P #[f0, f1, f2, f3, f4] = true) (hC : P.cellsOf t = 5)
    (hv : Value.okWide P w r b0 t v) (h : DataW.Trod enc P w base spare held t v d p) :
    ∃ (v0 v1 v2 v3 v4 : Value) (y0 y1 y2 y3 y4 : DataW H × List MemPlace) (n : Nat), v = .agg #[v0, v1, v2, v3, v4] ∧
      DataW.trod enc P w base spare held n f0.type [v0] = some y0 ∧ DataW.trod enc P w base spare held n f1.type [v1] = some y1 ∧ DataW.trod enc P w base spare held n f2.type [v2] = some y2 ∧ DataW.trod enc P w base spare held n f3.type [v3] = some y3 ∧ DataW.trod enc P w base spare held n f4.type [v4] = some y4 := by
  obtain ⟨cs, rfl, hsz⟩ := okWide_struct hs hv
  obtain ⟨c0, c1, c2, c3, c4, rfl⟩ := array5 (hsz.trans hC)
  obtain ⟨fuel, hf⟩ := h
  obtain ⟨xs, n, _, _, _, hlen, hx⟩ := DataW.trod_struct hs hf
  obtain ⟨y0, y1, y2, y3, y4, rfl⟩ : ∃ y0 y1 y2 y3 y4, xs = [y0, y1, y2, y3, y4] := by
    match xs, hlen with
    | [y0, y1, y2, y3, y4], _ => exact ⟨y0, y1, y2, y3, y4, rfl⟩
  have h0 := hx 0 f0 rfl
  have h1 := hx 1 f1 rfl
  have h2 := hx 2 f2 rfl
  have h3 := hx 3 f3 rfl
  have h4 := hx 4 f4 rfl
  obtain ⟨o0, k0⟩ := Go.Deep.hone_of hone 0 f0 rfl
  obtain ⟨o1, k1⟩ := Go.Deep.hone_of hone 1 f1 rfl
  obtain ⟨o2, k2⟩ := Go.Deep.hone_of hone 2 f2 rfl
  obtain ⟨o3, k3⟩ := Go.Deep.hone_of hone 3 f3 rfl
  obtain ⟨o4, k4⟩ := Go.Deep.hone_of hone 4 f4 rfl
  exact ⟨c0, c1, c2, c3, c4, y0, y1, y2, y3, y4, n, rfl, by simpa [Value.cells, o0, k0] using h0, by simpa [Value.cells, o1, k1] using h1, by simpa [Value.cells, o2, k2] using h2, by simpa [Value.cells, o3, k3] using h3, by simpa [Value.cells, o4, k4] using h4⟩
end
theorem open_ints_cell {H : Type} {enc : TypeId × Value → H} {w : World} {base fuel : Nat} {spare : Nat → Bool} {held : Bool} {v : Value} {x : DataW H × List MemPlace}
    (h : DataW.trod enc Try.prog w base spare held fuel 22 [v] = some x) : ∃ a len cap, v = .slice a len cap ∧ ∃ l : List Int, l.length = len ∧ len ≤ maxLen ∧ Sl w a l := by
  rcases open_ints Try.underlying22 Try.underlying3 cellsIn h with ⟨hcs, _⟩ | ⟨a, len, cap, zs, hcs, _, hl, hm, hz, hx, hcell, hwz⟩
  · simp at hcs
    subst hcs
    exact ⟨_, _, _, rfl, [], rfl, by unfold maxLen; omega, fun i hi => by simp at hi⟩
  · simp at hcs
    subst hcs
    have hzl : len ≤ zs.length := by rw [hz]; split <;> omega
    refine ⟨_, _, _, rfl, zs.take len, by simp; omega, Nat.le_trans hl hm, fun i hi => ?_⟩
    have hi' : i < len := by simp at hi; omega
    obtain ⟨b, off, spot⟩ := a
    have hspot : spot = none := by
      have := World.cell?_spot (hcell 0 (by omega))
      simpa [Addr.add] using this
    subst hspot
    have h1 := hcell i (by omega)
    rw [add_at] at h1
    refine ⟨b, off, rfl, ?_⟩
    rw [h1]
    simp [List.getD, hi']
open Classical in
theorem open_bools_cell {H : Type} {enc : TypeId × Value → H} {w : World} {base fuel : Nat} {spare : Nat → Bool} {held : Bool} {v : Value} {x : DataW H × List MemPlace}
    (h : DataW.trod enc Try.prog w base spare held fuel 52 [v] = some x) : ∃ a len cap, v = .slice a len cap ∧ ∃ l : List Bool, l.length = len ∧ len ≤ maxLen ∧ SlB w a l := by
  rcases Go.Deep.open_slice Try.underlying52 h with ⟨hcs, _⟩ | ⟨a, len, cap, m, n, D, Pl, hcs, hb, hl, hm, hmm, _, hx⟩
  · simp at hcs
    subst hcs
    exact ⟨_, _, _, rfl, [], rfl, by unfold maxLen; omega, fun i hi => by simp at hi⟩
  · simp at hcs
    subst hcs
    refine ⟨_, _, _, rfl, ?_⟩
    have each : ∀ i, i < len → ∃ b : Bool, w.cell? (a.add i) = some (.bool b) := fun i hi => by
      obtain ⟨cs', h1, h2⟩ := hx i (by rw [hmm]; split <;> omega)
      rw [cellsBl, Nat.mul_one] at h1
      obtain ⟨b, rfl, _⟩ := DataW.trod_bool Try.underlying4 h2
      obtain ⟨_, hlen, hcell⟩ := World.cells?_some h1
      have c0 := hcell 0 (by simp)
      rw [Go.Deep.add_add] at c0
      simp at c0
      exact ⟨b, c0⟩
    obtain ⟨f, hf⟩ : ∃ f : Nat → Bool, ∀ i, i < len → w.cell? (a.add i) = some (.bool (f i)) := by
      refine ⟨fun i => if hi : i < len then Classical.choose (each i hi) else false, fun i hi => ?_⟩
      simp only [dif_pos hi]
      exact Classical.choose_spec (each i hi)
    refine ⟨(List.range len).map f, by simp, Nat.le_trans hl hm, fun i hi => ?_⟩
    have hi' : i < len := by simpa using hi
    have hg : ((List.range len).map f).getD i false = f i := by simp [List.getD, hi']
    obtain ⟨b, off, spot⟩ := a
    have hspot : spot = none := by
      have := World.cell?_spot (hf 0 (by omega))
      simpa [Addr.add] using this
    subst hspot
    have h1 := hf i hi'
    rw [add_at] at h1
    exact ⟨b, off, rfl, by rw [h1, hg]⟩
theorem open_intss {H : Type} {enc : TypeId × Value → H} {w : World} {base fuel : Nat} {spare : Nat → Bool} {held : Bool} {v : Value} {x : DataW H × List MemPlace}
    (h : DataW.trod enc Try.prog w base spare held fuel 23 [v] = some x) : ∃ a len cap, v = .slice a len cap ∧ ∃ l, IsRowSI w a len l := by
  rcases Go.Deep.open_slice Try.underlying23 h with ⟨hcs, _⟩ | ⟨a, len, cap, m, n, D, Pl, hcs, hb, hl, hm, hmm, _, hx⟩
  · simp at hcs
    subst hcs
    exact ⟨_, _, _, rfl, [], ⟨rfl, by unfold maxLen; omega, fun i hi => by simp at hi⟩, fun j hj => by simp at hj⟩
  · simp at hcs
    subst hcs
    refine ⟨_, _, _, rfl, rowSI_of hl hm fun i hi => ?_⟩
    obtain ⟨cs', h1, h2⟩ := hx i (by rw [hmm]; split <;> omega)
    rw [cellsI2, Nat.mul_one] at h1
    obtain ⟨_, hlen, hcell⟩ := World.cells?_some h1
    obtain ⟨v0, rfl⟩ : ∃ v0, cs' = [v0] := by
      match cs', hlen with
      | [v0], _ => exact ⟨_, rfl⟩
    have c0 := hcell 0 (by simp)
    rw [Go.Deep.add_add] at c0
    simp at c0
    obtain ⟨ai, li, ci, rfl, l, hll, hlm, hrow⟩ := open_ints_cell h2
    exact ⟨l, ai, ci, by rw [hll]; exact c0, ⟨by rw [hll], by rw [hll]; exact hlm, hrow⟩, by unfold TxI; unfold maxLen at hlm; omega⟩
theorem open_boolss {H : Type} {enc : TypeId × Value → H} {w : World} {base fuel : Nat} {spare : Nat → Bool} {held : Bool} {v : Value} {x : DataW H × List MemPlace}
    (h : DataW.trod enc Try.prog w base spare held fuel 24 [v] = some x) : ∃ a len cap, v = .slice a len cap ∧ ∃ l, IsRowSB w a len l := by
  rcases Go.Deep.open_slice Try.underlying24 h with ⟨hcs, _⟩ | ⟨a, len, cap, m, n, D, Pl, hcs, hb, hl, hm, hmm, _, hx⟩
  · simp at hcs
    subst hcs
    exact ⟨_, _, _, rfl, [], ⟨rfl, by unfold maxLen; omega, fun i hi => by simp at hi⟩, fun j hj => by simp at hj⟩
  · simp at hcs
    subst hcs
    refine ⟨_, _, _, rfl, rowSB_of hl hm fun i hi => ?_⟩
    obtain ⟨cs', h1, h2⟩ := hx i (by rw [hmm]; split <;> omega)
    rw [cellsB2, Nat.mul_one] at h1
    obtain ⟨_, hlen, hcell⟩ := World.cells?_some h1
    obtain ⟨v0, rfl⟩ : ∃ v0, cs' = [v0] := by
      match cs', hlen with
      | [v0], _ => exact ⟨_, rfl⟩
    have c0 := hcell 0 (by simp)
    rw [Go.Deep.add_add] at c0
    simp at c0
    obtain ⟨ai, li, ci, rfl, l, hll, hlm, hrow⟩ := open_bools_cell h2
    exact ⟨l, ai, ci, by rw [hll]; exact c0, ⟨by rw [hll], by rw [hll]; exact hlm, hrow⟩, by unfold TxB; unfold maxLen at hlm; omega⟩
/-- What a walk is told of a bank that came in. -/
structure IsBank (w : World) (aC : Option Addr) (nC : Nat) (aW : Option Addr) (nW : Nat) (aK : Option Addr) (nK : Nat) (aH : Option Addr) (nH : Nat) (aF : Option Addr) (nF : Nat) (m : Bk) : Prop where
  c : m.c.length = nC ∧ nC ≤ maxLen ∧ Sl w aC m.c
  W : IsRowSI w aW nW m.W
  k : m.k.length = nK ∧ nK ≤ maxLen ∧ Sl w aK m.k
  H : IsRowSB w aH nH m.H
  F : IsRowSI w aF nF m.F
set_option maxRecDepth 100000 in
theorem open_bank {H : Type} {enc : TypeId × Value → H} {w : World} {base : Nat} {spare : Nat → Bool} {held : Bool} {r : Reach} {b0 : Nat} {v : Value} {d : DataW H} {p : List MemPlace}
    (hv : Value.okWide Try.prog w r b0 26 v) (h : DataW.Trod enc Try.prog w base spare held 26 v d p) :
    ∃ aC nC cC aW nW cW aK nK cK aH nH cH aF nF cF, v = bkV aC nC cC aW nW cW aK nK cK aH nH cH aF nF cF ∧ ∃ m, IsBank w aC nC aW nW aK nK aH nH aF nF m := by
  obtain ⟨v0, v1, v2, v3, v4, y0, y1, y2, y3, y4, k, rfl, t0, t1, t2, t3, t4⟩ := open_five Try.underlying26 (by kernel_rfl) (by kernel_rfl) hv h
  obtain ⟨aC, nC, cC, rfl, c, hC⟩ := open_ints_cell t0
  obtain ⟨aW, nW, cW, rfl, W, hW⟩ := open_intss t1
  obtain ⟨aK, nK, cK, rfl, k, hK⟩ := open_ints_cell t2
  obtain ⟨aH, nH, cH, rfl, Hd, hH⟩ := open_boolss t3
  obtain ⟨aF, nF, cF, rfl, F, hF⟩ := open_intss t4
  exact ⟨aC, nC, cC, aW, nW, cW, aK, nK, cK, aH, nH, cH, aF, nF, cF, rfl, ⟨c, W, k, Hd, F⟩, hC, hW, hK, hH, hF⟩
theorem IsBank.bkf {w : World} {aC aW aK aH aF : Option Addr} {nC nW nK nH nF : Nat} {m : Bk} (h : IsBank w aC nC aW nW aK nK aH nH aF nF m) : BkF w aC aW aK aH aF m := ⟨h.c.2.2, h.W.1.2.2, h.k.2.2, h.H.1.2.2, h.F.1.2.2⟩
end Go.Proofs.Ytfjbiihiaoobhaj.L12
