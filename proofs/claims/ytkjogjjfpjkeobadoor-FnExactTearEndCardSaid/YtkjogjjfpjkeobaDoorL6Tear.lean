/-
  What TearEnd answers; logs that a call hands back.
-/
import Derived.Test.YtkjogjjfpjkeobaDoorL6Log
namespace Go.Proofs.YtkjogjjfpjkeobaDoor.L6
open Go.RowKit L1
set_option linter.unusedVariables false

/-- A log that a call hands back, in memory of its own, a number and whether there is one. -/
def RetG (w : World) (L : List Pc) (B left : Int) (ok : Bool) (e : Ending) (w' : World) : Prop :=
  ∃ a c, e = .returned (.tuple #[.agg #[.slice a L.length c, .int .i64 B], .int .i64 left, .bool ok]) ∧ ∃ M, pcs M = L ∧ OwC w' w.heap.size (.slice a L.length c) L.length M ∧ Below w.heap.size w w'
/-- The last piece's bytes without so many. -/
def tornS (p : Pc) (b : Int) : ByteArray := p.s.extract 0 (p.s.size - b.toNat)
def tornP (p : Pc) (b : Int) : Pc := ⟨p.f, (tornS p b).extract 0 (wh (tornS p b)), ix (tornS p b)⟩
abbrev lastP (L : List Pc) : Pc := gc L (L.length - 1)
def TearOk (L : List Pc) (B b : Int) : Prop := GoodG L B ∧ (0 ≤ b ∧ b ≤ ((lastP L).s.size : Int)) ∧ B ≤ (lastP L).f + (cnt (tornS (lastP L) b) : Int)
structure TearIs (L : List Pc) (B b : Int) (L' : List Pc) (B' left : Int) (ok : Bool) : Prop where
  yes : TearOk L B b → ok = true ∧ L' = L.set (L.length - 1) (tornP (lastP L) b) ∧ B' = B ∧ left = ((tornS (lastP L) b).size : Int) - (wh (tornS (lastP L) b) : Int)
  no : ¬ TearOk L B b → ok = false ∧ L' = [] ∧ B' = 0 ∧ left = 0
open Classical in
theorem tear_is (L : List Pc) (B b : Int) : ∃ L' B' left ok, TearIs L B b L' B' left ok := by
  by_cases h : TearOk L B b
  · exact ⟨_, _, _, true, fun _ => ⟨rfl, rfl, rfl, rfl⟩, fun h2 => absurd h h2⟩
  · exact ⟨_, _, _, false, fun h2 => absurd h2 h, fun _ => ⟨rfl, rfl, rfl, rfl⟩⟩
theorem own_nilC (w : World) (base : Nat) : OwC w base (.slice none 0 0) 0 [] := ⟨rfl, World.ownsRow_nil _ _ _ _, fun i hi => absurd hi (Nat.not_lt_zero _), fun i j _ hj => absurd hj (Nat.not_lt_zero _)⟩
theorem retG_none {w w' : World} (hb : Below w.heap.size w w') : RetG w [] 0 0 false (.returned (.tuple #[.agg #[.slice none 0 0, .int .i64 0], .int .i64 0, .bool false])) w' := ⟨_, _, rfl, [], rfl, own_nilC _ _, hb⟩
theorem tornP_size (p : Pc) (b : Int) : (tornS p b).size ≤ p.s.size := by unfold tornS; simp
/-- The piece that is recovered is good. -/
theorem tornP_good {p : Pc} (b : Int) (h : GoodP p) : GoodP (tornP p b) := by
  have h1 := tornP_size p b
  have h2 := h.1
  have h3 := wh_le (tornS p b)
  refine ⟨?_, ?_, ?_⟩
  · show ((tornS p b).extract 0 (wh (tornS p b))).size ≤ 60
    simp
    omega
  · show wh ((tornS p b).extract 0 (wh (tornS p b))) = _
    rw [whole_wh]
    show _ = ((tornS p b).extract 0 (wh (tornS p b))).size
    simp
    omega
  · exact (whole_ix (tornS p b)).symm
theorem tornP_cnt (p : Pc) (b : Int) : cnt (tornP p b).s = cnt (tornS p b) := whole_cnt _
theorem GoodG.small {L : List Pc} {B : Int} {n : Nat} (h : GoodG L B) (hn : L.length = n) : ∀ i, i < n → (gc L i).x.length ≤ 60 := fun i hi => by
  have hg := (h.ps i (by omega)).1
  have := good_cnt hg
  rw [hg.2.2]
  unfold ix
  rw [ixk_len]
  omega
end Go.Proofs.YtkjogjjfpjkeobaDoor.L6
