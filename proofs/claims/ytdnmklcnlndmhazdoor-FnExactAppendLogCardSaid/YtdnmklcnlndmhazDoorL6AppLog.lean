/-
  What AppendLog answers. Nothing of the program's text is proved here.
-/
import Derived.Test.YtdnmklcnlndmhazDoorL6Log
import Derived.Test.YtdnmklcnlndmhazDoorL6App
namespace Go.Proofs.YtdnmklcnlndmhazDoor.L6
open Go.RowKit L1
set_option linter.unusedVariables false

/-- A log that a call hands back, in memory of its own, and whether there is one. -/
def RetL (w : World) (L : List Pc) (B : Int) (ok : Bool) (e : Ending) (w' : World) : Prop :=
  ∃ a c, e = .returned (.tuple #[.agg #[.slice a L.length c, .int .i64 B], .bool ok]) ∧ ∃ M, pcs M = L ∧ OwC w' w.heap.size (.slice a L.length c) L.length M ∧ Below w.heap.size w w'
/-- A piece with one record more. -/
def appP (p : Pc) (r : ByteArray) : Pc := ⟨p.f, p.s ++ rec r, ix (p.s ++ rec r)⟩
/-- A log's last piece. -/
abbrev endP (L : List Pc) : Pc := gc L (L.length - 1)
def AppPre (L : List Pc) (B : Int) (r : ByteArray) : Prop := GoodG L B ∧ r.size ≤ 20 ∧ lastEnd L L.length - (gc L 0).f ≠ 60
def AppFits (L : List Pc) (r : ByteArray) : Prop := (endP L).s.size + (1 + r.size) ≤ 60
structure AppIs (L : List Pc) (B : Int) (r : ByteArray) (L' : List Pc) (B' : Int) (ok : Bool) : Prop where
  put : AppPre L B r → AppFits L r → ok = true ∧ L' = L.set (L.length - 1) (appP (endP L) r) ∧ B' = B
  more : AppPre L B r → ¬ AppFits L r → L.length ≠ 20 → ok = true ∧ L' = L ++ [⟨lastEnd L L.length, rec r, ix (rec r)⟩] ∧ B' = B
  full : AppPre L B r → ¬ AppFits L r → L.length = 20 → ok = false ∧ L' = [] ∧ B' = 0
  no : ¬ AppPre L B r → ok = false ∧ L' = [] ∧ B' = 0
open Classical in
theorem app_is (L : List Pc) (B : Int) (r : ByteArray) : ∃ L' B' ok, AppIs L B r L' B' ok := by
  by_cases h : AppPre L B r
  · by_cases h1 : AppFits L r
    · exact ⟨_, _, true, fun _ _ => ⟨rfl, rfl, rfl⟩, fun _ h2 => absurd h1 h2, fun _ h2 => absurd h1 h2, fun h2 => absurd h h2⟩
    · by_cases h3 : L.length = 20
      · exact ⟨_, _, false, fun _ h2 => absurd h2 h1, fun _ _ h4 => absurd h3 h4, fun _ _ _ => ⟨rfl, rfl, rfl⟩, fun h2 => absurd h h2⟩
      · exact ⟨_, _, true, fun _ h2 => absurd h2 h1, fun _ _ _ => ⟨rfl, rfl, rfl⟩, fun _ _ h4 => absurd h4 h3, fun h2 => absurd h h2⟩
  · exact ⟨_, _, false, fun h2 => absurd h2 h, fun h2 => absurd h2 h, fun h2 => absurd h2 h, fun _ => ⟨rfl, rfl, rfl⟩⟩
theorem ix_len60 {s : ByteArray} (h : s.size ≤ 60) : (ix s).length ≤ 60 := by
  have := cnt_le s
  unfold ix
  rw [ixk_len]
  omega
/-- A piece without records has room for any one. -/
theorem app_empty {L : List Pc} {r : ByteArray} (hr : r.size ≤ 20) (h : (endP L).s.size = 0) : AppFits L r := by
  unfold AppFits
  omega
/-- The last piece with a record more is as wholePiece makes it. -/
theorem appP_whole {p : Pc} {r : ByteArray} (hp : GoodP p) (hr : r.size ≤ 20) : (p.s ++ rec r).extract 0 (wh (p.s ++ rec r)) = p.s ++ rec r ∧ wh (p.s ++ rec r) = (p.s ++ rec r).size := by
  have h := (app_cnt p.s r hp.2.1 hr).2.2
  exact ⟨by rw [h, extract_all], h⟩
theorem rec_whole {r : ByteArray} (hr : r.size ≤ 20) : (rec r).extract 0 (wh (rec r)) = rec r ∧ (rec r).size ≤ 21 := by
  have h := (rec_alone r hr).2
  have h1 := rec_size r hr
  exact ⟨by rw [h, extract_all], by omega⟩
open Classical in
theorem app_few {L L' : List Pc} {B B' : Int} {r : ByteArray} {ok : Bool} (h : AppIs L B r L' B' ok) : L'.length ≤ 20 ∧ ∀ i, i < L'.length → (gc L' i).x.length ≤ 60 := by
  by_cases hp : AppPre L B r
  · have hg := hp.1
    have h1 := hg.one
    have h20 := hg.many
    have hx : ∀ i, i < L.length → (gc L i).x.length ≤ 60 := fun i hi => by
      have hgd := (hg.ps i hi).1
      rw [hgd.2.2]
      exact ix_len60 hgd.1
    by_cases hf : AppFits L r
    · obtain ⟨_, rfl, _⟩ := h.put hp hf
      refine ⟨by simpa using h20, fun i hi => ?_⟩
      have hi' : i < L.length := by simpa using hi
      by_cases e : i = L.length - 1
      · subst e
        have e2 : gc (L.set (L.length - 1) (appP (endP L) r)) (L.length - 1) = appP (endP L) r := by
          have : L.length - 1 < L.length := by omega
          simp [gc, List.getD, this]
        rw [e2]
        refine ix_len60 ?_
        rw [app_size _ _ hp.2.1]
        exact hf
      · have e2 : gc (L.set (L.length - 1) (appP (endP L) r)) i = gc L i := by simp [gc, List.getD, List.getElem?_set_ne (Ne.symm e)]
        rw [e2]
        exact hx i hi'
    · by_cases h3 : L.length = 20
      · obtain ⟨_, rfl, _⟩ := h.full hp hf h3
        exact ⟨Nat.zero_le _, fun i hi => absurd hi (Nat.not_lt_zero _)⟩
      · obtain ⟨_, rfl, _⟩ := h.more hp hf h3
        refine ⟨by simp; omega, fun i hi => ?_⟩
        have hi' : i < L.length + 1 := by simpa using hi
        by_cases e : i = L.length
        · subst e
          have e2 : gc (L ++ [(⟨lastEnd L L.length, rec r, ix (rec r)⟩ : Pc)]) L.length = ⟨lastEnd L L.length, rec r, ix (rec r)⟩ := by simp [gc, List.getD]
          rw [e2]
          have := (rec_whole hp.2.1).2
          exact ix_len60 (by omega)
        · have e2 : gc (L ++ [(⟨lastEnd L L.length, rec r, ix (rec r)⟩ : Pc)]) i = gc L i := by simp [gc, List.getD, List.getElem?_append_left (show i < L.length by omega)]
          rw [e2]
          exact hx i (by omega)
  · obtain ⟨_, rfl, _⟩ := h.no hp
    exact ⟨Nat.zero_le _, fun i hi => absurd hi (Nat.not_lt_zero _)⟩
end Go.Proofs.YtdnmklcnlndmhazDoor.L6
