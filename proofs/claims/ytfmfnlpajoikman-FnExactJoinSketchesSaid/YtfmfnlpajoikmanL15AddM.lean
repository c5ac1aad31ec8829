/-
  What becomes of a sketch's rows. Nothing of the program's text is proved here.
-/
import Derived.Test.YtfmfnlpajoikmanL15MarkM
import Derived.Test.YtfmfnlpajoikmanL15GuM
import Derived.Test.YtfmfnlpajoikmanSISize
namespace Go.Proofs.Ytfmfnlpajoikman.L15
open Go.RowKit L1 Own Sli
set_option linter.unusedVariables false

/-- The first rows anew. -/
def upTo (f : Nat → List Int) (L : List (List Int)) (k : Nat) : List (List Int) := (List.range L.length).map fun i => if i < k then f i else gi L i
theorem upTo_len (f : Nat → List Int) (L : List (List Int)) (k : Nat) : (upTo f L k).length = L.length := by simp [upTo]
theorem upTo_get (f : Nat → List Int) (L : List (List Int)) (k i : Nat) (hi : i < L.length) : gi (upTo f L k) i = if i < k then f i else gi L i := by
  simp [upTo, gi, List.getD, hi]
theorem upTo_zero (f : Nat → List Int) (L : List (List Int)) : upTo f L 0 = L := listSS_same (upTo_len f L 0) fun i hi => by
  rw [upTo_len] at hi
  have := upTo_get f L 0 i hi
  rw [if_neg (Nat.not_lt_zero _)] at this
  exact this
theorem upTo_succ (f : Nat → List Int) (L : List (List Int)) (k : Nat) (hk : k < L.length) : upTo f L (k + 1) = (upTo f L k).set k (f k) := listSS_same (by simp [upTo_len]) fun i hi => by
  rw [upTo_len] at hi
  have h1 := upTo_get f L (k + 1) i hi
  have h2 := upTo_get f L k i hi
  unfold gi at h1 h2
  rw [h1, getD_set15 _ _ _ _ _ (by rw [upTo_len]; exact hk), h2]
  by_cases e : i = k
  · subst e
    rw [if_pos (by omega), if_pos rfl]
  · rw [if_neg e]
    by_cases h : i < k
    · rw [if_pos h, if_pos (by omega)]
    · rw [if_neg h, if_neg (by omega)]
theorem upTo_at (f : Nat → List Int) (L : List (List Int)) (k : Nat) (hk : k < L.length) : gi (upTo f L k) k = gi L k := by
  rw [upTo_get f L k k hk, if_neg (Nat.lt_irrefl _)]
/-- A row with so many more where a name stands. -/
def addR (L : List (List Int)) (s : ByteArray) (many : Int) (i : Nat) : List Int := (gi L i).set (plc (i : Int) s).toNat (rv L s i + many)
theorem addR_len (L : List (List Int)) (s : ByteArray) (many : Int) (i : Nat) : (addR L s many i).length = (gi L i).length := by simp [addR]
abbrev addA (L : List (List Int)) (s : ByteArray) (many : Int) : List (List Int) := upTo (addR L s many) L L.length
/-- A name that comes so many times can be added. -/
def AddOk (L : List (List Int)) (T : Int) (s : ByteArray) (many : Int) : Prop := (GoodS L T ∧ L3.Word false s) ∧ 1 ≤ many ∧ many ≤ 1000
/-- What comes of it. -/
structure AddIs (P : Prop) (La : List (List Int)) (Ta : Int) (ok : Bool) (L' : List (List Int)) (T' : Int) : Prop where
  iff : ok = true ↔ P ∧ GoodS La Ta
  yes : ok = true → L' = La ∧ T' = Ta
  no : ok = false → L' = [] ∧ T' = 0
theorem add_ex (P : Prop) (La : List (List Int)) (Ta : Int) : ∃ ok L' T', AddIs P La Ta ok L' T' := by
  classical
  by_cases h : P ∧ GoodS La Ta
  · exact ⟨true, La, Ta, ⟨fun _ => h, fun _ => rfl⟩, fun _ => ⟨rfl, rfl⟩, fun h => (by cases h)⟩
  · exact ⟨false, [], 0, ⟨fun h => (by cases h), fun g => absurd g h⟩, fun h => (by cases h), fun _ => ⟨rfl, rfl⟩⟩
theorem good_sms {L : List (List Int)} {T : Int} (g : GoodS L T) : SmS L := by
  have hg : ∀ i, (L.getD i []).length ≤ 11 := fun i => by
    by_cases h : i < L.length
    · have := g.at i h; unfold gi at this; omega
    · simp [List.getD, List.getElem?_eq_none (show L.length ≤ i by omega)]
  have hp : ∀ j, pre L j ≤ 11 * j := fun j => by
    induction j with
    | zero => simp [pre]
    | succ j ih => have := hg j; simp only [pre]; omega
  have := g.1.2
  exact ⟨by omega, by have := hp L.length; omega, fun i _ => by have := hg i; omega⟩
theorem AddIs.sms {P : Prop} {La : List (List Int)} {Ta : Int} {ok : Bool} {L' : List (List Int)} {T' : Int} (h : AddIs P La Ta ok L' T') : SmS L' := by
  cases ok with
  | true => rw [(h.yes rfl).1]; exact good_sms (h.iff.1 rfl).2
  | false => rw [(h.no rfl).1]; exact ⟨by simp, by simp [pre], fun i hi => absurd hi (by simp)⟩
theorem pre_wts (L : List (List Int)) : ∀ j, j ≤ L.length → pre L j = wtsI (L.take j)
  | 0, _ => by simp [pre, wtsI]
  | j + 1, h => by
    simp only [pre]
    rw [pre_wts L j (by omega), wtsI_take L j (by omega)]
theorem ints_set (l : List Int) (p : Nat) (y : Int) : ints (l.set p y) = (ints l).set p (.int .i64 y) := by simp [ints, List.map_set]
theorem GoodS.tot {L : List (List Int)} {T : Int} (g : GoodS L T) : 0 ≤ T ∧ T ≤ 1100000 := by
  have h2 := g.2 0 (by have := g.1.1; omega)
  have h4 := sm_bd (l := gi L 0) 11 (by rw [h2.1.1]; exact Nat.le_refl _) (fun j hj => h2.1.2 j hj)
  omega
/-- A row that is written into at a place. -/
theorem OwR.setP {w : World} {base n : Nat} {v : Value} {M : List PR} (h : OwR w base v n M) (k : Nat) (hk : k < n) (g c : Nat) (hv : (M.getD k eV).2 = .slice (some ⟨g, 0, none⟩) (M.getD k eV).1.length c) (p : Nat) (y : Int) :
    OwR (w.setCell ⟨g, p, none⟩ (.int .i64 y)) base v n (M.set k ((M.getD k eV).1.set p y, (M.getD k eV).2)) ∧ w.grownBy (w.setCell ⟨g, p, none⟩ (.int .i64 y)) (some g) := by
  have h0 := h.idx k hk
  rw [hv] at h0
  have h1 := h0.stored p (.int .i64 y)
  have hb : (M.getD k eV).2.ownBlock = some g := by rw [hv]; rfl
  refine ⟨h.setX k hk _ ?_ (by rw [hb]; exact h1.2), h1.2⟩
  rw [hv, ints_set, List.length_set]
  exact h1.1
/-- A row of a call's own begins at its block's beginning. -/
theorem OwR.row0 {w : World} {base n : Nat} {v : Value} {M : List PR} (h : OwR w base v n M) (k : Nat) (hk : k < n) (h0 : 0 < (M.getD k eV).1.length) : ∃ g c, (M.getD k eV).2 = .slice (some ⟨g, 0, none⟩) (M.getD k eV).1.length c ∧ ∀ j, j < (M.getD k eV).1.length → w.cell? ⟨g, j, none⟩ = some (.int .i64 ((M.getD k eV).1.getD j 0)) ∧ w.frozen? ⟨g, j, none⟩ = false := by
  have hi := h.idx k hk
  rcases hi.2 with ⟨hv, h1⟩ | ⟨g, cap, cur, hv, _⟩
  · rw [List.length_eq_zero_iff.1 h1] at h0; simp at h0
  · refine ⟨g, cap, hv, fun j hj => ?_⟩
    rw [hv] at hi
    have hl := hi.1
    have h2 := hi.cellAt j (by omega)
    refine ⟨?_, hi.frozenAt j⟩
    rw [h2]
    clear h2 hl hv hi h0
    generalize (M.getD k eV).1 = l at hj ⊢
    simp [List.getD, hj]
theorem OwR.begin {w : World} {base n : Nat} {v : Value} {M : List PR} (h : OwR w base v n M) (h0 : 0 < n) : ∃ g c, v = .slice (some ⟨g, 0, none⟩) n c := by
  rcases h.row.2 with ⟨_, h1⟩ | ⟨g, cap, cur, hv, _⟩
  · omega
  · exact ⟨g, cap, hv⟩
end Go.Proofs.Ytfmfnlpajoikman.L15
