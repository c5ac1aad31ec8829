/-
  Series (lists of labels) in memory; what is good of them; which of them have a label.
-/
import Derived.Test.YthagpceagifjnaaDoorL4Base
import Derived.Test.YthagpceagifjnaaDoorL3Lab
namespace Go.Proofs.YthagpceagifjnaaDoor.L4
open Go.RowKit L1 L3
set_option linter.unusedVariables false

/-- A list of lists of labels lies in memory from an address on. -/
def SlS (w : World) (a : Option Addr) (ls : List (List Lb)) : Prop := ∀ i, i < ls.length → ∃ b off, a = some ⟨b, off, none⟩ ∧ ∃ ai ci, w.cell? ⟨b, off + i, none⟩ = some (.slice ai (ls.getD i []).length ci) ∧ SlL w ai (ls.getD i [])
theorem SlS.below {w w' : World} {a : Option Addr} {xs : List (List Lb)} (h : SlS w a xs) (hb : Below w.heap.size w w') : SlS w' a xs := fun i hi => by
  obtain ⟨b, off, ha, ai, ci, hc, hs⟩ := h i hi
  exact ⟨b, off, ha, ai, ci, (hb.cell (p := ⟨b, off + i, none⟩) (blk_lt hc)).trans hc, hs.below hb⟩
def TxL (l : List Lb) : Prop := ∀ j, j < l.length → (l.getD j eL).1.size ≤ 9223372036854775807 ∧ (l.getD j eL).2.size ≤ 9223372036854775807
/-- Texts and lists are no longer than a machine's. -/
def TxS (ls : List (List Lb)) : Prop := ∀ i, i < ls.length → (ls.getD i []).length ≤ 9223372036854775807 ∧ TxL (ls.getD i [])
/-- What a walk is told of a slice of slices of labels that came in. -/
def IsRowS (w : World) (a : Option Addr) (len : Nat) (ls : List (List Lb)) : Prop := (ls.length = len ∧ len ≤ maxLen ∧ SlS w a ls) ∧ TxS ls
open Classical in
theorem rowS_of {w : World} {a : Addr} {len cap : Nat} (hl : len ≤ cap) (hm : cap ≤ maxLen) (h : ∀ i, i < len → ∃ (l : List Lb) (ai : Option Addr) (ci : Nat), w.cell? (a.add i) = some (.slice ai l.length ci) ∧ IsRowLS w ai l.length l) : ∃ ls, IsRowS w (some a) len ls := by
  obtain ⟨f, hf⟩ : ∃ f : Nat → List Lb, ∀ i, i < len → ∃ ai ci, w.cell? (a.add i) = some (.slice ai (f i).length ci) ∧ IsRowLS w ai (f i).length (f i) := by
    refine ⟨fun i => if hi : i < len then Classical.choose (h i hi) else [], fun i hi => ?_⟩
    simp only [dif_pos hi]
    exact Classical.choose_spec (h i hi)
  have hg : ∀ i, i < len → ((List.range len).map f).getD i [] = f i := fun i hi => by simp [List.getD, hi]
  refine ⟨(List.range len).map f, ⟨by simp, Nat.le_trans hl hm, fun i hi => ?_⟩, fun i hi => ?_⟩
  · have hi' : i < len := by simpa using hi
    obtain ⟨b, off, spot⟩ := a
    have hspot : spot = none := by
      obtain ⟨_, _, h00, _⟩ := hf 0 (by omega)
      have := World.cell?_spot h00
      simpa [Addr.add] using this
    subst hspot
    obtain ⟨ai, ci, h1, h2⟩ := hf i hi'
    rw [add_at] at h1
    rw [hg i hi']
    exact ⟨b, off, rfl, ai, ci, h1, h2.1.2.2⟩
  · have hi' : i < len := by simpa using hi
    obtain ⟨ai, ci, h1, h2⟩ := hf i hi'
    rw [hg i hi']
    have := h2.1.2.1
    unfold maxLen at this
    exact ⟨by omega, h2.2⟩
/-- Series are good. -/
def GoodS (ls : List (List Lb)) : Prop := ls.length ≤ 60 ∧ ∀ i, i < ls.length → GoodL (ls.getD i [])
open Classical in
/-- The numbers of the first series that have a label. -/
noncomputable def hav (ls : List (List Lb)) (p : Lb) : Nat → List Int
  | 0 => []
  | k + 1 => if p ∈ ls.getD k [] then hav ls p k ++ [(k : Int)] else hav ls p k
theorem hav_len (ls : List (List Lb)) (p : Lb) : ∀ k, (hav ls p k).length ≤ k
  | 0 => Nat.le_refl _
  | k + 1 => by
    have := hav_len ls p k
    unfold hav
    split <;> simp <;> omega
theorem hav_mem (ls : List (List Lb)) (p : Lb) : ∀ k (y : Int), y ∈ hav ls p k ↔ ∃ i : Nat, i < k ∧ y = (i : Int) ∧ p ∈ ls.getD i []
  | 0, y => by simp [hav]
  | k + 1, y => by
    have ih := hav_mem ls p k y
    unfold hav
    split
    · rename_i h
      rw [List.mem_append, ih, List.mem_singleton]
      constructor
      · rintro (⟨i, h1, h2, h3⟩ | h1)
        · exact ⟨i, by omega, h2, h3⟩
        · exact ⟨k, by omega, h1, h⟩
      · rintro ⟨i, h1, h2, h3⟩
        by_cases e : i = k
        · exact .inr (by rw [h2, e])
        · exact .inl ⟨i, by omega, h2, h3⟩
    · rename_i h
      rw [ih]
      constructor
      · rintro ⟨i, h1, h2, h3⟩
        exact ⟨i, by omega, h2, h3⟩
      · rintro ⟨i, h1, h2, h3⟩
        by_cases e : i = k
        · subst e; exact absurd h3 h
        · exact ⟨i, by omega, h2, h3⟩
theorem hav_rise (ls : List (List Lb)) (p : Lb) : ∀ k, Rise (hav ls p k)
  | 0 => List.Pairwise.nil
  | k + 1 => by
    have ih := hav_rise ls p k
    unfold hav
    split
    · refine List.pairwise_append.2 ⟨ih, by simp, fun y hy z hz => ?_⟩
      obtain ⟨i, h1, h2, _⟩ := (hav_mem ls p k y).1 hy
      simp only [List.mem_singleton] at hz
      omega
    · exact ih
open Classical in
noncomputable def postsRes (ls : List (List Lb)) (p : Lb) : Option (List Int) := if GoodS ls ∧ okL p then some (hav ls p ls.length) else none
theorem postsRes_len (ls : List (List Lb)) (p : Lb) : ((postsRes ls p).getD []).length ≤ 60 := by
  unfold postsRes
  split
  · rename_i h
    have h1 := h.1.1
    have h2 := hav_len ls p ls.length
    simp only [Option.getD_some]
    omega
  · simp
theorem getDL_eq {l : List Lb} {j : Nat} (h : j < l.length) : l.getD j eL = l[j] := by simp [List.getD, List.getElem?_eq_getElem h]
theorem getDL_mem {l : List Lb} {j : Nat} (h : j < l.length) : l.getD j eL ∈ l := by rw [getDL_eq h]; exact List.getElem_mem h
theorem memL_getD {l : List Lb} {x : Lb} (h : x ∈ l) : ∃ j, j < l.length ∧ l.getD j eL = x := by
  obtain ⟨j, hj, e⟩ := List.getElem_of_mem h
  exact ⟨j, hj, by rw [getDL_eq hj]; exact e⟩
/-- Of good labels none comes twice. -/
theorem good_ahead {l : List Lb} (h : GoodL l) {i j : Nat} (hij : i < j) (hj : j < l.length) : Ahead (l.getD i eL).1 (l.getD j eL).1 := by
  have key : ∀ d, i + 1 + d < l.length → Ahead (l.getD i eL).1 (l.getD (i + 1 + d) eL).1 := fun d => by
    induction d with
    | zero => intro hd; have := (h.2 (i + 1) hd).2 (by omega); simpa using this
    | succ d ih =>
      intro hd
      have h1 := ih (by omega)
      have h2 := (h.2 (i + 1 + (d + 1)) hd).2 (by omega)
      have e : i + 1 + (d + 1) - 1 = i + 1 + d := by omega
      rw [e] at h2
      exact bl_trans _ _ _ h1 h2
  have := key (j - i - 1) (by omega)
  rwa [show i + 1 + (j - i - 1) = j by omega] at this
theorem good_once {l : List Lb} (h : GoodL l) {i j : Nat} (hij : i < j) (hj : j < l.length) : l.getD i eL ≠ l.getD j eL := fun e => by
  have := good_ahead h hij hj
  rw [e] at this
  unfold Ahead at this
  rw [bl_irrefl] at this
  cases this
theorem ba_same {x y : ByteArray} : x.toList = y.toList ↔ x = y := by
  constructor
  · intro h
    apply ByteArray.ext
    apply Array.toList_inj.1
    rw [← ByteArray.toList_eq, ← ByteArray.toList_eq, h]
  · rintro rfl
    rfl
end Go.Proofs.YthagpceagifjnaaDoor.L4
