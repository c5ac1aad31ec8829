/-
  Labels out of a text: the mathematics. Two ways to read a part agree wherever its labels are good.
-/
import Derived.Test.YthagpceagifjnaaDoorL3Split
import Derived.Test.YthagpceagifjnaaDoorL3Word
namespace Go.Proofs.YthagpceagifjnaaDoor.L3
open Go.RowKit L1
set_option linter.unusedVariables false

/-- The text within the braces. -/
def inr (s : ByteArray) : ByteArray := s.extract 1 (s.size - 1)
/-- There are braces. -/
def Br (s : ByteArray) : Prop := 2 ≤ s.size ∧ s.data.toList[0]? = some 123 ∧ s.data.toList[s.size - 1]? = some 125
def ps (s : ByteArray) : List ByteArray := if s.size ≤ 2 then [] else parts 44 (inr s)
theorem inr_size (s : ByteArray) (h : 2 ≤ s.size) : (inr s).size = s.size - 2 := by unfold inr; rw [ByteArray.size_extract]; omega
/-- A part at its one mark. -/
def kvD (p : ByteArray) : Lb := ((parts 61 p).getD 0 eX, (parts 61 p).getD 1 eX)
/-- A part at its first mark. -/
def cutD (p : ByteArray) : Lb := (p.extract 0 (Lib.indexByte p.data.toList 61).toNat, p.extract ((Lib.indexByte p.data.toList 61).toNat + 1) p.size)
open Classical in
noncomputable def rdRes (s : ByteArray) : Option (List Lb) := if Br s ∧ s.size ≤ 600 ∧ (∀ p ∈ ps s, (parts 61 p).length = 2) ∧ GoodL ((ps s).map kvD) then some ((ps s).map kvD) else none
open Classical in
noncomputable def imRes (s : ByteArray) : Option (List Lb) := if Br s ∧ (∀ p ∈ ps s, Lib.indexByte p.data.toList 61 ≠ -1) ∧ (ps s).length ≤ 6 ∧ GoodL ((ps s).map cutD) then some ((ps s).map cutD) else none

theorem idx_parts (c : UInt8) (p : ByteArray) : (Lib.indexByte p.data.toList c = -1 ∧ parts c p = [p]) ∨ ∃ i : Nat, Lib.indexByte p.data.toList c = i ∧ i < p.size ∧ parts c p = p.extract 0 i :: parts c (p.extract (i + 1) p.size) := by
  have hge := Lib.indexByte_ge p.data.toList c
  by_cases h : Lib.indexByte p.data.toList c = -1
  · exact .inl ⟨h, parts_none c p (Lib.indexByte_none h)⟩
  · obtain ⟨i, hi⟩ : ∃ i : Nat, Lib.indexByte p.data.toList c = i := ⟨(Lib.indexByte p.data.toList c).toNat, by omega⟩
    have hs := Lib.indexByte_some hi
    refine .inr ⟨i, hi, ?_, parts_cut c p i hs.2 hs.1⟩
    have hl := (List.getElem?_eq_some_iff.1 hs.1).1
    rw [Lib.size_eq]; exact hl
theorem word_no (s : ByteArray) (k : Nat) (h : s.data.toList[k]? = some 61) : ¬ Word true s := fun hw => by
  have hl := (List.getElem?_eq_some_iff.1 h).1
  have hk : k < s.size := by rw [Lib.size_eq]; exact hl
  have := hw.2 k hk
  rw [bts_at s k hk] at this
  have e : s[k]'hk = 61 := by
    have h2 := at_some s k hk
    rw [h] at h2
    simpa using h2.symm
  rw [e] at this
  unfold okB at this
  simp at this
theorem kv_cases (p : ByteArray) (h : Lib.indexByte p.data.toList 61 ≠ -1) : ((parts 61 p).length = 2 ∧ cutD p = kvD p) ∨ ((parts 61 p).length ≠ 2 ∧ ¬ okL (cutD p)) := by
  rcases idx_parts 61 p with ⟨h1, _⟩ | ⟨i, hi, hlt, hp⟩
  · exact absurd h1 h
  · have hc : cutD p = (p.extract 0 i, p.extract (i + 1) p.size) := by unfold cutD; rw [hi]; rfl
    rcases idx_parts 61 (p.extract (i + 1) p.size) with ⟨h1, h2⟩ | ⟨j, hj, hjl, hp2⟩
    · rw [h2] at hp
      refine .inl ⟨by rw [hp]; rfl, ?_⟩
      rw [hc]; unfold kvD; rw [hp]; rfl
    · refine .inr ⟨?_, fun ho => ?_⟩
      · rw [hp, hp2]
        have := List.length_pos_iff.2 (parts_ne 61 ((p.extract (i + 1) p.size).extract (j + 1) (p.extract (i + 1) p.size).size))
        simp only [List.length_cons]; omega
      · rw [hc] at ho
        exact word_no _ j (Lib.indexByte_some hj).1 ho.2
theorem getD_mapL (f : ByteArray → Lb) (l : List ByteArray) (j : Nat) (h : j < l.length) : (l.map f).getD j eL = f (l.getD j eX) := by
  simp [List.getD, List.getElem?_map, List.getElem?_eq_getElem h]
theorem good_each {f : ByteArray → Lb} {l : List ByteArray} (h : GoodL (l.map f)) : ∀ p ∈ l, okL (f p) := fun p hp => by
  obtain ⟨j, hj, rfl⟩ := List.getElem_of_mem hp
  have := (h.2 j (by simpa using hj)).1
  rw [getD_mapL f l j hj] at this
  simpa [List.getD, List.getElem?_eq_getElem hj] using this
theorem kv_two (p : ByteArray) (h : (parts 61 p).length = 2) : Lib.indexByte p.data.toList 61 ≠ -1 := fun e => by
  rw [parts_none 61 p (Lib.indexByte_none e)] at h
  simp at h
theorem map_same {l : List ByteArray} (h : ∀ p ∈ l, (parts 61 p).length = 2) : l.map cutD = l.map kvD :=
  List.map_congr_left fun p hp => by
    rcases kv_cases p (kv_two p (h p hp)) with h2 | h2
    · exact h2.2
    · exact absurd (h p hp) h2.1
theorem cut_size (p : ByteArray) (h : Lib.indexByte p.data.toList 61 ≠ -1) (ho : okL (cutD p)) : p.size ≤ 17 := by
  rcases idx_parts 61 p with ⟨h1, _⟩ | ⟨i, hi, hlt, hp⟩
  · exact absurd h1 h
  · have hc : cutD p = (p.extract 0 i, p.extract (i + 1) p.size) := by unfold cutD; rw [hi]; rfl
    rw [hc] at ho
    have h1 := ho.1.1.2
    have h2 := ho.2.1.2
    simp only [ByteArray.size_extract] at h1 h2
    omega
theorem sum_few : ∀ (l : List ByteArray), (∀ p ∈ l, p.size ≤ 17) → (l.map (fun p => p.size + 1)).sum ≤ 18 * l.length
  | [], _ => by simp
  | p :: l, h => by
    have ih := sum_few l (fun q hq => h q (List.mem_cons_of_mem _ hq))
    have := h p (List.mem_cons_self ..)
    simp only [List.map_cons, List.sum_cons, List.length_cons]; omega
theorem im_small (s : ByteArray) (hb : Br s) (h1 : ∀ p ∈ ps s, Lib.indexByte p.data.toList 61 ≠ -1) (h6 : (ps s).length ≤ 6) (hg : GoodL ((ps s).map cutD)) : s.size ≤ 600 := by
  by_cases h2 : s.size ≤ 2
  · omega
  · have hps : ps s = parts 44 (inr s) := by unfold ps; rw [if_neg h2]
    have hz := parts_size 44 (inr s)
    rw [← hps] at hz
    have := sum_few (ps s) (fun p hp => cut_size p (h1 p hp) (good_each hg p hp))
    rw [inr_size s hb.1] at hz
    omega
theorem im_rd (s : ByteArray) : imRes s = rdRes s := by
  unfold imRes rdRes
  by_cases hi : Br s ∧ (∀ p ∈ ps s, Lib.indexByte p.data.toList 61 ≠ -1) ∧ (ps s).length ≤ 6 ∧ GoodL ((ps s).map cutD)
  · obtain ⟨hb, h1, h6, hg⟩ := hi
    have h2 : ∀ p ∈ ps s, (parts 61 p).length = 2 := fun p hp => by
      rcases kv_cases p (h1 p hp) with h | h
      · exact h.1
      · exact absurd (good_each hg p hp) h.2
    have e := map_same h2
    rw [if_pos ⟨hb, h1, h6, hg⟩, if_pos ⟨hb, im_small s hb h1 h6 hg, h2, e ▸ hg⟩, e]
  · rw [if_neg hi, if_neg]
    rintro ⟨hb, _, h2, hg⟩
    have e := map_same h2
    refine hi ⟨hb, fun p hp => kv_two p (h2 p hp), ?_, by rw [e]; exact hg⟩
    have := hg.1
    simpa using this
theorem rd_len (s : ByteArray) : ((rdRes s).getD []).length ≤ 6 := by
  unfold rdRes
  split
  · rename_i h; exact h.2.2.2.1
  · simp
end Go.Proofs.YthagpceagifjnaaDoor.L3
