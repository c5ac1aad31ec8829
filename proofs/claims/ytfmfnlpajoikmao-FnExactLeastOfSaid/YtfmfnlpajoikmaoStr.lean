/-
  Lists of texts in memory. Nothing of the program's text is proved here but closed facts on its types.
-/
import Derived.Test.YtfmfnlpajoikmaoL1Sl
namespace Go.Proofs.Ytfmfnlpajoikmao.Str
open Go.RowKit L1
set_option linter.unusedVariables false

theorem info_strS : (Try.prog.info? 9).map (fun i => (i.zero, i.size, i.bytes)) = some (some (.string ByteArray.empty), 1, 16) := by kernel_rfl
abbrev e0 : ByteArray := ByteArray.empty
/-- A list of texts lies in memory. -/
def SlS (w : World) (a : Option Addr) (xs : List ByteArray) : Prop := ∀ i, i < xs.length → ∃ b off, a = some ⟨b, off, none⟩ ∧ w.cell? ⟨b, off + i, none⟩ = some (.string (xs.getD i e0))
theorem SlS.below {w w' : World} {a : Option Addr} {xs : List ByteArray} (h : SlS w a xs) (hb : Below w.heap.size w w') : SlS w' a xs := fun i hi => by
  obtain ⟨b, off, ha, hc⟩ := h i hi
  exact ⟨b, off, ha, (hb.cell (p := ⟨b, off + i, none⟩) (blk_lt hc)).trans hc⟩
abbrev mapS (xs : List ByteArray) : List Value := xs.map Value.string
theorem mapS_get (xs : List ByteArray) (i : Nat) (h : i < xs.length) : (mapS xs)[i]? = some (.string (xs.getD i e0)) := by
  rw [List.getElem?_map, List.getElem?_eq_getElem h]
  simp [List.getD, List.getElem?_eq_getElem h]
theorem mapS_len (xs : List ByteArray) : (mapS xs).length = xs.length := by simp
theorem mapS_set (xs : List ByteArray) (j : Nat) (x : ByteArray) : mapS (xs.set j x) = (mapS xs).set j (.string x) := by simp [List.map_set]
theorem mapS_one (xs : List ByteArray) : ∀ u ∈ mapS xs, u.oneCell' = true := fun u hu => by
  obtain ⟨x, _, rfl⟩ := List.mem_map.1 hu
  rfl
theorem own_formS {w : World} {base n : Nat} {v : Value} {xs : List ByteArray} (h : w.ownsRow base 9 1 v n (mapS xs)) : ∃ a cap, v = .slice a n cap ∧ SlS w a xs ∧ xs.length = n := by
  have hl := h.1
  simp at hl
  rcases h.2 with ⟨hv, h0⟩ | ⟨g, cap, cur, hv, _⟩
  · subst h0
    exact ⟨none, 0, hv, fun i hi => by omega, hl⟩
  · subst hv
    refine ⟨_, cap, rfl, fun i hi => ?_, hl⟩
    have := h.cells (g := g) rfl i _ (mapS_get xs i hi)
    rw [addr_add] at this
    exact ⟨g, 0, rfl, by simpa using this⟩
theorem own_slS {w : World} {base n cap : Nat} {a : Option Addr} {xs : List ByteArray} (h : w.ownsRow base 9 1 (.slice a n cap) n (mapS xs)) : SlS w a xs := by
  obtain ⟨b, q, e, s, _⟩ := own_formS h
  cases e
  exact s
theorem own_belowS {w w' : World} {base n : Nat} {t : TypeId} {c : Nat} {v : Value} {ys : List Value} (h : w.ownsRow base t c v n ys) (hb : Below w.heap.size w w') : w'.ownsRow base t c v n ys := by
  refine ⟨h.1, ?_⟩
  rcases h.2 with h0 | ⟨g, cap, cur, rfl, hbg, hg, r⟩
  · exact .inl h0
  · exact .inr ⟨g, cap, cur, rfl, hbg, by rw [hb.block g (Array.getElem?_eq_some_iff.1 hg).1]; exact hg, r⟩
theorem own_baseS {w : World} {b c n size : Nat} {e : TypeId} {v : Value} {xs : List Value} (h : w.ownsRow c e size v n xs) (hbc : b ≤ c) : w.ownsRow b e size v n xs := by
  refine ⟨h.1, ?_⟩
  rcases h.2 with h0 | ⟨g, cap, cur, hv, hg, r⟩
  · exact .inl h0
  · exact .inr ⟨g, cap, cur, hv, Nat.le_trans hbc hg, r⟩
theorem list_sameS {xs ys : List ByteArray} {n : Nat} (h1 : xs.length = n) (h2 : ys.length = n) (h : ∀ t, t < n → ys.getD t e0 = xs.getD t e0) : ys = xs := by
  apply List.ext_getElem (by omega)
  intro i hi1 hi2
  have := h i (by omega)
  simp [List.getD, List.getElem?_eq_getElem hi1, List.getElem?_eq_getElem hi2] at this
  exact this
def TxS (l : List ByteArray) : Prop := ∀ j, j < l.length → (l.getD j e0).size ≤ 9223372036854775807
/-- What a walk is told of a slice of texts that came in. -/
def IsRowS (w : World) (a : Option Addr) (len : Nat) (l : List ByteArray) : Prop := (l.length = len ∧ len ≤ maxLen ∧ SlS w a l) ∧ TxS l
open Classical in
theorem rowS_of {w : World} {a : Addr} {len cap : Nat} (hl : len ≤ cap) (hm : cap ≤ maxLen) (h : ∀ i, i < len → ∃ p : ByteArray, w.cell? (a.add i) = some (.string p) ∧ p.size ≤ maxLen) : ∃ l, IsRowS w (some a) len l := by
  have hc : ∃ f : Nat → ByteArray, ∀ i, i < len → w.cell? (a.add i) = some (.string (f i)) ∧ (f i).size ≤ maxLen := by
    refine ⟨fun i => if hi : i < len then Classical.choose (h i hi) else e0, fun i hi => ?_⟩
    simp only [dif_pos hi]
    exact Classical.choose_spec (h i hi)
  obtain ⟨f, hf⟩ := hc
  have hg : ∀ i, i < len → ((List.range len).map f).getD i e0 = f i := fun i hi' => by simp [List.getD, hi']
  refine ⟨(List.range len).map f, ⟨by simp, Nat.le_trans hl hm, fun i hi => ?_⟩, fun j hj => ?_⟩
  · have hi' : i < len := by simpa using hi
    obtain ⟨b, off, spot⟩ := a
    have hspot : spot = none := by
      have h00 := (hf 0 (by omega)).1
      have := World.cell?_spot h00
      simpa [Addr.add] using this
    subst hspot
    have e0 : ∀ j, (⟨b, off, none⟩ : Addr).add j = ⟨b, off + j, none⟩ := fun j => by unfold Addr.add; split <;> simp_all
    have := (hf i hi').1
    rw [e0] at this
    rw [hg i hi']
    exact ⟨b, off, rfl, this⟩
  · have hj' : j < len := by simpa using hj
    rw [hg j hj']
    have := (hf j hj').2
    unfold maxLen at this
    omega
theorem made_S (n : Nat) : (madeCells (Value.string ByteArray.empty).cells (n * 1)).toList = mapS (List.replicate n e0) := by
  apply List.ext_getElem?
  intro j
  by_cases hj : j < n
  · rw [mapS_get _ _ (by simpa using hj)]
    simp only [madeCells, Value.cells, Array.toList_map, Array.toList_range, List.getElem?_map]
    rw [List.getElem?_range (by omega)]
    have hg : (List.replicate n e0).getD j e0 = e0 := by simp [List.getD, hj]
    rw [hg]
    simp [Nat.mod_one]
  · rw [List.getElem?_eq_none (by simp [size_madeCells]; omega), List.getElem?_eq_none (by simp; omega)]
/-- The lengths of all texts. -/
def szsS : List ByteArray → Nat
  | [] => 0
  | p :: l => p.size + szsS l
theorem szsS_append : ∀ l m : List ByteArray, szsS (l ++ m) = szsS l + szsS m
  | [], m => by simp [szsS]
  | p :: l, m => by simp [szsS, szsS_append l m]; omega
theorem szsS_take (l : List ByteArray) (k : Nat) (hk : k < l.length) : szsS (l.take (k + 1)) = szsS (l.take k) + (l.getD k e0).size := by
  rw [List.take_succ_eq_append_getElem hk, szsS_append]
  simp [szsS, List.getD, List.getElem?_eq_getElem hk]
theorem szsS_le (l : List ByteArray) (k : Nat) : szsS (l.take k) ≤ szsS l := by
  have h : l = l.take k ++ l.drop k := (List.take_append_drop k l).symm
  have := szsS_append (l.take k) (l.drop k)
  rw [← h] at this
  omega
theorem szsS_get : ∀ (l : List ByteArray) (k : Nat), k < l.length → (l.getD k e0).size ≤ szsS l
  | [], k, h => by simp at h
  | p :: l, 0, _ => by simp [szsS]
  | p :: l, k + 1, h => by
    have := szsS_get l k (by simpa using h)
    simp only [List.getD_cons_succ, szsS]
    omega
/-- What a list weighs. -/
def wtS (l : List ByteArray) : Nat := l.length + szsS l
end Go.Proofs.Ytfmfnlpajoikmao.Str
