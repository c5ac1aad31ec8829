/-
  Lists of notes in memory: a bool, an int, an int and a text. Nothing of the program's text is proved here.
-/
import Derived.Test.YthmekhhfihjclagL1Sl
namespace Go.Proofs.Ythmekhhfihjclag.Nte
open Go.RowKit L1
set_option linter.unusedVariables false

abbrev Nt := Bool × Int × Int × ByteArray
abbrev e4 : Nt := (false, 0, 0, ByteArray.empty)
def Sl4 (w : World) (a : Option Addr) (l : List Nt) : Prop := ∀ i, i < l.length → ∃ b off, a = some ⟨b, off, none⟩ ∧ w.cell? ⟨b, off + i * 4, none⟩ = some (.bool (l.getD i e4).1) ∧ w.cell? ⟨b, off + i * 4 + 1, none⟩ = some (.int .i64 (l.getD i e4).2.1) ∧ w.cell? ⟨b, off + i * 4 + 2, none⟩ = some (.int .i64 (l.getD i e4).2.2.1) ∧ w.cell? ⟨b, off + i * 4 + 3, none⟩ = some (.string (l.getD i e4).2.2.2)
theorem Sl4.below {w w' : World} {a : Option Addr} {xs : List Nt} (h : Sl4 w a xs) (hb : Below w.heap.size w w') : Sl4 w' a xs := fun i hi => by
  obtain ⟨b, off, ha, hc, hd, he, hf⟩ := h i hi
  exact ⟨b, off, ha, (hb.cell (p := ⟨b, off + i * 4, none⟩) (blk_lt hc)).trans hc, (hb.cell (p := ⟨b, off + i * 4 + 1, none⟩) (blk_lt hd)).trans hd, (hb.cell (p := ⟨b, off + i * 4 + 2, none⟩) (blk_lt he)).trans he, (hb.cell (p := ⟨b, off + i * 4 + 3, none⟩) (blk_lt hf)).trans hf⟩
def Tx4 (l : List Nt) : Prop := ∀ j, j < l.length → (l.getD j e4).2.2.2.size ≤ 9223372036854775807
/-- What a walk is told of a slice that came in. -/
def IsRow4 (w : World) (a : Option Addr) (len : Nat) (l : List Nt) : Prop := (l.length = len ∧ len ≤ maxLen ∧ Sl4 w a l) ∧ Tx4 l
open Classical in
theorem row4_of {w : World} {a : Addr} {len cap : Nat} (hl : len ≤ cap) (hm : cap ≤ maxLen) (h : ∀ i, i < len → ∃ p : Nt, (w.cell? (a.add (i * 4)) = some (.bool p.1) ∧ w.cell? (a.add (i * 4 + 1)) = some (.int .i64 p.2.1) ∧ w.cell? (a.add (i * 4 + 2)) = some (.int .i64 p.2.2.1) ∧ w.cell? (a.add (i * 4 + 3)) = some (.string p.2.2.2)) ∧ p.2.2.2.size ≤ maxLen) : ∃ l, IsRow4 w (some a) len l := by
  have hc : ∃ f : Nat → Nt, ∀ i, i < len → (w.cell? (a.add (i * 4)) = some (.bool (f i).1) ∧ w.cell? (a.add (i * 4 + 1)) = some (.int .i64 (f i).2.1) ∧ w.cell? (a.add (i * 4 + 2)) = some (.int .i64 (f i).2.2.1) ∧ w.cell? (a.add (i * 4 + 3)) = some (.string (f i).2.2.2)) ∧ (f i).2.2.2.size ≤ maxLen := by
    refine ⟨fun i => if hi : i < len then Classical.choose (h i hi) else e4, fun i hi => ?_⟩
    simp only [dif_pos hi]
    exact Classical.choose_spec (h i hi)
  obtain ⟨f, hf⟩ := hc
  have hg : ∀ i, i < len → ((List.range len).map f).getD i e4 = f i := fun i hi' => by simp [List.getD, hi']
  refine ⟨(List.range len).map f, ⟨by simp, Nat.le_trans hl hm, fun i hi => ?_⟩, fun j hj => ?_⟩
  · have hi' : i < len := by simpa using hi
    obtain ⟨b, off, spot⟩ := a
    have hspot : spot = none := by
      have h00 := (hf 0 (by omega)).1.1
      have := World.cell?_spot h00
      simpa [Addr.add] using this
    subst hspot
    have e0 : ∀ j, (⟨b, off, none⟩ : Addr).add j = ⟨b, off + j, none⟩ := fun j => by unfold Addr.add; split <;> simp_all
    have := (hf i hi').1
    rw [e0, e0, e0, e0] at this
    rw [hg i hi']
    exact ⟨b, off, rfl, this.1, this.2.1, this.2.2.1, this.2.2.2⟩
  · have hj' : j < len := by simpa using hj
    rw [hg j hj']
    have := (hf j hj').2
    unfold maxLen at this
    omega
/-- The cells, one behind the other. -/
def flat4 : List Nt → List Value
  | [] => []
  | p :: l => .bool p.1 :: .int .i64 p.2.1 :: .int .i64 p.2.2.1 :: .string p.2.2.2 :: flat4 l
theorem flat4_len : ∀ l : List Nt, (flat4 l).length = l.length * 4
  | [] => rfl
  | p :: l => by simp [flat4, flat4_len l]; omega
theorem flat4_get : ∀ (l : List Nt) (i : Nat), i < l.length → (flat4 l)[i * 4]? = some (.bool (l.getD i e4).1) ∧ (flat4 l)[i * 4 + 1]? = some (.int .i64 (l.getD i e4).2.1) ∧ (flat4 l)[i * 4 + 2]? = some (.int .i64 (l.getD i e4).2.2.1) ∧ (flat4 l)[i * 4 + 3]? = some (.string (l.getD i e4).2.2.2)
  | [], i, h => by simp at h
  | p :: l, 0, _ => ⟨rfl, rfl, rfl, rfl⟩
  | p :: l, i + 1, h => by
    have := flat4_get l i (by simpa using h)
    have e1 : (i + 1) * 4 = i * 4 + 1 + 1 + 1 + 1 := by omega
    rw [e1]
    simpa only [flat4, List.getElem?_cons_succ, List.getD_cons_succ] using this
theorem flat4_append (l m : List Nt) : flat4 (l ++ m) = flat4 l ++ flat4 m := by
  induction l with
  | nil => rfl
  | cons p l ih => simp [flat4, ih]
theorem flat4_one (l : List Nt) : ∀ u ∈ flat4 l, u.oneCell' = true := by
  induction l with
  | nil => intro u hu; cases hu
  | cons p l ih =>
    intro u hu
    simp only [flat4, List.mem_cons] at hu
    rcases hu with rfl | rfl | rfl | rfl | hu
    · rfl
    · rfl
    · rfl
    · rfl
    · exact ih u hu
theorem flat4_set : ∀ (l : List Nt) (i : Nat) (p : Nt), flat4 (l.set i p) = ((((flat4 l).set (i * 4) (.bool p.1)).set (i * 4 + 1) (.int .i64 p.2.1)).set (i * 4 + 2) (.int .i64 p.2.2.1)).set (i * 4 + 3) (.string p.2.2.2)
  | [], _, _ => rfl
  | q :: l, 0, p => rfl
  | q :: l, i + 1, p => by
    have := flat4_set l i p
    have e1 : (i + 1) * 4 = i * 4 + 1 + 1 + 1 + 1 := by omega
    rw [e1]
    simp only [List.set_cons_succ, flat4, this]
theorem own_form4 {w : World} {base n : Nat} {t : TypeId} {v : Value} {l : List Nt} (h : w.ownsRow base t 4 v n (flat4 l)) : ∃ a cap, v = .slice a n cap ∧ Sl4 w a l ∧ l.length = n := by
  have hl := h.1
  rw [flat4_len] at hl
  have hl' : l.length = n := by omega
  rcases h.2 with ⟨hv, h0⟩ | ⟨g, cap, cur, hv, _⟩
  · subst h0
    exact ⟨none, 0, hv, fun i hi => by omega, hl'⟩
  · subst hv
    refine ⟨_, cap, rfl, fun i hi => ?_, hl'⟩
    have hf := flat4_get l i hi
    have h1 := h.cells (g := g) rfl (i * 4) _ hf.1
    have h2 := h.cells (g := g) rfl (i * 4 + 1) _ hf.2.1
    have h3 := h.cells (g := g) rfl (i * 4 + 2) _ hf.2.2.1
    have h4 := h.cells (g := g) rfl (i * 4 + 3) _ hf.2.2.2
    rw [addr_add] at h1 h2 h3 h4
    exact ⟨g, 0, rfl, by simpa using h1, by simpa using h2, by simpa using h3, by simpa using h4⟩
theorem own_sl4 {w : World} {base n cap : Nat} {t : TypeId} {a : Option Addr} {l : List Nt} (h : w.ownsRow base t 4 (.slice a n cap) n (flat4 l)) : Sl4 w a l := by
  obtain ⟨b, q, e, s, _⟩ := own_form4 h
  cases e
  exact s
theorem own_below4 {w w' : World} {base n : Nat} {t : TypeId} {c : Nat} {v : Value} {ys : List Value} (h : w.ownsRow base t c v n ys) (hb : Below w.heap.size w w') : w'.ownsRow base t c v n ys := by
  refine ⟨h.1, ?_⟩
  rcases h.2 with h0 | ⟨g, cap, cur, rfl, hbg, hg, r⟩
  · exact .inl h0
  · exact .inr ⟨g, cap, cur, rfl, hbg, by rw [hb.block g (Array.getElem?_eq_some_iff.1 hg).1]; exact hg, r⟩
theorem list_same4 {xs ys : List Nt} {m : Nat} (h1 : xs.length = m) (h2 : ys.length = m) (h : ∀ j, j < m → ys.getD j e4 = xs.getD j e4) : ys = xs := by
  apply List.ext_getElem?
  intro j
  by_cases hj : j < m
  · have h := h j hj
    simp only [List.getD, List.getElem?_eq_getElem (show j < ys.length by omega), List.getElem?_eq_getElem (show j < xs.length by omega), Option.getD_some] at h
    rw [List.getElem?_eq_getElem (show j < ys.length by omega), List.getElem?_eq_getElem (show j < xs.length by omega), h]
  · rw [List.getElem?_eq_none (by omega), List.getElem?_eq_none (by omega)]
theorem made_4 (n : Nat) : (madeCells (Value.agg #[.bool false, .int .i64 0, .int .i64 0, .string ByteArray.empty]).cells (n * 4)).toList = flat4 (List.replicate n e4) := by
  apply List.ext_getElem?
  intro j
  by_cases hj : j < n * 4
  · have hi : j / 4 < (List.replicate n e4).length := by simp; omega
    have hf := flat4_get (List.replicate n e4) (j / 4) hi
    have hg : (List.replicate n e4).getD (j / 4) e4 = e4 := by
      simp [List.getD, List.getElem?_replicate]; split <;> rfl
    rw [hg] at hf
    have hm : (madeCells (Value.agg #[.bool false, .int .i64 0, .int .i64 0, .string ByteArray.empty]).cells (n * 4)).toList[j]? = some (if j % 4 = 0 then .bool false else if j % 4 = 3 then .string ByteArray.empty else .int .i64 0) := by
      simp only [madeCells, Value.cells, Array.toList_map, Array.toList_range, List.getElem?_map]
      rw [List.getElem?_range hj]
      simp only [Option.map_some, List.size_toArray, List.length_cons, List.length_nil]
      have h01 : j % 4 = 0 ∨ j % 4 = 1 ∨ j % 4 = 2 ∨ j % 4 = 3 := by omega
      rcases h01 with h | h | h | h <;> simp [h]
    rw [hm]
    have h01 : j % 4 = 0 ∨ j % 4 = 1 ∨ j % 4 = 2 ∨ j % 4 = 3 := by omega
    rcases h01 with h | h | h | h
    · rw [if_pos h, show j = j / 4 * 4 by omega]; exact hf.1.symm
    · rw [if_neg (by omega), if_neg (by omega), show j = j / 4 * 4 + 1 by omega]; exact hf.2.1.symm
    · rw [if_neg (by omega), if_neg (by omega), show j = j / 4 * 4 + 2 by omega]; exact hf.2.2.1.symm
    · rw [if_neg (by omega), if_pos h, show j = j / 4 * 4 + 3 by omega]; exact hf.2.2.2.symm
  · rw [List.getElem?_eq_none (by simp [size_madeCells]; omega), List.getElem?_eq_none (by rw [flat4_len]; simp; omega)]
/-- The lengths of all texts. -/
def szs4 : List Nt → Nat
  | [] => 0
  | p :: l => p.2.2.2.size + szs4 l
theorem szs4_append : ∀ l m : List Nt, szs4 (l ++ m) = szs4 l + szs4 m
  | [], m => by simp [szs4]
  | p :: l, m => by simp [szs4, szs4_append l m]; omega
theorem szs4_take (l : List Nt) (k : Nat) (hk : k < l.length) : szs4 (l.take (k + 1)) = szs4 (l.take k) + (l.getD k e4).2.2.2.size := by
  rw [List.take_succ_eq_append_getElem hk, szs4_append]
  simp [szs4, List.getD, List.getElem?_eq_getElem hk]
theorem szs4_le (l : List Nt) (k : Nat) : szs4 (l.take k) ≤ szs4 l := by
  have h : l = l.take k ++ l.drop k := (List.take_append_drop k l).symm
  have := szs4_append (l.take k) (l.drop k)
  rw [← h] at this
  omega
theorem szs4_get : ∀ (l : List Nt) (k : Nat), k < l.length → (l.getD k e4).2.2.2.size ≤ szs4 l
  | [], k, h => by simp at h
  | p :: l, 0, _ => by simp [szs4]
  | p :: l, k + 1, h => by
    have := szs4_get l k (by simpa using h)
    simp only [List.getD_cons_succ, szs4]
    omega
/-- What a list weighs. -/
def wt4 (l : List Nt) : Nat := l.length + szs4 l
end Go.Proofs.Ythmekhhfihjclag.Nte
