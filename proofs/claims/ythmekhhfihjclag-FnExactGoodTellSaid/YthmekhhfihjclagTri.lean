/-
  Lists of structs of an int, an int and a text in memory. Nothing of the program's text is proved here.
-/
import Derived.Test.YthmekhhfihjclagL1Sl
namespace Go.Proofs.Ythmekhhfihjclag.Tri
open Go.RowKit L1
set_option linter.unusedVariables false
abbrev Tr := Int × Int × ByteArray
abbrev e3 : Tr := (0, 0, ByteArray.empty)
def Sl3 (w : World) (a : Option Addr) (l : List Tr) : Prop := ∀ i, i < l.length → ∃ b off, a = some ⟨b, off, none⟩ ∧ w.cell? ⟨b, off + i * 3, none⟩ = some (.int .i64 (l.getD i e3).1) ∧ w.cell? ⟨b, off + i * 3 + 1, none⟩ = some (.int .i64 (l.getD i e3).2.1) ∧ w.cell? ⟨b, off + i * 3 + 2, none⟩ = some (.string (l.getD i e3).2.2)
theorem Sl3.below {w w' : World} {a : Option Addr} {xs : List Tr} (h : Sl3 w a xs) (hb : Below w.heap.size w w') : Sl3 w' a xs := fun i hi => by
  obtain ⟨b, off, ha, hc, hd, he⟩ := h i hi
  exact ⟨b, off, ha, (hb.cell (p := ⟨b, off + i * 3, none⟩) (blk_lt hc)).trans hc, (hb.cell (p := ⟨b, off + i * 3 + 1, none⟩) (blk_lt hd)).trans hd, (hb.cell (p := ⟨b, off + i * 3 + 2, none⟩) (blk_lt he)).trans he⟩
def Tx3 (l : List Tr) : Prop := ∀ j, j < l.length → (l.getD j e3).2.2.size ≤ 9223372036854775807
/-- What a walk is told of a slice that came in. -/
def IsRow3 (w : World) (a : Option Addr) (len : Nat) (l : List Tr) : Prop := (l.length = len ∧ len ≤ maxLen ∧ Sl3 w a l) ∧ Tx3 l
open Classical in
theorem row3_of {w : World} {a : Addr} {len cap : Nat} (hl : len ≤ cap) (hm : cap ≤ maxLen) (h : ∀ i, i < len → ∃ p : Tr, (w.cell? (a.add (i * 3)) = some (.int .i64 p.1) ∧ w.cell? (a.add (i * 3 + 1)) = some (.int .i64 p.2.1) ∧ w.cell? (a.add (i * 3 + 2)) = some (.string p.2.2)) ∧ p.2.2.size ≤ maxLen) : ∃ l, IsRow3 w (some a) len l := by
  have hc : ∃ f : Nat → Tr, ∀ i, i < len → (w.cell? (a.add (i * 3)) = some (.int .i64 (f i).1) ∧ w.cell? (a.add (i * 3 + 1)) = some (.int .i64 (f i).2.1) ∧ w.cell? (a.add (i * 3 + 2)) = some (.string (f i).2.2)) ∧ (f i).2.2.size ≤ maxLen := by
    refine ⟨fun i => if hi : i < len then Classical.choose (h i hi) else e3, fun i hi => ?_⟩
    simp only [dif_pos hi]
    exact Classical.choose_spec (h i hi)
  obtain ⟨f, hf⟩ := hc
  have hg : ∀ i, i < len → ((List.range len).map f).getD i e3 = f i := fun i hi' => by simp [List.getD, hi']
  refine ⟨(List.range len).map f, ⟨by simp, Nat.le_trans hl hm, fun i hi => ?_⟩, fun j hj => ?_⟩
  · have hi' : i < len := by simpa using hi
    obtain ⟨b, off, spot⟩ := a
    have hspot : spot = none := by
      have h00 := (hf 0 (by omega)).1.1
      have := World.cell?_spot h00
      simpa [Addr.add] using this
    subst hspot
    have e0 : ∀ j, (⟨b, off, none⟩ : Addr).add j = ⟨b, off + j, none⟩ := fun j => by unfold Addr.add; split <;> simp_all
    have := (hf i hi').1
    rw [e0, e0, e0] at this
    rw [hg i hi']
    exact ⟨b, off, rfl, this.1, this.2.1, this.2.2⟩
  · have hj' : j < len := by simpa using hj
    rw [hg j hj']
    have := (hf j hj').2
    unfold maxLen at this
    omega
/-- The cells, one behind the other. -/
def flat3 : List Tr → List Value
  | [] => []
  | p :: l => .int .i64 p.1 :: .int .i64 p.2.1 :: .string p.2.2 :: flat3 l
theorem flat3_len : ∀ l : List Tr, (flat3 l).length = l.length * 3
  | [] => rfl
  | p :: l => by simp [flat3, flat3_len l]; omega
theorem flat3_get : ∀ (l : List Tr) (i : Nat), i < l.length → (flat3 l)[i * 3]? = some (.int .i64 (l.getD i e3).1) ∧ (flat3 l)[i * 3 + 1]? = some (.int .i64 (l.getD i e3).2.1) ∧ (flat3 l)[i * 3 + 2]? = some (.string (l.getD i e3).2.2)
  | [], i, h => by simp at h
  | p :: l, 0, _ => ⟨rfl, rfl, rfl⟩
  | p :: l, i + 1, h => by
    have := flat3_get l i (by simpa using h)
    have e1 : (i + 1) * 3 = i * 3 + 1 + 1 + 1 := by omega
    rw [e1]
    simpa only [flat3, List.getElem?_cons_succ, List.getD_cons_succ] using this
theorem flat3_append (l m : List Tr) : flat3 (l ++ m) = flat3 l ++ flat3 m := by
  induction l with
  | nil => rfl
  | cons p l ih => simp [flat3, ih]
theorem flat3_one (l : List Tr) : ∀ u ∈ flat3 l, u.oneCell' = true := by
  induction l with
  | nil => intro u hu; cases hu
  | cons p l ih =>
    intro u hu
    simp only [flat3, List.mem_cons] at hu
    rcases hu with rfl | rfl | rfl | hu
    · rfl
    · rfl
    · rfl
    · exact ih u hu
theorem flat3_set : ∀ (l : List Tr) (i : Nat) (p : Tr), flat3 (l.set i p) = (((flat3 l).set (i * 3) (.int .i64 p.1)).set (i * 3 + 1) (.int .i64 p.2.1)).set (i * 3 + 2) (.string p.2.2)
  | [], _, _ => rfl
  | q :: l, 0, p => rfl
  | q :: l, i + 1, p => by
    have := flat3_set l i p
    have e1 : (i + 1) * 3 = i * 3 + 1 + 1 + 1 := by omega
    rw [e1]
    simp only [List.set_cons_succ, flat3, this]
theorem own_form3 {w : World} {base n : Nat} {t : TypeId} {v : Value} {l : List Tr} (h : w.ownsRow base t 3 v n (flat3 l)) : ∃ a cap, v = .slice a n cap ∧ Sl3 w a l ∧ l.length = n := by
  have hl := h.1
  rw [flat3_len] at hl
  have hl' : l.length = n := by omega
  rcases h.2 with ⟨hv, h0⟩ | ⟨g, cap, cur, hv, _⟩
  · subst h0
    exact ⟨none, 0, hv, fun i hi => by omega, hl'⟩
  · subst hv
    refine ⟨_, cap, rfl, fun i hi => ?_, hl'⟩
    have hf := flat3_get l i hi
    have h1 := h.cells (g := g) rfl (i * 3) _ hf.1
    have h2 := h.cells (g := g) rfl (i * 3 + 1) _ hf.2.1
    have h3 := h.cells (g := g) rfl (i * 3 + 2) _ hf.2.2
    rw [addr_add] at h1 h2 h3
    exact ⟨g, 0, rfl, by simpa using h1, by simpa using h2, by simpa using h3⟩
theorem own_sl3 {w : World} {base n cap : Nat} {t : TypeId} {a : Option Addr} {l : List Tr} (h : w.ownsRow base t 3 (.slice a n cap) n (flat3 l)) : Sl3 w a l := by
  obtain ⟨b, q, e, s, _⟩ := own_form3 h
  cases e
  exact s
theorem own_below3 {w w' : World} {base n : Nat} {t : TypeId} {c : Nat} {v : Value} {ys : List Value} (h : w.ownsRow base t c v n ys) (hb : Below w.heap.size w w') : w'.ownsRow base t c v n ys := by
  refine ⟨h.1, ?_⟩
  rcases h.2 with h0 | ⟨g, cap, cur, rfl, hbg, hg, r⟩
  · exact .inl h0
  · exact .inr ⟨g, cap, cur, rfl, hbg, by rw [hb.block g (Array.getElem?_eq_some_iff.1 hg).1]; exact hg, r⟩
theorem list_same3 {xs ys : List Tr} {m : Nat} (h1 : xs.length = m) (h2 : ys.length = m) (h : ∀ j, j < m → ys.getD j e3 = xs.getD j e3) : ys = xs := by
  apply List.ext_getElem?
  intro j
  by_cases hj : j < m
  · have h := h j hj
    simp only [List.getD, List.getElem?_eq_getElem (show j < ys.length by omega), List.getElem?_eq_getElem (show j < xs.length by omega), Option.getD_some] at h
    rw [List.getElem?_eq_getElem (show j < ys.length by omega), List.getElem?_eq_getElem (show j < xs.length by omega), h]
  · rw [List.getElem?_eq_none (by omega), List.getElem?_eq_none (by omega)]
theorem made_3 (n : Nat) : (madeCells (Value.agg #[.int .i64 0, .int .i64 0, .string ByteArray.empty]).cells (n * 3)).toList = flat3 (List.replicate n e3) := by
  apply List.ext_getElem?
  intro j
  by_cases hj : j < n * 3
  · have hi : j / 3 < (List.replicate n e3).length := by simp; omega
    have hf := flat3_get (List.replicate n e3) (j / 3) hi
    have hg : (List.replicate n e3).getD (j / 3) e3 = e3 := by
      simp [List.getD, List.getElem?_replicate]; split <;> rfl
    rw [hg] at hf
    have hm : (madeCells (Value.agg #[.int .i64 0, .int .i64 0, .string ByteArray.empty]).cells (n * 3)).toList[j]? = some (if j % 3 = 2 then .string ByteArray.empty else .int .i64 0) := by
      simp only [madeCells, Value.cells, Array.toList_map, Array.toList_range, List.getElem?_map]
      rw [List.getElem?_range hj]
      simp only [Option.map_some, List.size_toArray, List.length_cons, List.length_nil]
      have h01 : j % 3 = 0 ∨ j % 3 = 1 ∨ j % 3 = 2 := by omega
      rcases h01 with h | h | h <;> simp [h]
    rw [hm]
    have h01 : j % 3 = 0 ∨ j % 3 = 1 ∨ j % 3 = 2 := by omega
    rcases h01 with h | h | h
    · rw [if_neg (by omega), show j = j / 3 * 3 by omega]; exact hf.1.symm
    · rw [if_neg (by omega), show j = j / 3 * 3 + 1 by omega]; exact hf.2.1.symm
    · rw [if_pos h, show j = j / 3 * 3 + 2 by omega]; exact hf.2.2.symm
  · rw [List.getElem?_eq_none (by simp [size_madeCells]; omega), List.getElem?_eq_none (by rw [flat3_len]; simp; omega)]
/-- The lengths of all texts. -/
def szs3 : List Tr → Nat
  | [] => 0
  | p :: l => p.2.2.size + szs3 l
theorem szs3_append : ∀ l m : List Tr, szs3 (l ++ m) = szs3 l + szs3 m
  | [], m => by simp [szs3]
  | p :: l, m => by simp [szs3, szs3_append l m]; omega
theorem szs3_take (l : List Tr) (k : Nat) (hk : k < l.length) : szs3 (l.take (k + 1)) = szs3 (l.take k) + (l.getD k e3).2.2.size := by
  rw [List.take_succ_eq_append_getElem hk, szs3_append]
  simp [szs3, List.getD, List.getElem?_eq_getElem hk]
theorem szs3_le (l : List Tr) (k : Nat) : szs3 (l.take k) ≤ szs3 l := by
  have h : l = l.take k ++ l.drop k := (List.take_append_drop k l).symm
  have := szs3_append (l.take k) (l.drop k)
  rw [← h] at this
  omega
theorem szs3_get : ∀ (l : List Tr) (k : Nat), k < l.length → (l.getD k e3).2.2.size ≤ szs3 l
  | [], k, h => by simp at h
  | p :: l, 0, _ => by simp [szs3]
  | p :: l, k + 1, h => by
    have := szs3_get l k (by simpa using h)
    simp only [List.getD_cons_succ, szs3]
    omega
/-- What a list weighs. -/
def wt3 (l : List Tr) : Nat := l.length + szs3 l
end Go.Proofs.Ythmekhhfihjclag.Tri
