/-
  Between two vocabularies: a row that a call owns, and the row that the library's sort leaves. Nothing of the program's text is proved here.
-/
import Derived.Shelf.SlSortCmp.NoneTotal
import Derived.Test.YthagpceagifjnaaDoorL3Lab
namespace Go.Proofs.YthagpceagifjnaaDoor.L3
open Go.Shelf Go.RowKit Go.Sort L1
set_option linter.unusedVariables false

theorem heap_sortedV {w : World} {g n : Nat} {os : Array Obj} {cur : Array Value} {e : TypeId} {fr : Nat × Nat} (F : Array Value) (hb : w.heap[g]? = some (.cells cur e fr)) :
    (grow (putRow id (Sort.ahead w n) g 0 F) os).heap[g]? = some (.cells (putCells id 0 F cur) e fr) := by
  have hg : g < w.heap.size := (Array.getElem?_eq_some_iff.1 hb).1
  rw [heap_grow_old _ _ (by simpa using hg)]
  simp [putRow, mapBlock, Sort.ahead, Array.getElem?_modify, hb, onCells]
theorem grownBy_sortedV {w : World} {g n : Nat} {os : Array Obj} (F : Array Value) : w.grownBy (grow (putRow id (Sort.ahead w n) g 0 F) os) (some g) := by
  refine ⟨rfl, rfl, rfl, by simp, fun k hk hne => ?_⟩
  rw [heap_grow_old _ _ (by simpa using hk)]
  have : g ≠ k := fun e => hne (by rw [e])
  simp [putRow, mapBlock, Sort.ahead, Array.getElem?_modify, this]
theorem take_putCellsV (cur F : Array Value) (h : F.size ≤ cur.size) : (putCells id 0 F cur).toList.take F.size = F.toList := by
  apply List.ext_getElem?
  intro j
  by_cases hj : j < F.size
  · rw [List.getElem?_take_of_lt hj, Array.getElem?_toList, Array.getElem?_toList]
    simp [putCells, hj, show j < cur.size by omega]
  · rw [List.getElem?_take_eq_none (by omega), List.getElem?_eq_none (by simp; omega)]
theorem holds_of_blockV {w : World} {g : Nat} {cur : Array Value} {e : TypeId} {F : Array Value} (hb : w.heap[g]? = some (.cells cur e (0, 0))) (ht : cur.toList.take F.size = F.toList) : Holds id w g 0 F := by
  intro j hj
  refine ⟨?_, by simp [World.frozen?, hb]⟩
  have h1 : (cur.toList.take F.size)[j]? = F.toList[j]? := by rw [ht]
  rw [List.getElem?_take_of_lt hj] at h1
  simp only [World.cell?, hb, Nat.zero_add]
  simp only [Option.isSome_none, Bool.false_eq_true, if_false]
  rw [← Array.getElem?_toList, h1, Array.getElem?_toList]
  simp [hj]
/-- A row that a call owns, sorted: it owns what the sort left. -/
theorem owns_sorted {w : World} {base g n cap k : Nat} {e : TypeId} {xs : List Value} {F : Array Value} {m : Nat} {os : Array Obj} (h : w.ownsRow base e k (.slice (some ⟨g, 0, none⟩) n cap) n xs) (hF : F.size = n * k) :
    (grow (putRow id (Sort.ahead w m) g 0 F) os).ownsRow base e k (.slice (some ⟨g, 0, none⟩) n cap) n F.toList := by
  rcases h.2 with ⟨hv, _⟩ | ⟨g', cap', cur, hv, hbase, hb, h1, h2, h3, h4⟩
  · cases hv
  · cases hv
    refine ⟨by simp [hF], .inr ⟨g, cap, _, rfl, hbase, heap_sortedV F hb, h1, h2, by simp [putCells, h3], ?_⟩⟩
    rw [← hF]
    refine take_putCellsV cur F ?_
    rw [hF, h3]
    exact Nat.mul_le_mul_right k h1
theorem holds_owned {w : World} {base g n cap k : Nat} {e : TypeId} {F : Array Value} (h : w.ownsRow base e k (.slice (some ⟨g, 0, none⟩) n cap) n F.toList) (hF : F.size = n * k) : Holds id w g 0 F := by
  rcases h.2 with ⟨hv, _⟩ | ⟨g', cap', cur, hv, hbase, hb, h1, h2, h3, h4⟩
  · cases hv
  · cases hv
    exact holds_of_blockV hb (by rw [hF]; exact h4)
/-- The cells of a list whose elements take two. -/
theorem flatK_two {α : Type} [Inhabited α] (enc : α → List Value) (f g : α → Value) (he : ∀ x, enc x = [f x, g x]) (fl : List α → List Value) (h0 : fl [] = []) (h1 : ∀ x l, fl (x :: l) = f x :: g x :: fl l) (l : List α) : (Go.Sort.flatK enc 2 l.toArray).toList = fl l := by
  have hlen : ∀ l, (fl l).length = l.length * 2 := fun l => by
    induction l with
    | nil => simp [h0]
    | cons x l ih => simp [h1, ih]; omega
  have hget : ∀ (l : List α) (t : Nat), t < l.length * 2 → (fl l)[t]? = some (enc (l.toArray[t / 2]!))[t % 2]! := fun l => by
    induction l with
    | nil => intro t ht; simp at ht
    | cons x l ih =>
      intro t ht
      match t, ht with
      | 0, _ => simp [h1, he]
      | 1, _ => simp [h1, he]
      | t + 2, ht =>
        have := ih t (by simp at ht; omega)
        rw [h1, List.getElem?_cons_succ, List.getElem?_cons_succ, this]
        have e1 : (t + 2) / 2 = t / 2 + 1 := by omega
        have e2 : (t + 2) % 2 = t % 2 := by omega
        rw [e1, e2]
        simp
  apply List.ext_getElem?
  intro t
  by_cases ht : t < l.length * 2
  · rw [hget l t ht, Array.getElem?_toList]
    have hs : t < (Go.Sort.flatK enc 2 l.toArray).size := by simpa using ht
    have := Go.Sort.get_flatK enc 2 l.toArray t (by simpa using ht)
    rw [Array.getElem?_eq_getElem hs, ← this, getElem!_pos _ t hs]
  · rw [List.getElem?_eq_none (by simp; omega), List.getElem?_eq_none (by rw [hlen]; omega)]
theorem perm_of_in {α : Type} [Inhabited α] {d d' : Array α} (h : PermIn 0 d.size d d') : d'.toList.Perm d.toList := by
  have h3 := h.2.2
  have h1 := h.1
  have e1 : d'.extract 0 d.size = d' := by rw [← h1]; simp
  rw [e1] at h3
  simpa using h3
end Go.Proofs.YthagpceagifjnaaDoor.L3
