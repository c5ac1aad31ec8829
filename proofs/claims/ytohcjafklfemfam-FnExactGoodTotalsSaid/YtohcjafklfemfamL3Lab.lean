/-
  Lists of labels in memory; what is good of them.
-/
import Derived.Test.YtohcjafklfemfamL3WordB
import Derived.Deep.QuietTactic
import Derived.BigQuiet
import Derived.Deep.RegionHeld3
import Derived.Laws.Cover1
import Derived.Laws.RangeAny
namespace Go.Proofs.Ytohcjafklfemfam.L3
open Go.RowKit L1
set_option linter.unusedVariables false

/-- A label: its Name and its Value. -/
abbrev Lb := ByteArray × ByteArray
def eL : Lb := (ByteArray.empty, ByteArray.empty)



/-- A label as a value. -/
def svL (p : Lb) : Value := .agg #[.string p.1, .string p.2]
/-- A list of labels lies in memory from an address on. -/
def SlL (w : World) (a : Option Addr) (l : List Lb) : Prop := ∀ i, i < l.length → ∃ b off, a = some ⟨b, off, none⟩ ∧ w.cell? ⟨b, off + i * 2, none⟩ = some (.string (l.getD i eL).1) ∧ w.cell? ⟨b, off + i * 2 + 1, none⟩ = some (.string (l.getD i eL).2)
theorem SlL.below {w w' : World} {a : Option Addr} {xs : List Lb} (h : SlL w a xs) (hb : Below w.heap.size w w') : SlL w' a xs := fun i hi => by
  obtain ⟨b, off, ha, hc, hd⟩ := h i hi
  refine ⟨b, off, ha, ?_, ?_⟩
  · rw [hb.cell (p := ⟨b, off + i * 2, none⟩) (blk_lt hc)]; exact hc
  · rw [hb.cell (p := ⟨b, off + i * 2 + 1, none⟩) (blk_lt hd)]; exact hd

/-- What a walk is told of a slice of labels that came in. -/
def IsRowL (w : World) (a : Option Addr) (len : Nat) (l : List Lb) : Prop := l.length = len ∧ len ≤ maxLen ∧ SlL w a l
open Classical in
theorem rowL_of_pairs {w : World} {a : Addr} {len cap : Nat} (hl : len ≤ cap) (hm : cap ≤ maxLen) (h : ∀ i, i < len → ∃ n0 n1, w.cell? (a.add (i * 2)) = some (.string n0) ∧ w.cell? (a.add (i * 2 + 1)) = some (.string n1)) : ∃ l, IsRowL w (some a) len l := by
  have hc : ∃ f : Nat → Lb, ∀ i, i < len → w.cell? (a.add (i * 2)) = some (.string (f i).1) ∧ w.cell? (a.add (i * 2 + 1)) = some (.string (f i).2) := by
    refine ⟨fun i => if hi : i < len then (Classical.choose (h i hi), Classical.choose (Classical.choose_spec (h i hi))) else eL, fun i hi => ?_⟩
    simp only [dif_pos hi]
    exact Classical.choose_spec (Classical.choose_spec (h i hi))
  obtain ⟨f, hf⟩ := hc
  refine ⟨(List.range len).map f, by simp, Nat.le_trans hl hm, fun i hi => ?_⟩
  have hi' : i < len := by simpa using hi
  obtain ⟨b, off, spot⟩ := a
  have hspot : spot = none := by
    have h00 := (hf 0 (by omega)).1
    have := World.cell?_spot h00
    simpa [Addr.add] using this
  subst hspot
  have e0 : ∀ j, (⟨b, off, none⟩ : Addr).add j = ⟨b, off + j, none⟩ := fun j => by unfold Addr.add; split <;> simp_all
  have hg : ((List.range len).map f).getD i eL = f i := by simp [List.getD, hi']
  have := hf i hi'
  rw [e0, e0] at this
  rw [hg]
  exact ⟨b, off, rfl, this.1, this.2⟩



/-- The cells of labels, one behind the other. -/
def flatL : List Lb → List Value
  | [] => []
  | p :: l => .string p.1 :: .string p.2 :: flatL l
theorem flatL_len : ∀ l : List Lb, (flatL l).length = l.length * 2
  | [] => rfl
  | p :: l => by simp [flatL, flatL_len l]; omega
theorem flatL_get : ∀ (l : List Lb) (i : Nat), i < l.length → (flatL l)[i * 2]? = some (.string (l.getD i eL).1) ∧ (flatL l)[i * 2 + 1]? = some (.string (l.getD i eL).2)
  | [], i, h => by simp at h
  | p :: l, 0, _ => ⟨rfl, rfl⟩
  | p :: l, i + 1, h => by
    have := flatL_get l i (by simpa using h)
    have e1 : (i + 1) * 2 = i * 2 + 1 + 1 := by omega
    rw [e1]
    simpa only [flatL, List.getElem?_cons_succ, List.getD_cons_succ] using this
theorem flatL_append (l m : List Lb) : flatL (l ++ m) = flatL l ++ flatL m := by
  induction l with
  | nil => rfl
  | cons p l ih => simp [flatL, ih]
theorem flatL_set : ∀ (l : List Lb) (i : Nat) (p : Lb), flatL (l.set i p) = ((flatL l).set (i * 2) (.string p.1)).set (i * 2 + 1) (.string p.2)
  | [], _, _ => rfl
  | q :: l, 0, p => rfl
  | q :: l, i + 1, p => by
    have := flatL_set l i p
    have e1 : (i + 1) * 2 = i * 2 + 1 + 1 := by omega
    rw [e1]
    simp only [List.set_cons_succ, flatL, this]
theorem own_formL {w : World} {base n : Nat} {v : Value} {l : List Lb} (h : w.ownsRow base 87 2 v n (flatL l)) : ∃ a cap, v = .slice a n cap ∧ SlL w a l ∧ l.length = n := by
  have hl := h.1
  rw [flatL_len] at hl
  have hl' : l.length = n := by omega
  rcases h.2 with ⟨hv, h0⟩ | ⟨g, cap, cur, hv, _⟩
  · subst h0
    exact ⟨none, 0, hv, fun i hi => by omega, hl'⟩
  · subst hv
    refine ⟨_, cap, rfl, fun i hi => ?_, hl'⟩
    have hf := flatL_get l i hi
    have h1 := h.cells (g := g) rfl (i * 2) _ hf.1
    have h2 := h.cells (g := g) rfl (i * 2 + 1) _ hf.2
    rw [addr_add] at h1 h2
    exact ⟨g, 0, rfl, by simpa using h1, by simpa using h2⟩
theorem own_belowL {w w' : World} {base n : Nat} {v : Value} {ys : List Value} (h : w.ownsRow base 87 2 v n ys) (hb : Below w.heap.size w w') : w'.ownsRow base 87 2 v n ys := by
  refine ⟨h.1, ?_⟩
  rcases h.2 with h0 | ⟨g, cap, cur, rfl, hbg, hg, r⟩
  · exact .inl h0
  · exact .inr ⟨g, cap, cur, rfl, hbg, by rw [hb.block g (Array.getElem?_eq_some_iff.1 hg).1]; exact hg, r⟩
theorem info_lab : (Try.prog.info? 87).map (fun i => (i.zero, i.size, i.bytes)) = some (some (.agg #[.string ByteArray.empty, .string ByteArray.empty]), 2, 32) := by kernel_rfl



theorem own_slL {w : World} {base n cap : Nat} {a : Option Addr} {l : List Lb} (h : w.ownsRow base 87 2 (.slice a n cap) n (flatL l)) : SlL w a l := by
  obtain ⟨b, q, e, s, _⟩ := own_formL h
  cases e
  exact s


/-- What a walk is told of a slice of labels that came in. -/
def IsRowLS (w : World) (a : Option Addr) (len : Nat) (l : List Lb) : Prop := IsRowL w a len l ∧ ∀ j, j < l.length → (l.getD j eL).1.size ≤ 9223372036854775807 ∧ (l.getD j eL).2.size ≤ 9223372036854775807
theorem rowLS_of_pairs {w : World} {a : Addr} {len cap : Nat} (hl : len ≤ cap) (hm : cap ≤ maxLen) (h : ∀ i, i < len → ∃ n0 n1 : ByteArray, w.cell? (a.add (i * 2)) = some (.string n0) ∧ w.cell? (a.add (i * 2 + 1)) = some (.string n1) ∧ n0.size ≤ maxLen ∧ n1.size ≤ maxLen) : ∃ l, IsRowLS w (some a) len l := by
  obtain ⟨l, hr⟩ := rowL_of_pairs hl hm (fun i hi => by obtain ⟨n0, n1, h1, h2, _⟩ := h i hi; exact ⟨n0, n1, h1, h2⟩)
  refine ⟨l, hr, fun j hj => ?_⟩
  obtain ⟨b, off, ha, hc, hd⟩ := hr.2.2 j hj
  obtain ⟨n0, n1, h1, h2, s1, s2⟩ := h j (by rw [← hr.1]; exact hj)
  cases ha
  have e0 : ∀ j, (⟨b, off, none⟩ : Addr).add j = ⟨b, off + j, none⟩ := fun j => by unfold Addr.add; split <;> simp_all
  rw [e0] at h1 h2
  rw [← Nat.add_assoc] at h2
  rw [h1] at hc
  rw [h2] at hd
  simp only [Option.some.injEq, Value.string.injEq] at hc hd
  unfold maxLen at s1 s2
  rw [← hc, ← hd]
  exact ⟨by omega, by omega⟩
def okL (p : Lb) : Prop := Word false p.1 ∧ Word true p.2
def GoodL (l : List Lb) : Prop := l.length ≤ 6 ∧ ∀ j, j < l.length → okL (l.getD j eL) ∧ (0 < j → Ahead (l.getD (j - 1) eL).1 (l.getD j eL).1)
/-- Labels that a call hands back, in new memory, and whether there are some. -/
def RetLb (w : World) (r : Option (List Lb)) (e : Ending) (w' : World) : Prop :=
  ∃ v, e = .returned (.tuple #[v, .bool r.isSome]) ∧ w'.ownsRow w.heap.size 87 2 v (r.getD []).length (flatL (r.getD [])) ∧ Below w.heap.size w w'
end Go.Proofs.Ytohcjafklfemfam.L3
