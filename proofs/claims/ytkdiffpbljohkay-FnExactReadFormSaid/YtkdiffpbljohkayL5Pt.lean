/-
  Lists of a form's parts in memory.
-/
import Derived.Test.YtkdiffpbljohkayL4Base
import Derived.Test.YtkdiffpbljohkayL1Bytes
import Derived.Test.YtkdiffpbljohkayL5Math
namespace Go.Proofs.Ytkdiffpbljohkay.L5
open Go.RowKit L1 L4
set_option linter.unusedVariables false

/-- A part as a value. -/
abbrev svP (p : Pr) : Value := .agg #[.int .i64 p.k, .string p.t, .int .i64 p.a, .int .i64 p.b]
/-- A part lies in memory from a place on. -/
structure AtP (w : World) (b o : Nat) (p : Pr) : Prop where
  k : w.cell? ⟨b, o, none⟩ = some (.int .i64 p.k)
  t : w.cell? ⟨b, o + 1, none⟩ = some (.string p.t)
  a : w.cell? ⟨b, o + 2, none⟩ = some (.int .i64 p.a)
  b : w.cell? ⟨b, o + 3, none⟩ = some (.int .i64 p.b)
theorem AtP.base {w w' : World} {b o B : Nat} {p : Pr} (h : AtP w b o p) (hb : Below B w w') (hB : b < B) : AtP w' b o p :=
  ⟨(hb.cell (p := ⟨b, o, none⟩) hB).trans h.k, (hb.cell (p := ⟨b, o + 1, none⟩) hB).trans h.t, (hb.cell (p := ⟨b, o + 2, none⟩) hB).trans h.a, (hb.cell (p := ⟨b, o + 3, none⟩) hB).trans h.b⟩
theorem AtP.below {w w' : World} {b o : Nat} {p : Pr} (h : AtP w b o p) (hb : Below w.heap.size w w') : AtP w' b o p := h.base hb (blk_lt h.k)
/-- A list of parts lies in memory from an address on. -/
def SlP (w : World) (a : Option Addr) (l : List Pr) : Prop := ∀ i, i < l.length → ∃ b off, a = some ⟨b, off, none⟩ ∧ AtP w b (off + i * 4) (l.getD i eP)
theorem SlP.below {w w' : World} {a : Option Addr} {xs : List Pr} (h : SlP w a xs) (hb : Below w.heap.size w w') : SlP w' a xs := fun i hi => by
  obtain ⟨b, off, ha, hc⟩ := h i hi
  exact ⟨b, off, ha, hc.below hb⟩
theorem slP_base {w w' : World} {a : Option Addr} {xs : List Pr} {base : Nat} (h : SlP w a xs) (hb : Below base w w') (hlt : ∀ x, a = some x → x.block < base) : SlP w' a xs := fun i hi => by
  obtain ⟨b, off, ha, hc⟩ := h i hi
  exact ⟨b, off, ha, hc.base hb (hlt ⟨b, off, none⟩ ha)⟩
/-- The cells of parts, one behind the other. -/
def flatP : List Pr → List Value
  | [] => []
  | p :: l => .int .i64 p.k :: .string p.t :: .int .i64 p.a :: .int .i64 p.b :: flatP l
theorem flatP_len : ∀ l : List Pr, (flatP l).length = l.length * 4
  | [] => rfl
  | p :: l => by simp [flatP, flatP_len l]; omega
theorem flatP_get : ∀ (l : List Pr) (i : Nat), i < l.length → (flatP l)[i * 4]? = some (.int .i64 (l.getD i eP).k) ∧ (flatP l)[i * 4 + 1]? = some (.string (l.getD i eP).t) ∧ (flatP l)[i * 4 + 2]? = some (.int .i64 (l.getD i eP).a) ∧ (flatP l)[i * 4 + 3]? = some (.int .i64 (l.getD i eP).b)
  | [], i, h => by simp at h
  | p :: l, 0, _ => ⟨rfl, rfl, rfl, rfl⟩
  | p :: l, i + 1, h => by
    have := flatP_get l i (by simpa using h)
    have e1 : (i + 1) * 4 = i * 4 + 1 + 1 + 1 + 1 := by omega
    have e2 : (i + 1) * 4 + 1 = i * 4 + 1 + 1 + 1 + 1 + 1 := by omega
    have e3 : (i + 1) * 4 + 2 = i * 4 + 2 + 1 + 1 + 1 + 1 := by omega
    have e4 : (i + 1) * 4 + 3 = i * 4 + 3 + 1 + 1 + 1 + 1 := by omega
    rw [e2, e3, e4, e1]
    simpa only [flatP, List.getElem?_cons_succ, List.getD_cons_succ] using this
theorem flatP_append (l m : List Pr) : flatP (l ++ m) = flatP l ++ flatP m := by
  induction l with
  | nil => rfl
  | cons p l ih => simp [flatP, ih]
theorem flatP_one : ∀ l : List Pr, ∀ u ∈ flatP l, u.oneCell' = true
  | [], u, h => by simp [flatP] at h
  | p :: l, u, h => by
    simp only [flatP, List.mem_cons] at h
    rcases h with rfl | rfl | rfl | rfl | h
    · rfl
    · rfl
    · rfl
    · rfl
    · exact flatP_one l u h
theorem own_formP {w : World} {base n : Nat} {v : Value} {l : List Pr} (h : w.ownsRow base 55 4 v n (flatP l)) : ∃ a cap, v = .slice a n cap ∧ SlP w a l ∧ l.length = n := by
  have hl := h.1
  rw [flatP_len] at hl
  have hl' : l.length = n := by omega
  rcases h.2 with ⟨hv, h0⟩ | ⟨g, cap, cur, hv, _⟩
  · subst h0
    exact ⟨none, 0, hv, fun i hi => by omega, hl'⟩
  · subst hv
    refine ⟨_, cap, rfl, fun i hi => ?_, hl'⟩
    obtain ⟨f1, f2, f3, f4⟩ := flatP_get l i hi
    have h1 := h.cells (g := g) rfl (i * 4) _ f1
    have h2 := h.cells (g := g) rfl (i * 4 + 1) _ f2
    have h3 := h.cells (g := g) rfl (i * 4 + 2) _ f3
    have h4 := h.cells (g := g) rfl (i * 4 + 3) _ f4
    rw [addr_add] at h1 h2 h3 h4
    exact ⟨g, 0, rfl, by simpa using h1, by simpa using h2, by simpa using h3, by simpa using h4⟩
theorem own_slP {w : World} {base n cap : Nat} {a : Option Addr} {l : List Pr} (h : w.ownsRow base 55 4 (.slice a n cap) n (flatP l)) : SlP w a l := by
  obtain ⟨b, q, e, s, _⟩ := own_formP h
  cases e
  exact s
theorem info_part : (Try.prog.info? 55).map (fun i => (i.zero, i.size, i.bytes)) = some (some (.agg #[.int .i64 0, .string ByteArray.empty, .int .i64 0, .int .i64 0]), 4, 40) := by kernel_rfl
theorem slP_cells {w : World} {b off : Nat} {l : List Pr} (h : SlP w (some ⟨b, off, none⟩) l) : ∀ j u, (flatP l)[j]? = some u → w.cell? ((⟨b, off, none⟩ : Addr).add j) = some u := by
  intro j u hu
  have hj : j < (flatP l).length := by
    by_cases hj : j < (flatP l).length
    · exact hj
    · rw [List.getElem?_eq_none (by omega)] at hu; cases hu
  rw [flatP_len] at hj
  have hi : j / 4 < l.length := by omega
  obtain ⟨b', off', ha, hc⟩ := h (j / 4) hi
  cases ha
  obtain ⟨f1, f2, f3, f4⟩ := flatP_get l (j / 4) hi
  rw [add_at]
  have hm : j % 4 = 0 ∨ j % 4 = 1 ∨ j % 4 = 2 ∨ j % 4 = 3 := by omega
  rcases hm with e | e | e | e
  · have ej : j = j / 4 * 4 := by omega
    rw [← ej] at f1; rw [f1] at hu; cases hu
    rw [show off + j = off + j / 4 * 4 by omega]; exact hc.k
  · have ej : j = j / 4 * 4 + 1 := by omega
    rw [← ej] at f2; rw [f2] at hu; cases hu
    rw [show off + j = off + j / 4 * 4 + 1 by omega]; exact hc.t
  · have ej : j = j / 4 * 4 + 2 := by omega
    rw [← ej] at f3; rw [f3] at hu; cases hu
    rw [show off + j = off + j / 4 * 4 + 2 by omega]; exact hc.a
  · have ej : j = j / 4 * 4 + 3 := by omega
    rw [← ej] at f4; rw [f4] at hu; cases hu
    rw [show off + j = off + j / 4 * 4 + 3 by omega]; exact hc.b

/-- Texts are no longer than a machine's. -/
def TxP (l : List Pr) : Prop := ∀ j, j < l.length → (l.getD j eP).t.size ≤ 9223372036854775807
/-- What a walk is told of a slice of parts that came in. -/
def IsRowP (w : World) (a : Option Addr) (len : Nat) (l : List Pr) : Prop := (l.length = len ∧ len ≤ maxLen ∧ SlP w a l) ∧ TxP l
open Classical in
theorem rowP_of {w : World} {a : Addr} {len cap : Nat} (hl : len ≤ cap) (hm : cap ≤ maxLen) (h : ∀ i, i < len → ∃ p : Pr, (w.cell? (a.add (i * 4)) = some (.int .i64 p.k) ∧ w.cell? (a.add (i * 4 + 1)) = some (.string p.t) ∧ w.cell? (a.add (i * 4 + 2)) = some (.int .i64 p.a) ∧ w.cell? (a.add (i * 4 + 3)) = some (.int .i64 p.b)) ∧ p.t.size ≤ maxLen) : ∃ l, IsRowP w (some a) len l := by
  obtain ⟨f, hf⟩ : ∃ f : Nat → Pr, ∀ i, i < len → (w.cell? (a.add (i * 4)) = some (.int .i64 (f i).k) ∧ w.cell? (a.add (i * 4 + 1)) = some (.string (f i).t) ∧ w.cell? (a.add (i * 4 + 2)) = some (.int .i64 (f i).a) ∧ w.cell? (a.add (i * 4 + 3)) = some (.int .i64 (f i).b)) ∧ (f i).t.size ≤ maxLen := by
    refine ⟨fun i => if hi : i < len then Classical.choose (h i hi) else eP, fun i hi => ?_⟩
    simp only [dif_pos hi]
    exact Classical.choose_spec (h i hi)
  have hg : ∀ i, i < len → ((List.range len).map f).getD i eP = f i := fun i hi => by simp [List.getD, hi]
  refine ⟨(List.range len).map f, ⟨by simp, Nat.le_trans hl hm, fun i hi => ?_⟩, fun j hj => ?_⟩
  · have hi' : i < len := by simpa using hi
    obtain ⟨b, off, spot⟩ := a
    have hspot : spot = none := by
      have h00 := (hf 0 (by omega)).1.1
      have := World.cell?_spot h00
      simpa [Addr.add] using this
    subst hspot
    have := (hf i hi').1
    simp only [add_at] at this
    rw [hg i hi']
    exact ⟨b, off, rfl, this.1, by rw [Nat.add_assoc]; exact this.2.1, by rw [Nat.add_assoc]; exact this.2.2.1, by rw [Nat.add_assoc]; exact this.2.2.2⟩
  · have hj' : j < len := by simpa using hj
    have := (hf j hj').2
    unfold maxLen at this
    rw [hg j hj']
    omega
theorem ba_nil {n : ByteArray} : n.toList = [] ↔ n = ByteArray.empty := by
  constructor
  · intro h
    apply ByteArray.ext
    apply Array.toList_inj.1
    rw [← ByteArray.toList_eq, h]
    rfl
  · rintro rfl
    rw [ByteArray.toList_eq]
    rfl
theorem ret_bool {bb c : Bool} (h : c = bb) : Ending.returned (.bool c) = .returned (.bool bb) := by rw [h]
end Go.Proofs.Ytkdiffpbljohkay.L5
