/-
  Lists of a query's parts in memory; what is good of them.
-/
import Derived.Test.YthicdnkngpiccabL4Base
import Derived.Test.YthicdnkngpiccabL3Lab
namespace Go.Proofs.Ythicdnkngpiccab.L4
open Go.RowKit L1 L3
set_option linter.unusedVariables false

/-- A query's part: its Kind, its Label's Name and Value, A and B. -/
structure Qr where
  k : Int
  n : ByteArray
  v : ByteArray
  a : Int
  b : Int
def eQ : Qr := ⟨0, ByteArray.empty, ByteArray.empty, 0, 0⟩
/-- A part as a value. -/
abbrev svQ (p : Qr) : Value := .agg #[.int .i64 p.k, .string p.n, .string p.v, .int .i64 p.a, .int .i64 p.b]
/-- A part lies in memory from a place on. -/
structure AtQ (w : World) (b o : Nat) (p : Qr) : Prop where
  k : w.cell? ⟨b, o, none⟩ = some (.int .i64 p.k)
  n : w.cell? ⟨b, o + 1, none⟩ = some (.string p.n)
  v : w.cell? ⟨b, o + 2, none⟩ = some (.string p.v)
  a : w.cell? ⟨b, o + 3, none⟩ = some (.int .i64 p.a)
  b : w.cell? ⟨b, o + 4, none⟩ = some (.int .i64 p.b)
theorem AtQ.base {w w' : World} {b o B : Nat} {p : Qr} (h : AtQ w b o p) (hb : Below B w w') (hB : b < B) : AtQ w' b o p :=
  ⟨(hb.cell (p := ⟨b, o, none⟩) hB).trans h.k, (hb.cell (p := ⟨b, o + 1, none⟩) hB).trans h.n, (hb.cell (p := ⟨b, o + 2, none⟩) hB).trans h.v, (hb.cell (p := ⟨b, o + 3, none⟩) hB).trans h.a, (hb.cell (p := ⟨b, o + 4, none⟩) hB).trans h.b⟩
theorem AtQ.below {w w' : World} {b o : Nat} {p : Qr} (h : AtQ w b o p) (hb : Below w.heap.size w w') : AtQ w' b o p := h.base hb (blk_lt h.k)
/-- A list of parts lies in memory from an address on. -/
def SlQ (w : World) (a : Option Addr) (l : List Qr) : Prop := ∀ i, i < l.length → ∃ b off, a = some ⟨b, off, none⟩ ∧ AtQ w b (off + i * 5) (l.getD i eQ)
theorem SlQ.below {w w' : World} {a : Option Addr} {xs : List Qr} (h : SlQ w a xs) (hb : Below w.heap.size w w') : SlQ w' a xs := fun i hi => by
  obtain ⟨b, off, ha, hc⟩ := h i hi
  exact ⟨b, off, ha, hc.below hb⟩
theorem slQ_base {w w' : World} {a : Option Addr} {xs : List Qr} {base : Nat} (h : SlQ w a xs) (hb : Below base w w') (hlt : ∀ x, a = some x → x.block < base) : SlQ w' a xs := fun i hi => by
  obtain ⟨b, off, ha, hc⟩ := h i hi
  exact ⟨b, off, ha, hc.base hb (hlt ⟨b, off, none⟩ ha)⟩
/-- The cells of a part. -/
def cq (p : Qr) : List Value := [.int .i64 p.k, .string p.n, .string p.v, .int .i64 p.a, .int .i64 p.b]
/-- The cells of parts, one behind the other. -/
def flatQ : List Qr → List Value
  | [] => []
  | p :: l => .int .i64 p.k :: .string p.n :: .string p.v :: .int .i64 p.a :: .int .i64 p.b :: flatQ l
theorem flatQ_len : ∀ l : List Qr, (flatQ l).length = l.length * 5
  | [] => rfl
  | p :: l => by simp [flatQ, flatQ_len l]; omega
theorem flatQ_get : ∀ (l : List Qr) (i : Nat), i < l.length → (flatQ l)[i * 5]? = some (.int .i64 (l.getD i eQ).k) ∧ (flatQ l)[i * 5 + 1]? = some (.string (l.getD i eQ).n) ∧ (flatQ l)[i * 5 + 2]? = some (.string (l.getD i eQ).v) ∧ (flatQ l)[i * 5 + 3]? = some (.int .i64 (l.getD i eQ).a) ∧ (flatQ l)[i * 5 + 4]? = some (.int .i64 (l.getD i eQ).b)
  | [], i, h => by simp at h
  | p :: l, 0, _ => ⟨rfl, rfl, rfl, rfl, rfl⟩
  | p :: l, i + 1, h => by
    have := flatQ_get l i (by simpa using h)
    have e1 : (i + 1) * 5 = i * 5 + 1 + 1 + 1 + 1 + 1 := by omega
    have e2 : (i + 1) * 5 + 1 = i * 5 + 1 + 1 + 1 + 1 + 1 + 1 := by omega
    have e3 : (i + 1) * 5 + 2 = i * 5 + 2 + 1 + 1 + 1 + 1 + 1 := by omega
    have e4 : (i + 1) * 5 + 3 = i * 5 + 3 + 1 + 1 + 1 + 1 + 1 := by omega
    have e5 : (i + 1) * 5 + 4 = i * 5 + 4 + 1 + 1 + 1 + 1 + 1 := by omega
    rw [e2, e3, e4, e5, e1]
    simpa only [flatQ, List.getElem?_cons_succ, List.getD_cons_succ] using this
theorem flatQ_append (l m : List Qr) : flatQ (l ++ m) = flatQ l ++ flatQ m := by
  induction l with
  | nil => rfl
  | cons p l ih => simp [flatQ, ih]
/-- One part written over. -/
def setQ (c : List Value) (o : Nat) (p : Qr) : List Value := ((((c.set o (.int .i64 p.k)).set (o + 1) (.string p.n)).set (o + 2) (.string p.v)).set (o + 3) (.int .i64 p.a)).set (o + 4) (.int .i64 p.b)
theorem flatQ_set : ∀ (l : List Qr) (i : Nat) (p : Qr), flatQ (l.set i p) = setQ (flatQ l) (i * 5) p
  | [], _, _ => rfl
  | q :: l, 0, p => rfl
  | q :: l, i + 1, p => by
    have := flatQ_set l i p
    have e1 : (i + 1) * 5 = i * 5 + 1 + 1 + 1 + 1 + 1 := by omega
    have e2 : i * 5 + 1 + 1 + 1 + 1 + 1 + 1 = i * 5 + 1 + 1 + 1 + 1 + 1 + 1 := rfl
    unfold setQ at this ⊢
    rw [e1]
    have f2 : i * 5 + 1 + 1 + 1 + 1 + 1 + 2 = i * 5 + 2 + 1 + 1 + 1 + 1 + 1 := by omega
    have f3 : i * 5 + 1 + 1 + 1 + 1 + 1 + 3 = i * 5 + 3 + 1 + 1 + 1 + 1 + 1 := by omega
    have f4 : i * 5 + 1 + 1 + 1 + 1 + 1 + 4 = i * 5 + 4 + 1 + 1 + 1 + 1 + 1 := by omega
    rw [f2, f3, f4]
    simp only [List.set_cons_succ, flatQ, this]
theorem flatQ_one : ∀ l : List Qr, ∀ u ∈ flatQ l, u.oneCell' = true
  | [], u, h => by simp [flatQ] at h
  | p :: l, u, h => by
    simp only [flatQ, List.mem_cons] at h
    rcases h with rfl | rfl | rfl | rfl | rfl | h
    · rfl
    · rfl
    · rfl
    · rfl
    · rfl
    · exact flatQ_one l u h
theorem own_formQ {w : World} {base n : Nat} {v : Value} {l : List Qr} (h : w.ownsRow base 51 5 v n (flatQ l)) : ∃ a cap, v = .slice a n cap ∧ SlQ w a l ∧ l.length = n := by
  have hl := h.1
  rw [flatQ_len] at hl
  have hl' : l.length = n := by omega
  rcases h.2 with ⟨hv, h0⟩ | ⟨g, cap, cur, hv, _⟩
  · subst h0
    exact ⟨none, 0, hv, fun i hi => by omega, hl'⟩
  · subst hv
    refine ⟨_, cap, rfl, fun i hi => ?_, hl'⟩
    obtain ⟨f1, f2, f3, f4, f5⟩ := flatQ_get l i hi
    have h1 := h.cells (g := g) rfl (i * 5) _ f1
    have h2 := h.cells (g := g) rfl (i * 5 + 1) _ f2
    have h3 := h.cells (g := g) rfl (i * 5 + 2) _ f3
    have h4 := h.cells (g := g) rfl (i * 5 + 3) _ f4
    have h5 := h.cells (g := g) rfl (i * 5 + 4) _ f5
    rw [addr_add] at h1 h2 h3 h4 h5
    exact ⟨g, 0, rfl, by simpa using h1, by simpa using h2, by simpa using h3, by simpa using h4, by simpa using h5⟩
theorem own_slQ {w : World} {base n cap : Nat} {a : Option Addr} {l : List Qr} (h : w.ownsRow base 51 5 (.slice a n cap) n (flatQ l)) : SlQ w a l := by
  obtain ⟨b, q, e, s, _⟩ := own_formQ h
  cases e
  exact s
theorem info_qu : (Try.prog.info? 51).map (fun i => (i.zero, i.size, i.bytes)) = some (some (.agg #[.int .i64 0, .string ByteArray.empty, .string ByteArray.empty, .int .i64 0, .int .i64 0]), 5, 56) := by kernel_rfl
theorem slQ_cells {w : World} {b off : Nat} {l : List Qr} (h : SlQ w (some ⟨b, off, none⟩) l) : ∀ j u, (flatQ l)[j]? = some u → w.cell? ((⟨b, off, none⟩ : Addr).add j) = some u := by
  intro j u hu
  have hj : j < (flatQ l).length := by
    by_cases hj : j < (flatQ l).length
    · exact hj
    · rw [List.getElem?_eq_none (by omega)] at hu; cases hu
  rw [flatQ_len] at hj
  have hi : j / 5 < l.length := by omega
  obtain ⟨b', off', ha, hc⟩ := h (j / 5) hi
  cases ha
  obtain ⟨f1, f2, f3, f4, f5⟩ := flatQ_get l (j / 5) hi
  rw [add_at]
  have hm : j % 5 = 0 ∨ j % 5 = 1 ∨ j % 5 = 2 ∨ j % 5 = 3 ∨ j % 5 = 4 := by omega
  rcases hm with e | e | e | e | e
  · have ej : j = j / 5 * 5 := by omega
    rw [← ej] at f1; rw [f1] at hu; cases hu
    rw [show off + j = off + j / 5 * 5 by omega]; exact hc.k
  · have ej : j = j / 5 * 5 + 1 := by omega
    rw [← ej] at f2; rw [f2] at hu; cases hu
    rw [show off + j = off + j / 5 * 5 + 1 by omega]; exact hc.n
  · have ej : j = j / 5 * 5 + 2 := by omega
    rw [← ej] at f3; rw [f3] at hu; cases hu
    rw [show off + j = off + j / 5 * 5 + 2 by omega]; exact hc.v
  · have ej : j = j / 5 * 5 + 3 := by omega
    rw [← ej] at f4; rw [f4] at hu; cases hu
    rw [show off + j = off + j / 5 * 5 + 3 by omega]; exact hc.a
  · have ej : j = j / 5 * 5 + 4 := by omega
    rw [← ej] at f5; rw [f5] at hu; cases hu
    rw [show off + j = off + j / 5 * 5 + 4 by omega]; exact hc.b

/-- Texts are no longer than a machine's. -/
def TxQ (l : List Qr) : Prop := ∀ j, j < l.length → (l.getD j eQ).n.size ≤ 9223372036854775807 ∧ (l.getD j eQ).v.size ≤ 9223372036854775807
/-- What a walk is told of a slice of parts that came in. -/
def IsRowQ (w : World) (a : Option Addr) (len : Nat) (l : List Qr) : Prop := (l.length = len ∧ len ≤ maxLen ∧ SlQ w a l) ∧ TxQ l
open Classical in
theorem rowQ_of {w : World} {a : Addr} {len cap : Nat} (hl : len ≤ cap) (hm : cap ≤ maxLen) (h : ∀ i, i < len → ∃ p : Qr, (w.cell? (a.add (i * 5)) = some (.int .i64 p.k) ∧ w.cell? (a.add (i * 5 + 1)) = some (.string p.n) ∧ w.cell? (a.add (i * 5 + 2)) = some (.string p.v) ∧ w.cell? (a.add (i * 5 + 3)) = some (.int .i64 p.a) ∧ w.cell? (a.add (i * 5 + 4)) = some (.int .i64 p.b)) ∧ p.n.size ≤ maxLen ∧ p.v.size ≤ maxLen) : ∃ l, IsRowQ w (some a) len l := by
  obtain ⟨f, hf⟩ : ∃ f : Nat → Qr, ∀ i, i < len → (w.cell? (a.add (i * 5)) = some (.int .i64 (f i).k) ∧ w.cell? (a.add (i * 5 + 1)) = some (.string (f i).n) ∧ w.cell? (a.add (i * 5 + 2)) = some (.string (f i).v) ∧ w.cell? (a.add (i * 5 + 3)) = some (.int .i64 (f i).a) ∧ w.cell? (a.add (i * 5 + 4)) = some (.int .i64 (f i).b)) ∧ (f i).n.size ≤ maxLen ∧ (f i).v.size ≤ maxLen := by
    refine ⟨fun i => if hi : i < len then Classical.choose (h i hi) else eQ, fun i hi => ?_⟩
    simp only [dif_pos hi]
    exact Classical.choose_spec (h i hi)
  have hg : ∀ i, i < len → ((List.range len).map f).getD i eQ = f i := fun i hi => by simp [List.getD, hi]
  refine ⟨(List.range len).map f, ⟨by simp, Nat.le_trans hl hm, fun i hi => ?_⟩, fun j hj => ?_⟩
  · have hi' : i < len := by simpa using hi
    obtain ⟨b, off, spot⟩ := a
    have hspot : spot = none := by
      have h00 := (hf 0 (by omega)).1.1
      have := World.cell?_spot h00
      simpa [Addr.add] using this
    subst hspot
    have := (hf i hi').1
    simp only [add_at] at this
    rw [hg i hi']
    exact ⟨b, off, rfl, this.1, by rw [Nat.add_assoc]; exact this.2.1, by rw [Nat.add_assoc]; exact this.2.2.1, by rw [Nat.add_assoc]; exact this.2.2.2.1, by rw [Nat.add_assoc]; exact this.2.2.2.2⟩
  · have hj' : j < len := by simpa using hj
    have := (hf j hj').2
    unfold maxLen at this
    rw [hg j hj']
    exact ⟨by omega, by omega⟩

/-- A part is good at its place. -/
def okQ (i : Nat) (p : Qr) : Prop :=
  (p.k = 1 ∧ p.n = ByteArray.empty ∧ p.v = ByteArray.empty ∧ p.a = 0 ∧ p.b = 0) ∨
  (p.k = 2 ∧ okL (p.n, p.v) ∧ p.a = 0 ∧ p.b = 0) ∨
  ((p.k = 3 ∨ p.k = 4) ∧ p.n = ByteArray.empty ∧ p.v = ByteArray.empty ∧ (0 ≤ p.a ∧ p.a < (i : Int)) ∧ (0 ≤ p.b ∧ p.b < (i : Int))) ∨
  (p.k = 5 ∧ p.n = ByteArray.empty ∧ p.v = ByteArray.empty ∧ (0 ≤ p.a ∧ p.a < (i : Int)) ∧ p.b = 0)
/-- A query is good. -/
def GoodQ (l : List Qr) : Prop := (1 ≤ l.length ∧ l.length ≤ 20) ∧ ∀ j, j < l.length → okQ j (l.getD j eQ)
end Go.Proofs.Ythicdnkngpiccab.L4
