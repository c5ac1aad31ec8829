/-
  Lists of a log's pieces in memory. Nothing of the program's text is proved here but closed facts on its types.
-/
import Derived.Test.YtdnmklcnlndmhazDoorL6Math
import Derived.Test.YtdnmklcnlndmhazDoorL1Sl
namespace Go.Proofs.YtdnmklcnlndmhazDoor.L6
open Go.RowKit L1
set_option linter.unusedVariables false

/-- A piece: From, Bytes, Index. -/
structure Pc where
  f : Int
  s : ByteArray
  x : List Int
def eC : Pc := ⟨0, ByteArray.empty, []⟩
/-- A piece with the slice that is its Index. -/
abbrev PV := Pc × Value
def eV : PV := (eC, .slice none 0 0)
/-- A piece as a value. -/
abbrev svC (p : Pc) (v : Value) : Value := .agg #[.int .i64 p.f, .string p.s, v]
/-- A piece lies in memory from a place on. -/
structure AtC (w : World) (b o : Nat) (p : Pc) (a : Option Addr) (c : Nat) : Prop where
  f : w.cell? ⟨b, o, none⟩ = some (.int .i64 p.f)
  s : w.cell? ⟨b, o + 1, none⟩ = some (.string p.s)
  x : w.cell? ⟨b, o + 2, none⟩ = some (.slice a p.x.length c)
  l : Sl w a p.x
theorem AtC.below {w w' : World} {b o c : Nat} {p : Pc} {a : Option Addr} (h : AtC w b o p a c) (hb : Below w.heap.size w w') : AtC w' b o p a c :=
  ⟨(hb.cell (p := ⟨b, o, none⟩) (blk_lt h.f)).trans h.f, (hb.cell (p := ⟨b, o + 1, none⟩) (blk_lt h.f)).trans h.s, (hb.cell (p := ⟨b, o + 2, none⟩) (blk_lt h.f)).trans h.x, h.l.below hb⟩
/-- A list of pieces lies in memory from an address on. -/
def SlC (w : World) (a : Option Addr) (l : List Pc) : Prop := ∀ i, i < l.length → ∃ b off, a = some ⟨b, off, none⟩ ∧ ∃ ai ci, AtC w b (off + i * 3) (l.getD i eC) ai ci
theorem SlC.below {w w' : World} {a : Option Addr} {xs : List Pc} (h : SlC w a xs) (hb : Below w.heap.size w w') : SlC w' a xs := fun i hi => by
  obtain ⟨b, off, ha, ai, ci, hc⟩ := h i hi
  exact ⟨b, off, ha, ai, ci, hc.below hb⟩
theorem sl_lt {w : World} {a : Option Addr} {xs : List Int} (h : Sl w a xs) (i : Nat) (hi : i < xs.length) : ∃ x, a = some x ∧ x.block < w.heap.size := by
  obtain ⟨b, off, ha, hc⟩ := h i hi
  exact ⟨_, ha, blk_lt hc⟩
/-- The cells of pieces, one behind the other. -/
def flatC : List PV → List Value
  | [] => []
  | p :: l => .int .i64 p.1.f :: .string p.1.s :: p.2 :: flatC l
theorem flatC_len : ∀ l : List PV, (flatC l).length = l.length * 3
  | [] => rfl
  | p :: l => by simp [flatC, flatC_len l]; omega
theorem flatC_get : ∀ (l : List PV) (i : Nat), i < l.length → (flatC l)[i * 3]? = some (.int .i64 (l.getD i eV).1.f) ∧ (flatC l)[i * 3 + 1]? = some (.string (l.getD i eV).1.s) ∧ (flatC l)[i * 3 + 2]? = some (l.getD i eV).2
  | [], i, h => by simp at h
  | p :: l, 0, _ => ⟨rfl, rfl, rfl⟩
  | p :: l, i + 1, h => by
    have := flatC_get l i (by simpa using h)
    have e1 : (i + 1) * 3 = i * 3 + 1 + 1 + 1 := by omega
    have e2 : (i + 1) * 3 + 1 = i * 3 + 1 + 1 + 1 + 1 := by omega
    have e3 : (i + 1) * 3 + 2 = i * 3 + 2 + 1 + 1 + 1 := by omega
    rw [e2, e3, e1]
    simpa only [flatC, List.getElem?_cons_succ, List.getD_cons_succ] using this
theorem flatC_append (l m : List PV) : flatC (l ++ m) = flatC l ++ flatC m := by
  induction l with
  | nil => rfl
  | cons p l ih => simp [flatC, ih]
/-- One piece written over. -/
def setC (c : List Value) (o : Nat) (p : PV) : List Value := ((c.set o (.int .i64 p.1.f)).set (o + 1) (.string p.1.s)).set (o + 2) p.2
theorem flatC_set : ∀ (l : List PV) (i : Nat) (p : PV), flatC (l.set i p) = setC (flatC l) (i * 3) p
  | [], _, _ => rfl
  | q :: l, 0, p => rfl
  | q :: l, i + 1, p => by
    have := flatC_set l i p
    have e1 : (i + 1) * 3 = i * 3 + 1 + 1 + 1 := by omega
    unfold setC at this ⊢
    rw [e1]
    have f2 : i * 3 + 1 + 1 + 1 + 2 = i * 3 + 2 + 1 + 1 + 1 := by omega
    rw [f2]
    simp only [List.set_cons_succ, flatC, this]
theorem flatC_one : ∀ l : List PV, (∀ q ∈ l, q.2.oneCell' = true) → ∀ u ∈ flatC l, u.oneCell' = true
  | [], _, u, h => by simp [flatC] at h
  | p :: l, hl, u, h => by
    simp only [flatC, List.mem_cons] at h
    rcases h with rfl | rfl | rfl | h
    · rfl
    · rfl
    · exact hl p (by simp)
    · exact flatC_one l (fun q hq => hl q (by simp [hq])) u h
theorem info_piece : (Tryd.prog.info? 51).map (fun i => (i.zero, i.size, i.bytes)) = some (some (.agg #[.int .i64 0, .string ByteArray.empty, .slice none 0 0]), 3, 48) := by kernel_rfl
/-- The plain pieces. -/
abbrev pcs (M : List PV) : List Pc := M.map Prod.fst
theorem pcs_get (M : List PV) (i : Nat) (h : i < M.length) : (pcs M).getD i eC = (M.getD i eV).1 := by simp [List.getD, List.getElem?_eq_getElem h]
/-- Pieces that lie in memory of their own: a row, and a row of its own for each Index. -/
structure OwC (w : World) (base : Nat) (v : Value) (n : Nat) (M : List PV) : Prop where
  len : M.length = n
  row : w.ownsRow base 51 3 v n (flatC M)
  idx : ∀ i, i < n → w.ownsRow base 3 1 (M.getD i eV).2 (M.getD i eV).1.x.length ((M.getD i eV).1.x.map (Value.int .i64))
  apart : ∀ i j, i < j → j < n → ∀ g, (M.getD i eV).2.ownBlock = some g → (M.getD j eV).2.ownBlock ≠ some g
theorem own_baseC {w : World} {b1 b2 n c : Nat} {t : TypeId} {v : Value} {ys : List Value} (h : w.ownsRow b1 t c v n ys) (hb : b2 ≤ b1) : w.ownsRow b2 t c v n ys := by
  refine ⟨h.1, ?_⟩
  rcases h.2 with h0 | ⟨g, cap, cur, rfl, hbg, hg, r⟩
  · exact .inl h0
  · exact .inr ⟨g, cap, cur, rfl, Nat.le_trans hb hbg, hg, r⟩
theorem own_belowC {w w' : World} {base n c : Nat} {t : TypeId} {v : Value} {ys : List Value} (h : w.ownsRow base t c v n ys) (hb : Below w.heap.size w w') : w'.ownsRow base t c v n ys := by
  refine ⟨h.1, ?_⟩
  rcases h.2 with h0 | ⟨g, cap, cur, rfl, hbg, hg, r⟩
  · exact .inl h0
  · exact .inr ⟨g, cap, cur, rfl, hbg, by rw [hb.block g (Array.getElem?_eq_some_iff.1 hg).1]; exact hg, r⟩
/-- Blocks of two types are two. -/
theorem own_two {w : World} {b1 b2 n1 n2 c1 c2 : Nat} {t1 t2 : TypeId} {v1 v2 : Value} {y1 y2 : List Value} (h1 : w.ownsRow b1 t1 c1 v1 n1 y1) (h2 : w.ownsRow b2 t2 c2 v2 n2 y2) (ht : t1 ≠ t2) (g : Nat) (e1 : v1.ownBlock = some g) : v2.ownBlock ≠ some g := by
  intro e2
  rcases h1.2 with ⟨rfl, _⟩ | ⟨g1, cap1, cur1, rfl, _, hg1, _⟩
  · simp [Value.ownBlock] at e1
  · rcases h2.2 with ⟨rfl, _⟩ | ⟨g2, cap2, cur2, rfl, _, hg2, _⟩
    · simp [Value.ownBlock] at e2
    · simp [Value.ownBlock] at e1 e2
      subst e1
      subst e2
      rw [hg1] at hg2
      simp at hg2
      exact ht hg2.2
theorem own_keptC {w w' : World} {base c n : Nat} {t : TypeId} {v : Value} {xs : List Value} {r : Option Nat} (h : w.ownsRow base t c v n xs) (hg : w.grownBy w' r) (hne : ∀ g, v.ownBlock = some g → r ≠ some g) : w'.ownsRow base t c v n xs := by
  refine ⟨h.1, ?_⟩
  rcases h.2 with h0 | ⟨g, cap, cur, hv, hb, hh, rest⟩
  · exact .inl h0
  · refine .inr ⟨g, cap, cur, hv, hb, ?_, rest⟩
    rw [hg.block g (Array.getElem?_eq_some_iff.1 hh).1 (fun e => hne g (by rw [hv]; rfl) e.symm)]
    exact hh
theorem OwC.below {w w' : World} {base n : Nat} {v : Value} {M : List PV} (h : OwC w base v n M) (hb : Below w.heap.size w w') : OwC w' base v n M :=
  ⟨h.len, own_belowC h.row hb, fun i hi => own_belowC (h.idx i hi) hb, h.apart⟩
theorem OwC.base {w : World} {b1 b2 n : Nat} {v : Value} {M : List PV} (h : OwC w b1 v n M) (hb : b2 ≤ b1) : OwC w b2 v n M :=
  ⟨h.len, own_baseC h.row hb, fun i hi => own_baseC (h.idx i hi) hb, h.apart⟩
theorem int_piece : 51 ≠ 3 := by decide
theorem own_slI6 {w : World} {base n cap : Nat} {a : Option Addr} {xs : List Int} (h : w.ownsRow base 3 1 (.slice a n cap) n (xs.map (Value.int .i64))) : Sl w a xs := by
  obtain ⟨b, q, e, s, _⟩ := own_form h
  cases e
  exact s
theorem OwC.form {w : World} {base n : Nat} {v : Value} {M : List PV} (h : OwC w base v n M) : ∃ a cap, v = .slice a n cap ∧ SlC w a (pcs M) := by
  have hl := h.len
  rcases h.row.2 with ⟨hv, h0⟩ | ⟨g, cap, cur, hv, _⟩
  · subst h0
    exact ⟨none, 0, hv, fun i hi => by simp at hi; omega⟩
  · subst hv
    refine ⟨_, cap, rfl, fun i hi => ?_⟩
    have hi' : i < M.length := by simpa using hi
    obtain ⟨f1, f2, f3⟩ := flatC_get M i hi'
    have h1 := h.row.cells (g := g) rfl (i * 3) _ f1
    have h2 := h.row.cells (g := g) rfl (i * 3 + 1) _ f2
    have h3 := h.row.cells (g := g) rfl (i * 3 + 2) _ f3
    rw [addr_add] at h1 h2 h3
    rw [pcs_get M i hi']
    obtain ⟨ai, ci, e, hs, _⟩ := own_form (h.idx i (by omega))
    rw [e] at h3
    exact ⟨g, 0, rfl, ai, ci, by simpa using h1, by simpa using h2, by simpa using h3, hs⟩
theorem OwC.sl {w : World} {base n cap : Nat} {a : Option Addr} {M : List PV} (h : OwC w base (.slice a n cap) n M) : SlC w a (pcs M) := by
  obtain ⟨b, q, e, s⟩ := h.form
  cases e
  exact s
/-- Texts and lists are no longer than a machine's. -/
def TxC (l : List Pc) : Prop := ∀ j, j < l.length → (l.getD j eC).s.size ≤ 9223372036854775807 ∧ (l.getD j eC).x.length ≤ 9223372036854775807
/-- What a walk is told of a slice of pieces that came in. -/
def IsRowC (w : World) (a : Option Addr) (len : Nat) (l : List Pc) : Prop := (l.length = len ∧ len ≤ maxLen ∧ SlC w a l) ∧ TxC l
theorem add_at6 (b off i : Nat) : (⟨b, off, none⟩ : Addr).add i = ⟨b, off + i, none⟩ := by unfold Addr.add; split <;> simp_all
open Classical in
theorem rowC_of {w : World} {a : Addr} {len cap : Nat} (hl : len ≤ cap) (hm : cap ≤ maxLen) (h : ∀ i, i < len → ∃ (p : Pc) (ai : Option Addr) (ci : Nat), (w.cell? (a.add (i * 3)) = some (.int .i64 p.f) ∧ w.cell? (a.add (i * 3 + 1)) = some (.string p.s) ∧ w.cell? (a.add (i * 3 + 2)) = some (.slice ai p.x.length ci) ∧ Sl w ai p.x) ∧ p.s.size ≤ maxLen ∧ p.x.length ≤ maxLen) : ∃ l, IsRowC w (some a) len l := by
  obtain ⟨f, hf⟩ : ∃ f : Nat → Pc, ∀ i, i < len → ∃ (ai : Option Addr) (ci : Nat), (w.cell? (a.add (i * 3)) = some (.int .i64 (f i).f) ∧ w.cell? (a.add (i * 3 + 1)) = some (.string (f i).s) ∧ w.cell? (a.add (i * 3 + 2)) = some (.slice ai (f i).x.length ci) ∧ Sl w ai (f i).x) ∧ (f i).s.size ≤ maxLen ∧ (f i).x.length ≤ maxLen := by
    refine ⟨fun i => if hi : i < len then Classical.choose (h i hi) else eC, fun i hi => ?_⟩
    simp only [dif_pos hi]
    exact Classical.choose_spec (h i hi)
  have hg : ∀ i, i < len → ((List.range len).map f).getD i eC = f i := fun i hi => by simp [List.getD, hi]
  refine ⟨(List.range len).map f, ⟨by simp, Nat.le_trans hl hm, fun i hi => ?_⟩, fun j hj => ?_⟩
  · have hi' : i < len := by simpa using hi
    obtain ⟨b, off, spot⟩ := a
    have hspot : spot = none := by
      obtain ⟨_, _, ⟨h00, _⟩, _⟩ := hf 0 (by omega)
      have := World.cell?_spot h00
      simpa [Addr.add] using this
    subst hspot
    obtain ⟨ai, ci, ⟨h1, h2, h3, h4⟩, _⟩ := hf i hi'
    simp only [add_at6] at h1 h2 h3
    rw [hg i hi']
    exact ⟨b, off, rfl, ai, ci, h1, by rw [Nat.add_assoc]; exact h2, by rw [Nat.add_assoc]; exact h3, h4⟩
  · have hj' : j < len := by simpa using hj
    obtain ⟨_, _, _, h1, h2⟩ := hf j hj'
    unfold maxLen at h1 h2
    rw [hg j hj']
    omega
end Go.Proofs.YtdnmklcnlndmhazDoor.L6
