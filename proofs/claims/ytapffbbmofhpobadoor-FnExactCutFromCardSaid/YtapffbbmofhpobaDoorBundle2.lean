/-
  Lists of a log's pieces in memory. Nothing of the program's text is proved here but closed facts on its types.
  A slice of pieces that came in, and a log, opened at every index.
  Contracts of the laws' own helpers szIntS, szPiece, szPieceS, szLog: what is left of a number when lengths are taken off, -1 where they are too long.
  Pieces that are owned, written over. Nothing of the program's text is proved here.
  Blocks of three cells, and cuts of texts. Nothing of the program's text is proved here but closed facts on its types.
  What is good of a log; all its records, and the one at an offset.
  Pieces as they are made; blocks that are new. Nothing of the program's text is proved here but closed facts on its types.
  Contract of the laws' own helper eqIntS: it says that two lists of ints alike are alike.
-/
import Derived.Test.YtapffbbmofhpobaDoorBundle1
import Derived.Deep.Slices
import Derived.ChangeSame
import Derived.OpenShut
import Derived.Lib.SmallJoins
import Derived.Deep.QuietTactic
import Derived.BigQuiet
namespace Go.Proofs.YtapffbbmofhpobaDoor.L6
open Go.RowKit L1
set_option linter.unusedVariables false

/-- A piece: From, Bytes, Index. -/
structure Pc where
  f : Int
  s : ByteArray
  x : List Int
def eC : Pc := ⟨0, ByteArray.empty, []⟩
/-- A piece with the slice that is its Index. -/
abbrev PV := Pc × Value
def eV : PV := (eC, .slice none 0 0)
/-- A piece as a value. -/
abbrev svC (p : Pc) (v : Value) : Value := .agg #[.int .i64 p.f, .string p.s, v]
/-- A piece lies in memory from a place on. -/
structure AtC (w : World) (b o : Nat) (p : Pc) (a : Option Addr) (c : Nat) : Prop where
  f : w.cell? ⟨b, o, none⟩ = some (.int .i64 p.f)
  s : w.cell? ⟨b, o + 1, none⟩ = some (.string p.s)
  x : w.cell? ⟨b, o + 2, none⟩ = some (.slice a p.x.length c)
  l : Sl w a p.x
theorem AtC.below {w w' : World} {b o c : Nat} {p : Pc} {a : Option Addr} (h : AtC w b o p a c) (hb : Below w.heap.size w w') : AtC w' b o p a c :=
  ⟨(hb.cell (p := ⟨b, o, none⟩) (blk_lt h.f)).trans h.f, (hb.cell (p := ⟨b, o + 1, none⟩) (blk_lt h.f)).trans h.s, (hb.cell (p := ⟨b, o + 2, none⟩) (blk_lt h.f)).trans h.x, h.l.below hb⟩
/-- A list of pieces lies in memory from an address on. -/
def SlC (w : World) (a : Option Addr) (l : List Pc) : Prop := ∀ i, i < l.length → ∃ b off, a = some ⟨b, off, none⟩ ∧ ∃ ai ci, AtC w b (off + i * 3) (l.getD i eC) ai ci
theorem SlC.below {w w' : World} {a : Option Addr} {xs : List Pc} (h : SlC w a xs) (hb : Below w.heap.size w w') : SlC w' a xs := fun i hi => by
  obtain ⟨b, off, ha, ai, ci, hc⟩ := h i hi
  exact ⟨b, off, ha, ai, ci, hc.below hb⟩
theorem sl_lt {w : World} {a : Option Addr} {xs : List Int} (h : Sl w a xs) (i : Nat) (hi : i < xs.length) : ∃ x, a = some x ∧ x.block < w.heap.size := by
  obtain ⟨b, off, ha, hc⟩ := h i hi
  exact ⟨_, ha, blk_lt hc⟩
/-- The cells of pieces, one behind the other. -/
def flatC : List PV → List Value
  | [] => []
  | p :: l => .int .i64 p.1.f :: .string p.1.s :: p.2 :: flatC l
theorem flatC_len : ∀ l : List PV, (flatC l).length = l.length * 3
  | [] => rfl
  | p :: l => by simp [flatC, flatC_len l]; omega
theorem flatC_get : ∀ (l : List PV) (i : Nat), i < l.length → (flatC l)[i * 3]? = some (.int .i64 (l.getD i eV).1.f) ∧ (flatC l)[i * 3 + 1]? = some (.string (l.getD i eV).1.s) ∧ (flatC l)[i * 3 + 2]? = some (l.getD i eV).2
  | [], i, h => by simp at h
  | p :: l, 0, _ => ⟨rfl, rfl, rfl⟩
  | p :: l, i + 1, h => by
    have := flatC_get l i (by simpa using h)
    have e1 : (i + 1) * 3 = i * 3 + 1 + 1 + 1 := by omega
    have e2 : (i + 1) * 3 + 1 = i * 3 + 1 + 1 + 1 + 1 := by omega
    have e3 : (i + 1) * 3 + 2 = i * 3 + 2 + 1 + 1 + 1 := by omega
    rw [e2, e3, e1]
    simpa only [flatC, List.getElem?_cons_succ, List.getD_cons_succ] using this
theorem flatC_append (l m : List PV) : flatC (l ++ m) = flatC l ++ flatC m := by
  induction l with
  | nil => rfl
  | cons p l ih => simp [flatC, ih]
/-- One piece written over. -/
def setC (c : List Value) (o : Nat) (p : PV) : List Value := ((c.set o (.int .i64 p.1.f)).set (o + 1) (.string p.1.s)).set (o + 2) p.2
theorem flatC_set : ∀ (l : List PV) (i : Nat) (p : PV), flatC (l.set i p) = setC (flatC l) (i * 3) p
  | [], _, _ => rfl
  | q :: l, 0, p => rfl
  | q :: l, i + 1, p => by
    have := flatC_set l i p
    have e1 : (i + 1) * 3 = i * 3 + 1 + 1 + 1 := by omega
    unfold setC at this ⊢
    rw [e1]
    have f2 : i * 3 + 1 + 1 + 1 + 2 = i * 3 + 2 + 1 + 1 + 1 := by omega
    rw [f2]
    simp only [List.set_cons_succ, flatC, this]
theorem flatC_one : ∀ l : List PV, (∀ q ∈ l, q.2.oneCell' = true) → ∀ u ∈ flatC l, u.oneCell' = true
  | [], _, u, h => by simp [flatC] at h
  | p :: l, hl, u, h => by
    simp only [flatC, List.mem_cons] at h
    rcases h with rfl | rfl | rfl | h
    · rfl
    · rfl
    · exact hl p (by simp)
    · exact flatC_one l (fun q hq => hl q (by simp [hq])) u h
theorem info_piece : (Tryd.prog.info? 37).map (fun i => (i.zero, i.size, i.bytes)) = some (some (.agg #[.int .i64 0, .string ByteArray.empty, .slice none 0 0]), 3, 48) := by kernel_rfl
/-- The plain pieces. -/
abbrev pcs (M : List PV) : List Pc := M.map Prod.fst
theorem pcs_get (M : List PV) (i : Nat) (h : i < M.length) : (pcs M).getD i eC = (M.getD i eV).1 := by simp [List.getD, List.getElem?_eq_getElem h]
/-- Pieces that lie in memory of their own: a row, and a row of its own for each Index. -/
structure OwC (w : World) (base : Nat) (v : Value) (n : Nat) (M : List PV) : Prop where
  len : M.length = n
  row : w.ownsRow base 37 3 v n (flatC M)
  idx : ∀ i, i < n → w.ownsRow base 3 1 (M.getD i eV).2 (M.getD i eV).1.x.length ((M.getD i eV).1.x.map (Value.int .i64))
  apart : ∀ i j, i < j → j < n → ∀ g, (M.getD i eV).2.ownBlock = some g → (M.getD j eV).2.ownBlock ≠ some g
theorem own_baseC {w : World} {b1 b2 n c : Nat} {t : TypeId} {v : Value} {ys : List Value} (h : w.ownsRow b1 t c v n ys) (hb : b2 ≤ b1) : w.ownsRow b2 t c v n ys := by
  refine ⟨h.1, ?_⟩
  rcases h.2 with h0 | ⟨g, cap, cur, rfl, hbg, hg, r⟩
  · exact .inl h0
  · exact .inr ⟨g, cap, cur, rfl, Nat.le_trans hb hbg, hg, r⟩
theorem own_belowC {w w' : World} {base n c : Nat} {t : TypeId} {v : Value} {ys : List Value} (h : w.ownsRow base t c v n ys) (hb : Below w.heap.size w w') : w'.ownsRow base t c v n ys := by
  refine ⟨h.1, ?_⟩
  rcases h.2 with h0 | ⟨g, cap, cur, rfl, hbg, hg, r⟩
  · exact .inl h0
  · exact .inr ⟨g, cap, cur, rfl, hbg, by rw [hb.block g (Array.getElem?_eq_some_iff.1 hg).1]; exact hg, r⟩
/-- Blocks of two types are two. -/
theorem own_two {w : World} {b1 b2 n1 n2 c1 c2 : Nat} {t1 t2 : TypeId} {v1 v2 : Value} {y1 y2 : List Value} (h1 : w.ownsRow b1 t1 c1 v1 n1 y1) (h2 : w.ownsRow b2 t2 c2 v2 n2 y2) (ht : t1 ≠ t2) (g : Nat) (e1 : v1.ownBlock = some g) : v2.ownBlock ≠ some g := by
  intro e2
  rcases h1.2 with ⟨rfl, _⟩ | ⟨g1, cap1, cur1, rfl, _, hg1, _⟩
  · simp [Value.ownBlock] at e1
  · rcases h2.2 with ⟨rfl, _⟩ | ⟨g2, cap2, cur2, rfl, _, hg2, _⟩
    · simp [Value.ownBlock] at e2
    · simp [Value.ownBlock] at e1 e2
      subst e1
      subst e2
      rw [hg1] at hg2
      simp at hg2
      exact ht hg2.2
theorem own_keptC {w w' : World} {base c n : Nat} {t : TypeId} {v : Value} {xs : List Value} {r : Option Nat} (h : w.ownsRow base t c v n xs) (hg : w.grownBy w' r) (hne : ∀ g, v.ownBlock = some g → r ≠ some g) : w'.ownsRow base t c v n xs := by
  refine ⟨h.1, ?_⟩
  rcases h.2 with h0 | ⟨g, cap, cur, hv, hb, hh, rest⟩
  · exact .inl h0
  · refine .inr ⟨g, cap, cur, hv, hb, ?_, rest⟩
    rw [hg.block g (Array.getElem?_eq_some_iff.1 hh).1 (fun e => hne g (by rw [hv]; rfl) e.symm)]
    exact hh
theorem OwC.below {w w' : World} {base n : Nat} {v : Value} {M : List PV} (h : OwC w base v n M) (hb : Below w.heap.size w w') : OwC w' base v n M :=
  ⟨h.len, own_belowC h.row hb, fun i hi => own_belowC (h.idx i hi) hb, h.apart⟩
theorem OwC.base {w : World} {b1 b2 n : Nat} {v : Value} {M : List PV} (h : OwC w b1 v n M) (hb : b2 ≤ b1) : OwC w b2 v n M :=
  ⟨h.len, own_baseC h.row hb, fun i hi => own_baseC (h.idx i hi) hb, h.apart⟩
theorem int_piece : 37 ≠ 3 := by decide
theorem own_slI6 {w : World} {base n cap : Nat} {a : Option Addr} {xs : List Int} (h : w.ownsRow base 3 1 (.slice a n cap) n (xs.map (Value.int .i64))) : Sl w a xs := by
  obtain ⟨b, q, e, s, _⟩ := own_form h
  cases e
  exact s
theorem OwC.form {w : World} {base n : Nat} {v : Value} {M : List PV} (h : OwC w base v n M) : ∃ a cap, v = .slice a n cap ∧ SlC w a (pcs M) := by
  have hl := h.len
  rcases h.row.2 with ⟨hv, h0⟩ | ⟨g, cap, cur, hv, _⟩
  · subst h0
    exact ⟨none, 0, hv, fun i hi => by simp at hi; omega⟩
  · subst hv
    refine ⟨_, cap, rfl, fun i hi => ?_⟩
    have hi' : i < M.length := by simpa using hi
    obtain ⟨f1, f2, f3⟩ := flatC_get M i hi'
    have h1 := h.row.cells (g := g) rfl (i * 3) _ f1
    have h2 := h.row.cells (g := g) rfl (i * 3 + 1) _ f2
    have h3 := h.row.cells (g := g) rfl (i * 3 + 2) _ f3
    rw [addr_add] at h1 h2 h3
    rw [pcs_get M i hi']
    obtain ⟨ai, ci, e, hs, _⟩ := own_form (h.idx i (by omega))
    rw [e] at h3
    exact ⟨g, 0, rfl, ai, ci, by simpa using h1, by simpa using h2, by simpa using h3, hs⟩
theorem OwC.sl {w : World} {base n cap : Nat} {a : Option Addr} {M : List PV} (h : OwC w base (.slice a n cap) n M) : SlC w a (pcs M) := by
  obtain ⟨b, q, e, s⟩ := h.form
  cases e
  exact s
/-- Texts and lists are no longer than a machine's. -/
def TxC (l : List Pc) : Prop := ∀ j, j < l.length → (l.getD j eC).s.size ≤ 9223372036854775807 ∧ (l.getD j eC).x.length ≤ 9223372036854775807
/-- What a walk is told of a slice of pieces that came in. -/
def IsRowC (w : World) (a : Option Addr) (len : Nat) (l : List Pc) : Prop := (l.length = len ∧ len ≤ maxLen ∧ SlC w a l) ∧ TxC l
theorem add_at6 (b off i : Nat) : (⟨b, off, none⟩ : Addr).add i = ⟨b, off + i, none⟩ := by unfold Addr.add; split <;> simp_all
open Classical in
theorem rowC_of {w : World} {a : Addr} {len cap : Nat} (hl : len ≤ cap) (hm : cap ≤ maxLen) (h : ∀ i, i < len → ∃ (p : Pc) (ai : Option Addr) (ci : Nat), (w.cell? (a.add (i * 3)) = some (.int .i64 p.f) ∧ w.cell? (a.add (i * 3 + 1)) = some (.string p.s) ∧ w.cell? (a.add (i * 3 + 2)) = some (.slice ai p.x.length ci) ∧ Sl w ai p.x) ∧ p.s.size ≤ maxLen ∧ p.x.length ≤ maxLen) : ∃ l, IsRowC w (some a) len l := by
  obtain ⟨f, hf⟩ : ∃ f : Nat → Pc, ∀ i, i < len → ∃ (ai : Option Addr) (ci : Nat), (w.cell? (a.add (i * 3)) = some (.int .i64 (f i).f) ∧ w.cell? (a.add (i * 3 + 1)) = some (.string (f i).s) ∧ w.cell? (a.add (i * 3 + 2)) = some (.slice ai (f i).x.length ci) ∧ Sl w ai (f i).x) ∧ (f i).s.size ≤ maxLen ∧ (f i).x.length ≤ maxLen := by
    refine ⟨fun i => if hi : i < len then Classical.choose (h i hi) else eC, fun i hi => ?_⟩
    simp only [dif_pos hi]
    exact Classical.choose_spec (h i hi)
  have hg : ∀ i, i < len → ((List.range len).map f).getD i eC = f i := fun i hi => by simp [List.getD, hi]
  refine ⟨(List.range len).map f, ⟨by simp, Nat.le_trans hl hm, fun i hi => ?_⟩, fun j hj => ?_⟩
  · have hi' : i < len := by simpa using hi
    obtain ⟨b, off, spot⟩ := a
    have hspot : spot = none := by
      obtain ⟨_, _, ⟨h00, _⟩, _⟩ := hf 0 (by omega)
      have := World.cell?_spot h00
      simpa [Addr.add] using this
    subst hspot
    obtain ⟨ai, ci, ⟨h1, h2, h3, h4⟩, _⟩ := hf i hi'
    simp only [add_at6] at h1 h2 h3
    rw [hg i hi']
    exact ⟨b, off, rfl, ai, ci, h1, by rw [Nat.add_assoc]; exact h2, by rw [Nat.add_assoc]; exact h3, h4⟩
  · have hj' : j < len := by simpa using hj
    obtain ⟨_, _, _, h1, h2⟩ := hf j hj'
    unfold maxLen at h1 h2
    rw [hg j hj']
    omega
end Go.Proofs.YtapffbbmofhpobaDoor.L6

namespace Go.Proofs.YtapffbbmofhpobaDoor.L6
open Go.RowKit L1 Go.ChangeShapes Go.WideShapes
set_option linter.unusedVariables false

theorem sl_of_cells {w : World} {x : Addr} {zs : List Int} {len : Nat} (hl : len ≤ zs.length) (hc : ∀ i, i < zs.length → w.cell? (x.add i) = some (.int .i64 (zs.getD i 0))) : Sl w (some x) (zs.take len) ∧ (zs.take len).length = len := by
  refine ⟨fun i hi => ?_, by simp; omega⟩
  have hi' : i < zs.length := by simp at hi; omega
  have hil : i < len := by simp at hi; omega
  have h0 := hc i hi'
  obtain ⟨b, off, spot⟩ := x
  have hspot : spot = none := by
    have h00 := hc 0 (by omega)
    simpa [Addr.add] using World.cell?_spot h00
  subst hspot
  refine ⟨b, off, rfl, ?_⟩
  rw [add_at6] at h0
  rw [h0]
  simp [List.getD, hil]
theorem cellsPc : Tryd.prog.cellsOf 62 = 3 := by kernel_rfl
theorem cellsIn6 : Tryd.prog.cellsOf 3 = 1 := by kernel_rfl
theorem cellsSt6 : Tryd.prog.cellsOf 9 = 1 := by kernel_rfl
theorem cellsSi6 : Tryd.prog.cellsOf 35 = 1 := by kernel_rfl
set_option maxRecDepth 100000 in
theorem open_pieces {H : Type} {enc : TypeId × Value → H} {w : World} {base fuel len cap : Nat} {spare : Nat → Bool} {held : Bool} {a : Option Addr} {x : DataW H × List MemPlace}
    (h : DataW.trod enc Tryd.prog w base spare held fuel 22 [.slice a len cap] = some x) : ∃ l, IsRowC w a len l := by
  rcases Go.Deep.open_slice Tryd.underlying22 h with ⟨hcs, _⟩ | ⟨a', len', cap', m, n, D, Pl, hcs, hb, hl, hm, hmm, _, hx⟩
  · simp at hcs
    obtain ⟨rfl, rfl, rfl⟩ := hcs
    exact ⟨[], ⟨rfl, by unfold maxLen; omega, fun i hi => by simp at hi⟩, fun j hj => by simp at hj⟩
  · simp at hcs
    obtain ⟨rfl, rfl, rfl⟩ := hcs
    refine rowC_of hl hm fun i hi => ?_
    obtain ⟨cs', h1, h2⟩ := hx i (by rw [hmm]; split <;> omega)
    rw [cellsPc] at h1
    obtain ⟨_, hlen, hcell⟩ := World.cells?_some h1
    obtain ⟨xs, k, hk, hxy, _, hxl, hf⟩ := DataW.trod_struct Tryd.underlying62 h2
    obtain ⟨v0, v1, v2, rfl⟩ : ∃ v0 v1 v2, cs' = [v0, v1, v2] := by
      match cs', hlen with
      | [v0, v1, v2], _ => exact ⟨_, _, _, rfl⟩
    obtain ⟨y0, y1, y2, rfl⟩ : ∃ y0 y1 y2, xs = [y0, y1, y2] := by
      have hxl' : xs.length = 3 := hxl
      clear hf hxl hxy
      match xs, hxl' with
      | [y0, y1, y2], _ => exact ⟨_, _, _, rfl⟩
    have g0 := hf 0 _ rfl
    have g1 := hf 1 _ rfl
    have g2 := hf 2 _ rfl
    simp [cellsIn6, cellsSt6, cellsSi6] at g0 g1 g2
    obtain ⟨n0, e0, _, _⟩ := DataW.trod_int Tryd.underlying3 g0
    obtain ⟨n1, e1, _, s1⟩ := DataW.trod_string Tryd.underlying9 g1
    simp at e0 e1
    subst e0 e1
    have c0 := hcell 0 (by omega)
    have c1 := hcell 1 (by omega)
    have c2 := hcell 2 (by omega)
    rw [Go.Deep.add_add] at c0 c1 c2
    rcases open_ints Tryd.underlying35 Tryd.underlying3 (by kernel_rfl) g2 with ⟨hcs, _⟩ | ⟨ax, l2, cx, zs, hcs, _, hl2, hm2, hz, hx2, hcell2, hwz⟩
    · simp at hcs
      subst hcs
      exact ⟨⟨n0, n1, []⟩, none, 0, ⟨by simpa using c0, by simpa using c1, by simpa using c2, fun i hi => by simp at hi⟩, s1, by unfold maxLen; simp⟩
    · simp at hcs
      subst hcs
      obtain ⟨r1, r2⟩ := sl_of_cells (len := l2) (by rw [hz]; split <;> omega) hcell2
      exact ⟨⟨n0, n1, zs.take l2⟩, some ax, cx, ⟨by simpa using c0, by simpa using c1, by simp only [r2]; simpa using c2, r1⟩, s1, by simp only [r2]; omega⟩
/-- What lies in a cell of that type is a slice. -/
theorem open_pieces_cell {H : Type} {enc : TypeId × Value → H} {w : World} {base fuel : Nat} {spare : Nat → Bool} {held : Bool} {v : Value} {x : DataW H × List MemPlace}
    (h : DataW.trod enc Tryd.prog w base spare held fuel 22 [v] = some x) : ∃ a len cap, v = .slice a len cap ∧ ∃ l, IsRowC w a len l := by
  have h0 := h
  rcases Go.Deep.open_slice Tryd.underlying22 h with ⟨hcs, _⟩ | ⟨a', len', cap', m, n, D, Pl, hcs, _⟩
  · simp at hcs
    subst hcs
    exact ⟨_, _, _, rfl, open_pieces h0⟩
  · simp at hcs
    subst hcs
    exact ⟨_, _, _, rfl, open_pieces h0⟩
end Go.Proofs.YtapffbbmofhpobaDoor.L6

namespace Go.Proofs.YtapffbbmofhpobaDoor.L6
open Go.RowKit L1
set_option linter.unusedVariables false

/-- The lengths of all texts and lists. -/
def szc : List Pc → Nat
  | [] => 0
  | p :: l => (p.s.size + p.x.length) + szc l
theorem szc_append : ∀ l m : List Pc, szc (l ++ m) = szc l + szc m
  | [], m => by simp [szc]
  | p :: l, m => by simp [szc, szc_append l m]; omega
theorem szc_take (l : List Pc) (k : Nat) (hk : k < l.length) : szc (l.take (k + 1)) = szc (l.take k) + ((l.getD k eC).s.size + (l.getD k eC).x.length) := by
  rw [List.take_succ_eq_append_getElem hk, szc_append]
  simp [szc, List.getD, List.getElem?_eq_getElem hk]
theorem szc_le (l : List Pc) (k : Nat) : szc (l.take k) ≤ szc l := by
  have h : l = l.take k ++ l.drop k := (List.take_append_drop k l).symm
  have := szc_append (l.take k) (l.drop k)
  rw [← h] at this
  omega
theorem szc_get (l : List Pc) (k : Nat) (h : k < l.length) : (l.getD k eC).s.size + (l.getD k eC).x.length ≤ szc l := by
  have h1 := szc_take l k h
  have h2 := szc_le l (k + 1)
  omega
/-- What pieces weigh. -/
def wtC (l : List Pc) : Nat := l.length + szc l

set_option maxRecDepth 100000 in
set_option maxHeartbeats 400000 in
theorem szIntS_any (a : Option Addr) (n cap : Nat) (L : Int) (w : World) (hm : n ≤ 9223372036854775807) (h0 : 0 ≤ L) (h1 : L ≤ 1048576) (r : Int) (hr : r = if (n : Int) ≤ L then L - (n : Int) else -1) :
    Calls Tryd.prog 59 #[.slice a n cap, .int .i64 L] w fun e w' => e = .returned (.int .i64 r) ∧ w = w' := by
  have HR := hide hr
  clear hr
  by_cases ha : L - (n : Int) < 0
  · go_enter Tryd.func59, Tryd.ntmps59
    go_wp2
    go_ret
    exact ⟨by rw [HR.out, if_neg (by omega)]; rfl, rfl⟩
  · go_enter Tryd.func59, Tryd.ntmps59
    go_wp2
    go_ret
    exact ⟨by rw [HR.out, if_pos (by omega)]; rfl, rfl⟩

set_option maxRecDepth 100000 in
set_option maxHeartbeats 1000000 in
theorem szPiece_any (f : Int) (s : ByteArray) (a : Option Addr) (n cap : Nat) (L : Int) (w : World) (hs : s.size ≤ 9223372036854775807) (hm : n ≤ 9223372036854775807) (h0 : 0 ≤ L) (h1 : L ≤ 1048576) (r : Int) (hr : r = if ((s.size + n : Nat) : Int) ≤ L then L - ((s.size + n : Nat) : Int) else -1) :
    Calls Tryd.prog 46 #[.agg #[.int .i64 f, .string s, .slice a n cap], .int .i64 L] w fun e w' => e = .returned (.int .i64 r) ∧ Below w.heap.size w w' := by
  have HR := hide hr
  clear hr
  by_cases ha : L - (s.size : Int) < 0
  · go_enter Tryd.func46, Tryd.ntmps46
    go_wp2
    go_ret
    exact ⟨by rw [HR.out, if_neg (by omega)]; rfl, (Below.refl _ _).alloc (Nat.le_refl _) _⟩
  · by_cases hb : (n : Int) ≤ L - (s.size : Int)
    · obtain ⟨d, hd⟩ : ∃ d, d = L - (s.size : Int) - (n : Int) := ⟨_, rfl⟩
      have C := hide (fun w => szIntS_any a n cap (L - (s.size : Int)) w hm (by omega) (by omega) d (by rw [if_pos hb]; exact hd))
      have E : Hid (r = d) := by show r = d; rw [HR.out, if_pos (by omega)]; omega
      have hd0 : ¬ d < 0 := by omega
      clear hb hd HR
      go_enter Tryd.func46, Tryd.ntmps46
      go_wp2_with fail
      refine (C.out _).mono ?_
      rintro e w1 ⟨rfl, rfl⟩
      go_wp2
      go_ret
      exact ⟨by rw [E.out]; rfl, (Below.refl _ _).alloc (Nat.le_refl _) _⟩
    · have C := hide (fun w => szIntS_any a n cap (L - (s.size : Int)) w hm (by omega) (by omega) (-1) (by rw [if_neg hb]))
      have E : Hid (r = -1) := by show r = -1; rw [HR.out, if_neg (by omega)]
      clear hb HR
      go_enter Tryd.func46, Tryd.ntmps46
      go_wp2_with fail
      refine (C.out _).mono ?_
      rintro e w1 ⟨rfl, rfl⟩
      go_wp2
      go_ret
      exact ⟨by rw [E.out]; rfl, (Below.refl _ _).alloc (Nat.le_refl _) _⟩

set_option maxRecDepth 100000 in
set_option maxHeartbeats 2000000 in
theorem szPieceS_any (a : Option Addr) (l : List Pc) (n cap : Nat) (L : Int) (w : World) (hn : l.length = n) (hm : n ≤ 9223372036854775807) (hs : SlC w a l) (hst : TxC l) (h0 : 0 ≤ L) (h1 : L ≤ 1048576) (r : Int) (hr : r = if (wtC l : Int) ≤ L then L - (wtC l : Int) else -1) :
    Calls Tryd.prog 23 #[.slice a n cap, .int .i64 L] w fun e w' => e = .returned (.int .i64 r) ∧ Below w.heap.size w w' := by
  have HR := hide hr
  have HS := hide hs
  have HN := hide hn
  have HST := hide hst
  clear hr hs hn hst
  have HW : Hid (wtC l = n + szc l) := by show wtC l = n + szc l; unfold wtC; rw [HN.out]
  by_cases ha : L - (n : Int) < 0
  · go_enter Tryd.func23, Tryd.ntmps23
    go_wp2
    go_ret
    exact ⟨by rw [HR.out, HW.out, if_neg (by omega)]; rfl, Below.refl _ _⟩
  · go_enter Tryd.func23, Tryd.ntmps23
    go_wp2
    go_loopw [1, 5] (fun t i wr => ∃ k : Nat, k ≤ n ∧ i = .int .i64 k ∧ t = .int .i64 (L - (n : Int) - (szc (l.take k) : Int)) ∧ Hid ((szc (l.take k) : Int) ≤ L - (n : Int)) ∧ Below w.heap.size w wr) (fun _ i _ => n - (intOf i).toNat)
    case atStart => exact ⟨0, Nat.zero_le _, rfl, by simp [szc], by show (szc (l.take 0) : Int) ≤ L - (n : Int); simp [szc]; omega, Below.refl _ _⟩
    case round =>
      obtain ⟨k, hk, rfl, rfl, HK, hbel⟩ := hrel
      by_cases hlt : k < n
      · obtain ⟨b, off, rfl, ai, ci, hat0⟩ := HS.out k (by rw [HN.out]; exact hlt)
        have hat : AtC wr b (off + k * 3) (l.getD k eC) ai ci :=
          ⟨(hbel.cell (p := ⟨b, off + k * 3, none⟩) (blk_lt hat0.f)).trans hat0.f, (hbel.cell (p := ⟨b, off + k * 3 + 1, none⟩) (blk_lt hat0.f)).trans hat0.s, (hbel.cell (p := ⟨b, off + k * 3 + 2, none⟩) (blk_lt hat0.f)).trans hat0.x, hat0.l.below hbel⟩
        have hltI : (k : Int) < (n : Int) := by omega
        have hsx := HST.out k (by rw [HN.out]; exact hlt)
        have htk := szc_take l k (by rw [HN.out]; exact hlt)
        have hle := szc_le l (k + 1)
        have hc1 := hat.f
        have hc2 := hat.s
        have hc3 := hat.x
        obtain ⟨p, hp⟩ : ∃ p, p = l.getD k eC := ⟨_, rfl⟩
        rw [← hp] at hc1 hc2 hc3 hsx htk
        obtain ⟨f, s, x⟩ := p
        simp only at hc1 hc2 hc3 hsx htk
        obtain ⟨m, hm2⟩ : ∃ m, m = x.length := ⟨_, rfl⟩
        rw [← hm2] at hc3 hsx htk
        obtain ⟨c, hcc⟩ : ∃ c, c = L - (n : Int) - (szc (l.take k) : Int) := ⟨_, rfl⟩
        have hc0 : 0 ≤ c := by have := HK.out; omega
        have hc1' : c ≤ 1048576 := by omega
        rw [← hcc]
        have C0 := hide (fun w r hr => szPiece_any f s ai m ci c w hsx.1 hsx.2 hc0 hc1' r hr)
        have HC := hide hcc
        have HTK := hide htk
        have HLE := hide hle
        have B0 := hide hbel
        clear hp hm2 hcc htk hle hbel hat hat0 hsx
        by_cases hfit : ((s.size + m : Nat) : Int) ≤ c
        · obtain ⟨d, hd'⟩ : ∃ d, d = c - ((s.size + m : Nat) : Int) := ⟨_, rfl⟩
          have C := hide (fun w => C0.out w d (by rw [if_pos hfit]; exact hd'))
          have hd0 : ¬ d < 0 := by omega
          have HD := hide hd'
          clear hd' C0
          go_wp2_with fail
          refine (C.out _).mono ?_
          rintro e w1 ⟨rfl, hb1⟩
          have B1 := hide (B0.out.trans (hb1.mono B0.out.size))
          clear hb1
          go_wp2
          go_roundw
          case rel => exact ⟨k + 1, by omega, by go_num, by rw [HD.out, HC.out, HTK.out]; go_num, by show (szc (l.take (k + 1)) : Int) ≤ L - (n : Int); have := HC.out; have := HTK.out; omega, B1.out⟩
          case measure => simp [intOf]; omega
        · have C := hide (fun w => C0.out w (-1) (by rw [if_neg hfit]))
          have E : Hid (r = -1) := by show r = -1; have := HC.out; have := HTK.out; have := HLE.out; rw [HR.out, HW.out, if_neg (by omega)]
          clear hfit C0
          go_wp2_with fail
          refine (C.out _).mono ?_
          rintro e w1 ⟨rfl, hb1⟩
          have B1 := hide (B0.out.trans (hb1.mono B0.out.size))
          clear hb1
          go_wp2
          go_ret
          exact ⟨by rw [E.out]; rfl, B1.out⟩
      · obtain rfl : k = n := by omega
        have hltI : ¬ (k : Int) < (k : Int) := by omega
        have e1 : l.take k = l := List.take_of_length_le (by rw [HN.out]; exact Nat.le_refl _)
        rw [e1] at HK ⊢
        have E : Hid (r = L - (k : Int) - (szc l : Int)) := by show r = _; have := HK.out; rw [HR.out, HW.out, if_pos (by omega)]; omega
        clear e1
        go_wp2
        go_ret
        exact ⟨by rw [E.out]; rfl, hbel⟩

set_option maxRecDepth 100000 in
set_option maxHeartbeats 1000000 in
theorem szLog_any (a : Option Addr) (l : List Pc) (n cap : Nat) (B : Int) (L : Int) (w : World) (hn : l.length = n) (hm : n ≤ 9223372036854775807) (hs : SlC w a l) (hst : TxC l) (h0 : 0 ≤ L) (h1 : L ≤ 1048576) (r : Int) (hr : r = if (wtC l : Int) ≤ L then L - (wtC l : Int) else -1) :
    Calls Tryd.prog 7 #[.agg #[.slice a n cap, .int .i64 B], .int .i64 L] w fun e w' => e = .returned (.int .i64 r) ∧ Below w.heap.size w w' := by
  have C := hide (fun w (hs : SlC w a l) => szPieceS_any a l n cap L w hn hm hs hst h0 h1 r hr)
  have HS := hide hs
  have hE : r = -1 ∨ 0 ≤ r := by rw [hr]; split <;> omega
  clear hs hn hst hr
  rcases hE with rfl | hr0
  · go_enter Tryd.func7, Tryd.ntmps7
    go_wp2_with fail
    refine (C.out _ (HS.out.below ((Below.refl _ _).alloc (Nat.le_refl _) _))).mono ?_
    rintro e w1 ⟨rfl, hb1⟩
    have B1 := hide (((Below.refl w.heap.size w).alloc (Nat.le_refl _) _).trans (hb1.mono (by simp)))
    clear hb1
    go_wp2
    go_ret
    exact ⟨rfl, B1.out⟩
  · have hr1 : ¬ r < 0 := by omega
    go_enter Tryd.func7, Tryd.ntmps7
    go_wp2_with fail
    refine (C.out _ (HS.out.below ((Below.refl _ _).alloc (Nat.le_refl _) _))).mono ?_
    rintro e w1 ⟨rfl, hb1⟩
    have B1 := hide (((Below.refl w.heap.size w).alloc (Nat.le_refl _) _).trans (hb1.mono (by simp)))
    clear hb1
    go_wp2
    go_ret
    exact ⟨rfl, B1.out⟩
end Go.Proofs.YtapffbbmofhpobaDoor.L6

namespace Go.Proofs.YtapffbbmofhpobaDoor.L6
open Go.RowKit L1
set_option linter.unusedVariables false

theorem getD_set_self (M : List PV) (k : Nat) (p : PV) (h : k < M.length) : (M.set k p).getD k eV = p := by simp [List.getD, h]
theorem getD_set_ne (M : List PV) (k i : Nat) (p : PV) (h : i ≠ k) : (M.set k p).getD i eV = M.getD i eV := by simp [List.getD, Ne.symm h]
/-- Three cells of a row that is owned, written over. -/
theorem OwC.put {w : World} {base g n cap : Nat} {M : List PV} (h : OwC w base (.slice (some ⟨g, 0, none⟩) n cap) n M) (k : Nat) (hk : k < n) (p : Pc) (v : Value)
    (hv : w.ownsRow base 3 1 v p.x.length (p.x.map (Value.int .i64))) (hne : ∀ i, i < n → i ≠ k → ∀ b, v.ownBlock = some b → (M.getD i eV).2.ownBlock ≠ some b) :
    OwC (((w.setCell ⟨g, k * 3, none⟩ (.int .i64 p.f)).setCell ⟨g, k * 3 + 1, none⟩ (.string p.s)).setCell ⟨g, k * 3 + 2, none⟩ v) base (.slice (some ⟨g, 0, none⟩) n cap) n (M.set k (p, v)) ∧
    w.grownBy (((w.setCell ⟨g, k * 3, none⟩ (.int .i64 p.f)).setCell ⟨g, k * 3 + 1, none⟩ (.string p.s)).setCell ⟨g, k * 3 + 2, none⟩ v) (some g) := by
  have h1 := h.row.stored (k * 3) (.int .i64 p.f)
  have h2 := h1.1.stored (k * 3 + 1) (.string p.s)
  have h3 := h2.1.stored (k * 3 + 2) v
  have hg := (h1.2.trans h2.2).trans h3.2
  have hl := h.len
  have keep : ∀ {c m : Nat} {u : Value} {ys : List Value}, w.ownsRow base 3 c u m ys → (((w.setCell ⟨g, k * 3, none⟩ (.int .i64 p.f)).setCell ⟨g, k * 3 + 1, none⟩ (.string p.s)).setCell ⟨g, k * 3 + 2, none⟩ v).ownsRow base 3 c u m ys := fun hu =>
    own_keptC hu hg (fun b hb e => by
      simp at e
      subst e
      exact own_two h.row hu int_piece g rfl hb)
  refine ⟨⟨by simpa using hl, by rw [flatC_set]; exact h3.1, fun i hi => ?_, fun i j hij hj => ?_⟩, hg⟩
  · by_cases e : i = k
    · subst e
      rw [getD_set_self M i _ (by omega)]
      exact keep hv
    · rw [getD_set_ne M k i _ e]
      exact keep (h.idx i hi)
  · intro b
    by_cases e : i = k
    · have e2 : j ≠ k := by omega
      subst e
      rw [getD_set_self M i _ (by omega), getD_set_ne M i j _ e2]
      exact hne j hj e2 b
    · by_cases e2 : j = k
      · subst e2
        rw [getD_set_self M j _ (by omega), getD_set_ne M j i _ e]
        intro h1 h2
        exact hne i (by omega) e b h2 h1
      · rw [getD_set_ne M k i _ e, getD_set_ne M k j _ e2]
        exact h.apart i j hij hj b
/-- Blocks of what is owned are there. -/
theorem own_ltC {w : World} {base n c : Nat} {t : TypeId} {v : Value} {ys : List Value} (h : w.ownsRow base t c v n ys) (b : Nat) (hb : v.ownBlock = some b) : base ≤ b ∧ b < w.heap.size := by
  rcases h.2 with ⟨rfl, _⟩ | ⟨g, cap, cur, rfl, hbg, hg, _⟩
  · simp [Value.ownBlock] at hb
  · simp [Value.ownBlock] at hb
    subst hb
    exact ⟨hbg, (Array.getElem?_eq_some_iff.1 hg).1⟩

end Go.Proofs.YtapffbbmofhpobaDoor.L6

namespace Go.Proofs.YtapffbbmofhpobaDoor.L6
open Go.RowKit L1
set_option linter.unusedVariables false

theorem blk3 {w : World} {g : Nat} {a b c : Value} {t : TypeId} (h : w.heap[g]? = some (.cells #[a, b, c] t (0, 0))) :
    w.cell? ⟨g, 0, none⟩ = some a ∧ w.cell? ⟨g, 1, none⟩ = some b ∧ w.cell? ⟨g, 2, none⟩ = some c ∧ w.frozen? ⟨g, 0, none⟩ = false ∧ w.frozen? ⟨g, 1, none⟩ = false ∧ w.frozen? ⟨g, 2, none⟩ = false := by
  simp [World.cell?, World.frozen?, h]
theorem blk_new (w : World) (o : Obj) : (w.alloc o).heap[w.heap.size]? = some o := by
  show (w.heap.push o)[w.heap.size]? = some o
  exact Array.getElem?_push_size
theorem own_setC {w : World} {base n c : Nat} {t : TypeId} {v : Value} {ys : List Value} (h : w.ownsRow base t c v n ys) (p : Addr) (u : Value) (hp : p.block < base) : (w.setCell p u).ownsRow base t c v n ys := by
  refine ⟨h.1, ?_⟩
  rcases h.2 with h0 | ⟨g, cap, cur, rfl, hbg, hg, r⟩
  · exact .inl h0
  · exact .inr ⟨g, cap, cur, rfl, hbg, by rw [Below.heap_setCell _ _ _ _ (by omega)]; exact hg, r⟩
theorem slice_to (w : World) (s : ByteArray) (k : Nat) (h : k ≤ s.size) :
    (Instr.slice 9 (.string s) none (some (.int .i64 (k : Int))) none).run Tryd.prog w = .ok (.string (s.extract 0 k)) w := by
  have h := run_slice_string_to_if (P := Tryd.prog) w 9 s .i64 (k : Int) Tryd.underlying9
  rw [h]
  rw [if_pos (by omega)]
  congr 4

end Go.Proofs.YtapffbbmofhpobaDoor.L6

namespace Go.Proofs.YtapffbbmofhpobaDoor.L6
open Go.RowKit L1
set_option linter.unusedVariables false

theorem wrap6 {z : Int} (h1 : -9223372036854775808 ≤ z) (h2 : z ≤ 9223372036854775807) : IntKind.i64.wrap z = z := by
  simp only [IntKind.wrap, IntKind.bits, IntKind.signed]
  simp
  omega
def GoodP (p : Pc) : Prop := p.s.size ≤ 60 ∧ wh p.s = p.s.size ∧ p.x = ix p.s
abbrev gc (L : List Pc) (i : Nat) : Pc := L.getD i eC
/-- The offset at which a piece is to begin. -/
def atg (L : List Pc) : Nat → Int
  | 0 => (gc L 0).f
  | i + 1 => atg L i + (cnt (gc L i).s : Int)
/-- What a piece at a place of the log is. -/
def OkC (L : List Pc) (i : Nat) : Prop := GoodP (gc L i) ∧ (gc L i).f = atg L i ∧ (i + 1 < L.length → cnt (gc L i).s ≠ 0)
def GoodPs (L : List Pc) : Prop := ∀ i, i < L.length → OkC L i
structure GoodG (L : List Pc) (B : Int) : Prop where
  one : 1 ≤ L.length
  many : L.length ≤ 20
  f0 : 0 ≤ (gc L 0).f
  f1 : (gc L 0).f ≤ 100000
  ps : GoodPs L
  b0 : (gc L 0).f ≤ B
  b1 : B ≤ (gc L 0).f + (cnt (gc L 0).s : Int)
  few : atg L L.length - (gc L 0).f ≤ 60
theorem good_empty {p : Pc} (h : GoodP p) : cnt p.s = 0 ↔ p.s.size = 0 := by
  constructor
  · intro h0
    have := h.2.1
    unfold wh at this
    rw [h0] at this
    exact this.symm
  · intro h0
    have := cnt_le p.s
    omega
theorem good_cnt {p : Pc} (h : GoodP p) : cnt p.s ≤ 60 := Nat.le_trans (cnt_le p.s) h.1
theorem atg_bd (L : List Pc) : ∀ i, (∀ j, j < i → GoodP (gc L j)) → (gc L 0).f ≤ atg L i ∧ atg L i ≤ (gc L 0).f + 60 * (i : Int)
  | 0, _ => by unfold atg; omega
  | i + 1, h => by
    have h1 := atg_bd L i (fun j hj => h j (by omega))
    have h2 := good_cnt (h i (by omega))
    unfold atg
    omega
theorem atg_mono (L : List Pc) (i : Nat) : atg L i ≤ atg L (i + 1) := by
  show atg L i ≤ atg L i + _
  omega
theorem atg_mono2 (L : List Pc) {i j : Nat} (h : i ≤ j) : atg L i ≤ atg L j := by
  induction j with
  | zero => obtain rfl : i = 0 := by omega
            exact Int.le_refl _
  | succ j ih =>
    by_cases e : i = j + 1
    · subst e; exact Int.le_refl _
    · exact Int.le_trans (ih (by omega)) (atg_mono L j)
/-- The end of a log. -/
def endg (L : List Pc) : Int := atg L L.length
theorem end_last {L : List Pc} (h1 : 1 ≤ L.length) (h : GoodPs L) : endg L = (gc L (L.length - 1)).f + (cnt (gc L (L.length - 1)).s : Int) := by
  unfold endg
  obtain ⟨k, hk⟩ : ∃ k, L.length = k + 1 := ⟨L.length - 1, by omega⟩
  rw [hk]
  show atg L k + _ = _
  rw [show k + 1 - 1 = k from rfl, (h k (by omega)).2.1]
theorem GoodG.end0 {L : List Pc} {B : Int} (h : GoodG L B) : B ≤ endg L ∧ 0 ≤ B ∧ endg L ≤ 100060 ∧ B ≤ 100060 := by
  have h1 := h.few
  have h2 := h.b0
  have h3 := h.b1
  have h4 : atg L 1 ≤ atg L L.length := atg_mono2 L h.one
  have h5 : atg L 1 = (gc L 0).f + (cnt (gc L 0).s : Int) := rfl
  have h6 := h.f0
  have h7 := h.f1
  unfold endg
  omega
/-- A record's text. -/
def rtx (s : ByteArray) (a : Nat) : ByteArray :=
  match rc s a with
  | none => ByteArray.empty
  | some (c, n) => s.extract c (c + n)
theorem rtx_some {s : ByteArray} {a c n : Nat} (h : rc s a = some (c, n)) : rtx s a = s.extract c (c + n) := by unfold rtx; rw [h]
theorem rtx_size (s : ByteArray) (a : Nat) : (rtx s a).size ≤ 20 := by
  unfold rtx
  split
  · exact Nat.zero_le _
  · rename_i c n h
    have := rc_lt h
    simp
    omega
/-- The first records of a text. -/
def rk (s : ByteArray) (k : Nat) : List ByteArray := (List.range k).map fun j => rtx s (pl s 0 j)
theorem rk_succ (s : ByteArray) (k : Nat) : rk s (k + 1) = rk s k ++ [rtx s (pl s 0 k)] := by simp [rk, List.range_succ]
theorem rk_len (s : ByteArray) (k : Nat) : (rk s k).length = k := by simp [rk]
theorem rk_get (s : ByteArray) (k j : Nat) (h : j < k) : (rk s k).getD j ByteArray.empty = rtx s (pl s 0 j) := by simp [rk, List.getD, h]
/-- Of a text's first records those whose offset is at least Begin. -/
def fl (B f : Int) (s : ByteArray) : Nat → List ByteArray
  | 0 => []
  | k + 1 => if B ≤ f + (k : Int) then fl B f s k ++ [rtx s (pl s 0 k)] else fl B f s k
theorem fl_yes {B f : Int} {s : ByteArray} {k : Nat} (h : B ≤ f + (k : Int)) : fl B f s (k + 1) = fl B f s k ++ [rtx s (pl s 0 k)] := by simp [fl, h]
theorem fl_no {B f : Int} {s : ByteArray} {k : Nat} (h : ¬ B ≤ f + (k : Int)) : fl B f s (k + 1) = fl B f s k := by simp [fl, h]
theorem fl_len (B f : Int) (s : ByteArray) : ∀ k, (fl B f s k).length = k - (B - f).toNat
  | 0 => by simp [fl]
  | k + 1 => by
    have ih := fl_len B f s k
    by_cases h : B ≤ f + (k : Int)
    · rw [fl_yes h]; simp; omega
    · rw [fl_no h]; omega
theorem fl_get (B f : Int) (s : ByteArray) : ∀ k j, j < k - (B - f).toNat → (fl B f s k).getD j ByteArray.empty = rtx s (pl s 0 ((B - f).toNat + j))
  | 0, j, h => by omega
  | k + 1, j, h => by
    have hb : B ≤ f + (k : Int) := by omega
    have hl := fl_len B f s k
    rw [fl_yes hb]
    by_cases e : j < k - (B - f).toNat
    · have := fl_get B f s k j e
      simp only [List.getD, List.getElem?_append_left (show j < (fl B f s k).length by omega)]
      exact this
    · have e2 : j = (fl B f s k).length := by omega
      have e3 : (B - f).toNat + j = k := by omega
      rw [e3, e2]
      simp [List.getD]
theorem gd_left (l m : List ByteArray) (j : Nat) (h : j < l.length) : (l ++ m).getD j ByteArray.empty = l.getD j ByteArray.empty := by simp only [List.getD, List.getElem?_append_left h]
theorem gd_right (l m : List ByteArray) (j : Nat) (h : l.length ≤ j) : (l ++ m).getD j ByteArray.empty = m.getD (j - l.length) ByteArray.empty := by simp only [List.getD, List.getElem?_append_right h]
/-- The records from Begin on of the first pieces. -/
def alk (L : List Pc) (B : Int) : Nat → List ByteArray
  | 0 => []
  | i + 1 => alk L B i ++ fl B (gc L i).f (gc L i).s (cnt (gc L i).s)
abbrev allG (L : List Pc) (B : Int) : List ByteArray := alk L B L.length
theorem alk_len {L : List Pc} {B : Int} (h : GoodG L B) : ∀ i, i + 1 ≤ L.length → ((alk L B (i + 1)).length : Int) = atg L (i + 1) - B
  | 0, hi => by
    have h1 := h.b0
    have h2 := h.b1
    have h3 := fl_len B (gc L 0).f (gc L 0).s (cnt (gc L 0).s)
    show (([] ++ fl B (gc L 0).f (gc L 0).s (cnt (gc L 0).s)).length : Int) = (gc L 0).f + (cnt (gc L 0).s : Int) - B
    rw [List.nil_append, h3]
    omega
  | i + 1, hi => by
    have ih := alk_len h i (by omega)
    have h1 := (h.ps (i + 1) (by omega)).2.1
    have h2 : atg L 1 ≤ atg L (i + 1) := atg_mono2 L (by omega)
    have h3 := h.b1
    have h4 : atg L 1 = (gc L 0).f + (cnt (gc L 0).s : Int) := rfl
    have h5 := fl_len B (gc L (i + 1)).f (gc L (i + 1)).s (cnt (gc L (i + 1)).s)
    show ((alk L B (i + 1) ++ fl B (gc L (i + 1)).f (gc L (i + 1)).s (cnt (gc L (i + 1)).s)).length : Int) = atg L (i + 1) + (cnt (gc L (i + 1)).s : Int) - B
    rw [List.length_append]
    omega
theorem all_len {L : List Pc} {B : Int} (h : GoodG L B) : ((allG L B).length : Int) = endg L - B := by
  obtain ⟨k, hk⟩ : ∃ k, L.length = k + 1 := ⟨L.length - 1, by have := h.one; omega⟩
  have := alk_len h k (by omega)
  unfold allG endg
  rw [hk]
  exact this
/-- The record at an offset. -/
theorem alk_get {L : List Pc} {B o : Int} (h : GoodG L B) (hB : B ≤ o) (i : Nat) (hi : i < L.length) (h1 : atg L i ≤ o) (h2 : o < atg L (i + 1)) :
    ∀ m, i < m → m ≤ L.length → (alk L B m).getD (o - B).toNat ByteArray.empty = rtx (gc L i).s (pl (gc L i).s 0 (o - (gc L i).f).toNat)
  | 0, hm, _ => absurd hm (Nat.not_lt_zero _)
  | m + 1, hm, hl => by
    have hf := (h.ps i hi).2.1
    show (alk L B m ++ fl B (gc L m).f (gc L m).s (cnt (gc L m).s)).getD (o - B).toNat ByteArray.empty = _
    by_cases e : i < m
    · have ih := alk_get h hB i hi h1 h2 m e (by omega)
      obtain ⟨m', rfl⟩ : ∃ m', m = m' + 1 := ⟨m - 1, by omega⟩
      have hl2 := alk_len h m' (by omega)
      have h3 : atg L (i + 1) ≤ atg L (m' + 1) := atg_mono2 L (by omega)
      rw [gd_left _ _ _ (show (o - B).toNat < (alk L B (m' + 1)).length by omega)]
      exact ih
    · obtain rfl : i = m := by omega
      have hfl := fl_len B (gc L i).f (gc L i).s (cnt (gc L i).s)
      have h2' : o < atg L i + (cnt (gc L i).s : Int) := h2
      have hlen : ((alk L B i).length : Int) = if i = 0 then 0 else atg L i - B := by
        by_cases e0 : i = 0
        · subst e0; simp [alk]
        · obtain ⟨i', rfl⟩ : ∃ i', i = i' + 1 := ⟨i - 1, by omega⟩
          rw [if_neg (by omega)]
          exact alk_len h i' (by omega)
      have hge : (alk L B i).length ≤ (o - B).toNat := by
        split at hlen <;> omega
      rw [gd_right _ _ _ hge, fl_get B (gc L i).f (gc L i).s (cnt (gc L i).s) ((o - B).toNat - (alk L B i).length)]
      · congr 2
        by_cases e0 : i = 0
        · rw [if_pos e0] at hlen
          have hb0 := h.b0
          subst e0
          omega
        · rw [if_neg e0] at hlen
          have hb1 := h.b1
          have h3 : atg L 1 ≤ atg L i := atg_mono2 L (by omega)
          have h4 : atg L 1 = (gc L 0).f + (cnt (gc L 0).s : Int) := rfl
          omega
      · by_cases e0 : i = 0
        · rw [if_pos e0] at hlen
          have hb0 := h.b0
          have h4 : atg L 0 = (gc L 0).f := rfl
          subst e0
          omega
        · rw [if_neg e0] at hlen
          have hb1 := h.b1
          have h3 : atg L 1 ≤ atg L i := atg_mono2 L (by omega)
          have h4 : atg L 1 = (gc L 0).f + (cnt (gc L 0).s : Int) := rfl
          omega
end Go.Proofs.YtapffbbmofhpobaDoor.L6

namespace Go.Proofs.YtapffbbmofhpobaDoor.L6
open Go.RowKit L1
set_option linter.unusedVariables false

theorem blk_three (w : World) (o1 o2 o3 : Obj) : (((w.alloc o1).alloc o2).alloc o3).heap[w.heap.size + 2]? = some o3 ∧ (((w.alloc o1).alloc o2).alloc o3).heap[w.heap.size + 1]? = some o2 ∧ (((w.alloc o1).alloc o2).alloc o3).heap[w.heap.size]? = some o1 ∧ (((w.alloc o1).alloc o2).alloc o3).heap.size = w.heap.size + 3 := by
  have h1 := blk_new w o1
  have h2 := blk_new (w.alloc o1) o2
  have h3 := blk_new ((w.alloc o1).alloc o2) o3
  have e2 : (w.alloc o1).heap.size = w.heap.size + 1 := by simp
  have e3 : ((w.alloc o1).alloc o2).heap.size = w.heap.size + 2 := by simp
  rw [e2] at h2
  rw [e3] at h3
  have k2 := ((Below.refl ((w.alloc o1).alloc o2).heap.size ((w.alloc o1).alloc o2)).alloc (Nat.le_refl _) o3)
  have k1 := ((Below.refl (w.alloc o1).heap.size (w.alloc o1)).alloc (Nat.le_refl _) o2)
  refine ⟨h3, (k2.block (w.heap.size + 1) (by rw [e3]; omega)).trans h2, (k2.block w.heap.size (by rw [e3]; omega)).trans ((k1.block w.heap.size (by rw [e2]; omega)).trans h1), by simp⟩
theorem made_cs (n : Nat) : (madeCells (Value.agg #[.int .i64 0, .string ByteArray.empty, .slice none 0 0]).cells (n * 3)).toList = flatC (List.replicate n eV) := by
  apply List.ext_getElem?
  intro j
  by_cases hj : j < n * 3
  · have hi : j / 3 < (List.replicate n eV).length := by simp; omega
    obtain ⟨f1, f2, f3⟩ := flatC_get (List.replicate n eV) (j / 3) hi
    have hg : (List.replicate n eV).getD (j / 3) eV = eV := by
      simp [List.getD, List.getElem?_replicate]; split <;> rfl
    rw [hg] at f1 f2 f3
    have hm : (madeCells (Value.agg #[.int .i64 0, .string ByteArray.empty, .slice none 0 0]).cells (n * 3)).toList[j]? = [Value.int .i64 0, .string ByteArray.empty, .slice none 0 0][j % 3]? := by
      simp only [madeCells, Value.cells, Array.toList_map, Array.toList_range, List.getElem?_map]
      rw [List.getElem?_range hj]
      simp only [Option.map_some, List.size_toArray, List.length_cons, List.length_nil]
      have h01 : j % 3 = 0 ∨ j % 3 = 1 ∨ j % 3 = 2 := by omega
      rcases h01 with h | h | h <;> simp [h]
    rw [hm]
    have h01 : j % 3 = 0 ∨ j % 3 = 1 ∨ j % 3 = 2 := by omega
    rcases h01 with h | h | h
    · rw [h, show j = j / 3 * 3 by omega, f1]; rfl
    · rw [h, show j = j / 3 * 3 + 1 by omega, f2]; rfl
    · rw [h, show j = j / 3 * 3 + 2 by omega, f3]; rfl
  · rw [List.getElem?_eq_none (by simp [size_madeCells]; omega), List.getElem?_eq_none (by rw [flatC_len]; simp; omega)]
/-- Pieces as they are made: each without anything. -/
theorem own_zero {w : World} {base n : Nat} {v : Value} (h : w.ownsRow base 37 3 v n (flatC (List.replicate n eV))) : OwC w base v n (List.replicate n eV) := by
  have hg : ∀ i, (List.replicate n eV).getD i eV = eV := fun i => by
    simp [List.getD, List.getElem?_replicate]; split <;> rfl
  refine ⟨by simp, h, fun i hi => by rw [hg i]; exact World.ownsRow_nil _ _ _ _, fun i j _ _ g e => ?_⟩
  rw [hg i] at e
  simp [eV, Value.ownBlock] at e
theorem list_sameC {M : List PV} {L : List Pc} {n : Nat} (h1 : M.length = n) (h2 : L.length = n) (h : ∀ j, j < n → (M.getD j eV).1 = gc L j) : pcs M = L := by
  apply List.ext_getElem?
  intro j
  by_cases hj : j < n
  · have h := h j hj
    simp only [gc, List.getD, List.getElem?_eq_getElem (show j < M.length by omega), List.getElem?_eq_getElem (show j < L.length by omega), Option.getD_some] at h
    rw [List.getElem?_map, List.getElem?_eq_getElem (show j < M.length by omega), List.getElem?_eq_getElem (show j < L.length by omega), ← h]
    rfl
  · rw [List.getElem?_eq_none (by simp; omega), List.getElem?_eq_none (by omega)]

end Go.Proofs.YtapffbbmofhpobaDoor.L6

namespace Go.Proofs.YtapffbbmofhpobaDoor.L1
open Go.RowKit
set_option linter.unusedVariables false

set_option maxRecDepth 100000 in
set_option maxHeartbeats 1000000 in
theorem eqIntS_same (a b : Option Addr) (xs : List Int) (n c1 c2 : Nat) (w : World) (hn : xs.length = n) (ha : Sl w a xs) (hb : Sl w b xs) (hn2 : n ≤ 1048576) :
    Calls Tryd.prog 42 #[.slice a n c1, .slice b n c2] w fun e w' => e = .returned (.bool true) ∧ Below w.heap.size w w' := by
  have HA := hide ha
  have HB := hide hb
  have HN := hide hn
  clear ha hb hn
  go_enter Tryd.func42, Tryd.ntmps42
  go_wp2
  go_loopw [5] (fun i wr => ∃ k : Nat, k ≤ n ∧ i = .int .i64 k ∧ Below w.heap.size w wr) (fun i _ => n - (intOf i).toNat)
  case atStart => exact ⟨0, Nat.zero_le _, rfl, Below.refl _ _⟩
  case round =>
    obtain ⟨k, hk, rfl, hbel⟩ := hrel
    by_cases hlt : k < n
    · obtain ⟨b1, o1, rfl, h1⟩ := HA.out k (by rw [HN.out]; exact hlt)
      obtain ⟨b2, o2, rfl, h2⟩ := HB.out k (by rw [HN.out]; exact hlt)
      have g1 : wr.cell? ⟨b1, o1 + k, none⟩ = some (.int .i64 (xs.getD k 0)) := by
        rw [hbel.cell (p := ⟨b1, o1 + k, none⟩) (blk_lt h1)]
        exact h1
      have g2 : wr.cell? ⟨b2, o2 + k, none⟩ = some (.int .i64 (xs.getD k 0)) := by
        rw [hbel.cell (p := ⟨b2, o2 + k, none⟩) (blk_lt h2)]
        exact h2
      obtain ⟨x, hx⟩ : ∃ x, x = xs.getD k 0 := ⟨_, rfl⟩
      rw [← hx] at g1 g2
      have hltI : (k : Int) < (n : Int) := by omega
      clear h1 h2 hx
      go_wp2
      go_quiet (fail)
      go_wp2
      go_roundw
      case rel => exact ⟨k + 1, by omega, by go_num, below_drewN hbel _⟩
      case measure => simp [intOf]; omega
    · have hltI : ¬ (k : Int) < (n : Int) := by omega
      go_wp2
      go_ret
      exact ⟨rfl, hbel⟩
end Go.Proofs.YtapffbbmofhpobaDoor.L1
