/-
  Lists of a log's pieces in memory. Nothing of the program's text is proved here but closed facts on its types.
  What is good of a log; all its records, and the one at an offset.
  What the functions over a log answer.
  The texts of records in two texts with one front; logs whose one piece is written over. Nothing of the program's text is proved here.
  One record put behind the others.
  What AppendLog answers. Nothing of the program's text is proved here.
  The mathematics of CutFrom: where a log is cut, and what stands there then. Nothing of the program's text is proved here.
  Pieces that are owned, written over. Nothing of the program's text is proved here.
-/
import Derived.Test.YtbcljhafdpnjbabDoorBundle1
namespace Go.Proofs.YtbcljhafdpnjbabDoor.L6
open Go.RowKit L1
set_option linter.unusedVariables false

/-- A piece: From, Bytes, Index. -/
structure Pc where
  f : Int
  s : ByteArray
  x : List Int
def eC : Pc := ⟨0, ByteArray.empty, []⟩
/-- A piece with the slice that is its Index. -/
abbrev PV := Pc × Value
def eV : PV := (eC, .slice none 0 0)
/-- A piece as a value. -/
abbrev svC (p : Pc) (v : Value) : Value := .agg #[.int .i64 p.f, .string p.s, v]
/-- A piece lies in memory from a place on. -/
structure AtC (w : World) (b o : Nat) (p : Pc) (a : Option Addr) (c : Nat) : Prop where
  f : w.cell? ⟨b, o, none⟩ = some (.int .i64 p.f)
  s : w.cell? ⟨b, o + 1, none⟩ = some (.string p.s)
  x : w.cell? ⟨b, o + 2, none⟩ = some (.slice a p.x.length c)
  l : Sl w a p.x
theorem AtC.below {w w' : World} {b o c : Nat} {p : Pc} {a : Option Addr} (h : AtC w b o p a c) (hb : Below w.heap.size w w') : AtC w' b o p a c :=
  ⟨(hb.cell (p := ⟨b, o, none⟩) (blk_lt h.f)).trans h.f, (hb.cell (p := ⟨b, o + 1, none⟩) (blk_lt h.f)).trans h.s, (hb.cell (p := ⟨b, o + 2, none⟩) (blk_lt h.f)).trans h.x, h.l.below hb⟩
/-- A list of pieces lies in memory from an address on. -/
def SlC (w : World) (a : Option Addr) (l : List Pc) : Prop := ∀ i, i < l.length → ∃ b off, a = some ⟨b, off, none⟩ ∧ ∃ ai ci, AtC w b (off + i * 3) (l.getD i eC) ai ci
theorem SlC.below {w w' : World} {a : Option Addr} {xs : List Pc} (h : SlC w a xs) (hb : Below w.heap.size w w') : SlC w' a xs := fun i hi => by
  obtain ⟨b, off, ha, ai, ci, hc⟩ := h i hi
  exact ⟨b, off, ha, ai, ci, hc.below hb⟩
theorem sl_lt {w : World} {a : Option Addr} {xs : List Int} (h : Sl w a xs) (i : Nat) (hi : i < xs.length) : ∃ x, a = some x ∧ x.block < w.heap.size := by
  obtain ⟨b, off, ha, hc⟩ := h i hi
  exact ⟨_, ha, blk_lt hc⟩
/-- The cells of pieces, one behind the other. -/
def flatC : List PV → List Value
  | [] => []
  | p :: l => .int .i64 p.1.f :: .string p.1.s :: p.2 :: flatC l
theorem flatC_len : ∀ l : List PV, (flatC l).length = l.length * 3
  | [] => rfl
  | p :: l => by simp [flatC, flatC_len l]; omega
theorem flatC_get : ∀ (l : List PV) (i : Nat), i < l.length → (flatC l)[i * 3]? = some (.int .i64 (l.getD i eV).1.f) ∧ (flatC l)[i * 3 + 1]? = some (.string (l.getD i eV).1.s) ∧ (flatC l)[i * 3 + 2]? = some (l.getD i eV).2
  | [], i, h => by simp at h
  | p :: l, 0, _ => ⟨rfl, rfl, rfl⟩
  | p :: l, i + 1, h => by
    have := flatC_get l i (by simpa using h)
    have e1 : (i + 1) * 3 = i * 3 + 1 + 1 + 1 := by omega
    have e2 : (i + 1) * 3 + 1 = i * 3 + 1 + 1 + 1 + 1 := by omega
    have e3 : (i + 1) * 3 + 2 = i * 3 + 2 + 1 + 1 + 1 := by omega
    rw [e2, e3, e1]
    simpa only [flatC, List.getElem?_cons_succ, List.getD_cons_succ] using this
theorem flatC_append (l m : List PV) : flatC (l ++ m) = flatC l ++ flatC m := by
  induction l with
  | nil => rfl
  | cons p l ih => simp [flatC, ih]
/-- One piece written over. -/
def setC (c : List Value) (o : Nat) (p : PV) : List Value := ((c.set o (.int .i64 p.1.f)).set (o + 1) (.string p.1.s)).set (o + 2) p.2
theorem flatC_set : ∀ (l : List PV) (i : Nat) (p : PV), flatC (l.set i p) = setC (flatC l) (i * 3) p
  | [], _, _ => rfl
  | q :: l, 0, p => rfl
  | q :: l, i + 1, p => by
    have := flatC_set l i p
    have e1 : (i + 1) * 3 = i * 3 + 1 + 1 + 1 := by omega
    unfold setC at this ⊢
    rw [e1]
    have f2 : i * 3 + 1 + 1 + 1 + 2 = i * 3 + 2 + 1 + 1 + 1 := by omega
    rw [f2]
    simp only [List.set_cons_succ, flatC, this]
theorem flatC_one : ∀ l : List PV, (∀ q ∈ l, q.2.oneCell' = true) → ∀ u ∈ flatC l, u.oneCell' = true
  | [], _, u, h => by simp [flatC] at h
  | p :: l, hl, u, h => by
    simp only [flatC, List.mem_cons] at h
    rcases h with rfl | rfl | rfl | h
    · rfl
    · rfl
    · exact hl p (by simp)
    · exact flatC_one l (fun q hq => hl q (by simp [hq])) u h
theorem info_piece : (Tryd.prog.info? 50).map (fun i => (i.zero, i.size, i.bytes)) = some (some (.agg #[.int .i64 0, .string ByteArray.empty, .slice none 0 0]), 3, 48) := by kernel_rfl
/-- The plain pieces. -/
abbrev pcs (M : List PV) : List Pc := M.map Prod.fst
theorem pcs_get (M : List PV) (i : Nat) (h : i < M.length) : (pcs M).getD i eC = (M.getD i eV).1 := by simp [List.getD, List.getElem?_eq_getElem h]
/-- Pieces that lie in memory of their own: a row, and a row of its own for each Index. -/
structure OwC (w : World) (base : Nat) (v : Value) (n : Nat) (M : List PV) : Prop where
  len : M.length = n
  row : w.ownsRow base 50 3 v n (flatC M)
  idx : ∀ i, i < n → w.ownsRow base 3 1 (M.getD i eV).2 (M.getD i eV).1.x.length ((M.getD i eV).1.x.map (Value.int .i64))
  apart : ∀ i j, i < j → j < n → ∀ g, (M.getD i eV).2.ownBlock = some g → (M.getD j eV).2.ownBlock ≠ some g
theorem own_baseC {w : World} {b1 b2 n c : Nat} {t : TypeId} {v : Value} {ys : List Value} (h : w.ownsRow b1 t c v n ys) (hb : b2 ≤ b1) : w.ownsRow b2 t c v n ys := by
  refine ⟨h.1, ?_⟩
  rcases h.2 with h0 | ⟨g, cap, cur, rfl, hbg, hg, r⟩
  · exact .inl h0
  · exact .inr ⟨g, cap, cur, rfl, Nat.le_trans hb hbg, hg, r⟩
theorem own_belowC {w w' : World} {base n c : Nat} {t : TypeId} {v : Value} {ys : List Value} (h : w.ownsRow base t c v n ys) (hb : Below w.heap.size w w') : w'.ownsRow base t c v n ys := by
  refine ⟨h.1, ?_⟩
  rcases h.2 with h0 | ⟨g, cap, cur, rfl, hbg, hg, r⟩
  · exact .inl h0
  · exact .inr ⟨g, cap, cur, rfl, hbg, by rw [hb.block g (Array.getElem?_eq_some_iff.1 hg).1]; exact hg, r⟩
/-- Blocks of two types are two. -/
theorem own_two {w : World} {b1 b2 n1 n2 c1 c2 : Nat} {t1 t2 : TypeId} {v1 v2 : Value} {y1 y2 : List Value} (h1 : w.ownsRow b1 t1 c1 v1 n1 y1) (h2 : w.ownsRow b2 t2 c2 v2 n2 y2) (ht : t1 ≠ t2) (g : Nat) (e1 : v1.ownBlock = some g) : v2.ownBlock ≠ some g := by
  intro e2
  rcases h1.2 with ⟨rfl, _⟩ | ⟨g1, cap1, cur1, rfl, _, hg1, _⟩
  · simp [Value.ownBlock] at e1
  · rcases h2.2 with ⟨rfl, _⟩ | ⟨g2, cap2, cur2, rfl, _, hg2, _⟩
    · simp [Value.ownBlock] at e2
    · simp [Value.ownBlock] at e1 e2
      subst e1
      subst e2
      rw [hg1] at hg2
      simp at hg2
      exact ht hg2.2
theorem own_keptC {w w' : World} {base c n : Nat} {t : TypeId} {v : Value} {xs : List Value} {r : Option Nat} (h : w.ownsRow base t c v n xs) (hg : w.grownBy w' r) (hne : ∀ g, v.ownBlock = some g → r ≠ some g) : w'.ownsRow base t c v n xs := by
  refine ⟨h.1, ?_⟩
  rcases h.2 with h0 | ⟨g, cap, cur, hv, hb, hh, rest⟩
  · exact .inl h0
  · refine .inr ⟨g, cap, cur, hv, hb, ?_, rest⟩
    rw [hg.block g (Array.getElem?_eq_some_iff.1 hh).1 (fun e => hne g (by rw [hv]; rfl) e.symm)]
    exact hh
theorem OwC.below {w w' : World} {base n : Nat} {v : Value} {M : List PV} (h : OwC w base v n M) (hb : Below w.heap.size w w') : OwC w' base v n M :=
  ⟨h.len, own_belowC h.row hb, fun i hi => own_belowC (h.idx i hi) hb, h.apart⟩
theorem OwC.base {w : World} {b1 b2 n : Nat} {v : Value} {M : List PV} (h : OwC w b1 v n M) (hb : b2 ≤ b1) : OwC w b2 v n M :=
  ⟨h.len, own_baseC h.row hb, fun i hi => own_baseC (h.idx i hi) hb, h.apart⟩
theorem int_piece : 50 ≠ 3 := by decide
theorem own_slI6 {w : World} {base n cap : Nat} {a : Option Addr} {xs : List Int} (h : w.ownsRow base 3 1 (.slice a n cap) n (xs.map (Value.int .i64))) : Sl w a xs := by
  obtain ⟨b, q, e, s, _⟩ := own_form h
  cases e
  exact s
theorem OwC.form {w : World} {base n : Nat} {v : Value} {M : List PV} (h : OwC w base v n M) : ∃ a cap, v = .slice a n cap ∧ SlC w a (pcs M) := by
  have hl := h.len
  rcases h.row.2 with ⟨hv, h0⟩ | ⟨g, cap, cur, hv, _⟩
  · subst h0
    exact ⟨none, 0, hv, fun i hi => by simp at hi; omega⟩
  · subst hv
    refine ⟨_, cap, rfl, fun i hi => ?_⟩
    have hi' : i < M.length := by simpa using hi
    obtain ⟨f1, f2, f3⟩ := flatC_get M i hi'
    have h1 := h.row.cells (g := g) rfl (i * 3) _ f1
    have h2 := h.row.cells (g := g) rfl (i * 3 + 1) _ f2
    have h3 := h.row.cells (g := g) rfl (i * 3 + 2) _ f3
    rw [addr_add] at h1 h2 h3
    rw [pcs_get M i hi']
    obtain ⟨ai, ci, e, hs, _⟩ := own_form (h.idx i (by omega))
    rw [e] at h3
    exact ⟨g, 0, rfl, ai, ci, by simpa using h1, by simpa using h2, by simpa using h3, hs⟩
theorem OwC.sl {w : World} {base n cap : Nat} {a : Option Addr} {M : List PV} (h : OwC w base (.slice a n cap) n M) : SlC w a (pcs M) := by
  obtain ⟨b, q, e, s⟩ := h.form
  cases e
  exact s
/-- Texts and lists are no longer than a machine's. -/
def TxC (l : List Pc) : Prop := ∀ j, j < l.length → (l.getD j eC).s.size ≤ 9223372036854775807 ∧ (l.getD j eC).x.length ≤ 9223372036854775807
/-- What a walk is told of a slice of pieces that came in. -/
def IsRowC (w : World) (a : Option Addr) (len : Nat) (l : List Pc) : Prop := (l.length = len ∧ len ≤ maxLen ∧ SlC w a l) ∧ TxC l
theorem add_at6 (b off i : Nat) : (⟨b, off, none⟩ : Addr).add i = ⟨b, off + i, none⟩ := by unfold Addr.add; split <;> simp_all
open Classical in
theorem rowC_of {w : World} {a : Addr} {len cap : Nat} (hl : len ≤ cap) (hm : cap ≤ maxLen) (h : ∀ i, i < len → ∃ (p : Pc) (ai : Option Addr) (ci : Nat), (w.cell? (a.add (i * 3)) = some (.int .i64 p.f) ∧ w.cell? (a.add (i * 3 + 1)) = some (.string p.s) ∧ w.cell? (a.add (i * 3 + 2)) = some (.slice ai p.x.length ci) ∧ Sl w ai p.x) ∧ p.s.size ≤ maxLen ∧ p.x.length ≤ maxLen) : ∃ l, IsRowC w (some a) len l := by
  obtain ⟨f, hf⟩ : ∃ f : Nat → Pc, ∀ i, i < len → ∃ (ai : Option Addr) (ci : Nat), (w.cell? (a.add (i * 3)) = some (.int .i64 (f i).f) ∧ w.cell? (a.add (i * 3 + 1)) = some (.string (f i).s) ∧ w.cell? (a.add (i * 3 + 2)) = some (.slice ai (f i).x.length ci) ∧ Sl w ai (f i).x) ∧ (f i).s.size ≤ maxLen ∧ (f i).x.length ≤ maxLen := by
    refine ⟨fun i => if hi : i < len then Classical.choose (h i hi) else eC, fun i hi => ?_⟩
    simp only [dif_pos hi]
    exact Classical.choose_spec (h i hi)
  have hg : ∀ i, i < len → ((List.range len).map f).getD i eC = f i := fun i hi => by simp [List.getD, hi]
  refine ⟨(List.range len).map f, ⟨by simp, Nat.le_trans hl hm, fun i hi => ?_⟩, fun j hj => ?_⟩
  · have hi' : i < len := by simpa using hi
    obtain ⟨b, off, spot⟩ := a
    have hspot : spot = none := by
      obtain ⟨_, _, ⟨h00, _⟩, _⟩ := hf 0 (by omega)
      have := World.cell?_spot h00
      simpa [Addr.add] using this
    subst hspot
    obtain ⟨ai, ci, ⟨h1, h2, h3, h4⟩, _⟩ := hf i hi'
    simp only [add_at6] at h1 h2 h3
    rw [hg i hi']
    exact ⟨b, off, rfl, ai, ci, h1, by rw [Nat.add_assoc]; exact h2, by rw [Nat.add_assoc]; exact h3, h4⟩
  · have hj' : j < len := by simpa using hj
    obtain ⟨_, _, _, h1, h2⟩ := hf j hj'
    unfold maxLen at h1 h2
    rw [hg j hj']
    omega
end Go.Proofs.YtbcljhafdpnjbabDoor.L6

namespace Go.Proofs.YtbcljhafdpnjbabDoor.L6
open Go.RowKit L1
set_option linter.unusedVariables false

theorem wrap6 {z : Int} (h1 : -9223372036854775808 ≤ z) (h2 : z ≤ 9223372036854775807) : IntKind.i64.wrap z = z := by
  simp only [IntKind.wrap, IntKind.bits, IntKind.signed]
  simp
  omega
def GoodP (p : Pc) : Prop := p.s.size ≤ 60 ∧ wh p.s = p.s.size ∧ p.x = ix p.s
abbrev gc (L : List Pc) (i : Nat) : Pc := L.getD i eC
/-- The offset at which a piece is to begin. -/
def atg (L : List Pc) : Nat → Int
  | 0 => (gc L 0).f
  | i + 1 => atg L i + (cnt (gc L i).s : Int)
/-- What a piece at a place of the log is. -/
def OkC (L : List Pc) (i : Nat) : Prop := GoodP (gc L i) ∧ (gc L i).f = atg L i ∧ (i + 1 < L.length → cnt (gc L i).s ≠ 0)
def GoodPs (L : List Pc) : Prop := ∀ i, i < L.length → OkC L i
structure GoodG (L : List Pc) (B : Int) : Prop where
  one : 1 ≤ L.length
  many : L.length ≤ 20
  f0 : 0 ≤ (gc L 0).f
  f1 : (gc L 0).f ≤ 100000
  ps : GoodPs L
  b0 : (gc L 0).f ≤ B
  b1 : B ≤ (gc L 0).f + (cnt (gc L 0).s : Int)
  few : atg L L.length - (gc L 0).f ≤ 60
theorem good_empty {p : Pc} (h : GoodP p) : cnt p.s = 0 ↔ p.s.size = 0 := by
  constructor
  · intro h0
    have := h.2.1
    unfold wh at this
    rw [h0] at this
    exact this.symm
  · intro h0
    have := cnt_le p.s
    omega
theorem good_cnt {p : Pc} (h : GoodP p) : cnt p.s ≤ 60 := Nat.le_trans (cnt_le p.s) h.1
theorem atg_bd (L : List Pc) : ∀ i, (∀ j, j < i → GoodP (gc L j)) → (gc L 0).f ≤ atg L i ∧ atg L i ≤ (gc L 0).f + 60 * (i : Int)
  | 0, _ => by unfold atg; omega
  | i + 1, h => by
    have h1 := atg_bd L i (fun j hj => h j (by omega))
    have h2 := good_cnt (h i (by omega))
    unfold atg
    omega
theorem atg_mono (L : List Pc) (i : Nat) : atg L i ≤ atg L (i + 1) := by
  show atg L i ≤ atg L i + _
  omega
theorem atg_mono2 (L : List Pc) {i j : Nat} (h : i ≤ j) : atg L i ≤ atg L j := by
  induction j with
  | zero => obtain rfl : i = 0 := by omega
            exact Int.le_refl _
  | succ j ih =>
    by_cases e : i = j + 1
    · subst e; exact Int.le_refl _
    · exact Int.le_trans (ih (by omega)) (atg_mono L j)
/-- The end of a log. -/
def endg (L : List Pc) : Int := atg L L.length
theorem end_last {L : List Pc} (h1 : 1 ≤ L.length) (h : GoodPs L) : endg L = (gc L (L.length - 1)).f + (cnt (gc L (L.length - 1)).s : Int) := by
  unfold endg
  obtain ⟨k, hk⟩ : ∃ k, L.length = k + 1 := ⟨L.length - 1, by omega⟩
  rw [hk]
  show atg L k + _ = _
  rw [show k + 1 - 1 = k from rfl, (h k (by omega)).2.1]
theorem GoodG.end0 {L : List Pc} {B : Int} (h : GoodG L B) : B ≤ endg L ∧ 0 ≤ B ∧ endg L ≤ 100060 ∧ B ≤ 100060 := by
  have h1 := h.few
  have h2 := h.b0
  have h3 := h.b1
  have h4 : atg L 1 ≤ atg L L.length := atg_mono2 L h.one
  have h5 : atg L 1 = (gc L 0).f + (cnt (gc L 0).s : Int) := rfl
  have h6 := h.f0
  have h7 := h.f1
  unfold endg
  omega
/-- A record's text. -/
def rtx (s : ByteArray) (a : Nat) : ByteArray :=
  match rc s a with
  | none => ByteArray.empty
  | some (c, n) => s.extract c (c + n)
theorem rtx_some {s : ByteArray} {a c n : Nat} (h : rc s a = some (c, n)) : rtx s a = s.extract c (c + n) := by unfold rtx; rw [h]
theorem rtx_size (s : ByteArray) (a : Nat) : (rtx s a).size ≤ 20 := by
  unfold rtx
  split
  · exact Nat.zero_le _
  · rename_i c n h
    have := rc_lt h
    simp
    omega
/-- The first records of a text. -/
def rk (s : ByteArray) (k : Nat) : List ByteArray := (List.range k).map fun j => rtx s (pl s 0 j)
theorem rk_succ (s : ByteArray) (k : Nat) : rk s (k + 1) = rk s k ++ [rtx s (pl s 0 k)] := by simp [rk, List.range_succ]
theorem rk_len (s : ByteArray) (k : Nat) : (rk s k).length = k := by simp [rk]
theorem rk_get (s : ByteArray) (k j : Nat) (h : j < k) : (rk s k).getD j ByteArray.empty = rtx s (pl s 0 j) := by simp [rk, List.getD, h]
/-- Of a text's first records those whose offset is at least Begin. -/
def fl (B f : Int) (s : ByteArray) : Nat → List ByteArray
  | 0 => []
  | k + 1 => if B ≤ f + (k : Int) then fl B f s k ++ [rtx s (pl s 0 k)] else fl B f s k
theorem fl_yes {B f : Int} {s : ByteArray} {k : Nat} (h : B ≤ f + (k : Int)) : fl B f s (k + 1) = fl B f s k ++ [rtx s (pl s 0 k)] := by simp [fl, h]
theorem fl_no {B f : Int} {s : ByteArray} {k : Nat} (h : ¬ B ≤ f + (k : Int)) : fl B f s (k + 1) = fl B f s k := by simp [fl, h]
theorem fl_len (B f : Int) (s : ByteArray) : ∀ k, (fl B f s k).length = k - (B - f).toNat
  | 0 => by simp [fl]
  | k + 1 => by
    have ih := fl_len B f s k
    by_cases h : B ≤ f + (k : Int)
    · rw [fl_yes h]; simp; omega
    · rw [fl_no h]; omega
theorem fl_get (B f : Int) (s : ByteArray) : ∀ k j, j < k - (B - f).toNat → (fl B f s k).getD j ByteArray.empty = rtx s (pl s 0 ((B - f).toNat + j))
  | 0, j, h => by omega
  | k + 1, j, h => by
    have hb : B ≤ f + (k : Int) := by omega
    have hl := fl_len B f s k
    rw [fl_yes hb]
    by_cases e : j < k - (B - f).toNat
    · have := fl_get B f s k j e
      simp only [List.getD, List.getElem?_append_left (show j < (fl B f s k).length by omega)]
      exact this
    · have e2 : j = (fl B f s k).length := by omega
      have e3 : (B - f).toNat + j = k := by omega
      rw [e3, e2]
      simp [List.getD]
theorem gd_left (l m : List ByteArray) (j : Nat) (h : j < l.length) : (l ++ m).getD j ByteArray.empty = l.getD j ByteArray.empty := by simp only [List.getD, List.getElem?_append_left h]
theorem gd_right (l m : List ByteArray) (j : Nat) (h : l.length ≤ j) : (l ++ m).getD j ByteArray.empty = m.getD (j - l.length) ByteArray.empty := by simp only [List.getD, List.getElem?_append_right h]
/-- The records from Begin on of the first pieces. -/
def alk (L : List Pc) (B : Int) : Nat → List ByteArray
  | 0 => []
  | i + 1 => alk L B i ++ fl B (gc L i).f (gc L i).s (cnt (gc L i).s)
abbrev allG (L : List Pc) (B : Int) : List ByteArray := alk L B L.length
theorem alk_len {L : List Pc} {B : Int} (h : GoodG L B) : ∀ i, i + 1 ≤ L.length → ((alk L B (i + 1)).length : Int) = atg L (i + 1) - B
  | 0, hi => by
    have h1 := h.b0
    have h2 := h.b1
    have h3 := fl_len B (gc L 0).f (gc L 0).s (cnt (gc L 0).s)
    show (([] ++ fl B (gc L 0).f (gc L 0).s (cnt (gc L 0).s)).length : Int) = (gc L 0).f + (cnt (gc L 0).s : Int) - B
    rw [List.nil_append, h3]
    omega
  | i + 1, hi => by
    have ih := alk_len h i (by omega)
    have h1 := (h.ps (i + 1) (by omega)).2.1
    have h2 : atg L 1 ≤ atg L (i + 1) := atg_mono2 L (by omega)
    have h3 := h.b1
    have h4 : atg L 1 = (gc L 0).f + (cnt (gc L 0).s : Int) := rfl
    have h5 := fl_len B (gc L (i + 1)).f (gc L (i + 1)).s (cnt (gc L (i + 1)).s)
    show ((alk L B (i + 1) ++ fl B (gc L (i + 1)).f (gc L (i + 1)).s (cnt (gc L (i + 1)).s)).length : Int) = atg L (i + 1) + (cnt (gc L (i + 1)).s : Int) - B
    rw [List.length_append]
    omega
theorem all_len {L : List Pc} {B : Int} (h : GoodG L B) : ((allG L B).length : Int) = endg L - B := by
  obtain ⟨k, hk⟩ : ∃ k, L.length = k + 1 := ⟨L.length - 1, by have := h.one; omega⟩
  have := alk_len h k (by omega)
  unfold allG endg
  rw [hk]
  exact this
/-- The record at an offset. -/
theorem alk_get {L : List Pc} {B o : Int} (h : GoodG L B) (hB : B ≤ o) (i : Nat) (hi : i < L.length) (h1 : atg L i ≤ o) (h2 : o < atg L (i + 1)) :
    ∀ m, i < m → m ≤ L.length → (alk L B m).getD (o - B).toNat ByteArray.empty = rtx (gc L i).s (pl (gc L i).s 0 (o - (gc L i).f).toNat)
  | 0, hm, _ => absurd hm (Nat.not_lt_zero _)
  | m + 1, hm, hl => by
    have hf := (h.ps i hi).2.1
    show (alk L B m ++ fl B (gc L m).f (gc L m).s (cnt (gc L m).s)).getD (o - B).toNat ByteArray.empty = _
    by_cases e : i < m
    · have ih := alk_get h hB i hi h1 h2 m e (by omega)
      obtain ⟨m', rfl⟩ : ∃ m', m = m' + 1 := ⟨m - 1, by omega⟩
      have hl2 := alk_len h m' (by omega)
      have h3 : atg L (i + 1) ≤ atg L (m' + 1) := atg_mono2 L (by omega)
      rw [gd_left _ _ _ (show (o - B).toNat < (alk L B (m' + 1)).length by omega)]
      exact ih
    · obtain rfl : i = m := by omega
      have hfl := fl_len B (gc L i).f (gc L i).s (cnt (gc L i).s)
      have h2' : o < atg L i + (cnt (gc L i).s : Int) := h2
      have hlen : ((alk L B i).length : Int) = if i = 0 then 0 else atg L i - B := by
        by_cases e0 : i = 0
        · subst e0; simp [alk]
        · obtain ⟨i', rfl⟩ : ∃ i', i = i' + 1 := ⟨i - 1, by omega⟩
          rw [if_neg (by omega)]
          exact alk_len h i' (by omega)
      have hge : (alk L B i).length ≤ (o - B).toNat := by
        split at hlen <;> omega
      rw [gd_right _ _ _ hge, fl_get B (gc L i).f (gc L i).s (cnt (gc L i).s) ((o - B).toNat - (alk L B i).length)]
      · congr 2
        by_cases e0 : i = 0
        · rw [if_pos e0] at hlen
          have hb0 := h.b0
          subst e0
          omega
        · rw [if_neg e0] at hlen
          have hb1 := h.b1
          have h3 : atg L 1 ≤ atg L i := atg_mono2 L (by omega)
          have h4 : atg L 1 = (gc L 0).f + (cnt (gc L 0).s : Int) := rfl
          omega
      · by_cases e0 : i = 0
        · rw [if_pos e0] at hlen
          have hb0 := h.b0
          have h4 : atg L 0 = (gc L 0).f := rfl
          subst e0
          omega
        · rw [if_neg e0] at hlen
          have hb1 := h.b1
          have h3 : atg L 1 ≤ atg L i := atg_mono2 L (by omega)
          have h4 : atg L 1 = (gc L 0).f + (cnt (gc L 0).s : Int) := rfl
          omega
end Go.Proofs.YtbcljhafdpnjbabDoor.L6

namespace Go.Proofs.YtbcljhafdpnjbabDoor.L6
open Go.RowKit L1
set_option linter.unusedVariables false

/-- The end, as the last piece tells it. -/
def lastEnd (L : List Pc) (n : Nat) : Int := (gc L (n - 1)).f + (cnt (gc L (n - 1)).s : Int)
theorem GoodG.last {L : List Pc} {B : Int} {n : Nat} (h : GoodG L B) (hn : L.length = n) : lastEnd L n = endg L := by
  rw [← hn]
  exact (end_last h.one h.ps).symm
open Classical in
/-- What EndOf answers. -/
noncomputable def endRes (L : List Pc) (B : Int) : Option Int := if GoodG L B then some (endg L) else none
/-- The last piece that begins at an offset or ahead of it; the first one, where none does. -/
def pcAt (L : List Pc) (o : Int) : Nat → Nat
  | 0 => 0
  | k + 1 => if o < (gc L (k + 1)).f then pcAt L o k else k + 1
theorem pcAt_le (L : List Pc) (o : Int) : ∀ k, pcAt L o k ≤ k
  | 0 => Nat.le_refl _
  | k + 1 => by
    unfold pcAt
    have := pcAt_le L o k
    split <;> omega
theorem pcAt_at (L : List Pc) (o : Int) : ∀ k, pcAt L o k = 0 ∨ (gc L (pcAt L o k)).f ≤ o
  | 0 => .inl rfl
  | k + 1 => by
    unfold pcAt
    split
    · exact pcAt_at L o k
    · rename_i h
      exact .inr (by omega)
theorem pcAt_next (L : List Pc) (o : Int) : ∀ k j, pcAt L o k < j → j ≤ k → o < (gc L j).f
  | 0, j, h1, h2 => by
    have : pcAt L o 0 = 0 := rfl
    omega
  | k + 1, j, h1, h2 => by
    unfold pcAt at h1
    split at h1
    · rename_i h
      by_cases e : j = k + 1
      · subst e; exact h
      · exact pcAt_next L o k j h1 (by omega)
    · omega
/-- The text that is told at an offset. -/
def rdAt (L : List Pc) (o : Int) : ByteArray := rtx (gc L (pcAt L o (L.length - 1))).s (pl (gc L (pcAt L o (L.length - 1))).s 0 (o - (gc L (pcAt L o (L.length - 1))).f).toNat)
open Classical in
noncomputable def readRes (L : List Pc) (B o : Int) : Option ByteArray := if GoodG L B ∧ B ≤ o ∧ o < endg L then some (rdAt L o) else none
/-- Where an offset lies. -/
theorem GoodG.spot {L : List Pc} {B o : Int} (h : GoodG L B) (h1 : B ≤ o) (h2 : o < endg L) : pcAt L o (L.length - 1) < L.length ∧ (gc L (pcAt L o (L.length - 1))).f = atg L (pcAt L o (L.length - 1)) ∧ atg L (pcAt L o (L.length - 1)) ≤ o ∧ o < atg L (pcAt L o (L.length - 1) + 1) := by
  have ho := h.one
  have hle := pcAt_le L o (L.length - 1)
  have hat := pcAt_at L o (L.length - 1)
  have hnx := pcAt_next L o (L.length - 1)
  obtain ⟨i, hi⟩ : ∃ i, i = pcAt L o (L.length - 1) := ⟨_, rfl⟩
  rw [← hi] at hle hat hnx ⊢
  have hil : i < L.length := by omega
  have hf := (h.ps i hil).2.1
  refine ⟨hil, hf, ?_, ?_⟩
  · rcases hat with e | e
    · subst e
      have := h.b0
      show (gc L 0).f ≤ o
      omega
    · omega
  · by_cases e : i + 1 < L.length
    · have h3 := hnx (i + 1) (by omega) (by omega)
      rw [(h.ps (i + 1) e).2.1] at h3
      exact h3
    · have e2 : i + 1 = L.length := by omega
      rw [e2]
      exact h2
/-- What is told at an offset is among all records. -/
theorem GoodG.read {L : List Pc} {B o : Int} (h : GoodG L B) (h1 : B ≤ o) (h2 : o < endg L) : (allG L B).getD (o - B).toNat ByteArray.empty = rdAt L o := by
  obtain ⟨a, b, c, d⟩ := h.spot h1 h2
  exact alk_get h h1 _ a c d L.length a (Nat.le_refl _)
end Go.Proofs.YtbcljhafdpnjbabDoor.L6

namespace Go.Proofs.YtbcljhafdpnjbabDoor.L6
open Go.RowKit L1
set_option linter.unusedVariables false

theorem take_of_bts {s t : ByteArray} {m : Nat} (h : (bts t 0).take m = (bts s 0).take m) : t.data.toList.take m = s.data.toList.take m := by
  simp only [bts, List.drop_zero, ← List.map_take] at h
  refine (List.map_inj_right (fun a b e => ?_)).1 h
  have e2 : a.toNat = b.toNat := by omega
  exact UInt8.toNat_inj.1 e2
theorem extract_front {s t : ByteArray} {m c d : Nat} (h : (bts t 0).take m = (bts s 0).take m) (hd : d ≤ m) : t.extract c d = s.extract c d := by
  have h1 := take_of_bts h
  apply ByteArray.ext
  apply Array.ext'
  have e : ∀ u : ByteArray, (u.extract c d).data.toList = ((u.data.toList.take m).take d).drop c := fun u => by
    rw [List.take_take, Nat.min_eq_left hd]
    simp [ByteArray.data_extract, List.drop_take]
  rw [e, e, h1]
/-- Of two texts with one front the first records' texts are alike. -/
theorem rtx_ext {s t : ByteArray} (k : Nat) (hk : k ≤ cnt s) (hs : pl s 0 k ≤ t.size) (he : (bts t 0).take (pl s 0 k) = (bts s 0).take (pl s 0 k)) :
    ∀ j, j < k → rtx t (pl t 0 j) = rtx s (pl s 0 j) := fun j hj => by
  obtain ⟨h1, h2⟩ := pl_ext k hk hs he j (by omega)
  obtain ⟨c, n, h3, h4⟩ := cnt_rc s j (by omega)
  have h5 : pl s 0 (j + 1) ≤ pl s 0 k := pl_mono2 s (by omega)
  rw [rtx_some h3, rtx_some ((h2 hj).trans h3)]
  exact extract_front he (by omega)
theorem cnt_ext {s t : ByteArray} (k : Nat) (hk : k ≤ cnt s) (hs : pl s 0 k ≤ t.size) (he : (bts t 0).take (pl s 0 k) = (bts s 0).take (pl s 0 k)) : k ≤ cnt t := by
  by_cases e : cnt t < k
  · have h2 := (pl_ext k hk hs he (cnt t) (by omega)).2 e
    rw [cnt_no t] at h2
    exact absurd h2.symm (cnt_yes s _ (by omega))
  · omega
/-- The records of a text that is cut off are the first ones. -/
theorem front_ext (s : ByteArray) (b : Nat) : cnt (s.extract 0 b) ≤ cnt s ∧ ∀ j, j < cnt (s.extract 0 b) → rtx s (pl s 0 j) = rtx (s.extract 0 b) (pl (s.extract 0 b) 0 j) := by
  have hw := wh_le (s.extract 0 b)
  have hz : (s.extract 0 b).size ≤ s.size ∧ (s.extract 0 b).size ≤ b := by simp; omega
  have h1 : pl (s.extract 0 b) 0 (cnt (s.extract 0 b)) ≤ s.size := Nat.le_trans hw hz.1
  have h2 : (bts s 0).take (pl (s.extract 0 b) 0 (cnt (s.extract 0 b))) = (bts (s.extract 0 b) 0).take (pl (s.extract 0 b) 0 (cnt (s.extract 0 b))) := by
    have h3 : pl (s.extract 0 b) 0 (cnt (s.extract 0 b)) ≤ (s.extract 0 b).size := hw
    obtain ⟨q, hq⟩ : ∃ q, q = pl (s.extract 0 b) 0 (cnt (s.extract 0 b)) := ⟨_, rfl⟩
    rw [← hq] at h3 ⊢
    have e : bts (s.extract 0 b) 0 = (bts s 0).take b := by simp [bts, ByteArray.data_extract]
    rw [e, List.take_take, Nat.min_eq_left (by omega)]
  exact ⟨cnt_ext (s := s.extract 0 b) (t := s) _ (Nat.le_refl _) h1 h2, rtx_ext (s := s.extract 0 b) (t := s) _ (Nat.le_refl _) h1 h2⟩
theorem fl_congr {B f : Int} {s t : ByteArray} : ∀ k, (∀ j, j < k → rtx s (pl s 0 j) = rtx t (pl t 0 j)) → fl B f s k = fl B f t k
  | 0, _ => rfl
  | k + 1, h => by
    have ih := fl_congr (B := B) (f := f) k (fun j hj => h j (by omega))
    unfold fl
    rw [ih, h k (by omega)]
theorem fl_front (B f : Int) (s : ByteArray) (k : Nat) : ∀ m, fl B f s k <+: fl B f s (k + m)
  | 0 => List.prefix_refl _
  | m + 1 => by
    refine (fl_front B f s k m).trans ?_
    show fl B f s (k + m) <+: fl B f s (k + m + 1)
    by_cases h : B ≤ f + ((k + m : Nat) : Int)
    · rw [fl_yes h]
      exact List.prefix_append _ _
    · rw [fl_no h]
      exact List.prefix_refl _
theorem gc_setR (L : List Pc) (m i : Nat) (p : Pc) (hi : i < L.length) : gc (L.set m p) i = if i = m then p else gc L i := by
  by_cases e : i = m
  · subst e
    rw [if_pos rfl]
    simp [gc, List.getD, hi]
  · rw [if_neg e]
    simp [gc, List.getD, List.getElem?_set_ne (Ne.symm e)]
theorem atg_set {L : List Pc} {m : Nat} {p : Pc} (hm : m < L.length) (hf : p.f = (gc L m).f) : ∀ i, i ≤ m → atg (L.set m p) i = atg L i
  | 0, _ => by
    show (gc (L.set m p) 0).f = (gc L 0).f
    rw [gc_setR L m 0 p (by omega)]
    split
    · rename_i e
      rw [e]
      exact hf
    · rfl
  | i + 1, hi => by
    show atg (L.set m p) i + (cnt (gc (L.set m p) i).s : Int) = atg L i + (cnt (gc L i).s : Int)
    rw [atg_set hm hf i (by omega), gc_setR L m i p (by omega), if_neg (by omega)]
theorem alk_set {L : List Pc} {m : Nat} {p : Pc} {B : Int} (hm : m < L.length) : ∀ i, i ≤ m → alk (L.set m p) B i = alk L B i
  | 0, _ => rfl
  | i + 1, hi => by
    show alk (L.set m p) B i ++ _ = alk L B i ++ _
    rw [alk_set hm i (by omega), gc_setR L m i p (by omega), if_neg (by omega)]
/-- A log whose last piece is written over by a good one with no more records. -/
theorem good_set {L : List Pc} {B : Int} {p : Pc} (h : GoodG L B) (hf : p.f = (gc L (L.length - 1)).f) (hp : GoodP p) (hc : cnt p.s ≤ cnt (gc L (L.length - 1)).s) (hB : B ≤ p.f + (cnt p.s : Int)) : GoodG (L.set (L.length - 1) p) B := by
  have h1 := h.one
  have hm : L.length - 1 < L.length := by omega
  have hl : (L.set (L.length - 1) p).length = L.length := by simp
  have e0 : (gc (L.set (L.length - 1) p) 0).f = (gc L 0).f := atg_set hm hf 0 (by omega)
  have hat := atg_set (p := p) hm hf
  refine ⟨by rw [hl]; exact h1, by rw [hl]; exact h.many, by rw [e0]; exact h.f0, by rw [e0]; exact h.f1, fun i hi => ?_, by rw [e0]; exact h.b0, ?_, ?_⟩
  · rw [hl] at hi
    refine ⟨?_, ?_, fun h3 => ?_⟩
    · rw [gc_setR _ _ _ _ hi]
      split
      · exact hp
      · exact (h.ps i hi).1
    · rw [hat i (by omega), gc_setR _ _ _ _ hi]
      split
      · rename_i e
        rw [hf, e]
        exact (h.ps _ hm).2.1
      · exact (h.ps i hi).2.1
    · rw [hl] at h3
      rw [gc_setR _ _ _ _ hi, if_neg (by omega)]
      exact (h.ps i hi).2.2 h3
  · rw [e0, gc_setR L _ 0 p (by omega)]
    split
    · rename_i e
      rw [show (gc L 0).f = p.f by rw [hf, ← e]]
      exact hB
    · exact h.b1
  · have h5 := h.few
    rw [hl, e0]
    obtain ⟨k, hk⟩ : ∃ k, L.length = k + 1 := ⟨L.length - 1, by omega⟩
    have e1 : L.length - 1 = k := by omega
    rw [e1] at hat hc ⊢
    rw [hk] at h5 ⊢
    have e2 : atg L (k + 1) = atg L k + (cnt (gc L k).s : Int) := rfl
    have e3 : atg (L.set k p) (k + 1) = atg (L.set k p) k + (cnt (gc (L.set k p) k).s : Int) := rfl
    rw [e3, hat k (Nat.le_refl _), gc_setR L k k p (by omega), if_pos rfl]
    omega
theorem all_set {L : List Pc} {B : Int} {p : Pc} (h1 : 1 ≤ L.length) : allG (L.set (L.length - 1) p) B = alk L B (L.length - 1) ++ fl B p.f p.s (cnt p.s) ∧ allG L B = alk L B (L.length - 1) ++ fl B (gc L (L.length - 1)).f (gc L (L.length - 1)).s (cnt (gc L (L.length - 1)).s) := by
  obtain ⟨k, hk⟩ : ∃ k, L.length = k + 1 := ⟨L.length - 1, by omega⟩
  have e1 : L.length - 1 = k := by omega
  rw [e1]
  constructor
  · show alk (L.set k p) B (L.set k p).length = _
    rw [show (L.set k p).length = k + 1 by simp; exact hk]
    show alk (L.set k p) B k ++ _ = _
    rw [alk_set (by omega) k (Nat.le_refl _), gc_setR L k k p (by omega), if_pos rfl]
  · show alk L B L.length = _
    rw [hk]
    rfl
end Go.Proofs.YtbcljhafdpnjbabDoor.L6

namespace Go.Proofs.YtbcljhafdpnjbabDoor.L6
open Go.RowKit L1
set_option linter.unusedVariables false

theorem bts_nums6 (l : List Int) (h : ∀ x ∈ l, 0 ≤ x ∧ x < 256) : bts (strOfNums l) 0 = l := by
  simp only [bts, strOfNums, List.drop_zero, List.map_map]
  have e : ∀ m : List Int, (∀ x ∈ m, 0 ≤ x ∧ x < 256) → m.map ((fun c : UInt8 => (c.toNat : Int)) ∘ fun n : Int => UInt8.ofNat n.toNat) = m := by
    intro m
    induction m with
    | nil => intro _; rfl
    | cons x m ih =>
      intro hm
      have hx := hm x (by simp)
      rw [List.map_cons, ih (fun u hu => hm u (by simp [hu]))]
      congr 1
      simp only [Function.comp, UInt8.toNat_ofNat']
      omega
  exact e l h
theorem zig_small (n : Nat) (h : n ≤ 20) : 0 ≤ zig (n : Int) ∧ zig (n : Int) ≤ 40 := by unfold zig; split <;> omega
theorem vd_small (n : Nat) (h : n ≤ 20) : vd (zig (n : Int)) = [zig (n : Int)] := by
  have hz := zig_small n h
  unfold vd
  rw [vdf]
  rw [if_pos (by omega)]
theorem rec_bts (r : ByteArray) (h : r.size ≤ 20) : bts (rec r) 0 = vd (zig (r.size : Int)) ++ bts r 0 := by
  unfold rec
  rw [bts_append, bts_nums6]
  rw [vd_small _ h]
  intro x hx
  have := zig_small _ h
  simp at hx
  omega
theorem rec_size (r : ByteArray) (h : r.size ≤ 20) : (rec r).size = 1 + r.size := by
  have h1 := bts_len (rec r) 0
  rw [rec_bts r h, vd_small _ h] at h1
  have h2 := bts_len r 0
  simp at h1
  omega
theorem app_size (s r : ByteArray) (h : r.size ≤ 20) : (s ++ rec r).size = s.size + (1 + r.size) := by rw [ByteArray.size_append, rec_size r h]
/-- The record that stands behind a text. -/
theorem app_rc (s r : ByteArray) (h : r.size ≤ 20) : rc (s ++ rec r) s.size = some (s.size + 1, r.size) := by
  have hz := zig_small _ h
  have e1 : bts (s ++ rec r) s.size = vd (zig (r.size : Int)) ++ bts r 0 := by
    rw [bts_at, bts_append, rec_bts r h]
    have hl : (bts s 0).length = s.size := by rw [bts_len]; omega
    rw [← hl, List.drop_left]
  have e2 : gv (bts (s ++ rec r) s.size) = some (vd (zig (r.size : Int))) := by rw [e1, gv_vd _ _ hz.1 (by omega)]
  have e3 : zag (val (vd (zig (r.size : Int)))) = (r.size : Int) := by rw [val_vd _ hz.1 (by omega), zag_zig]
  have e4 : (vd (zig (r.size : Int))).length = 1 := by rw [vd_small _ h]; rfl
  have e5 := app_size s r h
  unfold rc
  rw [e2]
  simp only [e3, e4]
  rw [if_pos ⟨by omega, by omega, by omega⟩]
  simp
theorem app_cnt (s r : ByteArray) (hw : wh s = s.size) (h : r.size ≤ 20) : cnt (s ++ rec r) = cnt s + 1 ∧ (∀ j, j ≤ cnt s → pl (s ++ rec r) 0 j = pl s 0 j) ∧ wh (s ++ rec r) = (s ++ rec r).size := by
  have hz := app_size s r h
  have hp : pl s 0 (cnt s) = s.size := hw
  have E := pl_ext (t := s ++ rec r) (cnt s) (Nat.le_refl _) (by omega) (by
    rw [bts_append, hp]
    have hl : (bts s 0).length = s.size := by rw [bts_len]; omega
    rw [← hl, List.take_left, List.take_length])
  have hr := app_rc s r h
  have e1 : pl (s ++ rec r) 0 (cnt s) = s.size := ((E _ (Nat.le_refl _)).1).trans hp
  have e2 : pl (s ++ rec r) 0 (cnt s + 1) = (s ++ rec r).size := by
    show nx (s ++ rec r) (pl (s ++ rec r) 0 (cnt s)) = _
    rw [e1, nx_some hr]
    omega
  have e3 : cnt (s ++ rec r) = cnt s + 1 := by
    refine cnt_unique _ _ (fun j hj => ?_) (by rw [e2]; exact rc_end (Nat.le_refl _))
    by_cases e : j = cnt s
    · subst e
      rw [e1, hr]
      intro hh; cases hh
    · rw [(E j (by omega)).2 (by omega)]
      exact cnt_yes s j (by omega)
  exact ⟨e3, fun j hj => (E j hj).1, by unfold wh; rw [e3, e2]⟩
theorem rec_alone (r : ByteArray) (h : r.size ≤ 20) : cnt (rec r) = 1 ∧ wh (rec r) = (rec r).size := by
  have hc : cnt ByteArray.empty = 0 := cnt_unique _ 0 (fun j hj => absurd hj (Nat.not_lt_zero _)) (rc_end (Nat.le_refl _))
  have hw : wh ByteArray.empty = ByteArray.empty.size := by unfold wh; rw [hc]; rfl
  have e : ByteArray.empty ++ rec r = rec r := by
    apply ByteArray.ext
    simp
  have := app_cnt ByteArray.empty r hw h
  rw [e, hc] at this
  exact ⟨this.1, this.2.2⟩
end Go.Proofs.YtbcljhafdpnjbabDoor.L6

namespace Go.Proofs.YtbcljhafdpnjbabDoor.L6
open Go.RowKit L1
set_option linter.unusedVariables false

/-- A log that a call hands back, in memory of its own, and whether there is one. -/
def RetL (w : World) (L : List Pc) (B : Int) (ok : Bool) (e : Ending) (w' : World) : Prop :=
  ∃ a c, e = .returned (.tuple #[.agg #[.slice a L.length c, .int .i64 B], .bool ok]) ∧ ∃ M, pcs M = L ∧ OwC w' w.heap.size (.slice a L.length c) L.length M ∧ Below w.heap.size w w'
/-- A piece with one record more. -/
def appP (p : Pc) (r : ByteArray) : Pc := ⟨p.f, p.s ++ rec r, ix (p.s ++ rec r)⟩
/-- A log's last piece. -/
abbrev endP (L : List Pc) : Pc := gc L (L.length - 1)
def AppPre (L : List Pc) (B : Int) (r : ByteArray) : Prop := GoodG L B ∧ r.size ≤ 20 ∧ lastEnd L L.length - (gc L 0).f ≠ 60
def AppFits (L : List Pc) (r : ByteArray) : Prop := (endP L).s.size + (1 + r.size) ≤ 60
structure AppIs (L : List Pc) (B : Int) (r : ByteArray) (L' : List Pc) (B' : Int) (ok : Bool) : Prop where
  put : AppPre L B r → AppFits L r → ok = true ∧ L' = L.set (L.length - 1) (appP (endP L) r) ∧ B' = B
  more : AppPre L B r → ¬ AppFits L r → L.length ≠ 20 → ok = true ∧ L' = L ++ [⟨lastEnd L L.length, rec r, ix (rec r)⟩] ∧ B' = B
  full : AppPre L B r → ¬ AppFits L r → L.length = 20 → ok = false ∧ L' = [] ∧ B' = 0
  no : ¬ AppPre L B r → ok = false ∧ L' = [] ∧ B' = 0
open Classical in
theorem app_is (L : List Pc) (B : Int) (r : ByteArray) : ∃ L' B' ok, AppIs L B r L' B' ok := by
  by_cases h : AppPre L B r
  · by_cases h1 : AppFits L r
    · exact ⟨_, _, true, fun _ _ => ⟨rfl, rfl, rfl⟩, fun _ h2 => absurd h1 h2, fun _ h2 => absurd h1 h2, fun h2 => absurd h h2⟩
    · by_cases h3 : L.length = 20
      · exact ⟨_, _, false, fun _ h2 => absurd h2 h1, fun _ _ h4 => absurd h3 h4, fun _ _ _ => ⟨rfl, rfl, rfl⟩, fun h2 => absurd h h2⟩
      · exact ⟨_, _, true, fun _ h2 => absurd h2 h1, fun _ _ _ => ⟨rfl, rfl, rfl⟩, fun _ _ h4 => absurd h4 h3, fun h2 => absurd h h2⟩
  · exact ⟨_, _, false, fun h2 => absurd h2 h, fun h2 => absurd h2 h, fun h2 => absurd h2 h, fun _ => ⟨rfl, rfl, rfl⟩⟩
theorem ix_len60 {s : ByteArray} (h : s.size ≤ 60) : (ix s).length ≤ 60 := by
  have := cnt_le s
  unfold ix
  rw [ixk_len]
  omega
/-- A piece without records has room for any one. -/
theorem app_empty {L : List Pc} {r : ByteArray} (hr : r.size ≤ 20) (h : (endP L).s.size = 0) : AppFits L r := by
  unfold AppFits
  omega
/-- The last piece with a record more is as wholePiece makes it. -/
theorem appP_whole {p : Pc} {r : ByteArray} (hp : GoodP p) (hr : r.size ≤ 20) : (p.s ++ rec r).extract 0 (wh (p.s ++ rec r)) = p.s ++ rec r ∧ wh (p.s ++ rec r) = (p.s ++ rec r).size := by
  have h := (app_cnt p.s r hp.2.1 hr).2.2
  exact ⟨by rw [h, extract_all], h⟩
theorem rec_whole {r : ByteArray} (hr : r.size ≤ 20) : (rec r).extract 0 (wh (rec r)) = rec r ∧ (rec r).size ≤ 21 := by
  have h := (rec_alone r hr).2
  have h1 := rec_size r hr
  exact ⟨by rw [h, extract_all], by omega⟩
open Classical in
theorem app_few {L L' : List Pc} {B B' : Int} {r : ByteArray} {ok : Bool} (h : AppIs L B r L' B' ok) : L'.length ≤ 20 ∧ ∀ i, i < L'.length → (gc L' i).x.length ≤ 60 := by
  by_cases hp : AppPre L B r
  · have hg := hp.1
    have h1 := hg.one
    have h20 := hg.many
    have hx : ∀ i, i < L.length → (gc L i).x.length ≤ 60 := fun i hi => by
      have hgd := (hg.ps i hi).1
      rw [hgd.2.2]
      exact ix_len60 hgd.1
    by_cases hf : AppFits L r
    · obtain ⟨_, rfl, _⟩ := h.put hp hf
      refine ⟨by simpa using h20, fun i hi => ?_⟩
      have hi' : i < L.length := by simpa using hi
      by_cases e : i = L.length - 1
      · subst e
        have e2 : gc (L.set (L.length - 1) (appP (endP L) r)) (L.length - 1) = appP (endP L) r := by
          have : L.length - 1 < L.length := by omega
          simp [gc, List.getD, this]
        rw [e2]
        refine ix_len60 ?_
        rw [app_size _ _ hp.2.1]
        exact hf
      · have e2 : gc (L.set (L.length - 1) (appP (endP L) r)) i = gc L i := by simp [gc, List.getD, List.getElem?_set_ne (Ne.symm e)]
        rw [e2]
        exact hx i hi'
    · by_cases h3 : L.length = 20
      · obtain ⟨_, rfl, _⟩ := h.full hp hf h3
        exact ⟨Nat.zero_le _, fun i hi => absurd hi (Nat.not_lt_zero _)⟩
      · obtain ⟨_, rfl, _⟩ := h.more hp hf h3
        refine ⟨by simp; omega, fun i hi => ?_⟩
        have hi' : i < L.length + 1 := by simpa using hi
        by_cases e : i = L.length
        · subst e
          have e2 : gc (L ++ [(⟨lastEnd L L.length, rec r, ix (rec r)⟩ : Pc)]) L.length = ⟨lastEnd L L.length, rec r, ix (rec r)⟩ := by simp [gc, List.getD]
          rw [e2]
          have := (rec_whole hp.2.1).2
          exact ix_len60 (by omega)
        · have e2 : gc (L ++ [(⟨lastEnd L L.length, rec r, ix (rec r)⟩ : Pc)]) i = gc L i := by simp [gc, List.getD, List.getElem?_append_left (show i < L.length by omega)]
          rw [e2]
          exact hx i (by omega)
  · obtain ⟨_, rfl, _⟩ := h.no hp
    exact ⟨Nat.zero_le _, fun i hi => absurd hi (Nat.not_lt_zero _)⟩
end Go.Proofs.YtbcljhafdpnjbabDoor.L6

namespace Go.Proofs.YtbcljhafdpnjbabDoor.L6
open Go.RowKit L1
set_option linter.unusedVariables false

/-- A piece cut at an offset. -/
def cutP (p : Pc) (o : Int) : Pc := ⟨p.f, p.s.extract 0 (pl p.s 0 (o - p.f).toNat), ix (p.s.extract 0 (pl p.s 0 (o - p.f).toNat))⟩
/-- The piece that is cut. -/
def cutK (L : List Pc) (o : Int) : Nat := pcAt L (o - 1) (L.length - 1)
def cutL (L : List Pc) (o : Int) : List Pc := L.take (cutK L o) ++ [cutP (gc L (cutK L o)) o]
theorem cutK_lt {L : List Pc} {o : Int} (h : 1 ≤ L.length) : cutK L o < L.length := by
  have := pcAt_le L (o - 1) (L.length - 1)
  unfold cutK
  omega
theorem cutL_len {L : List Pc} {o : Int} (h : 1 ≤ L.length) : (cutL L o).length = cutK L o + 1 := by
  have := cutK_lt (o := o) h
  unfold cutL
  simp
  omega
/-- Where a good log is cut within it, so many records of the piece stay. -/
theorem cut_spot {L : List Pc} {B o : Int} (h : GoodG L B) (h1 : B ≤ o) (h2 : o ≤ endg L) : (gc L (cutK L o)).f ≤ o ∧ o ≤ (gc L (cutK L o)).f + (cnt (gc L (cutK L o)).s : Int) := by
  have hone := h.one
  have hK := cutK_lt (o := o) hone
  have hf : (gc L (cutK L o)).f = atg L (cutK L o) := (h.ps (cutK L o) hK).2.1
  refine ⟨?_, ?_⟩
  · rcases pcAt_at L (o - 1) (L.length - 1) with e | e
    · have e' : cutK L o = 0 := e
      rw [e']
      have := h.b0
      omega
    · have e' : (gc L (cutK L o)).f ≤ o - 1 := e
      omega
  · by_cases e : cutK L o = L.length - 1
    · have := end_last hone h.ps
      rw [e]
      omega
    · have hn := pcAt_next L (o - 1) (L.length - 1) (cutK L o + 1) (by show cutK L o < _; omega) (by omega)
      have hf2 : (gc L (cutK L o + 1)).f = atg L (cutK L o + 1) := (h.ps (cutK L o + 1) (by omega)).2.1
      have hs : atg L (cutK L o + 1) = (gc L (cutK L o)).f + (cnt (gc L (cutK L o)).s : Int) := by
        show atg L (cutK L o + 1) = _
        rw [hf]
        rfl
      omega
/-- A piece ahead of the cut is whole there. -/
theorem cut_ahead {L : List Pc} {B o : Int} (h : GoodG L B) (i : Nat) (hi : i < cutK L o) : (gc L i).f < o ∧ (gc L i).f + (cnt (gc L i).s : Int) < o := by
  have hone := h.one
  have hK := cutK_lt (o := o) hone
  have hf : (gc L (cutK L o)).f = atg L (cutK L o) := (h.ps (cutK L o) hK).2.1
  have hfi : (gc L i).f = atg L i := (h.ps i (by omega)).2.1
  have hs : atg L (i + 1) = (gc L i).f + (cnt (gc L i).s : Int) := by rw [hfi]; rfl
  have hm := atg_mono2 L (show i + 1 ≤ cutK L o by omega)
  rcases pcAt_at L (o - 1) (L.length - 1) with e | e
  · have e' : cutK L o = 0 := e
    omega
  · have e' : (gc L (cutK L o)).f ≤ o - 1 := e
    omega
theorem cut_behind {L : List Pc} {B o : Int} (h : GoodG L B) (i : Nat) (hi : cutK L o < i) (hl : i < L.length) : o ≤ (gc L i).f := by
  have := pcAt_next L (o - 1) (L.length - 1) i hi (by omega)
  omega
/-- What CutFrom answers. -/
def CutOk (L : List Pc) (B o : Int) : Prop := GoodG L B ∧ B ≤ o ∧ o ≤ endg L
structure CutIs (L : List Pc) (B o : Int) (L' : List Pc) (B' : Int) (ok : Bool) : Prop where
  yes : CutOk L B o → L' = cutL L o ∧ B' = B ∧ ok = true
  no : ¬ CutOk L B o → L' = [] ∧ B' = 0 ∧ ok = false
open Classical in
theorem cut_is (L : List Pc) (B o : Int) : ∃ L' B' ok, CutIs L B o L' B' ok := by
  by_cases h : CutOk L B o
  · exact ⟨_, _, _, fun _ => ⟨rfl, rfl, rfl⟩, fun h' => absurd h h'⟩
  · exact ⟨_, _, _, fun h' => absurd h' h, fun _ => ⟨rfl, rfl, rfl⟩⟩
theorem cutP_few {p : Pc} {o : Int} (h : GoodP p) : (cutP p o).x.length ≤ 60 := by
  unfold cutP
  simp only
  have h1 := cnt_le (p.s.extract 0 (pl p.s 0 (o - p.f).toNat))
  have h2 : (p.s.extract 0 (pl p.s 0 (o - p.f).toNat)).size ≤ 60 := by simp; have := h.1; omega
  unfold ix
  rw [ixk_len]
  omega
theorem CutIs.few {L L' : List Pc} {B o B' : Int} {ok : Bool} (h : CutIs L B o L' B' ok) : L'.length ≤ 20 ∧ ∀ i, i < L'.length → (gc L' i).x.length ≤ 60 := by
  by_cases hc : CutOk L B o
  · obtain ⟨rfl, _, _⟩ := h.yes hc
    have hone := hc.1.one
    have hmany := hc.1.many
    have hK := cutK_lt (o := o) hone
    refine ⟨by rw [cutL_len hone]; omega, fun i hi => ?_⟩
    rw [cutL_len hone] at hi
    by_cases e : i < cutK L o
    · rw [show gc (cutL L o) i = gc L i by unfold cutL; simp [gc, List.getD, List.getElem?_append_left (show i < (L.take (cutK L o)).length by simp; omega), e]]
      have hg := (hc.1.ps i (by omega)).1
      rw [hg.2.2]
      unfold ix
      rw [ixk_len]
      have := good_cnt hg
      omega
    · obtain rfl : i = cutK L o := by omega
      rw [show gc (cutL L o) (cutK L o) = cutP (gc L (cutK L o)) o by unfold cutL; simp [gc, List.getD, Nat.min_eq_left (Nat.le_of_lt hK)]]
      exact cutP_few (hc.1.ps _ hK).1
  · obtain ⟨rfl, _, _⟩ := h.no hc
    exact ⟨by simp, fun i hi => by simp at hi⟩
end Go.Proofs.YtbcljhafdpnjbabDoor.L6

namespace Go.Proofs.YtbcljhafdpnjbabDoor.L6
open Go.RowKit L1
set_option linter.unusedVariables false

theorem getD_set_self (M : List PV) (k : Nat) (p : PV) (h : k < M.length) : (M.set k p).getD k eV = p := by simp [List.getD, h]
theorem getD_set_ne (M : List PV) (k i : Nat) (p : PV) (h : i ≠ k) : (M.set k p).getD i eV = M.getD i eV := by simp [List.getD, Ne.symm h]
/-- Three cells of a row that is owned, written over. -/
theorem OwC.put {w : World} {base g n cap : Nat} {M : List PV} (h : OwC w base (.slice (some ⟨g, 0, none⟩) n cap) n M) (k : Nat) (hk : k < n) (p : Pc) (v : Value)
    (hv : w.ownsRow base 3 1 v p.x.length (p.x.map (Value.int .i64))) (hne : ∀ i, i < n → i ≠ k → ∀ b, v.ownBlock = some b → (M.getD i eV).2.ownBlock ≠ some b) :
    OwC (((w.setCell ⟨g, k * 3, none⟩ (.int .i64 p.f)).setCell ⟨g, k * 3 + 1, none⟩ (.string p.s)).setCell ⟨g, k * 3 + 2, none⟩ v) base (.slice (some ⟨g, 0, none⟩) n cap) n (M.set k (p, v)) ∧
    w.grownBy (((w.setCell ⟨g, k * 3, none⟩ (.int .i64 p.f)).setCell ⟨g, k * 3 + 1, none⟩ (.string p.s)).setCell ⟨g, k * 3 + 2, none⟩ v) (some g) := by
  have h1 := h.row.stored (k * 3) (.int .i64 p.f)
  have h2 := h1.1.stored (k * 3 + 1) (.string p.s)
  have h3 := h2.1.stored (k * 3 + 2) v
  have hg := (h1.2.trans h2.2).trans h3.2
  have hl := h.len
  have keep : ∀ {c m : Nat} {u : Value} {ys : List Value}, w.ownsRow base 3 c u m ys → (((w.setCell ⟨g, k * 3, none⟩ (.int .i64 p.f)).setCell ⟨g, k * 3 + 1, none⟩ (.string p.s)).setCell ⟨g, k * 3 + 2, none⟩ v).ownsRow base 3 c u m ys := fun hu =>
    own_keptC hu hg (fun b hb e => by
      simp at e
      subst e
      exact own_two h.row hu int_piece g rfl hb)
  refine ⟨⟨by simpa using hl, by rw [flatC_set]; exact h3.1, fun i hi => ?_, fun i j hij hj => ?_⟩, hg⟩
  · by_cases e : i = k
    · subst e
      rw [getD_set_self M i _ (by omega)]
      exact keep hv
    · rw [getD_set_ne M k i _ e]
      exact keep (h.idx i hi)
  · intro b
    by_cases e : i = k
    · have e2 : j ≠ k := by omega
      subst e
      rw [getD_set_self M i _ (by omega), getD_set_ne M i j _ e2]
      exact hne j hj e2 b
    · by_cases e2 : j = k
      · subst e2
        rw [getD_set_self M j _ (by omega), getD_set_ne M j i _ e]
        intro h1 h2
        exact hne i (by omega) e b h2 h1
      · rw [getD_set_ne M k i _ e, getD_set_ne M k j _ e2]
        exact h.apart i j hij hj b
/-- Blocks of what is owned are there. -/
theorem own_ltC {w : World} {base n c : Nat} {t : TypeId} {v : Value} {ys : List Value} (h : w.ownsRow base t c v n ys) (b : Nat) (hb : v.ownBlock = some b) : base ≤ b ∧ b < w.heap.size := by
  rcases h.2 with ⟨rfl, _⟩ | ⟨g, cap, cur, rfl, hbg, hg, _⟩
  · simp [Value.ownBlock] at hb
  · simp [Value.ownBlock] at hb
    subst hb
    exact ⟨hbg, (Array.getElem?_eq_some_iff.1 hg).1⟩

end Go.Proofs.YtbcljhafdpnjbabDoor.L6
