/-
  Lists of a log's pieces in memory. Nothing of the program's text is proved here but closed facts on its types.
  What is good of a log; all its records, and the one at an offset.
  What the functions over a log answer.
  The texts of records in two texts with one front; logs whose one piece is written over. Nothing of the program's text is proved here.
  What TearEnd answers; logs that a call hands back.
  The table of the digits' worths. Nothing of the program's text is proved here.
  Contracts: impl.UnZigZag, and impl.GetVarint: of a text and a place the number whose digits stand there, and the place behind.
  Contract: impl.recordAt: the record that begins at a place of a text, and the place behind it.
-/
import Derived.Test.YtbcljhafdpnjbabDoorBundle1
import Derived.OwnWalk
namespace Go.Proofs.YtbcljhafdpnjbabDoor.L6
open Go.RowKit L1
set_option linter.unusedVariables false

/-- A piece: From, Bytes, Index. -/
structure Pc where
  f : Int
  s : ByteArray
  x : List Int
def eC : Pc := ⟨0, ByteArray.empty, []⟩
/-- A piece with the slice that is its Index. -/
abbrev PV := Pc × Value
def eV : PV := (eC, .slice none 0 0)
/-- A piece as a value. -/
abbrev svC (p : Pc) (v : Value) : Value := .agg #[.int .i64 p.f, .string p.s, v]
/-- A piece lies in memory from a place on. -/
structure AtC (w : World) (b o : Nat) (p : Pc) (a : Option Addr) (c : Nat) : Prop where
  f : w.cell? ⟨b, o, none⟩ = some (.int .i64 p.f)
  s : w.cell? ⟨b, o + 1, none⟩ = some (.string p.s)
  x : w.cell? ⟨b, o + 2, none⟩ = some (.slice a p.x.length c)
  l : Sl w a p.x
theorem AtC.below {w w' : World} {b o c : Nat} {p : Pc} {a : Option Addr} (h : AtC w b o p a c) (hb : Below w.heap.size w w') : AtC w' b o p a c :=
  ⟨(hb.cell (p := ⟨b, o, none⟩) (blk_lt h.f)).trans h.f, (hb.cell (p := ⟨b, o + 1, none⟩) (blk_lt h.f)).trans h.s, (hb.cell (p := ⟨b, o + 2, none⟩) (blk_lt h.f)).trans h.x, h.l.below hb⟩
/-- A list of pieces lies in memory from an address on. -/
def SlC (w : World) (a : Option Addr) (l : List Pc) : Prop := ∀ i, i < l.length → ∃ b off, a = some ⟨b, off, none⟩ ∧ ∃ ai ci, AtC w b (off + i * 3) (l.getD i eC) ai ci
theorem SlC.below {w w' : World} {a : Option Addr} {xs : List Pc} (h : SlC w a xs) (hb : Below w.heap.size w w') : SlC w' a xs := fun i hi => by
  obtain ⟨b, off, ha, ai, ci, hc⟩ := h i hi
  exact ⟨b, off, ha, ai, ci, hc.below hb⟩
theorem sl_lt {w : World} {a : Option Addr} {xs : List Int} (h : Sl w a xs) (i : Nat) (hi : i < xs.length) : ∃ x, a = some x ∧ x.block < w.heap.size := by
  obtain ⟨b, off, ha, hc⟩ := h i hi
  exact ⟨_, ha, blk_lt hc⟩
/-- The cells of pieces, one behind the other. -/
def flatC : List PV → List Value
  | [] => []
  | p :: l => .int .i64 p.1.f :: .string p.1.s :: p.2 :: flatC l
theorem flatC_len : ∀ l : List PV, (flatC l).length = l.length * 3
  | [] => rfl
  | p :: l => by simp [flatC, flatC_len l]; omega
theorem flatC_get : ∀ (l : List PV) (i : Nat), i < l.length → (flatC l)[i * 3]? = some (.int .i64 (l.getD i eV).1.f) ∧ (flatC l)[i * 3 + 1]? = some (.string (l.getD i eV).1.s) ∧ (flatC l)[i * 3 + 2]? = some (l.getD i eV).2
  | [], i, h => by simp at h
  | p :: l, 0, _ => ⟨rfl, rfl, rfl⟩
  | p :: l, i + 1, h => by
    have := flatC_get l i (by simpa using h)
    have e1 : (i + 1) * 3 = i * 3 + 1 + 1 + 1 := by omega
    have e2 : (i + 1) * 3 + 1 = i * 3 + 1 + 1 + 1 + 1 := by omega
    have e3 : (i + 1) * 3 + 2 = i * 3 + 2 + 1 + 1 + 1 := by omega
    rw [e2, e3, e1]
    simpa only [flatC, List.getElem?_cons_succ, List.getD_cons_succ] using this
theorem flatC_append (l m : List PV) : flatC (l ++ m) = flatC l ++ flatC m := by
  induction l with
  | nil => rfl
  | cons p l ih => simp [flatC, ih]
/-- One piece written over. -/
def setC (c : List Value) (o : Nat) (p : PV) : List Value := ((c.set o (.int .i64 p.1.f)).set (o + 1) (.string p.1.s)).set (o + 2) p.2
theorem flatC_set : ∀ (l : List PV) (i : Nat) (p : PV), flatC (l.set i p) = setC (flatC l) (i * 3) p
  | [], _, _ => rfl
  | q :: l, 0, p => rfl
  | q :: l, i + 1, p => by
    have := flatC_set l i p
    have e1 : (i + 1) * 3 = i * 3 + 1 + 1 + 1 := by omega
    unfold setC at this ⊢
    rw [e1]
    have f2 : i * 3 + 1 + 1 + 1 + 2 = i * 3 + 2 + 1 + 1 + 1 := by omega
    rw [f2]
    simp only [List.set_cons_succ, flatC, this]
theorem flatC_one : ∀ l : List PV, (∀ q ∈ l, q.2.oneCell' = true) → ∀ u ∈ flatC l, u.oneCell' = true
  | [], _, u, h => by simp [flatC] at h
  | p :: l, hl, u, h => by
    simp only [flatC, List.mem_cons] at h
    rcases h with rfl | rfl | rfl | h
    · rfl
    · rfl
    · exact hl p (by simp)
    · exact flatC_one l (fun q hq => hl q (by simp [hq])) u h
theorem info_piece : (Tryd.prog.info? 50).map (fun i => (i.zero, i.size, i.bytes)) = some (some (.agg #[.int .i64 0, .string ByteArray.empty, .slice none 0 0]), 3, 48) := by kernel_rfl
/-- The plain pieces. -/
abbrev pcs (M : List PV) : List Pc := M.map Prod.fst
theorem pcs_get (M : List PV) (i : Nat) (h : i < M.length) : (pcs M).getD i eC = (M.getD i eV).1 := by simp [List.getD, List.getElem?_eq_getElem h]
/-- Pieces that lie in memory of their own: a row, and a row of its own for each Index. -/
structure OwC (w : World) (base : Nat) (v : Value) (n : Nat) (M : List PV) : Prop where
  len : M.length = n
  row : w.ownsRow base 50 3 v n (flatC M)
  idx : ∀ i, i < n → w.ownsRow base 3 1 (M.getD i eV).2 (M.getD i eV).1.x.length ((M.getD i eV).1.x.map (Value.int .i64))
  apart : ∀ i j, i < j → j < n → ∀ g, (M.getD i eV).2.ownBlock = some g → (M.getD j eV).2.ownBlock ≠ some g
theorem own_baseC {w : World} {b1 b2 n c : Nat} {t : TypeId} {v : Value} {ys : List Value} (h : w.ownsRow b1 t c v n ys) (hb : b2 ≤ b1) : w.ownsRow b2 t c v n ys := by
  refine ⟨h.1, ?_⟩
  rcases h.2 with h0 | ⟨g, cap, cur, rfl, hbg, hg, r⟩
  · exact .inl h0
  · exact .inr ⟨g, cap, cur, rfl, Nat.le_trans hb hbg, hg, r⟩
theorem own_belowC {w w' : World} {base n c : Nat} {t : TypeId} {v : Value} {ys : List Value} (h : w.ownsRow base t c v n ys) (hb : Below w.heap.size w w') : w'.ownsRow base t c v n ys := by
  refine ⟨h.1, ?_⟩
  rcases h.2 with h0 | ⟨g, cap, cur, rfl, hbg, hg, r⟩
  · exact .inl h0
  · exact .inr ⟨g, cap, cur, rfl, hbg, by rw [hb.block g (Array.getElem?_eq_some_iff.1 hg).1]; exact hg, r⟩
/-- Blocks of two types are two. -/
theorem own_two {w : World} {b1 b2 n1 n2 c1 c2 : Nat} {t1 t2 : TypeId} {v1 v2 : Value} {y1 y2 : List Value} (h1 : w.ownsRow b1 t1 c1 v1 n1 y1) (h2 : w.ownsRow b2 t2 c2 v2 n2 y2) (ht : t1 ≠ t2) (g : Nat) (e1 : v1.ownBlock = some g) : v2.ownBlock ≠ some g := by
  intro e2
  rcases h1.2 with ⟨rfl, _⟩ | ⟨g1, cap1, cur1, rfl, _, hg1, _⟩
  · simp [Value.ownBlock] at e1
  · rcases h2.2 with ⟨rfl, _⟩ | ⟨g2, cap2, cur2, rfl, _, hg2, _⟩
    · simp [Value.ownBlock] at e2
    · simp [Value.ownBlock] at e1 e2
      subst e1
      subst e2
      rw [hg1] at hg2
      simp at hg2
      exact ht hg2.2
theorem own_keptC {w w' : World} {base c n : Nat} {t : TypeId} {v : Value} {xs : List Value} {r : Option Nat} (h : w.ownsRow base t c v n xs) (hg : w.grownBy w' r) (hne : ∀ g, v.ownBlock = some g → r ≠ some g) : w'.ownsRow base t c v n xs := by
  refine ⟨h.1, ?_⟩
  rcases h.2 with h0 | ⟨g, cap, cur, hv, hb, hh, rest⟩
  · exact .inl h0
  · refine .inr ⟨g, cap, cur, hv, hb, ?_, rest⟩
    rw [hg.block g (Array.getElem?_eq_some_iff.1 hh).1 (fun e => hne g (by rw [hv]; rfl) e.symm)]
    exact hh
theorem OwC.below {w w' : World} {base n : Nat} {v : Value} {M : List PV} (h : OwC w base v n M) (hb : Below w.heap.size w w') : OwC w' base v n M :=
  ⟨h.len, own_belowC h.row hb, fun i hi => own_belowC (h.idx i hi) hb, h.apart⟩
theorem OwC.base {w : World} {b1 b2 n : Nat} {v : Value} {M : List PV} (h : OwC w b1 v n M) (hb : b2 ≤ b1) : OwC w b2 v n M :=
  ⟨h.len, own_baseC h.row hb, fun i hi => own_baseC (h.idx i hi) hb, h.apart⟩
theorem int_piece : 50 ≠ 3 := by decide
theorem own_slI6 {w : World} {base n cap : Nat} {a : Option Addr} {xs : List Int} (h : w.ownsRow base 3 1 (.slice a n cap) n (xs.map (Value.int .i64))) : Sl w a xs := by
  obtain ⟨b, q, e, s, _⟩ := own_form h
  cases e
  exact s
theorem OwC.form {w : World} {base n : Nat} {v : Value} {M : List PV} (h : OwC w base v n M) : ∃ a cap, v = .slice a n cap ∧ SlC w a (pcs M) := by
  have hl := h.len
  rcases h.row.2 with ⟨hv, h0⟩ | ⟨g, cap, cur, hv, _⟩
  · subst h0
    exact ⟨none, 0, hv, fun i hi => by simp at hi; omega⟩
  · subst hv
    refine ⟨_, cap, rfl, fun i hi => ?_⟩
    have hi' : i < M.length := by simpa using hi
    obtain ⟨f1, f2, f3⟩ := flatC_get M i hi'
    have h1 := h.row.cells (g := g) rfl (i * 3) _ f1
    have h2 := h.row.cells (g := g) rfl (i * 3 + 1) _ f2
    have h3 := h.row.cells (g := g) rfl (i * 3 + 2) _ f3
    rw [addr_add] at h1 h2 h3
    rw [pcs_get M i hi']
    obtain ⟨ai, ci, e, hs, _⟩ := own_form (h.idx i (by omega))
    rw [e] at h3
    exact ⟨g, 0, rfl, ai, ci, by simpa using h1, by simpa using h2, by simpa using h3, hs⟩
theorem OwC.sl {w : World} {base n cap : Nat} {a : Option Addr} {M : List PV} (h : OwC w base (.slice a n cap) n M) : SlC w a (pcs M) := by
  obtain ⟨b, q, e, s⟩ := h.form
  cases e
  exact s
/-- Texts and lists are no longer than a machine's. -/
def TxC (l : List Pc) : Prop := ∀ j, j < l.length → (l.getD j eC).s.size ≤ 9223372036854775807 ∧ (l.getD j eC).x.length ≤ 9223372036854775807
/-- What a walk is told of a slice of pieces that came in. -/
def IsRowC (w : World) (a : Option Addr) (len : Nat) (l : List Pc) : Prop := (l.length = len ∧ len ≤ maxLen ∧ SlC w a l) ∧ TxC l
theorem add_at6 (b off i : Nat) : (⟨b, off, none⟩ : Addr).add i = ⟨b, off + i, none⟩ := by unfold Addr.add; split <;> simp_all
open Classical in
theorem rowC_of {w : World} {a : Addr} {len cap : Nat} (hl : len ≤ cap) (hm : cap ≤ maxLen) (h : ∀ i, i < len → ∃ (p : Pc) (ai : Option Addr) (ci : Nat), (w.cell? (a.add (i * 3)) = some (.int .i64 p.f) ∧ w.cell? (a.add (i * 3 + 1)) = some (.string p.s) ∧ w.cell? (a.add (i * 3 + 2)) = some (.slice ai p.x.length ci) ∧ Sl w ai p.x) ∧ p.s.size ≤ maxLen ∧ p.x.length ≤ maxLen) : ∃ l, IsRowC w (some a) len l := by
  obtain ⟨f, hf⟩ : ∃ f : Nat → Pc, ∀ i, i < len → ∃ (ai : Option Addr) (ci : Nat), (w.cell? (a.add (i * 3)) = some (.int .i64 (f i).f) ∧ w.cell? (a.add (i * 3 + 1)) = some (.string (f i).s) ∧ w.cell? (a.add (i * 3 + 2)) = some (.slice ai (f i).x.length ci) ∧ Sl w ai (f i).x) ∧ (f i).s.size ≤ maxLen ∧ (f i).x.length ≤ maxLen := by
    refine ⟨fun i => if hi : i < len then Classical.choose (h i hi) else eC, fun i hi => ?_⟩
    simp only [dif_pos hi]
    exact Classical.choose_spec (h i hi)
  have hg : ∀ i, i < len → ((List.range len).map f).getD i eC = f i := fun i hi => by simp [List.getD, hi]
  refine ⟨(List.range len).map f, ⟨by simp, Nat.le_trans hl hm, fun i hi => ?_⟩, fun j hj => ?_⟩
  · have hi' : i < len := by simpa using hi
    obtain ⟨b, off, spot⟩ := a
    have hspot : spot = none := by
      obtain ⟨_, _, ⟨h00, _⟩, _⟩ := hf 0 (by omega)
      have := World.cell?_spot h00
      simpa [Addr.add] using this
    subst hspot
    obtain ⟨ai, ci, ⟨h1, h2, h3, h4⟩, _⟩ := hf i hi'
    simp only [add_at6] at h1 h2 h3
    rw [hg i hi']
    exact ⟨b, off, rfl, ai, ci, h1, by rw [Nat.add_assoc]; exact h2, by rw [Nat.add_assoc]; exact h3, h4⟩
  · have hj' : j < len := by simpa using hj
    obtain ⟨_, _, _, h1, h2⟩ := hf j hj'
    unfold maxLen at h1 h2
    rw [hg j hj']
    omega
end Go.Proofs.YtbcljhafdpnjbabDoor.L6

namespace Go.Proofs.YtbcljhafdpnjbabDoor.L6
open Go.RowKit L1
set_option linter.unusedVariables false

theorem wrap6 {z : Int} (h1 : -9223372036854775808 ≤ z) (h2 : z ≤ 9223372036854775807) : IntKind.i64.wrap z = z := by
  simp only [IntKind.wrap, IntKind.bits, IntKind.signed]
  simp
  omega
def GoodP (p : Pc) : Prop := p.s.size ≤ 60 ∧ wh p.s = p.s.size ∧ p.x = ix p.s
abbrev gc (L : List Pc) (i : Nat) : Pc := L.getD i eC
/-- The offset at which a piece is to begin. -/
def atg (L : List Pc) : Nat → Int
  | 0 => (gc L 0).f
  | i + 1 => atg L i + (cnt (gc L i).s : Int)
/-- What a piece at a place of the log is. -/
def OkC (L : List Pc) (i : Nat) : Prop := GoodP (gc L i) ∧ (gc L i).f = atg L i ∧ (i + 1 < L.length → cnt (gc L i).s ≠ 0)
def GoodPs (L : List Pc) : Prop := ∀ i, i < L.length → OkC L i
structure GoodG (L : List Pc) (B : Int) : Prop where
  one : 1 ≤ L.length
  many : L.length ≤ 20
  f0 : 0 ≤ (gc L 0).f
  f1 : (gc L 0).f ≤ 100000
  ps : GoodPs L
  b0 : (gc L 0).f ≤ B
  b1 : B ≤ (gc L 0).f + (cnt (gc L 0).s : Int)
  few : atg L L.length - (gc L 0).f ≤ 60
theorem good_empty {p : Pc} (h : GoodP p) : cnt p.s = 0 ↔ p.s.size = 0 := by
  constructor
  · intro h0
    have := h.2.1
    unfold wh at this
    rw [h0] at this
    exact this.symm
  · intro h0
    have := cnt_le p.s
    omega
theorem good_cnt {p : Pc} (h : GoodP p) : cnt p.s ≤ 60 := Nat.le_trans (cnt_le p.s) h.1
theorem atg_bd (L : List Pc) : ∀ i, (∀ j, j < i → GoodP (gc L j)) → (gc L 0).f ≤ atg L i ∧ atg L i ≤ (gc L 0).f + 60 * (i : Int)
  | 0, _ => by unfold atg; omega
  | i + 1, h => by
    have h1 := atg_bd L i (fun j hj => h j (by omega))
    have h2 := good_cnt (h i (by omega))
    unfold atg
    omega
theorem atg_mono (L : List Pc) (i : Nat) : atg L i ≤ atg L (i + 1) := by
  show atg L i ≤ atg L i + _
  omega
theorem atg_mono2 (L : List Pc) {i j : Nat} (h : i ≤ j) : atg L i ≤ atg L j := by
  induction j with
  | zero => obtain rfl : i = 0 := by omega
            exact Int.le_refl _
  | succ j ih =>
    by_cases e : i = j + 1
    · subst e; exact Int.le_refl _
    · exact Int.le_trans (ih (by omega)) (atg_mono L j)
/-- The end of a log. -/
def endg (L : List Pc) : Int := atg L L.length
theorem end_last {L : List Pc} (h1 : 1 ≤ L.length) (h : GoodPs L) : endg L = (gc L (L.length - 1)).f + (cnt (gc L (L.length - 1)).s : Int) := by
  unfold endg
  obtain ⟨k, hk⟩ : ∃ k, L.length = k + 1 := ⟨L.length - 1, by omega⟩
  rw [hk]
  show atg L k + _ = _
  rw [show k + 1 - 1 = k from rfl, (h k (by omega)).2.1]
theorem GoodG.end0 {L : List Pc} {B : Int} (h : GoodG L B) : B ≤ endg L ∧ 0 ≤ B ∧ endg L ≤ 100060 ∧ B ≤ 100060 := by
  have h1 := h.few
  have h2 := h.b0
  have h3 := h.b1
  have h4 : atg L 1 ≤ atg L L.length := atg_mono2 L h.one
  have h5 : atg L 1 = (gc L 0).f + (cnt (gc L 0).s : Int) := rfl
  have h6 := h.f0
  have h7 := h.f1
  unfold endg
  omega
/-- A record's text. -/
def rtx (s : ByteArray) (a : Nat) : ByteArray :=
  match rc s a with
  | none => ByteArray.empty
  | some (c, n) => s.extract c (c + n)
theorem rtx_some {s : ByteArray} {a c n : Nat} (h : rc s a = some (c, n)) : rtx s a = s.extract c (c + n) := by unfold rtx; rw [h]
theorem rtx_size (s : ByteArray) (a : Nat) : (rtx s a).size ≤ 20 := by
  unfold rtx
  split
  · exact Nat.zero_le _
  · rename_i c n h
    have := rc_lt h
    simp
    omega
/-- The first records of a text. -/
def rk (s : ByteArray) (k : Nat) : List ByteArray := (List.range k).map fun j => rtx s (pl s 0 j)
theorem rk_succ (s : ByteArray) (k : Nat) : rk s (k + 1) = rk s k ++ [rtx s (pl s 0 k)] := by simp [rk, List.range_succ]
theorem rk_len (s : ByteArray) (k : Nat) : (rk s k).length = k := by simp [rk]
theorem rk_get (s : ByteArray) (k j : Nat) (h : j < k) : (rk s k).getD j ByteArray.empty = rtx s (pl s 0 j) := by simp [rk, List.getD, h]
/-- Of a text's first records those whose offset is at least Begin. -/
def fl (B f : Int) (s : ByteArray) : Nat → List ByteArray
  | 0 => []
  | k + 1 => if B ≤ f + (k : Int) then fl B f s k ++ [rtx s (pl s 0 k)] else fl B f s k
theorem fl_yes {B f : Int} {s : ByteArray} {k : Nat} (h : B ≤ f + (k : Int)) : fl B f s (k + 1) = fl B f s k ++ [rtx s (pl s 0 k)] := by simp [fl, h]
theorem fl_no {B f : Int} {s : ByteArray} {k : Nat} (h : ¬ B ≤ f + (k : Int)) : fl B f s (k + 1) = fl B f s k := by simp [fl, h]
theorem fl_len (B f : Int) (s : ByteArray) : ∀ k, (fl B f s k).length = k - (B - f).toNat
  | 0 => by simp [fl]
  | k + 1 => by
    have ih := fl_len B f s k
    by_cases h : B ≤ f + (k : Int)
    · rw [fl_yes h]; simp; omega
    · rw [fl_no h]; omega
theorem fl_get (B f : Int) (s : ByteArray) : ∀ k j, j < k - (B - f).toNat → (fl B f s k).getD j ByteArray.empty = rtx s (pl s 0 ((B - f).toNat + j))
  | 0, j, h => by omega
  | k + 1, j, h => by
    have hb : B ≤ f + (k : Int) := by omega
    have hl := fl_len B f s k
    rw [fl_yes hb]
    by_cases e : j < k - (B - f).toNat
    · have := fl_get B f s k j e
      simp only [List.getD, List.getElem?_append_left (show j < (fl B f s k).length by omega)]
      exact this
    · have e2 : j = (fl B f s k).length := by omega
      have e3 : (B - f).toNat + j = k := by omega
      rw [e3, e2]
      simp [List.getD]
theorem gd_left (l m : List ByteArray) (j : Nat) (h : j < l.length) : (l ++ m).getD j ByteArray.empty = l.getD j ByteArray.empty := by simp only [List.getD, List.getElem?_append_left h]
theorem gd_right (l m : List ByteArray) (j : Nat) (h : l.length ≤ j) : (l ++ m).getD j ByteArray.empty = m.getD (j - l.length) ByteArray.empty := by simp only [List.getD, List.getElem?_append_right h]
/-- The records from Begin on of the first pieces. -/
def alk (L : List Pc) (B : Int) : Nat → List ByteArray
  | 0 => []
  | i + 1 => alk L B i ++ fl B (gc L i).f (gc L i).s (cnt (gc L i).s)
abbrev allG (L : List Pc) (B : Int) : List ByteArray := alk L B L.length
theorem alk_len {L : List Pc} {B : Int} (h : GoodG L B) : ∀ i, i + 1 ≤ L.length → ((alk L B (i + 1)).length : Int) = atg L (i + 1) - B
  | 0, hi => by
    have h1 := h.b0
    have h2 := h.b1
    have h3 := fl_len B (gc L 0).f (gc L 0).s (cnt (gc L 0).s)
    show (([] ++ fl B (gc L 0).f (gc L 0).s (cnt (gc L 0).s)).length : Int) = (gc L 0).f + (cnt (gc L 0).s : Int) - B
    rw [List.nil_append, h3]
    omega
  | i + 1, hi => by
    have ih := alk_len h i (by omega)
    have h1 := (h.ps (i + 1) (by omega)).2.1
    have h2 : atg L 1 ≤ atg L (i + 1) := atg_mono2 L (by omega)
    have h3 := h.b1
    have h4 : atg L 1 = (gc L 0).f + (cnt (gc L 0).s : Int) := rfl
    have h5 := fl_len B (gc L (i + 1)).f (gc L (i + 1)).s (cnt (gc L (i + 1)).s)
    show ((alk L B (i + 1) ++ fl B (gc L (i + 1)).f (gc L (i + 1)).s (cnt (gc L (i + 1)).s)).length : Int) = atg L (i + 1) + (cnt (gc L (i + 1)).s : Int) - B
    rw [List.length_append]
    omega
theorem all_len {L : List Pc} {B : Int} (h : GoodG L B) : ((allG L B).length : Int) = endg L - B := by
  obtain ⟨k, hk⟩ : ∃ k, L.length = k + 1 := ⟨L.length - 1, by have := h.one; omega⟩
  have := alk_len h k (by omega)
  unfold allG endg
  rw [hk]
  exact this
/-- The record at an offset. -/
theorem alk_get {L : List Pc} {B o : Int} (h : GoodG L B) (hB : B ≤ o) (i : Nat) (hi : i < L.length) (h1 : atg L i ≤ o) (h2 : o < atg L (i + 1)) :
    ∀ m, i < m → m ≤ L.length → (alk L B m).getD (o - B).toNat ByteArray.empty = rtx (gc L i).s (pl (gc L i).s 0 (o - (gc L i).f).toNat)
  | 0, hm, _ => absurd hm (Nat.not_lt_zero _)
  | m + 1, hm, hl => by
    have hf := (h.ps i hi).2.1
    show (alk L B m ++ fl B (gc L m).f (gc L m).s (cnt (gc L m).s)).getD (o - B).toNat ByteArray.empty = _
    by_cases e : i < m
    · have ih := alk_get h hB i hi h1 h2 m e (by omega)
      obtain ⟨m', rfl⟩ : ∃ m', m = m' + 1 := ⟨m - 1, by omega⟩
      have hl2 := alk_len h m' (by omega)
      have h3 : atg L (i + 1) ≤ atg L (m' + 1) := atg_mono2 L (by omega)
      rw [gd_left _ _ _ (show (o - B).toNat < (alk L B (m' + 1)).length by omega)]
      exact ih
    · obtain rfl : i = m := by omega
      have hfl := fl_len B (gc L i).f (gc L i).s (cnt (gc L i).s)
      have h2' : o < atg L i + (cnt (gc L i).s : Int) := h2
      have hlen : ((alk L B i).length : Int) = if i = 0 then 0 else atg L i - B := by
        by_cases e0 : i = 0
        · subst e0; simp [alk]
        · obtain ⟨i', rfl⟩ : ∃ i', i = i' + 1 := ⟨i - 1, by omega⟩
          rw [if_neg (by omega)]
          exact alk_len h i' (by omega)
      have hge : (alk L B i).length ≤ (o - B).toNat := by
        split at hlen <;> omega
      rw [gd_right _ _ _ hge, fl_get B (gc L i).f (gc L i).s (cnt (gc L i).s) ((o - B).toNat - (alk L B i).length)]
      · congr 2
        by_cases e0 : i = 0
        · rw [if_pos e0] at hlen
          have hb0 := h.b0
          subst e0
          omega
        · rw [if_neg e0] at hlen
          have hb1 := h.b1
          have h3 : atg L 1 ≤ atg L i := atg_mono2 L (by omega)
          have h4 : atg L 1 = (gc L 0).f + (cnt (gc L 0).s : Int) := rfl
          omega
      · by_cases e0 : i = 0
        · rw [if_pos e0] at hlen
          have hb0 := h.b0
          have h4 : atg L 0 = (gc L 0).f := rfl
          subst e0
          omega
        · rw [if_neg e0] at hlen
          have hb1 := h.b1
          have h3 : atg L 1 ≤ atg L i := atg_mono2 L (by omega)
          have h4 : atg L 1 = (gc L 0).f + (cnt (gc L 0).s : Int) := rfl
          omega
end Go.Proofs.YtbcljhafdpnjbabDoor.L6

namespace Go.Proofs.YtbcljhafdpnjbabDoor.L6
open Go.RowKit L1
set_option linter.unusedVariables false

/-- The end, as the last piece tells it. -/
def lastEnd (L : List Pc) (n : Nat) : Int := (gc L (n - 1)).f + (cnt (gc L (n - 1)).s : Int)
theorem GoodG.last {L : List Pc} {B : Int} {n : Nat} (h : GoodG L B) (hn : L.length = n) : lastEnd L n = endg L := by
  rw [← hn]
  exact (end_last h.one h.ps).symm
open Classical in
/-- What EndOf answers. -/
noncomputable def endRes (L : List Pc) (B : Int) : Option Int := if GoodG L B then some (endg L) else none
/-- The last piece that begins at an offset or ahead of it; the first one, where none does. -/
def pcAt (L : List Pc) (o : Int) : Nat → Nat
  | 0 => 0
  | k + 1 => if o < (gc L (k + 1)).f then pcAt L o k else k + 1
theorem pcAt_le (L : List Pc) (o : Int) : ∀ k, pcAt L o k ≤ k
  | 0 => Nat.le_refl _
  | k + 1 => by
    unfold pcAt
    have := pcAt_le L o k
    split <;> omega
theorem pcAt_at (L : List Pc) (o : Int) : ∀ k, pcAt L o k = 0 ∨ (gc L (pcAt L o k)).f ≤ o
  | 0 => .inl rfl
  | k + 1 => by
    unfold pcAt
    split
    · exact pcAt_at L o k
    · rename_i h
      exact .inr (by omega)
theorem pcAt_next (L : List Pc) (o : Int) : ∀ k j, pcAt L o k < j → j ≤ k → o < (gc L j).f
  | 0, j, h1, h2 => by
    have : pcAt L o 0 = 0 := rfl
    omega
  | k + 1, j, h1, h2 => by
    unfold pcAt at h1
    split at h1
    · rename_i h
      by_cases e : j = k + 1
      · subst e; exact h
      · exact pcAt_next L o k j h1 (by omega)
    · omega
/-- The text that is told at an offset. -/
def rdAt (L : List Pc) (o : Int) : ByteArray := rtx (gc L (pcAt L o (L.length - 1))).s (pl (gc L (pcAt L o (L.length - 1))).s 0 (o - (gc L (pcAt L o (L.length - 1))).f).toNat)
open Classical in
noncomputable def readRes (L : List Pc) (B o : Int) : Option ByteArray := if GoodG L B ∧ B ≤ o ∧ o < endg L then some (rdAt L o) else none
/-- Where an offset lies. -/
theorem GoodG.spot {L : List Pc} {B o : Int} (h : GoodG L B) (h1 : B ≤ o) (h2 : o < endg L) : pcAt L o (L.length - 1) < L.length ∧ (gc L (pcAt L o (L.length - 1))).f = atg L (pcAt L o (L.length - 1)) ∧ atg L (pcAt L o (L.length - 1)) ≤ o ∧ o < atg L (pcAt L o (L.length - 1) + 1) := by
  have ho := h.one
  have hle := pcAt_le L o (L.length - 1)
  have hat := pcAt_at L o (L.length - 1)
  have hnx := pcAt_next L o (L.length - 1)
  obtain ⟨i, hi⟩ : ∃ i, i = pcAt L o (L.length - 1) := ⟨_, rfl⟩
  rw [← hi] at hle hat hnx ⊢
  have hil : i < L.length := by omega
  have hf := (h.ps i hil).2.1
  refine ⟨hil, hf, ?_, ?_⟩
  · rcases hat with e | e
    · subst e
      have := h.b0
      show (gc L 0).f ≤ o
      omega
    · omega
  · by_cases e : i + 1 < L.length
    · have h3 := hnx (i + 1) (by omega) (by omega)
      rw [(h.ps (i + 1) e).2.1] at h3
      exact h3
    · have e2 : i + 1 = L.length := by omega
      rw [e2]
      exact h2
/-- What is told at an offset is among all records. -/
theorem GoodG.read {L : List Pc} {B o : Int} (h : GoodG L B) (h1 : B ≤ o) (h2 : o < endg L) : (allG L B).getD (o - B).toNat ByteArray.empty = rdAt L o := by
  obtain ⟨a, b, c, d⟩ := h.spot h1 h2
  exact alk_get h h1 _ a c d L.length a (Nat.le_refl _)
end Go.Proofs.YtbcljhafdpnjbabDoor.L6

namespace Go.Proofs.YtbcljhafdpnjbabDoor.L6
open Go.RowKit L1
set_option linter.unusedVariables false

theorem take_of_bts {s t : ByteArray} {m : Nat} (h : (bts t 0).take m = (bts s 0).take m) : t.data.toList.take m = s.data.toList.take m := by
  simp only [bts, List.drop_zero, ← List.map_take] at h
  refine (List.map_inj_right (fun a b e => ?_)).1 h
  have e2 : a.toNat = b.toNat := by omega
  exact UInt8.toNat_inj.1 e2
theorem extract_front {s t : ByteArray} {m c d : Nat} (h : (bts t 0).take m = (bts s 0).take m) (hd : d ≤ m) : t.extract c d = s.extract c d := by
  have h1 := take_of_bts h
  apply ByteArray.ext
  apply Array.ext'
  have e : ∀ u : ByteArray, (u.extract c d).data.toList = ((u.data.toList.take m).take d).drop c := fun u => by
    rw [List.take_take, Nat.min_eq_left hd]
    simp [ByteArray.data_extract, List.drop_take]
  rw [e, e, h1]
/-- Of two texts with one front the first records' texts are alike. -/
theorem rtx_ext {s t : ByteArray} (k : Nat) (hk : k ≤ cnt s) (hs : pl s 0 k ≤ t.size) (he : (bts t 0).take (pl s 0 k) = (bts s 0).take (pl s 0 k)) :
    ∀ j, j < k → rtx t (pl t 0 j) = rtx s (pl s 0 j) := fun j hj => by
  obtain ⟨h1, h2⟩ := pl_ext k hk hs he j (by omega)
  obtain ⟨c, n, h3, h4⟩ := cnt_rc s j (by omega)
  have h5 : pl s 0 (j + 1) ≤ pl s 0 k := pl_mono2 s (by omega)
  rw [rtx_some h3, rtx_some ((h2 hj).trans h3)]
  exact extract_front he (by omega)
theorem cnt_ext {s t : ByteArray} (k : Nat) (hk : k ≤ cnt s) (hs : pl s 0 k ≤ t.size) (he : (bts t 0).take (pl s 0 k) = (bts s 0).take (pl s 0 k)) : k ≤ cnt t := by
  by_cases e : cnt t < k
  · have h2 := (pl_ext k hk hs he (cnt t) (by omega)).2 e
    rw [cnt_no t] at h2
    exact absurd h2.symm (cnt_yes s _ (by omega))
  · omega
/-- The records of a text that is cut off are the first ones. -/
theorem front_ext (s : ByteArray) (b : Nat) : cnt (s.extract 0 b) ≤ cnt s ∧ ∀ j, j < cnt (s.extract 0 b) → rtx s (pl s 0 j) = rtx (s.extract 0 b) (pl (s.extract 0 b) 0 j) := by
  have hw := wh_le (s.extract 0 b)
  have hz : (s.extract 0 b).size ≤ s.size ∧ (s.extract 0 b).size ≤ b := by simp; omega
  have h1 : pl (s.extract 0 b) 0 (cnt (s.extract 0 b)) ≤ s.size := Nat.le_trans hw hz.1
  have h2 : (bts s 0).take (pl (s.extract 0 b) 0 (cnt (s.extract 0 b))) = (bts (s.extract 0 b) 0).take (pl (s.extract 0 b) 0 (cnt (s.extract 0 b))) := by
    have h3 : pl (s.extract 0 b) 0 (cnt (s.extract 0 b)) ≤ (s.extract 0 b).size := hw
    obtain ⟨q, hq⟩ : ∃ q, q = pl (s.extract 0 b) 0 (cnt (s.extract 0 b)) := ⟨_, rfl⟩
    rw [← hq] at h3 ⊢
    have e : bts (s.extract 0 b) 0 = (bts s 0).take b := by simp [bts, ByteArray.data_extract]
    rw [e, List.take_take, Nat.min_eq_left (by omega)]
  exact ⟨cnt_ext (s := s.extract 0 b) (t := s) _ (Nat.le_refl _) h1 h2, rtx_ext (s := s.extract 0 b) (t := s) _ (Nat.le_refl _) h1 h2⟩
theorem fl_congr {B f : Int} {s t : ByteArray} : ∀ k, (∀ j, j < k → rtx s (pl s 0 j) = rtx t (pl t 0 j)) → fl B f s k = fl B f t k
  | 0, _ => rfl
  | k + 1, h => by
    have ih := fl_congr (B := B) (f := f) k (fun j hj => h j (by omega))
    unfold fl
    rw [ih, h k (by omega)]
theorem fl_front (B f : Int) (s : ByteArray) (k : Nat) : ∀ m, fl B f s k <+: fl B f s (k + m)
  | 0 => List.prefix_refl _
  | m + 1 => by
    refine (fl_front B f s k m).trans ?_
    show fl B f s (k + m) <+: fl B f s (k + m + 1)
    by_cases h : B ≤ f + ((k + m : Nat) : Int)
    · rw [fl_yes h]
      exact List.prefix_append _ _
    · rw [fl_no h]
      exact List.prefix_refl _
theorem gc_setR (L : List Pc) (m i : Nat) (p : Pc) (hi : i < L.length) : gc (L.set m p) i = if i = m then p else gc L i := by
  by_cases e : i = m
  · subst e
    rw [if_pos rfl]
    simp [gc, List.getD, hi]
  · rw [if_neg e]
    simp [gc, List.getD, List.getElem?_set_ne (Ne.symm e)]
theorem atg_set {L : List Pc} {m : Nat} {p : Pc} (hm : m < L.length) (hf : p.f = (gc L m).f) : ∀ i, i ≤ m → atg (L.set m p) i = atg L i
  | 0, _ => by
    show (gc (L.set m p) 0).f = (gc L 0).f
    rw [gc_setR L m 0 p (by omega)]
    split
    · rename_i e
      rw [e]
      exact hf
    · rfl
  | i + 1, hi => by
    show atg (L.set m p) i + (cnt (gc (L.set m p) i).s : Int) = atg L i + (cnt (gc L i).s : Int)
    rw [atg_set hm hf i (by omega), gc_setR L m i p (by omega), if_neg (by omega)]
theorem alk_set {L : List Pc} {m : Nat} {p : Pc} {B : Int} (hm : m < L.length) : ∀ i, i ≤ m → alk (L.set m p) B i = alk L B i
  | 0, _ => rfl
  | i + 1, hi => by
    show alk (L.set m p) B i ++ _ = alk L B i ++ _
    rw [alk_set hm i (by omega), gc_setR L m i p (by omega), if_neg (by omega)]
/-- A log whose last piece is written over by a good one with no more records. -/
theorem good_set {L : List Pc} {B : Int} {p : Pc} (h : GoodG L B) (hf : p.f = (gc L (L.length - 1)).f) (hp : GoodP p) (hc : cnt p.s ≤ cnt (gc L (L.length - 1)).s) (hB : B ≤ p.f + (cnt p.s : Int)) : GoodG (L.set (L.length - 1) p) B := by
  have h1 := h.one
  have hm : L.length - 1 < L.length := by omega
  have hl : (L.set (L.length - 1) p).length = L.length := by simp
  have e0 : (gc (L.set (L.length - 1) p) 0).f = (gc L 0).f := atg_set hm hf 0 (by omega)
  have hat := atg_set (p := p) hm hf
  refine ⟨by rw [hl]; exact h1, by rw [hl]; exact h.many, by rw [e0]; exact h.f0, by rw [e0]; exact h.f1, fun i hi => ?_, by rw [e0]; exact h.b0, ?_, ?_⟩
  · rw [hl] at hi
    refine ⟨?_, ?_, fun h3 => ?_⟩
    · rw [gc_setR _ _ _ _ hi]
      split
      · exact hp
      · exact (h.ps i hi).1
    · rw [hat i (by omega), gc_setR _ _ _ _ hi]
      split
      · rename_i e
        rw [hf, e]
        exact (h.ps _ hm).2.1
      · exact (h.ps i hi).2.1
    · rw [hl] at h3
      rw [gc_setR _ _ _ _ hi, if_neg (by omega)]
      exact (h.ps i hi).2.2 h3
  · rw [e0, gc_setR L _ 0 p (by omega)]
    split
    · rename_i e
      rw [show (gc L 0).f = p.f by rw [hf, ← e]]
      exact hB
    · exact h.b1
  · have h5 := h.few
    rw [hl, e0]
    obtain ⟨k, hk⟩ : ∃ k, L.length = k + 1 := ⟨L.length - 1, by omega⟩
    have e1 : L.length - 1 = k := by omega
    rw [e1] at hat hc ⊢
    rw [hk] at h5 ⊢
    have e2 : atg L (k + 1) = atg L k + (cnt (gc L k).s : Int) := rfl
    have e3 : atg (L.set k p) (k + 1) = atg (L.set k p) k + (cnt (gc (L.set k p) k).s : Int) := rfl
    rw [e3, hat k (Nat.le_refl _), gc_setR L k k p (by omega), if_pos rfl]
    omega
theorem all_set {L : List Pc} {B : Int} {p : Pc} (h1 : 1 ≤ L.length) : allG (L.set (L.length - 1) p) B = alk L B (L.length - 1) ++ fl B p.f p.s (cnt p.s) ∧ allG L B = alk L B (L.length - 1) ++ fl B (gc L (L.length - 1)).f (gc L (L.length - 1)).s (cnt (gc L (L.length - 1)).s) := by
  obtain ⟨k, hk⟩ : ∃ k, L.length = k + 1 := ⟨L.length - 1, by omega⟩
  have e1 : L.length - 1 = k := by omega
  rw [e1]
  constructor
  · show alk (L.set k p) B (L.set k p).length = _
    rw [show (L.set k p).length = k + 1 by simp; exact hk]
    show alk (L.set k p) B k ++ _ = _
    rw [alk_set (by omega) k (Nat.le_refl _), gc_setR L k k p (by omega), if_pos rfl]
  · show alk L B L.length = _
    rw [hk]
    rfl
end Go.Proofs.YtbcljhafdpnjbabDoor.L6

namespace Go.Proofs.YtbcljhafdpnjbabDoor.L6
open Go.RowKit L1
set_option linter.unusedVariables false

/-- A log that a call hands back, in memory of its own, a number and whether there is one. -/
def RetG (w : World) (L : List Pc) (B left : Int) (ok : Bool) (e : Ending) (w' : World) : Prop :=
  ∃ a c, e = .returned (.tuple #[.agg #[.slice a L.length c, .int .i64 B], .int .i64 left, .bool ok]) ∧ ∃ M, pcs M = L ∧ OwC w' w.heap.size (.slice a L.length c) L.length M ∧ Below w.heap.size w w'
/-- The last piece's bytes without so many. -/
def tornS (p : Pc) (b : Int) : ByteArray := p.s.extract 0 (p.s.size - b.toNat)
def tornP (p : Pc) (b : Int) : Pc := ⟨p.f, (tornS p b).extract 0 (wh (tornS p b)), ix (tornS p b)⟩
abbrev lastP (L : List Pc) : Pc := gc L (L.length - 1)
def TearOk (L : List Pc) (B b : Int) : Prop := GoodG L B ∧ (0 ≤ b ∧ b ≤ ((lastP L).s.size : Int)) ∧ B ≤ (lastP L).f + (cnt (tornS (lastP L) b) : Int)
structure TearIs (L : List Pc) (B b : Int) (L' : List Pc) (B' left : Int) (ok : Bool) : Prop where
  yes : TearOk L B b → ok = true ∧ L' = L.set (L.length - 1) (tornP (lastP L) b) ∧ B' = B ∧ left = ((tornS (lastP L) b).size : Int) - (wh (tornS (lastP L) b) : Int)
  no : ¬ TearOk L B b → ok = false ∧ L' = [] ∧ B' = 0 ∧ left = 0
open Classical in
theorem tear_is (L : List Pc) (B b : Int) : ∃ L' B' left ok, TearIs L B b L' B' left ok := by
  by_cases h : TearOk L B b
  · exact ⟨_, _, _, true, fun _ => ⟨rfl, rfl, rfl, rfl⟩, fun h2 => absurd h h2⟩
  · exact ⟨_, _, _, false, fun h2 => absurd h2 h, fun _ => ⟨rfl, rfl, rfl, rfl⟩⟩
theorem own_nilC (w : World) (base : Nat) : OwC w base (.slice none 0 0) 0 [] := ⟨rfl, World.ownsRow_nil _ _ _ _, fun i hi => absurd hi (Nat.not_lt_zero _), fun i j _ hj => absurd hj (Nat.not_lt_zero _)⟩
theorem retG_none {w w' : World} (hb : Below w.heap.size w w') : RetG w [] 0 0 false (.returned (.tuple #[.agg #[.slice none 0 0, .int .i64 0], .int .i64 0, .bool false])) w' := ⟨_, _, rfl, [], rfl, own_nilC _ _, hb⟩
theorem tornP_size (p : Pc) (b : Int) : (tornS p b).size ≤ p.s.size := by unfold tornS; simp
/-- The piece that is recovered is good. -/
theorem tornP_good {p : Pc} (b : Int) (h : GoodP p) : GoodP (tornP p b) := by
  have h1 := tornP_size p b
  have h2 := h.1
  have h3 := wh_le (tornS p b)
  refine ⟨?_, ?_, ?_⟩
  · show ((tornS p b).extract 0 (wh (tornS p b))).size ≤ 60
    simp
    omega
  · show wh ((tornS p b).extract 0 (wh (tornS p b))) = _
    rw [whole_wh]
    show _ = ((tornS p b).extract 0 (wh (tornS p b))).size
    simp
    omega
  · exact (whole_ix (tornS p b)).symm
theorem tornP_cnt (p : Pc) (b : Int) : cnt (tornP p b).s = cnt (tornS p b) := whole_cnt _
theorem GoodG.small {L : List Pc} {B : Int} {n : Nat} (h : GoodG L B) (hn : L.length = n) : ∀ i, i < n → (gc L i).x.length ≤ 60 := fun i hi => by
  have hg := (h.ps i (by omega)).1
  have := good_cnt hg
  rw [hg.2.2]
  unfold ix
  rw [ixk_len]
  omega
end Go.Proofs.YtbcljhafdpnjbabDoor.L6

namespace Go.Proofs.YtbcljhafdpnjbabDoor.L1
open Go.RowKit
set_option linter.unusedVariables false

/-- The table of the digits' worths lies in memory as its initialiser lays it. -/
def Tab (w : World) : Prop := ∀ k : Nat, k < 6 → w.cell? ⟨0, k, none⟩ = some (.int .i64 (wor k))

theorem block_lt {w : World} {b o : Nat} {v : Value} (h : w.cell? ⟨b, o, none⟩ = some v) : b < w.heap.size := by
  by_cases hb : b < w.heap.size
  · exact hb
  · simp [World.cell?, Array.getElem?_eq_none (show w.heap.size ≤ b by omega)] at h
theorem Tab.below {w w' : World} (h : Tab w) (hb : Below w.heap.size w w') : Tab w' := fun k hk => by
  have hc := h k hk
  rw [hb.cell (p := ⟨0, k, none⟩) (block_lt hc)]
  exact hc
end Go.Proofs.YtbcljhafdpnjbabDoor.L1

namespace Go.Proofs.YtbcljhafdpnjbabDoor.L1
open Go.RowKit
set_option linter.unusedVariables false

def gvRes (a : Nat) : Option (List Int) → Value
  | none => .tuple #[.int .i64 0, .int .i64 0, .bool false]
  | some l => .tuple #[.int .i64 (zag (val l)), .int .i64 ((a + l.length : Nat) : Int), .bool true]

theorem gvRes_some {a k : Nat} {l : List Int} {v : Int} (hv : val l = v) (hl : l.length = k + 1) : gvRes a (some l) = .tuple #[.int .i64 (zag v), .int .i64 ((a : Int) + (k : Int) + 1), .bool true] := by
  subst hv
  simp only [gvRes, hl]
  congr 4

theorem tdiv_zag (z : Int) (h : 0 ≤ z) (h2 : z ≤ 2000000000000) (ho : z % 2 = 1) : wrap64 (-(z + 1).tdiv 2) = zag z := by
  unfold zag
  rw [if_pos ho, Int.tdiv_eq_ediv_of_nonneg (by omega)]
  unfold wrap64
  omega

set_option maxRecDepth 100000 in
set_option maxHeartbeats 400000 in
theorem unZigZag_yes (z : Int) (w : World) (h1 : 0 ≤ z) (h2 : z ≤ 2000000000000) :
    Calls Tryd.prog 77 #[.int .i64 z] w fun e w' => e = .returned (.tuple #[.int .i64 (zag z), .bool true]) ∧ w = w' := by
  by_cases h : z % 2 = 1
  · have e := tdiv_zag z h1 h2 h
    have E := hide e
    clear e
    go_enter Tryd.func77, Tryd.ntmps77
    go_wp2
    go_ret2
    rw [← E.out]
    exact ⟨rfl, rfl⟩
  · have e : zag z = z / 2 := by unfold zag; rw [if_neg h]
    rw [e]
    clear e
    go_enter Tryd.func77, Tryd.ntmps77
    go_wp2
    go_ret2
    exact ⟨rfl, rfl⟩
set_option maxRecDepth 100000 in
set_option maxHeartbeats 400000 in
theorem unZigZag_no (z : Int) (w : World) (h1 : 2000000000000 < z) :
    Calls Tryd.prog 77 #[.int .i64 z] w fun e w' => e = .returned (.tuple #[.int .i64 0, .bool false]) ∧ w = w' := by
  have h0 : ¬ z < 0 := by omega
  go_enter Tryd.func77, Tryd.ntmps77
  go_wp2
  go_ret2
  exact ⟨rfl, rfl⟩

set_option maxRecDepth 100000 in
set_option maxHeartbeats 400000 in
theorem getVarint_out (s : ByteArray) (a : Int) (w : World) (h : a < 0 ∨ (s.size : Int) ≤ a) :
    Calls Tryd.prog 66 #[.string s, .int .i64 a] w fun e w' => e = .returned (.tuple #[.int .i64 0, .int .i64 0, .bool false]) ∧ w = w' := by
  by_cases h0 : a < 0
  · clear h
    go_enter Tryd.func66, Tryd.ntmps66
    go_wp2
    go_ret3
    exact ⟨rfl, rfl⟩
  · have h1 : (s.size : Int) ≤ a := by omega
    clear h
    go_enter Tryd.func66, Tryd.ntmps66
    go_wp2
    go_ret3
    exact ⟨rfl, rfl⟩

set_option maxRecDepth 100000 in
set_option maxHeartbeats 1000000 in
theorem getVarint_any (s : ByteArray) (a : Nat) (w : World) (ha : a < s.size) (hs : s.size ≤ maxLen) (ht : Tab w) :
    Calls Tryd.prog 66 #[.string s, .int .i64 a] w fun e w' => e = .returned (gvRes a (gv (bts s a))) ∧ w = w' := by
  unfold maxLen at hs
  have hI : (a : Int) < (s.size : Int) := by omega
  have e1 : ¬ s.size ≤ a := by omega
  have e2 : ¬ (a : Int) < 0 := by omega
  have HT := hide ht
  clear ht
  have htl := hide (bts_len s a)
  go_enter Tryd.func66, Tryd.ntmps66
  go_wp2
  go_loop [7, 8] (fun z i => ∃ k : Nat, k ≤ 6 ∧ k ≤ s.size - a ∧ i = .int .i64 k ∧ z = .int .i64 (val ((bts s a).take k)) ∧ Hid (Hi ((bts s a).take k)) ∧ Hid (gv (bts s a) = gvf (6 - k) ((bts s a).take k) ((bts s a).drop k))) (fun _ i => 6 - (intOf i).toNat)
  case atStart => exact ⟨0, by omega, by omega, rfl, rfl, fun x hx => by simp at hx, rfl⟩
  case round =>
    obtain ⟨k, hk6, hkl, rfl, rfl, HH, HG⟩ := hrel
    by_cases h6 : k < 6
    · by_cases hl : k < s.size - a
      · have hlt : a + k < s.size := by omega
        have hb := bts_get s a k hlt
        have hbb := bts_byte s a k
        have hc := unhide HT k h6
        have hd := digit_bd ((bts s a).getD k 0) k (by omega)
        have hv := val_bd7 (bts s a) k (by rw [htl.out]; omega) (by omega)
        have h6I : (k : Int) < 6 := by omega
        have hlI : (k : Int) < (s.size : Int) - (a : Int) := by omega
        obtain ⟨b, hbe⟩ : ∃ b, b = (bts s a).getD k 0 := ⟨_, rfl⟩
        rw [← hbe] at hb hbb hd
        obtain ⟨v, hve⟩ : ∃ v, v = val ((bts s a).take k) := ⟨_, rfl⟩
        rw [← hve] at hv ⊢
        have HB := hide hbe
        have HV := hide hve
        obtain ⟨hb0, hb1⟩ := hbb
        obtain ⟨hd0, hd1⟩ := hd
        obtain ⟨hv0, hv1⟩ := hv
        have hb' := hb.symm
        clear hbe hve hb
        by_cases h128 : 128 ≤ b
        · go_wp2
          go_round
          case rel =>
            refine ⟨k + 1, by omega, by omega, by go_num, ?_, ?_, ?_⟩
            · rw [val_take _ _ (by rw [htl.out]; omega), ← HB.out, ← HV.out]
            · exact hi_take (by rw [htl.out]; omega) HH.out (by rw [← HB.out]; exact h128) (by rw [← HB.out]; exact hb1)
            · exact HG.out.trans (gvf_on (by rw [htl.out]; omega) h6 (by rw [← HB.out]; exact h128))
          case measure => simp [intOf]; omega
        · have hstop := gvf_stop (t := bts s a) (k := k) (by rw [htl.out]; omega) h6 (by rw [← HB.out]; omega)
          rw [← HG.out, val_take _ _ (by rw [htl.out]; omega), ← HB.out, ← HV.out] at hstop
          have hst : val ((bts s a).take (k + 1)) = v + b % 128 * wor k := by rw [val_take _ _ (by rw [htl.out]; omega), ← HB.out, ← HV.out]
          have hsl : ((bts s a).take (k + 1)).length = k + 1 := by rw [List.length_take, htl.out]; omega
          have ST := hide hstop
          have VT := hide hst
          have SL := hide hsl
          clear hstop hst hsl HH HG
          by_cases hz : v + b % 128 * wor k ≤ 2000000000000
          · by_cases hk0 : k = 0
            · have hkI : ¬ (0 : Int) < (k : Int) := by omega
              have HK := hide hk0
              clear hk0
              go_wp2_with (go_at_call 77; refine (unZigZag_yes _ _ (by omega) hz).mono ?_; rintro e w' ⟨rfl, rfl⟩)
              go_ret3
              rw [ST.out, if_pos ⟨hz, .inl HK.out⟩, gvRes_some VT.out SL.out]
              exact ⟨rfl, rfl⟩
            · have hkI : (0 : Int) < (k : Int) := by omega
              by_cases hb00 : (b == 0) = true
              · go_wp2_with (go_at_call 77; refine (unZigZag_yes _ _ (by omega) hz).mono ?_; rintro e w' ⟨rfl, rfl⟩)
                go_ret3
                rw [ST.out, if_neg (by have := eq_of_beq hb00; omega)]
                exact ⟨rfl, rfl⟩
              · go_wp2_with (go_at_call 77; refine (unZigZag_yes _ _ (by omega) hz).mono ?_; rintro e w' ⟨rfl, rfl⟩)
                go_ret3
                rw [ST.out, if_pos ⟨hz, .inr (by simpa using hb00)⟩, gvRes_some VT.out SL.out]
                exact ⟨rfl, rfl⟩
          · go_wp2_with (go_at_call 77; refine (unZigZag_no _ _ (by omega)).mono ?_; rintro e w' ⟨rfl, rfl⟩)
            go_ret3
            rw [ST.out, if_neg (by omega)]
            exact ⟨rfl, rfl⟩
      · have hend := gvf_end (t := bts s a) (k := k) (by rw [htl.out]; omega)
        rw [← HG.out] at hend
        have h6I : (k : Int) < 6 := by omega
        have hlI : ¬ (k : Int) < (s.size : Int) - (a : Int) := by omega
        have HE := hide hend
        clear hend
        go_wp2
        go_ret3
        rw [HE.out]
        exact ⟨rfl, rfl⟩
    · have hend := gvf_six (t := bts s a) (k := k) (by omega)
      rw [← HG.out] at hend
      have h6I : ¬ (k : Int) < 6 := by omega
      have HE := hide hend
      clear hend
      go_wp2
      go_ret3
      rw [HE.out]
      exact ⟨rfl, rfl⟩
end Go.Proofs.YtbcljhafdpnjbabDoor.L1

namespace Go.Proofs.YtbcljhafdpnjbabDoor.L6
open Go.RowKit L1
set_option linter.unusedVariables false

theorem slice_rec (w : World) (s : ByteArray) (c n : Nat) (h : c + n ≤ s.size) :
    (Instr.slice 9 (.string s) (some (.int .i64 (c : Int))) (some (.int .i64 ((c : Int) + (n : Int)))) none).run Tryd.prog w = .ok (.string (s.extract c (c + n))) w := by
  have h := run_slice_string (P := Tryd.prog) w 9 s .i64 .i64 (c : Int) ((c : Int) + (n : Int)) Tryd.underlying9 (by omega) (by omega) (by omega)
  rw [h]
  congr 4

set_option maxRecDepth 100000 in
set_option maxHeartbeats 1000000 in
theorem recordAt_none (s : ByteArray) (a : Nat) (w : World) (h : rc s a = none) (hs : s.size ≤ 1048576) (ht : Tab w) :
    Calls Tryd.prog 43 #[.string s, .int .i64 a] w fun e w' => e = .returned (.tuple #[.string ByteArray.empty, .int .i64 0, .bool false]) ∧ w = w' := by
  by_cases ha : a < s.size
  · have C := hide (getVarint_any s a w ha (by unfold maxLen; omega) ht)
    cases hg : gv (bts s a) with
    | none =>
      rw [hg] at C
      simp only [gvRes] at C
      clear hg ht h
      go_enter Tryd.func43, Tryd.ntmps43
      go_wp2_with fail
      refine C.out.mono ?_
      rintro e w1 ⟨rfl, rfl⟩
      go_wp2
      go_ret3
      exact ⟨rfl, rfl⟩
    | some l =>
      rw [hg] at C
      simp only [gvRes] at C
      have hf := gv_form (bts_mem s a) hg
      have hz := zag_lo (val l) (val_nonneg l) hf.2
      have hl := gv_some hg
      rw [bts_len] at hl
      have hno : ¬ (0 ≤ zag (val l) ∧ zag (val l) ≤ 20 ∧ zag (val l) ≤ (s.size : Int) - ((a + l.length : Nat) : Int)) := by
        intro hc
        unfold rc at h
        rw [hg] at h
        simp only [if_pos hc] at h
        cases h
      obtain ⟨z, hzz⟩ : ∃ z, z = zag (val l) := ⟨_, rfl⟩
      obtain ⟨e, hee⟩ : ∃ e, e = a + l.length := ⟨_, rfl⟩
      rw [← hzz] at C hz hno
      rw [← hee] at C hno
      have he : e ≤ s.size := by omega
      clear hg ht h hf hl hzz hee
      by_cases h1 : z < 0
      · go_enter Tryd.func43, Tryd.ntmps43
        go_wp2_with fail
        refine C.out.mono ?_
        rintro e w1 ⟨rfl, rfl⟩
        go_wp2
        go_ret3
        exact ⟨rfl, rfl⟩
      · by_cases h2 : (20 : Int) < z
        · go_enter Tryd.func43, Tryd.ntmps43
          go_wp2_with fail
          refine C.out.mono ?_
          rintro e w1 ⟨rfl, rfl⟩
          go_wp2
          go_ret3
          exact ⟨rfl, rfl⟩
        · have h3 : (s.size : Int) - (e : Int) < z := by omega
          clear hno
          go_enter Tryd.func43, Tryd.ntmps43
          go_wp2_with fail
          refine C.out.mono ?_
          rintro e w1 ⟨rfl, rfl⟩
          go_wp2
          go_ret3
          exact ⟨rfl, rfl⟩
  · have C := hide (getVarint_out s (a : Int) w (.inr (by omega)))
    clear h ht
    go_enter Tryd.func43, Tryd.ntmps43
    go_wp2_with fail
    refine C.out.mono ?_
    rintro e w1 ⟨rfl, rfl⟩
    go_wp2
    go_ret3
    exact ⟨rfl, rfl⟩

set_option maxRecDepth 100000 in
set_option maxHeartbeats 1000000 in
theorem recordAt_some (s : ByteArray) (a c n : Nat) (w : World) (h : rc s a = some (c, n)) (hs : s.size ≤ 1048576) (ht : Tab w) :
    Calls Tryd.prog 43 #[.string s, .int .i64 a] w fun e w' => e = .returned (.tuple #[.string (rtx s a), .int .i64 ((nx s a : Nat) : Int), .bool true]) ∧ w = w' := by
  obtain ⟨l, hg, hz, hc, hn, hle⟩ := rc_gv h
  have hl := gv_some hg
  rw [bts_len] at hl
  have C := hide (getVarint_any s a w (by omega) (by unfold maxLen; omega) ht)
  rw [hg] at C
  simp only [gvRes, hz, ← hc] at C
  rw [rtx_some h, nx_some h]
  have q := fun w => slice_rec w s c n hle
  have e1 : ((c + n : Nat) : Int) = (c : Int) + (n : Int) := by omega
  rw [e1]
  have h1 : ¬ (n : Int) < 0 := by omega
  have h2 : ¬ (20 : Int) < (n : Int) := by omega
  have h3 : ¬ (s.size : Int) - (c : Int) < (n : Int) := by omega
  clear hg hz hc hl ht h e1
  go_enter Tryd.func43, Tryd.ntmps43
  go_wp2_with fail
  refine C.out.mono ?_
  rintro e w1 ⟨rfl, rfl⟩
  go_wp2
  go_ret3
  exact ⟨rfl, rfl⟩
end Go.Proofs.YtbcljhafdpnjbabDoor.L6
