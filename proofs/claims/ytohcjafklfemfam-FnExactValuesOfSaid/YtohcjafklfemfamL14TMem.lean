/-
  Lists of totals in memory. Nothing of the program's text is proved here but closed facts on its types.
-/
import Derived.Test.YtohcjafklfemfamL8Gen
import Derived.Test.YtohcjafklfemfamL3Lab
namespace Go.Proofs.Ytohcjafklfemfam.L14T
open Go.RowKit L1 L3
set_option linter.unusedVariables false

/-- One of the totals: its labels, its numbers. -/
structure Rw where
  l : List Lb
  v0 : Int
  v1 : Int
  v2 : Int
  v3 : Int
def eR : Rw := ⟨[], 0, 0, 0, 0⟩
/-- One with the slice that is its labels. -/
abbrev PR := Rw × Value
def eV : PR := (eR, .slice none 0 0)
abbrev gr (L : List Rw) (i : Nat) : Rw := L.getD i eR
/-- One as a value. -/
abbrev svR (p : Rw) (v : Value) : Value := .agg #[v, .int .i64 p.v0, .int .i64 p.v1, .int .i64 p.v2, .int .i64 p.v3]
/-- One lies in memory from a place on. -/
structure AtR (w : World) (b o : Nat) (p : Rw) (a : Option Addr) (c : Nat) : Prop where
  x : w.cell? ⟨b, o, none⟩ = some (.slice a p.l.length c)
  i0 : w.cell? ⟨b, o + 1, none⟩ = some (.int .i64 p.v0)
  i1 : w.cell? ⟨b, o + 2, none⟩ = some (.int .i64 p.v1)
  i2 : w.cell? ⟨b, o + 3, none⟩ = some (.int .i64 p.v2)
  i3 : w.cell? ⟨b, o + 4, none⟩ = some (.int .i64 p.v3)
  l : SlL w a p.l
theorem AtR.below {w w' : World} {b o c : Nat} {p : Rw} {a : Option Addr} (h : AtR w b o p a c) (hb : Below w.heap.size w w') : AtR w' b o p a c :=
  ⟨(hb.cell (p := ⟨b, o, none⟩) (blk_lt h.x)).trans h.x, (hb.cell (p := ⟨b, o + 1, none⟩) (blk_lt h.x)).trans h.i0, (hb.cell (p := ⟨b, o + 2, none⟩) (blk_lt h.x)).trans h.i1, (hb.cell (p := ⟨b, o + 3, none⟩) (blk_lt h.x)).trans h.i2, (hb.cell (p := ⟨b, o + 4, none⟩) (blk_lt h.x)).trans h.i3, h.l.below hb⟩
/-- A list of them lies in memory from an address on. -/
def SlR (w : World) (a : Option Addr) (L : List Rw) : Prop := ∀ i, i < L.length → ∃ b off, a = some ⟨b, off, none⟩ ∧ ∃ ai ci, AtR w b (off + i * 5) (gr L i) ai ci
theorem SlR.below {w w' : World} {a : Option Addr} {xs : List Rw} (h : SlR w a xs) (hb : Below w.heap.size w w') : SlR w' a xs := fun i hi => by
  obtain ⟨b, off, ha, ai, ci, hc⟩ := h i hi
  exact ⟨b, off, ha, ai, ci, hc.below hb⟩
/-- The cells of one, and of some one behind the other. -/
def cR (p : PR) : List Value := [p.2, .int .i64 p.1.v0, .int .i64 p.1.v1, .int .i64 p.1.v2, .int .i64 p.1.v3]
abbrev flatR (M : List PR) : List Value := M.flatMap cR
theorem cR_len (p : PR) : (cR p).length = 5 := rfl
theorem flatR_len (M : List PR) : (flatR M).length = M.length * 5 := L8.flat_len cR 5 cR_len M
theorem flatR_get (M : List PR) (i : Nat) (h : i < M.length) : (flatR M)[i * 5]? = some (M.getD i eV).2 ∧ (flatR M)[i * 5 + 1]? = some (.int .i64 (M.getD i eV).1.v0) ∧ (flatR M)[i * 5 + 2]? = some (.int .i64 (M.getD i eV).1.v1) ∧ (flatR M)[i * 5 + 3]? = some (.int .i64 (M.getD i eV).1.v2) ∧ (flatR M)[i * 5 + 4]? = some (.int .i64 (M.getD i eV).1.v3) :=
  ⟨L8.flat_get cR 5 cR_len eV M i 0 h (by omega), L8.flat_get cR 5 cR_len eV M i 1 h (by omega), L8.flat_get cR 5 cR_len eV M i 2 h (by omega), L8.flat_get cR 5 cR_len eV M i 3 h (by omega), L8.flat_get cR 5 cR_len eV M i 4 h (by omega)⟩
theorem info_row : (Try.prog.info? 60).map (fun i => (i.zero, i.size, i.bytes)) = some (some (.agg #[.slice none 0 0, .int .i64 0, .int .i64 0, .int .i64 0, .int .i64 0]), 5, 56) := by kernel_rfl
/-- The plain ones. -/
abbrev rws (M : List PR) : List Rw := M.map Prod.fst
theorem rws_get (M : List PR) (i : Nat) (h : i < M.length) : gr (rws M) i = (M.getD i eV).1 := by simp [gr, List.getD, List.getElem?_eq_getElem h]
/-- Some that lie in memory of their own: a row of them, and a row of its own for each one's labels. -/
structure OwR (w : World) (base : Nat) (v : Value) (n : Nat) (M : List PR) : Prop where
  len : M.length = n
  row : w.ownsRow base 60 5 v n (flatR M)
  idx : ∀ i, i < n → w.ownsRow base 87 2 (M.getD i eV).2 (M.getD i eV).1.l.length (flatL (M.getD i eV).1.l)
  apart : ∀ i j, i < j → j < n → ∀ g, (M.getD i eV).2.ownBlock = some g → (M.getD j eV).2.ownBlock ≠ some g
theorem own_baseR {w : World} {b1 b2 n c : Nat} {t : TypeId} {v : Value} {ys : List Value} (h : w.ownsRow b1 t c v n ys) (hb : b2 ≤ b1) : w.ownsRow b2 t c v n ys := by
  refine ⟨h.1, ?_⟩
  rcases h.2 with h0 | ⟨g, cap, cur, rfl, hbg, hg, r⟩
  · exact .inl h0
  · exact .inr ⟨g, cap, cur, rfl, Nat.le_trans hb hbg, hg, r⟩
theorem own_belowR {w w' : World} {base n c : Nat} {t : TypeId} {v : Value} {ys : List Value} (h : w.ownsRow base t c v n ys) (hb : Below w.heap.size w w') : w'.ownsRow base t c v n ys := by
  refine ⟨h.1, ?_⟩
  rcases h.2 with h0 | ⟨g, cap, cur, rfl, hbg, hg, r⟩
  · exact .inl h0
  · exact .inr ⟨g, cap, cur, rfl, hbg, by rw [hb.block g (Array.getElem?_eq_some_iff.1 hg).1]; exact hg, r⟩
theorem OwR.below {w w' : World} {base n : Nat} {v : Value} {M : List PR} (h : OwR w base v n M) (hb : Below w.heap.size w w') : OwR w' base v n M :=
  ⟨h.len, own_belowR h.row hb, fun i hi => own_belowR (h.idx i hi) hb, h.apart⟩
theorem OwR.base {w : World} {b1 b2 n : Nat} {v : Value} {M : List PR} (h : OwR w b1 v n M) (hb : b2 ≤ b1) : OwR w b2 v n M :=
  ⟨h.len, own_baseR h.row hb, fun i hi => own_baseR (h.idx i hi) hb, h.apart⟩
theorem OwR.setC {w : World} {base n : Nat} {v : Value} {M : List PR} (h : OwR w base v n M) (p : Addr) (u : Value) (hp : p.block < base) : OwR (w.setCell p u) base v n M :=
  ⟨h.len, L8.own_setC h.row p u hp, fun i hi => L8.own_setC (h.idx i hi) p u hp, h.apart⟩
theorem lab_row : 60 ≠ 87 := by decide
theorem OwR.form {w : World} {base n : Nat} {v : Value} {M : List PR} (h : OwR w base v n M) : ∃ a cap, v = .slice a n cap ∧ SlR w a (rws M) := by
  have hl := h.len
  rcases h.row.2 with ⟨hv, h0⟩ | ⟨g, cap, cur, hv, _⟩
  · subst h0
    exact ⟨none, 0, hv, fun i hi => by simp at hi; omega⟩
  · subst hv
    refine ⟨_, cap, rfl, fun i hi => ?_⟩
    have hi' : i < M.length := by simpa using hi
    obtain ⟨f0, f1, f2, f3, f4⟩ := flatR_get M i hi'
    have h0 := h.row.cells (g := g) rfl (i * 5) _ f0
    have h1 := h.row.cells (g := g) rfl (i * 5 + 1) _ f1
    have h2 := h.row.cells (g := g) rfl (i * 5 + 2) _ f2
    have h3 := h.row.cells (g := g) rfl (i * 5 + 3) _ f3
    have h4 := h.row.cells (g := g) rfl (i * 5 + 4) _ f4
    rw [addr_add] at h0 h1 h2 h3 h4
    rw [rws_get M i hi']
    obtain ⟨ai, ci, e, hs, _⟩ := own_formL (h.idx i (by omega))
    rw [e] at h0
    exact ⟨g, 0, rfl, ai, ci, by simpa using h0, by simpa using h1, by simpa using h2, by simpa using h3, by simpa using h4, hs⟩
theorem OwR.sl {w : World} {base n cap : Nat} {a : Option Addr} {M : List PR} (h : OwR w base (.slice a n cap) n M) : SlR w a (rws M) := by
  obtain ⟨b, q, e, s⟩ := h.form
  cases e
  exact s
/-- Texts and lists are no longer than a machine's. -/
def TxB (l : List Lb) : Prop := ∀ j, j < l.length → (l.getD j eL).1.size ≤ 9223372036854775807 ∧ (l.getD j eL).2.size ≤ 9223372036854775807
def TxR (L : List Rw) : Prop := ∀ j, j < L.length → (gr L j).l.length ≤ 9223372036854775807 ∧ TxB (gr L j).l
/-- What a walk is told of a slice of them that came in. -/
def IsRowR (w : World) (a : Option Addr) (len : Nat) (L : List Rw) : Prop := (L.length = len ∧ len ≤ maxLen ∧ SlR w a L) ∧ TxR L
theorem add_at (b off i : Nat) : (⟨b, off, none⟩ : Addr).add i = ⟨b, off + i, none⟩ := by unfold Addr.add; split <;> simp_all
open Classical in
theorem rowR_of {w : World} {a : Addr} {len cap : Nat} (hl : len ≤ cap) (hm : cap ≤ maxLen) (h : ∀ i, i < len → ∃ (p : Rw) (ai : Option Addr) (ci : Nat), (w.cell? (a.add (i * 5)) = some (.slice ai p.l.length ci) ∧ w.cell? (a.add (i * 5 + 1)) = some (.int .i64 p.v0) ∧ w.cell? (a.add (i * 5 + 2)) = some (.int .i64 p.v1) ∧ w.cell? (a.add (i * 5 + 3)) = some (.int .i64 p.v2) ∧ w.cell? (a.add (i * 5 + 4)) = some (.int .i64 p.v3)) ∧ IsRowLS w ai p.l.length p.l) : ∃ l, IsRowR w (some a) len l := by
  obtain ⟨f, hf⟩ : ∃ f : Nat → Rw, ∀ i, i < len → ∃ (ai : Option Addr) (ci : Nat), (w.cell? (a.add (i * 5)) = some (.slice ai (f i).l.length ci) ∧ w.cell? (a.add (i * 5 + 1)) = some (.int .i64 (f i).v0) ∧ w.cell? (a.add (i * 5 + 2)) = some (.int .i64 (f i).v1) ∧ w.cell? (a.add (i * 5 + 3)) = some (.int .i64 (f i).v2) ∧ w.cell? (a.add (i * 5 + 4)) = some (.int .i64 (f i).v3)) ∧ IsRowLS w ai (f i).l.length (f i).l := by
    refine ⟨fun i => if hi : i < len then Classical.choose (h i hi) else eR, fun i hi => ?_⟩
    simp only [dif_pos hi]
    exact Classical.choose_spec (h i hi)
  have hg : ∀ i, i < len → gr ((List.range len).map f) i = f i := fun i hi => by simp [gr, List.getD, hi]
  refine ⟨(List.range len).map f, ⟨by simp, Nat.le_trans hl hm, fun i hi => ?_⟩, fun j hj => ?_⟩
  · have hi' : i < len := by simpa using hi
    obtain ⟨b, off, spot⟩ := a
    have hspot : spot = none := by
      obtain ⟨_, _, ⟨h00, _⟩, _⟩ := hf 0 (by omega)
      have := World.cell?_spot h00
      simpa [Addr.add] using this
    subst hspot
    obtain ⟨ai, ci, ⟨h0, h1, h2, h3, h4⟩, hx⟩ := hf i hi'
    simp only [add_at, ← Nat.add_assoc] at h0 h1 h2 h3 h4
    rw [hg i hi']
    exact ⟨b, off, rfl, ai, ci, h0, h1, h2, h3, h4, hx.1.2.2⟩
  · have hj' : j < len := by simpa using hj
    obtain ⟨_, _, _, h1⟩ := hf j hj'
    have h2 := h1.1.2.1
    unfold maxLen at h2
    rw [hg j hj']
    exact ⟨by omega, h1.2⟩
theorem list_sameR {M : List PR} {L : List Rw} {n : Nat} (h1 : M.length = n) (h2 : L.length = n) (h : ∀ j, j < n → (M.getD j eV).1 = gr L j) : rws M = L := by
  apply List.ext_getElem?
  intro j
  by_cases hj : j < n
  · have h := h j hj
    simp only [gr, List.getD, List.getElem?_eq_getElem (show j < M.length by omega), List.getElem?_eq_getElem (show j < L.length by omega), Option.getD_some] at h
    rw [List.getElem?_map, List.getElem?_eq_getElem (show j < M.length by omega), List.getElem?_eq_getElem (show j < L.length by omega), ← h]
    rfl
  · rw [List.getElem?_eq_none (by simp; omega), List.getElem?_eq_none (by omega)]
/-- A cell that is no slice, written over. -/
theorem OwR.setI {w : World} {base g n cap : Nat} {M : List PR} (h : OwR w base (.slice (some ⟨g, 0, none⟩) n cap) n M) (k : Nat) (hk : k < n) (j : Nat) (hj : j < 5) (u : Value) (p : Rw) (hp : cR (p, (M.getD k eV).2) = (cR (M.getD k eV)).set j u) (hh : p.l = (M.getD k eV).1.l) :
    OwR (w.setCell ⟨g, k * 5 + j, none⟩ u) base (.slice (some ⟨g, 0, none⟩) n cap) n (M.set k (p, (M.getD k eV).2)) ∧ w.grownBy (w.setCell ⟨g, k * 5 + j, none⟩ u) (some g) := by
  have h1 := h.row.stored (k * 5 + j) u
  have hl := h.len
  have keep : ∀ {c m : Nat} {u' : Value} {ys : List Value}, w.ownsRow base 87 c u' m ys → (w.setCell ⟨g, k * 5 + j, none⟩ u).ownsRow base 87 c u' m ys := fun hu =>
    L8.own_kept hu h1.2 (fun b hb e => by
      simp at e
      subst e
      exact L8.own_two h.row hu lab_row g rfl hb)
  refine ⟨⟨by simpa using hl, ?_, fun i hi => ?_, fun i j hij hj => ?_⟩, h1.2⟩
  · have e0 := L8.flat_set cR 5 cR_len eV M k j u _ (by omega) hj hp
    show World.ownsRow _ base _ 5 _ n (List.flatMap cR _)
    rw [← e0]
    exact h1.1
  · by_cases e : i = k
    · subst e
      rw [L8.getD_self M i _ _ (by omega)]
      show World.ownsRow _ base _ 2 (M.getD i eV).2 p.l.length (flatL p.l)
      rw [hh]
      exact keep (h.idx i hi)
    · rw [L8.getD_ne M k i _ _ e]
      exact keep (h.idx i hi)
  · intro b
    have q : ∀ t, t < n → ((M.set k (p, (M.getD k eV).2)).getD t eV).2 = (M.getD t eV).2 := fun t ht => by
      by_cases e : t = k
      · subst e; rw [L8.getD_self M t _ _ (by omega)]
      · rw [L8.getD_ne M k t _ _ e]
    rw [q i (by omega), q j hj]
    exact h.apart i j hij hj b
/-- The labels of one, written over. -/
theorem OwR.setX {w w' : World} {base n : Nat} {v : Value} {M : List PR} (h : OwR w base v n M) (k : Nat) (hk : k < n) (xs : List Lb) (hx : w'.ownsRow base 87 2 (M.getD k eV).2 xs.length (flatL xs)) (hg : w.grownBy w' (M.getD k eV).2.ownBlock) :
    OwR w' base v n (M.set k (⟨xs, (M.getD k eV).1.v0, (M.getD k eV).1.v1, (M.getD k eV).1.v2, (M.getD k eV).1.v3⟩, (M.getD k eV).2)) := by
  have hl := h.len
  have q : ∀ t, t < n → ((M.set k (⟨xs, (M.getD k eV).1.v0, (M.getD k eV).1.v1, (M.getD k eV).1.v2, (M.getD k eV).1.v3⟩, (M.getD k eV).2)).getD t eV).2 = (M.getD t eV).2 := fun t ht => by
    by_cases e : t = k
    · subst e; rw [L8.getD_self M t _ _ (by omega)]
    · rw [L8.getD_ne M k t _ _ e]
  refine ⟨by simpa using hl, ?_, fun i hi => ?_, fun i j hij hj => ?_⟩
  · have e0 : flatR (M.set k (⟨xs, (M.getD k eV).1.v0, (M.getD k eV).1.v1, (M.getD k eV).1.v2, (M.getD k eV).1.v3⟩, (M.getD k eV).2)) = flatR M := by
      have := L8.flat_set cR 5 cR_len eV M k 0 (M.getD k eV).2 (⟨xs, (M.getD k eV).1.v0, (M.getD k eV).1.v1, (M.getD k eV).1.v2, (M.getD k eV).1.v3⟩, (M.getD k eV).2) (by omega) (by omega) rfl
      show List.flatMap cR _ = _
      rw [← this]
      apply List.ext_getElem?
      intro j
      by_cases e : j = k * 5
      · subst e
        rw [Nat.add_zero, List.getElem?_set_self (by rw [flatR_len]; omega), (flatR_get M k (by omega)).1]
      · rw [Nat.add_zero, List.getElem?_set_ne (by omega)]
    rw [e0]
    exact L8.own_kept h.row hg (fun b hb e => L8.own_two h.row (h.idx k hk) lab_row b hb e)
  · by_cases e : i = k
    · subst e
      rw [L8.getD_self M i _ _ (by omega)]
      exact hx
    · rw [L8.getD_ne M k i _ _ e]
      refine L8.own_kept (h.idx i hi) hg (fun b hb e2 => ?_)
      by_cases hlt : i < k
      · exact h.apart i k hlt hk b hb e2
      · exact h.apart k i (by omega) hi b e2 hb
  · intro b
    rw [q i (by omega), q j hj]
    exact h.apart i j hij hj b
/-- All cells of one of a row that is owned, written over. -/
theorem OwR.put {w : World} {base g n cap : Nat} {M : List PR} (h : OwR w base (.slice (some ⟨g, 0, none⟩) n cap) n M) (k : Nat) (hk : k < n) (p : Rw) (v : Value)
    (hv : w.ownsRow base 87 2 v p.l.length (flatL p.l)) (hne : ∀ i, i < n → i ≠ k → ∀ b, v.ownBlock = some b → (M.getD i eV).2.ownBlock ≠ some b) :
    OwR (((((w.setCell ⟨g, k * 5, none⟩ v).setCell ⟨g, k * 5 + 1, none⟩ (.int .i64 p.v0)).setCell ⟨g, k * 5 + 2, none⟩ (.int .i64 p.v1)).setCell ⟨g, k * 5 + 3, none⟩ (.int .i64 p.v2)).setCell ⟨g, k * 5 + 4, none⟩ (.int .i64 p.v3)) base (.slice (some ⟨g, 0, none⟩) n cap) n (M.set k (p, v)) ∧
    w.grownBy (((((w.setCell ⟨g, k * 5, none⟩ v).setCell ⟨g, k * 5 + 1, none⟩ (.int .i64 p.v0)).setCell ⟨g, k * 5 + 2, none⟩ (.int .i64 p.v1)).setCell ⟨g, k * 5 + 3, none⟩ (.int .i64 p.v2)).setCell ⟨g, k * 5 + 4, none⟩ (.int .i64 p.v3)) (some g) := by
  have h0 := h.row.stored (k * 5) v
  have h1 := h0.1.stored (k * 5 + 1) (.int .i64 p.v0)
  have h2 := h1.1.stored (k * 5 + 2) (.int .i64 p.v1)
  have h3 := h2.1.stored (k * 5 + 3) (.int .i64 p.v2)
  have h4 := h3.1.stored (k * 5 + 4) (.int .i64 p.v3)
  have hg := h0.2.trans h1.2
  have hl := h.len
  have hg := hg.trans h2.2
  have hg := hg.trans h3.2
  have hg := hg.trans h4.2
  have hF : flatR (M.set k (p, v)) = (((((flatR M).set (k * 5) v).set (k * 5 + 1) (.int .i64 p.v0)).set (k * 5 + 2) (.int .i64 p.v1)).set (k * 5 + 3) (.int .i64 p.v2)).set (k * 5 + 4) (.int .i64 p.v3) := by
    have q0 := L8.flat_set cR 5 cR_len eV M k 0 v (⟨p.l, (M.getD k eV).1.v0, (M.getD k eV).1.v1, (M.getD k eV).1.v2, (M.getD k eV).1.v3⟩, v) (by omega) (by omega) rfl
    rw [Nat.add_zero] at q0
    have q1 := L8.flat_set cR 5 cR_len eV (M.set k (⟨p.l, (M.getD k eV).1.v0, (M.getD k eV).1.v1, (M.getD k eV).1.v2, (M.getD k eV).1.v3⟩, v)) k 1 (.int .i64 p.v0) (⟨p.l, p.v0, (M.getD k eV).1.v1, (M.getD k eV).1.v2, (M.getD k eV).1.v3⟩, v) (by simp; omega) (by omega) (by rw [L8.getD_self _ _ _ _ (by omega)]; rfl)
    rw [L8.set_twice] at q1
    have q2 := L8.flat_set cR 5 cR_len eV (M.set k (⟨p.l, p.v0, (M.getD k eV).1.v1, (M.getD k eV).1.v2, (M.getD k eV).1.v3⟩, v)) k 2 (.int .i64 p.v1) (⟨p.l, p.v0, p.v1, (M.getD k eV).1.v2, (M.getD k eV).1.v3⟩, v) (by simp; omega) (by omega) (by rw [L8.getD_self _ _ _ _ (by omega)]; rfl)
    rw [L8.set_twice] at q2
    have q3 := L8.flat_set cR 5 cR_len eV (M.set k (⟨p.l, p.v0, p.v1, (M.getD k eV).1.v2, (M.getD k eV).1.v3⟩, v)) k 3 (.int .i64 p.v2) (⟨p.l, p.v0, p.v1, p.v2, (M.getD k eV).1.v3⟩, v) (by simp; omega) (by omega) (by rw [L8.getD_self _ _ _ _ (by omega)]; rfl)
    rw [L8.set_twice] at q3
    have q4 := L8.flat_set cR 5 cR_len eV (M.set k (⟨p.l, p.v0, p.v1, p.v2, (M.getD k eV).1.v3⟩, v)) k 4 (.int .i64 p.v3) (⟨p.l, p.v0, p.v1, p.v2, p.v3⟩, v) (by simp; omega) (by omega) (by rw [L8.getD_self _ _ _ _ (by omega)]; rfl)
    rw [L8.set_twice] at q4
    show List.flatMap cR _ = ((((((flatR M).set (k * 5) v).set (k * 5 + 1) (.int .i64 p.v0)).set (k * 5 + 2) (.int .i64 p.v1)).set (k * 5 + 3) (.int .i64 p.v2)).set (k * 5 + 4) (.int .i64 p.v3))
    rw [q0, q1, q2, q3, q4]
  have keep : ∀ {c m : Nat} {u : Value} {ys : List Value}, w.ownsRow base 87 c u m ys → (((((w.setCell ⟨g, k * 5, none⟩ v).setCell ⟨g, k * 5 + 1, none⟩ (.int .i64 p.v0)).setCell ⟨g, k * 5 + 2, none⟩ (.int .i64 p.v1)).setCell ⟨g, k * 5 + 3, none⟩ (.int .i64 p.v2)).setCell ⟨g, k * 5 + 4, none⟩ (.int .i64 p.v3)).ownsRow base 87 c u m ys := fun hu =>
    L8.own_kept hu hg (fun b hb e => by
      simp at e
      subst e
      exact L8.own_two h.row hu lab_row g rfl hb)
  refine ⟨⟨by simpa using hl, by rw [hF]; exact h4.1, fun i hi => ?_, fun i j hij hj => ?_⟩, hg⟩
  · by_cases e : i = k
    · subst e
      rw [L8.getD_self M i _ _ (by omega)]
      exact keep hv
    · rw [L8.getD_ne M k i _ _ e]
      exact keep (h.idx i hi)
  · intro b
    by_cases e : i = k
    · have e2 : j ≠ k := by omega
      subst e
      rw [L8.getD_self M i _ _ (by omega), L8.getD_ne M i j _ _ e2]
      exact hne j hj e2 b
    · by_cases e2 : j = k
      · subst e2
        rw [L8.getD_self M j _ _ (by omega), L8.getD_ne M j i _ _ e]
        intro h1 h2
        exact hne i (by omega) e b h2 h1
      · rw [L8.getD_ne M k i _ _ e, L8.getD_ne M k j _ _ e2]
        exact h.apart i j hij hj b
/-- The cells of a box. -/
theorem blkp {w : World} {g : Nat} {u a0 a1 a2 a3 : Value} {t : TypeId} (h : w.heap[g]? = some (.cells #[u, a0, a1, a2, a3] t (0, 0))) :
    w.cell? ⟨g, 0, none⟩ = some u ∧ w.cell? ⟨g, 1, none⟩ = some a0 ∧ w.cell? ⟨g, 2, none⟩ = some a1 ∧ w.cell? ⟨g, 3, none⟩ = some a2 ∧ w.cell? ⟨g, 4, none⟩ = some a3 ∧ w.frozen? ⟨g, 0, none⟩ = false ∧ w.frozen? ⟨g, 1, none⟩ = false ∧ w.frozen? ⟨g, 2, none⟩ = false ∧ w.frozen? ⟨g, 3, none⟩ = false ∧ w.frozen? ⟨g, 4, none⟩ = false := by
  simp [World.cell?, World.frozen?, h]
end Go.Proofs.Ytohcjafklfemfam.L14T
