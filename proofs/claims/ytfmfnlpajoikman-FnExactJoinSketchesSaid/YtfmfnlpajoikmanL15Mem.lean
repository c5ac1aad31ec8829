/-
  A sketch in memory: rows of ints. Nothing of the program's text is proved here but closed facts on its types.
-/
import Derived.Test.YtfmfnlpajoikmanSI
import Derived.Test.YtfmfnlpajoikmanSITo
import Derived.Test.YtfmfnlpajoikmanL8Gen
namespace Go.Proofs.Ytfmfnlpajoikman.L15
open Go.RowKit L1 Own Sli
set_option linter.unusedVariables false

/-- A row with the slice that it is. -/
abbrev PR := List Int × Value
def eV : PR := ([], .slice none 0 0)
abbrev gi (L : List (List Int)) (i : Nat) : List Int := L.getD i []
abbrev ints (l : List Int) : List Value := l.map (Value.int .i64)
abbrev flatR (M : List PR) : List Value := M.map Prod.snd
theorem flatR_len (M : List PR) : (flatR M).length = M.length := by simp
theorem flatR_get (M : List PR) (i : Nat) (h : i < M.length) : (flatR M)[i]? = some (M.getD i eV).2 := by simp [List.getD, h]
theorem flatR_set (M : List PR) (i : Nat) (p : PR) : flatR (M.set i p) = (flatR M).set i p.2 := by simp [List.map_set]
abbrev rws (M : List PR) : List (List Int) := M.map Prod.fst
theorem rws_get (M : List PR) (i : Nat) (h : i < M.length) : gi (rws M) i = (M.getD i eV).1 := by simp [gi, List.getD, List.getElem?_eq_getElem h]
/-- Rows that lie in memory of their own: a row of slices, and a row of ints for each. -/
structure OwR (w : World) (base : Nat) (v : Value) (n : Nat) (M : List PR) : Prop where
  len : M.length = n
  row : w.ownsRow base 41 1 v n (flatR M)
  idx : ∀ i, i < n → w.ownsRow base 3 1 (M.getD i eV).2 (M.getD i eV).1.length (ints (M.getD i eV).1)
  apart : ∀ i j, i < j → j < n → ∀ g, (M.getD i eV).2.ownBlock = some g → (M.getD j eV).2.ownBlock ≠ some g
theorem own_baseR {w : World} {b1 b2 n c : Nat} {t : TypeId} {v : Value} {ys : List Value} (h : w.ownsRow b1 t c v n ys) (hb : b2 ≤ b1) : w.ownsRow b2 t c v n ys := by
  refine ⟨h.1, ?_⟩
  rcases h.2 with h0 | ⟨g, cap, cur, rfl, hbg, hg, r⟩
  · exact .inl h0
  · exact .inr ⟨g, cap, cur, rfl, Nat.le_trans hb hbg, hg, r⟩
theorem OwR.below {w w' : World} {base n : Nat} {v : Value} {M : List PR} (h : OwR w base v n M) (hb : Below w.heap.size w w') : OwR w' base v n M :=
  ⟨h.len, own_belO h.row hb, fun i hi => own_belO (h.idx i hi) hb, h.apart⟩
theorem OwR.base {w : World} {b1 b2 n : Nat} {v : Value} {M : List PR} (h : OwR w b1 v n M) (hb : b2 ≤ b1) : OwR w b2 v n M :=
  ⟨h.len, own_baseR h.row hb, fun i hi => own_baseR (h.idx i hi) hb, h.apart⟩
theorem OwR.setC {w : World} {base n : Nat} {v : Value} {M : List PR} (h : OwR w base v n M) (p : Addr) (u : Value) (hp : p.block < base) : OwR (w.setCell p u) base v n M :=
  ⟨h.len, L8.own_setC h.row p u hp, fun i hi => L8.own_setC (h.idx i hi) p u hp, h.apart⟩
theorem ss_int : 41 ≠ 3 := by decide
/-- Where a row's cell lies, and the row. -/
theorem OwR.at {w : World} {base n cap : Nat} {g : Nat} {M : List PR} (h : OwR w base (.slice (some ⟨g, 0, none⟩) n cap) n M) (i : Nat) (hi : i < n) : ∃ ai ci, (M.getD i eV).2 = .slice ai (M.getD i eV).1.length ci ∧ w.cell? ⟨g, i, none⟩ = some (.slice ai (M.getD i eV).1.length ci) ∧ Sl w ai (M.getD i eV).1 := by
  have hl := h.len
  have h1 := h.row.cells (g := g) rfl i _ (flatR_get M i (by omega))
  rw [addr_add] at h1
  obtain ⟨ai, ci, e, hs, _⟩ := own_form (h.idx i hi)
  rw [e] at h1
  exact ⟨ai, ci, e, by simpa using h1, hs⟩
theorem OwR.form {w : World} {base n : Nat} {v : Value} {M : List PR} (h : OwR w base v n M) : ∃ a cap, v = .slice a n cap ∧ SlSI w a (rws M) := by
  have hl := h.len
  rcases h.row.2 with ⟨hv, h0⟩ | ⟨g, cap, cur, hv, _⟩
  · subst h0
    exact ⟨none, 0, hv, fun i hi => by simp at hi; omega⟩
  · subst hv
    refine ⟨_, cap, rfl, fun i hi => ?_⟩
    have hi' : i < M.length := by simpa using hi
    obtain ⟨ai, ci, e, hc, hs⟩ := h.at i (by omega)
    have e1 : (rws M).getD i [] = (M.getD i eV).1 := rws_get M i hi'
    rw [e1]
    exact ⟨g, 0, rfl, ai, ci, by rw [Nat.zero_add]; exact hc, hs⟩
theorem OwR.sl {w : World} {base n cap : Nat} {a : Option Addr} {M : List PR} (h : OwR w base (.slice a n cap) n M) : SlSI w a (rws M) := by
  obtain ⟨b, q, e, s⟩ := h.form
  cases e
  exact s
theorem list_sameR {M : List PR} {L : List (List Int)} {n : Nat} (h1 : M.length = n) (h2 : L.length = n) (h : ∀ j, j < n → (M.getD j eV).1 = gi L j) : rws M = L := by
  apply List.ext_getElem?
  intro j
  by_cases hj : j < n
  · have h := h j hj
    simp only [gi, List.getD, List.getElem?_eq_getElem (show j < M.length by omega), List.getElem?_eq_getElem (show j < L.length by omega), Option.getD_some] at h
    rw [List.getElem?_map, List.getElem?_eq_getElem (show j < M.length by omega), List.getElem?_eq_getElem (show j < L.length by omega), ← h]
    rfl
  · rw [List.getElem?_eq_none (by simp; omega), List.getElem?_eq_none (by omega)]
/-- What the laws' copies are. -/
theorem OwR.ofSI {w : World} {B n : Nat} {ls : List (List Int)} {g : Nat → Nat} {vs : List Value} (h : OwnSI w B ls g n) (hv : w.ownsRow B 41 1 (.slice (some ⟨B, 0, none⟩) n n) n vs) (hn : ls.length = n) : ∃ M, rws M = ls ∧ OwR w B (.slice (some ⟨B, 0, none⟩) n n) n M := by
  obtain ⟨M, hM⟩ : ∃ M : List PR, M = (List.range n).map fun i => (gi ls i, Value.slice (some ⟨g i, 0, none⟩) (gi ls i).length (gi ls i).length) := ⟨_, rfl⟩
  have hl : M.length = n := by rw [hM]; simp
  have hg : ∀ i, i < n → M.getD i eV = (gi ls i, Value.slice (some ⟨g i, 0, none⟩) (gi ls i).length (gi ls i).length) := fun i hi => by rw [hM]; simp [List.getD, hi]
  have hvl : vs.length = n := by have := hv.1; omega
  refine ⟨M, list_sameR hl hn (fun j hj => by rw [hg j hj]), hl, ?_, fun i hi => ?_, fun i j hij hj b e1 e2 => ?_⟩
  · have e : flatR M = vs := by
      apply List.ext_getElem?
      intro j
      by_cases hj : j < n
      · have hc := hv.cellAt j (by omega)
        have h0 := h.cell j hj
        rw [hc] at h0
        rw [h0, flatR_get M j (by omega), hg j hj]
      · rw [List.getElem?_eq_none (by simp; omega), List.getElem?_eq_none (by omega)]
    rw [e]
    exact hv
  · rw [hg i hi]
    exact own_baseR (h.own i hi) (Nat.le_succ _)
  · rw [hg i (by omega)] at e1
    rw [hg j hj] at e2
    simp only [Value.ownBlock, Option.some.injEq] at e1 e2
    have := h.rise i j hij hj
    omega
/-- A row that is owned, written over in place. -/
theorem OwR.setX {w w' : World} {base n : Nat} {v : Value} {M : List PR} (h : OwR w base v n M) (k : Nat) (hk : k < n) (xs : List Int) (hx : w'.ownsRow base 3 1 (M.getD k eV).2 xs.length (ints xs)) (hg : w.grownBy w' (M.getD k eV).2.ownBlock) :
    OwR w' base v n (M.set k (xs, (M.getD k eV).2)) := by
  have hl := h.len
  have q : ∀ t, t < n → ((M.set k (xs, (M.getD k eV).2)).getD t eV).2 = (M.getD t eV).2 := fun t ht => by
    by_cases e : t = k
    · subst e; rw [L8.getD_self M t _ _ (by omega)]
    · rw [L8.getD_ne M k t _ _ e]
  refine ⟨by simpa using hl, ?_, fun i hi => ?_, fun i j hij hj => ?_⟩
  · have e0 : flatR (M.set k (xs, (M.getD k eV).2)) = flatR M := by
      rw [flatR_set]
      apply List.ext_getElem?
      intro j
      by_cases e : j = k
      · subst e
        rw [List.getElem?_set_self (by simp; omega), flatR_get M j (by omega)]
      · rw [List.getElem?_set_ne (Ne.symm e)]
    rw [e0]
    exact L8.own_kept h.row hg (fun b hb e => L8.own_two h.row (h.idx k hk) ss_int b hb e)
  · by_cases e : i = k
    · subst e
      rw [L8.getD_self M i _ _ (by omega)]
      exact hx
    · rw [L8.getD_ne M k i _ _ e]
      refine L8.own_kept (h.idx i hi) hg (fun b hb e2 => ?_)
      by_cases hlt : i < k
      · exact h.apart i k hlt hk b hb e2
      · exact h.apart k i (by omega) hi b e2 hb
  · intro b
    rw [q i (by omega), q j hj]
    exact h.apart i j hij hj b
/-- A row's cell written: a new row is put there. -/
theorem OwR.put {w : World} {base g n cap : Nat} {M : List PR} (h : OwR w base (.slice (some ⟨g, 0, none⟩) n cap) n M) (k : Nat) (hk : k < n) (p : List Int) (v : Value)
    (hv : w.ownsRow base 3 1 v p.length (ints p)) (hne : ∀ i, i < n → i ≠ k → ∀ b, v.ownBlock = some b → (M.getD i eV).2.ownBlock ≠ some b) :
    OwR (w.setCell ⟨g, k, none⟩ v) base (.slice (some ⟨g, 0, none⟩) n cap) n (M.set k (p, v)) ∧ w.grownBy (w.setCell ⟨g, k, none⟩ v) (some g) := by
  have h1 := h.row.stored k v
  have hl := h.len
  have keep : ∀ {c m : Nat} {u : Value} {ys : List Value}, w.ownsRow base 3 c u m ys → (w.setCell ⟨g, k, none⟩ v).ownsRow base 3 c u m ys := fun hu =>
    L8.own_kept hu h1.2 (fun b hb e => by
      simp at e
      subst e
      exact L8.own_two h.row hu ss_int g rfl hb)
  refine ⟨⟨by simpa using hl, by rw [flatR_set]; exact h1.1, fun i hi => ?_, fun i j hij hj => ?_⟩, h1.2⟩
  · by_cases e : i = k
    · subst e
      rw [L8.getD_self M i _ _ (by omega)]
      exact keep hv
    · rw [L8.getD_ne M k i _ _ e]
      exact keep (h.idx i hi)
  · intro b
    by_cases e : i = k
    · have e2 : j ≠ k := by omega
      subst e
      rw [L8.getD_self M i _ _ (by omega), L8.getD_ne M i j _ _ e2]
      exact hne j hj e2 b
    · by_cases e2 : j = k
      · subst e2
        rw [L8.getD_self M j _ _ (by omega), L8.getD_ne M j i _ _ e]
        intro h1 h2
        exact hne i (by omega) e b h2 h1
      · rw [L8.getD_ne M k i _ _ e, L8.getD_ne M k j _ _ e2]
        exact h.apart i j hij hj b
/-- A sketch that lies in a box of two cells. -/
theorem blkp {w : World} {g : Nat} {a b : Value} {t : TypeId} (h : w.heap[g]? = some (.cells #[a, b] t (0, 0))) :
    w.cell? ⟨g, 0, none⟩ = some a ∧ w.cell? ⟨g, 1, none⟩ = some b ∧ w.frozen? ⟨g, 0, none⟩ = false ∧ w.frozen? ⟨g, 1, none⟩ = false := by
  simp [World.cell?, World.frozen?, h]
/-- Rows that a call hands back, in new memory. -/
def RH (w w' : World) (v : Value) (L : List (List Int)) : Prop := (∃ M, rws M = L ∧ OwR w' w.heap.size v L.length M) ∧ Below w.heap.size w w'
theorem rh_nil {w w' : World} (hb : Below w.heap.size w w') : RH w w' (.slice none 0 0) [] :=
  ⟨⟨[], rfl, rfl, World.ownsRow_nil _ _ _ _, fun i hi => absurd hi (Nat.not_lt_zero _), fun i j _ hj => absurd hj (Nat.not_lt_zero _)⟩, hb⟩
abbrev skO (v : Value) (o : Int) : Obj := .cells #[v, .int .i64 o] 26 (0, 0)
/-- All blocks of a sketch's rows lie below a number. -/
structure InR (hi : Nat) (v : Value) (n : Nat) (M : List PR) : Prop where
  row : ∀ g, v.ownBlock = some g → g < hi
  idx : ∀ i, i < n → ∀ g, (M.getD i eV).2.ownBlock = some g → g < hi
theorem OwR.inR {w : World} {base n : Nat} {v : Value} {M : List PR} (h : OwR w base v n M) : InR w.heap.size v n M :=
  ⟨fun g hg => (L8.own_lt h.row g hg).2, fun i hi g hg => (L8.own_lt (h.idx i hi) g hg).2⟩
theorem InR.mono {hi hi' : Nat} {v : Value} {n : Nat} {M : List PR} (h : InR hi v n M) (hh : hi ≤ hi') : InR hi' v n M :=
  ⟨fun g hg => Nat.lt_of_lt_of_le (h.row g hg) hh, fun i hi g hg => Nat.lt_of_lt_of_le (h.idx i hi g hg) hh⟩
/-- A sketch in its box: its rows lie between a base and the box. -/
structure HG (base : Nat) (w : World) (b : Nat) (v : Value) (n : Nat) (M : List PR) (L : List (List Int)) (o : Int) : Prop where
  box : w.heap[b]? = some (skO v o)
  bs : base ≤ b
  ow : OwR w base v n M
  inr : InR b v n M
  eq : rws M = L
section
variable {base : Nat} {w w' : World} {b : Nat} {v : Value} {n : Nat} {M : List PR} {L : List (List Int)} {o : Int}
theorem HG.below (h : HG base w b v n M L o) (hb : Below w.heap.size w w') : HG base w' b v n M L o :=
  ⟨(hb.block b (Array.getElem?_eq_some_iff.1 h.box).1).trans h.box, h.bs, h.ow.below hb, h.inr, h.eq⟩
theorem HG.len (h : HG base w b v n M L o) : L.length = n := by
  have := h.ow.len
  rw [← h.eq]
  simpa using this
theorem HG.sl {cap : Nat} {a : Option Addr} (h : HG base w b (.slice a n cap) n M L o) : SlSI w a L := by
  have := h.ow.sl
  rw [h.eq] at this
  exact this
theorem HG.lt (h : HG base w b v n M L o) : b < w.heap.size := (Array.getElem?_eq_some_iff.1 h.box).1
/-- What a call handed back, put into a box. -/
theorem hg_made (o : Int) (h : RH w w' v L) : (∃ a cap M, v = .slice a L.length cap ∧ HG w.heap.size (w'.alloc (skO v o)) w'.heap.size v L.length M L o) ∧ Below w.heap.size w w' := by
  obtain ⟨⟨M, hM, ho⟩, hb⟩ := h
  obtain ⟨a, cap, hv, _⟩ := ho.form
  exact ⟨⟨a, cap, M, hv, L8.blk_new _ _, hb.size, ho.below ((Below.refl _ _).alloc (Nat.le_refl _) _), ho.inR, hM⟩, hb⟩
/-- A sketch that is not written into. -/
theorem HG.only {lo hi : Nat} (h : HG base w b v n M L o) (ho : L8.Only lo hi w w') (hd : b < lo ∨ hi ≤ base) : HG base w' b v n M L o := by
  have hr : ∀ {t : TypeId} {c m : Nat} {u : Value} {xs : List Value}, w.ownsRow base t c u m xs → (∀ g, u.ownBlock = some g → g < b) → w'.ownsRow base t c u m xs := fun {t c m u xs} hu hlt => by
    refine ⟨hu.1, ?_⟩
    rcases hu.2 with h0 | ⟨g, cap, cur, rfl, hbg, hg, r⟩
    · exact .inl h0
    · refine .inr ⟨g, cap, cur, rfl, hbg, ?_, r⟩
      rw [ho.block g (Array.getElem?_eq_some_iff.1 hg).1 (by have := hlt g rfl; rcases hd with hd | hd <;> omega)]
      exact hg
  refine ⟨?_, h.bs, ⟨h.ow.len, hr h.ow.row h.inr.row, fun i hi => hr (h.ow.idx i hi) (h.inr.idx i hi), h.ow.apart⟩, h.inr, h.eq⟩
  rw [ho.block b h.lt (by have := h.bs; omega)]
  exact h.box
/-- A sketch that was written over: its box stays. -/
theorem HG.marked {M' : List PR} {L' : List (List Int)} (h : HG base w b v n M L o) (ho : L8.Only base b w w') (hw : OwR w' base v n M') (hs : ∀ i, i < n → (M'.getD i eV).2 = (M.getD i eV).2) (hM : rws M' = L') : HG base w' b v n M' L' o :=
  ⟨by rw [ho.block b h.lt (.inr (Nat.le_refl _))]; exact h.box, h.bs, hw, ⟨h.inr.row, fun i hi g hg => h.inr.idx i hi g (by rw [← hs i hi]; exact hg)⟩, hM⟩
end
end Go.Proofs.Ytfmfnlpajoikman.L15
