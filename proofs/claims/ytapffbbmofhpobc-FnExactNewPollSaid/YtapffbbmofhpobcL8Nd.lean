/-
  Lists of a poll's nodes in memory. Nothing of the program's text is proved here but closed facts on its types.
-/
import Derived.Test.YtapffbbmofhpobcL8Gen
namespace Go.Proofs.Ytapffbbmofhpobc.L8
open Go.RowKit L1 L4
set_option linter.unusedVariables false

/-- A node: Term, Voted, Age, Heard, Role. -/
structure Nd where
  t : Int
  v : Int
  a : Int
  h : List Int
  r : Int
def eN : Nd := ⟨0, 0, 0, [], 0⟩
/-- A node with the slice that is its Heard. -/
abbrev NV := Nd × Value
def eNV : NV := (eN, .slice none 0 0)
abbrev gn (L : List Nd) (i : Nat) : Nd := L.getD i eN
/-- A node's cells. -/
def cN (p : NV) : List Value := [.int .i64 p.1.t, .int .i64 p.1.v, .int .i64 p.1.a, p.2, .int .i64 p.1.r]
theorem cN_len (p : NV) : (cN p).length = 5 := rfl
abbrev flatN (M : List NV) : List Value := M.flatMap cN
theorem flatN_len (M : List NV) : (flatN M).length = M.length * 5 := flat_len cN 5 cN_len M
theorem flatN_get (M : List NV) (i : Nat) (h : i < M.length) : (flatN M)[i * 5]? = some (.int .i64 (M.getD i eNV).1.t) ∧ (flatN M)[i * 5 + 1]? = some (.int .i64 (M.getD i eNV).1.v) ∧ (flatN M)[i * 5 + 2]? = some (.int .i64 (M.getD i eNV).1.a) ∧ (flatN M)[i * 5 + 3]? = some (M.getD i eNV).2 ∧ (flatN M)[i * 5 + 4]? = some (.int .i64 (M.getD i eNV).1.r) :=
  ⟨flat_get cN 5 cN_len eNV M i 0 h (by omega), flat_get cN 5 cN_len eNV M i 1 h (by omega), flat_get cN 5 cN_len eNV M i 2 h (by omega), flat_get cN 5 cN_len eNV M i 3 h (by omega), flat_get cN 5 cN_len eNV M i 4 h (by omega)⟩
theorem info_node : (Try.prog.info? 70).map (fun i => (i.zero, i.size, i.bytes)) = some (some (.agg #[.int .i64 0, .int .i64 0, .int .i64 0, .slice none 0 0, .int .i64 0]), 5, 56) := by kernel_rfl
theorem int_node : 70 ≠ 3 := by decide
/-- A node lies in memory from a place on. -/
structure AtN (w : World) (b o : Nat) (p : Nd) (x : Option Addr) (c : Nat) : Prop where
  t : w.cell? ⟨b, o, none⟩ = some (.int .i64 p.t)
  v : w.cell? ⟨b, o + 1, none⟩ = some (.int .i64 p.v)
  a : w.cell? ⟨b, o + 2, none⟩ = some (.int .i64 p.a)
  h : w.cell? ⟨b, o + 3, none⟩ = some (.slice x p.h.length c)
  r : w.cell? ⟨b, o + 4, none⟩ = some (.int .i64 p.r)
  l : Sl w x p.h
theorem AtN.below {w w' : World} {b o c : Nat} {p : Nd} {a : Option Addr} (h : AtN w b o p a c) (hb : Below w.heap.size w w') : AtN w' b o p a c :=
  ⟨(hb.cell (p := ⟨b, o, none⟩) (blk_lt h.t)).trans h.t, (hb.cell (p := ⟨b, o + 1, none⟩) (blk_lt h.t)).trans h.v, (hb.cell (p := ⟨b, o + 2, none⟩) (blk_lt h.t)).trans h.a, (hb.cell (p := ⟨b, o + 3, none⟩) (blk_lt h.t)).trans h.h, (hb.cell (p := ⟨b, o + 4, none⟩) (blk_lt h.t)).trans h.r, h.l.below hb⟩
/-- A list of nodes lies in memory from an address on. -/
def SlN (w : World) (a : Option Addr) (l : List Nd) : Prop := ∀ i, i < l.length → ∃ b off, a = some ⟨b, off, none⟩ ∧ ∃ ai ci, AtN w b (off + i * 5) (gn l i) ai ci
theorem SlN.below {w w' : World} {a : Option Addr} {xs : List Nd} (h : SlN w a xs) (hb : Below w.heap.size w w') : SlN w' a xs := fun i hi => by
  obtain ⟨b, off, ha, ai, ci, hc⟩ := h i hi
  exact ⟨b, off, ha, ai, ci, hc.below hb⟩
/-- The plain nodes. -/
abbrev nds (M : List NV) : List Nd := M.map Prod.fst
theorem nds_get (M : List NV) (i : Nat) (h : i < M.length) : gn (nds M) i = (M.getD i eNV).1 := by simp [gn, List.getD, List.getElem?_eq_getElem h]
/-- Nodes that lie in memory of their own: a row, and a row of its own for each Heard. -/
structure OwN (w : World) (base : Nat) (v : Value) (n : Nat) (M : List NV) : Prop where
  len : M.length = n
  row : w.ownsRow base 70 5 v n (flatN M)
  idx : ∀ i, i < n → w.ownsRow base 3 1 (M.getD i eNV).2 (M.getD i eNV).1.h.length ((M.getD i eNV).1.h.map (Value.int .i64))
  apart : ∀ i j, i < j → j < n → ∀ g, (M.getD i eNV).2.ownBlock = some g → (M.getD j eNV).2.ownBlock ≠ some g
theorem OwN.below {w w' : World} {base n : Nat} {v : Value} {M : List NV} (h : OwN w base v n M) (hb : Below w.heap.size w w') : OwN w' base v n M :=
  ⟨h.len, own_belowT h.row hb, fun i hi => own_belowT (h.idx i hi) hb, h.apart⟩
theorem OwN.base {w : World} {b1 b2 n : Nat} {v : Value} {M : List NV} (h : OwN w b1 v n M) (hb : b2 ≤ b1) : OwN w b2 v n M :=
  ⟨h.len, own_baseT h.row hb, fun i hi => own_baseT (h.idx i hi) hb, h.apart⟩
theorem OwN.setC {w : World} {base n : Nat} {v : Value} {M : List NV} (h : OwN w base v n M) (p : Addr) (u : Value) (hp : p.block < base) : OwN (w.setCell p u) base v n M :=
  ⟨h.len, own_setC h.row p u hp, fun i hi => own_setC (h.idx i hi) p u hp, h.apart⟩
theorem OwN.form {w : World} {base n : Nat} {v : Value} {M : List NV} (h : OwN w base v n M) : ∃ a cap, v = .slice a n cap ∧ SlN w a (nds M) := by
  have hl := h.len
  rcases h.row.2 with ⟨hv, h0⟩ | ⟨g, cap, cur, hv, _⟩
  · subst h0
    exact ⟨none, 0, hv, fun i hi => by simp at hi; omega⟩
  · subst hv
    refine ⟨_, cap, rfl, fun i hi => ?_⟩
    have hi' : i < M.length := by simpa using hi
    obtain ⟨f0, f1, f2, f3, f4⟩ := flatN_get M i hi'
    have h0 := h.row.cells (g := g) rfl (i * 5) _ f0
    have h1 := h.row.cells (g := g) rfl (i * 5 + 1) _ f1
    have h2 := h.row.cells (g := g) rfl (i * 5 + 2) _ f2
    have h3 := h.row.cells (g := g) rfl (i * 5 + 3) _ f3
    have h4 := h.row.cells (g := g) rfl (i * 5 + 4) _ f4
    rw [addr_add] at h0 h1 h2 h3 h4
    rw [nds_get M i hi']
    obtain ⟨ai, ci, e, hs, _⟩ := own_form (h.idx i (by omega))
    rw [e] at h3
    exact ⟨g, 0, rfl, ai, ci, by simpa using h0, by simpa using h1, by simpa using h2, by simpa using h3, by simpa using h4, hs⟩
theorem OwN.sl {w : World} {base n cap : Nat} {a : Option Addr} {M : List NV} (h : OwN w base (.slice a n cap) n M) : SlN w a (nds M) := by
  obtain ⟨b, q, e, s⟩ := h.form
  cases e
  exact s
theorem list_sameN {M : List NV} {L : List Nd} {n : Nat} (h1 : M.length = n) (h2 : L.length = n) (h : ∀ j, j < n → (M.getD j eNV).1 = gn L j) : nds M = L := by
  apply List.ext_getElem?
  intro j
  by_cases hj : j < n
  · have h := h j hj
    simp only [gn, List.getD, List.getElem?_eq_getElem (show j < M.length by omega), List.getElem?_eq_getElem (show j < L.length by omega), Option.getD_some] at h
    rw [List.getElem?_map, List.getElem?_eq_getElem (show j < M.length by omega), List.getElem?_eq_getElem (show j < L.length by omega), ← h]
    rfl
  · rw [List.getElem?_eq_none (by simp; omega), List.getElem?_eq_none (by omega)]
/-- All blocks of nodes lie below a number. -/
structure InN (hi : Nat) (v : Value) (n : Nat) (M : List NV) : Prop where
  row : ∀ g, v.ownBlock = some g → g < hi
  idx : ∀ i, i < n → ∀ g, (M.getD i eNV).2.ownBlock = some g → g < hi
theorem OwN.inN {w : World} {base n : Nat} {v : Value} {M : List NV} (h : OwN w base v n M) : InN w.heap.size v n M :=
  ⟨fun g hg => (own_lt h.row g hg).2, fun i hi g hg => (own_lt (h.idx i hi) g hg).2⟩
theorem Only.own {lo hi : Nat} {w w' : World} (h : Only lo hi w w') {base n : Nat} {v : Value} {M : List NV} (ho : OwN w base v n M) (hb : hi ≤ base) : OwN w' base v n M :=
  ⟨ho.len, h.row ho.row hb, fun i hi => h.row (ho.idx i hi) hb, ho.apart⟩
/-- A cell of a node that is no Heard, written over. -/
theorem OwN.setI {w : World} {base g n cap : Nat} {M : List NV} (h : OwN w base (.slice (some ⟨g, 0, none⟩) n cap) n M) (k : Nat) (hk : k < n) (j : Nat) (hj : j < 5) (u : Value) (p : Nd) (hp : cN (p, (M.getD k eNV).2) = (cN (M.getD k eNV)).set j u) (hh : p.h = (M.getD k eNV).1.h) :
    OwN (w.setCell ⟨g, k * 5 + j, none⟩ u) base (.slice (some ⟨g, 0, none⟩) n cap) n (M.set k (p, (M.getD k eNV).2)) ∧ w.grownBy (w.setCell ⟨g, k * 5 + j, none⟩ u) (some g) := by
  have h1 := h.row.stored (k * 5 + j) u
  have hl := h.len
  have keep : ∀ {c m : Nat} {u' : Value} {ys : List Value}, w.ownsRow base 3 c u' m ys → (w.setCell ⟨g, k * 5 + j, none⟩ u).ownsRow base 3 c u' m ys := fun hu =>
    own_kept hu h1.2 (fun b hb e => by
      simp at e
      subst e
      exact own_two h.row hu int_node g rfl hb)
  refine ⟨⟨by simpa using hl, ?_, fun i hi => ?_, fun i j hij hj => ?_⟩, h1.2⟩
  · have e0 := flat_set cN 5 cN_len eNV M k j u _ (by omega) hj hp
    show World.ownsRow _ base _ 5 _ n (List.flatMap cN _)
    rw [← e0]
    exact h1.1
  · by_cases e : i = k
    · subst e
      rw [getD_self M i _ _ (by omega)]
      show World.ownsRow _ base _ 1 (M.getD i eNV).2 p.h.length (p.h.map _)
      rw [hh]
      exact keep (h.idx i hi)
    · rw [getD_ne M k i _ _ e]
      exact keep (h.idx i hi)
  · intro b
    have q : ∀ t, t < n → ((M.set k (p, (M.getD k eNV).2)).getD t eNV).2 = (M.getD t eNV).2 := fun t ht => by
      by_cases e : t = k
      · subst e; rw [getD_self M t _ _ (by omega)]
      · rw [getD_ne M k t _ _ e]
    rw [q i (by omega), q j hj]
    exact h.apart i j hij hj b
/-- What a Heard holds, written over. -/
theorem OwN.setX {w w' : World} {base n : Nat} {v : Value} {M : List NV} (h : OwN w base v n M) (k : Nat) (hk : k < n) (xs : List Int) (hx : w'.ownsRow base 3 1 (M.getD k eNV).2 xs.length (xs.map (Value.int .i64))) (hg : w.grownBy w' (M.getD k eNV).2.ownBlock) :
    OwN w' base v n (M.set k (⟨(M.getD k eNV).1.t, (M.getD k eNV).1.v, (M.getD k eNV).1.a, xs, (M.getD k eNV).1.r⟩, (M.getD k eNV).2)) := by
  have hl := h.len
  have q : ∀ t, t < n → ((M.set k (⟨(M.getD k eNV).1.t, (M.getD k eNV).1.v, (M.getD k eNV).1.a, xs, (M.getD k eNV).1.r⟩, (M.getD k eNV).2)).getD t eNV).2 = (M.getD t eNV).2 := fun t ht => by
    by_cases e : t = k
    · subst e; rw [getD_self M t _ _ (by omega)]
    · rw [getD_ne M k t _ _ e]
  refine ⟨by simpa using hl, ?_, fun i hi => ?_, fun i j hij hj => ?_⟩
  · have e0 : flatN (M.set k (⟨(M.getD k eNV).1.t, (M.getD k eNV).1.v, (M.getD k eNV).1.a, xs, (M.getD k eNV).1.r⟩, (M.getD k eNV).2)) = flatN M := by
      have := flat_set cN 5 cN_len eNV M k 0 (.int .i64 (M.getD k eNV).1.t) (⟨(M.getD k eNV).1.t, (M.getD k eNV).1.v, (M.getD k eNV).1.a, xs, (M.getD k eNV).1.r⟩, (M.getD k eNV).2) (by omega) (by omega) rfl
      show List.flatMap cN _ = _
      rw [← this]
      apply List.ext_getElem?
      intro j
      by_cases e : j = k * 5
      · subst e
        rw [Nat.add_zero, List.getElem?_set_self (by rw [flatN_len]; omega), (flatN_get M k (by omega)).1]
      · rw [Nat.add_zero, List.getElem?_set_ne (by omega)]
    rw [e0]
    exact own_kept h.row hg (fun b hb e => own_two h.row (h.idx k hk) int_node b hb e)
  · by_cases e : i = k
    · subst e
      rw [getD_self M i _ _ (by omega)]
      exact hx
    · rw [getD_ne M k i _ _ e]
      refine own_kept (h.idx i hi) hg (fun b hb e2 => ?_)
      by_cases hlt : i < k
      · exact h.apart i k hlt hk b hb e2
      · exact h.apart k i (by omega) hi b e2 hb
  · intro b
    rw [q i (by omega), q j hj]
    exact h.apart i j hij hj b
end Go.Proofs.Ytapffbbmofhpobc.L8
