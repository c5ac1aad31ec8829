/-
  Lists of a head's rows in memory. Nothing of the program's text is proved here but closed facts on its types.
-/
import Derived.Test.YtbcnkglcfjineakDoorL2Size
import Derived.Test.YtbcnkglcfjineakDoorL8Gen
namespace Go.Proofs.YtbcnkglcfjineakDoor.L13
open Go.RowKit L1
set_option linter.unusedVariables false

/-- A row: Name, Samples. -/
structure Rw where
  nm : ByteArray
  l : List (Int × Int)
def eR : Rw := ⟨ByteArray.empty, []⟩
/-- A row with the slice that is its Samples. -/
abbrev PR := Rw × Value
def eV : PR := (eR, .slice none 0 0)
abbrev gr (L : List Rw) (i : Nat) : Rw := L.getD i eR
/-- A row as a value. -/
abbrev svR (p : Rw) (v : Value) : Value := .agg #[.string p.nm, v]
/-- A row lies in memory from a place on. -/
structure AtR (w : World) (b o : Nat) (p : Rw) (a : Option Addr) (c : Nat) : Prop where
  s : w.cell? ⟨b, o, none⟩ = some (.string p.nm)
  x : w.cell? ⟨b, o + 1, none⟩ = some (.slice a p.l.length c)
  l : Sl2 w a p.l
theorem AtR.below {w w' : World} {b o c : Nat} {p : Rw} {a : Option Addr} (h : AtR w b o p a c) (hb : Below w.heap.size w w') : AtR w' b o p a c :=
  ⟨(hb.cell (p := ⟨b, o, none⟩) (blk_lt h.s)).trans h.s, (hb.cell (p := ⟨b, o + 1, none⟩) (blk_lt h.s)).trans h.x, h.l.below hb⟩
/-- A list of rows lies in memory from an address on. -/
def SlR (w : World) (a : Option Addr) (L : List Rw) : Prop := ∀ i, i < L.length → ∃ b off, a = some ⟨b, off, none⟩ ∧ ∃ ai ci, AtR w b (off + i * 2) (gr L i) ai ci
theorem SlR.below {w w' : World} {a : Option Addr} {xs : List Rw} (h : SlR w a xs) (hb : Below w.heap.size w w') : SlR w' a xs := fun i hi => by
  obtain ⟨b, off, ha, ai, ci, hc⟩ := h i hi
  exact ⟨b, off, ha, ai, ci, hc.below hb⟩
/-- The cells of a row, and of rows one behind the other. -/
def cR (p : PR) : List Value := [.string p.1.nm, p.2]
abbrev flatR (M : List PR) : List Value := M.flatMap cR
theorem cR_len (p : PR) : (cR p).length = 2 := rfl
theorem flatR_len (M : List PR) : (flatR M).length = M.length * 2 := L8.flat_len cR 2 cR_len M
theorem flatR_get (M : List PR) (i : Nat) (h : i < M.length) : (flatR M)[i * 2]? = some (.string (M.getD i eV).1.nm) ∧ (flatR M)[i * 2 + 1]? = some (M.getD i eV).2 :=
  ⟨by have := L8.flat_get cR 2 cR_len eV M i 0 h (by omega); simpa [cR] using this, by have := L8.flat_get cR 2 cR_len eV M i 1 h (by omega); simpa [cR] using this⟩
theorem flatR_set (M : List PR) (i : Nat) (p : PR) (h : i < M.length) : flatR (M.set i p) = ((flatR M).set (i * 2) (.string p.1.nm)).set (i * 2 + 1) p.2 := by
  have h1 := L8.flat_set cR 2 cR_len eV M i 0 (.string p.1.nm) (⟨p.1.nm, (M.getD i eV).1.l⟩, (M.getD i eV).2) h (by omega) rfl
  have h2 := L8.flat_set cR 2 cR_len eV (M.set i (⟨p.1.nm, (M.getD i eV).1.l⟩, (M.getD i eV).2)) i 1 p.2 p (by simpa using h) (by omega) (by rw [L8.getD_self _ _ _ _ h]; rfl)
  rw [Nat.add_zero] at h1
  rw [h1, h2, L8.set_twice]
theorem flatR_one : ∀ l : List PR, (∀ q ∈ l, q.2.oneCell' = true) → ∀ u ∈ flatR l, u.oneCell' = true
  | [], _, u, h => by simp [flatR] at h
  | p :: l, hl, u, h => by
    simp only [flatR, List.flatMap_cons, List.mem_append, cR, List.mem_cons, List.not_mem_nil, or_false] at h
    rcases h with (rfl | rfl) | h
    · rfl
    · exact hl p (by simp)
    · exact flatR_one l (fun q hq => hl q (by simp [hq])) u h
theorem info_row : (Tryd.prog.info? 69).map (fun i => (i.zero, i.size, i.bytes)) = some (some (.agg #[.string ByteArray.empty, .slice none 0 0]), 2, 40) := by kernel_rfl
/-- The plain rows. -/
abbrev rws (M : List PR) : List Rw := M.map Prod.fst
theorem rws_get (M : List PR) (i : Nat) (h : i < M.length) : gr (rws M) i = (M.getD i eV).1 := by simp [gr, List.getD, List.getElem?_eq_getElem h]
/-- Rows that lie in memory of their own: a row of them, and a row of its own for each one's Samples. -/
structure OwR (w : World) (base : Nat) (v : Value) (n : Nat) (M : List PR) : Prop where
  len : M.length = n
  row : w.ownsRow base 69 2 v n (flatR M)
  idx : ∀ i, i < n → w.ownsRow base 71 2 (M.getD i eV).2 (M.getD i eV).1.l.length (flat (M.getD i eV).1.l)
  apart : ∀ i j, i < j → j < n → ∀ g, (M.getD i eV).2.ownBlock = some g → (M.getD j eV).2.ownBlock ≠ some g
theorem own_baseR {w : World} {b1 b2 n c : Nat} {t : TypeId} {v : Value} {ys : List Value} (h : w.ownsRow b1 t c v n ys) (hb : b2 ≤ b1) : w.ownsRow b2 t c v n ys := by
  refine ⟨h.1, ?_⟩
  rcases h.2 with h0 | ⟨g, cap, cur, rfl, hbg, hg, r⟩
  · exact .inl h0
  · exact .inr ⟨g, cap, cur, rfl, Nat.le_trans hb hbg, hg, r⟩
theorem own_belowR {w w' : World} {base n c : Nat} {t : TypeId} {v : Value} {ys : List Value} (h : w.ownsRow base t c v n ys) (hb : Below w.heap.size w w') : w'.ownsRow base t c v n ys := by
  refine ⟨h.1, ?_⟩
  rcases h.2 with h0 | ⟨g, cap, cur, rfl, hbg, hg, r⟩
  · exact .inl h0
  · exact .inr ⟨g, cap, cur, rfl, hbg, by rw [hb.block g (Array.getElem?_eq_some_iff.1 hg).1]; exact hg, r⟩
theorem OwR.below {w w' : World} {base n : Nat} {v : Value} {M : List PR} (h : OwR w base v n M) (hb : Below w.heap.size w w') : OwR w' base v n M :=
  ⟨h.len, own_belowR h.row hb, fun i hi => own_belowR (h.idx i hi) hb, h.apart⟩
theorem OwR.base {w : World} {b1 b2 n : Nat} {v : Value} {M : List PR} (h : OwR w b1 v n M) (hb : b2 ≤ b1) : OwR w b2 v n M :=
  ⟨h.len, own_baseR h.row hb, fun i hi => own_baseR (h.idx i hi) hb, h.apart⟩
theorem OwR.setC {w : World} {base n : Nat} {v : Value} {M : List PR} (h : OwR w base v n M) (p : Addr) (u : Value) (hp : p.block < base) : OwR (w.setCell p u) base v n M :=
  ⟨h.len, L8.own_setC h.row p u hp, fun i hi => L8.own_setC (h.idx i hi) p u hp, h.apart⟩
theorem smp_row : 69 ≠ 71 := by decide
theorem OwR.form {w : World} {base n : Nat} {v : Value} {M : List PR} (h : OwR w base v n M) : ∃ a cap, v = .slice a n cap ∧ SlR w a (rws M) := by
  have hl := h.len
  rcases h.row.2 with ⟨hv, h0⟩ | ⟨g, cap, cur, hv, _⟩
  · subst h0
    exact ⟨none, 0, hv, fun i hi => by simp at hi; omega⟩
  · subst hv
    refine ⟨_, cap, rfl, fun i hi => ?_⟩
    have hi' : i < M.length := by simpa using hi
    obtain ⟨f1, f2⟩ := flatR_get M i hi'
    have h1 := h.row.cells (g := g) rfl (i * 2) _ f1
    have h2 := h.row.cells (g := g) rfl (i * 2 + 1) _ f2
    rw [addr_add] at h1 h2
    rw [rws_get M i hi']
    obtain ⟨ai, ci, e, hs, _⟩ := own_form2 (h.idx i (by omega))
    rw [e] at h2
    exact ⟨g, 0, rfl, ai, ci, by simpa using h1, by simpa using h2, hs⟩
theorem OwR.sl {w : World} {base n cap : Nat} {a : Option Addr} {M : List PR} (h : OwR w base (.slice a n cap) n M) : SlR w a (rws M) := by
  obtain ⟨b, q, e, s⟩ := h.form
  cases e
  exact s
/-- Texts and lists are no longer than a machine's. -/
def TxR (L : List Rw) : Prop := ∀ j, j < L.length → (gr L j).nm.size ≤ 9223372036854775807 ∧ (gr L j).l.length ≤ 9223372036854775807
/-- What a walk is told of a slice of rows that came in. -/
def IsRowR (w : World) (a : Option Addr) (len : Nat) (L : List Rw) : Prop := (L.length = len ∧ len ≤ maxLen ∧ SlR w a L) ∧ TxR L
theorem add_at (b off i : Nat) : (⟨b, off, none⟩ : Addr).add i = ⟨b, off + i, none⟩ := by unfold Addr.add; split <;> simp_all
open Classical in
theorem rowR_of {w : World} {a : Addr} {len cap : Nat} (hl : len ≤ cap) (hm : cap ≤ maxLen) (h : ∀ i, i < len → ∃ (p : Rw) (ai : Option Addr) (ci : Nat), (w.cell? (a.add (i * 2)) = some (.string p.nm) ∧ w.cell? (a.add (i * 2 + 1)) = some (.slice ai p.l.length ci) ∧ Sl2 w ai p.l) ∧ p.nm.size ≤ maxLen ∧ p.l.length ≤ maxLen) : ∃ l, IsRowR w (some a) len l := by
  obtain ⟨f, hf⟩ : ∃ f : Nat → Rw, ∀ i, i < len → ∃ (ai : Option Addr) (ci : Nat), (w.cell? (a.add (i * 2)) = some (.string (f i).nm) ∧ w.cell? (a.add (i * 2 + 1)) = some (.slice ai (f i).l.length ci) ∧ Sl2 w ai (f i).l) ∧ (f i).nm.size ≤ maxLen ∧ (f i).l.length ≤ maxLen := by
    refine ⟨fun i => if hi : i < len then Classical.choose (h i hi) else eR, fun i hi => ?_⟩
    simp only [dif_pos hi]
    exact Classical.choose_spec (h i hi)
  have hg : ∀ i, i < len → gr ((List.range len).map f) i = f i := fun i hi => by simp [gr, List.getD, hi]
  refine ⟨(List.range len).map f, ⟨by simp, Nat.le_trans hl hm, fun i hi => ?_⟩, fun j hj => ?_⟩
  · have hi' : i < len := by simpa using hi
    obtain ⟨b, off, spot⟩ := a
    have hspot : spot = none := by
      obtain ⟨_, _, ⟨h00, _⟩, _⟩ := hf 0 (by omega)
      have := World.cell?_spot h00
      simpa [Addr.add] using this
    subst hspot
    obtain ⟨ai, ci, ⟨h1, h2, h3⟩, _⟩ := hf i hi'
    simp only [add_at] at h1 h2
    rw [hg i hi']
    exact ⟨b, off, rfl, ai, ci, h1, by rw [Nat.add_assoc]; exact h2, h3⟩
  · have hj' : j < len := by simpa using hj
    obtain ⟨_, _, _, h1, h2⟩ := hf j hj'
    unfold maxLen at h1 h2
    rw [hg j hj']
    omega
/-- Two cells of a row that is owned, written over. -/
theorem OwR.put {w : World} {base g n cap : Nat} {M : List PR} (h : OwR w base (.slice (some ⟨g, 0, none⟩) n cap) n M) (k : Nat) (hk : k < n) (p : Rw) (v : Value)
    (hv : w.ownsRow base 71 2 v p.l.length (flat p.l)) (hne : ∀ i, i < n → i ≠ k → ∀ b, v.ownBlock = some b → (M.getD i eV).2.ownBlock ≠ some b) :
    OwR ((w.setCell ⟨g, k * 2, none⟩ (.string p.nm)).setCell ⟨g, k * 2 + 1, none⟩ v) base (.slice (some ⟨g, 0, none⟩) n cap) n (M.set k (p, v)) ∧
    w.grownBy ((w.setCell ⟨g, k * 2, none⟩ (.string p.nm)).setCell ⟨g, k * 2 + 1, none⟩ v) (some g) := by
  have h1 := h.row.stored (k * 2) (.string p.nm)
  have h2 := h1.1.stored (k * 2 + 1) v
  have hg := h1.2.trans h2.2
  have hl := h.len
  have keep : ∀ {c m : Nat} {u : Value} {ys : List Value}, w.ownsRow base 71 c u m ys → ((w.setCell ⟨g, k * 2, none⟩ (.string p.nm)).setCell ⟨g, k * 2 + 1, none⟩ v).ownsRow base 71 c u m ys := fun hu =>
    L8.own_kept hu hg (fun b hb e => by
      simp at e
      subst e
      exact L8.own_two h.row hu smp_row g rfl hb)
  refine ⟨⟨by simpa using hl, by rw [flatR_set M k _ (by omega)]; exact h2.1, fun i hi => ?_, fun i j hij hj => ?_⟩, hg⟩
  · by_cases e : i = k
    · subst e
      rw [L8.getD_self M i _ _ (by omega)]
      exact keep hv
    · rw [L8.getD_ne M k i _ _ e]
      exact keep (h.idx i hi)
  · intro b
    by_cases e : i = k
    · have e2 : j ≠ k := by omega
      subst e
      rw [L8.getD_self M i _ _ (by omega), L8.getD_ne M i j _ _ e2]
      exact hne j hj e2 b
    · by_cases e2 : j = k
      · subst e2
        rw [L8.getD_self M j _ _ (by omega), L8.getD_ne M j i _ _ e]
        intro h1 h2
        exact hne i (by omega) e b h2 h1
      · rw [L8.getD_ne M k i _ _ e, L8.getD_ne M k j _ _ e2]
        exact h.apart i j hij hj b
/-- A head that lies in a box of two cells. -/
theorem blkp {w : World} {g : Nat} {a b : Value} {t : TypeId} (h : w.heap[g]? = some (.cells #[a, b] t (0, 0))) :
    w.cell? ⟨g, 0, none⟩ = some a ∧ w.cell? ⟨g, 1, none⟩ = some b ∧ w.frozen? ⟨g, 0, none⟩ = false ∧ w.frozen? ⟨g, 1, none⟩ = false := by
  simp [World.cell?, World.frozen?, h]
end Go.Proofs.YtbcnkglcfjineakDoor.L13
