/-
  Pieces as they are made; blocks that are new. Nothing of the program's text is proved here but closed facts on its types.
  Cells that stay where they are. Nothing of the program's text is proved here.
  A log's own memory behind a write elsewhere; a box of two cells. Nothing of the program's text is proved here.
  Plain mathematics of chapter 4: rising lists of ints, leaps, what is met, taken off and joined. Nothing of Go stands here.
  Small facts on lists of ints that chapter 4's contracts and walks share. Nothing of the program's text is proved here but closed facts on its types.
  Contract of the laws' own helper sameInts: it says that two lists of ints alike are alike.
  Contracts: laws.sameTexts, laws.samePieces: lists of texts, and logs, that are alike are alike.
  'copy' of pieces, each of three cells, into a row that is owned whole. Nothing of the program's text is proved here but closed facts on its types.
-/
import Derived.Test.YtbcljhafdpnjbabDoorBundle3
import Derived.Test.YtbcljhafdpnjbabDoorBundle2
import Derived.Deep.RegionHeld3
import Derived.KernelRfl
import Derived.Test.YtbcljhafdpnjbabDoorBundle1
import Derived.Maps.AppendAt
import Derived.Deep.QuietTactic
import Derived.BigQuiet
import Derived.Test.YtbcljhafdpnjbabDoorBundle4
import Derived.Laws.CopyOwn
import Derived.Deep.Upon
namespace Go.Proofs.YtbcljhafdpnjbabDoor.L6
open Go.RowKit L1
set_option linter.unusedVariables false

theorem blk_three (w : World) (o1 o2 o3 : Obj) : (((w.alloc o1).alloc o2).alloc o3).heap[w.heap.size + 2]? = some o3 ∧ (((w.alloc o1).alloc o2).alloc o3).heap[w.heap.size + 1]? = some o2 ∧ (((w.alloc o1).alloc o2).alloc o3).heap[w.heap.size]? = some o1 ∧ (((w.alloc o1).alloc o2).alloc o3).heap.size = w.heap.size + 3 := by
  have h1 := blk_new w o1
  have h2 := blk_new (w.alloc o1) o2
  have h3 := blk_new ((w.alloc o1).alloc o2) o3
  have e2 : (w.alloc o1).heap.size = w.heap.size + 1 := by simp
  have e3 : ((w.alloc o1).alloc o2).heap.size = w.heap.size + 2 := by simp
  rw [e2] at h2
  rw [e3] at h3
  have k2 := ((Below.refl ((w.alloc o1).alloc o2).heap.size ((w.alloc o1).alloc o2)).alloc (Nat.le_refl _) o3)
  have k1 := ((Below.refl (w.alloc o1).heap.size (w.alloc o1)).alloc (Nat.le_refl _) o2)
  refine ⟨h3, (k2.block (w.heap.size + 1) (by rw [e3]; omega)).trans h2, (k2.block w.heap.size (by rw [e3]; omega)).trans ((k1.block w.heap.size (by rw [e2]; omega)).trans h1), by simp⟩
theorem made_cs (n : Nat) : (madeCells (Value.agg #[.int .i64 0, .string ByteArray.empty, .slice none 0 0]).cells (n * 3)).toList = flatC (List.replicate n eV) := by
  apply List.ext_getElem?
  intro j
  by_cases hj : j < n * 3
  · have hi : j / 3 < (List.replicate n eV).length := by simp; omega
    obtain ⟨f1, f2, f3⟩ := flatC_get (List.replicate n eV) (j / 3) hi
    have hg : (List.replicate n eV).getD (j / 3) eV = eV := by
      simp [List.getD, List.getElem?_replicate]; split <;> rfl
    rw [hg] at f1 f2 f3
    have hm : (madeCells (Value.agg #[.int .i64 0, .string ByteArray.empty, .slice none 0 0]).cells (n * 3)).toList[j]? = [Value.int .i64 0, .string ByteArray.empty, .slice none 0 0][j % 3]? := by
      simp only [madeCells, Value.cells, Array.toList_map, Array.toList_range, List.getElem?_map]
      rw [List.getElem?_range hj]
      simp only [Option.map_some, List.size_toArray, List.length_cons, List.length_nil]
      have h01 : j % 3 = 0 ∨ j % 3 = 1 ∨ j % 3 = 2 := by omega
      rcases h01 with h | h | h <;> simp [h]
    rw [hm]
    have h01 : j % 3 = 0 ∨ j % 3 = 1 ∨ j % 3 = 2 := by omega
    rcases h01 with h | h | h
    · rw [h, show j = j / 3 * 3 by omega, f1]; rfl
    · rw [h, show j = j / 3 * 3 + 1 by omega, f2]; rfl
    · rw [h, show j = j / 3 * 3 + 2 by omega, f3]; rfl
  · rw [List.getElem?_eq_none (by simp [size_madeCells]; omega), List.getElem?_eq_none (by rw [flatC_len]; simp; omega)]
/-- Pieces as they are made: each without anything. -/
theorem own_zero {w : World} {base n : Nat} {v : Value} (h : w.ownsRow base 50 3 v n (flatC (List.replicate n eV))) : OwC w base v n (List.replicate n eV) := by
  have hg : ∀ i, (List.replicate n eV).getD i eV = eV := fun i => by
    simp [List.getD, List.getElem?_replicate]; split <;> rfl
  refine ⟨by simp, h, fun i hi => by rw [hg i]; exact World.ownsRow_nil _ _ _ _, fun i j _ _ g e => ?_⟩
  rw [hg i] at e
  simp [eV, Value.ownBlock] at e
theorem list_sameC {M : List PV} {L : List Pc} {n : Nat} (h1 : M.length = n) (h2 : L.length = n) (h : ∀ j, j < n → (M.getD j eV).1 = gc L j) : pcs M = L := by
  apply List.ext_getElem?
  intro j
  by_cases hj : j < n
  · have h := h j hj
    simp only [gc, List.getD, List.getElem?_eq_getElem (show j < M.length by omega), List.getElem?_eq_getElem (show j < L.length by omega), Option.getD_some] at h
    rw [List.getElem?_map, List.getElem?_eq_getElem (show j < M.length by omega), List.getElem?_eq_getElem (show j < L.length by omega), ← h]
    rfl
  · rw [List.getElem?_eq_none (by simp; omega), List.getElem?_eq_none (by omega)]

end Go.Proofs.YtbcljhafdpnjbabDoor.L6

namespace Go.Proofs.YtbcljhafdpnjbabDoor.L6
open Go.RowKit L1
set_option linter.unusedVariables false

theorem blk_ltA {w : World} {p : Addr} {v : Value} (h : w.cell? p = some v) : p.block < w.heap.size := by
  by_cases hb : p.block < w.heap.size
  · exact hb
  · simp [World.cell?, Array.getElem?_eq_none (show w.heap.size ≤ p.block by omega)] at h
theorem keep2 {wa wb W : World} {N : Nat} {p0 p1 : Addr} {v0 v1 : Value} (h : (wa.cell? p0 = some v0 ∧ wa.cell? p1 = some v1) ∧ Below N W wa) (hb : Below wa.heap.size wa wb) (hN : N ≤ W.heap.size) : (wb.cell? p0 = some v0 ∧ wb.cell? p1 = some v1) ∧ Below N W wb := by
  obtain ⟨⟨h0, h1⟩, hz⟩ := h
  exact ⟨⟨(hb.cell (blk_ltA h0)).trans h0, (hb.cell (blk_ltA h1)).trans h1⟩, hz.trans (hb.mono (Nat.le_trans hN hz.size))⟩
theorem keep3 {wa wb W : World} {N : Nat} {p0 p1 p2 : Addr} {v0 v1 v2 : Value} (h : (wa.cell? p0 = some v0 ∧ wa.cell? p1 = some v1 ∧ wa.cell? p2 = some v2) ∧ Below N W wa) (hb : Below wa.heap.size wa wb) (hN : N ≤ W.heap.size) : (wb.cell? p0 = some v0 ∧ wb.cell? p1 = some v1 ∧ wb.cell? p2 = some v2) ∧ Below N W wb := by
  obtain ⟨⟨h0, h1, h2⟩, hz⟩ := h
  exact ⟨⟨(hb.cell (blk_ltA h0)).trans h0, (hb.cell (blk_ltA h1)).trans h1, (hb.cell (blk_ltA h2)).trans h2⟩, hz.trans (hb.mono (Nat.le_trans hN hz.size))⟩
theorem keep4 {wa wb W : World} {N : Nat} {p0 p1 p2 p3 : Addr} {v0 v1 v2 v3 : Value} (h : (wa.cell? p0 = some v0 ∧ wa.cell? p1 = some v1 ∧ wa.cell? p2 = some v2 ∧ wa.cell? p3 = some v3) ∧ Below N W wa) (hb : Below wa.heap.size wa wb) (hN : N ≤ W.heap.size) : (wb.cell? p0 = some v0 ∧ wb.cell? p1 = some v1 ∧ wb.cell? p2 = some v2 ∧ wb.cell? p3 = some v3) ∧ Below N W wb := by
  obtain ⟨⟨h0, h1, h2, h3⟩, hz⟩ := h
  exact ⟨⟨(hb.cell (blk_ltA h0)).trans h0, (hb.cell (blk_ltA h1)).trans h1, (hb.cell (blk_ltA h2)).trans h2, (hb.cell (blk_ltA h3)).trans h3⟩, hz.trans (hb.mono (Nat.le_trans hN hz.size))⟩
theorem keep5 {wa wb W : World} {N : Nat} {p0 p1 p2 p3 p4 : Addr} {v0 v1 v2 v3 v4 : Value} (h : (wa.cell? p0 = some v0 ∧ wa.cell? p1 = some v1 ∧ wa.cell? p2 = some v2 ∧ wa.cell? p3 = some v3 ∧ wa.cell? p4 = some v4) ∧ Below N W wa) (hb : Below wa.heap.size wa wb) (hN : N ≤ W.heap.size) : (wb.cell? p0 = some v0 ∧ wb.cell? p1 = some v1 ∧ wb.cell? p2 = some v2 ∧ wb.cell? p3 = some v3 ∧ wb.cell? p4 = some v4) ∧ Below N W wb := by
  obtain ⟨⟨h0, h1, h2, h3, h4⟩, hz⟩ := h
  exact ⟨⟨(hb.cell (blk_ltA h0)).trans h0, (hb.cell (blk_ltA h1)).trans h1, (hb.cell (blk_ltA h2)).trans h2, (hb.cell (blk_ltA h3)).trans h3, (hb.cell (blk_ltA h4)).trans h4⟩, hz.trans (hb.mono (Nat.le_trans hN hz.size))⟩
theorem keep6 {wa wb W : World} {N : Nat} {p0 p1 p2 p3 p4 p5 : Addr} {v0 v1 v2 v3 v4 v5 : Value} (h : (wa.cell? p0 = some v0 ∧ wa.cell? p1 = some v1 ∧ wa.cell? p2 = some v2 ∧ wa.cell? p3 = some v3 ∧ wa.cell? p4 = some v4 ∧ wa.cell? p5 = some v5) ∧ Below N W wa) (hb : Below wa.heap.size wa wb) (hN : N ≤ W.heap.size) : (wb.cell? p0 = some v0 ∧ wb.cell? p1 = some v1 ∧ wb.cell? p2 = some v2 ∧ wb.cell? p3 = some v3 ∧ wb.cell? p4 = some v4 ∧ wb.cell? p5 = some v5) ∧ Below N W wb := by
  obtain ⟨⟨h0, h1, h2, h3, h4, h5⟩, hz⟩ := h
  exact ⟨⟨(hb.cell (blk_ltA h0)).trans h0, (hb.cell (blk_ltA h1)).trans h1, (hb.cell (blk_ltA h2)).trans h2, (hb.cell (blk_ltA h3)).trans h3, (hb.cell (blk_ltA h4)).trans h4, (hb.cell (blk_ltA h5)).trans h5⟩, hz.trans (hb.mono (Nat.le_trans hN hz.size))⟩
theorem keep8 {wa wb W : World} {N : Nat} {p0 p1 p2 p3 p4 p5 p6 p7 : Addr} {v0 v1 v2 v3 v4 v5 v6 v7 : Value} (h : (wa.cell? p0 = some v0 ∧ wa.cell? p1 = some v1 ∧ wa.cell? p2 = some v2 ∧ wa.cell? p3 = some v3 ∧ wa.cell? p4 = some v4 ∧ wa.cell? p5 = some v5 ∧ wa.cell? p6 = some v6 ∧ wa.cell? p7 = some v7) ∧ Below N W wa) (hb : Below wa.heap.size wa wb) (hN : N ≤ W.heap.size) : (wb.cell? p0 = some v0 ∧ wb.cell? p1 = some v1 ∧ wb.cell? p2 = some v2 ∧ wb.cell? p3 = some v3 ∧ wb.cell? p4 = some v4 ∧ wb.cell? p5 = some v5 ∧ wb.cell? p6 = some v6 ∧ wb.cell? p7 = some v7) ∧ Below N W wb := by
  obtain ⟨⟨h0, h1, h2, h3, h4, h5, h6, h7⟩, hz⟩ := h
  exact ⟨⟨(hb.cell (blk_ltA h0)).trans h0, (hb.cell (blk_ltA h1)).trans h1, (hb.cell (blk_ltA h2)).trans h2, (hb.cell (blk_ltA h3)).trans h3, (hb.cell (blk_ltA h4)).trans h4, (hb.cell (blk_ltA h5)).trans h5, (hb.cell (blk_ltA h6)).trans h6, (hb.cell (blk_ltA h7)).trans h7⟩, hz.trans (hb.mono (Nat.le_trans hN hz.size))⟩
end Go.Proofs.YtbcljhafdpnjbabDoor.L6

namespace Go.Proofs.YtbcljhafdpnjbabDoor.L6
open Go.RowKit L1
set_option linter.unusedVariables false

theorem OwC.setC {w : World} {base n : Nat} {v : Value} {M : List PV} (h : OwC w base v n M) (p : Addr) (u : Value) (hp : p.block < base) : OwC (w.setCell p u) base v n M :=
  ⟨h.len, own_setC h.row p u hp, fun i hi => own_setC (h.idx i hi) p u hp, h.apart⟩
theorem blkp {w : World} {g : Nat} {a b : Value} {t : TypeId} (h : w.heap[g]? = some (.cells #[a, b] t (0, 0))) :
    w.cell? ⟨g, 0, none⟩ = some a ∧ w.cell? ⟨g, 1, none⟩ = some b ∧ w.frozen? ⟨g, 0, none⟩ = false ∧ w.frozen? ⟨g, 1, none⟩ = false := by
  simp [World.cell?, World.frozen?, h]
/-- All blocks of a log lie below a number. -/
structure InC (hi : Nat) (v : Value) (n : Nat) (M : List PV) : Prop where
  row : ∀ g, v.ownBlock = some g → g < hi
  idx : ∀ i, i < n → ∀ g, (M.getD i eV).2.ownBlock = some g → g < hi
theorem OwC.inC {w : World} {base n : Nat} {v : Value} {M : List PV} (h : OwC w base v n M) : InC w.heap.size v n M :=
  ⟨fun g hg => (own_ltC h.row g hg).2, fun i hi g hg => (own_ltC (h.idx i hi) g hg).2⟩
end Go.Proofs.YtbcljhafdpnjbabDoor.L6

namespace Go.Proofs.YtbcljhafdpnjbabDoor.L4
set_option linter.unusedVariables false

/-- Posts are good. -/
def GoodP (l : List Int) : Prop := l.length ≤ 60 ∧ ∀ j, j < l.length → (0 ≤ l.getD j 0 ∧ l.getD j 0 ≤ 9999) ∧ (0 < j → l.getD (j - 1) 0 < l.getD j 0)
def Rise (l : List Int) : Prop := l.Pairwise fun x y => x < y

theorem getD_eq {l : List Int} {j : Nat} (h : j < l.length) : l.getD j 0 = l[j] := by simp [List.getD, List.getElem?_eq_getElem h]
theorem getD_mem {l : List Int} {j : Nat} (h : j < l.length) : l.getD j 0 ∈ l := by rw [getD_eq h]; exact List.getElem_mem h
theorem mem_getD {l : List Int} {x : Int} (h : x ∈ l) : ∃ j, j < l.length ∧ l.getD j 0 = x := by
  obtain ⟨j, hj, e⟩ := List.getElem_of_mem h
  exact ⟨j, hj, by rw [getD_eq hj]; exact e⟩
theorem rise_get {l : List Int} (h : Rise l) {i j : Nat} (hij : i < j) (hj : j < l.length) : l.getD i 0 < l.getD j 0 := by
  rw [getD_eq hj, getD_eq (Nat.lt_trans hij hj)]
  exact List.pairwise_iff_getElem.1 h i j _ _ hij
theorem rise_le {l : List Int} (h : Rise l) {i j : Nat} (hij : i ≤ j) (hj : j < l.length) : l.getD i 0 ≤ l.getD j 0 := by
  by_cases e : i = j
  · subst e; omega
  · have := rise_get h (show i < j by omega) hj; omega
theorem rise_of_step {l : List Int} (h : ∀ j, j < l.length → 0 < j → l.getD (j - 1) 0 < l.getD j 0) : Rise l := by
  refine List.pairwise_iff_getElem.2 fun i j hi hj hij => ?_
  have key : ∀ d, i + 1 + d < l.length → l.getD i 0 < l.getD (i + 1 + d) 0 := fun d => by
    induction d with
    | zero => intro hd; have := h (i + 1) hd (by omega); simpa using this
    | succ d ih =>
      intro hd
      have h1 := ih (by omega)
      have h2 := h (i + 1 + (d + 1)) hd (by omega)
      have e : i + 1 + (d + 1) - 1 = i + 1 + d := by omega
      rw [e] at h2
      omega
  have := key (j - i - 1) (by omega)
  rw [show i + 1 + (j - i - 1) = j by omega, getD_eq hi, getD_eq hj] at this
  exact this
theorem good_rise {l : List Int} (h : GoodP l) : Rise l := rise_of_step fun j hj h0 => (h.2 j hj).2 h0
theorem rise_uniq : ∀ {l m : List Int}, Rise l → Rise m → (∀ x, x ∈ l ↔ x ∈ m) → l = m
  | [], [], _, _, _ => rfl
  | [], y :: m, _, _, h => by have := (h y).2 (by simp); simp at this
  | x :: l, [], _, _, h => by have := (h x).1 (by simp); simp at this
  | x :: l, y :: m, hl, hm, h => by
    have hl' := List.pairwise_cons.1 hl
    have hm' := List.pairwise_cons.1 hm
    have e : x = y := by
      have h1 := (h x).1 (by simp)
      have h2 := (h y).2 (by simp)
      simp only [List.mem_cons] at h1 h2
      rcases h1 with h1 | h1
      · exact h1
      · rcases h2 with h2 | h2
        · exact h2.symm
        · have := hm'.1 x h1; have := hl'.1 y h2; omega
    subst e
    rw [rise_uniq hl'.2 hm'.2 fun z => by
      have hz := h z
      simp only [List.mem_cons] at hz
      constructor
      · intro hz1
        rcases hz.1 (.inr hz1) with e | e
        · subst e; have := hl'.1 z hz1; omega
        · exact e
      · intro hz1
        rcases hz.2 (.inr hz1) with e | e
        · subst e; have := hm'.1 z hz1; omega
        · exact e]

/-- How many at the front are less. -/
def lp (n : Int) : List Int → Nat
  | [] => 0
  | x :: l => if x < n then lp n l + 1 else 0
theorem lp_le (n : Int) : ∀ l : List Int, lp n l ≤ l.length
  | [] => Nat.le_refl _
  | x :: l => by
    have := lp_le n l
    unfold lp
    split <;> simp <;> omega
theorem lp_lt (n : Int) : ∀ (l : List Int) (j : Nat), j < lp n l → l.getD j 0 < n
  | [], j, h => by simp [lp] at h
  | x :: l, j, h => by
    unfold lp at h
    split at h
    · cases j with
      | zero => simpa
      | succ j => simpa using lp_lt n l j (by omega)
    · omega
theorem lp_stop (n : Int) : ∀ (l : List Int), lp n l < l.length → ¬ l.getD (lp n l) 0 < n
  | [], h => by simp at h
  | x :: l, h => by
    unfold lp at h ⊢
    split
    · rename_i hx
      rw [if_pos hx] at h
      simpa using lp_stop n l (by simpa using h)
    · rename_i hx
      simpa using Int.not_lt.1 hx
theorem lp_at {n : Int} : ∀ (l : List Int) (k : Nat), k ≤ l.length → (∀ j, j < k → l.getD j 0 < n) → (k < l.length → ¬ l.getD k 0 < n) → lp n l = k := fun l k hk h1 h2 => by
  rcases Nat.lt_trichotomy (lp n l) k with h | h | h
  · exact absurd (h1 _ h) (lp_stop n l (by omega))
  · exact h
  · have := lp_le n l
    exact absurd (lp_lt n l k h) (h2 (by omega))
theorem count_lp (n : Int) : ∀ {l : List Int}, Rise l → l.countP (fun y => decide (y < n)) = lp n l
  | [], _ => rfl
  | x :: l, h => by
    have h' := List.pairwise_cons.1 h
    rw [List.countP_cons, count_lp n h'.2]
    conv => rhs; unfold lp
    by_cases hx : x < n
    · simp [hx]
    · have h0 : lp n l = 0 := by
        have := h'.1
        cases l with
        | nil => rfl
        | cons z zs =>
          have := this z (by simp)
          unfold lp
          rw [if_neg (by omega)]
      simp [hx, h0]
/-- The first place from a place on with a number that is great enough. -/
def leap (l : List Int) (f : Nat) (n : Int) : Nat := f + lp n (l.drop f)
theorem drop_getD (l : List Int) (f j : Nat) : (l.drop f).getD j 0 = l.getD (f + j) 0 := by simp [List.getD]
theorem leap_ge (l : List Int) (f : Nat) (n : Int) : f ≤ leap l f n := by unfold leap; omega
theorem leap_le (l : List Int) (f : Nat) (n : Int) (hf : f ≤ l.length) : leap l f n ≤ l.length := by
  have := lp_le n (l.drop f)
  unfold leap
  simp at this
  omega
theorem leap_lt (l : List Int) (f : Nat) (n : Int) (j : Nat) (h1 : f ≤ j) (h2 : j < leap l f n) : l.getD j 0 < n := by
  unfold leap at h2
  have := lp_lt n (l.drop f) (j - f) (by omega)
  rw [drop_getD, show f + (j - f) = j by omega] at this
  exact this
theorem leap_stop (l : List Int) (f : Nat) (n : Int) (h : leap l f n < l.length) : ¬ l.getD (leap l f n) 0 < n := by
  unfold leap at h ⊢
  have := lp_stop n (l.drop f) (by simp; omega)
  rw [drop_getD] at this
  exact this
theorem leap_at {l : List Int} {f k : Nat} {n : Int} (hfk : f ≤ k) (hk : k ≤ l.length) (h1 : ∀ j, f ≤ j → j < k → l.getD j 0 < n) (h2 : k < l.length → ¬ l.getD k 0 < n) : leap l f n = k := by
  have := lp_at (n := n) (l.drop f) (k - f) (by simp; omega) (fun j hj => by rw [drop_getD]; exact h1 _ (by omega) (by omega)) (fun h => by
    rw [drop_getD, show f + (k - f) = k by omega]
    exact h2 (by simp at h; omega))
  unfold leap
  omega

/-- What both have; what the first alone has. -/
def those (b : List Int) (s : Bool) (a : List Int) : List Int := a.filter fun x => decide (x ∈ b) == s
theorem those_len (a b : List Int) (s : Bool) : (those b s a).length ≤ a.length := List.length_filter_le _ _
theorem those_snoc (a b : List Int) (s : Bool) (k : Nat) (h : k < a.length) : those b s (a.take (k + 1)) = if (decide (a.getD k 0 ∈ b) == s) = true then those b s (a.take k) ++ [a.getD k 0] else those b s (a.take k) := by
  unfold those
  rw [List.take_succ_eq_append_getElem h, List.filter_append, getD_eq h]
  by_cases e : (decide (a[k] ∈ b) == s) = true
  · rw [if_pos e]; simp [e]
  · rw [if_neg e]; simp only [Bool.not_eq_true] at e; simp [e]
theorem leap_mem {b : List Int} {f : Nat} {x : Int} (hb : Rise b) (hf : f ≤ b.length) (h : ∀ j, j < f → b.getD j 0 < x) : x ∈ b ↔ leap b f x < b.length ∧ b.getD (leap b f x) 0 = x := by
  constructor
  · intro hx
    obtain ⟨j, hj, e⟩ := mem_getD hx
    have h1 : ¬ j < leap b f x := fun hlt => by
      by_cases hjf : j < f
      · have := h j hjf; omega
      · have := leap_lt b f x j (by omega) hlt; omega
    have h2 : leap b f x ≤ j := by omega
    have h3 := leap_stop b f x (by omega)
    have h4 := rise_le hb h2 hj
    exact ⟨by omega, by omega⟩
  · rintro ⟨h1, h2⟩
    rw [← h2]
    exact getD_mem h1

/-- A number put into a list. -/
def put (l : List Int) (x : Int) : List Int := if lp x l < l.length ∧ l.getD (lp x l) 0 = x then l else l.take (lp x l) ++ x :: l.drop (lp x l)
theorem put_len (l : List Int) (x : Int) : (put l x).length ≤ l.length + 1 := by
  unfold put
  split
  · omega
  · simp; omega
theorem put_mem (l : List Int) (x y : Int) : y ∈ put l x ↔ y = x ∨ y ∈ l := by
  unfold put
  split
  · rename_i h
    constructor
    · exact .inr
    · rintro (rfl | h1)
      · have h2 := h.2
        have := getD_mem h.1
        rwa [h2] at this
      · exact h1
  · have e := List.take_append_drop (lp x l) l
    constructor
    · intro h
      simp only [List.mem_append, List.mem_cons] at h
      rcases h with h | h | h
      · exact .inr (List.mem_of_mem_take h)
      · exact .inl h
      · exact .inr (List.mem_of_mem_drop h)
    · rintro (rfl | h)
      · simp
      · rw [← e] at h
        simp only [List.mem_append, List.mem_cons] at h ⊢
        rcases h with h | h
        · exact .inl h
        · exact .inr (.inr h)
theorem take_lt {l : List Int} {k : Nat} {x y : Int} (h : ∀ j, j < k → l.getD j 0 < x) (hy : y ∈ l.take k) : y < x := by
  obtain ⟨j, hj, e⟩ := mem_getD hy
  have hj' : j < k ∧ j < l.length := by simp at hj; omega
  have := h j hj'.1
  rw [getD_eq hj] at e
  rw [getD_eq hj'.2] at this
  simp at e
  omega
theorem drop_mem {l : List Int} {k : Nat} {y : Int} (hy : y ∈ l.drop k) : ∃ j, k ≤ j ∧ j < l.length ∧ l.getD j 0 = y := by
  obtain ⟨j, hj, e⟩ := mem_getD hy
  rw [drop_getD] at e
  exact ⟨k + j, by omega, by simp at hj; omega, e⟩
theorem put_rise {l : List Int} {x : Int} (h : Rise l) : Rise (put l x) := by
  unfold put
  split
  · exact h
  · rename_i hno
    refine List.pairwise_append.2 ⟨h.sublist (List.take_sublist _ _), List.pairwise_cons.2 ⟨fun y hy => ?_, h.sublist (List.drop_sublist _ _)⟩, fun y hy z hz => ?_⟩
    · obtain ⟨j, hj, hl, e⟩ := drop_mem hy
      have h1 := lp_stop x l (by omega)
      have h2 := rise_le h hj hl
      by_cases e2 : l.getD (lp x l) 0 = x
      · exact absurd ⟨by omega, e2⟩ hno
      · omega
    · have h1 := take_lt (lp_lt x l) hy
      simp only [List.mem_cons] at hz
      rcases hz with rfl | hz
      · exact h1
      · obtain ⟨j, hj, hl, e⟩ := drop_mem hz
        have h2 := lp_stop x l (by omega)
        have h3 := rise_le h hj hl
        omega
/-- Those of either. -/
def joinL (a b : List Int) : List Int := b.foldl put a
theorem joinL_snoc (a b : List Int) (k : Nat) (h : k < b.length) : joinL a (b.take (k + 1)) = put (joinL a (b.take k)) (b.getD k 0) := by
  unfold joinL
  rw [List.take_succ_eq_append_getElem h, List.foldl_append, getD_eq h]
  rfl
theorem joinL_len (a b : List Int) : ∀ k, (joinL a (b.take k)).length ≤ a.length + k
  | 0 => by simp [joinL]
  | k + 1 => by
    have ih := joinL_len a b k
    by_cases h : k < b.length
    · rw [joinL_snoc a b k h]
      have := put_len (joinL a (b.take k)) (b.getD k 0)
      omega
    · rw [List.take_of_length_le (by omega)] at ih ⊢
      omega
theorem joinL_mem : ∀ (b a : List Int) (y : Int), y ∈ joinL a b ↔ y ∈ a ∨ y ∈ b
  | [], a, y => by simp [joinL]
  | x :: b, a, y => by
    have := joinL_mem b (put a x) y
    unfold joinL at this ⊢
    rw [List.foldl_cons, this, put_mem]
    simp only [List.mem_cons]
    constructor
    · rintro ((h | h) | h)
      · exact .inr (.inl h)
      · exact .inl h
      · exact .inr (.inr h)
    · rintro (h | h | h)
      · exact .inl (.inr h)
      · exact .inl (.inl h)
      · exact .inr h
theorem joinL_rise : ∀ (b a : List Int), Rise a → Rise (joinL a b)
  | [], a, h => h
  | x :: b, a, h => joinL_rise b (put a x) (put_rise h)

/-- The program's way: a's numbers one by one, those of b that are less ahead of each. -/
def jst (a b : List Int) : Nat → List Int × Nat
  | 0 => ([], 0)
  | k + 1 =>
    let u := leap b (jst a b k).2 (a.getD k 0)
    ((jst a b k).1 ++ (b.drop (jst a b k).2).take (u - (jst a b k).2) ++ [a.getD k 0], if u < b.length ∧ b.getD u 0 = a.getD k 0 then u + 1 else u)
/-- What holds after k of a's numbers. -/
structure JInv (a b : List Int) (k : Nat) : Prop where
  le : (jst a b k).2 ≤ b.length
  rise : Rise (jst a b k).1
  mem : ∀ y, y ∈ (jst a b k).1 ↔ y ∈ a.take k ∨ y ∈ b.take (jst a b k).2
  low : ∀ y ∈ (jst a b k).1, ∀ j, k ≤ j → j < a.length → y < a.getD j 0
  high : ∀ y ∈ (jst a b k).1, ∀ j, (jst a b k).2 ≤ j → j < b.length → y < b.getD j 0
  len : (jst a b k).1.length ≤ k + (jst a b k).2
theorem take_mem_iff {l : List Int} {k : Nat} {y : Int} : y ∈ l.take k ↔ ∃ j, j < k ∧ j < l.length ∧ l.getD j 0 = y := by
  constructor
  · intro h
    obtain ⟨j, hj, e⟩ := mem_getD h
    have hj' : j < k ∧ j < l.length := by simp at hj; omega
    refine ⟨j, hj'.1, hj'.2, ?_⟩
    rw [getD_eq hj] at e
    rw [getD_eq hj'.2]
    simpa using e
  · rintro ⟨j, h1, h2, rfl⟩
    rw [getD_eq h2]
    exact List.mem_take_iff_getElem.2 ⟨j, by omega, rfl⟩
theorem seg_mem {l : List Int} {f u : Nat} {y : Int} : y ∈ (l.drop f).take (u - f) ↔ ∃ j, f ≤ j ∧ j < u ∧ j < l.length ∧ l.getD j 0 = y := by
  rw [take_mem_iff]
  constructor
  · rintro ⟨j, h1, h2, h3⟩
    rw [drop_getD] at h3
    exact ⟨f + j, by omega, by omega, by simp at h2; omega, h3⟩
  · rintro ⟨j, h1, h2, h3, h4⟩
    exact ⟨j - f, by omega, by simp; omega, by rw [drop_getD, show f + (j - f) = j by omega]; exact h4⟩
theorem jinv {a b : List Int} (ha : Rise a) (hb : Rise b) : ∀ k, k ≤ a.length → JInv a b k
  | 0, _ => ⟨Nat.zero_le _, List.Pairwise.nil, fun y => by simp [jst], fun y hy => by simp [jst] at hy, fun y hy => by simp [jst] at hy, Nat.zero_le _⟩
  | k + 1, hk => by
    have I := jinv ha hb k (by omega)
    obtain ⟨⟨o, f⟩, e⟩ : ∃ p, p = jst a b k := ⟨_, rfl⟩
    have h1 := I.le; have h2 := I.rise; have h3 := I.mem; have h4 := I.low; have h5 := I.high; have h6 := I.len
    rw [← e] at h1 h2 h3 h4 h5 h6
    simp only at h1 h2 h3 h4 h5 h6
    obtain ⟨x, hx⟩ : ∃ x, x = a.getD k 0 := ⟨_, rfl⟩
    obtain ⟨u, hu⟩ : ∃ u, u = leap b f x := ⟨_, rfl⟩
    have u1 : f ≤ u := by rw [hu]; exact leap_ge _ _ _
    have u2 : u ≤ b.length := by rw [hu]; exact leap_le _ _ _ h1
    have u3 : ∀ j, f ≤ j → j < u → b.getD j 0 < x := fun j q1 q2 => leap_lt b f x j q1 (by rw [← hu]; exact q2)
    have u4 : u < b.length → ¬ b.getD u 0 < x := fun q => by have := leap_stop b f x (by rw [← hu]; exact q); rwa [← hu] at this
    obtain ⟨g, hg⟩ : ∃ g, g = if u < b.length ∧ b.getD u 0 = x then u + 1 else u := ⟨_, rfl⟩
    have e2 : jst a b (k + 1) = (o ++ (b.drop f).take (u - f) ++ [x], g) := by
      rw [hg, hu, hx]
      conv => lhs; unfold jst
      rw [← e]
    have g1 : u ≤ g ∧ g ≤ b.length ∧ (g = u ∨ (g = u + 1 ∧ b.getD u 0 = x)) := by
      rw [hg]
      split
      · rename_i q; exact ⟨by omega, by omega, .inr ⟨rfl, q.2⟩⟩
      · exact ⟨Nat.le_refl _, u2, .inl rfl⟩
    have g2 : ∀ j, g ≤ j → j < b.length → x < b.getD j 0 := fun j q1 q2 => by
      have w1 := rise_le hb (show u ≤ j by omega) q2
      have w2 := u4 (by omega)
      rw [hg] at q1
      split at q1
      · rename_i q; have := rise_get hb (show u < j by omega) q2; omega
      · rename_i q
        by_cases e3 : b.getD u 0 = x
        · exact absurd ⟨by omega, e3⟩ q
        · omega
    have ox : ∀ y ∈ o, y < x := fun y hy => by rw [hx]; exact h4 y hy k (Nat.le_refl _) (by omega)
    have newmem : ∀ y, y ∈ o ++ (b.drop f).take (u - f) ++ [x] ↔ y ∈ o ∨ (∃ j, f ≤ j ∧ j < u ∧ j < b.length ∧ b.getD j 0 = y) ∨ y = x := fun y => by
      simp only [List.mem_append, List.mem_singleton, seg_mem]
      constructor
      · rintro ((q | q) | q)
        · exact .inl q
        · exact .inr (.inl q)
        · exact .inr (.inr q)
      · rintro (q | q | q)
        · exact .inl (.inl q)
        · exact .inl (.inr q)
        · exact .inr q
    have lex : ∀ y, y ∈ o ++ (b.drop f).take (u - f) ++ [x] → y ≤ x := fun y hy => by
      rcases (newmem y).1 hy with q | ⟨j, q1, q2, q3, q4⟩ | q
      · have := ox y q; omega
      · have := u3 j q1 q2; omega
      · omega
    refine ⟨?_, ?_, ?_, ?_, ?_, ?_⟩ <;> rw [e2] <;> simp only
    · exact g1.2.1
    · refine List.pairwise_append.2 ⟨List.pairwise_append.2 ⟨h2, (hb.sublist (List.drop_sublist _ _)).sublist (List.take_sublist _ _), fun y hy z hz => ?_⟩, by simp, fun y hy z hz => ?_⟩
      · obtain ⟨j, q1, q2, q3, q4⟩ := seg_mem.1 hz
        have := h5 y hy j q1 q3
        omega
      · simp only [List.mem_singleton] at hz
        subst hz
        rcases List.mem_append.1 hy with q | q
        · exact ox y q
        · obtain ⟨j, q1, q2, q3, q4⟩ := seg_mem.1 q
          have := u3 j q1 q2
          omega
    · intro y
      rw [newmem, h3, take_mem_iff, take_mem_iff, take_mem_iff, take_mem_iff]
      constructor
      · rintro ((⟨j, q1, q2, q3⟩ | ⟨j, q1, q2, q3⟩) | ⟨j, q1, q2, q3, q4⟩ | q)
        · exact .inl ⟨j, by omega, q2, q3⟩
        · exact .inr ⟨j, by omega, q2, q3⟩
        · exact .inr ⟨j, by omega, q3, q4⟩
        · exact .inl ⟨k, by omega, by omega, by rw [q, hx]⟩
      · rintro (⟨j, q1, q2, q3⟩ | ⟨j, q1, q2, q3⟩)
        · by_cases ej : j = k
          · subst ej; exact .inr (.inr (by rw [← q3, hx]))
          · exact .inl (.inl ⟨j, by omega, q2, q3⟩)
        · by_cases ej : j < f
          · exact .inl (.inr ⟨j, ej, q2, q3⟩)
          · by_cases ej2 : j < u
            · exact .inr (.inl ⟨j, by omega, ej2, q2, q3⟩)
            · rcases g1.2.2 with q | ⟨q, q'⟩
              · omega
              · obtain rfl : j = u := by omega
                exact .inr (.inr (by rw [← q3, q']))
    · intro y hy j q1 q2
      have := lex y hy
      have := rise_get ha (show k < j by omega) q2
      omega
    · intro y hy j q1 q2
      have := lex y hy
      have := g2 j q1 q2
      omega
    · simp; omega
theorem join_eq {a b : List Int} (ha : Rise a) (hb : Rise b) : (jst a b a.length).1 ++ b.drop (jst a b a.length).2 = joinL a b := by
  have I := jinv ha hb a.length (Nat.le_refl _)
  refine rise_uniq (List.pairwise_append.2 ⟨I.rise, hb.sublist (List.drop_sublist _ _), fun y hy z hz => ?_⟩) (joinL_rise b a ha) fun y => ?_
  · obtain ⟨j, q1, q2, q3⟩ := drop_mem hz
    have := I.high y hy j q1 q2
    omega
  · rw [joinL_mem, List.mem_append, I.mem, List.take_length]
    conv => rhs; rw [← List.take_append_drop (jst a b a.length).2 b]
    rw [List.mem_append]
    constructor
    · rintro ((q | q) | q)
      · exact .inl q
      · exact .inr (.inl q)
      · exact .inr (.inr q)
    · rintro (q | q | q)
      · exact .inl (.inl q)
      · exact .inl (.inr q)
      · exact .inr q
end Go.Proofs.YtbcljhafdpnjbabDoor.L4

namespace Go.Proofs.YtbcljhafdpnjbabDoor.L4
open Go.RowKit L1
set_option linter.unusedVariables false

theorem own_belowT {w w' : World} {base n : Nat} {t : TypeId} {c : Nat} {v : Value} {ys : List Value} (h : w.ownsRow base t c v n ys) (hb : Below w.heap.size w w') : w'.ownsRow base t c v n ys := by
  refine ⟨h.1, ?_⟩
  rcases h.2 with h0 | ⟨g, cap, cur, rfl, hbg, hg, r⟩
  · exact .inl h0
  · exact .inr ⟨g, cap, cur, rfl, hbg, by rw [hb.block g (Array.getElem?_eq_some_iff.1 hg).1]; exact hg, r⟩
theorem own_baseT {w : World} {b c n size : Nat} {e : TypeId} {v : Value} {xs : List Value} (h : w.ownsRow c e size v n xs) (hbc : b ≤ c) : w.ownsRow b e size v n xs := by
  refine ⟨h.1, ?_⟩
  rcases h.2 with h0 | ⟨g, cap, cur, hv, hg, r⟩
  · exact .inl h0
  · exact .inr ⟨g, cap, cur, hv, Nat.le_trans hbc hg, r⟩
theorem own_some {w : World} {base n c : Nat} {t : TypeId} {v : Value} {xs : List Value} (h : w.ownsRow base t c v n xs) (hv : ¬ v = .slice none 0 0) : ∃ g cap, v = .slice (some ⟨g, 0, none⟩) n cap ∧ n ≤ cap ∧ cap ≤ maxLen := by
  rcases h.2 with ⟨hv', h0⟩ | ⟨g, cap, cur, hv', _, _, hc, hm, _⟩
  · exact absurd hv' hv
  · exact ⟨g, cap, hv', hc, hm⟩
theorem own_shapeT {w : World} {base n c : Nat} {t : TypeId} {v : Value} {xs : List Value} (h : w.ownsRow base t c v n xs) : ∃ a cap, v = .slice a n cap := by
  rcases h.2 with ⟨hv, h0⟩ | ⟨g, cap, cur, hv, _⟩
  · exact ⟨none, 0, by rw [hv, h0]⟩
  · exact ⟨_, cap, hv⟩
theorem bool_noT {b : Bool} {p : Prop} (h : b = true ↔ p) (hp : ¬ p) : b = false := by
  cases b with
  | false => rfl
  | true => exact absurd (h.1 rfl) hp
theorem own_neG {w : World} {base n cap g c : Nat} {t : TypeId} {a : Option Addr} {xs : List Value} (h : w.ownsRow base t c (.slice a n cap) n xs) (hg : g < base) : (Value.slice a n cap).ownBlock = none ∨ (Value.slice a n cap).ownBlock ≠ some g := by
  cases a with
  | none => exact .inl rfl
  | some x =>
    refine .inr fun e => ?_
    have := (h.lt g e).1
    omega
theorem sl_baseI {w w' : World} {a : Option Addr} {xs : List Int} {base : Nat} (h : Sl w a xs) (hb : Below base w w') (hlt : ∀ x, a = some x → x.block < base) : Sl w' a xs := fun i hi => by
  obtain ⟨b, off, ha, hc⟩ := h i hi
  exact ⟨b, off, ha, (hb.cell (p := ⟨b, off + i, none⟩) (hlt ⟨b, off, none⟩ ha)).trans hc⟩
theorem own_slI {w : World} {base n cap : Nat} {a : Option Addr} {xs : List Int} (h : w.ownsRow base 3 1 (.slice a n cap) n (xs.map (Value.int .i64))) : Sl w a xs := by
  obtain ⟨b, q, e, s, _⟩ := own_form h
  cases e
  exact s
theorem cell_one_new (w : World) (p : Value) (t : TypeId) : ∀ j u, [p][j]? = some u → (w.alloc (.cells #[p] t)).cell? ((⟨w.heap.size, 0, none⟩ : Addr).add j) = some u := by
  intro j u h
  rw [addr_add]
  match j, h with
  | 0, h => simp at h; subst h; simp
  | j + 1, h => simp at h
theorem ints_one (xs : List Int) : ∀ u ∈ xs.map (Value.int .i64), u.oneCell' = true := fun u hu => by
  obtain ⟨x, _, rfl⟩ := List.mem_map.1 hu
  rfl
theorem add_at (b off i : Nat) : (⟨b, off, none⟩ : Addr).add i = ⟨b, off + i, none⟩ := by unfold Addr.add; split <;> simp_all
/-- What lies from a place on. -/
theorem sl_seg {w : World} {b off : Nat} {xs : List Int} (h : Sl w (some ⟨b, off, none⟩) xs) (f m : Nat) : ∀ j u, (((xs.drop f).take m).map (Value.int .i64))[j]? = some u → w.cell? ((⟨b, off + f, none⟩ : Addr).add j) = some u := fun j u hu => by
  rw [add_at]
  rw [List.getElem?_map, List.getElem?_take] at hu
  split at hu
  · rw [List.getElem?_drop] at hu
    by_cases hj : f + j < xs.length
    · have := h.at (f + j) hj
      rw [List.getElem?_eq_getElem hj] at hu
      simp only [Option.map_some, Option.some.injEq] at hu
      rw [← hu, Nat.add_assoc, this, getD_eq hj]
    · rw [List.getElem?_eq_none (by omega)] at hu
      simp at hu
  · simp at hu
end Go.Proofs.YtbcljhafdpnjbabDoor.L4

namespace Go.Proofs.YtbcljhafdpnjbabDoor.L4
open Go.RowKit L1
set_option linter.unusedVariables false

set_option maxRecDepth 100000 in
set_option maxHeartbeats 1000000 in
theorem sameInts_any (a b : Option Addr) (xs : List Int) (n c1 c2 : Nat) (w : World) (hn : xs.length = n) (ha : Sl w a xs) (hb : Sl w b xs) (hn2 : n ≤ 1048576) :
    Calls Tryd.prog 28 #[.slice a n c1, .slice b n c2] w fun e w' => e = .returned (.bool true) ∧ Below w.heap.size w w' := by
  have HA := hide ha
  have HB := hide hb
  have HN := hide hn
  clear ha hb hn
  go_enter Tryd.func28, Tryd.ntmps28
  go_wp2
  go_loopw [13] (fun i wr => ∃ k : Nat, k ≤ n ∧ i = .int .i64 k ∧ Below w.heap.size w wr) (fun i _ => n - (intOf i).toNat)
  case atStart => exact ⟨0, Nat.zero_le _, rfl, Below.refl _ _⟩
  case round =>
    obtain ⟨k, hk, rfl, hbel⟩ := hrel
    by_cases hlt : k < n
    · obtain ⟨b1, o1, rfl, h1⟩ := HA.out k (by rw [HN.out]; exact hlt)
      obtain ⟨b2, o2, rfl, h2⟩ := HB.out k (by rw [HN.out]; exact hlt)
      have g1 := (hbel.cell (p := ⟨b1, o1 + k, none⟩) (blk_lt h1)).trans h1
      have g2 := (hbel.cell (p := ⟨b2, o2 + k, none⟩) (blk_lt h2)).trans h2
      obtain ⟨x, hx⟩ : ∃ x, x = xs.getD k 0 := ⟨_, rfl⟩
      rw [← hx] at g1 g2
      have hltI : (k : Int) < (n : Int) := by omega
      have hk0 : (0 : Int) ≤ (k : Int) := by omega
      clear h1 h2 hx
      go_wp2
      go_quiet (fail)
      go_wp2
      go_roundw
      case rel => exact ⟨k + 1, by omega, by go_num, below_drewN hbel _⟩
      case measure => simp [intOf]; omega
    · have hltI : ¬ (k : Int) < (n : Int) := by omega
      go_wp2
      go_ret
      exact ⟨rfl, hbel⟩
end Go.Proofs.YtbcljhafdpnjbabDoor.L4

namespace Go.Proofs.YtbcljhafdpnjbabDoor.L6
open Go.RowKit L1
set_option linter.unusedVariables false

theorem below_drewY {N : Nat} {w w' : World} (h : Below N w w') : ∀ q, Below N w (w'.drewN q)
  | 0 => h
  | q + 1 => (below_drewY h q).drew
set_option maxRecDepth 100000 in
set_option maxHeartbeats 1000000 in
theorem sameTexts_same (a b : Option Addr) (xs : List ByteArray) (n c1 c2 : Nat) (w : World) (hn : xs.length = n) (ha : SlT w a xs) (hb : SlT w b xs) (hn2 : n ≤ 1048576) :
    Calls Tryd.prog 13 #[.slice a n c1, .slice b n c2] w fun e w' => e = .returned (.bool true) ∧ Below w.heap.size w w' := by
  have HA := hide ha
  have HB := hide hb
  have HN := hide hn
  clear ha hb hn
  go_enter Tryd.func13, Tryd.ntmps13
  go_wp2
  go_loopw [13] (fun i wr => ∃ k : Nat, k ≤ n ∧ i = .int .i64 k ∧ Below w.heap.size w wr) (fun i _ => n - (intOf i).toNat)
  case atStart => exact ⟨0, Nat.zero_le _, rfl, Below.refl _ _⟩
  case round =>
    obtain ⟨k, hk, rfl, hbel⟩ := hrel
    by_cases hlt : k < n
    · obtain ⟨b1, o1, rfl, h1⟩ := HA.out k (by rw [HN.out]; exact hlt)
      obtain ⟨b2, o2, rfl, h2⟩ := HB.out k (by rw [HN.out]; exact hlt)
      have g1 := (hbel.cell (p := ⟨b1, o1 + k, none⟩) (blk_lt h1)).trans h1
      have g2 := (hbel.cell (p := ⟨b2, o2 + k, none⟩) (blk_lt h2)).trans h2
      obtain ⟨x, hx⟩ : ∃ x, x = xs.getD k e0 := ⟨_, rfl⟩
      rw [← hx] at g1 g2
      have hltI : (k : Int) < (n : Int) := by omega
      have hk0 : (0 : Int) ≤ (k : Int) := by omega
      clear h1 h2 hx
      go_wp2
      go_quiet (fail)
      go_wp2
      go_roundw
      case rel => exact ⟨k + 1, by omega, by go_num, below_drewY hbel _⟩
      case measure => simp [intOf]; omega
    · have hltI : ¬ (k : Int) < (n : Int) := by omega
      go_wp2
      go_ret
      exact ⟨rfl, hbel⟩
theorem blk_lt8 {w : World} {p : Addr} {v : Value} (h : w.cell? p = some v) : p.block < w.heap.size := by
  by_cases hb : p.block < w.heap.size
  · exact hb
  · simp [World.cell?, Array.getElem?_eq_none (show w.heap.size ≤ p.block by omega)] at h
theorem keep8P {wa wb W : World} {N : Nat} {p0 p1 p2 p3 p4 p5 p6 p7 : Addr} {v0 v1 v2 v3 v4 v5 v6 v7 : Value} (h : (wa.cell? p0 = some v0 ∧ wa.cell? p1 = some v1 ∧ wa.cell? p2 = some v2 ∧ wa.cell? p3 = some v3 ∧ wa.cell? p4 = some v4 ∧ wa.cell? p5 = some v5 ∧ wa.cell? p6 = some v6 ∧ wa.cell? p7 = some v7) ∧ Below N W wa) (hb : Below wa.heap.size wa wb) (hN : N ≤ W.heap.size) : (wb.cell? p0 = some v0 ∧ wb.cell? p1 = some v1 ∧ wb.cell? p2 = some v2 ∧ wb.cell? p3 = some v3 ∧ wb.cell? p4 = some v4 ∧ wb.cell? p5 = some v5 ∧ wb.cell? p6 = some v6 ∧ wb.cell? p7 = some v7) ∧ Below N W wb := by
  obtain ⟨⟨h0, h1, h2, h3, h4, h5, h6, h7⟩, hz⟩ := h
  exact ⟨⟨(hb.cell (blk_lt8 h0)).trans h0, (hb.cell (blk_lt8 h1)).trans h1, (hb.cell (blk_lt8 h2)).trans h2, (hb.cell (blk_lt8 h3)).trans h3, (hb.cell (blk_lt8 h4)).trans h4, (hb.cell (blk_lt8 h5)).trans h5, (hb.cell (blk_lt8 h6)).trans h6, (hb.cell (blk_lt8 h7)).trans h7⟩, hz.trans (hb.mono (Nat.le_trans hN hz.size))⟩

set_option maxRecDepth 100000 in
set_option maxHeartbeats 4000000 in
theorem samePieces_same (a b : Option Addr) (L : List Pc) (n c1 c2 : Nat) (B : Int) (w : World) (hn : L.length = n) (ha : SlC w a L) (hb : SlC w b L) (hn2 : n ≤ 1048576) (hsz : ∀ i, i < n → (gc L i).x.length ≤ 1048576) :
    Calls Tryd.prog 12 #[.agg #[.slice a n c1, .int .i64 B], .agg #[.slice b n c2, .int .i64 B]] w fun e w' => e = .returned (.bool true) ∧ Below w.heap.size w w' := by
  have HA := hide ha
  have HB := hide hb
  have HN := hide hn
  have HSZ := hide hsz
  clear ha hb hn hsz
  have hal : Below w.heap.size w ((w.alloc (.cells #[.slice a n c1, .int .i64 B] 25 (0, 0))).alloc (.cells #[.slice b n c2, .int .i64 B] 25 (0, 0))) := ((Below.refl _ _).alloc (Nat.le_refl _) _).alloc (by simp) _
  have HAL := hide hal
  clear hal
  go_enter Tryd.func12, Tryd.ntmps12
  go_wp2
  go_loopw [23] (fun i wr => ∃ k : Nat, k ≤ n ∧ i = .int .i64 k ∧ wr.cell? ⟨w.heap.size, 0, none⟩ = some (.slice a n c1) ∧ wr.cell? ⟨w.heap.size + 1, 0, none⟩ = some (.slice b n c2) ∧ Below w.heap.size w wr) (fun i _ => n - (intOf i).toNat)
  case atStart => exact ⟨0, Nat.zero_le _, rfl, by simp, by simp, HAL.out⟩
  case round =>
    obtain ⟨k, hk, rfl, d1, d2, hbel⟩ := hrel
    by_cases hlt : k < n
    · obtain ⟨b1, o1, rfl, x1, q1, h1⟩ := HA.out.below hbel k (by rw [HN.out]; exact hlt)
      obtain ⟨b2, o2, rfl, x2, q2, h2⟩ := HB.out.below hbel k (by rw [HN.out]; exact hlt)
      have hxl := HSZ.out k hlt
      have g0 := h1.f
      have g1 := h1.s
      have g2 := h1.x
      have g3 := h2.f
      have g4 := h2.s
      have g5 := h2.x
      have t1 := h1.l
      have t2 := h2.l
      obtain ⟨p, hp⟩ : ∃ p, p = gc L k := ⟨_, rfl⟩
      rw [show L.getD k eC = p from hp.symm] at g0 g1 g2 g3 g4 g5 t1 t2
      rw [← hp] at hxl
      obtain ⟨f, s, x⟩ := p
      simp only at g0 g1 g2 g3 g4 g5 t1 t2 hxl
      obtain ⟨m, hm⟩ : ∃ m, m = x.length := ⟨_, rfl⟩
      rw [← hm] at g2 g5 hxl
      have hltI : (k : Int) < (n : Int) := by omega
      have hk0 : (0 : Int) ≤ (k : Int) := by omega
      have C := hide (fun wx (hb : Below wr.heap.size wr wx) => L4.sameInts_any x1 x2 x m q1 q2 wx hm.symm (t1.below hb) (t2.below hb) hxl)
      clear h1 h2 hp hm t1 t2
      go_wp2
      refine wp_region_held_drew (S := fun wx => (wx.cell? ⟨w.heap.size, 0, none⟩ = some (.slice (some ⟨b1, o1, none⟩) n c1) ∧ wx.cell? ⟨w.heap.size + 1, 0, none⟩ = some (.slice (some ⟨b2, o2, none⟩) n c2) ∧ wx.cell? ⟨b1, o1 + k * 3, none⟩ = some (.int .i64 f) ∧ wx.cell? ⟨b1, o1 + k * 3 + 1, none⟩ = some (.string s) ∧ wx.cell? ⟨b1, o1 + k * 3 + 2, none⟩ = some (.slice x1 m q1) ∧ wx.cell? ⟨b2, o2 + k * 3, none⟩ = some (.int .i64 f) ∧ wx.cell? ⟨b2, o2 + k * 3 + 1, none⟩ = some (.string s) ∧ wx.cell? ⟨b2, o2 + k * 3 + 2, none⟩ = some (.slice x2 m q2)) ∧ Below wr.heap.size wr wx) (by kernel_rfl) ⟨⟨d1, d2, g0, g1, g2, g3, g4, g5⟩, (Below.refl _ _).drew⟩ (fun hHeld => ?_)
      refine wpAnyH_take (i := 0) (v := ?v1) rfl (by kernel_rfl) (by kernel_rfl) (by kernel_rfl) (fun _ _ _ h => h) (Or.inl ⟨by rfl, ?y1⟩) (by assumption) ?r1
      case y1 => (intro w hSw; (try dsimp only at hSw); go_simp; try (with_reducible rfl))
      simp only [List.getElem_toArray, List.getElem_cons_zero, Act.put, List.setIfInBounds_toArray, List.set_cons_zero, List.set_cons_succ]
      refine wpAnyH_take (i := 1) (v := ?v2) rfl (by kernel_rfl) (by kernel_rfl) (by kernel_rfl) (fun _ _ _ h => h) (Or.inl ⟨by rfl, ?y2⟩) (by assumption) ?r2
      case y2 => (intro w hSw; (try dsimp only at hSw); go_simp; try (with_reducible rfl))
      simp only [List.getElem_toArray, List.getElem_cons_succ, List.getElem_cons_zero, Act.put, List.setIfInBounds_toArray, List.set_cons_zero, List.set_cons_succ]
      refine wpAnyH_take (i := 2) (v := ?v3) rfl (by kernel_rfl) (by kernel_rfl) (by kernel_rfl) (fun _ _ _ h => h) (Or.inl ⟨by rfl, ?y3⟩) (by assumption) ?r3
      case y3 => (intro w hSw; (try dsimp only at hSw); go_simp; try (with_reducible rfl))
      simp only [List.getElem_toArray, List.getElem_cons_succ, List.getElem_cons_zero, Act.put, List.setIfInBounds_toArray, List.set_cons_zero, List.set_cons_succ]
      refine wpAnyH_take (i := 3) (v := ?v4) rfl (by kernel_rfl) (by kernel_rfl) (by kernel_rfl) (fun _ _ _ h => h) (Or.inl ⟨by rfl, ?y4⟩) (by assumption) ?r4
      case y4 => (intro w hSw; (try dsimp only at hSw); go_simp; try (with_reducible rfl))
      simp only [List.getElem_toArray, List.getElem_cons_succ, List.getElem_cons_zero, Act.put, List.setIfInBounds_toArray, List.set_cons_zero, List.set_cons_succ]
      refine wpAnyH_take (i := 4) (v := ?v5) rfl (by kernel_rfl) (by kernel_rfl) (by kernel_rfl) (fun _ _ _ h => h) (Or.inl ⟨by rfl, ?y5⟩) (by assumption) ?r5
      case y5 => (intro w hSw; (try dsimp only at hSw); go_simp; try (with_reducible rfl))
      simp only [List.getElem_toArray, List.getElem_cons_succ, List.getElem_cons_zero, Act.put, List.setIfInBounds_toArray, List.set_cons_zero, List.set_cons_succ]
      refine wpAnyH_take (i := 5) (v := ?v6) rfl (by kernel_rfl) (by kernel_rfl) (by kernel_rfl) (fun _ _ _ h => h) (Or.inl ⟨by rfl, ?y6⟩) (by assumption) ?r6
      case y6 => (intro w hSw; (try dsimp only at hSw); go_simp; try (with_reducible rfl))
      simp only [List.getElem_toArray, List.getElem_cons_succ, List.getElem_cons_zero, Act.put, List.setIfInBounds_toArray, List.set_cons_zero, List.set_cons_succ]
      refine wpAnyH_take (i := 6) (v := ?v7) rfl (by kernel_rfl) (by kernel_rfl) (by kernel_rfl) (fun _ _ _ h => h) (Or.inl ⟨by rfl, ?y7⟩) (by assumption) ?r7
      case y7 => (intro w hSw; (try dsimp only at hSw); go_simp; try (with_reducible rfl))
      simp only [List.getElem_toArray, List.getElem_cons_succ, List.getElem_cons_zero, Act.put, List.setIfInBounds_toArray, List.set_cons_zero, List.set_cons_succ]
      refine wpAnyH_take (i := 7) (v := ?v8) rfl (by kernel_rfl) (by kernel_rfl) (by kernel_rfl) (fun _ _ _ h => h) (Or.inl ⟨by rfl, ?y8⟩) (by assumption) ?r8
      case y8 => (intro w hSw; (try dsimp only at hSw); go_simp; try (with_reducible rfl))
      simp only [List.getElem_toArray, List.getElem_cons_succ, List.getElem_cons_zero, Act.put, List.setIfInBounds_toArray, List.set_cons_zero, List.set_cons_succ]
      refine wpAnyH_take (i := 8) (v := ?v9) rfl (by kernel_rfl) (by kernel_rfl) (by kernel_rfl) (fun _ _ _ h => h) (Or.inl ⟨by rfl, ?y9⟩) (by assumption) ?r9
      case y9 => (intro w hSw; (try dsimp only at hSw); go_simp; try (with_reducible rfl))
      simp only [List.getElem_toArray, List.getElem_cons_succ, List.getElem_cons_zero, Act.put, List.setIfInBounds_toArray, List.set_cons_zero, List.set_cons_succ]
      refine wpAnyH_take (i := 9) (v := ?v10) rfl (by kernel_rfl) (by kernel_rfl) (by kernel_rfl) (fun _ _ _ h => h) (Or.inl ⟨by rfl, ?y10⟩) (by assumption) ?r10
      case y10 => (intro w hSw; (try dsimp only at hSw); go_simp; try (with_reducible rfl))
      simp only [List.getElem_toArray, List.getElem_cons_succ, List.getElem_cons_zero, Act.put, List.setIfInBounds_toArray, List.set_cons_zero, List.set_cons_succ]
      refine wpAnyH_take (i := 10) (v := ?v11) rfl (by kernel_rfl) (by kernel_rfl) (by kernel_rfl) (fun _ _ _ h => h) (Or.inl ⟨by rfl, ?y11⟩) (by assumption) ?r11
      case y11 => (intro w hSw; (try dsimp only at hSw); go_simp; try (with_reducible rfl))
      simp only [List.getElem_toArray, List.getElem_cons_succ, List.getElem_cons_zero, Act.put, List.setIfInBounds_toArray, List.set_cons_zero, List.set_cons_succ]
      refine wpAnyH_take (i := 11) (v := ?v12) rfl (by kernel_rfl) (by kernel_rfl) (by kernel_rfl) (fun _ _ _ h => h) (Or.inl ⟨by rfl, ?y12⟩) (by assumption) ?r12
      case y12 => (intro w hSw; (try dsimp only at hSw); go_simp; try (with_reducible rfl))
      simp only [List.getElem_toArray, List.getElem_cons_succ, List.getElem_cons_zero, Act.put, List.setIfInBounds_toArray, List.set_cons_zero, List.set_cons_succ]
      refine wpAnyH_take (i := 12) (v := ?v13) rfl (by kernel_rfl) (by kernel_rfl) (by kernel_rfl) (fun _ _ _ h => h) (Or.inl ⟨by rfl, ?y13⟩) (by assumption) ?r13
      case y13 => (intro w hSw; (try dsimp only at hSw); go_simp; try (with_reducible rfl))
      simp only [List.getElem_toArray, List.getElem_cons_succ, List.getElem_cons_zero, Act.put, List.setIfInBounds_toArray, List.set_cons_zero, List.set_cons_succ]
      refine wpAnyH_take (i := 13) (v := ?v14) rfl (by kernel_rfl) (by kernel_rfl) (by kernel_rfl) (fun _ _ _ h => h) (Or.inl ⟨by rfl, ?y14⟩) (by assumption) ?r14
      case y14 => (intro w hSw; (try dsimp only at hSw); go_simp; try (with_reducible rfl))
      simp only [List.getElem_toArray, List.getElem_cons_succ, List.getElem_cons_zero, Act.put, List.setIfInBounds_toArray, List.set_cons_zero, List.set_cons_succ]
      refine wpAnyH_take (i := 14) (v := ?v15) rfl (by kernel_rfl) (by kernel_rfl) (by kernel_rfl) (fun _ _ _ h => h) (Or.inl ⟨by rfl, ?y15⟩) (by assumption) ?r15
      case y15 => (intro w hSw; (try dsimp only at hSw); go_simp; try (with_reducible rfl))
      simp only [List.getElem_toArray, List.getElem_cons_succ, List.getElem_cons_zero, Act.put, List.setIfInBounds_toArray, List.set_cons_zero, List.set_cons_succ]
      refine wpAnyH_take (i := 15) (v := ?v16) rfl (by kernel_rfl) (by kernel_rfl) (by kernel_rfl) (fun _ _ _ h => h) (Or.inl ⟨by rfl, ?y16⟩) (by assumption) ?r16
      case y16 => (intro w hSw; (try dsimp only at hSw); go_simp; try (with_reducible rfl))
      simp only [List.getElem_toArray, List.getElem_cons_succ, List.getElem_cons_zero, Act.put, List.setIfInBounds_toArray, List.set_cons_zero, List.set_cons_succ]
      refine wpAnyH_take (i := 16) (v := ?v17) rfl (by kernel_rfl) (by kernel_rfl) (by kernel_rfl) (fun _ _ _ h => h) (Or.inl ⟨by rfl, ?y17⟩) (by assumption) ?r17
      case y17 => (intro w hSw; (try dsimp only at hSw); go_simp; try (with_reducible rfl))
      simp only [List.getElem_toArray, List.getElem_cons_succ, List.getElem_cons_zero, Act.put, List.setIfInBounds_toArray, List.set_cons_zero, List.set_cons_succ]
      refine wpAnyH_take (i := 17) (v := ?v18) rfl (by kernel_rfl) (by kernel_rfl) (by kernel_rfl) (fun _ _ _ h => h) (Or.inl ⟨by rfl, ?y18⟩) (by assumption) ?r18
      case y18 => (intro w hSw; (try dsimp only at hSw); go_simp; try (with_reducible rfl))
      simp only [List.getElem_toArray, List.getElem_cons_succ, List.getElem_cons_zero, Act.put, List.setIfInBounds_toArray, List.set_cons_zero, List.set_cons_succ]
      refine wpAnyH_take (i := 18) (v := ?v19) rfl (by kernel_rfl) (by kernel_rfl) (by kernel_rfl) (fun _ _ _ h => h) (Or.inl ⟨by rfl, ?y19⟩) (by assumption) ?r19
      case y19 => (intro w hSw; (try dsimp only at hSw); go_simp; try (with_reducible rfl))
      simp only [List.getElem_toArray, List.getElem_cons_succ, List.getElem_cons_zero, Act.put, List.setIfInBounds_toArray, List.set_cons_zero, List.set_cons_succ]
      refine wpAnyH_take (i := 19) (v := ?v20) rfl (by kernel_rfl) (by kernel_rfl) (by kernel_rfl) (fun _ _ _ h => h) (Or.inl ⟨by rfl, ?y20⟩) (by assumption) ?r20
      case y20 => (intro w hSw; (try dsimp only at hSw); go_simp; try (with_reducible rfl))
      simp only [List.getElem_toArray, List.getElem_cons_succ, List.getElem_cons_zero, Act.put, List.setIfInBounds_toArray, List.set_cons_zero, List.set_cons_succ]
      refine wpAnyH_take (i := 20) (v := ?v21) rfl (by kernel_rfl) (by kernel_rfl) (by kernel_rfl) (fun _ _ _ h => h) (Or.inl ⟨by rfl, ?y21⟩) (by assumption) ?r21
      case y21 => (intro w hSw; (try dsimp only at hSw); go_simp; try (with_reducible rfl))
      simp only [List.getElem_toArray, List.getElem_cons_succ, List.getElem_cons_zero, Act.put, List.setIfInBounds_toArray, List.set_cons_zero, List.set_cons_succ]
      refine wpAnyH_take (i := 21) (v := ?v22) rfl (by kernel_rfl) (by kernel_rfl) (by kernel_rfl) (fun _ _ _ h => h) (Or.inl ⟨by rfl, ?y22⟩) (by assumption) ?r22
      case y22 => (intro w hSw; (try dsimp only at hSw); go_simp; try (with_reducible rfl))
      simp only [List.getElem_toArray, List.getElem_cons_succ, List.getElem_cons_zero, Act.put, List.setIfInBounds_toArray, List.set_cons_zero, List.set_cons_succ]
      refine wpAnyH_take (i := 22) (v := ?v23) rfl (by kernel_rfl) (by kernel_rfl) (by kernel_rfl) (fun _ _ _ h => h) (Or.inl ⟨by rfl, ?y23⟩) (by assumption) ?r23
      case y23 => (intro w hSw; (try dsimp only at hSw); go_simp; try (with_reducible rfl))
      simp only [List.getElem_toArray, List.getElem_cons_succ, List.getElem_cons_zero, Act.put, List.setIfInBounds_toArray, List.set_cons_zero, List.set_cons_succ]
      refine wpAnyH_take (i := 23) (v := ?v24) rfl (by kernel_rfl) (by kernel_rfl) (by kernel_rfl) (fun _ _ _ h => h) (Or.inl ⟨by rfl, ?y24⟩) (by assumption) ?r24
      case y24 => (intro w hSw; (try dsimp only at hSw); go_simp; try (with_reducible rfl))
      simp only [List.getElem_toArray, List.getElem_cons_succ, List.getElem_cons_zero, Act.put, List.setIfInBounds_toArray, List.set_cons_zero, List.set_cons_succ]
      refine wpAnyH_take (i := 24) (v := ?v25) rfl (by kernel_rfl) (by kernel_rfl) (by kernel_rfl) (fun _ _ _ h => h) (Or.inl ⟨by rfl, ?y25⟩) (by assumption) ?r25
      case y25 => (intro w hSw; (try dsimp only at hSw); go_simp; try (with_reducible rfl))
      simp only [List.getElem_toArray, List.getElem_cons_succ, List.getElem_cons_zero, Act.put, List.setIfInBounds_toArray, List.set_cons_zero, List.set_cons_succ]
      refine wpAnyH_take (i := 25) (v := ?v26) rfl (by kernel_rfl) (by kernel_rfl) (by kernel_rfl) (fun _ _ _ h => h) (Or.inl ⟨by rfl, ?y26⟩) (by assumption) ?r26
      case y26 => (intro w hSw; (try dsimp only at hSw); go_simp; try (with_reducible rfl))
      simp only [List.getElem_toArray, List.getElem_cons_succ, List.getElem_cons_zero, Act.put, List.setIfInBounds_toArray, List.set_cons_zero, List.set_cons_succ]
      refine wpAnyH_take (i := 26) (v := ?v27) rfl (by kernel_rfl) (by kernel_rfl) (by kernel_rfl) (fun _ _ _ h => h) (Or.inl ⟨by rfl, ?y27⟩) (by assumption) ?r27
      case y27 => (intro w hSw; (try dsimp only at hSw); go_simp; try (with_reducible rfl))
      simp only [List.getElem_toArray, List.getElem_cons_succ, List.getElem_cons_zero, Act.put, List.setIfInBounds_toArray, List.set_cons_zero, List.set_cons_succ]
      refine wpAnyH_take (i := 27) (v := ?v28) rfl (by kernel_rfl) (by kernel_rfl) (by kernel_rfl) (fun _ _ _ h => h) (Or.inl ⟨by rfl, ?y28⟩) (by assumption) ?r28
      case y28 => (intro w hSw; (try dsimp only at hSw); go_simp; try (with_reducible rfl))
      simp only [List.getElem_toArray, List.getElem_cons_succ, List.getElem_cons_zero, Act.put, List.setIfInBounds_toArray, List.set_cons_zero, List.set_cons_succ]
      refine wpAnyH_take (i := 28) (v := ?v29) rfl (by kernel_rfl) (by kernel_rfl) (by kernel_rfl) (fun _ _ _ h => h) (Or.inl ⟨by rfl, ?y29⟩) (by assumption) ?r29
      case y29 => (intro w hSw; (try dsimp only at hSw); go_simp; try (with_reducible rfl))
      simp only [List.getElem_toArray, List.getElem_cons_succ, List.getElem_cons_zero, Act.put, List.setIfInBounds_toArray, List.set_cons_zero, List.set_cons_succ]
      refine wpAnyH_take (i := 29) (v := ?v30) rfl (by kernel_rfl) (by kernel_rfl) (by kernel_rfl) (fun _ _ _ h => h) (Or.inl ⟨by rfl, ?y30⟩) (by assumption) ?r30
      case y30 => (intro w hSw; (try dsimp only at hSw); go_simp; try (with_reducible rfl))
      simp only [List.getElem_toArray, List.getElem_cons_succ, List.getElem_cons_zero, Act.put, List.setIfInBounds_toArray, List.set_cons_zero, List.set_cons_succ]
      refine wpAnyH_take (i := 30) (v := ?v31) rfl (by kernel_rfl) (by kernel_rfl) (by kernel_rfl) (fun _ _ _ h => h) (Or.inl ⟨by rfl, ?y31⟩) (by assumption) ?r31
      case y31 => (intro w hSw; (try dsimp only at hSw); go_simp; try (with_reducible rfl))
      simp only [List.getElem_toArray, List.getElem_cons_succ, List.getElem_cons_zero, Act.put, List.setIfInBounds_toArray, List.set_cons_zero, List.set_cons_succ]
      refine wpAnyH_take (i := 31) (v := ?v32) rfl (by kernel_rfl) (by kernel_rfl) (by kernel_rfl) (fun _ _ _ h => h) (Or.inl ⟨by rfl, ?y32⟩) (by assumption) ?r32
      case y32 => (intro w hSw; (try dsimp only at hSw); go_simp; try (with_reducible rfl))
      simp only [List.getElem_toArray, List.getElem_cons_succ, List.getElem_cons_zero, Act.put, List.setIfInBounds_toArray, List.set_cons_zero, List.set_cons_succ]
      refine wpAnyH_take (i := 32) (v := ?v33) rfl (by kernel_rfl) (by kernel_rfl) (by kernel_rfl) (fun _ _ _ h => h) (Or.inl ⟨by rfl, ?y33⟩) (by assumption) ?r33
      case y33 => (intro w hSw; (try dsimp only at hSw); go_simp; try (with_reducible rfl))
      simp only [List.getElem_toArray, List.getElem_cons_succ, List.getElem_cons_zero, Act.put, List.setIfInBounds_toArray, List.set_cons_zero, List.set_cons_succ]
      refine wpAnyH_take (i := 33) (v := ?v34) rfl (by kernel_rfl) (by kernel_rfl) (by kernel_rfl) (fun _ _ _ h => h) (Or.inl ⟨by rfl, ?y34⟩) (by assumption) ?r34
      case y34 => (intro w hSw; (try dsimp only at hSw); go_simp; try (with_reducible rfl))
      simp only [List.getElem_toArray, List.getElem_cons_succ, List.getElem_cons_zero, Act.put, List.setIfInBounds_toArray, List.set_cons_zero, List.set_cons_succ]
      refine wpAnyH_take (i := 34) (v := ?v35) rfl (by kernel_rfl) (by kernel_rfl) (by kernel_rfl) (fun _ _ _ h => h) (Or.inl ⟨by rfl, ?y35⟩) (by assumption) ?r35
      case y35 => (intro w hSw; (try dsimp only at hSw); go_simp; try (with_reducible rfl))
      simp only [List.getElem_toArray, List.getElem_cons_succ, List.getElem_cons_zero, Act.put, List.setIfInBounds_toArray, List.set_cons_zero, List.set_cons_succ]
      refine wpAnyH_take (i := 35) (v := ?v36) rfl (by kernel_rfl) (by kernel_rfl) (by kernel_rfl) (fun _ _ _ h => h) (Or.inl ⟨by rfl, ?y36⟩) (by assumption) ?r36
      case y36 => (intro w hSw; (try dsimp only at hSw); go_simp; try (with_reducible rfl))
      simp only [List.getElem_toArray, List.getElem_cons_succ, List.getElem_cons_zero, Act.put, List.setIfInBounds_toArray, List.set_cons_zero, List.set_cons_succ]
      refine wpAnyH_take (i := 36) (v := ?v37) rfl (by kernel_rfl) (by kernel_rfl) (by kernel_rfl) (fun _ _ _ h => h) (Or.inl ⟨by rfl, ?y37⟩) (by assumption) ?r37
      case y37 => (intro w hSw; (try dsimp only at hSw); go_simp; try (with_reducible rfl))
      simp only [List.getElem_toArray, List.getElem_cons_succ, List.getElem_cons_zero, Act.put, List.setIfInBounds_toArray, List.set_cons_zero, List.set_cons_succ]
      refine wpAnyH_take (i := 37) (v := ?v38) rfl (by kernel_rfl) (by kernel_rfl) (by kernel_rfl) (fun _ _ _ h => h) (Or.inl ⟨by rfl, ?y38⟩) (by assumption) ?r38
      case y38 => (intro w hSw; (try dsimp only at hSw); go_simp; try (with_reducible rfl))
      simp only [List.getElem_toArray, List.getElem_cons_succ, List.getElem_cons_zero, Act.put, List.setIfInBounds_toArray, List.set_cons_zero, List.set_cons_succ]
      refine wpAnyH_take (i := 38) (v := ?v39) rfl (by kernel_rfl) (by kernel_rfl) (by kernel_rfl) (fun _ _ _ h => h) (Or.inl ⟨by rfl, ?y39⟩) (by assumption) ?r39
      case y39 => (intro w hSw; (try dsimp only at hSw); go_simp; try (with_reducible rfl))
      simp only [List.getElem_toArray, List.getElem_cons_succ, List.getElem_cons_zero, Act.put, List.setIfInBounds_toArray, List.set_cons_zero, List.set_cons_succ]
      refine wpAnyH_take (i := 39) (v := ?v40) rfl (by kernel_rfl) (by kernel_rfl) (by kernel_rfl) (fun _ _ _ h => h) (Or.inl ⟨by rfl, ?y40⟩) (by assumption) ?r40
      case y40 => (intro w hSw; (try dsimp only at hSw); go_simp; try (with_reducible rfl))
      simp only [List.getElem_toArray, List.getElem_cons_succ, List.getElem_cons_zero, Act.put, List.setIfInBounds_toArray, List.set_cons_zero, List.set_cons_succ]
      refine wpAnyH_take (i := 40) (v := ?v41) rfl (by kernel_rfl) (by kernel_rfl) (by kernel_rfl) (fun _ _ _ h => h) (Or.inl ⟨by rfl, ?y41⟩) (by assumption) ?r41
      case y41 => (intro w hSw; (try dsimp only at hSw); go_simp; try (with_reducible rfl))
      simp only [List.getElem_toArray, List.getElem_cons_succ, List.getElem_cons_zero, Act.put, List.setIfInBounds_toArray, List.set_cons_zero, List.set_cons_succ]
      refine wpAnyH_ready (rs := [41]) (by kernel_rfl) (by simp) ?_
      refine AllReadyH.cons rfl (fun K hK => ?_) AllReadyH.nil
      simp only [List.getElem_toArray, List.getElem_cons_succ, List.getElem_cons_zero]
      go_simp
      go_at_call 28
      refine (C.out _ hHeld.2).mono ?_
      rintro e w1 ⟨rfl, hb⟩
      dsimp only
      refine hK.out _ _ ?_ (fun hHeld => ?_)
      · exact keep8P hHeld hb (Nat.le_refl _)
      clear hK K
      try simp only [Act.put, List.setIfInBounds_toArray, List.set_cons_zero, List.set_cons_succ]
      refine wpAnyH_take (i := 42) (v := ?v42) rfl (by kernel_rfl) (by kernel_rfl) (by kernel_rfl) (fun _ _ _ h => h) (Or.inl ⟨by rfl, ?y42⟩) (by assumption) ?r42
      case y42 => (intro w hSw; (try dsimp only at hSw); go_simp; try (with_reducible rfl))
      simp only [List.getElem_toArray, List.getElem_cons_succ, List.getElem_cons_zero, Act.put, List.setIfInBounds_toArray, List.set_cons_zero, List.set_cons_succ]
      refine wpAnyH_take (i := 43) (v := ?v43) rfl (by kernel_rfl) (by kernel_rfl) (by kernel_rfl) (fun _ _ _ h => h) (Or.inl ⟨by rfl, ?y43⟩) (by assumption) ?r43
      case y43 => (intro w hSw; (try dsimp only at hSw); go_simp; try (with_reducible rfl))
      simp only [List.getElem_toArray, List.getElem_cons_succ, List.getElem_cons_zero, Act.put, List.setIfInBounds_toArray, List.set_cons_zero, List.set_cons_succ]
      refine wpAnyH_done (by kernel_rfl) ?_ _
      have B1 := hide (hbel.trans (hHeld.2.mono hbel.size))
      have d3 := hHeld.1.1
      have d4 := hHeld.1.2.1
      clear hHeld d1 d2 g0 g1 g2 g3 g4 g5
      go_wp2
      go_roundw
      case rel => exact ⟨k + 1, by omega, by go_num, d3, d4, B1.out⟩
      case measure => simp [intOf]; omega
    · have hltI : ¬ (k : Int) < (n : Int) := by omega
      go_wp2
      go_ret
      exact ⟨rfl, hbel⟩
end Go.Proofs.YtbcljhafdpnjbabDoor.L6

namespace Go.Proofs.YtbcljhafdpnjbabDoor.L6
open Go.RowKit L1
set_option linter.unusedVariables false

theorem run_copy_k (P : Program) (w : World) (dT sT ty elem : TypeId) (g o dLen dCap k : Nat) (a : Addr) (sLen sCap m : Nat) (cur : Array Value) (t : TypeId) (cs : List Value)
    (hu : P.underlying dT = some (.slice elem)) (hs : (P.info? elem).map (·.size) = some k)
    (hg : w.heap[g]? = some (.cells cur t (0, 0))) (hm : m = Nat.min sLen dLen) (hn : cs.length = m * k)
    (hsrc : ∀ j v, cs[j]? = some v → w.cell? (a.add j) = some v) (hfit : o + cs.length ≤ cur.size) (h1 : ∀ v ∈ cs, v.oneCell' = true) :
    (Builtin.copy_ #[dT, sT] ty #[.slice (some ⟨g, o, none⟩) dLen dCap, .slice (some a) sLen sCap]).run P w =
      .ok (goInt m) (w.setRow g (cur.toList.take o ++ cs ++ cur.toList.drop (o + cs.length)).toArray) := by
  have hl := run_loadCells_list (P := P) w a cs hsrc
  have hst := run_storeCells_at P g o t cs 0 cur w hg (by simpa using hfit) h1
  rw [hn] at hl
  cases hq : P.info? elem with
  | none => simp [hq] at hs
  | some i =>
    have hi : i.size = k := by simpa [hq] using hs
    simp [Builtin.copy_, run_underlying hu, Builtin.lenOf, Builtin.firstCells, sizeOf, typeInfo, hq, hi, ← hm, hl, hst]
/-- The same, the whole row written over: what is owned behind it. -/
theorem run_copy_all (P : Program) (w : World) (dT sT ty elem : TypeId) (k : Nat) (hu : P.underlying dT = some (.slice elem)) (hsz : (P.info? elem).map (·.size) = some k)
    (base g n : Nat) (ad : Addr) (sCap : Nat) (xs : List Value) (hown : w.ownsRow base elem k (.slice (some ⟨g, 0, none⟩) n n) n xs) (cs : List Value) (hn : cs.length = n * k)
    (hsrc : ∀ j v, cs[j]? = some v → w.cell? (ad.add j) = some v) (h1 : ∀ v ∈ cs, v.oneCell' = true) :
    ∃ w', (Builtin.copy_ #[dT, sT] ty #[.slice (some ⟨g, 0, none⟩) n n, .slice (some ad) n sCap]).run P w = .ok (goInt n) w' ∧ w'.ownsRow base elem k (.slice (some ⟨g, 0, none⟩) n n) n cs ∧ w.grownBy w' (some g) := by
  obtain ⟨hl, h2⟩ := hown
  rcases h2 with ⟨hv, _⟩ | ⟨g', cap', cur, hv, hbg, hg, hc1, hc2, hc3, hc4⟩
  · cases hv
  · simp at hv
    obtain ⟨rfl, rfl⟩ := hv
    have hcs : cur.size = cs.length := by rw [hc3, hn]
    have hdrop : cur.toList.drop (0 + cs.length) = [] := List.drop_eq_nil_of_le (by simp; omega)
    refine ⟨_, run_copy_k P w dT sT ty elem g 0 n n k ad n sCap n cur elem cs hu hsz hg (by simp) hn hsrc (by omega) h1, ⟨hn, .inr ⟨g, n, _, rfl, hbg, setRow_heap w g cur _ elem _ hg, Nat.le_refl _, hc2, ?_, ?_⟩⟩, ⟨rfl, rfl, rfl, by simp [World.setRow], fun q hq hne => setRow_other w g q _ (fun e => hne (by rw [e]))⟩⟩
    · rw [hdrop]
      simp
      exact hn
    · rw [hdrop]
      simp
      first
        | exact Nat.le_of_eq hn
        | exact List.take_of_length_le (Nat.le_of_eq hn)
theorem app_none (t ty : TypeId) (ht : Tryd.prog.underlying t = some (.slice 3)) (base ax : Option Addr) (n cap c : Nat) (h : n ≤ cap) (w : World) :
    (Builtin.append_ #[t, t] ty #[.slice base n cap, .slice ax 0 c]).run Tryd.prog w = .ok (.slice base n cap) w := by
  obtain ⟨i1, hi1, _, _, _⟩ := info_parts info_int
  refine run_append_nothing w t t ty 3 i1 ht hi1 base n cap h _ ?_
  cases ax with
  | none => exact Src.ofNil _ ht c
  | some x => exact Src.ofSlice _ ht x 0 c [] (by simp) (fun j u hu => by simp at hu) (fun u hu => by simp at hu)
theorem sl_cells6 {w : World} {b off : Nat} {xs : List Int} (h : Sl w (some ⟨b, off, none⟩) xs) : ∀ j u, (xs.map (Value.int .i64))[j]? = some u → w.cell? ((⟨b, off, none⟩ : Addr).add j) = some u := fun j u hu => by
  have hj : j < xs.length := by
    by_cases hj : j < xs.length
    · exact hj
    · rw [List.getElem?_eq_none (by simp; omega)] at hu; cases hu
  rw [add_at6, h.at j hj]
  rw [List.getElem?_map, List.getElem?_eq_getElem hj] at hu
  simp at hu
  rw [← hu]
  simp [List.getD, List.getElem?_eq_getElem hj]
/-- 'append' of a list behind an empty one that is the call's own: a copy in new memory. -/
theorem wpList_append_copy {ops : Array Oper} {rest : List Oper} {o : Oper} {a : Act} {Q : Exit → Act → World → Prop} {w : World} (hgd : o.guard = none) (s x : Operand)
    (ho : o.op = .call { callee := .builtin .append, args := #[s, x], argTypes := #[48, 48] })
    (base : Nat) (ad ax : Option Addr) (cd n c : Nat) (xs : List Int) (hxs : xs.length = n) (hn2 : n ≤ 1048576) (hs : a.eval s = .slice ad 0 cd) (hown : w.ownsRow base 3 1 (.slice ad 0 cd) 0 []) (hx : a.eval x = .slice ax n c) (hsl : Sl w ax xs) (hbase : base ≤ w.heap.size)
    (h : ∀ a' c' w', w'.ownsRow base 3 1 (.slice a' n c') n (xs.map (Value.int .i64)) → w.grownBy w' (Value.slice ad 0 cd).ownBlock → ((Value.slice a' n c').ownBlock = (Value.slice ad 0 cd).ownBlock ∨ (Value.slice a' n c').ownBlock = some w.heap.size) → wpList Tryd.prog ops Q rest (a.put o.dst (.slice a' n c')) w') : wpList Tryd.prog ops Q (o :: rest) a w := by
  by_cases h0 : n = 0
  · subst h0
    have hx0 : xs = [] := List.eq_nil_of_length_eq_zero hxs
    subst hx0
    refine wpList_plain hgd fun K hK => ?_
    unfold Oper.wp execOp
    simp only [ho, resolve, invoke, builtin, Sem.run_bind, Sem.run_pure, Result.andThen_ok, List.map_toArray, List.map_cons, List.map_nil, hs, hx, app_none 48 o.type Tryd.underlying48 ad ax 0 cd c (Nat.zero_le _) w]
    exact hK _ _ (h ad cd w hown (World.grownBy.refl _ _) (.inl rfl))
  · obtain ⟨i0, hi, hz0, hz1, hz2⟩ := info_parts info_int
    obtain ⟨b, off, rfl, _⟩ := hsl 0 (by omega)
    refine wpList_append_own_at w hgd s x 48 ho base 3 i0 (.int .i64 0) 1 8 Tryd.underlying48 hi hz0 hz1 hz2 rfl (by decide) (.slice ad 0 cd) 0 [] hs hown ⟨b, off, none⟩ n c (xs.map (Value.int .i64)) hx (by simp; omega) (sl_cells6 hsl) (by intro u hu; obtain ⟨y, _, rfl⟩ := List.mem_map.1 hu; rfl) (by unfold maxLen; omega) (by omega) hbase ?_
    intro v' w' h1 h2 _ h4
    rw [Nat.zero_add, List.nil_append] at h1
    obtain ⟨a', c', rfl, _, _⟩ := own_form h1
    exact h a' c' w' h1 h2 h4
end Go.Proofs.YtbcljhafdpnjbabDoor.L6
