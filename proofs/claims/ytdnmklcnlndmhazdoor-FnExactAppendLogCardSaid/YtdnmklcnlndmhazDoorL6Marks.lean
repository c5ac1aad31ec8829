/-
  Contracts of the laws' own helpers: laws.markPieceS and laws.markLog write into a log that lies in memory of its own, and into nothing else; laws.heldPieceS and laws.heldLog find it there.
-/
import Derived.Test.YtdnmklcnlndmhazDoorL6Eq
import Derived.Test.YtdnmklcnlndmhazDoorL6Grown
import Derived.Test.YtdnmklcnlndmhazDoorL4IntMarks
import Derived.Test.YtdnmklcnlndmhazDoorL3MarkText
namespace Go.Proofs.YtdnmklcnlndmhazDoor.L6
open Go.RowKit L1
set_option linter.unusedVariables false

/-- The number that a piece's marks begin with. -/
def kat (L : List Pc) : Nat → Int
  | 0 => 1
  | i + 1 => kat L i + 2 + ((gc L i).x.length : Int)
/-- The marks of pieces. -/
def mkp (L : List Pc) (i : Nat) : Pc := ⟨kat L i, L3.mkT (kat L i + 1), L4.mkC (kat L i + 2) (gc L i).x.length⟩
def mks (L : List Pc) : List Pc := (List.range L.length).map (mkp L)
theorem mks_len (L : List Pc) : (mks L).length = L.length := by simp [mks]
theorem mks_get (L : List Pc) (i : Nat) (h : i < L.length) : gc (mks L) i = mkp L i := by simp [gc, mks, List.getD, h]
theorem kat_pos (L : List Pc) : ∀ i, 1 ≤ kat L i
  | 0 => Int.le_refl _
  | i + 1 => by have := kat_pos L i; unfold kat; omega
theorem kat_le (L : List Pc) (n : Nat) (X : Nat) (h : ∀ i, i < n → (gc L i).x.length ≤ X) : ∀ i, i ≤ n → kat L i ≤ 1 + (i : Int) * (2 + (X : Int))
  | 0, _ => by simp [kat]
  | i + 1, hi => by
    have h1 := kat_le L n X h i (by omega)
    have h2 := h i (by omega)
    unfold kat
    have e : ((i + 1 : Nat) : Int) * (2 + (X : Int)) = (i : Int) * (2 + (X : Int)) + (2 + (X : Int)) := by
      rw [show ((i + 1 : Nat) : Int) = (i : Int) + 1 by omega, Int.add_mul, Int.one_mul]
    rw [e]
    omega
/-- Only blocks between two numbers, and new ones, are written into. -/
structure Only (lo hi : Nat) (w w' : World) : Prop where
  os : w'.os = w.os
  tape : w'.tape = w.tape
  output : w'.output = w.output
  size : w.heap.size ≤ w'.heap.size
  block : ∀ k, k < w.heap.size → (k < lo ∨ hi ≤ k) → w'.heap[k]? = w.heap[k]?
theorem Only.refl (lo hi : Nat) (w : World) : Only lo hi w w := ⟨rfl, rfl, rfl, Nat.le_refl _, fun _ _ _ => rfl⟩
theorem Only.cell {lo hi : Nat} {w w' : World} (h : Only lo hi w w') {p : Addr} {v : Value} (hc : w.cell? p = some v) (ho : p.block < lo ∨ hi ≤ p.block) : w'.cell? p = some v := by
  have := h.block p.block (blk_ltA hc) ho
  rw [← hc]
  simp only [World.cell?, this]
theorem Only.below {lo hi : Nat} {w w' : World} (h : Only lo hi w w') (hl : lo ≤ w.heap.size) : Below lo w w' := ⟨h.os, h.tape, h.output, h.size, fun k hk => h.block k (by omega) (.inl hk)⟩
theorem Only.grown {lo hi : Nat} {w w1 w2 : World} {r : Option Nat} (h : Only lo hi w w1) (hg : w1.grownBy w2 r) (hr : ∀ g, r = some g → lo ≤ g ∧ g < hi) : Only lo hi w w2 := by
  refine ⟨hg.os.trans h.os, hg.tape.trans h.tape, hg.output.trans h.output, Nat.le_trans h.size hg.size, fun k hk ho => (hg.block k (Nat.lt_of_lt_of_le hk h.size) (fun e => ?_)).trans (h.block k hk ho)⟩
  have := hr k e.symm
  omega
theorem Only.row {lo hi : Nat} {w w' : World} (h : Only lo hi w w') {base n c : Nat} {t : TypeId} {v : Value} {xs : List Value} (ho : w.ownsRow base t c v n xs) (hb : hi ≤ base) : w'.ownsRow base t c v n xs := by
  refine ⟨ho.1, ?_⟩
  rcases ho.2 with h0 | ⟨g, cap, cur, rfl, hbg, hg, r⟩
  · exact .inl h0
  · exact .inr ⟨g, cap, cur, rfl, hbg, by rw [h.block g (Array.getElem?_eq_some_iff.1 hg).1 (.inr (by omega))]; exact hg, r⟩
theorem Only.ow {lo hi : Nat} {w w' : World} (h : Only lo hi w w') {base n : Nat} {v : Value} {M : List PV} (ho : OwC w base v n M) (hb : hi ≤ base) : OwC w' base v n M :=
  ⟨ho.len, h.row ho.row hb, fun i hi => h.row (ho.idx i hi) hb, ho.apart⟩
/-- All blocks of a log lie below a number. -/
structure InC (hi : Nat) (v : Value) (n : Nat) (M : List PV) : Prop where
  row : ∀ g, v.ownBlock = some g → g < hi
  idx : ∀ i, i < n → ∀ g, (M.getD i eV).2.ownBlock = some g → g < hi
theorem OwC.inC {w : World} {base n : Nat} {v : Value} {M : List PV} (h : OwC w base v n M) : InC w.heap.size v n M :=
  ⟨fun g hg => (own_ltC h.row g hg).2, fun i hi g hg => (own_ltC (h.idx i hi) g hg).2⟩
/-- From and Bytes of a piece written over. -/
theorem OwC.setF {w : World} {base g n cap : Nat} {M : List PV} (h : OwC w base (.slice (some ⟨g, 0, none⟩) n cap) n M) (k : Nat) (hk : k < n) (f : Int) :
    OwC (w.setCell ⟨g, k * 3, none⟩ (.int .i64 f)) base (.slice (some ⟨g, 0, none⟩) n cap) n (M.set k (⟨f, (M.getD k eV).1.s, (M.getD k eV).1.x⟩, (M.getD k eV).2)) ∧ w.grownBy (w.setCell ⟨g, k * 3, none⟩ (.int .i64 f)) (some g) := by
  have h1 := h.row.stored (k * 3) (.int .i64 f)
  have hl := h.len
  have hfl : (flatC M).length = n * 3 := by rw [flatC_len, hl]
  have keep : ∀ {c m : Nat} {u : Value} {ys : List Value}, w.ownsRow base 3 c u m ys → (w.setCell ⟨g, k * 3, none⟩ (.int .i64 f)).ownsRow base 3 c u m ys := fun hu =>
    own_keptC hu h1.2 (fun b hb e => by
      simp at e
      subst e
      exact own_two h.row hu int_piece g rfl hb)
  refine ⟨⟨by simpa using hl, ?_, fun i hi => ?_, fun i j hij hj => ?_⟩, h1.2⟩
  · obtain ⟨f1, f2, f3⟩ := flatC_get M k (by omega)
    rw [flatC_set]
    unfold L6.setC
    simp only
    have e2 : ((flatC M).set (k * 3) (.int .i64 f)).set (k * 3 + 1) (.string (M.getD k eV).1.s) = (flatC M).set (k * 3) (.int .i64 f) := by
      apply List.ext_getElem?
      intro j
      by_cases e : j = k * 3 + 1
      · subst e
        rw [List.getElem?_set_self (by simp; omega), List.getElem?_set_ne (by omega), f2]
      · rw [List.getElem?_set_ne (by omega)]
    have e3 : ((flatC M).set (k * 3) (.int .i64 f)).set (k * 3 + 2) (M.getD k eV).2 = (flatC M).set (k * 3) (.int .i64 f) := by
      apply List.ext_getElem?
      intro j
      by_cases e : j = k * 3 + 2
      · subst e
        rw [List.getElem?_set_self (by simp; omega), List.getElem?_set_ne (by omega), f3]
      · rw [List.getElem?_set_ne (by omega)]
    rw [e2, e3]
    exact h1.1
  · by_cases e : i = k
    · subst e
      rw [getD_set_self M i _ (by omega)]
      exact keep (h.idx i hi)
    · rw [getD_set_ne M k i _ e]
      exact keep (h.idx i hi)
  · intro b
    have q : ∀ t, t < n → ((M.set k (⟨f, (M.getD k eV).1.s, (M.getD k eV).1.x⟩, (M.getD k eV).2)).getD t eV).2 = (M.getD t eV).2 := fun t ht => by
      by_cases e : t = k
      · subst e; rw [getD_set_self M t _ (by omega)]
      · rw [getD_set_ne M k t _ e]
    rw [q i (by omega), q j hj]
    exact h.apart i j hij hj b
theorem OwC.setS {w : World} {base g n cap : Nat} {M : List PV} (h : OwC w base (.slice (some ⟨g, 0, none⟩) n cap) n M) (k : Nat) (hk : k < n) (s : ByteArray) :
    OwC (w.setCell ⟨g, k * 3 + 1, none⟩ (.string s)) base (.slice (some ⟨g, 0, none⟩) n cap) n (M.set k (⟨(M.getD k eV).1.f, s, (M.getD k eV).1.x⟩, (M.getD k eV).2)) ∧ w.grownBy (w.setCell ⟨g, k * 3 + 1, none⟩ (.string s)) (some g) := by
  have h1 := h.row.stored (k * 3 + 1) (.string s)
  have hl := h.len
  have hfl : (flatC M).length = n * 3 := by rw [flatC_len, hl]
  have keep : ∀ {c m : Nat} {u : Value} {ys : List Value}, w.ownsRow base 3 c u m ys → (w.setCell ⟨g, k * 3 + 1, none⟩ (.string s)).ownsRow base 3 c u m ys := fun hu =>
    own_keptC hu h1.2 (fun b hb e => by
      simp at e
      subst e
      exact own_two h.row hu int_piece g rfl hb)
  refine ⟨⟨by simpa using hl, ?_, fun i hi => ?_, fun i j hij hj => ?_⟩, h1.2⟩
  · obtain ⟨f1, f2, f3⟩ := flatC_get M k (by omega)
    rw [flatC_set]
    unfold L6.setC
    simp only
    have e1 : (flatC M).set (k * 3) (.int .i64 (M.getD k eV).1.f) = flatC M := by
      apply List.ext_getElem?
      intro j
      by_cases e : j = k * 3
      · subst e
        rw [List.getElem?_set_self (by omega), f1]
      · rw [List.getElem?_set_ne (by omega)]
    have e3 : ((flatC M).set (k * 3 + 1) (.string s)).set (k * 3 + 2) (M.getD k eV).2 = (flatC M).set (k * 3 + 1) (.string s) := by
      apply List.ext_getElem?
      intro j
      by_cases e : j = k * 3 + 2
      · subst e
        rw [List.getElem?_set_self (by simp; omega), List.getElem?_set_ne (by omega), f3]
      · rw [List.getElem?_set_ne (by omega)]
    rw [e1, e3]
    exact h1.1
  · by_cases e : i = k
    · subst e
      rw [getD_set_self M i _ (by omega)]
      exact keep (h.idx i hi)
    · rw [getD_set_ne M k i _ e]
      exact keep (h.idx i hi)
  · intro b
    have q : ∀ t, t < n → ((M.set k (⟨(M.getD k eV).1.f, s, (M.getD k eV).1.x⟩, (M.getD k eV).2)).getD t eV).2 = (M.getD t eV).2 := fun t ht => by
      by_cases e : t = k
      · subst e; rw [getD_set_self M t _ (by omega)]
      · rw [getD_set_ne M k t _ e]
    rw [q i (by omega), q j hj]
    exact h.apart i j hij hj b
/-- An Index written over. -/
theorem OwC.setX {w w' : World} {base n : Nat} {v : Value} {M : List PV} (h : OwC w base v n M) (k : Nat) (hk : k < n) (xs : List Int) (hx : w'.ownsRow base 3 1 (M.getD k eV).2 xs.length (xs.map (Value.int .i64))) (hg : w.grownBy w' (M.getD k eV).2.ownBlock) :
    OwC w' base v n (M.set k (⟨(M.getD k eV).1.f, (M.getD k eV).1.s, xs⟩, (M.getD k eV).2)) := by
  have hl := h.len
  obtain ⟨f1, f2, f3⟩ := flatC_get M k (by omega)
  have q : ∀ t, t < n → ((M.set k (⟨(M.getD k eV).1.f, (M.getD k eV).1.s, xs⟩, (M.getD k eV).2)).getD t eV).2 = (M.getD t eV).2 := fun t ht => by
    by_cases e : t = k
    · subst e; rw [getD_set_self M t _ (by omega)]
    · rw [getD_set_ne M k t _ e]
  refine ⟨by simpa using hl, ?_, fun i hi => ?_, fun i j hij hj => ?_⟩
  · have e0 : flatC (M.set k (⟨(M.getD k eV).1.f, (M.getD k eV).1.s, xs⟩, (M.getD k eV).2)) = flatC M := by
      have hfl : (flatC M).length = n * 3 := by rw [flatC_len, hl]
      rw [flatC_set]
      unfold L6.setC
      apply List.ext_getElem?
      intro j
      by_cases e2 : j = k * 3 + 2
      · subst e2
        rw [List.getElem?_set_self (by simp; omega), f3]
      · rw [List.getElem?_set_ne (by omega)]
        by_cases e1 : j = k * 3 + 1
        · subst e1
          rw [List.getElem?_set_self (by simp; omega), f2]
        · rw [List.getElem?_set_ne (by omega)]
          by_cases e : j = k * 3
          · subst e
            rw [List.getElem?_set_self (by omega), f1]
          · rw [List.getElem?_set_ne (by omega)]
    rw [e0]
    exact own_keptC h.row hg (fun b hb e => own_two h.row (h.idx k hk) int_piece b hb e)
  · by_cases e : i = k
    · subst e
      rw [getD_set_self M i _ (by omega)]
      exact hx
    · rw [getD_set_ne M k i _ e]
      refine own_keptC (h.idx i hi) hg (fun b hb e2 => ?_)
      by_cases hlt : i < k
      · exact h.apart i k hlt hk b hb e2
      · exact h.apart k i (by omega) hi b e2 hb
  · intro b
    rw [q i (by omega), q j hj]
    exact h.apart i j hij hj b
end Go.Proofs.YtdnmklcnlndmhazDoor.L6
