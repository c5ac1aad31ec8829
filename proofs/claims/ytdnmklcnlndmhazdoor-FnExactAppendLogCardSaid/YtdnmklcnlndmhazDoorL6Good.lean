/-
  What is good of a log; all its records, and the one at an offset.
-/
import Derived.Test.YtdnmklcnlndmhazDoorL6Pc
namespace Go.Proofs.YtdnmklcnlndmhazDoor.L6
open Go.RowKit L1
set_option linter.unusedVariables false

theorem wrap6 {z : Int} (h1 : -9223372036854775808 ≤ z) (h2 : z ≤ 9223372036854775807) : IntKind.i64.wrap z = z := by
  simp only [IntKind.wrap, IntKind.bits, IntKind.signed]
  simp
  omega
def GoodP (p : Pc) : Prop := p.s.size ≤ 60 ∧ wh p.s = p.s.size ∧ p.x = ix p.s
abbrev gc (L : List Pc) (i : Nat) : Pc := L.getD i eC
/-- The offset at which a piece is to begin. -/
def atg (L : List Pc) : Nat → Int
  | 0 => (gc L 0).f
  | i + 1 => atg L i + (cnt (gc L i).s : Int)
/-- What a piece at a place of the log is. -/
def OkC (L : List Pc) (i : Nat) : Prop := GoodP (gc L i) ∧ (gc L i).f = atg L i ∧ (i + 1 < L.length → cnt (gc L i).s ≠ 0)
def GoodPs (L : List Pc) : Prop := ∀ i, i < L.length → OkC L i
structure GoodG (L : List Pc) (B : Int) : Prop where
  one : 1 ≤ L.length
  many : L.length ≤ 20
  f0 : 0 ≤ (gc L 0).f
  f1 : (gc L 0).f ≤ 100000
  ps : GoodPs L
  b0 : (gc L 0).f ≤ B
  b1 : B ≤ (gc L 0).f + (cnt (gc L 0).s : Int)
  few : atg L L.length - (gc L 0).f ≤ 60
theorem good_empty {p : Pc} (h : GoodP p) : cnt p.s = 0 ↔ p.s.size = 0 := by
  constructor
  · intro h0
    have := h.2.1
    unfold wh at this
    rw [h0] at this
    exact this.symm
  · intro h0
    have := cnt_le p.s
    omega
theorem good_cnt {p : Pc} (h : GoodP p) : cnt p.s ≤ 60 := Nat.le_trans (cnt_le p.s) h.1
theorem atg_bd (L : List Pc) : ∀ i, (∀ j, j < i → GoodP (gc L j)) → (gc L 0).f ≤ atg L i ∧ atg L i ≤ (gc L 0).f + 60 * (i : Int)
  | 0, _ => by unfold atg; omega
  | i + 1, h => by
    have h1 := atg_bd L i (fun j hj => h j (by omega))
    have h2 := good_cnt (h i (by omega))
    unfold atg
    omega
theorem atg_mono (L : List Pc) (i : Nat) : atg L i ≤ atg L (i + 1) := by
  show atg L i ≤ atg L i + _
  omega
theorem atg_mono2 (L : List Pc) {i j : Nat} (h : i ≤ j) : atg L i ≤ atg L j := by
  induction j with
  | zero => obtain rfl : i = 0 := by omega
            exact Int.le_refl _
  | succ j ih =>
    by_cases e : i = j + 1
    · subst e; exact Int.le_refl _
    · exact Int.le_trans (ih (by omega)) (atg_mono L j)
/-- The end of a log. -/
def endg (L : List Pc) : Int := atg L L.length
theorem end_last {L : List Pc} (h1 : 1 ≤ L.length) (h : GoodPs L) : endg L = (gc L (L.length - 1)).f + (cnt (gc L (L.length - 1)).s : Int) := by
  unfold endg
  obtain ⟨k, hk⟩ : ∃ k, L.length = k + 1 := ⟨L.length - 1, by omega⟩
  rw [hk]
  show atg L k + _ = _
  rw [show k + 1 - 1 = k from rfl, (h k (by omega)).2.1]
theorem GoodG.end0 {L : List Pc} {B : Int} (h : GoodG L B) : B ≤ endg L ∧ 0 ≤ B ∧ endg L ≤ 100060 ∧ B ≤ 100060 := by
  have h1 := h.few
  have h2 := h.b0
  have h3 := h.b1
  have h4 : atg L 1 ≤ atg L L.length := atg_mono2 L h.one
  have h5 : atg L 1 = (gc L 0).f + (cnt (gc L 0).s : Int) := rfl
  have h6 := h.f0
  have h7 := h.f1
  unfold endg
  omega
/-- A record's text. -/
def rtx (s : ByteArray) (a : Nat) : ByteArray :=
  match rc s a with
  | none => ByteArray.empty
  | some (c, n) => s.extract c (c + n)
theorem rtx_some {s : ByteArray} {a c n : Nat} (h : rc s a = some (c, n)) : rtx s a = s.extract c (c + n) := by unfold rtx; rw [h]
theorem rtx_size (s : ByteArray) (a : Nat) : (rtx s a).size ≤ 20 := by
  unfold rtx
  split
  · exact Nat.zero_le _
  · rename_i c n h
    have := rc_lt h
    simp
    omega
/-- The first records of a text. -/
def rk (s : ByteArray) (k : Nat) : List ByteArray := (List.range k).map fun j => rtx s (pl s 0 j)
theorem rk_succ (s : ByteArray) (k : Nat) : rk s (k + 1) = rk s k ++ [rtx s (pl s 0 k)] := by simp [rk, List.range_succ]
theorem rk_len (s : ByteArray) (k : Nat) : (rk s k).length = k := by simp [rk]
theorem rk_get (s : ByteArray) (k j : Nat) (h : j < k) : (rk s k).getD j ByteArray.empty = rtx s (pl s 0 j) := by simp [rk, List.getD, h]
/-- Of a text's first records those whose offset is at least Begin. -/
def fl (B f : Int) (s : ByteArray) : Nat → List ByteArray
  | 0 => []
  | k + 1 => if B ≤ f + (k : Int) then fl B f s k ++ [rtx s (pl s 0 k)] else fl B f s k
theorem fl_yes {B f : Int} {s : ByteArray} {k : Nat} (h : B ≤ f + (k : Int)) : fl B f s (k + 1) = fl B f s k ++ [rtx s (pl s 0 k)] := by simp [fl, h]
theorem fl_no {B f : Int} {s : ByteArray} {k : Nat} (h : ¬ B ≤ f + (k : Int)) : fl B f s (k + 1) = fl B f s k := by simp [fl, h]
theorem fl_len (B f : Int) (s : ByteArray) : ∀ k, (fl B f s k).length = k - (B - f).toNat
  | 0 => by simp [fl]
  | k + 1 => by
    have ih := fl_len B f s k
    by_cases h : B ≤ f + (k : Int)
    · rw [fl_yes h]; simp; omega
    · rw [fl_no h]; omega
theorem fl_get (B f : Int) (s : ByteArray) : ∀ k j, j < k - (B - f).toNat → (fl B f s k).getD j ByteArray.empty = rtx s (pl s 0 ((B - f).toNat + j))
  | 0, j, h => by omega
  | k + 1, j, h => by
    have hb : B ≤ f + (k : Int) := by omega
    have hl := fl_len B f s k
    rw [fl_yes hb]
    by_cases e : j < k - (B - f).toNat
    · have := fl_get B f s k j e
      simp only [List.getD, List.getElem?_append_left (show j < (fl B f s k).length by omega)]
      exact this
    · have e2 : j = (fl B f s k).length := by omega
      have e3 : (B - f).toNat + j = k := by omega
      rw [e3, e2]
      simp [List.getD]
theorem gd_left (l m : List ByteArray) (j : Nat) (h : j < l.length) : (l ++ m).getD j ByteArray.empty = l.getD j ByteArray.empty := by simp only [List.getD, List.getElem?_append_left h]
theorem gd_right (l m : List ByteArray) (j : Nat) (h : l.length ≤ j) : (l ++ m).getD j ByteArray.empty = m.getD (j - l.length) ByteArray.empty := by simp only [List.getD, List.getElem?_append_right h]
/-- The records from Begin on of the first pieces. -/
def alk (L : List Pc) (B : Int) : Nat → List ByteArray
  | 0 => []
  | i + 1 => alk L B i ++ fl B (gc L i).f (gc L i).s (cnt (gc L i).s)
abbrev allG (L : List Pc) (B : Int) : List ByteArray := alk L B L.length
theorem alk_len {L : List Pc} {B : Int} (h : GoodG L B) : ∀ i, i + 1 ≤ L.length → ((alk L B (i + 1)).length : Int) = atg L (i + 1) - B
  | 0, hi => by
    have h1 := h.b0
    have h2 := h.b1
    have h3 := fl_len B (gc L 0).f (gc L 0).s (cnt (gc L 0).s)
    show (([] ++ fl B (gc L 0).f (gc L 0).s (cnt (gc L 0).s)).length : Int) = (gc L 0).f + (cnt (gc L 0).s : Int) - B
    rw [List.nil_append, h3]
    omega
  | i + 1, hi => by
    have ih := alk_len h i (by omega)
    have h1 := (h.ps (i + 1) (by omega)).2.1
    have h2 : atg L 1 ≤ atg L (i + 1) := atg_mono2 L (by omega)
    have h3 := h.b1
    have h4 : atg L 1 = (gc L 0).f + (cnt (gc L 0).s : Int) := rfl
    have h5 := fl_len B (gc L (i + 1)).f (gc L (i + 1)).s (cnt (gc L (i + 1)).s)
    show ((alk L B (i + 1) ++ fl B (gc L (i + 1)).f (gc L (i + 1)).s (cnt (gc L (i + 1)).s)).length : Int) = atg L (i + 1) + (cnt (gc L (i + 1)).s : Int) - B
    rw [List.length_append]
    omega
theorem all_len {L : List Pc} {B : Int} (h : GoodG L B) : ((allG L B).length : Int) = endg L - B := by
  obtain ⟨k, hk⟩ : ∃ k, L.length = k + 1 := ⟨L.length - 1, by have := h.one; omega⟩
  have := alk_len h k (by omega)
  unfold allG endg
  rw [hk]
  exact this
/-- The record at an offset. -/
theorem alk_get {L : List Pc} {B o : Int} (h : GoodG L B) (hB : B ≤ o) (i : Nat) (hi : i < L.length) (h1 : atg L i ≤ o) (h2 : o < atg L (i + 1)) :
    ∀ m, i < m → m ≤ L.length → (alk L B m).getD (o - B).toNat ByteArray.empty = rtx (gc L i).s (pl (gc L i).s 0 (o - (gc L i).f).toNat)
  | 0, hm, _ => absurd hm (Nat.not_lt_zero _)
  | m + 1, hm, hl => by
    have hf := (h.ps i hi).2.1
    show (alk L B m ++ fl B (gc L m).f (gc L m).s (cnt (gc L m).s)).getD (o - B).toNat ByteArray.empty = _
    by_cases e : i < m
    · have ih := alk_get h hB i hi h1 h2 m e (by omega)
      obtain ⟨m', rfl⟩ : ∃ m', m = m' + 1 := ⟨m - 1, by omega⟩
      have hl2 := alk_len h m' (by omega)
      have h3 : atg L (i + 1) ≤ atg L (m' + 1) := atg_mono2 L (by omega)
      rw [gd_left _ _ _ (show (o - B).toNat < (alk L B (m' + 1)).length by omega)]
      exact ih
    · obtain rfl : i = m := by omega
      have hfl := fl_len B (gc L i).f (gc L i).s (cnt (gc L i).s)
      have h2' : o < atg L i + (cnt (gc L i).s : Int) := h2
      have hlen : ((alk L B i).length : Int) = if i = 0 then 0 else atg L i - B := by
        by_cases e0 : i = 0
        · subst e0; simp [alk]
        · obtain ⟨i', rfl⟩ : ∃ i', i = i' + 1 := ⟨i - 1, by omega⟩
          rw [if_neg (by omega)]
          exact alk_len h i' (by omega)
      have hge : (alk L B i).length ≤ (o - B).toNat := by
        split at hlen <;> omega
      rw [gd_right _ _ _ hge, fl_get B (gc L i).f (gc L i).s (cnt (gc L i).s) ((o - B).toNat - (alk L B i).length)]
      · congr 2
        by_cases e0 : i = 0
        · rw [if_pos e0] at hlen
          have hb0 := h.b0
          subst e0
          omega
        · rw [if_neg e0] at hlen
          have hb1 := h.b1
          have h3 : atg L 1 ≤ atg L i := atg_mono2 L (by omega)
          have h4 : atg L 1 = (gc L 0).f + (cnt (gc L 0).s : Int) := rfl
          omega
      · by_cases e0 : i = 0
        · rw [if_pos e0] at hlen
          have hb0 := h.b0
          have h4 : atg L 0 = (gc L 0).f := rfl
          subst e0
          omega
        · rw [if_neg e0] at hlen
          have hb1 := h.b1
          have h3 : atg L 1 ≤ atg L i := atg_mono2 L (by omega)
          have h4 : atg L 1 = (gc L 0).f + (cnt (gc L 0).s : Int) := rfl
          omega
end Go.Proofs.YtdnmklcnlndmhazDoor.L6
