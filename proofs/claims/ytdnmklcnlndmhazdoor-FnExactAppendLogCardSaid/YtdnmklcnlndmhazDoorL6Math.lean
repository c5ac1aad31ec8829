/-
  Records in a text, one behind the other: where they begin, how many there are, where the last one ends; what is left of this in a part of the text and in a longer one.
-/
import Derived.Test.YtdnmklcnlndmhazDoorL1Bytes
import Derived.Test.YtdnmklcnlndmhazDoorL1AllMath
import Derived.Test.YtdnmklcnlndmhazDoorL1LawMath
import Derived.Test.YtdnmklcnlndmhazDoorL1Cat
namespace Go.Proofs.YtdnmklcnlndmhazDoor.L6
open Go.RowKit L1
set_option linter.unusedVariables false

/-- The record that begins at a place: where its bytes begin, and how many they are. -/
def rc (s : ByteArray) (a : Nat) : Option (Nat × Nat) :=
  match gv (bts s a) with
  | none => none
  | some l => if 0 ≤ zag (val l) ∧ zag (val l) ≤ 20 ∧ zag (val l) ≤ (s.size : Int) - ((a + l.length : Nat) : Int) then some (a + l.length, (zag (val l)).toNat) else none
theorem rc_gv {s : ByteArray} {a c n : Nat} (h : rc s a = some (c, n)) : ∃ l, gv (bts s a) = some l ∧ zag (val l) = (n : Int) ∧ c = a + l.length ∧ n ≤ 20 ∧ c + n ≤ s.size := by
  unfold rc at h
  split at h
  · cases h
  · rename_i l hl
    split at h
    · rename_i hc
      simp only [Option.some.injEq, Prod.mk.injEq] at h
      obtain ⟨h1, h2⟩ := h
      refine ⟨l, hl, by omega, h1.symm, by omega, by omega⟩
    · cases h
theorem rc_lt {s : ByteArray} {a c n : Nat} (h : rc s a = some (c, n)) : a < c ∧ n ≤ 20 ∧ c + n ≤ s.size := by
  obtain ⟨l, h1, h2, h3, h4, h5⟩ := rc_gv h
  have := (gv_some h1).1
  exact ⟨by omega, h4, h5⟩
theorem rc_end {s : ByteArray} {a : Nat} (h : s.size ≤ a) : rc s a = none := by
  unfold rc
  have : bts s a = [] := List.eq_nil_of_length_eq_zero (by rw [bts_len]; omega)
  rw [this]
  rfl
/-- The place behind the record at a place; the place itself, where there is none. -/
def nx (s : ByteArray) (a : Nat) : Nat :=
  match rc s a with
  | none => a
  | some (c, n) => c + n
theorem nx_some {s : ByteArray} {a c n : Nat} (h : rc s a = some (c, n)) : nx s a = c + n := by unfold nx; rw [h]
theorem nx_le {s : ByteArray} {a : Nat} (h : a ≤ s.size) : a ≤ nx s a ∧ nx s a ≤ s.size := by
  unfold nx
  split
  · exact ⟨Nat.le_refl _, h⟩
  · rename_i c n hc
    have := rc_lt hc
    omega
/-- The place behind so many records. -/
def pl (s : ByteArray) (a : Nat) : Nat → Nat
  | 0 => a
  | j + 1 => nx s (pl s a j)
theorem pl_front (s : ByteArray) (a : Nat) : ∀ j, pl s a (j + 1) = pl s (nx s a) j
  | 0 => rfl
  | j + 1 => by rw [pl, pl_front s a j]; rfl
theorem pl_le (s : ByteArray) : ∀ j, pl s 0 j ≤ s.size
  | 0 => Nat.zero_le _
  | j + 1 => (nx_le (pl_le s j)).2
theorem pl_mono (s : ByteArray) (j : Nat) : pl s 0 j ≤ pl s 0 (j + 1) := (nx_le (pl_le s j)).1
theorem pl_mono2 (s : ByteArray) {j k : Nat} (h : j ≤ k) : pl s 0 j ≤ pl s 0 k := by
  induction k with
  | zero => obtain rfl : j = 0 := by omega
            exact Nat.le_refl _
  | succ k ih =>
    by_cases e : j = k + 1
    · subst e; exact Nat.le_refl _
    · exact Nat.le_trans (ih (by omega)) (pl_mono s k)
def cntf (s : ByteArray) : Nat → Nat → Nat
  | 0, _ => 0
  | f + 1, a => match rc s a with
    | none => 0
    | some (c, n) => cntf s f (c + n) + 1
theorem cntf_spec (s : ByteArray) : ∀ (f a : Nat), s.size - a < f → (∀ j, j < cntf s f a → rc s (pl s a j) ≠ none) ∧ rc s (pl s a (cntf s f a)) = none
  | 0, a, h => absurd h (Nat.not_lt_zero _)
  | f + 1, a, h => by
    cases hc : rc s a with
    | none =>
      have e : cntf s (f + 1) a = 0 := by simp [cntf, hc]
      rw [e]
      exact ⟨fun j hj => absurd hj (Nat.not_lt_zero _), hc⟩
    | some p =>
      obtain ⟨c, n⟩ := p
      have hl := rc_lt hc
      have e : cntf s (f + 1) a = cntf s f (c + n) + 1 := by simp [cntf, hc]
      have en : nx s a = c + n := nx_some hc
      have ih := cntf_spec s f (c + n) (by omega)
      rw [e]
      refine ⟨fun j hj => ?_, by rw [pl_front, en]; exact ih.2⟩
      cases j with
      | zero => intro h0; rw [show pl s a 0 = a from rfl, hc] at h0; cases h0
      | succ j => rw [pl_front, en]; exact ih.1 j (by omega)
/-- How many whole records a text begins with. -/
def cnt (s : ByteArray) : Nat := cntf s (s.size + 1) 0
theorem cnt_yes (s : ByteArray) (j : Nat) (h : j < cnt s) : rc s (pl s 0 j) ≠ none := (cntf_spec s (s.size + 1) 0 (by omega)).1 j h
theorem cnt_no (s : ByteArray) : rc s (pl s 0 (cnt s)) = none := (cntf_spec s (s.size + 1) 0 (by omega)).2
theorem cnt_rc (s : ByteArray) (j : Nat) (h : j < cnt s) : ∃ c n, rc s (pl s 0 j) = some (c, n) ∧ pl s 0 (j + 1) = c + n := by
  cases hc : rc s (pl s 0 j) with
  | none => exact absurd hc (cnt_yes s j h)
  | some p => exact ⟨p.1, p.2, rfl, nx_some hc⟩
theorem cnt_unique (s : ByteArray) (k : Nat) (h1 : ∀ j, j < k → rc s (pl s 0 j) ≠ none) (h2 : rc s (pl s 0 k) = none) : cnt s = k := by
  by_cases e : cnt s < k
  · exact absurd (cnt_no s) (h1 _ e)
  · by_cases e2 : k < cnt s
    · exact absurd h2 (cnt_yes s k e2)
    · omega
theorem pl_lt (s : ByteArray) (j : Nat) (h : j < cnt s) : pl s 0 j < pl s 0 (j + 1) := by
  obtain ⟨c, n, h1, h2⟩ := cnt_rc s j h
  have := rc_lt h1
  omega
theorem pl_ge (s : ByteArray) : ∀ j, j ≤ cnt s → j ≤ pl s 0 j
  | 0, _ => Nat.zero_le _
  | j + 1, h => by
    have h1 := pl_ge s j (by omega)
    have h2 := pl_lt s j (by omega)
    omega
theorem cnt_le (s : ByteArray) : cnt s ≤ s.size := Nat.le_trans (pl_ge s _ (Nat.le_refl _)) (pl_le s _)
/-- Where the whole records end. -/
def wh (s : ByteArray) : Nat := pl s 0 (cnt s)
theorem wh_le (s : ByteArray) : wh s ≤ s.size := pl_le s _
/-- The places of the first records. -/
def stk (s : ByteArray) (k : Nat) : List Int := (List.range k).map fun j => (pl s 0 j : Int)
theorem stk_len (s : ByteArray) (k : Nat) : (stk s k).length = k := by simp [stk]
theorem stk_get (s : ByteArray) (k j : Nat) (h : j < k) : (stk s k).getD j 0 = (pl s 0 j : Int) := by simp [stk, List.getD, h]
theorem stk_succ (s : ByteArray) (k : Nat) : stk s (k + 1) = stk s k ++ [(pl s 0 k : Int)] := by simp [stk, List.range_succ]
abbrev st (s : ByteArray) : List Int := stk s (cnt s)
/-- Every third place. -/
def ixk (s : ByteArray) (k : Nat) : List Int := (List.range k).map fun j => (pl s 0 (3 * j) : Int)
theorem ixk_len (s : ByteArray) (k : Nat) : (ixk s k).length = k := by simp [ixk]
theorem ixk_get (s : ByteArray) (k j : Nat) (h : j < k) : (ixk s k).getD j 0 = (pl s 0 (3 * j) : Int) := by simp [ixk, List.getD, h]
theorem ixk_succ (s : ByteArray) (k : Nat) : ixk s (k + 1) = ixk s k ++ [(pl s 0 (3 * k) : Int)] := by simp [ixk, List.range_succ]
def ix (s : ByteArray) : List Int := ixk s ((cnt s + 2) / 3)

/-! Texts with one front -/
theorem bts_at (s : ByteArray) (a : Nat) : bts s a = (bts s 0).drop a := by simp [bts]
theorem rc_ext {s t : ByteArray} {a c n : Nat} (h : rc s a = some (c, n)) (hs : c + n ≤ t.size) (he : (bts t 0).take (c + n) = (bts s 0).take (c + n)) : rc t a = some (c, n) := by
  obtain ⟨l, h1, h2, h3, h4, h5⟩ := rc_gv h
  have hf := gv_form (bts_mem s a) h1
  have ht := gv_take h1
  have hl := (gv_some h1)
  have e1 : (bts t a).take l.length = l := by
    rw [bts_at t a]
    rw [bts_at s a] at ht
    have e2 : ((bts t 0).drop a).take l.length = (((bts t 0).take (c + n)).drop a).take l.length := by
      rw [List.drop_take, List.take_take]
      congr 1
      omega
    have e3 : ((bts s 0).drop a).take l.length = (((bts s 0).take (c + n)).drop a).take l.length := by
      rw [List.drop_take, List.take_take]
      congr 1
      omega
    rw [e2, he, ← e3]
    exact ht.symm
  have e4 : bts t a = vd (val l) ++ (bts t a).drop l.length := by
    rw [hf.1]
    conv => lhs; rw [← List.take_append_drop l.length (bts t a)]
    rw [e1]
  have e5 : gv (bts t a) = some l := by
    rw [e4, gv_vd (val l) _ (val_nonneg l) hf.2, hf.1]
  unfold rc
  rw [e5]
  have hsz : zag (val l) ≤ (t.size : Int) - ((a + l.length : Nat) : Int) := by omega
  simp only []
  rw [if_pos ⟨by omega, by omega, hsz⟩]
  simp only [Option.some.injEq, Prod.mk.injEq]
  exact ⟨h3.symm, by omega⟩
/-- Of two texts with one front the first records are alike. -/
theorem pl_ext {s t : ByteArray} (k : Nat) (hk : k ≤ cnt s) (hs : pl s 0 k ≤ t.size) (he : (bts t 0).take (pl s 0 k) = (bts s 0).take (pl s 0 k)) :
    ∀ j, j ≤ k → pl t 0 j = pl s 0 j ∧ (j < k → rc t (pl t 0 j) = rc s (pl s 0 j)) := by
  have key : ∀ j, j < k → rc t (pl s 0 j) = rc s (pl s 0 j) := fun j hj => by
    obtain ⟨c, n, h1, h2⟩ := cnt_rc s j (by omega)
    have h3 : pl s 0 (j + 1) ≤ pl s 0 k := pl_mono2 s (by omega)
    rw [h1]
    refine rc_ext h1 (by omega) ?_
    have e : ∀ u : List Int, u.take (c + n) = (u.take (pl s 0 k)).take (c + n) := fun u => by
      rw [List.take_take]
      congr 1
      omega
    rw [e (bts t 0), he, ← e]
  intro j
  induction j with
  | zero => exact fun _ => ⟨rfl, fun h => key 0 h⟩
  | succ j ih =>
    intro hj
    have h1 := (ih (by omega)).1
    have h2 : pl t 0 (j + 1) = pl s 0 (j + 1) := by
      show nx t (pl t 0 j) = nx s (pl s 0 j)
      rw [h1]
      unfold nx
      rw [key j (by omega)]
    exact ⟨h2, fun h => by rw [h2]; exact key (j + 1) h⟩
theorem bts_cut (s : ByteArray) (b : Nat) (h : b ≤ s.size) : bts (s.extract 0 b) 0 = (bts s 0).take b := by
  simp [bts, ByteArray.data_extract]
/-- What is left of the records where a text ends behind one. -/
theorem cut_cnt (s : ByteArray) (k : Nat) (hk : k ≤ cnt s) : cnt (s.extract 0 (pl s 0 k)) = k ∧ (∀ j, j ≤ k → pl (s.extract 0 (pl s 0 k)) 0 j = pl s 0 j) := by
  have hle := pl_le s k
  have hsz : (s.extract 0 (pl s 0 k)).size = pl s 0 k := by simp; omega
  have E := pl_ext (t := s.extract 0 (pl s 0 k)) k hk (by omega) (by rw [bts_cut s _ hle, List.take_take, Nat.min_self])
  refine ⟨cnt_unique _ k (fun j hj => ?_) (rc_end ?_), fun j hj => (E j hj).1⟩
  · rw [(E j (by omega)).2 hj]
    exact cnt_yes s j (by omega)
  · rw [(E k (Nat.le_refl _)).1, hsz]
    exact Nat.le_refl _
theorem cut_st (s : ByteArray) (k : Nat) (hk : k ≤ cnt s) : st (s.extract 0 (pl s 0 k)) = stk s k := by
  obtain ⟨h1, h2⟩ := cut_cnt s k hk
  unfold st stk
  rw [h1]
  apply List.map_congr_left
  intro j hj
  rw [h2 j (by simp at hj; omega)]
theorem cut_wh (s : ByteArray) (k : Nat) (hk : k ≤ cnt s) : wh (s.extract 0 (pl s 0 k)) = pl s 0 k := by
  obtain ⟨h1, h2⟩ := cut_cnt s k hk
  unfold wh
  rw [h1, h2 k (Nat.le_refl _)]
theorem cut_ix (s : ByteArray) (k : Nat) (hk : k ≤ cnt s) : ix (s.extract 0 (pl s 0 k)) = ixk s ((k + 2) / 3) := by
  obtain ⟨h1, h2⟩ := cut_cnt s k hk
  unfold ix ixk
  rw [h1]
  apply List.map_congr_left
  intro j hj
  rw [h2 (3 * j) (by simp at hj; omega)]
theorem whole_ix (s : ByteArray) : ix (s.extract 0 (wh s)) = ix s := cut_ix s (cnt s) (Nat.le_refl _)
theorem whole_cnt (s : ByteArray) : cnt (s.extract 0 (wh s)) = cnt s := (cut_cnt s (cnt s) (Nat.le_refl _)).1
theorem whole_wh (s : ByteArray) : wh (s.extract 0 (wh s)) = wh s := cut_wh s (cnt s) (Nat.le_refl _)
theorem extract_all (s : ByteArray) : s.extract 0 s.size = s := by
  apply ByteArray.ext
  simp
/-- A record as it stands in a piece. -/
def rec (r : ByteArray) : ByteArray := strOfNums (vd (zig (r.size : Int))) ++ r
theorem bts_append (s t : ByteArray) : bts (s ++ t) 0 = bts s 0 ++ bts t 0 := by
  have e : (s ++ t).data.toList = s.data.toList ++ t.data.toList := by
    show (ByteArray.append s t).data.toList = _
    simp [ByteArray.append]
  simp only [bts, List.drop_zero, e, List.map_append]
end Go.Proofs.YtdnmklcnlndmhazDoor.L6
