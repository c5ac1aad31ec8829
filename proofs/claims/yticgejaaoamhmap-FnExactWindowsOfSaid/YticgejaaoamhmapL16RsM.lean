/-
  What rose in parts of a counter, in what is unwrapped, in what is thinned out. Nothing of Go stands here.
-/
import Derived.Test.YticgejaaoamhmapL16Unw
import Derived.Test.YticgejaaoamhmapL16ThM
namespace Go.Proofs.Yticgejaaoamhmap.L16
open L1
set_option linter.unusedVariables false

theorem getD_take16 (l : List (Int × Int)) (m j : Nat) (h : j < m) : (l.take m).getD j (0, 0) = l.getD j (0, 0) := by
  simp [List.getD, h]
theorem getD_drop16 (l : List (Int × Int)) (m j : Nat) : (l.drop m).getD j (0, 0) = l.getD (m + j) (0, 0) := by
  simp [List.getD, List.getElem?_drop]
theorem Ctr.take {l : List (Int × Int)} (h : Ctr l) (m : Nat) : Ctr (l.take m) := by
  have hl : (l.take m).length ≤ l.length := by simp; omega
  refine ⟨⟨by have := h.len; omega, fun j hj => ?_⟩, fun j hj => ?_⟩
  · have hm : j < m := by simp at hj; omega
    rw [getD_take16 l m j hm]
    refine ⟨(h.1.2 j (by omega)).1, fun h0 => ?_⟩
    rw [getD_take16 l m (j - 1) (by omega)]
    exact (h.1.2 j (by omega)).2 h0
  · have hm : j < m := by simp at hj; omega
    unfold vl
    rw [getD_take16 l m j hm]
    exact h.2 j (by omega)
theorem Ctr.drop {l : List (Int × Int)} (h : Ctr l) (m : Nat) : Ctr (l.drop m) := by
  have hl : (l.drop m).length = l.length - m := by simp
  refine ⟨⟨by have := h.len; omega, fun j hj => ?_⟩, fun j hj => ?_⟩
  · rw [getD_drop16 l m j]
    refine ⟨(h.1.2 (m + j) (by omega)).1, fun h0 => ?_⟩
    rw [getD_drop16 l m (j - 1), show m + (j - 1) = m + j - 1 by omega]
    exact (h.1.2 (m + j) (by omega)).2 (by omega)
  · unfold vl
    rw [getD_drop16 l m j]
    exact h.2 (m + j) (by omega)
theorem ris_congr {l m : List (Int × Int)} : ∀ k : Nat, (∀ j, j < k → vl m j = vl l j) → ris m k = ris l k ∧ rst m k = rst l k
  | 0, _ => ⟨rfl, rfl⟩
  | k + 1, h => by
    have ih := ris_congr (l := l) (m := m) k (fun j hj => h j (by omega))
    by_cases h0 : k = 0
    · subst h0; exact ⟨by rw [ris_one, ris_one], by rw [rst_one, rst_one]⟩
    · rw [ris_succ m (by omega), ris_succ l (by omega), rst_succ m (by omega), rst_succ l (by omega), ih.1, ih.2, h k (by omega), h (k - 1) (by omega)]
      exact ⟨rfl, rfl⟩
theorem ris_take (l : List (Int × Int)) (m : Nat) : ris (l.take m) m = ris l m := (ris_congr m (fun j hj => by unfold vl; rw [getD_take16 l m j hj])).1
theorem ris_drop (l : List (Int × Int)) (k : Nat) : ∀ j, ris (l.drop k) (j + 1) + ris l (k + 1) = ris l (k + (j + 1))
  | 0 => by
    show ris (l.drop k) 1 + ris l (k + 1) = ris l (k + 1)
    rw [ris_one]; omega
  | j + 1 => by
    have ih := ris_drop l k j
    rw [ris_succ (l.drop k) (k := j + 1) (by omega), show k + (j + 1 + 1) = (k + (j + 1)) + 1 by omega, ris_succ l (k := k + (j + 1)) (by omega)]
    have e1 : vl (l.drop k) (j + 1 - 1) = vl l (k + (j + 1) - 1) := by unfold vl; rw [getD_drop16, show k + (j + 1 - 1) = k + (j + 1) - 1 by omega]
    have e2 : vl (l.drop k) (j + 1) = vl l (k + (j + 1)) := by unfold vl; rw [getD_drop16]
    rw [e1, e2]
    omega
/-- Two parts that meet. -/
theorem ris_parts {l : List (Int × Int)} {n k : Nat} (hn : l.length = n) (hk : k < n) : ris (l.take (k + 1)) (k + 1) + ris (l.drop k) (n - k) = ris l n := by
  have h := ris_drop l k (n - k - 1)
  rw [show n - k - 1 + 1 = n - k by omega, show k + (n - k) = n by omega] at h
  rw [ris_take]
  omega
theorem ris_plain (l : List (Int × Int)) : ∀ k : Nat, 0 < k → rst l k = 0 → ris l k = vl l (k - 1) - vl l 0
  | 0, h, _ => absurd h (Nat.lt_irrefl _)
  | k + 1, _, hr => by
    by_cases h0 : k = 0
    · subst h0; rw [ris_one]; simp
    · rw [rst_succ l (by omega)] at hr
      have hb := rst_bd l k
      have hno : ¬ vl l k < vl l (k - 1) := fun h => by rw [if_pos h] at hr; omega
      rw [if_neg hno] at hr
      have ih := ris_plain l k (by omega) (by omega)
      rw [ris_succ l (by omega), ih]
      unfold stp
      rw [if_neg hno, Nat.add_sub_cancel]
      omega
theorem unw_vl (l : List (Int × Int)) (j : Nat) (h : j < l.length) : vl (unw l) j = uv l j := by simp [vl, unw, List.getD, h]
theorem ris_unw {l : List (Int × Int)} (h : Ctr l) : ∀ k : Nat, k ≤ l.length → ris (unw l) k = ris l k ∧ rst (unw l) k = 0
  | 0, _ => ⟨rfl, rfl⟩
  | k + 1, hk => by
    have ih := ris_unw h k (by omega)
    by_cases h0 : k = 0
    · subst h0; exact ⟨by rw [ris_one, ris_one], rst_one _⟩
    · have hs := stp_bd (h.val (k := k - 1) (by omega)) (h.val (k := k) (by omega))
      have hu := uv_succ l (k := k) (by omega)
      have hno : ¬ uv l k < uv l (k - 1) := by omega
      rw [ris_succ (unw l) (by omega), ris_succ l (by omega), rst_succ (unw l) (by omega), ih.1, ih.2, unw_vl l k (by omega), unw_vl l (k - 1) (by omega), if_neg hno]
      refine ⟨?_, rfl⟩
      rw [show stp (uv l (k - 1)) (uv l k) = uv l k - uv l (k - 1) by unfold stp; rw [if_neg hno]]
      omega
theorem ctr_unw {l : List (Int × Int)} (h : Ctr l) (hg : GoodS (unw l)) : Ctr (unw l) := ⟨hg, fun j hj => by
  rw [unw_len] at hj
  rw [unw_vl l j hj]
  exact (uv_bd h hj).1⟩
/-- Samples as those of a counter are, but for how many. -/
def Rows16 (T : List (Int × Int)) : Prop := ∀ i, i < T.length → okS (T.getD i (0, 0)) ∧ 0 ≤ (T.getD i (0, 0)).2 ∧ (0 < i → (T.getD (i - 1) (0, 0)).1 < (T.getD i (0, 0)).1)
theorem getD_snoc (T : List (Int × Int)) (x : Int × Int) (i : Nat) : (T ++ [x]).getD i (0, 0) = if i < T.length then T.getD i (0, 0) else if i = T.length then x else (0, 0) := by
  by_cases h : i < T.length
  · rw [if_pos h]; simp [List.getD, List.getElem?_append_left h]
  · rw [if_neg h]
    by_cases e : i = T.length
    · subst e; simp [List.getD]
    · rw [if_neg e]
      simp only [List.getD]
      rw [List.getElem?_eq_none (by simp; omega)]
      rfl
theorem rows_snoc {T : List (Int × Int)} (h : Rows16 T) {x : Int × Int} (hx : okS x) (h0 : 0 ≤ x.2) (hl : 0 < T.length → (T.getD (T.length - 1) (0, 0)).1 < x.1) : Rows16 (T ++ [x]) := fun i hi => by
  simp only [List.length_append, List.length_cons, List.length_nil] at hi
  rw [getD_snoc]
  by_cases e : i < T.length
  · rw [if_pos e]
    refine ⟨(h i e).1, (h i e).2.1, fun hp => ?_⟩
    rw [getD_snoc, if_pos (by omega)]
    exact (h i e).2.2 hp
  · have e2 : i = T.length := by omega
    rw [if_neg e, if_pos e2]
    refine ⟨hx, h0, fun hp => ?_⟩
    rw [getD_snoc, if_pos (by omega), e2]
    exact hl (by omega)
theorem ris_snoc (T : List (Int × Int)) (x : Int × Int) (h : 0 < T.length) : ris (T ++ [x]) (T.length + 1) = ris T T.length + stp (vl T (T.length - 1)) x.2 ∧ rst (T ++ [x]) (T.length + 1) = rst T T.length + (if x.2 < vl T (T.length - 1) then 1 else 0) := by
  have c := ris_congr (l := T) (m := T ++ [x]) T.length (fun j hj => by unfold vl; rw [getD_snoc, if_pos hj])
  have e1 : vl (T ++ [x]) (T.length - 1) = vl T (T.length - 1) := by unfold vl; rw [getD_snoc, if_pos (by omega)]
  have e2 : vl (T ++ [x]) T.length = x.2 := by unfold vl; rw [getD_snoc, if_neg (Nat.lt_irrefl _), if_pos rfl]
  rw [ris_succ _ h, rst_succ _ h, c.1, c.2, e1, e2]
  exact ⟨rfl, rfl⟩
/-- What the first k have in common with what is left of them. -/
structure ThI (l T : List (Int × Int)) (k j : Nat) : Prop where
  pos : 0 < T.length
  rows : Rows16 T
  jk : j < k
  lst : T.getD (T.length - 1) (0, 0) = l.getD j (0, 0)
  mid : j = k - 1 ∨ (vl l j ≤ vl l (k - 1) ∧ k < l.length ∧ vl l (k - 1) ≤ vl l k)
  ris : L16.ris l k = L16.ris T T.length + (vl l (k - 1) - vl l j)
  rst : L16.rst l k = L16.rst T T.length
theorem thI_one {l : List (Int × Int)} (h : Ctr l) (h0 : 0 < l.length) : ThI l (thn l 1) 1 0 := by
  have e : thn l 1 = [l.getD 0 (0, 0)] := by rw [thn_no (fun hn => absurd hn.1 (Nat.lt_irrefl _))]; rfl
  rw [e]
  refine ⟨by simp, fun i hi => ?_, Nat.one_pos, rfl, .inl rfl, ?_, ?_⟩
  · have : i = 0 := by simp at hi; omega
    subst this
    exact ⟨(h.1.2 0 h0).1, h.2 0 h0, fun hp => absurd hp (Nat.lt_irrefl _)⟩
  · show L16.ris l 1 = L16.ris _ 1 + _
    rw [ris_one, ris_one]; simp
  · show L16.rst l 1 = L16.rst _ 1
    rw [rst_one, rst_one]
theorem ThI.step {l : List (Int × Int)} (h : Ctr l) {k j : Nat} (hk : k < l.length) (i : ThI l (thn l k) k j) : ∃ j', ThI l (thn l (k + 1)) (k + 1) j' := by
  have hk0 : 0 < k := Nat.lt_of_le_of_lt (Nat.zero_le _) i.jk
  by_cases hn : Ndl l k
  · refine ⟨j, ?_⟩
    have hjv : vl l j ≤ vl l (k - 1) := by
      rcases i.mid with e | e
      · rw [e]; exact Int.le_refl _
      · exact e.1
    have hno : ¬ vl l k < vl l (k - 1) := by have := hn.2.2.1; omega
    have hst : stp (vl l (k - 1)) (vl l k) = vl l k - vl l (k - 1) := by unfold stp; rw [if_neg hno]
    rw [thn_yes hn]
    exact ⟨i.pos, i.rows, by have := i.jk; omega, i.lst, .inr ⟨by rw [Nat.add_sub_cancel]; omega, hn.2.1, by rw [Nat.add_sub_cancel]; exact hn.2.2.2⟩,
      by rw [ris_succ l hk0, i.ris, hst, Nat.add_sub_cancel]; omega, by rw [rst_succ l hk0, i.rst, if_neg hno]; omega⟩
  · refine ⟨k, ?_⟩
    rw [thn_no hn]
    have sn := ris_snoc (thn l k) (l.getD k (0, 0)) i.pos
    have hlv : vl (thn l k) ((thn l k).length - 1) = vl l j := by unfold vl; rw [i.lst]
    have hat : ((thn l k).getD ((thn l k).length - 1) (0, 0)).1 < (l.getD k (0, 0)).1 := by rw [i.lst]; exact h.mono k j hk i.jk
    have hkv : (l.getD k (0, 0)).2 = vl l k := rfl
    rw [hlv, hkv] at sn
    refine ⟨by simp, rows_snoc i.rows (h.1.2 k hk).1 (h.2 k hk) (fun _ => hat), by omega, ?_, .inl (by omega), ?_, ?_⟩
    · rw [List.length_append, show (thn l k).length + [l.getD k (0, 0)].length - 1 = (thn l k).length by simp, getD_snoc, if_neg (Nat.lt_irrefl _), if_pos rfl]
    · rw [List.length_append, show (thn l k).length + [l.getD k (0, 0)].length = (thn l k).length + 1 by simp, sn.1, ris_succ l hk0, i.ris, Nat.add_sub_cancel]
      rcases i.mid with e | e
      · rw [e]; omega
      · unfold stp
        rw [if_neg (show ¬ vl l k < vl l (k - 1) by omega), if_neg (show ¬ vl l k < vl l j by omega)]
        omega
    · rw [List.length_append, show (thn l k).length + [l.getD k (0, 0)].length = (thn l k).length + 1 by simp, sn.2, rst_succ l hk0, i.rst]
      rcases i.mid with e | e
      · rw [e]
      · rw [if_neg (show ¬ vl l k < vl l (k - 1) by omega), if_neg (show ¬ vl l k < vl l j by omega)]
theorem thI_all {l : List (Int × Int)} (h : Ctr l) : ∀ k : Nat, k + 1 ≤ l.length → ∃ j, ThI l (thn l (k + 1)) (k + 1) j
  | 0, hk => ⟨0, thI_one h hk⟩
  | k + 1, hk => by
    obtain ⟨j, i⟩ := thI_all h k (by omega)
    exact ThI.step h (by omega) i
/-- What lies between is thinned out: nothing is lost. -/
theorem ris_thn {l : List (Int × Int)} (h : Ctr l) {n : Nat} (hn : l.length = n) (h0 : 0 < n) : Ctr (thn l n) ∧ ris (thn l n) (thn l n).length = ris l n ∧ rst (thn l n) (thn l n).length = rst l n := by
  obtain ⟨j, i⟩ := thI_all h (n - 1) (by omega)
  rw [show n - 1 + 1 = n by omega] at i
  have hj : j = n - 1 := by
    rcases i.mid with e | e
    · exact e
    · have := e.2.1; omega
  have h40 := h.len
  have hle := thn_len l n
  refine ⟨⟨⟨by omega, fun q hq => ⟨(i.rows q hq).1, (i.rows q hq).2.2⟩⟩, fun q hq => (i.rows q hq).2.1⟩, ?_, i.rst.symm⟩
  have := i.ris
  rw [hj] at this
  omega
end Go.Proofs.Yticgejaaoamhmap.L16
