/-
  Labels come back from their text, and a text from its labels: the mathematics.
-/
import Derived.Test.YthagpceagifjnaaDoorL3ReadMath
import Derived.Test.YthagpceagifjnaaDoorL3TextMath
namespace Go.Proofs.YthagpceagifjnaaDoor.L3
open Go.RowKit L1
set_option linter.unusedVariables false

theorem free_at {c : UInt8} {l : List UInt8} (h : c ∉ l) : ∀ k : Nat, l[k]? ≠ some c := fun k e => h (List.mem_of_getElem? e)
theorem sp_app (c : UInt8) (x t : List UInt8) (h : c ∉ x) : sp c (x ++ c :: t) = x :: sp c t := by
  rw [sp_cut c (x ++ c :: t) x.length (fun k hk => by rw [List.getElem?_append_left hk]; exact free_at h k) (by simp)]
  simp
theorem join_two (c : UInt8) (x y : List UInt8) (r : List (List UInt8)) : Lib.join (x :: y :: r) [c] = x ++ c :: Lib.join (y :: r) [c] := by
  rw [Lib.join_cons, Lib.join_cons]
  simp [Lib.joinTail]
/-- What was joined comes apart. -/
theorem sp_join (c : UInt8) : ∀ (r : List (List UInt8)) (x : List UInt8), (∀ p ∈ x :: r, c ∉ p) → sp c (Lib.join (x :: r) [c]) = x :: r
  | [], x, h => by
    rw [Lib.join_one]
    exact sp_none c x (free_at (h x (by simp)))
  | y :: r, x, h => by
    rw [join_two, sp_app c x _ (h x (by simp)), sp_join c r y (fun p hp => h p (List.mem_cons_of_mem _ hp))]
/-- What was cut is joined again. -/
theorem join_sp (c : UInt8) : ∀ l : List UInt8, Lib.join (sp c l) [c] = l
  | [] => by simp [sp, Lib.join_one]
  | b :: l => by
    have ih := join_sp c l
    have hne := sp_ne c l
    rw [show sp c (b :: l) = (if b = c then [] :: sp c l else match sp c l with | p :: ps => (b :: p) :: ps | [] => [[b]]) from rfl]
    revert ih hne
    cases sp c l with
    | nil => intro _ h; exact absurd rfl h
    | cons p q =>
      intro ih _
      by_cases hb : b = c
      · rw [if_pos hb, join_two, ih, hb]; rfl
      · rw [if_neg hb]
        rw [Lib.join_cons] at ih ⊢
        rw [List.cons_append, ih]
theorem word_free {dig : Bool} {s : ByteArray} (h : Word dig s) (c : UInt8) (hc : c = 44 ∨ c = 61) : c ∉ s.data.toList := fun hm => by
  obtain ⟨k, hk, e⟩ := List.getElem_of_mem hm
  have hks : k < s.size := by rw [Lib.size_eq]; exact hk
  have h2 := h.2 k hks
  rw [bts_at s k hks] at h2
  have e2 : s[k]'hks = c := e
  rw [e2] at h2
  unfold okB at h2
  rcases hc with rfl | rfl <;> simp at h2
theorem lw_list (p : Lb) : (lw p).data.toList = p.1.data.toList ++ 61 :: p.2.data.toList := by
  unfold lw; rw [ba_append, ba_append]; simp
theorem lw_free {p : Lb} (h : okL p) : (44 : UInt8) ∉ (lw p).data.toList := by
  rw [lw_list]
  have h1 := word_free h.1 44 (.inl rfl)
  have h2 := word_free h.2 44 (.inl rfl)
  simp only [List.mem_append, List.mem_cons, not_or]
  exact ⟨h1, by decide, h2⟩
theorem lw_parts {p : Lb} (h : okL p) : parts 61 (lw p) = [p.1, p.2] := by
  unfold parts
  rw [lw_list, sp_app 61 _ _ (word_free h.1 61 (.inr rfl)), sp_none 61 _ (free_at (word_free h.2 61 (.inr rfl)))]
  rfl
/-- The text within the braces of labels' text. -/
def jn (l : List Lb) : List UInt8 := Lib.join (l.map fun p => (lw p).data.toList) [44]
theorem ltext_list (l : List Lb) : (ltext l).data.toList = 123 :: (jn l ++ [125]) := by
  rw [ltext_join, ba_append, ba_append]; rfl
theorem ltext_size (l : List Lb) : (ltext l).size = (jn l).length + 2 := by
  rw [Lib.size_eq, ltext_list]; simp
theorem ltext_br (l : List Lb) : Br (ltext l) := by
  refine ⟨by rw [ltext_size]; omega, by rw [ltext_list]; rfl, ?_⟩
  rw [ltext_size, ltext_list, show (jn l).length + 2 - 1 = (jn l).length + 1 by omega, List.getElem?_cons_succ]
  simp
theorem inr_list (s : ByteArray) : (inr s).data.toList = (s.data.toList.drop 1).take (s.size - 2) := by
  unfold inr
  rw [Lib.extract_eq]
  simp only []
  rw [show s.size - 1 - 1 = s.size - 2 by omega]
theorem ltext_inr (l : List Lb) : (inr (ltext l)).data.toList = jn l := by
  rw [inr_list, ltext_list, ltext_size]
  simp
theorem good_mem {l : List Lb} (h : GoodL l) : ∀ p ∈ l, okL p := fun p hp => by
  obtain ⟨j, hj, rfl⟩ := List.getElem_of_mem hp
  have := (h.2 j hj).1
  simpa [List.getD, List.getElem?_eq_getElem hj] using this
theorem ltext_ps {l : List Lb} (h : GoodL l) : ps (ltext l) = l.map lw := by
  cases l with
  | nil => unfold ps; rw [if_pos (by rw [ltext_size]; simp [jn, Lib.join])]; rfl
  | cons p r =>
    have hne : ¬ (ltext (p :: r)).size ≤ 2 := by
      rw [ltext_size]
      have : 0 < (jn (p :: r)).length := by
        unfold jn
        rw [List.map_cons, Lib.join_cons, lw_list]; simp; omega
      omega
    unfold ps parts
    rw [if_neg hne, ltext_inr]
    unfold jn
    rw [List.map_cons, sp_join 44 _ _ (fun q hq => by
      rw [← List.map_cons (f := fun p => (lw p).data.toList)] at hq
      obtain ⟨z, hz, rfl⟩ := List.mem_map.1 hq
      exact lw_free (good_mem h z hz))]
    rw [← List.map_cons (f := fun p => (lw p).data.toList), List.map_map]
    rfl
/-- Good labels come back. -/
theorem rd_back {l : List Lb} (h : GoodL l) : rdRes (ltext l) = some l := by
  have hp : ∀ q ∈ ps (ltext l), (parts 61 q).length = 2 := fun q hq => by
    rw [ltext_ps h] at hq
    obtain ⟨z, hz, rfl⟩ := List.mem_map.1 hq
    rw [lw_parts (good_mem h z hz)]; rfl
  have hm : (ps (ltext l)).map kvD = l := by
    rw [ltext_ps h, List.map_map]
    have : ∀ z ∈ l, (kvD ∘ lw) z = z := fun z hz => by
      show kvD (lw z) = z
      unfold kvD
      rw [lw_parts (good_mem h z hz)]; rfl
    rw [List.map_congr_left this]; simp
  have hs : (ltext l).size ≤ 600 := by
    have := join_size h
    rw [ltext_size]; unfold jn; omega
  unfold rdRes
  rw [hm, if_pos ⟨ltext_br l, hs, hp, h⟩]
theorem kv_back (p : ByteArray) (h : (parts 61 p).length = 2) : lw (kvD p) = p := by
  have hj := join_sp 61 p.data.toList
  have hl : (sp 61 p.data.toList).length = 2 := by simpa [parts] using h
  unfold kvD parts
  match hx : sp 61 p.data.toList, hl with
  | [a, b], _ =>
    rw [hx, join_two, Lib.join_one] at hj
    apply ByteArray.ext
    apply Array.toList_inj.1
    rw [lw_list]
    simpa using hj
/-- Read labels have the text that they were read from. -/
theorem rd_text {t : ByteArray} {l : List Lb} (h : rdRes t = some l) : GoodL l ∧ ltext l = t := by
  unfold rdRes at h
  split at h
  · rename_i hc
    obtain ⟨hb, hs, h2, hg⟩ := hc
    have hl : (ps t).map kvD = l := by simpa using h
    have hlw : l.map lw = ps t := by
      rw [← hl, List.map_map]
      have : ∀ z ∈ ps t, (lw ∘ kvD) z = z := fun z hz => kv_back z (h2 z hz)
      rw [List.map_congr_left this]; simp
    refine ⟨hl ▸ hg, ?_⟩
    have hin : jn l = (inr t).data.toList := by
      unfold jn
      rw [show (l.map fun p => (lw p).data.toList) = (l.map lw).map (fun b => b.data.toList) by rw [List.map_map]; rfl, hlw]
      unfold ps
      split
      · have : (inr t).size = 0 := by rw [inr_size t hb.1]; omega
        rw [Lib.size_eq] at this
        rw [List.eq_nil_of_length_eq_zero this]; rfl
      · unfold parts
        rw [List.map_map]
        have : ((fun b : ByteArray => b.data.toList) ∘ fun l : List UInt8 => (⟨l.toArray⟩ : ByteArray)) = id := by funext x; simp
        rw [this, List.map_id, join_sp]
    apply ByteArray.ext
    apply Array.toList_inj.1
    rw [ltext_list, hin, inr_list]
    have hz : t.data.toList.length = t.size := (Lib.size_eq t).symm
    obtain ⟨h0, h9⟩ := hb.2
    have hb1 := hb.1
    revert h0 h9 hz
    generalize t.data.toList = u
    generalize t.size = n at hb1
    intro hz h0 h9
    cases u with
    | nil => simp at h0
    | cons a u =>
      simp at h0
      subst h0
      have hu : u.length = n - 1 := by simp at hz; omega
      rw [show n - 1 = (n - 2) + 1 by omega, List.getElem?_cons_succ] at h9
      rw [List.drop_succ_cons, List.drop_zero]
      have h3 : n - 2 < u.length := by omega
      have h4 : u.take (n - 2 + 1) = u.take (n - 2) ++ [125] := by
        rw [List.take_succ_eq_append_getElem h3]
        rw [List.getElem?_eq_getElem h3] at h9
        simp at h9; rw [h9]
      rw [← h4, List.take_of_length_le (by omega)]
  · simp at h
end Go.Proofs.YthagpceagifjnaaDoor.L3
