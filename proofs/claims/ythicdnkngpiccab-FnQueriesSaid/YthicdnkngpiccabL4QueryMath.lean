/-
  Plain mathematics of queries: what is asked and what is denied.
-/
import Derived.Test.YthicdnkngpiccabL4EvalMath
import Derived.Test.YthicdnkngpiccabL4NotQu
namespace Go.Proofs.Ythicdnkngpiccab.L4
open Go.RowKit L1 L3
set_option linter.unusedVariables false

theorem app_ahead (l : List Qr) (x : Qr) {j : Nat} (h : j < l.length) : (l ++ [x]).getD j eQ = l.getD j eQ := by
  simp [List.getD, List.getElem?_append_left h]
theorem app_last (l : List Qr) (x : Qr) : (l ++ [x]).getD l.length eQ = x := by
  simp [List.getD]
theorem good_not {l : List Qr} (h : GoodQ l) (hn : l.length ≠ 20) : GoodQ (notQ l) := by
  obtain ⟨⟨h1, h2⟩, h3⟩ := h
  refine ⟨⟨by simp [notQ], by simp [notQ]; omega⟩, fun j hj => ?_⟩
  by_cases e : j < l.length
  · unfold notQ
    rw [app_ahead l _ e]
    exact h3 j e
  · obtain rfl : j = l.length := by simp [notQ] at hj; omega
    unfold notQ
    rw [app_last]
    exact .inr (.inr (.inr ⟨rfl, rfl, rfl, ⟨by show (0 : Int) ≤ (l.length : Int) - 1; omega, by show (l.length : Int) - 1 < _; omega⟩, rfl⟩))
theorem ev_app (ls : List (List Lb)) (l : List Qr) (x : Qr) : ∀ k, k ≤ l.length → ev ls (l ++ [x]) k = ev ls l k
  | 0, _ => rfl
  | k + 1, h => by
    rw [ev, ev, ev_app ls l x k (by omega), app_ahead l x (by omega)]
theorem evRes_not {ls : List (List Lb)} {l : List Qr} (hs : GoodS ls) (h : GoodQ l) (hn : l.length ≠ 20) :
    evRes ls (notQ l) = some (those ((evRes ls l).getD []) false (allN ls.length)) := by
  have h1 := good_not h hn
  have hl := h.1.1
  have e : (notQ l).length = l.length + 1 := by simp [notQ]
  rw [evRes, if_pos ⟨hs, h1⟩, evRes, if_pos ⟨hs, h⟩, e, Option.getD_some]
  congr 1
  have e2 : ev ls (notQ l) (l.length + 1) = ev ls l l.length ++ [partL ls ⟨5, ByteArray.empty, ByteArray.empty, (l.length : Int) - 1, 0⟩ (ev ls l l.length)] := by
    unfold notQ
    rw [ev, ev_app ls l _ _ (Nat.le_refl _), app_last]
  rw [e2, show l.length + 1 - 1 = (ev ls l l.length).length by rw [ev_len]; omega]
  have e3 : ∀ (a : List (List Int)) (b : List Int), (a ++ [b]).getD a.length [] = b := fun a b => by simp [List.getD]
  rw [e3]
  unfold partL
  rw [if_neg (by show ¬ (5 : Int) = 2; omega), if_neg (by show ¬ (5 : Int) = 3; omega), if_neg (by show ¬ (5 : Int) = 4; omega), if_pos rfl]
  rw [show ((l.length : Int) - 1).toNat = l.length - 1 by omega]
theorem rise_same : ∀ {a b : List Int}, Rise a → Rise b → (∀ y, y ∈ a ↔ y ∈ b) → a = b
  | [], [], _, _, _ => rfl
  | [], y :: b, _, _, h => absurd ((h y).2 (by simp)) (by simp)
  | x :: a, [], _, _, h => absurd ((h x).1 (by simp)) (by simp)
  | x :: a, y :: b, ha, hb, h => by
    obtain ⟨ha1, ha2⟩ := List.pairwise_cons.1 ha
    obtain ⟨hb1, hb2⟩ := List.pairwise_cons.1 hb
    have e : x = y := by
      rcases List.mem_cons.1 ((h x).1 (by simp)) with e | e
      · exact e
      · rcases List.mem_cons.1 ((h y).2 (by simp)) with e' | e'
        · exact e'.symm
        · have := ha1 y e'; have := hb1 x e; omega
    subst e
    rw [rise_same ha2 hb2 (fun z => ?_)]
    constructor
    · intro hz
      rcases List.mem_cons.1 ((h z).1 (List.mem_cons_of_mem _ hz)) with e | e
      · have := ha1 z hz; omega
      · exact e
    · intro hz
      rcases List.mem_cons.1 ((h z).2 (List.mem_cons_of_mem _ hz)) with e | e
      · have := hb1 z hz; omega
      · exact e
theorem those_all {n : Nat} {t : List Int} (h : OkT n t) : those t true (allN n) = t := by
  refine rise_same ((allN_rise n).sublist List.filter_sublist) h.1 fun y => ?_
  unfold those
  rw [List.mem_filter, allN_mem]
  constructor
  · rintro ⟨_, h2⟩
    simpa using h2
  · intro hy
    exact ⟨h.2 y hy, by simpa using hy⟩
theorem filter_two (p : Int → Bool) : ∀ l : List Int, (l.filter p).length + (l.filter fun x => !p x).length = l.length
  | [] => rfl
  | x :: l => by
    have ih := filter_two p l
    cases hp : p x <;> simp [hp] <;> omega
theorem those_two {n : Nat} {t : List Int} (h : OkT n t) : t.length + (those t false (allN n)).length = n := by
  have h1 := filter_two (fun x => decide (x ∈ t) == true) (allN n)
  have h2 : (allN n).filter (fun x => decide (x ∈ t) == true) = t := those_all h
  have h3 : (allN n).filter (fun x => !(decide (x ∈ t) == true)) = those t false (allN n) := by
    unfold those
    congr 1
    funext x
    cases decide (x ∈ t) <;> rfl
  rw [h2, h3, allN_len] at h1
  exact h1
theorem meet_not {n : Nat} {t : List Int} : those (those t false (allN n)) true t = [] := by
  unfold those
  rw [List.filter_eq_nil_iff]
  intro y hy
  simp [hy]
theorem okT_good {n : Nat} {t : List Int} (h : OkT n t) (hn : n ≤ 60) : GoodP t := by
  have h1 := okT_len h
  refine ⟨by omega, fun j hj => ⟨?_, fun h0 => rise_get h.1 (by omega) hj⟩⟩
  have := h.2 _ (getD_mem hj)
  omega
theorem evRes_ok {ls : List (List Lb)} {q : List Qr} {l : List Int} (h : evRes ls q = some l) : OkT ls.length l ∧ GoodS ls ∧ GoodQ q := by
  unfold evRes at h
  split at h
  · rename_i hg
    cases h
    exact ⟨getD_ok (ev_ok ls q q.length) _, hg.1, hg.2⟩
  · cases h
theorem evRes_has (ls : List (List Lb)) (x : Lb) : evRes ls [⟨2, x.1, x.2, 0, 0⟩] = postsRes ls x := by
  have e : GoodQ [⟨2, x.1, x.2, 0, 0⟩] ↔ okL x := by
    constructor
    · rintro ⟨_, h⟩
      rcases h 0 (by simp) with h | h | h | h
      · exact absurd h.1 (by show ¬ (2 : Int) = 1; omega)
      · exact h.2.1
      · rcases h.1 with h | h
        · exact absurd h (by show ¬ (2 : Int) = 3; omega)
        · exact absurd h (by show ¬ (2 : Int) = 4; omega)
      · exact absurd h.1 (by show ¬ (2 : Int) = 5; omega)
    · intro h
      refine ⟨by simp, fun j hj => ?_⟩
      obtain rfl : j = 0 := by simp at hj; omega
      exact .inr (.inl ⟨rfl, h, rfl, rfl⟩)
  unfold evRes postsRes
  rw [e]
  split
  · show some (([] ++ [partL ls ⟨2, x.1, x.2, 0, 0⟩ []] : List (List Int)).getD 0 []) = _
    unfold partL
    rw [if_pos rfl]
    rfl
  · rfl
end Go.Proofs.Ythicdnkngpiccab.L4
