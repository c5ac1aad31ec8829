/-
  Plain mathematics of MergeLabels: two lists by rising names merged, the second one's label where both have a name. Nothing of the program's text is proved here.
-/
import Derived.Test.YthagpceagifjnaaDoorL3Lab
namespace Go.Proofs.YthagpceagifjnaaDoor.L3
open Go.RowKit L1
set_option linter.unusedVariables false

open Classical in
/-- Two lists of labels merged. -/
noncomputable def mg : List Lb → List Lb → List Lb
  | a, [] => a
  | [], y :: b => y :: mg [] b
  | x :: a, y :: b => if Ahead x.1 y.1 then x :: mg a (y :: b) else if x.1 = y.1 then y :: mg a b else y :: mg (x :: a) b
termination_by a b => a.length + b.length
theorem mg_nil (a : List Lb) : mg a [] = a := by rw [mg]
theorem mg_left (y : Lb) (b : List Lb) : mg [] (y :: b) = y :: mg [] b := by rw [mg]
theorem mg_ahead {x y : Lb} (a b : List Lb) (h : Ahead x.1 y.1) : mg (x :: a) (y :: b) = x :: mg a (y :: b) := by rw [mg, if_pos h]
theorem mg_same {x y : Lb} (a b : List Lb) (h : ¬ Ahead x.1 y.1) (e : x.1 = y.1) : mg (x :: a) (y :: b) = y :: mg a b := by rw [mg, if_neg h, if_pos e]
theorem mg_behind {x y : Lb} (a b : List Lb) (h : ¬ Ahead x.1 y.1) (e : ¬ x.1 = y.1) : mg (x :: a) (y :: b) = y :: mg (x :: a) b := by rw [mg, if_neg h, if_neg e]

/-- By rising names. -/
def UpL (l : List Lb) : Prop := l.Pairwise fun p q => Ahead p.1 q.1
theorem toList_eq {a b : ByteArray} (h : a.toList = b.toList) : a = b := toList_inj h
theorem ahead_irrefl (a : ByteArray) : ¬ Ahead a a := fun h => by unfold Ahead at h; rw [bl_irrefl] at h; cases h
theorem ahead_trans {a b c : ByteArray} (h1 : Ahead a b) (h2 : Ahead b c) : Ahead a c := bl_trans _ _ _ h1 h2
theorem ahead_tri {a b : ByteArray} (h1 : ¬ Ahead a b) (h2 : ¬ Ahead b a) : a = b := toList_eq (bl_tri _ _ (by unfold Ahead at h1; simpa using h1) (by unfold Ahead at h2; simpa using h2))
theorem ahead_ne {a b : ByteArray} (h : Ahead a b) : a ≠ b := fun e => ahead_irrefl a (by rw [← e] at h; exact h)

theorem goodL_tail {p : Lb} {l : List Lb} (h : ∀ j, j < (p :: l).length → 0 < j → Ahead ((p :: l).getD (j - 1) eL).1 ((p :: l).getD j eL).1) : ∀ j, j < l.length → 0 < j → Ahead (l.getD (j - 1) eL).1 (l.getD j eL).1 := fun j hj h0 => by
  have := h (j + 1) (by simpa using hj) (by omega)
  rw [show j + 1 - 1 = (j - 1) + 1 by omega, List.getD_cons_succ, List.getD_cons_succ] at this
  exact this
theorem upL_of : ∀ l : List Lb, (∀ j, j < l.length → 0 < j → Ahead (l.getD (j - 1) eL).1 (l.getD j eL).1) → UpL l
  | [], _ => List.Pairwise.nil
  | [p], _ => by simp [UpL]
  | p :: q :: l, h => by
    have ih := upL_of (q :: l) (goodL_tail h)
    have hpq : Ahead p.1 q.1 := h 1 (by simp) (by omega)
    refine List.Pairwise.cons ?_ ih
    intro r hr
    rcases List.mem_cons.1 hr with rfl | hr
    · exact hpq
    · exact ahead_trans hpq ((List.pairwise_cons.1 ih).1 r hr)
theorem good_upL {l : List Lb} (h : GoodL l) : UpL l := upL_of l fun j hj h0 => (h.2 j hj).2 h0
theorem good_memL {l : List Lb} (h : GoodL l) : ∀ p ∈ l, okL p := fun p hp => by
  obtain ⟨j, hj, e⟩ := List.getElem_of_mem hp
  have := (h.2 j hj).1
  rw [← e]
  simpa only [List.getD, List.getElem?_eq_getElem hj, Option.getD_some] using this
theorem goodL_of {l : List Lb} (h6 : l.length ≤ 6) (ho : ∀ p ∈ l, okL p) (hu : UpL l) : GoodL l := by
  refine ⟨h6, fun j hj => ⟨?_, fun h0 => ?_⟩⟩
  · simp only [List.getD, List.getElem?_eq_getElem hj, Option.getD_some]
    exact ho _ (List.getElem_mem hj)
  · have := List.pairwise_iff_getElem.1 hu (j - 1) j (by omega) hj (by omega)
    simpa only [List.getD, List.getElem?_eq_getElem hj, List.getElem?_eq_getElem (show j - 1 < l.length by omega), Option.getD_some] using this
/-- Two lists that rise and have the same labels are one. -/
theorem upL_uniq : ∀ {l m : List Lb}, UpL l → UpL m → (∀ p, p ∈ l ↔ p ∈ m) → l = m
  | [], [], _, _, _ => rfl
  | [], q :: m, _, _, h => by have := (h q).2 (by simp); simp at this
  | p :: l, [], _, _, h => by have := (h p).1 (by simp); simp at this
  | p :: l, q :: m, h1, h2, h => by
    have hp := List.pairwise_cons.1 h1
    have hq := List.pairwise_cons.1 h2
    have e : p = q := by
      rcases List.mem_cons.1 ((h p).1 (by simp)) with e | m1
      · exact e
      · rcases List.mem_cons.1 ((h q).2 (by simp)) with e | m2
        · exact e.symm
        · exact absurd (ahead_trans (hq.1 p m1) (hp.1 q m2)) (ahead_irrefl _)
    subst e
    rw [upL_uniq hp.2 hq.2 (fun r => ?_)]
    constructor
    · intro hr
      rcases List.mem_cons.1 ((h r).1 (by simp [hr])) with e | m1
      · subst e; exact absurd (hp.1 r hr) (ahead_irrefl _)
      · exact m1
    · intro hr
      rcases List.mem_cons.1 ((h r).2 (by simp [hr])) with e | m1
      · subst e; exact absurd (hq.1 r hr) (ahead_irrefl _)
      · exact m1
/-- What is merged. -/
def InM (a b : List Lb) (p : Lb) : Prop := p ∈ b ∨ (p ∈ a ∧ ∀ y ∈ b, y.1 ≠ p.1)
theorem mg_mem : ∀ (n : Nat) (a b : List Lb), a.length + b.length ≤ n → UpL a → UpL b → ∀ p, p ∈ mg a b ↔ InM a b p
  | n, a, [], _, _, _, p => by rw [mg_nil]; simp [InM]
  | 0, [], y :: b, h, _, _, p => by simp at h
  | 0, x :: a, y :: b, h, _, _, p => by simp at h
  | n + 1, [], y :: b, h, ha, hb, p => by
    have ih := mg_mem n [] b (by simp at h ⊢; omega) ha (List.pairwise_cons.1 hb).2 p
    rw [mg_left, List.mem_cons, ih]
    simp [InM]
  | n + 1, x :: a, y :: b, h, ha, hb, p => by
    have hxa := List.pairwise_cons.1 ha
    have hyb := List.pairwise_cons.1 hb
    simp only [List.length_cons] at h
    by_cases h1 : Ahead x.1 y.1
    · have ih := mg_mem n a (y :: b) (by simp; omega) hxa.2 hb p
      rw [mg_ahead a b h1, List.mem_cons, ih]
      unfold InM
      constructor
      · rintro (rfl | h2 | ⟨h2, h3⟩)
        · refine .inr ⟨by simp, fun z hz => ?_⟩
          rcases List.mem_cons.1 hz with rfl | hz
          · exact (ahead_ne h1).symm
          · exact (ahead_ne (ahead_trans h1 (hyb.1 z hz))).symm
        · exact .inl h2
        · exact .inr ⟨by simp [h2], h3⟩
      · rintro (h2 | ⟨h2, h3⟩)
        · exact .inr (.inl h2)
        · rcases List.mem_cons.1 h2 with rfl | h2
          · exact .inl rfl
          · exact .inr (.inr ⟨h2, h3⟩)
    · by_cases h2 : x.1 = y.1
      · have ih := mg_mem n a b (by omega) hxa.2 hyb.2 p
        rw [mg_same a b h1 h2, List.mem_cons, ih]
        unfold InM
        constructor
        · rintro (rfl | h3 | ⟨h3, h4⟩)
          · exact .inl (by simp)
          · exact .inl (by simp [h3])
          · refine .inr ⟨by simp [h3], fun z hz => ?_⟩
            rcases List.mem_cons.1 hz with rfl | hz
            · have := hxa.1 p h3; rw [← h2]; exact ahead_ne this
            · exact h4 z hz
        · rintro (h3 | ⟨h3, h4⟩)
          · rcases List.mem_cons.1 h3 with rfl | h3
            · exact .inl rfl
            · exact .inr (.inl h3)
          · rcases List.mem_cons.1 h3 with rfl | h3
            · exact absurd h2.symm (h4 y (by simp))
            · exact .inr (.inr ⟨h3, fun z hz => h4 z (by simp [hz])⟩)
      · have h3 : Ahead y.1 x.1 := Classical.byContradiction fun h => h2 (ahead_tri h1 h)
        have ih := mg_mem n (x :: a) b (by simp; omega) ha hyb.2 p
        rw [mg_behind a b h1 h2, List.mem_cons, ih]
        unfold InM
        constructor
        · rintro (rfl | h4 | ⟨h4, h5⟩)
          · exact .inl (by simp)
          · exact .inl (by simp [h4])
          · refine .inr ⟨h4, fun z hz => ?_⟩
            rcases List.mem_cons.1 hz with rfl | hz
            · rcases List.mem_cons.1 h4 with rfl | h4
              · exact ahead_ne h3
              · exact ahead_ne (ahead_trans h3 (hxa.1 p h4))
            · exact h5 z hz
        · rintro (h4 | ⟨h4, h5⟩)
          · rcases List.mem_cons.1 h4 with rfl | h4
            · exact .inl rfl
            · exact .inr (.inl h4)
          · exact .inr (.inr ⟨h4, fun z hz => h5 z (by simp [hz])⟩)
theorem mg_up : ∀ (n : Nat) (a b : List Lb), a.length + b.length ≤ n → UpL a → UpL b → UpL (mg a b)
  | n, a, [], _, ha, _ => by rw [mg_nil]; exact ha
  | 0, [], y :: b, h, _, _ => by simp at h
  | 0, x :: a, y :: b, h, _, _ => by simp at h
  | n + 1, [], y :: b, h, ha, hb => by
    have hyb := List.pairwise_cons.1 hb
    simp only [List.length_cons, List.length_nil] at h
    rw [mg_left]
    refine List.Pairwise.cons (fun p hp => ?_) (mg_up n [] b (by simp; omega) ha hyb.2)
    have := (mg_mem n [] b (by simp; omega) ha hyb.2 p).1 hp
    rcases this with h1 | ⟨h1, _⟩
    · exact hyb.1 p h1
    · simp at h1
  | n + 1, x :: a, y :: b, h, ha, hb => by
    have hxa := List.pairwise_cons.1 ha
    have hyb := List.pairwise_cons.1 hb
    simp only [List.length_cons] at h
    by_cases h1 : Ahead x.1 y.1
    · rw [mg_ahead a b h1]
      refine List.Pairwise.cons (fun p hp => ?_) (mg_up n a (y :: b) (by simp; omega) hxa.2 hb)
      rcases (mg_mem n a (y :: b) (by simp; omega) hxa.2 hb p).1 hp with h2 | ⟨h2, _⟩
      · rcases List.mem_cons.1 h2 with rfl | h2
        · exact h1
        · exact ahead_trans h1 (hyb.1 p h2)
      · exact hxa.1 p h2
    · by_cases h2 : x.1 = y.1
      · rw [mg_same a b h1 h2]
        refine List.Pairwise.cons (fun p hp => ?_) (mg_up n a b (by omega) hxa.2 hyb.2)
        rcases (mg_mem n a b (by omega) hxa.2 hyb.2 p).1 hp with h3 | ⟨h3, _⟩
        · exact hyb.1 p h3
        · rw [← h2]; exact hxa.1 p h3
      · have h3 : Ahead y.1 x.1 := Classical.byContradiction fun h => h2 (ahead_tri h1 h)
        rw [mg_behind a b h1 h2]
        refine List.Pairwise.cons (fun p hp => ?_) (mg_up n (x :: a) b (by simp; omega) ha hyb.2)
        rcases (mg_mem n (x :: a) b (by simp; omega) ha hyb.2 p).1 hp with h4 | ⟨h4, _⟩
        · exact hyb.1 p h4
        · rcases List.mem_cons.1 h4 with rfl | h4
          · exact h3
          · exact ahead_trans h3 (hxa.1 p h4)
theorem mg_len : ∀ (n : Nat) (a b : List Lb), a.length + b.length ≤ n → (mg a b).length ≤ a.length + b.length
  | n, a, [], _ => by rw [mg_nil]; simp
  | 0, [], y :: b, h => by simp at h
  | 0, x :: a, y :: b, h => by simp at h
  | n + 1, [], y :: b, h => by
    have := mg_len n [] b (by simp at h ⊢; omega)
    rw [mg_left]; simp at *; omega
  | n + 1, x :: a, y :: b, h => by
    simp only [List.length_cons] at h
    have i1 := mg_len n a (y :: b) (by simp; omega)
    have i2 := mg_len n a b (by omega)
    have i3 := mg_len n (x :: a) b (by simp; omega)
    rw [mg]
    simp only [List.length_cons] at *
    split
    · simp only [List.length_cons]; omega
    · split <;> simp only [List.length_cons] <;> omega
open Classical in
noncomputable def mrgRes (a b : List Lb) : Option (List Lb) := if GoodL a ∧ GoodL b ∧ (mg a b).length ≤ 6 then some (mg a b) else none
theorem mrgRes_len (a b : List Lb) : ((mrgRes a b).getD []).length ≤ 6 := by
  unfold mrgRes
  split
  · rename_i h; exact h.2.2
  · simp
end Go.Proofs.YthagpceagifjnaaDoor.L3
