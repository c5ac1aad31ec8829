/-
  Plain mathematics of AddOwner: tokens put in one after the other where they belong, and tokens sorted, are the same where they are good. Nothing of the program's text is proved here.
-/
import Derived.Test.YtkjljkfjcngkcaaL3Has
namespace Go.Proofs.Ytkjljkfjcngkcaa.L3
open Go.RowKit L1
set_option linter.unusedVariables false

/-- The tokens that come. -/
def news (o : Int) (ps : List Int) : List (Int × Int) := ps.map fun a => (a, o)
def Rises (ps : List Int) : Prop := ∀ j, j < ps.length → 0 < j → ps.getD (j - 1) 0 < ps.getD j 0
def AddAsk (l : List (Int × Int)) (o : Int) (ps : List Int) : Prop := GoodT l ∧ ¬ HasO l o ∧ (1 ≤ ps.length ∧ ps.length ≤ 8) ∧ Rises ps
/-- By At, one behind the other. -/
def Up (l : List (Int × Int)) : Prop := l.Pairwise fun p q => p.1 ≤ q.1
def UpS (l : List (Int × Int)) : Prop := l.Pairwise fun p q => p.1 < q.1
theorem good_tail {p : Int × Int} {l : List (Int × Int)} (h : ∀ j, j < (p :: l).length → 0 < j → ((p :: l).getD (j - 1) (0, 0)).1 < ((p :: l).getD j (0, 0)).1) : ∀ j, j < l.length → 0 < j → (l.getD (j - 1) (0, 0)).1 < (l.getD j (0, 0)).1 := fun j hj h0 => by
  have := h (j + 1) (by simpa using hj) (by omega)
  rw [show j + 1 - 1 = (j - 1) + 1 by omega, List.getD_cons_succ, List.getD_cons_succ] at this
  exact this
theorem upS_of : ∀ l : List (Int × Int), (∀ j, j < l.length → 0 < j → (l.getD (j - 1) (0, 0)).1 < (l.getD j (0, 0)).1) → UpS l
  | [], _ => List.Pairwise.nil
  | [p], _ => by simp [UpS]
  | p :: q :: l, h => by
    have ih := upS_of (q :: l) (good_tail h)
    have hpq : p.1 < q.1 := h 1 (by simp) (by omega)
    refine List.Pairwise.cons ?_ ih
    intro r hr
    rcases List.mem_cons.1 hr with rfl | hr
    · exact hpq
    · exact Int.lt_trans hpq ((List.pairwise_cons.1 ih).1 r hr)
theorem good_upS {l : List (Int × Int)} (h : GoodT l) : UpS l := upS_of l fun j hj h0 => (h.2 j hj).2 h0
theorem good_mem {l : List (Int × Int)} (h : GoodT l) : ∀ p ∈ l, okT p := fun p hp => by
  obtain ⟨j, hj, e⟩ := List.getElem_of_mem hp
  have := (h.2 j hj).1
  rw [← e]
  simpa only [List.getD, List.getElem?_eq_getElem hj, Option.getD_some] using this
/-- Two lists that rise and have the same tokens are one. -/
theorem upS_uniq : ∀ {l m : List (Int × Int)}, UpS l → UpS m → l.Perm m → l = m
  | [], m, _, _, h => (List.Perm.nil_eq h)
  | p :: l, m, h1, h2, h => by
    cases m with
    | nil => have := h.length_eq; simp at this
    | cons q m =>
      have hp := List.pairwise_cons.1 h1
      have hq := List.pairwise_cons.1 h2
      have e : p = q := by
        have m1 : p ∈ q :: m := h.subset (by simp)
        have m2 : q ∈ p :: l := h.symm.subset (by simp)
        rcases List.mem_cons.1 m1 with e | m1
        · exact e
        · rcases List.mem_cons.1 m2 with e | m2
          · exact e.symm
          · have a := hq.1 p m1
            have b := hp.1 q m2
            omega
      subst e
      rw [upS_uniq hp.2 hq.2 h.cons_inv]
theorem upS_nodup {l : List (Int × Int)} (h : UpS l) : (l.map Prod.fst).Nodup := by
  unfold UpS at h
  rw [List.Nodup, List.pairwise_map]
  exact h.imp fun h => by omega
theorem upS_of_up {l : List (Int × Int)} (h : Up l) (hn : (l.map Prod.fst).Nodup) : UpS l := by
  rw [List.Nodup, List.pairwise_map] at hn
  unfold Up at h
  unfold UpS
  exact (h.and hn).imp fun ⟨a, b⟩ => by omega
theorem up_uniq {l m : List (Int × Int)} (hl : Up l) (hm : GoodT m) (h : l.Perm m) : l = m := by
  have h1 := good_upS hm
  exact upS_uniq (upS_of_up hl (((h.map Prod.fst).nodup_iff).2 (upS_nodup h1))) h1 h

open Classical in
/-- The ring with the tokens that came. -/
noncomputable def addRes (l : List (Int × Int)) (o : Int) (ps : List Int) : Option (List (Int × Int)) :=
  if h : AddAsk l o ps ∧ ∃ s : List (Int × Int), s.Perm (l ++ news o ps) ∧ GoodT s then some (Classical.choose h.2) else none
theorem addRes_some {l : List (Int × Int)} {o : Int} {ps : List Int} {s : List (Int × Int)} (h : AddAsk l o ps) (hp : s.Perm (l ++ news o ps)) (hg : GoodT s) : addRes l o ps = some s := by
  have h2 : AddAsk l o ps ∧ ∃ s : List (Int × Int), s.Perm (l ++ news o ps) ∧ GoodT s := ⟨h, s, hp, hg⟩
  unfold addRes
  rw [dif_pos h2]
  have hc := Classical.choose_spec h2.2
  rw [upS_uniq (good_upS hc.2) (good_upS hg) (hc.1.trans hp.symm)]
theorem addRes_ask {l : List (Int × Int)} {o : Int} {ps : List Int} (h : ¬ AddAsk l o ps) : addRes l o ps = none := by
  unfold addRes; rw [dif_neg (fun hh => h hh.1)]
theorem addRes_bad {l : List (Int × Int)} {o : Int} {ps : List Int} {s : List (Int × Int)} (hp : s.Perm (l ++ news o ps)) (hu : Up s) (hg : ¬ GoodT s) : addRes l o ps = none := by
  unfold addRes
  rw [dif_neg]
  rintro ⟨_, t, ht, hgt⟩
  exact hg (up_uniq hu hgt (hp.trans ht.symm) ▸ hgt)
theorem addRes_out {l : List (Int × Int)} {o : Int} {ps : List Int} {p : Int × Int} (hp : p ∈ l ++ news o ps) (hno : ¬ okT p) : addRes l o ps = none := by
  unfold addRes
  rw [dif_neg]
  rintro ⟨_, t, ht, hgt⟩
  exact hno (good_mem hgt p (ht.symm.subset hp))
theorem addRes_len (l : List (Int × Int)) (o : Int) (ps : List Int) : ((addRes l o ps).getD []).length ≤ 40 := by
  unfold addRes
  split
  · rename_i h
    exact (Classical.choose_spec h.2).2.1
  · simp

/-- Where a place belongs. -/
def kk (a : Int) : List (Int × Int) → Nat
  | [] => 0
  | p :: l => if p.1 < a then kk a l + 1 else 0
theorem kk_le (a : Int) : ∀ l : List (Int × Int), kk a l ≤ l.length
  | [] => Nat.le_refl _
  | p :: l => by
    have := kk_le a l
    unfold kk
    split <;> simp <;> omega
theorem kk_at {a : Int} : ∀ (l : List (Int × Int)) (k : Nat), k ≤ l.length → (∀ j, j < k → (l.getD j (0, 0)).1 < a) → (k < l.length → ¬ (l.getD k (0, 0)).1 < a) → kk a l = k
  | [], k, hk, _, _ => by simp at hk; simp [kk, hk]
  | p :: l, 0, _, _, h2 => by
    have : ¬ p.1 < a := h2 (by simp)
    simp [kk, this]
  | p :: l, k + 1, hk, h1, h2 => by
    have h0 : p.1 < a := h1 0 (by omega)
    have := kk_at l k (by simpa using hk) (fun j hj => by have := h1 (j + 1) (by omega); simpa using this) (fun h => by have := h2 (by simpa using h); simpa using this)
    simp [kk, h0, this]
def ins (p : Int × Int) (l : List (Int × Int)) : List (Int × Int) := l.take (kk p.1 l) ++ p :: l.drop (kk p.1 l)
theorem ins_perm (p : Int × Int) (l : List (Int × Int)) : (ins p l).Perm (p :: l) := by
  unfold ins
  have h := List.take_append_drop (kk p.1 l) l
  have := @List.perm_middle _ p (l.take (kk p.1 l)) (l.drop (kk p.1 l))
  rwa [h] at this
theorem ins_len (p : Int × Int) (l : List (Int × Int)) : (ins p l).length = l.length + 1 := (ins_perm p l).length_eq
theorem ins_cons (p q : Int × Int) (l : List (Int × Int)) : ins p (q :: l) = if q.1 < p.1 then q :: ins p l else p :: q :: l := by
  unfold ins
  by_cases h : q.1 < p.1 <;> simp [kk, h]
theorem ins_up (p : Int × Int) : ∀ {l : List (Int × Int)}, Up l → Up (ins p l)
  | [], _ => by simp [ins, kk, Up]
  | q :: l, h => by
    have hq := List.pairwise_cons.1 h
    rw [ins_cons]
    split
    · rename_i hlt
      refine List.Pairwise.cons ?_ (ins_up p hq.2)
      intro r hr
      rcases List.mem_cons.1 ((ins_perm p l).subset hr) with rfl | hr
      · omega
      · exact hq.1 r hr
    · rename_i hge
      refine List.Pairwise.cons ?_ h
      intro r hr
      rcases List.mem_cons.1 hr with rfl | hr
      · omega
      · have := hq.1 r hr; omega
/-- The ring when the first places have come. -/
def insN (l : List (Int × Int)) (o : Int) (ps : List Int) : Nat → List (Int × Int)
  | 0 => l
  | j + 1 => ins (ps.getD j 0, o) (insN l o ps j)
theorem insN_len (l : List (Int × Int)) (o : Int) (ps : List Int) : ∀ j, (insN l o ps j).length = l.length + j
  | 0 => rfl
  | j + 1 => by rw [insN, ins_len, insN_len l o ps j]; omega
theorem insN_up {l : List (Int × Int)} (o : Int) (ps : List Int) (h : Up l) : ∀ j, Up (insN l o ps j)
  | 0 => h
  | j + 1 => ins_up _ (insN_up o ps h j)
theorem news_snoc (o : Int) (ps : List Int) (j : Nat) (hj : j < ps.length) : news o (ps.take (j + 1)) = news o (ps.take j) ++ [(ps.getD j 0, o)] := by
  unfold news
  rw [List.take_succ_eq_append_getElem hj, List.map_append]
  simp [List.getD, List.getElem?_eq_getElem hj]
theorem insN_perm (l : List (Int × Int)) (o : Int) (ps : List Int) : ∀ j, j ≤ ps.length → (insN l o ps j).Perm (l ++ news o (ps.take j))
  | 0, _ => by simp [insN, news]
  | j + 1, hj => by
    have ih := insN_perm l o ps j (by omega)
    rw [insN, news_snoc o ps j (by omega), ← List.append_assoc]
    exact (ins_perm _ _).trans ((List.Perm.cons _ ih).trans (List.perm_append_singleton _ _).symm)
theorem good_up {l : List (Int × Int)} (h : GoodT l) : Up l := (good_upS h).imp fun h => by omega
end Go.Proofs.Ytkjljkfjcngkcaa.L3
