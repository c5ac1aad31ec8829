/-
  Plain mathematics of chapter 11: events, what came first, clocks, stamps. Nothing of Go stands here.
-/
import Derived.KernelRfl
namespace Go.Proofs.Ytkfnejiiancmhah.L11
set_option linter.unusedVariables false

abbrev Ev := Int × Int
def nd (l : List Ev) (k : Nat) : Int := (l.getD k (0, 0)).1
def fr (l : List Ev) (k : Nat) : Int := (l.getD k (0, 0)).2
/-- The event at a place is good behind those ahead. -/
def StepV (nodes : Int) (l : List Ev) (k : Nat) : Prop := 0 ≤ nd l k ∧ nd l k < nodes ∧ -1 ≤ fr l k ∧ fr l k < k ∧ (0 ≤ fr l k → nd l (fr l k).toNat ≠ nd l k)
/-- Good events. -/
def GoodV (nodes : Int) (l : List Ev) : Prop := 1 ≤ nodes ∧ nodes ≤ 5 ∧ l.length ≤ 40 ∧ ∀ j, j < l.length → StepV nodes l j

/-- The number of the last event at a node ahead of a place, -1 for none. -/
def pri (l : List Ev) (x : Int) : Nat → Int
  | 0 => -1
  | m + 1 => if nd l m = x then (m : Int) else pri l x m
theorem pri_ge (l : List Ev) (x : Int) : ∀ m, -1 ≤ pri l x m
  | 0 => by simp [pri]
  | m + 1 => by unfold pri; split; omega; exact pri_ge l x m
theorem pri_lt (l : List Ev) (x : Int) : ∀ m : Nat, pri l x m < (m : Int)
  | 0 => by simp [pri]
  | m + 1 => by unfold pri; split; omega; have := pri_lt l x m; omega
theorem pri_nd (l : List Ev) (x : Int) : ∀ m : Nat, 0 ≤ pri l x m → nd l (pri l x m).toNat = x
  | 0 => by simp [pri]
  | m + 1 => by
    unfold pri; split
    · rename_i h; intro _; simpa using h
    · exact pri_nd l x m
theorem pri_max (l : List Ev) (x : Int) : ∀ m i : Nat, i < m → nd l i = x → (i : Int) ≤ pri l x m
  | 0, i, h, _ => by omega
  | m + 1, i, h, e => by
    unfold pri; split
    · omega
    · rename_i hne
      have : i ≠ m := fun h => hne (h ▸ e)
      exact pri_max l x m i (by omega) e
/-- How many of the first events are at a node. -/
def cnt (l : List Ev) (x : Int) : Nat → Int
  | 0 => 0
  | m + 1 => cnt l x m + if nd l m = x then 1 else 0
theorem cnt_nn (l : List Ev) (x : Int) : ∀ m, 0 ≤ cnt l x m
  | 0 => by simp [cnt]
  | m + 1 => by have := cnt_nn l x m; unfold cnt; split <;> omega
theorem cnt_le (l : List Ev) (x : Int) : ∀ m : Nat, cnt l x m ≤ (m : Int)
  | 0 => by simp [cnt]
  | m + 1 => by have := cnt_le l x m; unfold cnt; split <;> omega
theorem cnt_mono (l : List Ev) (x : Int) {a b : Nat} (h : a ≤ b) : cnt l x a ≤ cnt l x b := by
  induction b with
  | zero => obtain rfl : a = 0 := by omega
            exact Int.le_refl _
  | succ b ih =>
    by_cases e : a = b + 1
    · subst e; exact Int.le_refl _
    · have := ih (by omega)
      show _ ≤ cnt l x b + _
      split <;> omega
theorem cnt_pri (l : List Ev) (x : Int) : ∀ m, cnt l x (pri l x m + 1).toNat = cnt l x m
  | 0 => by simp [pri]
  | m + 1 => by
    unfold pri; split
    · have : ((m : Int) + 1).toNat = m + 1 := by omega
      rw [this]
    · rename_i h
      rw [cnt_pri l x m]
      simp [cnt, h]

/-- The clock of an event, node by node. -/
def clk (l : List Ev) (k : Nat) (x : Int) : Int :=
  max (if h : 0 ≤ pri l (nd l k) k then clk l (pri l (nd l k) k).toNat x else 0) (if h : 0 ≤ fr l k ∧ fr l k < k then clk l (fr l k).toNat x else 0) + if x = nd l k then 1 else 0
termination_by k
decreasing_by
  · have := pri_lt l (nd l k) k; omega
  · omega
/-- The clock of an event that may not be. -/
def clkO (l : List Ev) (i : Int) (x : Int) : Int := if 0 ≤ i then clk l i.toNat x else 0
/-- The part of a clock that comes of the event ahead at its node. -/
def cP (l : List Ev) (k : Nat) (x : Int) : Int := clkO l (pri l (nd l k) k) x
/-- The part of a clock that comes of what was heard of. -/
def cF (l : List Ev) (k : Nat) (x : Int) : Int := if 0 ≤ fr l k ∧ fr l k < k then clk l (fr l k).toNat x else 0
theorem clk_two (l : List Ev) (k : Nat) (x : Int) : clk l k x = max (cP l k x) (cF l k x) + if x = nd l k then 1 else 0 := by
  rw [clk]
  unfold cP cF clkO
  congr 1
theorem clk_eq (l : List Ev) (k : Nat) (x : Int) (h : fr l k < k) : clk l k x = max (clkO l (pri l (nd l k) k) x) (clkO l (fr l k) x) + if x = nd l k then 1 else 0 := by
  rw [clk_two]
  unfold cP cF
  congr 1
  congr 1
  unfold clkO
  by_cases h0 : 0 ≤ fr l k
  · rw [if_pos ⟨h0, h⟩, if_pos h0]
  · rw [if_neg (fun c => h0 c.1), if_neg h0]
theorem clk_nn (l : List Ev) (k : Nat) (x : Int) : 0 ≤ clk l k x := by
  induction k using Nat.strongRecOn with
  | ind k ih =>
    rw [clk_two]
    have h1 : 0 ≤ cP l k x := by
      unfold cP clkO
      split
      · exact ih _ (by have := pri_lt l (nd l k) k; omega)
      · exact Int.le_refl _
    split <;> omega
theorem clkO_nn (l : List Ev) (i x : Int) : 0 ≤ clkO l i x := by
  unfold clkO; split
  · exact clk_nn _ _ _
  · exact Int.le_refl _
theorem clk_le (l : List Ev) (k : Nat) (x : Int) : clk l k x ≤ cnt l x (k + 1) := by
  induction k using Nat.strongRecOn with
  | ind k ih =>
    rw [clk_two]
    show _ ≤ cnt l x k + _
    have h0 := cnt_nn l x k
    have h1 : cP l k x ≤ cnt l x k := by
      unfold cP clkO
      split
      · rename_i h
        have hp := pri_lt l (nd l k) k
        exact Int.le_trans (ih _ (by omega)) (cnt_mono l x (by omega))
      · exact h0
    have h2 : cF l k x ≤ cnt l x k := by
      unfold cF
      split
      · rename_i h
        exact Int.le_trans (ih _ (by omega)) (cnt_mono l x (by omega))
      · exact h0
    by_cases e : x = nd l k
    · rw [if_pos e, if_pos e.symm]; omega
    · rw [if_neg e, if_neg (Ne.symm e)]; omega
theorem clk_own (l : List Ev) (k : Nat) : clk l k (nd l k) = cnt l (nd l k) (k + 1) := by
  apply Int.le_antisymm (clk_le l k _)
  induction k using Nat.strongRecOn with
  | ind k ih =>
    rw [clk_two]
    show cnt l (nd l k) k + _ ≤ _
    rw [if_pos rfl]
    have h1 : cnt l (nd l k) k ≤ cP l k (nd l k) := by
      have hp := pri_lt l (nd l k) k
      have hc := cnt_pri l (nd l k) k
      unfold cP clkO
      split
      · rename_i h
        have hn := pri_nd l (nd l k) k h
        have := ih (pri l (nd l k) k).toNat (by omega)
        rw [hn] at this
        rw [← hc]
        have e : (pri l (nd l k) k + 1).toNat = (pri l (nd l k) k).toNat + 1 := by omega
        rw [e]; exact this
      · rename_i h
        have hg := pri_ge l (nd l k) k
        have e : (pri l (nd l k) k + 1).toNat = 0 := by omega
        rw [← hc, e]
        exact Int.le_refl _
    omega

/-- What an event comes of at once. -/
def Par (l : List Ev) (p b : Nat) : Prop := pri l (nd l b) b = (p : Int) ∨ (fr l b = (p : Int) ∧ p < b)
/-- What came first. -/
inductive Anc (l : List Ev) : Nat → Nat → Prop
  | one {p b : Nat} (h : Par l p b) : Anc l p b
  | more {i p b : Nat} (h : Par l p b) (h2 : Anc l i p) : Anc l i b
theorem Par.lt {l : List Ev} {p b : Nat} (h : Par l p b) : p < b := by
  rcases h with h | h
  · have := pri_lt l (nd l b) b; omega
  · exact h.2
theorem Anc.lt {l : List Ev} {a b : Nat} (h : Anc l a b) : a < b := by
  induction h with
  | one h => exact h.lt
  | more h _ ih => have := h.lt; omega
theorem Par.le {l : List Ev} {p b : Nat} (h : Par l p b) (x : Int) : clk l p x ≤ clk l b x := by
  rw [clk_two l b x]
  rcases h with h | h
  · have : cP l b x = clk l p x := by
      unfold cP clkO
      rw [if_pos (by omega), h]; rfl
    split <;> omega
  · have : cF l b x = clk l p x := by
      unfold cF
      rw [if_pos (by omega), h.1]; rfl
    split <;> omega
theorem Anc.le {l : List Ev} {a b : Nat} (h : Anc l a b) (x : Int) : clk l a x ≤ clk l b x := by
  induction h with
  | one h => exact h.le x
  | more h _ ih => exact Int.le_trans ih (h.le x)
/-- Which events of a node a clock counts: they came first, or it is the event itself. -/
theorem anc_of (l : List Ev) (b i : Nat) (h : cnt l (nd l i) (i + 1) ≤ clk l b (nd l i)) : i = b ∨ Anc l i b := by
  induction b using Nat.strongRecOn with
  | ind b ih =>
    have h1 : 1 ≤ cnt l (nd l i) (i + 1) := by
      have := cnt_nn l (nd l i) i
      show 1 ≤ cnt l (nd l i) i + _
      rw [if_pos rfl]; omega
    have via : ∀ p, Par l p b → cnt l (nd l i) (i + 1) ≤ clk l p (nd l i) → i = b ∨ Anc l i b := fun p hp hc => by
      rcases ih p hp.lt hc with rfl | ha
      · exact .inr (.one hp)
      · exact .inr (.more hp ha)
    by_cases e : nd l i = nd l b
    · by_cases hib : i = b
      · exact .inl hib
      · have hlt : i < b := by
          rcases Nat.lt_or_ge i b with h2 | h2
          · exact h2
          · exfalso
            have h3 := clk_le l b (nd l i)
            have h4 := cnt_mono l (nd l i) (show b + 1 ≤ i by omega)
            have h5 : cnt l (nd l i) (i + 1) = cnt l (nd l i) i + 1 := by
              show cnt l (nd l i) i + _ = _
              rw [if_pos rfl]
            omega
        have hm := pri_max l (nd l b) b i hlt e
        have hn := pri_nd l (nd l b) b (by omega)
        have hpl := pri_lt l (nd l b) b
        obtain ⟨p, hp⟩ : ∃ p : Nat, pri l (nd l b) b = (p : Int) := ⟨(pri l (nd l b) b).toNat, by omega⟩
        refine via p (.inl hp) ?_
        rw [hp] at hn hm
        have hn' : nd l p = nd l i := by rw [e]; exact hn
        rw [← hn', clk_own]
        exact cnt_mono l _ (by omega)
    · rw [clk_two, if_neg e] at h
      by_cases hp : cnt l (nd l i) (i + 1) ≤ cP l b (nd l i)
      · unfold cP clkO at hp
        split at hp
        · exact via (pri l (nd l b) b).toNat (.inl (by omega)) hp
        · omega
      · have hq : cnt l (nd l i) (i + 1) ≤ cF l b (nd l i) := by omega
        unfold cF at hq
        split at hq
        · exact via (fr l b).toNat (.inr (by omega)) hq
        · omega
/-- One event came first for another just if its clock is less (Fidge; Mattern). -/
theorem anc_iff (l : List Ev) (a b : Nat) : Anc l a b ↔ a ≠ b ∧ ∀ x, clk l a x ≤ clk l b x := by
  constructor
  · intro h
    exact ⟨fun e => by have := h.lt; omega, fun x => h.le x⟩
  · rintro ⟨h1, h2⟩
    have := h2 (nd l a)
    rw [clk_own] at this
    rcases anc_of l b a this with e | h
    · exact absurd e h1
    · exact h
theorem anc_own_lt {l : List Ev} {a b : Nat} (h : Anc l a b) : clk l a (nd l b) < clk l b (nd l b) := by
  rw [clk_own]
  have h1 := clk_le l a (nd l b)
  have h2 := cnt_mono l (nd l b) (show a + 1 ≤ b by have := h.lt; omega)
  have h3 : cnt l (nd l b) (b + 1) = cnt l (nd l b) b + 1 := by
    show cnt l (nd l b) b + _ = _
    rw [if_pos rfl]
  omega
/-- The stamp of an event. -/
def stp (l : List Ev) (k : Nat) : Int :=
  max (if h : 0 ≤ pri l (nd l k) k then stp l (pri l (nd l k) k).toNat else 0) (if h : 0 ≤ fr l k ∧ fr l k < k then stp l (fr l k).toNat else 0) + 1
termination_by k
decreasing_by
  · have := pri_lt l (nd l k) k; omega
  · omega
def stpO (l : List Ev) (i : Int) : Int := if 0 ≤ i then stp l i.toNat else 0
def sP (l : List Ev) (k : Nat) : Int := stpO l (pri l (nd l k) k)
def sF (l : List Ev) (k : Nat) : Int := if 0 ≤ fr l k ∧ fr l k < k then stp l (fr l k).toNat else 0
theorem stp_two (l : List Ev) (k : Nat) : stp l k = max (sP l k) (sF l k) + 1 := by
  rw [stp]
  unfold sP sF stpO
  congr 1
theorem stp_eq (l : List Ev) (k : Nat) (h : fr l k < k) : stp l k = max (stpO l (pri l (nd l k) k)) (stpO l (fr l k)) + 1 := by
  rw [stp_two]
  unfold sP sF
  congr 1
  congr 1
  unfold stpO
  by_cases h0 : 0 ≤ fr l k
  · rw [if_pos ⟨h0, h⟩, if_pos h0]
  · rw [if_neg (fun c => h0 c.1), if_neg h0]
theorem stp_bd (l : List Ev) (k : Nat) : 1 ≤ stp l k ∧ stp l k ≤ (k : Int) + 1 := by
  induction k using Nat.strongRecOn with
  | ind k ih =>
    rw [stp_two]
    have h1 : 0 ≤ sP l k ∧ sP l k ≤ (k : Int) := by
      unfold sP stpO
      split
      · have hp := pri_lt l (nd l k) k
        have := ih (pri l (nd l k) k).toNat (by omega)
        omega
      · omega
    have h2 : 0 ≤ sF l k ∧ sF l k ≤ (k : Int) := by
      unfold sF
      split
      · have := ih (fr l k).toNat (by omega)
        omega
      · omega
    omega
theorem stpO_bd (l : List Ev) (i : Int) : 0 ≤ stpO l i ∧ (stpO l i ≤ i + 1 ∨ stpO l i = 0) := by
  unfold stpO
  split
  · have := stp_bd l i.toNat; omega
  · omega
theorem Par.stp {l : List Ev} {p b : Nat} (h : Par l p b) : L11.stp l p < L11.stp l b := by
  rw [stp_two l b]
  rcases h with h | h
  · have : sP l b = L11.stp l p := by
      unfold sP stpO
      rw [if_pos (by omega), h]; rfl
    omega
  · have : sF l b = L11.stp l p := by
      unfold sF
      rw [if_pos (by omega), h.1]; rfl
    omega
theorem Anc.stp {l : List Ev} {a b : Nat} (h : Anc l a b) : L11.stp l a < L11.stp l b := by
  induction h with
  | one h => exact h.stp
  | more h _ ih => have := h.stp; omega
end Go.Proofs.Ytkfnejiiancmhah.L11
