/-
  Plain mathematics: a number is read from the front of its bits, whatever stands behind, and bits that are read are the number's own. Nothing of Go stands here.
-/
import Derived.Test.YtlhmailmgpocbaaDoorL1Bits
namespace Go.Proofs.YtlhmailmgpocbaaDoor.L1

theorem getD_app {l m : List Int} {i : Nat} {d : Int} (h : i < l.length) : (l ++ m).getD i d = l.getD i d := by
  simp only [List.getD, List.getElem?_append_left h]

theorem good_bl (f : Nat) : ∀ n : Int, 0 ≤ n → n < pw (f + 1) → good (bl f n) = true ∧ bval (bl f n) = n := by
  induction f with
  | zero =>
    intro n h1 h2
    simp [pw] at h2
    rcases (show n = 0 ∨ n = 1 by omega) with rfl | rfl
    · exact ⟨rfl, rfl⟩
    · exact ⟨rfl, rfl⟩
  | succ f ih =>
    intro n h1 h2
    have hw : pw (f + 1 + 1) = 2 * pw (f + 1) := rfl
    simp only [bl]
    split
    · rcases (show n = 0 ∨ n = 1 by omega) with rfl | rfl
      · exact ⟨rfl, rfl⟩
      · exact ⟨rfl, rfl⟩
    · have h := ih (n / 2) (by omega) (by omega)
      refine ⟨good_snoc.2 ⟨h.1, by omega⟩, ?_⟩
      rw [bval_snoc, h.2]
      omega
theorem head_bl (f : Nat) : ∀ n : Int, 1 ≤ n → n < pw (f + 1) → (bl f n).getD 0 0 = 49 := by
  induction f with
  | zero =>
    intro n h1 h2
    simp [pw] at h2
    obtain rfl : n = 1 := by omega
    rfl
  | succ f ih =>
    intro n h1 h2
    have hw : pw (f + 1 + 1) = 2 * pw (f + 1) := rfl
    simp only [bl]
    split
    · obtain rfl : n = 1 := by omega
      rfl
    · have h := ih (n / 2) (by omega) (by omega)
      have hl := (bl_len f (n / 2)).1
      rw [getD_app (by omega)]
      exact h
theorem bl_bval (f : Nat) : ∀ p : List Int, 1 ≤ p.length → p.length ≤ f + 1 → good p = true → p.getD 0 0 = 49 → 1 ≤ bval p ∧ bl f (bval p) = p := by
  induction f with
  | zero =>
    intro p h1 h2 hg hh
    match p, h1, h2 with
    | [x], _, _ =>
      simp at hh
      subst hh
      exact ⟨by decide, rfl⟩
  | succ f ih =>
    intro p h1 h2 hg hh
    rcases List.eq_nil_or_concat p with rfl | ⟨q, x, rfl⟩
    · simp at h1
    · simp only [List.concat_eq_append] at *
      have hgs := good_snoc.1 hg
      rw [bval_snoc]
      cases q with
      | nil =>
        simp at hh
        subst hh
        exact ⟨by decide, rfl⟩
      | cons y q =>
        have hh' : (y :: q).getD 0 0 = 49 := by simpa using hh
        have h := ih (y :: q) (by simp) (by simp at h2 ⊢; omega) hgs.1 hh'
        refine ⟨by omega, ?_⟩
        rw [bl_step f _ (by omega)]
        have e1 : (2 * bval (y :: q) + (x - 48)) / 2 = bval (y :: q) := by omega
        have e2 : 48 + (2 * bval (y :: q) + (x - 48)) % 2 = x := by omega
        rw [e1, e2, h.2]

/-- The bits of a number. -/
def gbits (n : Int) : List Int := List.replicate ((bl 20 n).length - 1) 48 ++ bl 20 n
theorem nz_rep (k : Nat) (l : List Int) (h : l.getD 0 0 ≠ 48) : nz (List.replicate k 48 ++ l) = k := by
  induction k with
  | zero =>
    simp only [List.replicate_zero, List.nil_append]
    cases l with
    | nil => rfl
    | cons x l => simp at h; simp [nz, h]
  | succ k ih =>
    rw [List.replicate_succ, List.cons_append]
    simp [nz, ih]
theorem gbits_len (n : Int) : (gbits n).length = 2 * ((bl 20 n).length - 1) + 1 := by
  have := (bl_len 20 n).1
  simp [gbits]
  omega
/-- A number is read from the front of its bits, whatever stands behind. -/
theorem rg_front (n : Int) (r : List Int) (h1 : 1 ≤ n) (h2 : n ≤ 1000000) (hr : (gbits n ++ r).length ≤ 600) : rg (gbits n ++ r) = some (n, (gbits n).length) := by
  have hpw : n < pw (20 + 1) := by simp [pw]; omega
  have hg := good_bl 20 n (by omega) hpw
  have hh := head_bl 20 n h1 hpw
  have hl := bl_len 20 n
  have hgl := gbits_len n
  have hz : nz (gbits n ++ r) = (bl 20 n).length - 1 := by
    unfold gbits
    rw [List.append_assoc]
    refine nz_rep _ _ ?_
    rw [getD_app (by omega), hh]
    decide
  unfold rg
  rw [hz, if_pos ⟨hr, by simp [List.length_append]; omega⟩]
  have hp : ((gbits n ++ r).drop ((bl 20 n).length - 1)).take ((bl 20 n).length - 1 + 1) = bl 20 n := by
    unfold gbits
    rw [List.append_assoc, List.drop_left' (by simp), show (bl 20 n).length - 1 + 1 = (bl 20 n).length by omega, List.take_left]
  rw [hp]
  unfold bres
  rw [if_pos ⟨hg.1, by omega⟩, hg.2, hgl]
  rfl
/-- Bits that are read are the number's own. -/
theorem rg_own {t : List Int} {v : Int} {k : Nat} (h : rg t = some (v, k)) : 1 ≤ v ∧ v ≤ 1000000 ∧ k ≤ t.length ∧ t.take k = gbits v := by
  unfold rg at h
  split at h
  · rename_i hc
    have hzl := hc.2
    obtain ⟨z, hz⟩ : ∃ z, z = nz t := ⟨_, rfl⟩
    rw [← hz] at h hzl
    have hin := nz_in t
    have hend := nz_end t (by omega)
    rw [← hz] at hin hend
    obtain ⟨p, hp⟩ : ∃ p, p = (t.drop z).take (z + 1) := ⟨_, rfl⟩
    rw [← hp] at h
    have hpl : p.length = z + 1 := by rw [hp]; simp; omega
    have hp0 : p.getD 0 0 = t.getD z 0 := by rw [hp]; simp [List.getD]
    unfold bres at h
    split at h
    · rename_i hb
      simp only [Option.map_some, Option.some.injEq, Prod.mk.injEq] at h
      obtain ⟨rfl, rfl⟩ := h
      have hp49 : p.getD 0 0 = 49 := by
        cases hpc : p with
        | nil => rw [hpc] at hpl; simp at hpl
        | cons x q =>
          have hx := (good_cons.1 (hpc ▸ hb.1)).1
          have : x ≠ 48 := by
            have e : p.getD 0 0 = x := by rw [hpc]; rfl
            rw [← e, hp0]
            exact hend
          simp
          omega
      have hz20 : p.length ≤ 21 := by
        rcases Nat.lt_or_ge 21 p.length with hlt | hge
        · exfalso
          have := bres_long p (by omega) (by rw [hp49]; decide)
          unfold bres at this
          rw [if_pos hb] at this
          simp at this
        · exact hge
      have hbl := bl_bval 20 p (by omega) hz20 hb.1 hp49
      refine ⟨hbl.1, hb.2, by omega, ?_⟩
      unfold gbits
      rw [hbl.2, hpl, show z + 1 - 1 = z by omega]
      apply List.ext_getElem?
      intro i
      by_cases hi : i < z
      · rw [List.getElem?_take_of_lt (by omega), List.getElem?_append_left (by simpa using hi), List.getElem?_replicate, if_pos hi, List.getElem?_eq_getElem (by omega)]
        have := hin i hi
        simp only [List.getD, List.getElem?_eq_getElem (show i < t.length by omega), Option.getD_some] at this
        rw [this]
      · rw [List.getElem?_append_right (by simpa using hi), List.length_replicate, hp, List.getElem?_take, List.getElem?_take, List.getElem?_drop]
        by_cases hi2 : i < 2 * z + 1
        · rw [if_pos hi2, if_pos (by omega), show z + (i - z) = i by omega]
        · rw [if_neg hi2, if_neg (by omega)]
    · simp at h
  · simp at h
end Go.Proofs.YtlhmailmgpocbaaDoor.L1
