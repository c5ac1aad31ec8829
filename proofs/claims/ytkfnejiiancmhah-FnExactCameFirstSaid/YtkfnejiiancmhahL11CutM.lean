/-
  Plain mathematics of cuts of events. Nothing of Go stands here.
-/
import Derived.Test.YtkfnejiiancmhahL11Math
namespace Go.Proofs.Ytkfnejiiancmhah.L11
set_option linter.unusedVariables false

/-- Of what each event of a cut heard of is in it. -/
def ClS (l : List Ev) (u : Int → Int) : Prop := ∀ k, k < l.length → cnt l (nd l k) (k + 1) ≤ u (nd l k) → 0 ≤ fr l k → cnt l (nd l (fr l k).toNat) ((fr l k).toNat + 1) ≤ u (nd l (fr l k).toNat)
/-- The clock of each event of a cut is in it. -/
def ClI (l : List Ev) (u : Int → Int) : Prop := ∀ k, k < l.length → clk l k (nd l k) ≤ u (nd l k) → ∀ i : Nat, i < 5 → clk l k (i : Int) ≤ u (i : Int)
theorem cl_iff {N : Int} {l : List Ev} (hg : GoodV N l) (u : Int → Int) (h0 : ∀ i : Nat, i < 5 → 0 ≤ u (i : Int)) : ClI l u ↔ ClS l u := by
  have h5 := hg.2.1
  constructor
  · intro h k hk hc hf
    have hv := hg.2.2.2 k hk
    have hfk : fr l k < k := hv.2.2.2.1
    have hf2 := hg.2.2.2 (fr l k).toNat (by omega)
    have h1 := h k hk (by rw [clk_own]; exact hc) (nd l (fr l k).toNat).toNat (by have := hf2.1; have := hf2.2.1; omega)
    have e : ((nd l (fr l k).toNat).toNat : Int) = nd l (fr l k).toNat := by have := hf2.1; omega
    rw [e] at h1
    have h2 : Par l (fr l k).toNat k := .inr ⟨by omega, by omega⟩
    have h3 := h2.le (nd l (fr l k).toNat)
    rw [clk_own] at h3
    omega
  · intro h k
    induction k using Nat.strongRecOn with
    | ind k ih =>
      intro hk hc i hi
      have hv := hg.2.2.2 k hk
      by_cases e : (i : Int) = nd l k
      · rw [e]; exact hc
      · rw [clk_two, if_neg e]
        have h1 : cP l k (i : Int) ≤ u (i : Int) := by
          unfold cP clkO
          split
          · rename_i hp
            have hpl := pri_lt l (nd l k) k
            have hpn := pri_nd l (nd l k) k hp
            obtain ⟨p, hpe⟩ : ∃ p : Nat, pri l (nd l k) k = (p : Int) := ⟨(pri l (nd l k) k).toNat, by omega⟩
            rw [hpe] at hpn hpl ⊢
            have hpn2 : nd l p = nd l k := hpn
            refine ih p (by omega) (by omega) ?_ i hi
            rw [clk_own, hpn2]
            rw [clk_own] at hc
            exact Int.le_trans (cnt_mono l _ (by omega)) hc
          · exact h0 i hi
        have h2 : cF l k (i : Int) ≤ u (i : Int) := by
          unfold cF
          split
          · rename_i hf
            refine ih _ (by omega) (by omega) ?_ i hi
            rw [clk_own]
            exact h k hk (by rw [← clk_own]; exact hc) hf.1
          · exact h0 i hi
        omega
theorem anc_cE {N : Int} {l : List Ev} (hg : GoodV N l) (a b : Nat) (ha : a < l.length) (hb : b < l.length) :
    ((∀ i : Nat, i < 5 → clk l a (i : Int) ≤ clk l b (i : Int)) ∧ ¬ ∀ i : Nat, i < 5 → clk l a (i : Int) = clk l b (i : Int)) ↔ Anc l a b := by
  have h5 := hg.2.1
  have hva := hg.2.2.2 a ha
  have hvb := hg.2.2.2 b hb
  constructor
  · rintro ⟨h1, h2⟩
    have h3 := h1 (nd l a).toNat (by have := hva.1; have := hva.2.1; omega)
    have e : ((nd l a).toNat : Int) = nd l a := by have := hva.1; omega
    rw [e, clk_own] at h3
    rcases anc_of l b a h3 with rfl | h
    · exact absurd (fun i _ => rfl) h2
    · exact h
  · intro h
    refine ⟨fun i _ => h.le i, fun h2 => ?_⟩
    have h3 := anc_own_lt h
    have h4 := h2 (nd l b).toNat (by have := hvb.1; have := hvb.2.1; omega)
    have e : ((nd l b).toNat : Int) = nd l b := by have := hvb.1; omega
    rw [e] at h4
    omega
end Go.Proofs.Ytkfnejiiancmhah.L11
