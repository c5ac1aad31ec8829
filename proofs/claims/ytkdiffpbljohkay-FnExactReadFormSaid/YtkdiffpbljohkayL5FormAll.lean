/-
  Contract: (*spec.l5R).form reads a form as the parser reads it.
-/
import Derived.Test.YtkdiffpbljohkayL5FormX
import Derived.Test.YtkdiffpbljohkayL5FormN
import Derived.Test.YtkdiffpbljohkayL5FormE
import Derived.Test.YtkdiffpbljohkayL5FormY
import Derived.Test.YtkdiffpbljohkayL5FormL
import Derived.Test.YtkdiffpbljohkayL5FormS1
import Derived.Test.YtkdiffpbljohkayL5FormS2
import Derived.Test.YtkdiffpbljohkayL5FormS
import Derived.Test.YtkdiffpbljohkayL5FormA1
import Derived.Test.YtkdiffpbljohkayL5FormA2
import Derived.Test.YtkdiffpbljohkayL5FormA
namespace Go.Proofs.Ytkdiffpbljohkay.L5
open Go.RowKit L1 L4
set_option linter.unusedVariables false

theorem prs_leaf {s : ByteArray} {n k k1 : Nat} {x : Sh} (h : firstOf (prs s n) s k = (some x, k1)) : prs s (n + 1) k = (some (PP s x k1).1, (PP s x k1).2) := by
  show (match firstOf (prs s n) s k with
    | (none, k1) => (none, k1)
    | (some x, k1) => (some (PP s x k1).1, (PP s x k1).2)) = _
  rw [h]
theorem prs_fail {s : ByteArray} {n k k1 : Nat} (h : firstOf (prs s n) s k = (none, k1)) : prs s (n + 1) k = (none, k1) := by
  show (match firstOf (prs s n) s k with
    | (none, k1) => (none, k1)
    | (some x, k1) => (some (PP s x k1).1, (PP s x k1).2)) = _
  rw [h]
theorem two1 {p : Nat → Option Sh × Nat} {s : ByteArray} {mid behind : Int} {mk : Sh → Sh → Sh} {k k2 : Nat} (h : p k = (none, k2)) : twoOf p s mid behind mk k = (none, k2) := by
  unfold twoOf; rw [h]
theorem two2 {p : Nat → Option Sh × Nat} {s : ByteArray} {mid behind : Int} {mk : Sh → Sh → Sh} {k k2 : Nat} {a : Sh} (h : p k = (some a, k2)) (hm : mid ≠ 0) (hb : byt s k2 ≠ mid) : twoOf p s mid behind mk k = (none, k2) := by
  unfold twoOf; rw [h]; simp only; rw [if_pos ⟨hm, hb⟩]
theorem two3 {p : Nat → Option Sh × Nat} {s : ByteArray} {mid behind : Int} {mk : Sh → Sh → Sh} {k k2 k3 k4 : Nat} {a : Sh} (h : p k = (some a, k2)) (hm : ¬ (mid ≠ 0 ∧ byt s k2 ≠ mid)) (h3 : (if mid = 0 then k2 else k2 + 1) = k3) (h2 : p k3 = (none, k4)) : twoOf p s mid behind mk k = (none, k4) := by
  unfold twoOf; rw [h]; simp only; rw [if_neg hm, h3, h2]
theorem two4 {p : Nat → Option Sh × Nat} {s : ByteArray} {mid behind : Int} {mk : Sh → Sh → Sh} {k k2 k3 k4 : Nat} {a b : Sh} (h : p k = (some a, k2)) (hm : ¬ (mid ≠ 0 ∧ byt s k2 ≠ mid)) (h3 : (if mid = 0 then k2 else k2 + 1) = k3) (h2 : p k3 = (some b, k4)) (hb : byt s k4 ≠ behind) : twoOf p s mid behind mk k = (none, k4) := by
  unfold twoOf; rw [h]; simp only; rw [if_neg hm, h3, h2]; simp only; rw [if_neg hb]
theorem two5 {p : Nat → Option Sh × Nat} {s : ByteArray} {mid behind : Int} {mk : Sh → Sh → Sh} {k k2 k3 k4 : Nat} {a b : Sh} (h : p k = (some a, k2)) (hm : ¬ (mid ≠ 0 ∧ byt s k2 ≠ mid)) (h3 : (if mid = 0 then k2 else k2 + 1) = k3) (h2 : p k3 = (some b, k4)) (hb : byt s k4 = behind) : twoOf p s mid behind mk k = (some (mk a b), k4 + 1) := by
  unfold twoOf; rw [h]; simp only; rw [if_neg hm, h3, h2]; simp only; rw [if_pos hb]
theorem form_zero : FC 0 := by
  intro s k g d w h hk hs h0 hd
  show Calls _ _ _ _ fun e w' => FmP w g s (none, k) e w'
  by_cases hlt : k < s.size
  · exact form_deep s k g d w h hs hlt (by omega)
  · exact form_end s k g d w h hs (by omega)
theorem form_succ (n : Nat) (IH : FC n) : FC (n + 1) := by
  intro s k g d w h hk hs h0 hd
  have hd1 : d + n = 60 := by omega
  by_cases hlt : k < s.size
  case neg =>
    have hz : byt s k = 0 := byt_end (by omega)
    rw [prs_fail (k1 := k) (by unfold firstOf; rw [hz]; rfl)]
    exact form_end s k g d w h hs (by omega)
  by_cases q1 : byt s k = 33
  · rw [prs_leaf (x := .none) (k1 := k + 1) (by unfold firstOf; rw [if_pos q1])]
    exact form_none n s k g d w h hk hs h0 hd1 q1
  by_cases q2 : byt s k = 37
  · rw [prs_leaf (x := .empty) (k1 := k + 1) (by unfold firstOf; rw [if_neg q1, if_pos q2])]
    exact form_empty n s k g d w h hk hs h0 hd1 q2
  by_cases q3 : byt s k = 46
  · rw [prs_leaf (x := .any) (k1 := k + 1) (by unfold firstOf; rw [if_neg q1, if_neg q2, if_pos q3])]
    exact form_anyl n s k g d w h hk hs h0 hd1 q3
  by_cases q4 : byt s k = 40
  · have e : firstOf (prs s n) s k = twoOf (prs s n) s 0 41 .seq (k + 1) := by unfold firstOf; rw [if_neg q1, if_neg q2, if_neg q3, if_pos q4]
    rcases he1 : prs s n (k + 1) with ⟨r1, k2⟩
    cases r1 with
    | none =>
      rw [prs_fail (e.trans (two1 he1))]
      exact form_seq1 n IH k2 s k g d w h hk hs h0 hd1 q4 he1
    | some a =>
      have hm : ¬ ((0 : Int) ≠ 0 ∧ byt s k2 ≠ 0) := fun x => x.1 rfl
      have h3 : (if (0 : Int) = 0 then k2 else k2 + 1) = k2 := if_pos rfl
      rcases he2 : prs s n k2 with ⟨r2, k4⟩
      cases r2 with
      | none =>
        rw [prs_fail (e.trans (two3 he1 hm h3 he2))]
        exact form_seq3 n IH a k2 k4 s k g d w h hk hs h0 hd1 q4 he1 he2
      | some b =>
        by_cases hq : byt s k4 = 41
        · rw [prs_leaf (e.trans (two5 he1 hm h3 he2 hq))]
          exact form_seqY n IH a k2 b k4 s k g d w h hk hs h0 hd1 q4 he1 he2 hq
        · rw [prs_fail (e.trans (two4 he1 hm h3 he2 hq))]
          exact form_seq4 n IH a k2 b k4 s k g d w h hk hs h0 hd1 q4 he1 he2 hq
  by_cases q5 : byt s k = 91
  · have e : firstOf (prs s n) s k = twoOf (prs s n) s 124 93 .alt (k + 1) := by unfold firstOf; rw [if_neg q1, if_neg q2, if_neg q3, if_neg q4, if_pos q5]
    rcases he1 : prs s n (k + 1) with ⟨r1, k2⟩
    cases r1 with
    | none =>
      rw [prs_fail (e.trans (two1 he1))]
      exact form_alt1 n IH k2 s k g d w h hk hs h0 hd1 q5 he1
    | some a =>
      by_cases hmb : byt s k2 = 124
      case neg =>
        rw [prs_fail (e.trans (two2 he1 (by decide) hmb))]
        exact form_alt2 n IH a k2 s k g d w h hk hs h0 hd1 q5 he1 hmb
      have hm : ¬ ((124 : Int) ≠ 0 ∧ byt s k2 ≠ 124) := fun x => x.2 hmb
      have h3 : (if (124 : Int) = 0 then k2 else k2 + 1) = k2 + 1 := if_neg (by decide)
      rcases he2 : prs s n (k2 + 1) with ⟨r2, k4⟩
      cases r2 with
      | none =>
        rw [prs_fail (e.trans (two3 he1 hm h3 he2))]
        exact form_alt3 n IH a k2 k4 s k g d w h hk hs h0 hd1 q5 he1 hmb he2
      | some b =>
        by_cases hq : byt s k4 = 93
        · rw [prs_leaf (e.trans (two5 he1 hm h3 he2 hq))]
          exact form_altY n IH a k2 b k4 s k g d w h hk hs h0 hd1 q5 he1 hmb he2 hq
        · rw [prs_fail (e.trans (two4 he1 hm h3 he2 hq))]
          exact form_alt4 n IH a k2 b k4 s k g d w h hk hs h0 hd1 q5 he1 hmb he2 hq
  by_cases q6 : 97 ≤ byt s k ∧ byt s k ≤ 122
  · rw [prs_leaf (x := .letter (byt s k)) (k1 := k + 1) (by unfold firstOf; rw [if_neg q1, if_neg q2, if_neg q3, if_neg q4, if_neg q5, if_pos q6])]
    exact form_letter n (byt s k) q6 s k g d w h hk hs h0 hd1 rfl
  · rw [prs_fail (k1 := k) (by unfold firstOf; rw [if_neg q1, if_neg q2, if_neg q3, if_neg q4, if_neg q5, if_neg q6])]
    exact form_bad s k g d w h hs hlt (by omega) q1 q2 q3 q4 q5 q6
theorem form_any : ∀ n, FC n
  | 0 => form_zero
  | n + 1 => form_succ n (form_any n)
end Go.Proofs.Ytkdiffpbljohkay.L5
