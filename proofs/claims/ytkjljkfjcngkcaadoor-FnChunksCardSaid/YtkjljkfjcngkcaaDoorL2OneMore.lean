/-
  Plain mathematics of the law FnChunks: one sample more at the same distance with the same value takes two bytes more. Nothing of Go stands here.
-/
import Derived.Test.YtkjljkfjcngkcaaDoorL2Math
namespace Go.Proofs.YtkjljkfjcngkcaaDoor.L1
set_option linter.unusedVariables false

theorem dl_snoc : ∀ (l : List Int) (p y : Int), dl p (l ++ [y]) = dl p l ++ [y - (p :: l).getD l.length 0]
  | [], p, y => rfl
  | x :: l, p, y => by
    have := dl_snoc l x y
    simp only [List.cons_append, dl, this, List.length_cons, List.getD_cons_succ]
theorem inter_snoc : ∀ (l m : List Int) (x y : Int), l.length = m.length → inter (l ++ [x]) (m ++ [y]) = inter l m ++ [x, y]
  | [], [], x, y, _ => rfl
  | [], _ :: _, _, _, h => by simp at h
  | _ :: _, [], _, _, h => by simp at h
  | a :: l, b :: m, x, y, h => by
    have := inter_snoc l m x y (by simpa using h)
    simp only [List.cons_append, inter, this]
theorem vd_small {z : Int} (h0 : 0 ≤ z) (h1 : z < 128) : (vd z).length = 1 := by
  have h := vdf_len 5 z 1 h0 (by omega)
  have hp := vdf_pos 5 z
  have hw : wor 1 = 128 := by decide
  rw [hw] at h
  unfold vd
  omega
/-- The numbers of samples with one more that goes on as they went. -/
theorem nums_more {l : List (Int × Int)} {x : Int × Int} (h2 : 2 ≤ l.length) (hx : x.1 = 2 * (l.getD (l.length - 1) (0, 0)).1 - (l.getD (l.length - 2) (0, 0)).1) (hv : x.2 = (l.getD (l.length - 1) (0, 0)).2) :
    nums (l ++ [x]) = ((l.length : Int) + 1) :: (inter (dl 0 (dl 0 (ats l))) (dl 0 (vals l)) ++ [0, 0]) := by
  obtain ⟨n, hn⟩ : ∃ n, l.length = n + 2 := ⟨l.length - 2, by omega⟩
  have e1 : l.length - 1 = n + 1 := by omega
  have e2 : l.length - 2 = n := by omega
  rw [e1, e2] at hx
  rw [e1] at hv
  have ha : ats (l ++ [x]) = ats l ++ [x.1] := by simp [ats]
  have hvv : vals (l ++ [x]) = vals l ++ [x.2] := by simp [vals]
  have hla : (ats l).length = n + 2 := by rw [ats_len, hn]
  have hlv : (vals l).length = n + 2 := by rw [vals_len, hn]
  have d1 : dl 0 (ats l ++ [x.1]) = dl 0 (ats l) ++ [x.1 - (l.getD (n + 1) (0, 0)).1] := by
    rw [dl_snoc, hla, List.getD_cons_succ, ats_get]
  have hld : (dl 0 (ats l)).length = n + 2 := by rw [dl_len, hla]
  have d2 : dl 0 (dl 0 (ats l) ++ [x.1 - (l.getD (n + 1) (0, 0)).1]) = dl 0 (dl 0 (ats l)) ++ [0] := by
    rw [dl_snoc, hld, List.getD_cons_succ, dl_get _ _ _ (by omega), List.getD_cons_succ, ats_get, ats_get]
    congr 2
    omega
  have d3 : dl 0 (vals l ++ [x.2]) = dl 0 (vals l) ++ [0] := by
    rw [dl_snoc, hlv, List.getD_cons_succ, vals_get]
    congr 2
    omega
  unfold nums
  rw [ha, hvv, d1, d2, d3, inter_snoc _ _ _ _ (by simp only [dl_len]; omega), List.length_append]
  simp
theorem cat_more {l : List (Int × Int)} {x : Int × Int} (h2 : 2 ≤ l.length) (h40 : l.length < 40) (hx : x.1 = 2 * (l.getD (l.length - 1) (0, 0)).1 - (l.getD (l.length - 2) (0, 0)).1) (hv : x.2 = (l.getD (l.length - 1) (0, 0)).2) :
    (cat (nums (l ++ [x]))).length = (cat (nums l)).length + 2 := by
  rw [nums_more h2 hx hv]
  unfold nums
  have z1 : zig ((l.length : Int) + 1) = 2 * ((l.length : Int) + 1) := by unfold zig; rw [if_neg (by omega)]
  have z2 : zig (l.length : Int) = 2 * (l.length : Int) := by unfold zig; rw [if_neg (by omega)]
  have z0 : zig 0 = 0 := by decide
  simp only [cat, cat_append, List.length_append, z1, z2, z0, vd_small (z := 2 * ((l.length : Int) + 1)) (by omega) (by omega), vd_small (z := 2 * (l.length : Int)) (by omega) (by omega), vd_small (z := 0) (by omega) (by omega), List.length_nil]
  omega
/-- It is good, where it comes in time. -/
theorem good_more {l : List (Int × Int)} {x : Int × Int} (hg : GoodS l) (h2 : 2 ≤ l.length) (h40 : l.length < 40) (hx : x.1 = 2 * (l.getD (l.length - 1) (0, 0)).1 - (l.getD (l.length - 2) (0, 0)).1) (hv : x.2 = (l.getD (l.length - 1) (0, 0)).2) (ht : x.1 ≤ 1000000000) : GoodS (l ++ [x]) := by
  have hlast := hg.2 (l.length - 1) (by omega)
  have hup := hlast.2 (by omega)
  rw [show l.length - 1 - 1 = l.length - 2 by omega] at hup
  have hok := hlast.1
  refine ⟨by rw [List.length_append]; simp; omega, fun j hj => ?_⟩
  rw [List.length_append, List.length_singleton] at hj
  by_cases hlt : j < l.length
  · have e : ∀ i, i < l.length → (l ++ [x]).getD i (0, 0) = l.getD i (0, 0) := fun i hi => by simp only [List.getD, List.getElem?_append_left hi]
    rw [e j hlt, e (j - 1) (by omega)]
    exact hg.2 j hlt
  · obtain rfl : j = l.length := by omega
    have e1 : (l ++ [x]).getD l.length (0, 0) = x := by simp [List.getD]
    have e2 : (l ++ [x]).getD (l.length - 1) (0, 0) = l.getD (l.length - 1) (0, 0) := by simp only [List.getD, List.getElem?_append_left (show l.length - 1 < l.length by omega)]
    rw [e1, e2]
    unfold okS at hok ⊢
    exact ⟨⟨by omega, ht, by omega, by omega⟩, fun _ => by omega⟩
end Go.Proofs.YtkjljkfjcngkcaaDoor.L1
