/-
  Plain mathematics: the numbers of a text, one behind the other. Nothing of Go stands here.
-/
import Derived.Test.YticgejaaoamhmapL1Math
namespace Go.Proofs.Yticgejaaoamhmap.L1

theorem gvf_some : ∀ (f : Nat) (pre t l : List Int), gvf f pre t = some l → ∃ m, 1 ≤ m ∧ m ≤ t.length ∧ l = pre ++ t.take m
  | 0, _, _, _, h => by simp [gvf] at h
  | _ + 1, _, [], _, h => by simp [gvf] at h
  | f + 1, pre, x :: r, l, h => by
    simp only [gvf] at h
    split at h
    · obtain ⟨m, h1, h2, h3⟩ := gvf_some f (pre ++ [x]) r l h
      refine ⟨m + 1, by omega, by simp; omega, ?_⟩
      rw [h3]
      simp
    · split at h
      · simp only [Option.some.injEq] at h
        exact ⟨1, by omega, by simp, by rw [← h]; simp⟩
      · simp at h
theorem gv_some {t l : List Int} (h : gv t = some l) : 1 ≤ l.length ∧ l.length ≤ t.length := by
  obtain ⟨m, h1, h2, h3⟩ := gvf_some 6 [] t l h
  rw [h3]
  simp
  omega

/-- All numbers of a text. -/
def ga : Nat → List Int → Option (List Int)
  | _, [] => some []
  | 0, _ :: _ => none
  | f + 1, x :: r => match gv (x :: r) with
    | none => none
    | some l => (ga f ((x :: r).drop l.length)).map fun o => zag (val l) :: o

theorem ga_fuel : ∀ (n : Nat) (t : List Int) (f g : Nat), t.length ≤ n → t.length ≤ f → t.length ≤ g → ga f t = ga g t
  | _, [], f, g, _, _, _ => by cases f <;> cases g <;> rfl
  | 0, x :: r, _, _, h, _, _ => by simp at h
  | n + 1, x :: r, f, g, h, hf, hg => by
    obtain ⟨f, rfl⟩ : ∃ j, f = j + 1 := ⟨f - 1, by simp at hf; omega⟩
    obtain ⟨g, rfl⟩ : ∃ j, g = j + 1 := ⟨g - 1, by simp at hg; omega⟩
    simp only [ga]
    cases hv : gv (x :: r) with
    | none => rfl
    | some l =>
      have hl := gv_some hv
      have e := ga_fuel n ((x :: r).drop l.length) f g (by simp at *; omega) (by simp at *; omega) (by simp at *; omega)
      simp only [e]

def gall (t : List Int) : Option (List Int) := ga t.length t
theorem gall_nil : gall [] = some [] := rfl
theorem gall_none {t : List Int} (h0 : 0 < t.length) (h : gv t = none) : gall t = none := by
  cases t with
  | nil => simp at h0
  | cons x r => simp only [gall, List.length_cons, ga, h]
theorem gall_some {t l : List Int} (h0 : 0 < t.length) (h : gv t = some l) : gall t = (gall (t.drop l.length)).map fun o => zag (val l) :: o := by
  cases t with
  | nil => simp at h0
  | cons x r =>
    have hl := gv_some h
    simp only [gall, List.length_cons, ga, h]
    rw [ga_fuel (r.length + 1) ((x :: r).drop l.length) r.length ((x :: r).drop l.length).length (by simp) (by simp at *; omega) (by simp)]

/-- What is read so far, and what is still to be read. -/
theorem gall_step {A : Option (List Int)} {xs t l : List Int} (h0 : 0 < t.length) (h : gv t = some l) (hA : A = (gall t).map fun o => xs ++ o) :
    A = (gall (t.drop l.length)).map fun o => (xs ++ [zag (val l)]) ++ o := by
  rw [hA, gall_some h0 h]
  cases gall (t.drop l.length) <;> simp
theorem gall_stop {A : Option (List Int)} {xs t : List Int} (h0 : 0 < t.length) (h : gv t = none) (hA : A = (gall t).map fun o => xs ++ o) : A = none := by
  rw [hA, gall_none h0 h]
  rfl
theorem gall_over {A : Option (List Int)} {xs t : List Int} (hA : A = (gall t).map fun o => xs ++ o) {ys : List Int} (h : A = some ys) : xs.length ≤ ys.length := by
  rw [hA] at h
  cases hg : gall t with
  | none => rw [hg] at h; simp at h
  | some o =>
    rw [hg] at h
    simp at h
    rw [← h]
    simp

/-- The numbers of a text that are at most 60. -/
def gaRes (t : List Int) : Option (List Int) := if t.length ≤ 600 then (gall t).bind (fun xs => if xs.length ≤ 60 then some xs else none) else none
def marks (k : Int) (n : Nat) : List Int := (List.range n).map fun i : Nat => k + (i : Int)
theorem marks_len (k : Int) (n : Nat) : (marks k n).length = n := by simp [marks]
theorem marks_get (k : Int) (n j : Nat) (h : j < n) : (marks k n).getD j 0 = k + (j : Int) := by
  simp [marks, List.getD, h]
end Go.Proofs.Yticgejaaoamhmap.L1
