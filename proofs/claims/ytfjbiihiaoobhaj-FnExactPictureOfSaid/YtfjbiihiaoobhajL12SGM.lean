/-
  What is good of a bank, as the model has it. Nothing of the program's text is proved here.
-/
import Derived.Test.YtfjbiihiaoobhajL12GMath
import Derived.Deep.DeepCutAuto
namespace Go.Proofs.Ytfjbiihiaoobhaj.L12
open Go.RowKit L1 L9 Own Sli
set_option linter.unusedVariables false

structure SRow (m : Bk) (i : Nat) : Prop where
  lh : (m.H.getD i []).length = m.n
  lf : (m.F.getD i []).length = m.n
  f : ∀ j, j < (m.F.getD i []).length → 0 ≤ (m.F.getD i []).getD j 0 ∧ (m.F.getD i []).getD j 0 ≤ 1000
  h : m.hd i i = false
structure SCell (m : Bk) (i k : Nat) : Prop where
  w : (m.wy i k).length ≤ 40 ∧ ∀ j, j < (m.wy i k).length → 0 ≤ (m.wy i k).getD j 0 ∧ (m.wy i k).getD j 0 ≤ 50
  r : ¬ (m.kp i < 0 ∧ 39 < (m.wy i k).length)
  e : ¬ (i = k ∧ 0 < (m.wy i k).length)
  h : ¬ (m.kp i < 0 ∧ m.hd i k = true)
  f : ¬ (0 < m.fd i k ∧ (i = k ∨ m.kp k < 0))
structure SOut (m : Bk) : Prop where
  n1 : 1 ≤ m.n
  n5 : m.n ≤ 5
  c : ∀ j, j < m.c.length → 0 ≤ m.c.getD j 0 ∧ m.c.getD j 0 ≤ 1000
  W : m.W.length = m.n * m.n
  k : m.k.length = m.n
  kv : ∀ j, j < m.k.length → -1 ≤ m.k.getD j 0 ∧ m.k.getD j 0 ≤ 1000
  H : m.H.length = m.n
  F : m.F.length = m.n
theorem good_iff (m : Bk) : GoodB m ↔ SOut m ∧ ∀ i, i < m.n → SRow m i ∧ ∀ k, k < m.n → SCell m i k := by
  constructor
  · intro g
    have l := g.l
    refine ⟨⟨l.n1, l.n5, fun j hj => ⟨(g.n j hj).c0, (g.n j hj).c1⟩, l.W, l.k, fun j hj => ⟨(g.n j (by rw [← l.k]; exact hj)).k0, (g.n j (by rw [← l.k]; exact hj)).k1⟩, l.H, l.F⟩, fun i hi => ⟨⟨l.h i hi, l.f i hi, fun j hj => ?_, (g.n i hi).h⟩, fun k hk => ?_⟩⟩
    · rw [l.f i hi] at hj
      by_cases e : i = j
      · subst e
        have : m.fd i i = 0 := (g.n i hi).f
        have e2 : (m.F.getD i []).getD i 0 = 0 := this
        rw [e2]; omega
      · exact ⟨(g.w i j hi hj e).f0, (g.w i j hi hj e).f1⟩
    · have ki := (g.n i hi).k0
      have kk := (g.n k hk).k0
      by_cases e : i = k
      · subst e
        have w0 := (g.n i hi).w
        have h0 := (g.n i hi).h
        have f0 := (g.n i hi).f
        exact ⟨⟨by omega, fun j hj => by omega⟩, fun h => by omega, fun h => by omega, (fun h => by rw [h0] at h; cases h.2), (fun h => by rw [f0] at h; omega)⟩
      · have a := g.w i k hi hk e
        have b := g.w k i hk hi (fun h => e h.symm)
        have hr : m.room i ≤ 40 := by unfold Bk.room; split <;> omega
        refine ⟨⟨Nat.le_trans a.w.1 hr, a.w.2⟩, fun h => ?_, fun h => e h.1, fun h => ?_, fun h => ?_⟩
        · have h1 : m.room i = 39 := by unfold Bk.room; rw [if_pos (by omega)]
          have := a.w.1
          omega
        · have := b.h (by omega)
          rw [this] at h
          cases h.2
        · rcases h.2 with h2 | h2
          · exact e h2
          · have := a.f (by omega); omega
  · rintro ⟨o, r⟩
    refine ⟨⟨o.n1, o.n5, o.W, o.k, o.H, o.F, fun i hi => (r i hi).1.lh, fun i hi => (r i hi).1.lf⟩, fun i hi => ?_, fun i j hi hj hij => ?_⟩
    · obtain ⟨s, c⟩ := r i hi
      have ci := c i hi
      have fi := s.f i (by rw [s.lf]; exact hi)
      refine ⟨(o.c i hi).1, (o.c i hi).2, (o.kv i (by rw [o.k]; exact hi)).1, (o.kv i (by rw [o.k]; exact hi)).2, ?_, s.h, ?_⟩
      · exact Classical.byContradiction (fun h => ci.e ⟨rfl, by omega⟩)
      · have h1 : ¬ 0 < m.fd i i := fun h => ci.f ⟨h, .inl rfl⟩
        have h2 : 0 ≤ m.fd i i := fi.1
        omega
    · obtain ⟨s, c⟩ := r i hi
      have cij := c j hj
      have cji := (r j hj).2 i hi
      have fj := s.f j (by rw [s.lf]; exact hj)
      refine ⟨fj.1, fj.2, fun h => ?_, fun h => ?_, ?_, cij.w.2⟩
      · exact Bool.eq_false_iff.2 (fun h2 => cji.h ⟨by omega, h2⟩)
      · have h1 : ¬ 0 < m.fd i j := fun h2 => cij.f ⟨h2, .inr (by omega)⟩
        have h2 : 0 ≤ m.fd i j := fj.1
        omega
      · unfold Bk.room
        split
        · rename_i e
          exact Classical.byContradiction (fun h => cij.r ⟨by omega, by omega⟩)
        · exact cij.w.1
end Go.Proofs.Ytfjbiihiaoobhaj.L12
