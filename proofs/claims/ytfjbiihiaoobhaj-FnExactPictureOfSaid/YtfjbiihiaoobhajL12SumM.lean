/-
  What a bank has together, and whether its picture is taken. Nothing of the program's text is proved here.
-/
import Derived.Test.YtfjbiihiaoobhajL12GMath
import Derived.Deep.DeepCutAuto
namespace Go.Proofs.Ytfjbiihiaoobhaj.L12
open Go.RowKit L1 L9 Own Sli
set_option linter.unusedVariables false

/-- The first numbers together. -/
def sm (l : List Int) : Nat → Int
  | 0 => 0
  | k + 1 => sm l k + l.getD k 0
/-- The first rows together. -/
def sms (ls : List (List Int)) : Nat → Int
  | 0 => 0
  | k + 1 => sms ls k + sm (ls.getD k []) (ls.getD k []).length
def SmL (l : List Int) : Prop := l.length ≤ 50 ∧ ∀ j, j < l.length → 0 ≤ l.getD j 0 ∧ l.getD j 0 ≤ 1000
def SmLL (ls : List (List Int)) : Prop := ls.length ≤ 50 ∧ ∀ i, i < ls.length → SmL (ls.getD i [])
theorem sm_le {l : List Int} (h : SmL l) : ∀ k, k ≤ l.length → 0 ≤ sm l k ∧ sm l k ≤ 1000 * (k : Int)
  | 0, _ => by simp [sm]
  | k + 1, hk => by
    have h1 := sm_le h k (by omega)
    have h2 := h.2 k (by omega)
    simp only [sm]
    omega
theorem sm_all {l : List Int} (h : SmL l) : 0 ≤ sm l l.length ∧ sm l l.length ≤ 50000 := by
  have h1 := sm_le h l.length (Nat.le_refl _)
  have h2 := h.1
  omega
theorem sms_le {ls : List (List Int)} (h : SmLL ls) : ∀ k, k ≤ ls.length → 0 ≤ sms ls k ∧ sms ls k ≤ 50000 * (k : Int)
  | 0, _ => by simp [sms]
  | k + 1, hk => by
    have h1 := sms_le h k (by omega)
    have h2 := sm_all (h.2 k (by omega))
    simp only [sms]
    omega
def Bk.tot (m : Bk) : Int := sm m.c m.c.length + sms m.W m.W.length
def Bk.pic (m : Bk) : Int := sm m.k m.k.length + sms m.F m.F.length
/-- All are pictured, and have heard all others' marks. -/
def Bk.taken (m : Bk) : Prop := ∀ i, i < m.n → m.kp i ≠ -1 ∧ ∀ j, j < m.n → j ≠ i → m.hd i j = true
theorem GoodB.onW {m : Bk} (g : GoodB m) (q : Nat) (hq : q < m.W.length) : OnOk (m.W.getD q []) 40 := by
  rw [g.l.W] at hq
  have hn := g.l.n1
  obtain ⟨i, j, hi, hj, e⟩ : ∃ i j, i < m.n ∧ j < m.n ∧ q = i * m.n + j := by
    refine ⟨q / m.n, q % m.n, (Nat.div_lt_iff_lt_mul (by omega)).2 hq, Nat.mod_lt _ (by omega), ?_⟩
    rw [Nat.mul_comm]; exact (Nat.div_add_mod q m.n).symm
  subst e
  by_cases e : i = j
  · subst e
    have := (g.n i hi).w
    exact ⟨by have h : (m.W.getD (i * m.n + i) []).length = 0 := this; omega, fun k hk => by have h : (m.W.getD (i * m.n + i) []).length = 0 := this; omega⟩
  · have a := (g.w i j hi hj e).w
    have hr : m.room i ≤ 40 := by unfold Bk.room; split <;> omega
    exact ⟨Nat.le_trans a.1 hr, a.2⟩
theorem GoodB.smc {m : Bk} (g : GoodB m) : SmL m.c := ⟨by have h : m.c.length ≤ 5 := g.l.n5; omega, fun j hj => ⟨(g.n j hj).c0, (g.n j hj).c1⟩⟩
theorem GoodB.smW {m : Bk} (g : GoodB m) : SmLL m.W := ⟨by rw [g.l.W]; have := Nat.mul_le_mul g.l.n5 g.l.n5; omega, fun i hi => ⟨by have := (g.onW i hi).1; omega, fun j hj => by have := (g.onW i hi).2 j hj; omega⟩⟩
theorem GoodB.smF {m : Bk} (g : GoodB m) : SmLL m.F := ⟨by rw [g.l.F]; have := g.l.n5; omega, fun i hi => by
  rw [g.l.F] at hi
  refine ⟨by rw [g.l.f i hi]; have := g.l.n5; omega, fun j hj => ?_⟩
  rw [g.l.f i hi] at hj
  by_cases e : i = j
  · subst e
    have h : (m.F.getD i []).getD i 0 = 0 := (g.n i hi).f
    rw [h]; omega
  · exact ⟨(g.w i j hi hj e).f0, (g.w i j hi hj e).f1⟩⟩
theorem GoodB.smk {m : Bk} (g : GoodB m) (t : m.taken) : SmL m.k := ⟨by rw [g.l.k]; have := g.l.n5; omega, fun j hj => by
  rw [g.l.k] at hj
  have h1 : m.k.getD j 0 ≠ -1 := (t j hj).1
  have h2 : -1 ≤ m.k.getD j 0 := (g.n j hj).k0
  have h3 : m.k.getD j 0 ≤ 1000 := (g.n j hj).k1
  omega⟩
structure TotIs (m : Bk) (r : Int) (ok : Bool) : Prop where
  yes : GoodB m → ok = true ∧ r = m.tot
  no : ¬ GoodB m → ok = false ∧ r = 0
structure PicIs (m : Bk) (r : Int) (ok : Bool) : Prop where
  yes : GoodB m ∧ m.taken → ok = true ∧ r = m.pic
  no : ¬ (GoodB m ∧ m.taken) → ok = false ∧ r = 0
structure TakIs (m : Bk) (r ok : Bool) : Prop where
  ok : ok = true ↔ GoodB m
  r : r = true ↔ GoodB m ∧ m.taken
theorem tot_ex (m : Bk) : ∃ r ok, TotIs m r ok := by
  by_cases h : GoodB m
  · exact ⟨_, true, fun _ => ⟨rfl, rfl⟩, fun h' => absurd h h'⟩
  · exact ⟨0, false, fun h' => absurd h' h, fun _ => ⟨rfl, rfl⟩⟩
theorem pic_ex (m : Bk) : ∃ r ok, PicIs m r ok := by
  by_cases h : GoodB m ∧ m.taken
  · exact ⟨_, true, fun _ => ⟨rfl, rfl⟩, fun h' => absurd h h'⟩
  · exact ⟨0, false, fun h' => absurd h' h, fun _ => ⟨rfl, rfl⟩⟩
theorem tak_ex (m : Bk) : ∃ r ok, TakIs m r ok := by
  classical
  exact ⟨decide (GoodB m ∧ m.taken), decide (GoodB m), by simp, by simp⟩
end Go.Proofs.Ytfjbiihiaoobhaj.L12
