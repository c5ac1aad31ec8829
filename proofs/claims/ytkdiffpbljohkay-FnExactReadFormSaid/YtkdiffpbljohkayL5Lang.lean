/-
  What fits a shape; what is left of it by a letter (Brzozowski). Nothing of the program's text is proved here.
-/
import Derived.Test.YtkdiffpbljohkayL5Math
namespace Go.Proofs.Ytkdiffpbljohkay.L5
open Go
set_option linter.unusedVariables false

/-- None or more, one behind the other. -/
inductive Star (p : List Int → Prop) : List Int → Prop where
  | nil : Star p []
  | cons (u v : List Int) : u ≠ [] → p u → Star p v → Star p (u ++ v)
/-- A text fits a shape. -/
def Mt : Sh → List Int → Prop
  | .none, _ => False
  | .empty, s => s = []
  | .letter c, s => s = [c]
  | .any, s => s.length = 1
  | .seq a b, s => ∃ u v, s = u ++ v ∧ Mt a u ∧ Mt b v
  | .alt a b, s => Mt a s ∨ Mt b s
  | .many a, s => Star (Mt a) s
  | .inv a, s => ¬ Mt a s
def nul : Sh → Bool
  | .empty => true
  | .many _ => true
  | .seq a b => nul a && nul b
  | .alt a b => nul a || nul b
  | .inv a => !nul a
  | _ => false
theorem nul_iff : ∀ x, nul x = true ↔ Mt x []
  | .none => by simp [nul, Mt]
  | .empty => by simp [nul, Mt]
  | .letter _ => by simp [nul, Mt]
  | .any => by simp [nul, Mt]
  | .seq a b => by
    simp only [nul, Bool.and_eq_true, nul_iff a, nul_iff b, Mt]
    constructor
    · exact fun h => ⟨[], [], rfl, h.1, h.2⟩
    · rintro ⟨u, v, h, h1, h2⟩
      obtain ⟨rfl, rfl⟩ := List.append_eq_nil_iff.1 h.symm
      exact ⟨h1, h2⟩
  | .alt a b => by simp only [nul, Bool.or_eq_true, nul_iff a, nul_iff b, Mt]
  | .many a => by simp only [nul, Mt, true_iff]; exact .nil
  | .inv a => by
    simp only [nul, Mt, ← nul_iff a]
    cases nul a <;> simp
def oT (a b : Sh) : Sh := if kd a = 1 ∨ kd b = 1 then .none else if kd a = 2 then b else if kd b = 2 then a else .seq a b
def oO (a b : Sh) : Sh := if kd a = 1 then b else if kd b = 1 then a else .alt a b
theorem kd_1 {a : Sh} (h : kd a = 1) : a = .none := by cases a <;> simp [kd] at h; rfl
theorem kd_2 {a : Sh} (h : kd a = 2) : a = .empty := by cases a <;> simp [kd] at h; rfl
theorem Mt_oT (a b : Sh) (s : List Int) : Mt (oT a b) s ↔ Mt (.seq a b) s := by
  unfold oT
  split
  · rename_i h
    rcases h with h | h
    · rw [kd_1 h]; simp [Mt]
    · rw [kd_1 h]; simp [Mt]
  · split
    · rename_i h
      rw [kd_2 h]
      simp only [Mt]
      exact ⟨fun h => ⟨[], s, rfl, rfl, h⟩, fun ⟨u, v, e, hu, hv⟩ => by subst hu; rw [e]; exact hv⟩
    · split
      · rename_i h
        rw [kd_2 h]; simp [Mt]
      · rfl
theorem Mt_oO (a b : Sh) (s : List Int) : Mt (oO a b) s ↔ Mt (.alt a b) s := by
  unfold oO
  split
  · rename_i h
    rw [kd_1 h]; simp [Mt]
  · split
    · rename_i h
      rw [kd_1 h]; simp [Mt]
    · rfl
def left : Sh → Int → Sh
  | .letter d, c => if d = c then .empty else .none
  | .any, _ => .empty
  | .seq a b, c => if nul a = true then oO (oT (left a c) b) (left b c) else oT (left a c) b
  | .alt a b, c => oO (left a c) (left b c)
  | .many a, c => oT (left a c) (.many a)
  | .inv a, c => .inv (left a c)
  | _, _ => .none
theorem seq_cons (p q : List Int → Prop) (c : Int) (s : List Int) : (∃ u v, c :: s = u ++ v ∧ p u ∧ q v) ↔ (∃ u v, s = u ++ v ∧ p (c :: u) ∧ q v) ∨ (p [] ∧ q (c :: s)) := by
  constructor
  · rintro ⟨u, v, h, hu, hv⟩
    cases u with
    | nil => exact .inr ⟨hu, by rw [h]; exact hv⟩
    | cons d u =>
      simp only [List.cons_append, List.cons.injEq] at h
      obtain ⟨rfl, rfl⟩ := h
      exact .inl ⟨u, v, rfl, hu, hv⟩
  · rintro (⟨u, v, rfl, hu, hv⟩ | ⟨h1, h2⟩)
    · exact ⟨c :: u, v, rfl, hu, hv⟩
    · exact ⟨[], c :: s, rfl, h1, h2⟩
theorem star_cons (p : List Int → Prop) (c : Int) (s : List Int) : Star p (c :: s) ↔ ∃ u v, s = u ++ v ∧ p (c :: u) ∧ Star p v := by
  constructor
  · intro h
    generalize e : c :: s = t at h
    cases h with
    | nil => cases e
    | cons u v hne hp hv =>
      cases u with
      | nil => exact absurd rfl hne
      | cons d u =>
        simp only [List.cons_append, List.cons.injEq] at e
        obtain ⟨rfl, rfl⟩ := e
        exact ⟨u, v, rfl, hp, hv⟩
  · rintro ⟨u, v, rfl, hu, hv⟩
    exact Star.cons (c :: u) v (by simp) hu hv
/-- Brzozowski: a text fits what is left by a letter just if it fits behind the letter. -/
theorem brz : ∀ (x : Sh) (c : Int) (s : List Int), Mt (left x c) s ↔ Mt x (c :: s)
  | .none, c, s => by simp [left, Mt]
  | .empty, c, s => by simp [left, Mt]
  | .letter d, c, s => by
    simp only [left]
    split
    · rename_i h; subst h; simp [Mt]
    · rename_i h; simp [Mt, Ne.symm h]
  | .any, c, s => by simp [left, Mt]
  | .seq a b, c, s => by
    have e1 : Mt (oT (left a c) b) s ↔ ∃ u v, s = u ++ v ∧ Mt a (c :: u) ∧ Mt b v := by
      rw [Mt_oT]
      simp only [Mt, brz a c]
    simp only [left]
    rw [show Mt (.seq a b) (c :: s) = ∃ u v, c :: s = u ++ v ∧ Mt a u ∧ Mt b v from rfl, seq_cons, ← nul_iff a, ← e1]
    split
    · rename_i h
      rw [Mt_oO]
      simp only [Mt, brz b c, h, true_and]
    · rename_i h
      simp [h]
  | .alt a b, c, s => by
    rw [left, Mt_oO]
    simp only [Mt, brz a c, brz b c]
  | .many a, c, s => by
    rw [left, Mt_oT]
    simp only [Mt]
    rw [star_cons]
    simp only [brz a c]
  | .inv a, c, s => by simp only [left, Mt, brz a c]
theorem okS_oT {a b : Sh} (ha : okS a) (hb : okS b) : okS (oT a b) := by
  unfold oT
  repeat' split
  · trivial
  · exact hb
  · exact ha
  · exact ⟨ha, hb⟩
theorem okS_oO {a b : Sh} (ha : okS a) (hb : okS b) : okS (oO a b) := by
  unfold oO
  repeat' split
  · exact hb
  · exact ha
  · exact ⟨ha, hb⟩
theorem okS_left : ∀ (x : Sh) (c : Int), okS x → okS (left x c)
  | .none, c, h => trivial
  | .empty, c, h => trivial
  | .letter d, c, h => by simp only [left]; split <;> trivial
  | .any, c, h => trivial
  | .seq a b, c, h => by
    simp only [left]
    split
    · exact okS_oO (okS_oT (okS_left a c h.1) h.2) (okS_left b c h.2)
    · exact okS_oT (okS_left a c h.1) h.2
  | .alt a b, c, h => okS_oO (okS_left a c h.1) (okS_left b c h.2)
  | .many a, c, h => okS_oT (okS_left a c h) h
  | .inv a, c, h => okS_left a c h
theorem sz_oT (a b : Sh) : sz (oT a b) ≤ sz a + sz b + 1 := by
  unfold oT
  repeat' split
  all_goals (try simp only [sz]); omega
theorem sz_oO (a b : Sh) : sz (oO a b) ≤ sz a + sz b + 1 := by
  unfold oO
  repeat' split
  all_goals (try simp only [sz]); omega
/-- What is left has not many parts more. -/
theorem sz_left : ∀ (x : Sh) (c : Int) (n : Nat), sz x ≤ n → sz (left x c) + 2 ≤ 3 * sz x + sz x * n
  | .none, c, n, h => by simp only [left, sz]; omega
  | .empty, c, n, h => by simp only [left, sz]; omega
  | .letter d, c, n, h => by simp only [left]; split <;> simp only [sz] <;> omega
  | .any, c, n, h => by simp only [left, sz]; omega
  | .seq a b, c, n, h => by
    simp only [sz] at h
    have h1 := sz_left a c n (by omega)
    have h2 := sz_left b c n (by omega)
    have h3 := sz_oT (left a c) b
    have h4 := sz_oO (oT (left a c) b) (left b c)
    simp only [sz, Nat.add_mul]
    simp only [left]
    split <;> omega
  | .alt a b, c, n, h => by
    simp only [sz] at h
    have h1 := sz_left a c n (by omega)
    have h2 := sz_left b c n (by omega)
    have h4 := sz_oO (left a c) (left b c)
    simp only [sz, Nat.add_mul, left]
    omega
  | .many a, c, n, h => by
    simp only [sz] at h
    have h1 := sz_left a c n (by omega)
    have h4 := sz_oT (left a c) (.many a)
    simp only [sz] at h4
    simp only [sz, Nat.add_mul, left]
    omega
  | .inv a, c, n, h => by
    simp only [sz] at h
    have h1 := sz_left a c n (by omega)
    simp only [sz, Nat.add_mul, left]
    omega
/-- What is left by a text. -/
def lefts : Sh → List Int → Sh
  | x, [] => x
  | x, c :: s => lefts (left x c) s
theorem lefts_iff : ∀ (s : List Int) (x : Sh), nul (lefts x s) = true ↔ Mt x s
  | [], x => nul_iff x
  | c :: s, x => by rw [lefts, lefts_iff s, brz]
theorem lefts_snoc : ∀ (s : List Int) (x : Sh) (c : Int), lefts x (s ++ [c]) = left (lefts x s) c
  | [], x, c => rfl
  | d :: s, x, c => by rw [List.cons_append, lefts, lefts_snoc s, lefts]
end Go.Proofs.Ytkdiffpbljohkay.L5
