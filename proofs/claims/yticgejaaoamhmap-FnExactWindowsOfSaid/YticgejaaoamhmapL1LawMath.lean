/-
  Plain mathematics: what is put comes back, each number in one form alone, and smaller ones need no more. Nothing of Go stands here.
-/
import Derived.Test.YticgejaaoamhmapL1AllMath
namespace Go.Proofs.Yticgejaaoamhmap.L1

theorem val_vdf (f : Nat) : ∀ z : Int, 0 ≤ z → z < wor (f + 1) → val (vdf f z) = z := by
  induction f with
  | zero => intro z h1 h2; simp [wor] at h2; simp [vdf, val]; omega
  | succ f ih =>
    intro z h1 h2
    have hw : wor (f + 1 + 1) = 128 * wor (f + 1) := rfl
    simp only [vdf]
    split
    · simp [val]; omega
    · have := ih (z / 128) (by omega) (by omega)
      simp only [val, this]
      omega
theorem val_vd (z : Int) (h1 : 0 ≤ z) (h2 : z ≤ 2000000000000) : val (vd z) = z := val_vdf 5 z h1 (by simp [wor]; omega)

theorem gvf_vdf (f : Nat) : ∀ (z : Int) (pre r : List Int) (F : Nat), f + 1 ≤ F → 0 ≤ z → z < wor (f + 1) → (pre = [] ∨ 1 ≤ z) → val (pre ++ vdf f z) ≤ 2000000000000 → gvf F pre (vdf f z ++ r) = some (pre ++ vdf f z) := by
  induction f with
  | zero =>
    intro z pre r F hF h1 h2 hp hv
    obtain ⟨F, rfl⟩ : ∃ j, F = j + 1 := ⟨F - 1, by omega⟩
    simp [wor] at h2
    simp only [vdf, List.cons_append, List.nil_append, gvf] at hv ⊢
    rw [if_neg (by omega), if_pos ⟨hv, by rcases hp with h | h; exact .inl h; exact .inr (by omega)⟩]
  | succ f ih =>
    intro z pre r F hF h1 h2 hp hv
    obtain ⟨F, rfl⟩ : ∃ j, F = j + 1 := ⟨F - 1, by omega⟩
    have hw : wor (f + 1 + 1) = 128 * wor (f + 1) := rfl
    by_cases hlt : z < 128
    · simp only [vdf, if_pos hlt, List.cons_append, List.nil_append, gvf] at hv ⊢
      rw [if_neg (by omega), if_pos ⟨hv, by rcases hp with h | h; exact .inl h; exact .inr (by omega)⟩]
    · simp only [vdf, if_neg hlt, List.cons_append, gvf] at hv ⊢
      rw [if_pos (by omega)]
      have e : pre ++ (128 + z % 128) :: vdf f (z / 128) = (pre ++ [128 + z % 128]) ++ vdf f (z / 128) := by simp
      rw [e] at hv ⊢
      exact ih (z / 128) (pre ++ [128 + z % 128]) r F (by omega) (by omega) (by omega) (.inr (by omega)) hv
theorem gv_vd (z : Int) (r : List Int) (h1 : 0 ≤ z) (h2 : z ≤ 2000000000000) : gv (vd z ++ r) = some (vd z) := by
  have := gvf_vdf 5 z [] r 6 (by omega) h1 (by simp [wor]; omega) (.inl rfl) (by
    have := val_vd z h1 h2
    unfold vd at this
    simp only [List.nil_append]
    omega)
  simpa [gv, vd] using this

theorem gvf_form : ∀ (F : Nat) (pre t l : List Int), Hi pre → (∀ x ∈ t, 0 ≤ x ∧ x < 256) → pre.length + F ≤ 6 → gvf F pre t = some l → vd (val l) = l ∧ val l ≤ 2000000000000
  | 0, _, _, _, _, _, _, h => by simp [gvf] at h
  | _ + 1, _, [], _, _, _, _, h => by simp [gvf] at h
  | F + 1, pre, x :: r, l, hp, ht, hF, h => by
    have hx := ht x (by simp)
    simp only [gvf] at h
    split at h
    · refine gvf_form F (pre ++ [x]) r l ?_ (fun y hy => ht y (by simp [hy])) (by simp; omega) h
      intro y hy
      simp only [List.mem_append, List.mem_singleton] at hy
      rcases hy with hy | hy
      · exact hp y hy
      · subst hy; omega
    · split at h
      · rename_i hc
        simp only [Option.some.injEq] at h
        subst h
        exact ⟨(vdf_val 5 pre x hp (by omega) (by omega) (by omega)).2 hc.2, hc.1⟩
      · simp at h
theorem gv_form {t l : List Int} (ht : ∀ x ∈ t, 0 ≤ x ∧ x < 256) (h : gv t = some l) : vd (val l) = l ∧ val l ≤ 2000000000000 :=
  gvf_form 6 [] t l (fun x hx => by simp at hx) ht (by simp) h
theorem gv_take {t l : List Int} (h : gv t = some l) : l = t.take l.length := by
  obtain ⟨m, h1, h2, h3⟩ := gvf_some 6 [] t l h
  have : l.length = m := by rw [h3]; simp; omega
  rw [this, h3]
  simp

theorem vd_mono (a b : Int) (h0 : 0 ≤ a) (h : a ≤ b) : (vd a).length ≤ (vd b).length := by
  rcases Nat.lt_or_ge (vd b).length (vd a).length with hlt | hge
  · have h1 := (vdf_len 5 a (vd b).length h0 (vdf_pos 5 b)).1 hlt
    have h2 := (vdf_len 5 b (vd b).length (by omega) (vdf_pos 5 b)).2 ⟨h1.1, by omega⟩
    change (vd b).length < (vd b).length at h2
    omega
  · exact hge
theorem half_le (n : Int) : zig (n.tdiv 2) ≤ zig n ∧ (-1000000000000 ≤ n → -1000000000000 ≤ n.tdiv 2) ∧ (n ≤ 1000000000000 → n.tdiv 2 ≤ 1000000000000) := by
  by_cases h : 0 ≤ n
  · rw [Int.tdiv_eq_ediv_of_nonneg h]
    unfold zig
    rw [if_neg (by omega), if_neg (by omega)]
    omega
  · obtain ⟨m, rfl⟩ : ∃ m, n = -m := ⟨-n, by omega⟩
    rw [Int.neg_tdiv, Int.tdiv_eq_ediv_of_nonneg (by omega)]
    unfold zig
    split <;> split <;> omega
end Go.Proofs.Yticgejaaoamhmap.L1
