/-
  Plain mathematics of the search for what came first. Nothing of Go stands here.
-/
import Derived.Test.YtkfnejiiancmhaiL11Math
import Derived.Test.YtkfnejiiancmhaiL4Math
namespace Go.Proofs.Ytkfnejiiancmhai.L11
open L4
set_option linter.unusedVariables false

theorem anc_par {l : List Ev} {p i k : Nat} (hp : Par l p i) (h : Anc l i k) : Anc l p k := by
  induction h with
  | one h => exact .more h (.one hp)
  | more h _ ih => exact .more h ih
/-- How many numbers below one are not in a list. -/
def unv (xs : List Int) : Nat → Nat
  | 0 => 0
  | m + 1 => unv xs m + if (m : Int) ∈ xs then 0 else 1
theorem unv_same (xs : List Int) (x : Int) : ∀ m : Nat, (∀ q : Nat, q < m → (q : Int) ≠ x) → unv (put xs x) m = unv xs m
  | 0, _ => rfl
  | m + 1, h => by
    have ih := unv_same xs x m (fun q hq => h q (by omega))
    have hm := h m (by omega)
    have e : (m : Int) ∈ put xs x ↔ (m : Int) ∈ xs := by rw [put_mem]; exact ⟨fun h => h.resolve_left hm, .inr⟩
    unfold unv
    rw [ih]
    simp only [e]
theorem unv_put (xs : List Int) (p : Nat) (hx : (p : Int) ∉ xs) : ∀ m : Nat, p < m → unv (put xs (p : Int)) m + 1 = unv xs m
  | 0, h => by omega
  | m + 1, h => by
    unfold unv
    by_cases e : p = m
    · subst e
      rw [unv_same xs (p : Int) p (fun q hq => by omega), if_pos (by rw [put_mem]; exact .inl rfl), if_neg hx]
    · have ih := unv_put xs p hx m (by omega)
      have e2 : (m : Int) ∈ put xs (p : Int) ↔ (m : Int) ∈ xs := by rw [put_mem]; exact ⟨fun h => h.resolve_left (by omega), .inr⟩
      simp only [e2]
      omega
/-- While it is searched: what is found, and what is wanted. -/
structure BI (l : List Ev) (k : Nat) (xs ws : List Int) : Prop where
  anc : ∀ x ∈ xs, ∃ p : Nat, x = (p : Int) ∧ Anc l p k
  want : ∀ x ∈ ws, x = (k : Int) ∨ x ∈ xs
  clos : ∀ q : Nat, ((q : Int) = (k : Int) ∨ (q : Int) ∈ xs) → (q : Int) ∉ ws → ∀ p : Nat, Par l p q → (p : Int) ∈ xs
  len : xs.length + unv xs k = k
  wl : ws.length ≤ xs.length + 1
/-- The same within a round, the first ones of what an event comes of being seen to. -/
structure BJ (l : List Ev) (k i j : Nat) (xs ws : List Int) : Prop where
  anc : ∀ x ∈ xs, ∃ p : Nat, x = (p : Int) ∧ Anc l p k
  want : ∀ x ∈ ws, x = (k : Int) ∨ x ∈ xs
  own : (i : Int) = (k : Int) ∨ (i : Int) ∈ xs
  clos : ∀ q : Nat, ((q : Int) = (k : Int) ∨ (q : Int) ∈ xs) → (q : Int) ∉ ws → q ≠ i → ∀ p : Nat, Par l p q → (p : Int) ∈ xs
  first : 1 ≤ j → ∀ p : Nat, pri l (nd l i) i = (p : Int) → (p : Int) ∈ xs
  second : 2 ≤ j → ∀ p : Nat, fr l i = (p : Int) → p < i → (p : Int) ∈ xs
  len : xs.length + unv xs k = k
  wl : ws.length ≤ xs.length
theorem bi_start (l : List Ev) (k : Nat) : BI l k [] [(k : Int)] := by
  refine ⟨fun x hx => by simp at hx, fun x hx => .inl (by simpa using hx), fun q hq hw => ?_, ?_, by simp⟩
  · rcases hq with h | h
    · exact absurd (by simp [h]) hw
    · simp at h
  · have h : ∀ m, unv [] m = m := fun m => by
      induction m with
      | zero => rfl
      | succ m ih => simp [unv, ih]
    rw [h]; simp
theorem BI.pop {l : List Ev} {k i : Nat} {xs ws : List Int} (h : BI l k xs ((i : Int) :: ws)) : BJ l k i 0 xs ws :=
  ⟨h.anc, fun x hx => h.want x (by simp [hx]), h.want _ (by simp), fun q hq hw hqi p hp => h.clos q hq (by simp only [List.mem_cons, not_or]; exact ⟨by omega, hw⟩) p hp, fun h => by omega, fun h => by omega, h.len, by have := h.wl; simp at this; omega⟩
theorem BJ.shut {l : List Ev} {k i : Nat} {xs ws : List Int} (h : BJ l k i 2 xs ws) : BI l k xs ws := by
  refine ⟨h.anc, h.want, fun q hq hw p hp => ?_, h.len, by have := h.wl; omega⟩
  by_cases e : q = i
  · subst e
    rcases hp with h1 | h1
    · exact h.first (by omega) p h1
    · exact h.second (by omega) p h1.1 h1.2
  · exact h.clos q hq hw e p hp
theorem BJ.idx {l : List Ev} {k i j : Nat} {xs ws : List Int} (h : BJ l k i j xs ws) : i ≤ k := by
  rcases h.own with h1 | h1
  · omega
  · obtain ⟨p, e, ha⟩ := h.anc _ h1
    have := ha.lt
    omega
/-- The number of what an event comes of, the j-th. -/
def parN (l : List Ev) (i j : Nat) : Int := if j = 0 then pri l (nd l i) i else fr l i
theorem parN_par {l : List Ev} {i j p : Nat} (h : parN l i j = (p : Int)) (hf : fr l i < (i : Int)) : Par l p i := by
  unfold parN at h
  split at h
  · exact .inl h
  · exact .inr ⟨h, by omega⟩
theorem BJ.skip {l : List Ev} {k i j : Nat} {xs ws : List Int} (h : BJ l k i j xs ws) (hj : j < 2) (hs : ∀ p : Nat, parN l i j = (p : Int) → (p : Int) ∈ xs) : BJ l k i (j + 1) xs ws := by
  refine ⟨h.anc, h.want, h.own, h.clos, fun _ p hp => ?_, fun h2 p hp hpi => ?_, h.len, h.wl⟩
  · by_cases e : j = 0
    · subst e; exact hs p hp
    · exact h.first (by omega) p hp
  · obtain rfl : j = 1 := by omega
    exact hs p hp
theorem BJ.add {l : List Ev} {k i j p : Nat} {xs ws : List Int} (h : BJ l k i j xs ws) (hj : j < 2) (hf : fr l i < (i : Int)) (hp : parN l i j = (p : Int)) (hn : (p : Int) ∉ xs) (hlen : (put xs (p : Int)).length = xs.length + 1) : BJ l k i (j + 1) (put xs (p : Int)) (ws ++ [(p : Int)]) := by
  have hpar := parN_par hp hf
  have hki := h.idx
  have hpk : p < k := by have := hpar.lt; omega
  refine ⟨fun x hx => ?_, fun x hx => ?_, ?_, fun q hq hw hqi r hr => ?_, fun _ r hr => ?_, fun h2 r hr hri => ?_, ?_, ?_⟩
  · rcases (put_mem _ _ _).1 hx with rfl | hx
    · refine ⟨p, rfl, ?_⟩
      rcases h.own with h1 | h1
      · obtain rfl : i = k := by omega
        exact .one hpar
      · obtain ⟨r, e, ha⟩ := h.anc _ h1
        obtain rfl : i = r := by omega
        exact anc_par hpar ha
    · exact h.anc x hx
  · rcases List.mem_append.1 hx with hx | hx
    · rcases h.want x hx with h1 | h1
      · exact .inl h1
      · exact .inr ((put_mem _ _ _).2 (.inr h1))
    · exact .inr ((put_mem _ _ _).2 (.inl (by simpa using hx)))
  · rcases h.own with h1 | h1
    · exact .inl h1
    · exact .inr ((put_mem _ _ _).2 (.inr h1))
  · have hw1 : (q : Int) ∉ ws := fun hh => hw (List.mem_append.2 (.inl hh))
    have hw2 : (q : Int) ≠ (p : Int) := fun hh => hw (List.mem_append.2 (.inr (by simp [hh])))
    refine (put_mem _ _ _).2 (.inr (h.clos q ?_ hw1 hqi r hr))
    rcases hq with h1 | h1
    · exact .inl h1
    · exact .inr (((put_mem _ _ _).1 h1).resolve_left hw2)
  · by_cases e : j = 0
    · subst e
      have : parN l i 0 = (r : Int) := hr
      rw [hp] at this
      exact (put_mem _ _ _).2 (.inl (by omega))
    · exact (put_mem _ _ _).2 (.inr (h.first (by omega) r hr))
  · obtain rfl : j = 1 := by omega
    have : parN l i 1 = (r : Int) := hr
    rw [hp] at this
    exact (put_mem _ _ _).2 (.inl (by omega))
  · have h1 := h.len
    have h2 := unv_put xs p hn k hpk
    omega
  · have := h.wl
    rw [List.length_append, hlen]
    simp
    omega
/-- At the end all is found. -/
theorem BI.all {l : List Ev} {k : Nat} {xs : List Int} (h : BI l k xs []) (p : Nat) : (p : Int) ∈ xs ↔ Anc l p k := by
  constructor
  · intro hx
    obtain ⟨q, e, ha⟩ := h.anc _ hx
    obtain rfl : p = q := by omega
    exact ha
  · intro ha
    have key : ∀ {a b : Nat}, Anc l a b → ((b : Int) = (k : Int) ∨ (b : Int) ∈ xs) → (a : Int) ∈ xs := fun {a b} hab => by
      induction hab with
      | one h1 => intro hb; exact h.clos _ hb (by simp) _ h1
      | more h1 _ ih => intro hb; exact ih (.inr (h.clos _ hb (by simp) _ h1))
    exact key ha (.inl rfl)
theorem put_len_new (xs : List Int) (x : Int) (hx : x ∉ xs) : (put xs x).length = xs.length + 1 := by
  unfold put
  split
  · rename_i h
    exfalso
    apply hx
    rw [← h.2]
    simp only [List.getD, List.getElem?_eq_getElem h.1, Option.getD_some]
    exact List.getElem_mem h.1
  · simp; omega
end Go.Proofs.Ytkfnejiiancmhai.L11
