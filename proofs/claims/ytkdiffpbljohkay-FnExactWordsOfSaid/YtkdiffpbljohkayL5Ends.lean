/-
  Tables of where pieces that fit can end, as numbers of bits. Nothing of the program's text is proved here.
-/
import Derived.Test.YtkdiffpbljohkayL5Lang
namespace Go.Proofs.Ytkdiffpbljohkay.L5
open Go
set_option linter.unusedVariables false

/-- A table with one row written. -/
def upd (E : Nat → Nat) (i v : Nat) : Nat → Nat := fun k => if k = i then v else E k
theorem upd_self (E : Nat → Nat) (i v : Nat) : upd E i v i = v := by simp [upd]
theorem upd_ne (E : Nat → Nat) (i v k : Nat) (h : k ≠ i) : upd E i v k = E k := by simp [upd, h]
theorem upd_upd (E : Nat → Nat) (i u v : Nat) : upd (upd E i u) i v = upd E i v := by
  funext k; unfold upd; split <;> rfl
/-- One row of a table behind another one, by its first places. -/
def thR (E F : Nat → Nat) (i : Nat) : Nat → Nat
  | 0 => 0
  | m + 1 => if (E i).testBit m = true then thR E F i m ||| F m else thR E F i m
def thE (E F : Nat → Nat) : Nat → (Nat → Nat)
  | 0 => fun _ => 0
  | k + 1 => upd (thE E F k) k (thR E F k 13)
def orE (E F : Nat → Nat) : Nat → (Nat → Nat)
  | 0 => E
  | k + 1 => upd (orE E F k) k (E k ||| F k)
def mrR (E M : Nat → Nat) (i : Nat) : Nat → Nat
  | 0 => 2 ^ i
  | c + 1 => if (E i).testBit (i + 1 + c) = true then mrR E M i c ||| M (i + 1 + c) else mrR E M i c
/-- The table of many, from the text's end on. -/
def mrE (E : Nat → Nat) (n : Nat) : Nat → (Nat → Nat)
  | 0 => fun _ => 0
  | d + 1 => upd (mrE E n d) (n - d) (mrR E (mrE E n d) (n - d) d)
def ntR (E : Nat → Nat) (i : Nat) : Nat → Nat
  | 0 => 0
  | c + 1 => if (E i).testBit (i + c) = true then ntR E i c else ntR E i c ||| 2 ^ (i + c)
def ntE (E : Nat → Nat) (n : Nat) : Nat → (Nat → Nat)
  | 0 => fun _ => 0
  | k + 1 => upd (ntE E n k) k (ntR E k (n + 1 - k))
def emE : Nat → (Nat → Nat)
  | 0 => fun _ => 0
  | k + 1 => upd (emE k) k (2 ^ k)
def anE : Nat → (Nat → Nat)
  | 0 => fun _ => 0
  | k + 1 => upd (anE k) k (2 * 2 ^ k)
def leE (c : Int) (s : List Int) : Nat → (Nat → Nat)
  | 0 => fun _ => 0
  | k + 1 => if s.getD k 0 = c then upd (leE c s k) k (2 * 2 ^ k) else leE c s k
/-- The table of a shape and a text. -/
def ev (s : List Int) : Sh → (Nat → Nat)
  | .none => fun _ => 0
  | .empty => emE (s.length + 1)
  | .letter c => leE c s s.length
  | .any => anE s.length
  | .seq a b => thE (ev s a) (ev s b) 13
  | .alt a b => orE (ev s a) (ev s b) 13
  | .many a => mrE (ev s a) s.length (s.length + 1)
  | .inv a => ntE (ev s a) s.length (s.length + 1)
/-- A piece of a text. -/
def pc (s : List Int) (i j : Nat) : List Int := (s.drop i).take (j - i)
theorem pc_len (s : List Int) (i j : Nat) (hj : j ≤ s.length) : (pc s i j).length = j - i := by
  simp [pc]; omega
theorem pc_self (s : List Int) (i : Nat) : pc s i i = [] := by simp [pc]
theorem pc_app (s : List Int) (i m j : Nat) (h1 : i ≤ m) (h2 : m ≤ j) : pc s i j = pc s i m ++ pc s m j := by
  unfold pc
  have e : j - i = (m - i) + (j - m) := by omega
  rw [e, List.take_add, List.drop_drop]
  congr 2
  congr 1
  omega
theorem pc_one (s : List Int) (i : Nat) (h : i < s.length) : pc s i (i + 1) = [s.getD i 0] := by
  unfold pc
  rw [show i + 1 - i = 1 by omega, List.drop_eq_getElem_cons h, List.take_succ_cons, List.take_zero]
  simp [List.getD, List.getElem?_eq_getElem h]
theorem pc_all (s : List Int) : pc s 0 s.length = s := by simp [pc]
/-- What a table says: which pieces fit. -/
def Ok (s : List Int) (x : Sh) (E : Nat → Nat) : Prop := ∀ i j, ((E i).testBit j = true ↔ i ≤ j ∧ j ≤ s.length ∧ Mt x (pc s i j))
theorem tb_or (p q j : Nat) : (p ||| q).testBit j = true ↔ p.testBit j = true ∨ q.testBit j = true := by
  rw [Nat.testBit_or, Bool.or_eq_true]
theorem tb_pow (i j : Nat) : (2 ^ i).testBit j = true ↔ i = j := by
  rw [Nat.testBit_two_pow]; simp
theorem tb_pow2 (i j : Nat) : (2 * 2 ^ i).testBit j = true ↔ i + 1 = j := by
  rw [← Nat.pow_succ', tb_pow]
theorem tb_zero (j : Nat) : (0 : Nat).testBit j = true ↔ False := by simp
theorem thR_bit (E F : Nat → Nat) (i j : Nat) : ∀ m, (thR E F i m).testBit j = true ↔ ∃ q, q < m ∧ (E i).testBit q = true ∧ (F q).testBit j = true
  | 0 => by simp [thR]
  | m + 1 => by
    have ih := thR_bit E F i j m
    unfold thR
    split
    · rename_i h
      rw [tb_or, ih]
      constructor
      · rintro (⟨q, h1, h2⟩ | h1)
        · exact ⟨q, by omega, h2⟩
        · exact ⟨m, by omega, h, h1⟩
      · rintro ⟨q, h1, h2, h3⟩
        by_cases e : q = m
        · subst e; exact .inr h3
        · exact .inl ⟨q, by omega, h2, h3⟩
    · rename_i h
      rw [ih]
      constructor
      · rintro ⟨q, h1, h2⟩; exact ⟨q, by omega, h2⟩
      · rintro ⟨q, h1, h2, h3⟩
        by_cases e : q = m
        · subst e; exact absurd h2 h
        · exact ⟨q, by omega, h2, h3⟩
theorem thE_get (E F : Nat → Nat) : ∀ k i, thE E F k i = if i < k then thR E F i 13 else 0
  | 0, i => by simp [thE]
  | k + 1, i => by
    unfold thE upd
    rw [thE_get E F k i]
    by_cases e : i = k
    · subst e; simp
    · rw [if_neg e]
      by_cases h : i < k
      · rw [if_pos h, if_pos (by omega)]
      · rw [if_neg h, if_neg (by omega)]
theorem orE_get (E F : Nat → Nat) : ∀ k i, orE E F k i = if i < k then E i ||| F i else E i
  | 0, i => by simp [orE]
  | k + 1, i => by
    unfold orE upd
    rw [orE_get E F k i]
    by_cases e : i = k
    · subst e; simp
    · rw [if_neg e]
      by_cases h : i < k
      · rw [if_pos h, if_pos (by omega)]
      · rw [if_neg h, if_neg (by omega)]
theorem ntR_bit (E : Nat → Nat) (i j : Nat) : ∀ c, (ntR E i c).testBit j = true ↔ i ≤ j ∧ j < i + c ∧ ¬ (E i).testBit j = true
  | 0 => by simp [ntR]; omega
  | c + 1 => by
    have ih := ntR_bit E i j c
    unfold ntR
    split
    · rename_i h
      rw [ih]
      constructor
      · rintro ⟨h1, h2, h3⟩; exact ⟨h1, by omega, h3⟩
      · rintro ⟨h1, h2, h3⟩
        by_cases e : j = i + c
        · subst e; exact absurd h h3
        · exact ⟨h1, by omega, h3⟩
    · rename_i h
      rw [tb_or, ih, tb_pow]
      constructor
      · rintro (⟨h1, h2, h3⟩ | rfl)
        · exact ⟨h1, by omega, h3⟩
        · exact ⟨by omega, by omega, h⟩
      · rintro ⟨h1, h2, h3⟩
        by_cases e : j = i + c
        · exact .inr e.symm
        · exact .inl ⟨h1, by omega, h3⟩
theorem ntE_get (E : Nat → Nat) (n : Nat) : ∀ k i, ntE E n k i = if i < k then ntR E i (n + 1 - i) else 0
  | 0, i => by simp [ntE]
  | k + 1, i => by
    unfold ntE upd
    rw [ntE_get E n k i]
    by_cases e : i = k
    · subst e; simp
    · rw [if_neg e]
      by_cases h : i < k
      · rw [if_pos h, if_pos (by omega)]
      · rw [if_neg h, if_neg (by omega)]
theorem emE_get : ∀ k i, emE k i = if i < k then 2 ^ i else 0
  | 0, i => by simp [emE]
  | k + 1, i => by
    unfold emE upd
    rw [emE_get k i]
    by_cases e : i = k
    · subst e; simp
    · rw [if_neg e]
      by_cases h : i < k
      · rw [if_pos h, if_pos (by omega)]
      · rw [if_neg h, if_neg (by omega)]
theorem anE_get : ∀ k i, anE k i = if i < k then 2 * 2 ^ i else 0
  | 0, i => by simp [anE]
  | k + 1, i => by
    unfold anE upd
    rw [anE_get k i]
    by_cases e : i = k
    · subst e; simp
    · rw [if_neg e]
      by_cases h : i < k
      · rw [if_pos h, if_pos (by omega)]
      · rw [if_neg h, if_neg (by omega)]
theorem leE_get (c : Int) (s : List Int) : ∀ k i, leE c s k i = if i < k ∧ s.getD i 0 = c then 2 * 2 ^ i else 0
  | 0, i => by simp [leE]
  | k + 1, i => by
    unfold leE
    split
    · rename_i h
      unfold upd
      rw [leE_get c s k i]
      by_cases e : i = k
      · subst e; rw [if_pos rfl, if_pos ⟨by omega, h⟩]
      · rw [if_neg e]
        by_cases h2 : i < k ∧ s.getD i 0 = c
        · rw [if_pos h2, if_pos ⟨by omega, h2.2⟩]
        · rw [if_neg h2, if_neg (fun x => h2 ⟨by omega, x.2⟩)]
    · rename_i h
      rw [leE_get c s k i]
      by_cases h2 : i < k ∧ s.getD i 0 = c
      · rw [if_pos h2, if_pos ⟨by omega, h2.2⟩]
      · rw [if_neg h2, if_neg (fun x => h2 ⟨by
          have := x.1
          by_cases e : i = k
          · subst e; exact absurd x.2 h
          · omega, x.2⟩)]
theorem mrE_get (E : Nat → Nat) (n : Nat) : ∀ d i, d ≤ n + 1 → mrE E n d i = if i ≤ n ∧ n < i + d then mrR E (mrE E n (n - i)) i (n - i) else 0
  | 0, i, _ => by rw [if_neg (by omega)]; rfl
  | d + 1, i, hd => by
    have ih := mrE_get E n d i (by omega)
    show upd (mrE E n d) (n - d) (mrR E (mrE E n d) (n - d) d) i = _
    by_cases e : i = n - d
    · rw [if_pos (by omega), e, upd_self]
      have e1 : n - (n - d) = d := by omega
      rw [e1]
    · rw [upd_ne _ _ _ _ e, ih]
      by_cases h : i ≤ n ∧ n < i + d
      · rw [if_pos h, if_pos (by omega)]
      · rw [if_neg h, if_neg (by omega)]
theorem mrR_bit (E M : Nat → Nat) (i j : Nat) : ∀ c, (mrR E M i c).testBit j = true ↔ i = j ∨ ∃ q, i < q ∧ q < i + 1 + c ∧ (E i).testBit q = true ∧ (M q).testBit j = true
  | 0 => by
    unfold mrR
    rw [tb_pow]
    constructor
    · exact .inl
    · rintro (h | ⟨q, h1, h2, _⟩)
      · exact h
      · omega
  | c + 1 => by
    have ih := mrR_bit E M i j c
    unfold mrR
    split
    · rename_i h
      rw [tb_or, ih]
      constructor
      · rintro ((h1 | ⟨q, h1, h2, h3⟩) | h1)
        · exact .inl h1
        · exact .inr ⟨q, h1, by omega, h3⟩
        · exact .inr ⟨i + 1 + c, by omega, by omega, h, h1⟩
      · rintro (h1 | ⟨q, h1, h2, h3, h4⟩)
        · exact .inl (.inl h1)
        · by_cases e : q = i + 1 + c
          · subst e; exact .inr h4
          · exact .inl (.inr ⟨q, h1, by omega, h3, h4⟩)
    · rename_i h
      rw [ih]
      constructor
      · rintro (h1 | ⟨q, h1, h2, h3⟩)
        · exact .inl h1
        · exact .inr ⟨q, h1, by omega, h3⟩
      · rintro (h1 | ⟨q, h1, h2, h3, h4⟩)
        · exact .inl h1
        · by_cases e : q = i + 1 + c
          · subst e; exact absurd h3 h
          · exact .inr ⟨q, h1, by omega, h3, h4⟩
/-- None or more, by the first of the pieces. -/
theorem star_pc (p : List Int → Prop) (s : List Int) (i j : Nat) (hij : i ≤ j) (hj : j ≤ s.length) : Star p (pc s i j) ↔ i = j ∨ ∃ q, i < q ∧ q ≤ j ∧ p (pc s i q) ∧ Star p (pc s q j) := by
  constructor
  · intro h
    generalize e : pc s i j = t at h
    cases h with
    | nil =>
      have := pc_len s i j hj
      rw [e] at this
      simp at this
      exact .inl (by omega)
    | cons u v hne hp hv =>
      right
      have hl := pc_len s i j hj
      rw [e, List.length_append] at hl
      have hu : 0 < u.length := List.length_pos_iff.2 hne
      have e2 := pc_app s i (i + u.length) j (by omega) (by omega)
      rw [e] at e2
      have hlu := pc_len s i (i + u.length) (by omega)
      obtain ⟨h1, h2⟩ := List.append_inj e2 (by omega)
      exact ⟨i + u.length, by omega, by omega, by rw [← h1]; exact hp, by rw [← h2]; exact hv⟩
  · rintro (rfl | ⟨q, h1, h2, h3, h4⟩)
    · rw [pc_self]; exact .nil
    · rw [pc_app s i q j (by omega) h2]
      refine Star.cons _ _ (fun e => ?_) h3 h4
      have := pc_len s i q (by omega)
      rw [e] at this
      simp at this
      omega
theorem seq_pc (p q : List Int → Prop) (s : List Int) (i j : Nat) (hij : i ≤ j) (hj : j ≤ s.length) : (∃ u v, pc s i j = u ++ v ∧ p u ∧ q v) ↔ ∃ m, i ≤ m ∧ m ≤ j ∧ p (pc s i m) ∧ q (pc s m j) := by
  constructor
  · rintro ⟨u, v, e, hu, hv⟩
    have hl := pc_len s i j hj
    rw [e, List.length_append] at hl
    have e2 := pc_app s i (i + u.length) j (by omega) (by omega)
    rw [e] at e2
    have hlu := pc_len s i (i + u.length) (by omega)
    obtain ⟨h1, h2⟩ := List.append_inj e2 (by omega)
    exact ⟨i + u.length, by omega, by omega, by rw [← h1]; exact hu, by rw [← h2]; exact hv⟩
  · rintro ⟨m, h1, h2, h3, h4⟩
    exact ⟨_, _, pc_app s i m j h1 h2, h3, h4⟩
/-- The table tells which pieces fit. -/
theorem ev_ok (s : List Int) (hs : s.length ≤ 12) : ∀ x, Ok s x (ev s x)
  | .none => fun i j => by simp [ev, Mt]
  | .empty => fun i j => by
    show (emE (s.length + 1) i).testBit j = true ↔ _
    rw [emE_get]
    split
    · rename_i h
      rw [tb_pow]
      constructor
      · rintro rfl; exact ⟨Nat.le_refl _, by omega, pc_self s i⟩
      · rintro ⟨h1, h2, h3⟩
        have := pc_len s i j h2
        simp only [Mt] at h3
        rw [h3] at this
        simp at this
        omega
    · rename_i h
      rw [tb_zero]
      constructor
      · exact False.elim
      · rintro ⟨h1, h2, _⟩; omega
  | .letter c => fun i j => by
    show (leE c s s.length i).testBit j = true ↔ _
    rw [leE_get]
    split
    · rename_i h
      rw [tb_pow2]
      constructor
      · rintro rfl
        refine ⟨by omega, by omega, ?_⟩
        rw [pc_one s i h.1, h.2]; rfl
      · rintro ⟨h1, h2, h3⟩
        have := pc_len s i j h2
        simp only [Mt] at h3
        rw [h3] at this
        simp at this
        omega
    · rename_i h
      rw [tb_zero]
      constructor
      · exact False.elim
      · rintro ⟨h1, h2, h3⟩
        have hl := pc_len s i j h2
        simp only [Mt] at h3
        rw [h3] at hl
        simp at hl
        obtain rfl : j = i + 1 := by omega
        rw [pc_one s i (by omega)] at h3
        simp at h3
        exact h ⟨by omega, by simpa using h3⟩
  | .any => fun i j => by
    show (anE s.length i).testBit j = true ↔ _
    rw [anE_get]
    split
    · rename_i h
      rw [tb_pow2]
      constructor
      · rintro rfl
        refine ⟨by omega, by omega, ?_⟩
        show (pc s i (i + 1)).length = 1
        rw [pc_len s i (i + 1) (by omega)]; omega
      · rintro ⟨h1, h2, h3⟩
        have := pc_len s i j h2
        simp only [Mt] at h3
        omega
    · rename_i h
      rw [tb_zero]
      constructor
      · exact False.elim
      · rintro ⟨h1, h2, h3⟩
        have hl := pc_len s i j h2
        simp only [Mt] at h3
        omega
  | .seq a b => fun i j => by
    have ha := ev_ok s hs a
    have hb := ev_ok s hs b
    show (thE (ev s a) (ev s b) 13 i).testBit j = true ↔ _
    rw [thE_get]
    split
    · rename_i h
      rw [thR_bit]
      constructor
      · rintro ⟨q, h1, h2, h3⟩
        have h2 := (ha i q).1 h2
        have h3 := (hb q j).1 h3
        exact ⟨by omega, h3.2.1, (seq_pc _ _ s i j (by omega) h3.2.1).2 ⟨q, h2.1, h3.1, h2.2.2, h3.2.2⟩⟩
      · rintro ⟨h1, h2, h3⟩
        obtain ⟨m, h4, h5, h6, h7⟩ := (seq_pc _ _ s i j h1 h2).1 h3
        exact ⟨m, by omega, (ha i m).2 ⟨h4, by omega, h6⟩, (hb m j).2 ⟨h5, h2, h7⟩⟩
    · rename_i h
      rw [tb_zero]
      constructor
      · exact False.elim
      · rintro ⟨h1, h2, _⟩; omega
  | .alt a b => fun i j => by
    have ha := ev_ok s hs a
    have hb := ev_ok s hs b
    show (orE (ev s a) (ev s b) 13 i).testBit j = true ↔ _
    rw [orE_get]
    split
    · rw [tb_or, ha i j, hb i j]
      simp only [Mt]
      constructor
      · rintro (⟨h1, h2, h3⟩ | ⟨h1, h2, h3⟩)
        · exact ⟨h1, h2, .inl h3⟩
        · exact ⟨h1, h2, .inr h3⟩
      · rintro ⟨h1, h2, h3 | h3⟩
        · exact .inl ⟨h1, h2, h3⟩
        · exact .inr ⟨h1, h2, h3⟩
    · rename_i h
      constructor
      · intro h1
        have := (ha i j).1 h1
        omega
      · rintro ⟨h1, h2, _⟩; omega
  | .many a => by
    have ha := ev_ok s hs a
    have key : ∀ d i j, s.length - i ≤ d → ((mrE (ev s a) s.length (s.length + 1) i).testBit j = true ↔ i ≤ j ∧ j ≤ s.length ∧ Star (Mt a) (pc s i j)) := by
      intro d
      induction d with
      | zero =>
        intro i j hd
        rw [mrE_get _ _ _ _ (Nat.le_refl _)]
        by_cases h : i ≤ s.length ∧ s.length < i + (s.length + 1)
        · rw [if_pos h, mrR_bit]
          constructor
          · rintro (rfl | ⟨q, h1, h2, _⟩)
            · exact ⟨Nat.le_refl _, h.1, by rw [pc_self]; exact .nil⟩
            · omega
          · rintro ⟨h1, h2, _⟩; exact .inl (by omega)
        · rw [if_neg h, tb_zero]
          constructor
          · exact False.elim
          · rintro ⟨h1, h2, _⟩; omega
      | succ d ih =>
        intro i j hd
        rw [mrE_get _ _ _ _ (Nat.le_refl _)]
        by_cases h : i ≤ s.length ∧ s.length < i + (s.length + 1)
        · rw [if_pos h, mrR_bit]
          have hM : ∀ q, i < q → q ≤ s.length → mrE (ev s a) s.length (s.length - i) q = mrE (ev s a) s.length (s.length + 1) q := by
            intro q h1 h2
            rw [mrE_get _ _ _ _ (by omega), mrE_get _ _ _ _ (Nat.le_refl _), if_pos (by omega), if_pos (by omega)]
          constructor
          · rintro (rfl | ⟨q, h1, h2, h3, h4⟩)
            · exact ⟨Nat.le_refl _, h.1, by rw [pc_self]; exact .nil⟩
            · have h3 := (ha i q).1 h3
              rw [hM q h1 h3.2.1] at h4
              have h4 := (ih q j (by omega)).1 h4
              exact ⟨by omega, h4.2.1, (star_pc _ s i j (by omega) h4.2.1).2 (.inr ⟨q, h1, h4.1, h3.2.2, h4.2.2⟩)⟩
          · rintro ⟨h1, h2, h3⟩
            rcases (star_pc _ s i j h1 h2).1 h3 with e | ⟨q, h4, h5, h6, h7⟩
            · exact .inl e
            · right
              refine ⟨q, h4, by omega, (ha i q).2 ⟨by omega, by omega, h6⟩, ?_⟩
              rw [hM q h4 (by omega)]
              exact (ih q j (by omega)).2 ⟨h5, h2, h7⟩
        · rw [if_neg h, tb_zero]
          constructor
          · exact False.elim
          · rintro ⟨h1, h2, _⟩; omega
    exact fun i j => key (s.length - i) i j (Nat.le_refl _)
  | .inv a => fun i j => by
    have ha := ev_ok s hs a
    show (ntE (ev s a) s.length (s.length + 1) i).testBit j = true ↔ _
    rw [ntE_get]
    split
    · rename_i h
      rw [ntR_bit, ha i j]
      simp only [Mt]
      constructor
      · rintro ⟨h1, h2, h3⟩; exact ⟨h1, by omega, fun x => h3 ⟨h1, by omega, x⟩⟩
      · rintro ⟨h1, h2, h3⟩; exact ⟨h1, by omega, fun x => h3 x.2.2⟩
    · rename_i h
      rw [tb_zero]
      constructor
      · exact False.elim
      · rintro ⟨h1, h2, _⟩; omega
theorem ev_lt (s : List Int) (hs : s.length ≤ 12) (x : Sh) (i : Nat) : ev s x i < 8192 := by
  have : ev s x i < 2 ^ 13 := by
    apply Nat.lt_pow_two_of_testBit
    intro j hj
    cases h : (ev s x i).testBit j with
    | false => rfl
    | true =>
      have := (ev_ok s hs x i j).1 h
      omega
  simpa using this
theorem ev_fits (s : List Int) (hs : s.length ≤ 12) (x : Sh) : (ev s x 0).testBit s.length = true ↔ Mt x s := by
  rw [ev_ok s hs x 0 s.length, pc_all]
  exact ⟨fun h => h.2.2, fun h => ⟨Nat.zero_le _, Nat.le_refl _, h⟩⟩
end Go.Proofs.Ytkdiffpbljohkay.L5
