/-
  Contracts: spec.HasEmpty, impl.HasEmpty: whether the empty text fits.
  Tables of where pieces that fit can end, as numbers of bits. Nothing of the program's text is proved here.
  Tables of thirteen rows of bits in memory. Contracts: impl.placeSet.has, impl.endTable.then, or, many, not.
  Contracts: impl.endTable.many, impl.endsOf, impl.fits: whether a text of letters fits a shape.
  Contracts: impl.endsOf at two shapes, impl.fits, impl.FitsForm: whether a text of letters fits a form.
  Contract: spec.l5Word: what a text of letters is.
  Contracts: spec.l5Match, spec.FitsForm: whether a text of letters fits a form.
-/
import Derived.Test.YtapffbbmofhpoabBundle3
import Derived.Test.YtapffbbmofhpoabBundle4
import Derived.Test.YtapffbbmofhpoabBundle2
import Derived.RegionTactic
import Derived.BigRegion
import Derived.Deep.QuietTactic
import Derived.BigQuiet
import Derived.Deep.RegionHeld3
import Derived.Shelf.RegionOpen
namespace Go.Proofs.Ytapffbbmofhpoab.L5
open Go.RowKit L1 L4
set_option linter.unusedVariables false

open Classical in
set_option maxRecDepth 100000 in
set_option maxHeartbeats 2000000 in
theorem specHasEmpty_any (a : Option Addr) (l : List Pr) (n cap : Nat) (w : World) (hn : l.length = n) (hs : SlP w a l) (hn2 : n ≤ 1048576) (hst : TxP l) (b1 b2 : Bool) (h2 : b2 = true ↔ GoodF l) (h1 : b1 = (b2 && nul (whole l))) :
    Calls Try.prog 36 #[.slice a n cap] w fun e w' => e = .returned (.tuple #[.bool b1, .bool b2]) ∧ Below w.heap.size w w' := by
  have C1 := hide (specGoodForm_any a l n cap w hn hs hn2 hst b2 h2)
  by_cases hg : GoodF l
  · obtain rfl : b2 = true := h2.2 hg
    have C2 := hide (fun w hs => l5Tree_whole a l n cap w hn hg hs)
    have HS := hide hs
    simp only [Bool.true_and] at h1
    have H1 := hide h1
    have hnI : (1 : Int) ≤ (n : Int) := by have := hg.1; omega
    clear hn hs hst h2 h1 hg
    go_enter Try.func36, Try.ntmps36
    go_wp2_with fail
    refine C1.out.mono ?_
    rintro e w1 ⟨rfl, hb1⟩
    have B1 := hide hb1
    clear hb1
    go_wp2_with fail
    refine (C2.out _ (HS.out.below B1.out)).mono ?_
    rintro e w2 ⟨p, rfl, ht, hb2⟩
    have B2 := hide (B1.out.trans (hb2.mono B1.out.size))
    have C3 := hide (l5Empty_any _ _ _ _ ht)
    clear hb2 ht
    go_wp2_with fail
    refine C3.out.mono ?_
    rintro e w3 ⟨rfl, rfl⟩
    have B3 := hide B2.out
    go_wp2
    go_ret2
    exact ⟨by rw [H1.out]; rfl, B3.out⟩
  · obtain rfl : b2 = false := bool_noT h2 hg
    simp only [Bool.false_and] at h1
    subst h1
    clear hn hs hst h2 hg
    go_enter Try.func36, Try.ntmps36
    go_wp2_with fail
    refine C1.out.mono ?_
    rintro e w1 ⟨rfl, hb1⟩
    go_wp2
    go_ret2
    exact ⟨rfl, hb1⟩
open Classical in
set_option maxRecDepth 100000 in
set_option maxHeartbeats 2000000 in
theorem implHasEmpty_any (a : Option Addr) (l : List Pr) (n cap : Nat) (w : World) (hn : l.length = n) (hs : SlP w a l) (hn2 : n ≤ 1048576) (hst : TxP l) (b1 b2 : Bool) (h2 : b2 = true ↔ GoodF l) (h1 : b1 = (b2 && nul (whole l))) :
    Calls Try.prog 35 #[.slice a n cap] w fun e w' => e = .returned (.tuple #[.bool b1, .bool b2]) ∧ Below w.heap.size w w' := by
  have C1 := hide (goodForm_any a l n cap w hn hs hn2 hst b2 h2)
  by_cases hg : GoodF l
  · obtain rfl : b2 = true := h2.2 hg
    have C2 := hide (fun w hs => shapeOf_any a l n cap w hn hs hg)
    have HS := hide hs
    simp only [Bool.true_and] at h1
    have H1 := hide h1
    have hnI : (1 : Int) ≤ (n : Int) := by have := hg.1; omega
    clear hn hs hst h2 h1 hg
    go_enter Try.func35, Try.ntmps35
    go_wp2_with fail
    refine C1.out.mono ?_
    rintro e w1 ⟨rfl, hb1⟩
    have B1 := hide hb1
    clear hb1
    go_wp2_with fail
    refine (C2.out _ (HS.out.below B1.out)).mono ?_
    rintro e w2 ⟨rfl, hb2⟩
    have B2 := hide (B1.out.trans (hb2.mono B1.out.size))
    clear hb2
    go_wp2_with fail
    refine (hasEmpty_any _ _).mono ?_
    rintro e w3 ⟨rfl, hb3⟩
    have B3 := hide (B2.out.trans (hb3.mono B2.out.size))
    clear hb3
    go_wp2
    go_ret2
    exact ⟨by rw [H1.out]; rfl, B3.out⟩
  · obtain rfl : b2 = false := bool_noT h2 hg
    simp only [Bool.false_and] at h1
    subst h1
    clear hn hs hst h2 hg
    go_enter Try.func35, Try.ntmps35
    go_wp2_with fail
    refine C1.out.mono ?_
    rintro e w1 ⟨rfl, hb1⟩
    go_wp2
    go_ret2
    exact ⟨rfl, hb1⟩
end Go.Proofs.Ytapffbbmofhpoab.L5

namespace Go.Proofs.Ytapffbbmofhpoab.L5
open Go
set_option linter.unusedVariables false

/-- A table with one row written. -/
def upd (E : Nat → Nat) (i v : Nat) : Nat → Nat := fun k => if k = i then v else E k
theorem upd_self (E : Nat → Nat) (i v : Nat) : upd E i v i = v := by simp [upd]
theorem upd_ne (E : Nat → Nat) (i v k : Nat) (h : k ≠ i) : upd E i v k = E k := by simp [upd, h]
theorem upd_upd (E : Nat → Nat) (i u v : Nat) : upd (upd E i u) i v = upd E i v := by
  funext k; unfold upd; split <;> rfl
/-- One row of a table behind another one, by its first places. -/
def thR (E F : Nat → Nat) (i : Nat) : Nat → Nat
  | 0 => 0
  | m + 1 => if (E i).testBit m = true then thR E F i m ||| F m else thR E F i m
def thE (E F : Nat → Nat) : Nat → (Nat → Nat)
  | 0 => fun _ => 0
  | k + 1 => upd (thE E F k) k (thR E F k 13)
def orE (E F : Nat → Nat) : Nat → (Nat → Nat)
  | 0 => E
  | k + 1 => upd (orE E F k) k (E k ||| F k)
def mrR (E M : Nat → Nat) (i : Nat) : Nat → Nat
  | 0 => 2 ^ i
  | c + 1 => if (E i).testBit (i + 1 + c) = true then mrR E M i c ||| M (i + 1 + c) else mrR E M i c
/-- The table of many, from the text's end on. -/
def mrE (E : Nat → Nat) (n : Nat) : Nat → (Nat → Nat)
  | 0 => fun _ => 0
  | d + 1 => upd (mrE E n d) (n - d) (mrR E (mrE E n d) (n - d) d)
def ntR (E : Nat → Nat) (i : Nat) : Nat → Nat
  | 0 => 0
  | c + 1 => if (E i).testBit (i + c) = true then ntR E i c else ntR E i c ||| 2 ^ (i + c)
def ntE (E : Nat → Nat) (n : Nat) : Nat → (Nat → Nat)
  | 0 => fun _ => 0
  | k + 1 => upd (ntE E n k) k (ntR E k (n + 1 - k))
def emE : Nat → (Nat → Nat)
  | 0 => fun _ => 0
  | k + 1 => upd (emE k) k (2 ^ k)
def anE : Nat → (Nat → Nat)
  | 0 => fun _ => 0
  | k + 1 => upd (anE k) k (2 * 2 ^ k)
def leE (c : Int) (s : List Int) : Nat → (Nat → Nat)
  | 0 => fun _ => 0
  | k + 1 => if s.getD k 0 = c then upd (leE c s k) k (2 * 2 ^ k) else leE c s k
/-- The table of a shape and a text. -/
def ev (s : List Int) : Sh → (Nat → Nat)
  | .none => fun _ => 0
  | .empty => emE (s.length + 1)
  | .letter c => leE c s s.length
  | .any => anE s.length
  | .seq a b => thE (ev s a) (ev s b) 13
  | .alt a b => orE (ev s a) (ev s b) 13
  | .many a => mrE (ev s a) s.length (s.length + 1)
  | .inv a => ntE (ev s a) s.length (s.length + 1)
/-- A piece of a text. -/
def pc (s : List Int) (i j : Nat) : List Int := (s.drop i).take (j - i)
theorem pc_len (s : List Int) (i j : Nat) (hj : j ≤ s.length) : (pc s i j).length = j - i := by
  simp [pc]; omega
theorem pc_self (s : List Int) (i : Nat) : pc s i i = [] := by simp [pc]
theorem pc_app (s : List Int) (i m j : Nat) (h1 : i ≤ m) (h2 : m ≤ j) : pc s i j = pc s i m ++ pc s m j := by
  unfold pc
  have e : j - i = (m - i) + (j - m) := by omega
  rw [e, List.take_add, List.drop_drop]
  congr 2
  congr 1
  omega
theorem pc_one (s : List Int) (i : Nat) (h : i < s.length) : pc s i (i + 1) = [s.getD i 0] := by
  unfold pc
  rw [show i + 1 - i = 1 by omega, List.drop_eq_getElem_cons h, List.take_succ_cons, List.take_zero]
  simp [List.getD, List.getElem?_eq_getElem h]
theorem pc_all (s : List Int) : pc s 0 s.length = s := by simp [pc]
/-- What a table says: which pieces fit. -/
def Ok (s : List Int) (x : Sh) (E : Nat → Nat) : Prop := ∀ i j, ((E i).testBit j = true ↔ i ≤ j ∧ j ≤ s.length ∧ Mt x (pc s i j))
theorem tb_or (p q j : Nat) : (p ||| q).testBit j = true ↔ p.testBit j = true ∨ q.testBit j = true := by
  rw [Nat.testBit_or, Bool.or_eq_true]
theorem tb_pow (i j : Nat) : (2 ^ i).testBit j = true ↔ i = j := by
  rw [Nat.testBit_two_pow]; simp
theorem tb_pow2 (i j : Nat) : (2 * 2 ^ i).testBit j = true ↔ i + 1 = j := by
  rw [← Nat.pow_succ', tb_pow]
theorem tb_zero (j : Nat) : (0 : Nat).testBit j = true ↔ False := by simp
theorem thR_bit (E F : Nat → Nat) (i j : Nat) : ∀ m, (thR E F i m).testBit j = true ↔ ∃ q, q < m ∧ (E i).testBit q = true ∧ (F q).testBit j = true
  | 0 => by simp [thR]
  | m + 1 => by
    have ih := thR_bit E F i j m
    unfold thR
    split
    · rename_i h
      rw [tb_or, ih]
      constructor
      · rintro (⟨q, h1, h2⟩ | h1)
        · exact ⟨q, by omega, h2⟩
        · exact ⟨m, by omega, h, h1⟩
      · rintro ⟨q, h1, h2, h3⟩
        by_cases e : q = m
        · subst e; exact .inr h3
        · exact .inl ⟨q, by omega, h2, h3⟩
    · rename_i h
      rw [ih]
      constructor
      · rintro ⟨q, h1, h2⟩; exact ⟨q, by omega, h2⟩
      · rintro ⟨q, h1, h2, h3⟩
        by_cases e : q = m
        · subst e; exact absurd h2 h
        · exact ⟨q, by omega, h2, h3⟩
theorem thE_get (E F : Nat → Nat) : ∀ k i, thE E F k i = if i < k then thR E F i 13 else 0
  | 0, i => by simp [thE]
  | k + 1, i => by
    unfold thE upd
    rw [thE_get E F k i]
    by_cases e : i = k
    · subst e; simp
    · rw [if_neg e]
      by_cases h : i < k
      · rw [if_pos h, if_pos (by omega)]
      · rw [if_neg h, if_neg (by omega)]
theorem orE_get (E F : Nat → Nat) : ∀ k i, orE E F k i = if i < k then E i ||| F i else E i
  | 0, i => by simp [orE]
  | k + 1, i => by
    unfold orE upd
    rw [orE_get E F k i]
    by_cases e : i = k
    · subst e; simp
    · rw [if_neg e]
      by_cases h : i < k
      · rw [if_pos h, if_pos (by omega)]
      · rw [if_neg h, if_neg (by omega)]
theorem ntR_bit (E : Nat → Nat) (i j : Nat) : ∀ c, (ntR E i c).testBit j = true ↔ i ≤ j ∧ j < i + c ∧ ¬ (E i).testBit j = true
  | 0 => by simp [ntR]; omega
  | c + 1 => by
    have ih := ntR_bit E i j c
    unfold ntR
    split
    · rename_i h
      rw [ih]
      constructor
      · rintro ⟨h1, h2, h3⟩; exact ⟨h1, by omega, h3⟩
      · rintro ⟨h1, h2, h3⟩
        by_cases e : j = i + c
        · subst e; exact absurd h h3
        · exact ⟨h1, by omega, h3⟩
    · rename_i h
      rw [tb_or, ih, tb_pow]
      constructor
      · rintro (⟨h1, h2, h3⟩ | rfl)
        · exact ⟨h1, by omega, h3⟩
        · exact ⟨by omega, by omega, h⟩
      · rintro ⟨h1, h2, h3⟩
        by_cases e : j = i + c
        · exact .inr e.symm
        · exact .inl ⟨h1, by omega, h3⟩
theorem ntE_get (E : Nat → Nat) (n : Nat) : ∀ k i, ntE E n k i = if i < k then ntR E i (n + 1 - i) else 0
  | 0, i => by simp [ntE]
  | k + 1, i => by
    unfold ntE upd
    rw [ntE_get E n k i]
    by_cases e : i = k
    · subst e; simp
    · rw [if_neg e]
      by_cases h : i < k
      · rw [if_pos h, if_pos (by omega)]
      · rw [if_neg h, if_neg (by omega)]
theorem emE_get : ∀ k i, emE k i = if i < k then 2 ^ i else 0
  | 0, i => by simp [emE]
  | k + 1, i => by
    unfold emE upd
    rw [emE_get k i]
    by_cases e : i = k
    · subst e; simp
    · rw [if_neg e]
      by_cases h : i < k
      · rw [if_pos h, if_pos (by omega)]
      · rw [if_neg h, if_neg (by omega)]
theorem anE_get : ∀ k i, anE k i = if i < k then 2 * 2 ^ i else 0
  | 0, i => by simp [anE]
  | k + 1, i => by
    unfold anE upd
    rw [anE_get k i]
    by_cases e : i = k
    · subst e; simp
    · rw [if_neg e]
      by_cases h : i < k
      · rw [if_pos h, if_pos (by omega)]
      · rw [if_neg h, if_neg (by omega)]
theorem leE_get (c : Int) (s : List Int) : ∀ k i, leE c s k i = if i < k ∧ s.getD i 0 = c then 2 * 2 ^ i else 0
  | 0, i => by simp [leE]
  | k + 1, i => by
    unfold leE
    split
    · rename_i h
      unfold upd
      rw [leE_get c s k i]
      by_cases e : i = k
      · subst e; rw [if_pos rfl, if_pos ⟨by omega, h⟩]
      · rw [if_neg e]
        by_cases h2 : i < k ∧ s.getD i 0 = c
        · rw [if_pos h2, if_pos ⟨by omega, h2.2⟩]
        · rw [if_neg h2, if_neg (fun x => h2 ⟨by omega, x.2⟩)]
    · rename_i h
      rw [leE_get c s k i]
      by_cases h2 : i < k ∧ s.getD i 0 = c
      · rw [if_pos h2, if_pos ⟨by omega, h2.2⟩]
      · rw [if_neg h2, if_neg (fun x => h2 ⟨by
          have := x.1
          by_cases e : i = k
          · subst e; exact absurd x.2 h
          · omega, x.2⟩)]
theorem mrE_get (E : Nat → Nat) (n : Nat) : ∀ d i, d ≤ n + 1 → mrE E n d i = if i ≤ n ∧ n < i + d then mrR E (mrE E n (n - i)) i (n - i) else 0
  | 0, i, _ => by rw [if_neg (by omega)]; rfl
  | d + 1, i, hd => by
    have ih := mrE_get E n d i (by omega)
    show upd (mrE E n d) (n - d) (mrR E (mrE E n d) (n - d) d) i = _
    by_cases e : i = n - d
    · rw [if_pos (by omega), e, upd_self]
      have e1 : n - (n - d) = d := by omega
      rw [e1]
    · rw [upd_ne _ _ _ _ e, ih]
      by_cases h : i ≤ n ∧ n < i + d
      · rw [if_pos h, if_pos (by omega)]
      · rw [if_neg h, if_neg (by omega)]
theorem mrR_bit (E M : Nat → Nat) (i j : Nat) : ∀ c, (mrR E M i c).testBit j = true ↔ i = j ∨ ∃ q, i < q ∧ q < i + 1 + c ∧ (E i).testBit q = true ∧ (M q).testBit j = true
  | 0 => by
    unfold mrR
    rw [tb_pow]
    constructor
    · exact .inl
    · rintro (h | ⟨q, h1, h2, _⟩)
      · exact h
      · omega
  | c + 1 => by
    have ih := mrR_bit E M i j c
    unfold mrR
    split
    · rename_i h
      rw [tb_or, ih]
      constructor
      · rintro ((h1 | ⟨q, h1, h2, h3⟩) | h1)
        · exact .inl h1
        · exact .inr ⟨q, h1, by omega, h3⟩
        · exact .inr ⟨i + 1 + c, by omega, by omega, h, h1⟩
      · rintro (h1 | ⟨q, h1, h2, h3, h4⟩)
        · exact .inl (.inl h1)
        · by_cases e : q = i + 1 + c
          · subst e; exact .inr h4
          · exact .inl (.inr ⟨q, h1, by omega, h3, h4⟩)
    · rename_i h
      rw [ih]
      constructor
      · rintro (h1 | ⟨q, h1, h2, h3⟩)
        · exact .inl h1
        · exact .inr ⟨q, h1, by omega, h3⟩
      · rintro (h1 | ⟨q, h1, h2, h3, h4⟩)
        · exact .inl h1
        · by_cases e : q = i + 1 + c
          · subst e; exact absurd h3 h
          · exact .inr ⟨q, h1, by omega, h3, h4⟩
/-- None or more, by the first of the pieces. -/
theorem star_pc (p : List Int → Prop) (s : List Int) (i j : Nat) (hij : i ≤ j) (hj : j ≤ s.length) : Star p (pc s i j) ↔ i = j ∨ ∃ q, i < q ∧ q ≤ j ∧ p (pc s i q) ∧ Star p (pc s q j) := by
  constructor
  · intro h
    generalize e : pc s i j = t at h
    cases h with
    | nil =>
      have := pc_len s i j hj
      rw [e] at this
      simp at this
      exact .inl (by omega)
    | cons u v hne hp hv =>
      right
      have hl := pc_len s i j hj
      rw [e, List.length_append] at hl
      have hu : 0 < u.length := List.length_pos_iff.2 hne
      have e2 := pc_app s i (i + u.length) j (by omega) (by omega)
      rw [e] at e2
      have hlu := pc_len s i (i + u.length) (by omega)
      obtain ⟨h1, h2⟩ := List.append_inj e2 (by omega)
      exact ⟨i + u.length, by omega, by omega, by rw [← h1]; exact hp, by rw [← h2]; exact hv⟩
  · rintro (rfl | ⟨q, h1, h2, h3, h4⟩)
    · rw [pc_self]; exact .nil
    · rw [pc_app s i q j (by omega) h2]
      refine Star.cons _ _ (fun e => ?_) h3 h4
      have := pc_len s i q (by omega)
      rw [e] at this
      simp at this
      omega
theorem seq_pc (p q : List Int → Prop) (s : List Int) (i j : Nat) (hij : i ≤ j) (hj : j ≤ s.length) : (∃ u v, pc s i j = u ++ v ∧ p u ∧ q v) ↔ ∃ m, i ≤ m ∧ m ≤ j ∧ p (pc s i m) ∧ q (pc s m j) := by
  constructor
  · rintro ⟨u, v, e, hu, hv⟩
    have hl := pc_len s i j hj
    rw [e, List.length_append] at hl
    have e2 := pc_app s i (i + u.length) j (by omega) (by omega)
    rw [e] at e2
    have hlu := pc_len s i (i + u.length) (by omega)
    obtain ⟨h1, h2⟩ := List.append_inj e2 (by omega)
    exact ⟨i + u.length, by omega, by omega, by rw [← h1]; exact hu, by rw [← h2]; exact hv⟩
  · rintro ⟨m, h1, h2, h3, h4⟩
    exact ⟨_, _, pc_app s i m j h1 h2, h3, h4⟩
/-- The table tells which pieces fit. -/
theorem ev_ok (s : List Int) (hs : s.length ≤ 12) : ∀ x, Ok s x (ev s x)
  | .none => fun i j => by simp [ev, Mt]
  | .empty => fun i j => by
    show (emE (s.length + 1) i).testBit j = true ↔ _
    rw [emE_get]
    split
    · rename_i h
      rw [tb_pow]
      constructor
      · rintro rfl; exact ⟨Nat.le_refl _, by omega, pc_self s i⟩
      · rintro ⟨h1, h2, h3⟩
        have := pc_len s i j h2
        simp only [Mt] at h3
        rw [h3] at this
        simp at this
        omega
    · rename_i h
      rw [tb_zero]
      constructor
      · exact False.elim
      · rintro ⟨h1, h2, _⟩; omega
  | .letter c => fun i j => by
    show (leE c s s.length i).testBit j = true ↔ _
    rw [leE_get]
    split
    · rename_i h
      rw [tb_pow2]
      constructor
      · rintro rfl
        refine ⟨by omega, by omega, ?_⟩
        rw [pc_one s i h.1, h.2]; rfl
      · rintro ⟨h1, h2, h3⟩
        have := pc_len s i j h2
        simp only [Mt] at h3
        rw [h3] at this
        simp at this
        omega
    · rename_i h
      rw [tb_zero]
      constructor
      · exact False.elim
      · rintro ⟨h1, h2, h3⟩
        have hl := pc_len s i j h2
        simp only [Mt] at h3
        rw [h3] at hl
        simp at hl
        obtain rfl : j = i + 1 := by omega
        rw [pc_one s i (by omega)] at h3
        simp at h3
        exact h ⟨by omega, by simpa using h3⟩
  | .any => fun i j => by
    show (anE s.length i).testBit j = true ↔ _
    rw [anE_get]
    split
    · rename_i h
      rw [tb_pow2]
      constructor
      · rintro rfl
        refine ⟨by omega, by omega, ?_⟩
        show (pc s i (i + 1)).length = 1
        rw [pc_len s i (i + 1) (by omega)]; omega
      · rintro ⟨h1, h2, h3⟩
        have := pc_len s i j h2
        simp only [Mt] at h3
        omega
    · rename_i h
      rw [tb_zero]
      constructor
      · exact False.elim
      · rintro ⟨h1, h2, h3⟩
        have hl := pc_len s i j h2
        simp only [Mt] at h3
        omega
  | .seq a b => fun i j => by
    have ha := ev_ok s hs a
    have hb := ev_ok s hs b
    show (thE (ev s a) (ev s b) 13 i).testBit j = true ↔ _
    rw [thE_get]
    split
    · rename_i h
      rw [thR_bit]
      constructor
      · rintro ⟨q, h1, h2, h3⟩
        have h2 := (ha i q).1 h2
        have h3 := (hb q j).1 h3
        exact ⟨by omega, h3.2.1, (seq_pc _ _ s i j (by omega) h3.2.1).2 ⟨q, h2.1, h3.1, h2.2.2, h3.2.2⟩⟩
      · rintro ⟨h1, h2, h3⟩
        obtain ⟨m, h4, h5, h6, h7⟩ := (seq_pc _ _ s i j h1 h2).1 h3
        exact ⟨m, by omega, (ha i m).2 ⟨h4, by omega, h6⟩, (hb m j).2 ⟨h5, h2, h7⟩⟩
    · rename_i h
      rw [tb_zero]
      constructor
      · exact False.elim
      · rintro ⟨h1, h2, _⟩; omega
  | .alt a b => fun i j => by
    have ha := ev_ok s hs a
    have hb := ev_ok s hs b
    show (orE (ev s a) (ev s b) 13 i).testBit j = true ↔ _
    rw [orE_get]
    split
    · rw [tb_or, ha i j, hb i j]
      simp only [Mt]
      constructor
      · rintro (⟨h1, h2, h3⟩ | ⟨h1, h2, h3⟩)
        · exact ⟨h1, h2, .inl h3⟩
        · exact ⟨h1, h2, .inr h3⟩
      · rintro ⟨h1, h2, h3 | h3⟩
        · exact .inl ⟨h1, h2, h3⟩
        · exact .inr ⟨h1, h2, h3⟩
    · rename_i h
      constructor
      · intro h1
        have := (ha i j).1 h1
        omega
      · rintro ⟨h1, h2, _⟩; omega
  | .many a => by
    have ha := ev_ok s hs a
    have key : ∀ d i j, s.length - i ≤ d → ((mrE (ev s a) s.length (s.length + 1) i).testBit j = true ↔ i ≤ j ∧ j ≤ s.length ∧ Star (Mt a) (pc s i j)) := by
      intro d
      induction d with
      | zero =>
        intro i j hd
        rw [mrE_get _ _ _ _ (Nat.le_refl _)]
        by_cases h : i ≤ s.length ∧ s.length < i + (s.length + 1)
        · rw [if_pos h, mrR_bit]
          constructor
          · rintro (rfl | ⟨q, h1, h2, _⟩)
            · exact ⟨Nat.le_refl _, h.1, by rw [pc_self]; exact .nil⟩
            · omega
          · rintro ⟨h1, h2, _⟩; exact .inl (by omega)
        · rw [if_neg h, tb_zero]
          constructor
          · exact False.elim
          · rintro ⟨h1, h2, _⟩; omega
      | succ d ih =>
        intro i j hd
        rw [mrE_get _ _ _ _ (Nat.le_refl _)]
        by_cases h : i ≤ s.length ∧ s.length < i + (s.length + 1)
        · rw [if_pos h, mrR_bit]
          have hM : ∀ q, i < q → q ≤ s.length → mrE (ev s a) s.length (s.length - i) q = mrE (ev s a) s.length (s.length + 1) q := by
            intro q h1 h2
            rw [mrE_get _ _ _ _ (by omega), mrE_get _ _ _ _ (Nat.le_refl _), if_pos (by omega), if_pos (by omega)]
          constructor
          · rintro (rfl | ⟨q, h1, h2, h3, h4⟩)
            · exact ⟨Nat.le_refl _, h.1, by rw [pc_self]; exact .nil⟩
            · have h3 := (ha i q).1 h3
              rw [hM q h1 h3.2.1] at h4
              have h4 := (ih q j (by omega)).1 h4
              exact ⟨by omega, h4.2.1, (star_pc _ s i j (by omega) h4.2.1).2 (.inr ⟨q, h1, h4.1, h3.2.2, h4.2.2⟩)⟩
          · rintro ⟨h1, h2, h3⟩
            rcases (star_pc _ s i j h1 h2).1 h3 with e | ⟨q, h4, h5, h6, h7⟩
            · exact .inl e
            · right
              refine ⟨q, h4, by omega, (ha i q).2 ⟨by omega, by omega, h6⟩, ?_⟩
              rw [hM q h4 (by omega)]
              exact (ih q j (by omega)).2 ⟨h5, h2, h7⟩
        · rw [if_neg h, tb_zero]
          constructor
          · exact False.elim
          · rintro ⟨h1, h2, _⟩; omega
    exact fun i j => key (s.length - i) i j (Nat.le_refl _)
  | .inv a => fun i j => by
    have ha := ev_ok s hs a
    show (ntE (ev s a) s.length (s.length + 1) i).testBit j = true ↔ _
    rw [ntE_get]
    split
    · rename_i h
      rw [ntR_bit, ha i j]
      simp only [Mt]
      constructor
      · rintro ⟨h1, h2, h3⟩; exact ⟨h1, by omega, fun x => h3 ⟨h1, by omega, x⟩⟩
      · rintro ⟨h1, h2, h3⟩; exact ⟨h1, by omega, fun x => h3 x.2.2⟩
    · rename_i h
      rw [tb_zero]
      constructor
      · exact False.elim
      · rintro ⟨h1, h2, _⟩; omega
theorem ev_lt (s : List Int) (hs : s.length ≤ 12) (x : Sh) (i : Nat) : ev s x i < 8192 := by
  have : ev s x i < 2 ^ 13 := by
    apply Nat.lt_pow_two_of_testBit
    intro j hj
    cases h : (ev s x i).testBit j with
    | false => rfl
    | true =>
      have := (ev_ok s hs x i j).1 h
      omega
  simpa using this
theorem ev_fits (s : List Int) (hs : s.length ≤ 12) (x : Sh) : (ev s x 0).testBit s.length = true ↔ Mt x s := by
  rw [ev_ok s hs x 0 s.length, pc_all]
  exact ⟨fun h => h.2.2, fun h => ⟨Nat.zero_le _, Nat.le_refl _, h⟩⟩
end Go.Proofs.Ytapffbbmofhpoab.L5

namespace Go.Proofs.Ytapffbbmofhpoab.L5
open Go.RowKit L1 L4
set_option linter.unusedVariables false

theorem wrap_u16 (n : Nat) (h : n < 65536) : IntKind.u16.wrap (n : Int) = (n : Int) := by
  simp [IntKind.wrap, IntKind.bits, IntKind.signed]
  omega
theorem bits_or (p q : Nat) (hp : p < 65536) (hq : q < 65536) : bits .or .u16 (p : Int) (q : Int) = ((p ||| q : Nat) : Int) := by
  have h : p ||| q < 65536 := Nat.or_lt_two_pow (n := 16) hp hq
  have e : bits .or .u16 (p : Int) (q : Int) = IntKind.u16.wrap ((BitVec.ofInt 16 (p : Int) ||| BitVec.ofInt 16 (q : Int)).toNat : Nat) := rfl
  rw [e, BitVec.ofInt_natCast, BitVec.ofInt_natCast, BitVec.toNat_or, BitVec.toNat_ofNat, BitVec.toNat_ofNat, Nat.mod_eq_of_lt hp, Nat.mod_eq_of_lt hq]
  exact wrap_u16 _ h
theorem bits_and1 (m : Nat) (hm : m < 65536) : bits .and .u16 (m : Int) 1 = ((m % 2 : Nat) : Int) := by
  have e : bits .and .u16 (m : Int) 1 = IntKind.u16.wrap ((BitVec.ofInt 16 (m : Int) &&& BitVec.ofInt 16 ((1 : Nat) : Int)).toNat : Nat) := rfl
  rw [e, BitVec.ofInt_natCast, BitVec.ofInt_natCast, BitVec.toNat_and, BitVec.toNat_ofNat, BitVec.toNat_ofNat, Nat.mod_eq_of_lt hm]
  rw [show (1 : Nat) % 2 ^ 16 = 1 from rfl, Nat.and_one_is_mod]
  exact wrap_u16 _ (by omega)
theorem has_bit (q j : Nat) (hq : q < 65536) : (bits .and .u16 ((q : Int) / 2 ^ j) 1 == 1) = q.testBit j := by
  have e : (q : Int) / 2 ^ j = ((q / 2 ^ j : Nat) : Int) := by simp
  have hl : q / 2 ^ j < 65536 := Nat.lt_of_le_of_lt (Nat.div_le_self _ _) hq
  rw [e, bits_and1 _ hl, Nat.testBit_eq_decide_div_mod_eq]
  have : q / 2 ^ j % 2 = 0 ∨ q / 2 ^ j % 2 = 1 := by omega
  rcases this with h | h <;> rw [h] <;> rfl
set_option maxRecDepth 100000 in
theorem has_any (q j : Nat) (hq : q < 65536) (hj : j ≤ 12) (w : World) (bb : Bool) (hb : bb = q.testBit j) : Calls Try.prog 126 #[.int .u16 (q : Int), .int .i64 (j : Int)] w fun e w' => e = .returned (.bool bb) ∧ w = w' := by
  have h := hide ((has_bit q j hq).trans hb.symm)
  have hj2 : (j : Int) ≤ 16 := by omega
  clear hb
  go_enter Try.func126, Try.ntmps126
  go_wp2
  go_ret
  exact ⟨by rw [← h.out]; rfl, rfl⟩
/-- The cells of a table. -/
def lE (E : Nat → Nat) : List Value := (List.range 13).map fun i => .int .u16 ((E i : Nat) : Int)
/-- A table as a value. -/
abbrev tv (E : Nat → Nat) : Value := .agg #[.int .u16 ((E 0 : Nat) : Int), .int .u16 ((E 1 : Nat) : Int), .int .u16 ((E 2 : Nat) : Int), .int .u16 ((E 3 : Nat) : Int), .int .u16 ((E 4 : Nat) : Int), .int .u16 ((E 5 : Nat) : Int), .int .u16 ((E 6 : Nat) : Int), .int .u16 ((E 7 : Nat) : Int), .int .u16 ((E 8 : Nat) : Int), .int .u16 ((E 9 : Nat) : Int), .int .u16 ((E 10 : Nat) : Int), .int .u16 ((E 11 : Nat) : Int), .int .u16 ((E 12 : Nat) : Int)]
/-- A table lies in a block. -/
abbrev rowE (w : World) (base g : Nat) (E : Nat → Nat) : Prop := w.ownsRow base 155 1 (.slice (some ⟨g, 0, none⟩) 13 13) 13 (lE E)
theorem lE_get (E : Nat → Nat) (i : Nat) (h : i < 13) : (lE E)[i]? = some (.int .u16 ((E i : Nat) : Int)) := by
  simp [lE, h]
theorem lE_upd (E : Nat → Nat) (i v : Nat) : (lE E).set i (.int .u16 (v : Int)) = lE (upd E i v) := by
  apply List.ext_getElem?
  intro j
  by_cases hj : j < 13
  · rw [lE_get _ j hj]
    by_cases e : i = j
    · subst e
      rw [List.getElem?_set_self (by simp [lE, hj]), upd_self]
    · rw [List.getElem?_set_ne e, lE_get _ j hj, upd_ne _ _ _ _ (Ne.symm e)]
  · rw [List.getElem?_eq_none (by simp [lE]; omega), List.getElem?_eq_none (by simp [lE]; omega)]
theorem rowE.new (w : World) (g base : Nat) (hg : w.heap.size = g) (hb : base ≤ g) (E : Nat → Nat) : rowE (w.alloc (.cells #[.int .u16 ((E 0 : Nat) : Int), .int .u16 ((E 1 : Nat) : Int), .int .u16 ((E 2 : Nat) : Int), .int .u16 ((E 3 : Nat) : Int), .int .u16 ((E 4 : Nat) : Int), .int .u16 ((E 5 : Nat) : Int), .int .u16 ((E 6 : Nat) : Int), .int .u16 ((E 7 : Nat) : Int), .int .u16 ((E 8 : Nat) : Int), .int .u16 ((E 9 : Nat) : Int), .int .u16 ((E 10 : Nat) : Int), .int .u16 ((E 11 : Nat) : Int), .int .u16 ((E 12 : Nat) : Int)] 155)) base g E := by
  subst hg
  exact ⟨rfl, .inr ⟨w.heap.size, 13, _, rfl, hb, by show (w.heap.push _)[w.heap.size]? = _; exact Array.getElem?_push_size, Nat.le_refl _, by unfold maxLen; omega, rfl, rfl⟩⟩
theorem rowE.zero (w : World) (g base : Nat) (hg : w.heap.size = g) (hb : base ≤ g) : rowE (w.alloc (.cells #[.int .u16 0, .int .u16 0, .int .u16 0, .int .u16 0, .int .u16 0, .int .u16 0, .int .u16 0, .int .u16 0, .int .u16 0, .int .u16 0, .int .u16 0, .int .u16 0, .int .u16 0] 155)) base g (fun _ => 0) := rowE.new w g base hg hb (fun _ => 0)
theorem rowE.cell {w : World} {base g : Nat} {E : Nat → Nat} (h : rowE w base g E) (i : Nat) (hi : i < 13) : w.cell? ⟨g, i, none⟩ = some (.int .u16 ((E i : Nat) : Int)) := (h.cellAt i (by omega)).trans (lE_get E i hi)
theorem rowE.set {w : World} {base g : Nat} {E : Nat → Nat} (h : rowE w base g E) (i v : Nat) : rowE (w.setCell ⟨g, i, none⟩ (.int .u16 (v : Int))) base g (upd E i v) := by
  have := (h.stored i (.int .u16 (v : Int))).1
  rw [lE_upd] at this
  exact this
theorem rowE.keep {w : World} {base g g' : Nat} {E : Nat → Nat} (h : rowE w base g E) (i : Nat) (u : Value) (hne : g ≠ g') : rowE (w.setCell ⟨g', i, none⟩ u) base g E := by
  refine ⟨h.1, ?_⟩
  rcases h.2 with ⟨h0, _⟩ | ⟨q, cap, cur, hv, hb, hh, rest⟩
  · cases h0
  · cases hv
    exact .inr ⟨g, 13, cur, rfl, hb, by rw [Below.heap_setCell w ⟨g', i, none⟩ u g hne]; exact hh, rest⟩
theorem rowE.drew {w : World} {base g : Nat} {E : Nat → Nat} (h : rowE w base g E) : rowE w.drew base g E := h
theorem rowE.lt {w : World} {base g : Nat} {E : Nat → Nat} (h : rowE w base g E) : g < w.heap.size := (World.ownsRow.lt h g rfl).2
theorem or_lt {p q : Nat} (hp : p < 8192) (hq : q < 8192) : p ||| q < 8192 := Nat.or_lt_two_pow (n := 13) hp hq
theorem thR_lt (E F : Nat → Nat) (hF : ∀ i, F i < 8192) (i : Nat) : ∀ m, thR E F i m < 8192
  | 0 => by simp [thR]
  | m + 1 => by unfold thR; split; exact or_lt (thR_lt E F hF i m) (hF m); exact thR_lt E F hF i m
theorem intV {a b : Int} (h : a = b) : Value.int .u16 a = .int .u16 b := by rw [h]
theorem orE_lt (E F : Nat → Nat) (hE : ∀ i, E i < 8192) (hF : ∀ i, F i < 8192) (k i : Nat) : orE E F k i < 8192 := by
  rw [orE_get]; split; exact or_lt (hE i) (hF i); exact hE i
theorem upd_same (E : Nat → Nat) (i v : Nat) (h : E i = v) : upd E i v = E := by
  funext k; unfold upd; split
  · rename_i e; rw [e, h]
  · rfl
/-- Three tables in memory, a row of blocks from g on, and nothing older turned. -/
structure S3 (w wr : World) (A B C : Nat → Nat) : Prop where
  a : rowE wr w.heap.size w.heap.size A
  b : rowE wr w.heap.size (w.heap.size + 1) B
  c : rowE wr w.heap.size (w.heap.size + 2) C
  bel : Below w.heap.size w wr
set_option maxRecDepth 100000 in
set_option maxHeartbeats 8000000 in
theorem or_any (E F : Nat → Nat) (hE : ∀ i, E i < 8192) (hF : ∀ i, F i < 8192) (w : World) :
    Calls Try.prog 147 #[tv E, tv F] w fun e w' => e = .returned (tv (orE E F 13)) ∧ Below w.heap.size w w' := by
  go_enter Try.func147, Try.ntmps147
  go_wp2
  obtain ⟨W, hW⟩ : ∃ W, W = ((w.alloc (.cells #[.int .u16 ((E 0 : Nat) : Int), .int .u16 ((E 1 : Nat) : Int), .int .u16 ((E 2 : Nat) : Int), .int .u16 ((E 3 : Nat) : Int), .int .u16 ((E 4 : Nat) : Int), .int .u16 ((E 5 : Nat) : Int), .int .u16 ((E 6 : Nat) : Int), .int .u16 ((E 7 : Nat) : Int), .int .u16 ((E 8 : Nat) : Int), .int .u16 ((E 9 : Nat) : Int), .int .u16 ((E 10 : Nat) : Int), .int .u16 ((E 11 : Nat) : Int), .int .u16 ((E 12 : Nat) : Int)] 155)).alloc (.cells #[.int .u16 ((F 0 : Nat) : Int), .int .u16 ((F 1 : Nat) : Int), .int .u16 ((F 2 : Nat) : Int), .int .u16 ((F 3 : Nat) : Int), .int .u16 ((F 4 : Nat) : Int), .int .u16 ((F 5 : Nat) : Int), .int .u16 ((F 6 : Nat) : Int), .int .u16 ((F 7 : Nat) : Int), .int .u16 ((F 8 : Nat) : Int), .int .u16 ((F 9 : Nat) : Int), .int .u16 ((F 10 : Nat) : Int), .int .u16 ((F 11 : Nat) : Int), .int .u16 ((F 12 : Nat) : Int)] 155)).alloc (.cells #[.int .u16 0, .int .u16 0, .int .u16 0, .int .u16 0, .int .u16 0, .int .u16 0, .int .u16 0, .int .u16 0, .int .u16 0, .int .u16 0, .int .u16 0, .int .u16 0, .int .u16 0] 155) := ⟨_, rfl⟩
  rw [← hW]
  have H0 : Hid (S3 w W E F (fun _ => 0)) := hide (by
    rw [hW]
    exact ⟨((rowE.new w _ _ rfl (Nat.le_refl _) E).alloc _).alloc _, (rowE.new _ _ _ (by simp) (by omega) F).alloc _, rowE.zero _ _ _ (by simp) (by omega), (((Below.refl _ _).alloc (Nat.le_refl _) _).alloc (by simp) _).alloc (by simp; omega) _⟩)
  have HE := hide hE
  have HF := hide hF
  clear hW hE hF
  go_loopw [6] (fun i wr => ∃ k : Nat, k ≤ 13 ∧ i = .int .i64 k ∧ Hid (S3 w wr (orE E F k) F (fun _ => 0))) (fun i _ => 13 - (intOf i).toNat)
  case atStart => exact ⟨0, by omega, rfl, H0⟩
  case round =>
    obtain ⟨k, hk, rfl, HS⟩ := hrel
    by_cases hlt : k < 13
    · have hltI : (k : Int) < 13 := by omega
      have ca := HS.out.a.cell k hlt
      have cb := HS.out.b.cell k hlt
      have fa := HS.out.a.frozenAt k
      have hek : orE E F k k = E k := by rw [orE_get, if_neg (by omega)]
      rw [hek] at ca
      have hor := bits_or (E k) (F k) (by have := HE.out k; omega) (by have := HF.out k; omega)
      have HN : Hid (S3 w (wr.setCell ⟨w.heap.size, k, none⟩ (.int .u16 ((E k ||| F k : Nat) : Int))).drew (orE E F (k + 1)) F (fun _ => 0)) := hide
        ⟨(HS.out.a.set k (E k ||| F k)).drew, (HS.out.b.keep k _ (by omega)).drew, (HS.out.c.keep k _ (by omega)).drew, (HS.out.bel.setCell (p := ⟨w.heap.size, k, none⟩) (Nat.le_refl _) _).drew⟩
      clear hek
      go_wp2
      go_region
      go_wp2
      go_roundw
      case rel => exact ⟨k + 1, by omega, by go_num, HN⟩
      case measure => simp [intOf]; omega
    · obtain rfl : k = 13 := by omega
      have e0 := HS.out.a.cell 0 (by omega)
      have r0 := HS.out.c.cell 0 (by omega)
      have f0 := HS.out.c.frozenAt 0
      have e1 := HS.out.a.cell 1 (by omega)
      have r1 := HS.out.c.cell 1 (by omega)
      have f1 := HS.out.c.frozenAt 1
      have e2 := HS.out.a.cell 2 (by omega)
      have r2 := HS.out.c.cell 2 (by omega)
      have f2 := HS.out.c.frozenAt 2
      have e3 := HS.out.a.cell 3 (by omega)
      have r3 := HS.out.c.cell 3 (by omega)
      have f3 := HS.out.c.frozenAt 3
      have e4 := HS.out.a.cell 4 (by omega)
      have r4 := HS.out.c.cell 4 (by omega)
      have f4 := HS.out.c.frozenAt 4
      have e5 := HS.out.a.cell 5 (by omega)
      have r5 := HS.out.c.cell 5 (by omega)
      have f5 := HS.out.c.frozenAt 5
      have e6 := HS.out.a.cell 6 (by omega)
      have r6 := HS.out.c.cell 6 (by omega)
      have f6 := HS.out.c.frozenAt 6
      have e7 := HS.out.a.cell 7 (by omega)
      have r7 := HS.out.c.cell 7 (by omega)
      have f7 := HS.out.c.frozenAt 7
      have e8 := HS.out.a.cell 8 (by omega)
      have r8 := HS.out.c.cell 8 (by omega)
      have f8 := HS.out.c.frozenAt 8
      have e9 := HS.out.a.cell 9 (by omega)
      have r9 := HS.out.c.cell 9 (by omega)
      have f9 := HS.out.c.frozenAt 9
      have e10 := HS.out.a.cell 10 (by omega)
      have r10 := HS.out.c.cell 10 (by omega)
      have f10 := HS.out.c.frozenAt 10
      have e11 := HS.out.a.cell 11 (by omega)
      have r11 := HS.out.c.cell 11 (by omega)
      have f11 := HS.out.c.frozenAt 11
      have e12 := HS.out.a.cell 12 (by omega)
      have r12 := HS.out.c.cell 12 (by omega)
      have f12 := HS.out.c.frozenAt 12
      go_wp2
      refine bodyPost_ret (v := tv (orE E F 13)) (by simp [results, Try.f147, go_sem, *]) rfl ⟨rfl, ?_⟩
      exact (((((((((((((HS.out.bel.setCell (p := ⟨w.heap.size + 1 + 1, 0, none⟩) (by simp only; omega) _).setCell (p := ⟨w.heap.size + 1 + 1, 1, none⟩) (by simp only; omega) _).setCell (p := ⟨w.heap.size + 1 + 1, 2, none⟩) (by simp only; omega) _).setCell (p := ⟨w.heap.size + 1 + 1, 3, none⟩) (by simp only; omega) _).setCell (p := ⟨w.heap.size + 1 + 1, 4, none⟩) (by simp only; omega) _).setCell (p := ⟨w.heap.size + 1 + 1, 5, none⟩) (by simp only; omega) _).setCell (p := ⟨w.heap.size + 1 + 1, 6, none⟩) (by simp only; omega) _).setCell (p := ⟨w.heap.size + 1 + 1, 7, none⟩) (by simp only; omega) _).setCell (p := ⟨w.heap.size + 1 + 1, 8, none⟩) (by simp only; omega) _).setCell (p := ⟨w.heap.size + 1 + 1, 9, none⟩) (by simp only; omega) _).setCell (p := ⟨w.heap.size + 1 + 1, 10, none⟩) (by simp only; omega) _).setCell (p := ⟨w.heap.size + 1 + 1, 11, none⟩) (by simp only; omega) _).setCell (p := ⟨w.heap.size + 1 + 1, 12, none⟩) (by simp only; omega) _)
/-- Four tables in memory. -/
structure S4 (w wr : World) (A B C D : Nat → Nat) : Prop where
  a : rowE wr w.heap.size w.heap.size A
  b : rowE wr w.heap.size (w.heap.size + 1) B
  c : rowE wr w.heap.size (w.heap.size + 2) C
  d : rowE wr w.heap.size (w.heap.size + 3) D
  bel : Below w.heap.size w wr
theorem thE_at (E F : Nat → Nat) (k : Nat) : thE E F k k = 0 := by rw [thE_get, if_neg (by omega)]
set_option maxRecDepth 100000 in
set_option maxHeartbeats 8000000 in
theorem then_any (E F : Nat → Nat) (hE : ∀ i, E i < 8192) (hF : ∀ i, F i < 8192) (w : World) :
    Calls Try.prog 146 #[tv E, tv F] w fun e w' => e = .returned (tv (thE E F 13)) ∧ Below w.heap.size w w' := by
  go_enter Try.func146, Try.ntmps146
  go_wp2
  obtain ⟨W, hW⟩ : ∃ W, W = (((w.alloc (.cells #[.int .u16 ((E 0 : Nat) : Int), .int .u16 ((E 1 : Nat) : Int), .int .u16 ((E 2 : Nat) : Int), .int .u16 ((E 3 : Nat) : Int), .int .u16 ((E 4 : Nat) : Int), .int .u16 ((E 5 : Nat) : Int), .int .u16 ((E 6 : Nat) : Int), .int .u16 ((E 7 : Nat) : Int), .int .u16 ((E 8 : Nat) : Int), .int .u16 ((E 9 : Nat) : Int), .int .u16 ((E 10 : Nat) : Int), .int .u16 ((E 11 : Nat) : Int), .int .u16 ((E 12 : Nat) : Int)] 155)).alloc (.cells #[.int .u16 ((F 0 : Nat) : Int), .int .u16 ((F 1 : Nat) : Int), .int .u16 ((F 2 : Nat) : Int), .int .u16 ((F 3 : Nat) : Int), .int .u16 ((F 4 : Nat) : Int), .int .u16 ((F 5 : Nat) : Int), .int .u16 ((F 6 : Nat) : Int), .int .u16 ((F 7 : Nat) : Int), .int .u16 ((F 8 : Nat) : Int), .int .u16 ((F 9 : Nat) : Int), .int .u16 ((F 10 : Nat) : Int), .int .u16 ((F 11 : Nat) : Int), .int .u16 ((F 12 : Nat) : Int)] 155)).alloc (.cells #[.int .u16 0, .int .u16 0, .int .u16 0, .int .u16 0, .int .u16 0, .int .u16 0, .int .u16 0, .int .u16 0, .int .u16 0, .int .u16 0, .int .u16 0, .int .u16 0, .int .u16 0] 155)).alloc (.cells #[.int .u16 0, .int .u16 0, .int .u16 0, .int .u16 0, .int .u16 0, .int .u16 0, .int .u16 0, .int .u16 0, .int .u16 0, .int .u16 0, .int .u16 0, .int .u16 0, .int .u16 0] 155) := ⟨_, rfl⟩
  rw [← hW]
  have H0 : Hid (S4 w W E F (fun _ => 0) (fun _ => 0)) := hide (by
    rw [hW]
    exact ⟨(((rowE.new w _ _ rfl (Nat.le_refl _) E).alloc _).alloc _).alloc _, ((rowE.new _ _ _ (by simp) (by omega) F).alloc _).alloc _, (rowE.zero _ _ _ (by simp) (by omega)).alloc _, rowE.zero _ _ _ (by simp) (by omega), ((((Below.refl _ _).alloc (Nat.le_refl _) _).alloc (by simp) _).alloc (by simp; omega) _).alloc (by simp; omega) _⟩)
  have HE := hide hE
  have HF := hide hF
  clear hW hE hF
  go_loopw [8] (fun i wr => ∃ k : Nat, k ≤ 13 ∧ i = .int .i64 k ∧ Hid (S4 w wr E F (fun _ => 0) (thE E F k))) (fun i _ => 13 - (intOf i).toNat)
  case atStart => exact ⟨0, by omega, rfl, H0⟩
  case round =>
    obtain ⟨k, hk, rfl, HS⟩ := hrel
    by_cases hlt : k < 13
    · have hltI : (k : Int) < 13 := by omega
      have HS0 : Hid (S4 w wr E F (fun _ => 0) (upd (thE E F k) k (thR E F k 0))) := hide (by show S4 w wr E F (fun _ => 0) (upd (thE E F k) k 0); rw [upd_same _ _ _ (thE_at E F k)]; exact HS.out)
      go_wp2
      go_loopw [11] (fun i wr => ∃ m : Nat, m ≤ 13 ∧ i = .int .i64 m ∧ Hid (S4 w wr E F (fun _ => 0) (upd (thE E F k) k (thR E F k m)))) (fun i _ => 13 - (intOf i).toNat)
      case atStart => exact ⟨0, by omega, rfl, HS0⟩
      case round =>
        obtain ⟨m, hm, rfl, HT⟩ := hrel
        by_cases hlm : m < 13
        · have hlmI : (m : Int) < 13 := by omega
          have ca := HT.out.a.cell k hlt
          have hst : thR E F k (m + 1) = if (E k).testBit m = true then thR E F k m ||| F m else thR E F k m := rfl
          cases hb : (E k).testBit m with
          | true =>
            have C := hide (fun w => has_any (E k) m (by have := HE.out k; omega) (by omega) w true hb.symm)
            rw [hb, if_pos rfl] at hst
            have cd := HT.out.d.cell k hlt
            rw [upd_self] at cd
            have cb := HT.out.b.cell m hlm
            have fd := HT.out.d.frozenAt k
            have hor := bits_or (thR E F k m) (F m) (by have := thR_lt E F HF.out k m; omega) (by have := HF.out m; omega)
            have HN : Hid (S4 w (wr.setCell ⟨w.heap.size + 3, k, none⟩ (.int .u16 ((thR E F k m ||| F m : Nat) : Int))).drew E F (fun _ => 0) (upd (thE E F k) k (thR E F k (m + 1)))) := hide (by
              rw [hst]
              have := HT.out.d.set k (thR E F k m ||| F m)
              rw [upd_upd] at this
              exact ⟨(HT.out.a.keep k _ (by omega)).drew, (HT.out.b.keep k _ (by omega)).drew, (HT.out.c.keep k _ (by omega)).drew, this.drew, (HT.out.bel.setCell (p := ⟨w.heap.size + 3, k, none⟩) (by simp only; omega) _).drew⟩)
            obtain ⟨q, hq⟩ : ∃ q, q = thR E F k m := ⟨_, rfl⟩
            rw [← hq] at cd hor HN
            clear hb hst hq
            go_wp2_with fail
            refine (C.out _).mono ?_
            rintro e w1 ⟨rfl, rfl⟩
            go_wp2
            go_region
            go_wp2
            go_roundw
            case rel => exact ⟨m + 1, by omega, by go_num, HN⟩
            case measure => simp [intOf]; omega
          | false =>
            have C := hide (fun w => has_any (E k) m (by have := HE.out k; omega) (by omega) w false hb.symm)
            rw [hb, if_neg (by simp)] at hst
            have HN : Hid (S4 w wr E F (fun _ => 0) (upd (thE E F k) k (thR E F k (m + 1)))) := hide (by rw [hst]; exact HT.out)
            clear hb hst
            go_wp2_with fail
            refine (C.out _).mono ?_
            rintro e w1 ⟨rfl, rfl⟩
            go_wp2
            go_roundw
            case rel => exact ⟨m + 1, by omega, by go_num, HN⟩
            case measure => simp [intOf]; omega
        · obtain rfl : m = 13 := by omega
          go_wp2
          go_roundw
          case rel => exact ⟨k + 1, by omega, by go_num, HT⟩
          case measure => simp [intOf]; omega
    · obtain rfl : k = 13 := by omega
      have e0 := HS.out.d.cell 0 (by omega)
      have r0 := HS.out.c.cell 0 (by omega)
      have f0 := HS.out.c.frozenAt 0
      have e1 := HS.out.d.cell 1 (by omega)
      have r1 := HS.out.c.cell 1 (by omega)
      have f1 := HS.out.c.frozenAt 1
      have e2 := HS.out.d.cell 2 (by omega)
      have r2 := HS.out.c.cell 2 (by omega)
      have f2 := HS.out.c.frozenAt 2
      have e3 := HS.out.d.cell 3 (by omega)
      have r3 := HS.out.c.cell 3 (by omega)
      have f3 := HS.out.c.frozenAt 3
      have e4 := HS.out.d.cell 4 (by omega)
      have r4 := HS.out.c.cell 4 (by omega)
      have f4 := HS.out.c.frozenAt 4
      have e5 := HS.out.d.cell 5 (by omega)
      have r5 := HS.out.c.cell 5 (by omega)
      have f5 := HS.out.c.frozenAt 5
      have e6 := HS.out.d.cell 6 (by omega)
      have r6 := HS.out.c.cell 6 (by omega)
      have f6 := HS.out.c.frozenAt 6
      have e7 := HS.out.d.cell 7 (by omega)
      have r7 := HS.out.c.cell 7 (by omega)
      have f7 := HS.out.c.frozenAt 7
      have e8 := HS.out.d.cell 8 (by omega)
      have r8 := HS.out.c.cell 8 (by omega)
      have f8 := HS.out.c.frozenAt 8
      have e9 := HS.out.d.cell 9 (by omega)
      have r9 := HS.out.c.cell 9 (by omega)
      have f9 := HS.out.c.frozenAt 9
      have e10 := HS.out.d.cell 10 (by omega)
      have r10 := HS.out.c.cell 10 (by omega)
      have f10 := HS.out.c.frozenAt 10
      have e11 := HS.out.d.cell 11 (by omega)
      have r11 := HS.out.c.cell 11 (by omega)
      have f11 := HS.out.c.frozenAt 11
      have e12 := HS.out.d.cell 12 (by omega)
      have r12 := HS.out.c.cell 12 (by omega)
      have f12 := HS.out.c.frozenAt 12
      go_wp2
      refine bodyPost_ret (v := tv (thE E F 13)) (by simp [results, Try.f146, go_sem, *]) rfl ⟨rfl, ?_⟩
      exact (((((((((((((HS.out.bel.setCell (p := ⟨w.heap.size + 1 + 1, 0, none⟩) (by simp only; omega) _).setCell (p := ⟨w.heap.size + 1 + 1, 1, none⟩) (by simp only; omega) _).setCell (p := ⟨w.heap.size + 1 + 1, 2, none⟩) (by simp only; omega) _).setCell (p := ⟨w.heap.size + 1 + 1, 3, none⟩) (by simp only; omega) _).setCell (p := ⟨w.heap.size + 1 + 1, 4, none⟩) (by simp only; omega) _).setCell (p := ⟨w.heap.size + 1 + 1, 5, none⟩) (by simp only; omega) _).setCell (p := ⟨w.heap.size + 1 + 1, 6, none⟩) (by simp only; omega) _).setCell (p := ⟨w.heap.size + 1 + 1, 7, none⟩) (by simp only; omega) _).setCell (p := ⟨w.heap.size + 1 + 1, 8, none⟩) (by simp only; omega) _).setCell (p := ⟨w.heap.size + 1 + 1, 9, none⟩) (by simp only; omega) _).setCell (p := ⟨w.heap.size + 1 + 1, 10, none⟩) (by simp only; omega) _).setCell (p := ⟨w.heap.size + 1 + 1, 11, none⟩) (by simp only; omega) _).setCell (p := ⟨w.heap.size + 1 + 1, 12, none⟩) (by simp only; omega) _)
theorem ntR_lt (E : Nat → Nat) (n i : Nat) (hn : n ≤ 12) : ∀ c, i + c ≤ n + 1 → ntR E i c < 8192
  | 0, _ => by simp [ntR]
  | c + 1, h => by
    have ih := ntR_lt E n i hn c (by omega)
    have : 2 ^ (i + c) < 8192 := Nat.pow_lt_pow_right (by omega) (show i + c < 13 by omega)
    unfold ntR
    split
    · exact ih
    · exact or_lt ih this
theorem ntE_at (E : Nat → Nat) (n k : Nat) : ntE E n k k = 0 := by rw [ntE_get, if_neg (by omega)]
theorem pow_cast (j : Nat) : ((2 ^ j : Nat) : Int) = 2 ^ j := by simp
theorem shl1 (j : Nat) (hj : j ≤ 12) : IntKind.u16.wrap (2 ^ j) = ((2 ^ j : Nat) : Int) := by
  have : 2 ^ j < 65536 := Nat.pow_lt_pow_right (by omega) (show j < 16 by omega)
  rw [← pow_cast, wrap_u16 _ this]
theorem shl2 (j : Nat) (hj : j ≤ 11) : IntKind.u16.wrap (2 * 2 ^ j) = ((2 * 2 ^ j : Nat) : Int) := by
  have : 2 ^ j < 32768 := Nat.pow_lt_pow_right (by omega) (show j < 15 by omega)
  rw [show (2 * 2 ^ j : Int) = ((2 * 2 ^ j : Nat) : Int) by simp, wrap_u16 _ (by omega)]
set_option maxRecDepth 100000 in
set_option maxHeartbeats 8000000 in
theorem not_any (E : Nat → Nat) (n : Nat) (hn : n ≤ 12) (hE : ∀ i, E i < 8192) (w : World) :
    Calls Try.prog 149 #[tv E, .int .i64 (n : Int)] w fun e w' => e = .returned (tv (ntE E n (n + 1))) ∧ Below w.heap.size w w' := by
  go_enter Try.func149, Try.ntmps149
  go_wp2
  obtain ⟨W, hW⟩ : ∃ W, W = ((w.alloc (.cells #[.int .u16 ((E 0 : Nat) : Int), .int .u16 ((E 1 : Nat) : Int), .int .u16 ((E 2 : Nat) : Int), .int .u16 ((E 3 : Nat) : Int), .int .u16 ((E 4 : Nat) : Int), .int .u16 ((E 5 : Nat) : Int), .int .u16 ((E 6 : Nat) : Int), .int .u16 ((E 7 : Nat) : Int), .int .u16 ((E 8 : Nat) : Int), .int .u16 ((E 9 : Nat) : Int), .int .u16 ((E 10 : Nat) : Int), .int .u16 ((E 11 : Nat) : Int), .int .u16 ((E 12 : Nat) : Int)] 155)).alloc (.cells #[.int .u16 0, .int .u16 0, .int .u16 0, .int .u16 0, .int .u16 0, .int .u16 0, .int .u16 0, .int .u16 0, .int .u16 0, .int .u16 0, .int .u16 0, .int .u16 0, .int .u16 0] 155)).alloc (.cells #[.int .u16 0, .int .u16 0, .int .u16 0, .int .u16 0, .int .u16 0, .int .u16 0, .int .u16 0, .int .u16 0, .int .u16 0, .int .u16 0, .int .u16 0, .int .u16 0, .int .u16 0] 155) := ⟨_, rfl⟩
  rw [← hW]
  have H0 : Hid (S3 w W E (fun _ => 0) (fun _ => 0)) := hide (by
    rw [hW]
    exact ⟨((rowE.new w _ _ rfl (Nat.le_refl _) E).alloc _).alloc _, (rowE.zero _ _ _ (by simp) (by omega)).alloc _, rowE.zero _ _ _ (by simp) (by omega), (((Below.refl _ _).alloc (Nat.le_refl _) _).alloc (by simp) _).alloc (by simp; omega) _⟩)
  have HE := hide hE
  clear hW hE
  go_loopw [10] (fun i wr => ∃ k : Nat, k ≤ n + 1 ∧ i = .int .i64 k ∧ Hid (S3 w wr E (fun _ => 0) (ntE E n k))) (fun i _ => n + 1 - (intOf i).toNat)
  case atStart => exact ⟨0, by omega, rfl, H0⟩
  case round =>
    obtain ⟨k, hk, rfl, HS⟩ := hrel
    by_cases hlt : k < n + 1
    · have hltI : (k : Int) < (n : Int) + 1 := by omega
      have hk13 : (k : Int) < 13 := by omega
      have HS0 : Hid (S3 w wr E (fun _ => 0) (upd (ntE E n k) k (ntR E k 0))) := hide (by show S3 w wr E (fun _ => 0) (upd (ntE E n k) k 0); rw [upd_same _ _ _ (ntE_at E n k)]; exact HS.out)
      go_wp2
      go_loopw [7] (fun i wr => ∃ m : Nat, k + m ≤ n + 1 ∧ i = .int .i64 ((k : Int) + (m : Int)) ∧ Hid (S3 w wr E (fun _ => 0) (upd (ntE E n k) k (ntR E k m)))) (fun i _ => n + 1 - (intOf i).toNat)
      case atStart => exact ⟨0, by omega, by simp, HS0⟩
      case round =>
        obtain ⟨m, hm, rfl, HT⟩ := hrel
        by_cases hlm : k + m ≤ n
        · have hlmI : (k : Int) + (m : Int) ≤ (n : Int) := by omega
          have hj16 : (k : Int) + (m : Int) ≤ 16 := by omega
          have hj0 : (0 : Int) ≤ (k : Int) + (m : Int) := by omega
          have htn : ((k : Int) + (m : Int)).toNat = k + m := by omega
          have hcast : (k : Int) + (m : Int) = ((k + m : Nat) : Int) := by omega
          have ca := HT.out.a.cell k (by omega)
          have hst : ntR E k (m + 1) = if (E k).testBit (k + m) = true then ntR E k m else ntR E k m ||| 2 ^ (k + m) := rfl
          cases hb : (E k).testBit (k + m) with
          | false =>
            have C := hide (fun w => has_any (E k) (k + m) (by have := HE.out k; omega) (by omega) w false hb.symm)
            rw [hb, if_neg (by simp)] at hst
            have cc := HT.out.c.cell k (by omega)
            rw [upd_self] at cc
            have fc := HT.out.c.frozenAt k
            have hsh := shl1 (k + m) (by omega)
            have hor := bits_or (ntR E k m) (2 ^ (k + m)) (by have := ntR_lt E n k hn m (by omega); omega) (Nat.pow_lt_pow_right (by omega) (show k + m < 16 by omega))
            rw [pow_cast] at hor hsh
            have HN : Hid (S3 w (wr.setCell ⟨w.heap.size + 2, k, none⟩ (.int .u16 ((ntR E k m ||| 2 ^ (k + m) : Nat) : Int))).drew E (fun _ => 0) (upd (ntE E n k) k (ntR E k (m + 1)))) := hide (by
              rw [hst]
              have := HT.out.c.set k (ntR E k m ||| 2 ^ (k + m))
              rw [upd_upd] at this
              exact ⟨(HT.out.a.keep k _ (by omega)).drew, (HT.out.b.keep k _ (by omega)).drew, this.drew, (HT.out.bel.setCell (p := ⟨w.heap.size + 2, k, none⟩) (by simp only; omega) _).drew⟩)
            obtain ⟨q, hq⟩ : ∃ q, q = ntR E k m := ⟨_, rfl⟩
            rw [← hq] at cc hor HN
            rw [← hcast] at C
            clear hb hst hq hcast
            go_wp2_with fail
            refine (C.out _).mono ?_
            rintro e w1 ⟨rfl, rfl⟩
            go_wp2
            go_region
            go_wp2
            go_roundw
            case rel => exact ⟨m + 1, by omega, by go_num, HN⟩
            case measure => simp [intOf]; omega
          | true =>
            have C := hide (fun w => has_any (E k) (k + m) (by have := HE.out k; omega) (by omega) w true hb.symm)
            rw [hb, if_pos rfl] at hst
            have HN : Hid (S3 w wr E (fun _ => 0) (upd (ntE E n k) k (ntR E k (m + 1)))) := hide (by rw [hst]; exact HT.out)
            rw [← hcast] at C
            clear hb hst hcast
            go_wp2_with fail
            refine (C.out _).mono ?_
            rintro e w1 ⟨rfl, rfl⟩
            go_wp2
            go_roundw
            case rel => exact ⟨m + 1, by omega, by go_num, HN⟩
            case measure => simp [intOf]; omega
        · have hlmI : ¬ (k : Int) + (m : Int) ≤ (n : Int) := by omega
          have HN : Hid (S3 w wr E (fun _ => 0) (ntE E n (k + 1))) := hide (by
            have e : m = n + 1 - k := by omega
            rw [e] at HT
            exact HT.out)
          go_wp2
          go_roundw
          case rel => exact ⟨k + 1, by omega, by go_num, HN⟩
          case measure => simp [intOf]; omega
    · obtain rfl : k = n + 1 := by omega
      have hltI : ¬ ((n + 1 : Nat) : Int) < (n : Int) + 1 := by omega
      have e0 := HS.out.c.cell 0 (by omega)
      have r0 := HS.out.b.cell 0 (by omega)
      have f0 := HS.out.b.frozenAt 0
      have e1 := HS.out.c.cell 1 (by omega)
      have r1 := HS.out.b.cell 1 (by omega)
      have f1 := HS.out.b.frozenAt 1
      have e2 := HS.out.c.cell 2 (by omega)
      have r2 := HS.out.b.cell 2 (by omega)
      have f2 := HS.out.b.frozenAt 2
      have e3 := HS.out.c.cell 3 (by omega)
      have r3 := HS.out.b.cell 3 (by omega)
      have f3 := HS.out.b.frozenAt 3
      have e4 := HS.out.c.cell 4 (by omega)
      have r4 := HS.out.b.cell 4 (by omega)
      have f4 := HS.out.b.frozenAt 4
      have e5 := HS.out.c.cell 5 (by omega)
      have r5 := HS.out.b.cell 5 (by omega)
      have f5 := HS.out.b.frozenAt 5
      have e6 := HS.out.c.cell 6 (by omega)
      have r6 := HS.out.b.cell 6 (by omega)
      have f6 := HS.out.b.frozenAt 6
      have e7 := HS.out.c.cell 7 (by omega)
      have r7 := HS.out.b.cell 7 (by omega)
      have f7 := HS.out.b.frozenAt 7
      have e8 := HS.out.c.cell 8 (by omega)
      have r8 := HS.out.b.cell 8 (by omega)
      have f8 := HS.out.b.frozenAt 8
      have e9 := HS.out.c.cell 9 (by omega)
      have r9 := HS.out.b.cell 9 (by omega)
      have f9 := HS.out.b.frozenAt 9
      have e10 := HS.out.c.cell 10 (by omega)
      have r10 := HS.out.b.cell 10 (by omega)
      have f10 := HS.out.b.frozenAt 10
      have e11 := HS.out.c.cell 11 (by omega)
      have r11 := HS.out.b.cell 11 (by omega)
      have f11 := HS.out.b.frozenAt 11
      have e12 := HS.out.c.cell 12 (by omega)
      have r12 := HS.out.b.cell 12 (by omega)
      have f12 := HS.out.b.frozenAt 12
      go_wp2
      refine bodyPost_ret (v := tv (ntE E n (n + 1))) (by simp [results, Try.f149, go_sem, *]) rfl ⟨rfl, ?_⟩
      exact (((((((((((((HS.out.bel.setCell (p := ⟨w.heap.size + 1, 0, none⟩) (by simp only; omega) _).setCell (p := ⟨w.heap.size + 1, 1, none⟩) (by simp only; omega) _).setCell (p := ⟨w.heap.size + 1, 2, none⟩) (by simp only; omega) _).setCell (p := ⟨w.heap.size + 1, 3, none⟩) (by simp only; omega) _).setCell (p := ⟨w.heap.size + 1, 4, none⟩) (by simp only; omega) _).setCell (p := ⟨w.heap.size + 1, 5, none⟩) (by simp only; omega) _).setCell (p := ⟨w.heap.size + 1, 6, none⟩) (by simp only; omega) _).setCell (p := ⟨w.heap.size + 1, 7, none⟩) (by simp only; omega) _).setCell (p := ⟨w.heap.size + 1, 8, none⟩) (by simp only; omega) _).setCell (p := ⟨w.heap.size + 1, 9, none⟩) (by simp only; omega) _).setCell (p := ⟨w.heap.size + 1, 10, none⟩) (by simp only; omega) _).setCell (p := ⟨w.heap.size + 1, 11, none⟩) (by simp only; omega) _).setCell (p := ⟨w.heap.size + 1, 12, none⟩) (by simp only; omega) _)
end Go.Proofs.Ytapffbbmofhpoab.L5

namespace Go.Proofs.Ytapffbbmofhpoab.L5
open Go.RowKit L1 L4
set_option linter.unusedVariables false
attribute [local go_sem] mk_noText mk_emptyText mk_oneLetter mk_anyLetter mk_thenShape mk_eitherShape mk_manyShape mk_notShape as_noText_noText as_noText_emptyText as_noText_oneLetter as_noText_anyLetter as_noText_thenShape as_noText_eitherShape as_noText_manyShape as_noText_notShape as_emptyText_noText as_emptyText_emptyText as_emptyText_oneLetter as_emptyText_anyLetter as_emptyText_thenShape as_emptyText_eitherShape as_emptyText_manyShape as_emptyText_notShape as_oneLetter_noText as_oneLetter_emptyText as_oneLetter_oneLetter as_oneLetter_anyLetter as_oneLetter_thenShape as_oneLetter_eitherShape as_oneLetter_manyShape as_oneLetter_notShape as_anyLetter_noText as_anyLetter_emptyText as_anyLetter_oneLetter as_anyLetter_anyLetter as_anyLetter_thenShape as_anyLetter_eitherShape as_anyLetter_manyShape as_anyLetter_notShape as_thenShape_noText as_thenShape_emptyText as_thenShape_oneLetter as_thenShape_anyLetter as_thenShape_thenShape as_thenShape_eitherShape as_thenShape_manyShape as_thenShape_notShape as_eitherShape_noText as_eitherShape_emptyText as_eitherShape_oneLetter as_eitherShape_anyLetter as_eitherShape_thenShape as_eitherShape_eitherShape as_eitherShape_manyShape as_eitherShape_notShape as_manyShape_noText as_manyShape_emptyText as_manyShape_oneLetter as_manyShape_anyLetter as_manyShape_thenShape as_manyShape_eitherShape as_manyShape_manyShape as_manyShape_notShape as_notShape_noText as_notShape_emptyText as_notShape_oneLetter as_notShape_anyLetter as_notShape_thenShape as_notShape_eitherShape as_notShape_manyShape as_notShape_notShape
theorem mrR_lt (E M : Nat → Nat) (hM : ∀ q, M q < 8192) (i : Nat) (hi : i ≤ 12) : ∀ c, mrR E M i c < 8192
  | 0 => by
    unfold mrR
    exact Nat.pow_lt_pow_right (by omega) (show i < 13 by omega)
  | c + 1 => by unfold mrR; split; exact or_lt (mrR_lt E M hM i hi c) (hM _); exact mrR_lt E M hM i hi c
theorem mrE_lt (E : Nat → Nat) (n : Nat) (hn : n ≤ 12) : ∀ d q, mrE E n d q < 8192
  | 0, q => by simp [mrE]
  | d + 1, q => by
    show upd _ _ _ q < 8192
    unfold upd
    split
    · exact mrR_lt E _ (mrE_lt E n hn d) _ (by omega) d
    · exact mrE_lt E n hn d q
set_option maxRecDepth 100000 in
set_option maxHeartbeats 8000000 in
theorem many_any (E : Nat → Nat) (n : Nat) (hn : n ≤ 12) (hE : ∀ i, E i < 8192) (w : World) :
    Calls Try.prog 148 #[tv E, .int .i64 (n : Int)] w fun e w' => e = .returned (tv (mrE E n (n + 1))) ∧ Below w.heap.size w w' := by
  go_enter Try.func148, Try.ntmps148
  go_wp2
  obtain ⟨W, hW⟩ : ∃ W, W = ((w.alloc (.cells #[.int .u16 ((E 0 : Nat) : Int), .int .u16 ((E 1 : Nat) : Int), .int .u16 ((E 2 : Nat) : Int), .int .u16 ((E 3 : Nat) : Int), .int .u16 ((E 4 : Nat) : Int), .int .u16 ((E 5 : Nat) : Int), .int .u16 ((E 6 : Nat) : Int), .int .u16 ((E 7 : Nat) : Int), .int .u16 ((E 8 : Nat) : Int), .int .u16 ((E 9 : Nat) : Int), .int .u16 ((E 10 : Nat) : Int), .int .u16 ((E 11 : Nat) : Int), .int .u16 ((E 12 : Nat) : Int)] 155)).alloc (.cells #[.int .u16 0, .int .u16 0, .int .u16 0, .int .u16 0, .int .u16 0, .int .u16 0, .int .u16 0, .int .u16 0, .int .u16 0, .int .u16 0, .int .u16 0, .int .u16 0, .int .u16 0] 155)).alloc (.cells #[.int .u16 0, .int .u16 0, .int .u16 0, .int .u16 0, .int .u16 0, .int .u16 0, .int .u16 0, .int .u16 0, .int .u16 0, .int .u16 0, .int .u16 0, .int .u16 0, .int .u16 0] 155) := ⟨_, rfl⟩
  rw [← hW]
  have H0 : Hid (S3 w W E (fun _ => 0) (fun _ => 0)) := hide (by
    rw [hW]
    exact ⟨((rowE.new w _ _ rfl (Nat.le_refl _) E).alloc _).alloc _, (rowE.zero _ _ _ (by simp) (by omega)).alloc _, rowE.zero _ _ _ (by simp) (by omega), (((Below.refl _ _).alloc (Nat.le_refl _) _).alloc (by simp) _).alloc (by simp; omega) _⟩)
  have HE := hide hE
  clear hW hE
  go_loopw [6] (fun i wr => ∃ d : Nat, d ≤ n + 1 ∧ i = .int .i64 ((n : Int) - (d : Int)) ∧ Hid (S3 w wr E (fun _ => 0) (mrE E n d))) (fun i _ => ((intOf i) + 1).toNat)
  case atStart => exact ⟨0, by omega, by simp, H0⟩
  case round =>
    obtain ⟨d, hd, rfl, HS⟩ := hrel
    by_cases hlt : d ≤ n
    · obtain ⟨i, rfl⟩ : ∃ i, n = i + d := ⟨n - d, by omega⟩
      have hid : ((i + d : Nat) : Int) - (d : Int) = (i : Int) := by omega
      rw [hid]
      have hi0 : (0 : Int) ≤ (i : Int) := by omega
      have hi13 : (i : Int) < 13 := by omega
      have hi16 : (i : Int) ≤ 16 := by omega
      have hnd : i + d - d = i := by omega
      have hsh := shl1 i (by omega)
      rw [pow_cast] at hsh
      have cc := HS.out.c.cell i (by omega)
      have fc := HS.out.c.frozenAt i
      have HS0 : Hid (S3 w (wr.setCell ⟨w.heap.size + 2, i, none⟩ (.int .u16 (2 ^ i))) E (fun _ => 0) (upd (mrE E (i + d) d) i (mrR E (mrE E (i + d) d) i 0))) := hide (by
        have := HS.out.c.set i (2 ^ i)
        rw [pow_cast] at this
        exact ⟨HS.out.a.keep i _ (by omega), HS.out.b.keep i _ (by omega), this, HS.out.bel.setCell (p := ⟨w.heap.size + 2, i, none⟩) (by simp only; omega) _⟩)
      clear hid
      go_wp2
      go_loopw [7] (fun j wr => ∃ c : Nat, c ≤ d ∧ j = .int .i64 ((i : Int) + 1 + (c : Int)) ∧ Hid (S3 w wr E (fun _ => 0) (upd (mrE E (i + d) d) i (mrR E (mrE E (i + d) d) i c)))) (fun j _ => i + d + 1 - (intOf j).toNat)
      case atStart => exact ⟨0, by omega, by simp, HS0⟩
      case round =>
        obtain ⟨c, hc, rfl, HT⟩ := hrel
        by_cases hlm : c < d
        · have hlmI : (i : Int) + 1 + (c : Int) ≤ ((i + d : Nat) : Int) := by omega
          have hj0 : (0 : Int) ≤ (i : Int) + 1 + (c : Int) := by omega
          have hj13 : (i : Int) + 1 + (c : Int) < 13 := by omega
          have htn : ((i : Int) + 1 + (c : Int)).toNat = i + 1 + c := by omega
          have hcast : (i : Int) + 1 + (c : Int) = ((i + 1 + c : Nat) : Int) := by omega
          have ca := HT.out.a.cell i (by omega)
          have hst : mrR E (mrE E (i + d) d) i (c + 1) = if (E i).testBit (i + 1 + c) = true then mrR E (mrE E (i + d) d) i c ||| mrE E (i + d) d (i + 1 + c) else mrR E (mrE E (i + d) d) i c := rfl
          cases hb : (E i).testBit (i + 1 + c) with
          | true =>
            have C := hide (fun w => has_any (E i) (i + 1 + c) (by have := HE.out i; omega) (by omega) w true hb.symm)
            rw [hb, if_pos rfl] at hst
            have c1 := HT.out.c.cell i (by omega)
            rw [upd_self] at c1
            have c2 := HT.out.c.cell (i + 1 + c) (by omega)
            rw [upd_ne _ _ _ _ (by omega)] at c2
            have f1 := HT.out.c.frozenAt i
            have hor := bits_or (mrR E (mrE E (i + d) d) i c) (mrE E (i + d) d (i + 1 + c)) (by have := mrR_lt E _ (mrE_lt E (i + d) hn d) i (by omega) c; omega) (by have := mrE_lt E (i + d) hn d (i + 1 + c); omega)
            have HN : Hid (S3 w (wr.setCell ⟨w.heap.size + 2, i, none⟩ (.int .u16 ((mrR E (mrE E (i + d) d) i c ||| mrE E (i + d) d (i + 1 + c) : Nat) : Int))).drew E (fun _ => 0) (upd (mrE E (i + d) d) i (mrR E (mrE E (i + d) d) i (c + 1)))) := hide (by
              rw [hst]
              have := HT.out.c.set i (mrR E (mrE E (i + d) d) i c ||| mrE E (i + d) d (i + 1 + c))
              rw [upd_upd] at this
              exact ⟨(HT.out.a.keep i _ (by omega)).drew, (HT.out.b.keep i _ (by omega)).drew, this.drew, (HT.out.bel.setCell (p := ⟨w.heap.size + 2, i, none⟩) (by simp only; omega) _).drew⟩)
            obtain ⟨q, hq⟩ : ∃ q, q = mrR E (mrE E (i + d) d) i c := ⟨_, rfl⟩
            obtain ⟨q2, hq2⟩ : ∃ q, q = mrE E (i + d) d (i + 1 + c) := ⟨_, rfl⟩
            rw [← hq] at c1 hor HN
            rw [← hq2] at c2 hor HN
            rw [← hcast] at C
            clear hb hst hq hq2 hcast
            go_wp2_with fail
            refine (C.out _).mono ?_
            rintro e w1 ⟨rfl, rfl⟩
            go_wp2
            go_region
            go_wp2
            go_roundw
            case rel => exact ⟨c + 1, by omega, by go_num, HN⟩
            case measure => simp [intOf]; omega
          | false =>
            have C := hide (fun w => has_any (E i) (i + 1 + c) (by have := HE.out i; omega) (by omega) w false hb.symm)
            rw [hb, if_neg (by simp)] at hst
            have HN : Hid (S3 w wr E (fun _ => 0) (upd (mrE E (i + d) d) i (mrR E (mrE E (i + d) d) i (c + 1)))) := hide (by rw [hst]; exact HT.out)
            rw [← hcast] at C
            clear hb hst hcast
            go_wp2_with fail
            refine (C.out _).mono ?_
            rintro e w1 ⟨rfl, rfl⟩
            go_wp2
            go_roundw
            case rel => exact ⟨c + 1, by omega, by go_num, HN⟩
            case measure => simp [intOf]; omega
        · obtain rfl : c = d := by omega
          have hlmI : ¬ (i : Int) + 1 + (c : Int) ≤ ((i + c : Nat) : Int) := by omega
          have HN : Hid (S3 w wr E (fun _ => 0) (mrE E (i + c) (c + 1))) := hide (by
            show S3 w wr E (fun _ => 0) (upd (mrE E (i + c) c) (i + c - c) (mrR E (mrE E (i + c) c) (i + c - c) c))
            rw [hnd]
            exact HT.out)
          clear hnd
          go_wp2
          go_roundw
          case rel => exact ⟨c + 1, by omega, by go_num, HN⟩
          case measure => simp [intOf]; omega
    · obtain rfl : d = n + 1 := by omega
      have hid : (n : Int) - ((n + 1 : Nat) : Int) = -1 := by omega
      rw [hid]
      clear hid
      have e0 := HS.out.c.cell 0 (by omega)
      have r0 := HS.out.b.cell 0 (by omega)
      have f0 := HS.out.b.frozenAt 0
      have e1 := HS.out.c.cell 1 (by omega)
      have r1 := HS.out.b.cell 1 (by omega)
      have f1 := HS.out.b.frozenAt 1
      have e2 := HS.out.c.cell 2 (by omega)
      have r2 := HS.out.b.cell 2 (by omega)
      have f2 := HS.out.b.frozenAt 2
      have e3 := HS.out.c.cell 3 (by omega)
      have r3 := HS.out.b.cell 3 (by omega)
      have f3 := HS.out.b.frozenAt 3
      have e4 := HS.out.c.cell 4 (by omega)
      have r4 := HS.out.b.cell 4 (by omega)
      have f4 := HS.out.b.frozenAt 4
      have e5 := HS.out.c.cell 5 (by omega)
      have r5 := HS.out.b.cell 5 (by omega)
      have f5 := HS.out.b.frozenAt 5
      have e6 := HS.out.c.cell 6 (by omega)
      have r6 := HS.out.b.cell 6 (by omega)
      have f6 := HS.out.b.frozenAt 6
      have e7 := HS.out.c.cell 7 (by omega)
      have r7 := HS.out.b.cell 7 (by omega)
      have f7 := HS.out.b.frozenAt 7
      have e8 := HS.out.c.cell 8 (by omega)
      have r8 := HS.out.b.cell 8 (by omega)
      have f8 := HS.out.b.frozenAt 8
      have e9 := HS.out.c.cell 9 (by omega)
      have r9 := HS.out.b.cell 9 (by omega)
      have f9 := HS.out.b.frozenAt 9
      have e10 := HS.out.c.cell 10 (by omega)
      have r10 := HS.out.b.cell 10 (by omega)
      have f10 := HS.out.b.frozenAt 10
      have e11 := HS.out.c.cell 11 (by omega)
      have r11 := HS.out.b.cell 11 (by omega)
      have f11 := HS.out.b.frozenAt 11
      have e12 := HS.out.c.cell 12 (by omega)
      have r12 := HS.out.b.cell 12 (by omega)
      have f12 := HS.out.b.frozenAt 12
      go_wp2
      refine bodyPost_ret (v := tv (mrE E n (n + 1))) (by simp [results, Try.f148, go_sem, *]) rfl ⟨rfl, ?_⟩
      exact (((((((((((((HS.out.bel.setCell (p := ⟨w.heap.size + 1, 0, none⟩) (by simp only; omega) _).setCell (p := ⟨w.heap.size + 1, 1, none⟩) (by simp only; omega) _).setCell (p := ⟨w.heap.size + 1, 2, none⟩) (by simp only; omega) _).setCell (p := ⟨w.heap.size + 1, 3, none⟩) (by simp only; omega) _).setCell (p := ⟨w.heap.size + 1, 4, none⟩) (by simp only; omega) _).setCell (p := ⟨w.heap.size + 1, 5, none⟩) (by simp only; omega) _).setCell (p := ⟨w.heap.size + 1, 6, none⟩) (by simp only; omega) _).setCell (p := ⟨w.heap.size + 1, 7, none⟩) (by simp only; omega) _).setCell (p := ⟨w.heap.size + 1, 8, none⟩) (by simp only; omega) _).setCell (p := ⟨w.heap.size + 1, 9, none⟩) (by simp only; omega) _).setCell (p := ⟨w.heap.size + 1, 10, none⟩) (by simp only; omega) _).setCell (p := ⟨w.heap.size + 1, 11, none⟩) (by simp only; omega) _).setCell (p := ⟨w.heap.size + 1, 12, none⟩) (by simp only; omega) _)
theorem bts_lenN (s : ByteArray) : (bts s 0).length = s.size := by rw [bts_len]; omega
set_option maxRecDepth 100000 in
theorem row_below {w w' : World} {base g : Nat} {E : Nat → Nat} (h : rowE w base g E) (hb : Below w.heap.size w w') : rowE w' base g E := own_belowT h hb
theorem cell_new_at (w : World) (g : Nat) (hg : w.heap.size = g) (v : Value) (t : TypeId) : (w.alloc (.cells #[v] t)).cell? ⟨g, 0, none⟩ = some v := by
  subst hg; simp
/-- The result's table and the one that is filled. -/
structure S2 (w wr : World) (D : Nat → Nat) : Prop where
  r : rowE wr w.heap.size w.heap.size (fun _ => 0)
  o : rowE wr w.heap.size (w.heap.size + 1) D
  bel : Below w.heap.size w wr
theorem S2.step {w wr : World} {D : Nat → Nat} (h : S2 w wr D) (i v : Nat) : S2 w (wr.setCell ⟨w.heap.size + 1, i, none⟩ (.int .u16 (v : Int))) (upd D i v) :=
  ⟨h.r.keep i _ (by omega), h.o.set i v, h.bel.setCell (p := ⟨w.heap.size + 1, i, none⟩) (by simp only; omega) _⟩
theorem S2.new {w W : World} (hW : W = (w.alloc (.cells #[.int .u16 0, .int .u16 0, .int .u16 0, .int .u16 0, .int .u16 0, .int .u16 0, .int .u16 0, .int .u16 0, .int .u16 0, .int .u16 0, .int .u16 0, .int .u16 0, .int .u16 0] 155)).alloc (.cells #[.int .u16 0, .int .u16 0, .int .u16 0, .int .u16 0, .int .u16 0, .int .u16 0, .int .u16 0, .int .u16 0, .int .u16 0, .int .u16 0, .int .u16 0, .int .u16 0, .int .u16 0] 155)) : S2 w W (fun _ => 0) := by
  rw [hW]
  exact ⟨(rowE.zero w _ _ rfl (Nat.le_refl _)).alloc _, rowE.zero _ _ _ (by simp) (by omega), ((Below.refl _ _).alloc (Nat.le_refl _) _).alloc (by simp) _⟩
theorem S2.below {w wr w' : World} {D : Nat → Nat} (h : S2 w wr D) (hb : Below wr.heap.size wr w') : S2 w w' D := ⟨row_below h.r hb, row_below h.o hb, h.bel.trans (hb.mono h.bel.size)⟩
theorem below_drewE {B : Nat} {a w : World} (h : Below B a w) (n : Nat) : Below B a (w.drewN n) := h.trans ⟨rfl, rfl, rfl, Nat.le_refl _, fun _ _ => rfl⟩
/-- What the call does at a shape. -/
def EC (x : Sh) : Prop := ∀ (s : ByteArray) (w : World), s.size ≤ 12 → Calls Try.prog 125 #[sv x, .string s] w fun e w' => e = .returned (tv (ev (bts s 0) x)) ∧ Below w.heap.size w w'
set_option maxRecDepth 100000 in
set_option maxHeartbeats 1000000 in
theorem ends_none : EC .none := by
  intro s w hs
  show Calls Try.prog 125 #[.iface 175 (.agg #[]), .string s] w fun e w' => e = .returned (.agg #[.int .u16 0, .int .u16 0, .int .u16 0, .int .u16 0, .int .u16 0, .int .u16 0, .int .u16 0, .int .u16 0, .int .u16 0, .int .u16 0, .int .u16 0, .int .u16 0, .int .u16 0]) ∧ Below w.heap.size w w'
  go_enter Try.func125, Try.ntmps125
  go_wp2
  refine bodyPost_ret (v := .agg #[.int .u16 0, .int .u16 0, .int .u16 0, .int .u16 0, .int .u16 0, .int .u16 0, .int .u16 0, .int .u16 0, .int .u16 0, .int .u16 0, .int .u16 0, .int .u16 0, .int .u16 0]) (by simp [results, Try.f125, go_sem]) rfl ⟨rfl, ?_⟩
  exact ((Below.refl _ _).alloc (Nat.le_refl _) _).alloc (by simp) _
set_option maxRecDepth 100000 in
set_option maxHeartbeats 8000000 in
theorem ends_empty : EC .empty := by
  intro s w hs
  have HV : Hid (ev (bts s 0) .empty = emE (s.size + 1)) := hide (by show emE _ = _; rw [bts_lenN])
  rw [HV.out]
  show Calls Try.prog 125 #[.iface 162 (.agg #[]), .string s] w _
  go_enter Try.func125, Try.ntmps125
  go_wp2
  obtain ⟨W, hW⟩ : ∃ W, W = ((w.alloc (.cells #[.int .u16 0, .int .u16 0, .int .u16 0, .int .u16 0, .int .u16 0, .int .u16 0, .int .u16 0, .int .u16 0, .int .u16 0, .int .u16 0, .int .u16 0, .int .u16 0, .int .u16 0] 155)).alloc (.cells #[.int .u16 0, .int .u16 0, .int .u16 0, .int .u16 0, .int .u16 0, .int .u16 0, .int .u16 0, .int .u16 0, .int .u16 0, .int .u16 0, .int .u16 0, .int .u16 0, .int .u16 0] 155)).alloc (.cells #[] 162) := ⟨_, rfl⟩
  rw [← hW]
  have H0 : Hid (S2 w W (fun _ => 0)) := hide ((S2.new rfl).below (by rw [hW]; exact (Below.refl _ _).alloc (Nat.le_refl _) _))
  clear hW HV
  go_loopw [23] (fun i wr => ∃ k : Nat, k ≤ s.size + 1 ∧ i = .int .i64 k ∧ Hid (S2 w wr (emE k))) (fun i _ => s.size + 1 - (intOf i).toNat)
  case atStart => exact ⟨0, by omega, rfl, H0⟩
  case round =>
    obtain ⟨k, hk, rfl, HS⟩ := hrel
    by_cases hlt : k < s.size + 1
    · have hltI : (k : Int) < (s.size : Int) + 1 := by omega
      have hk13 : (k : Int) < 13 := by omega
      have hk16 : (k : Int) ≤ 16 := by omega
      have hsh := shl1 k (by omega)
      rw [pow_cast] at hsh
      have cc := HS.out.o.cell k (by omega)
      have fc := HS.out.o.frozenAt k
      have HN := hide (HS.out.step k (2 ^ k))
      rw [pow_cast] at HN
      go_wp2
      go_roundw
      case rel => exact ⟨k + 1, by omega, by go_num, HN⟩
      case measure => simp [intOf]; omega
    · obtain rfl : k = s.size + 1 := by omega
      have hltI : ¬ ((s.size + 1 : Nat) : Int) < (s.size : Int) + 1 := by omega
      have e0 := HS.out.o.cell 0 (by omega)
      have r0 := HS.out.r.cell 0 (by omega)
      have f0 := HS.out.r.frozenAt 0
      have e1 := HS.out.o.cell 1 (by omega)
      have r1 := HS.out.r.cell 1 (by omega)
      have f1 := HS.out.r.frozenAt 1
      have e2 := HS.out.o.cell 2 (by omega)
      have r2 := HS.out.r.cell 2 (by omega)
      have f2 := HS.out.r.frozenAt 2
      have e3 := HS.out.o.cell 3 (by omega)
      have r3 := HS.out.r.cell 3 (by omega)
      have f3 := HS.out.r.frozenAt 3
      have e4 := HS.out.o.cell 4 (by omega)
      have r4 := HS.out.r.cell 4 (by omega)
      have f4 := HS.out.r.frozenAt 4
      have e5 := HS.out.o.cell 5 (by omega)
      have r5 := HS.out.r.cell 5 (by omega)
      have f5 := HS.out.r.frozenAt 5
      have e6 := HS.out.o.cell 6 (by omega)
      have r6 := HS.out.r.cell 6 (by omega)
      have f6 := HS.out.r.frozenAt 6
      have e7 := HS.out.o.cell 7 (by omega)
      have r7 := HS.out.r.cell 7 (by omega)
      have f7 := HS.out.r.frozenAt 7
      have e8 := HS.out.o.cell 8 (by omega)
      have r8 := HS.out.r.cell 8 (by omega)
      have f8 := HS.out.r.frozenAt 8
      have e9 := HS.out.o.cell 9 (by omega)
      have r9 := HS.out.r.cell 9 (by omega)
      have f9 := HS.out.r.frozenAt 9
      have e10 := HS.out.o.cell 10 (by omega)
      have r10 := HS.out.r.cell 10 (by omega)
      have f10 := HS.out.r.frozenAt 10
      have e11 := HS.out.o.cell 11 (by omega)
      have r11 := HS.out.r.cell 11 (by omega)
      have f11 := HS.out.r.frozenAt 11
      have e12 := HS.out.o.cell 12 (by omega)
      have r12 := HS.out.r.cell 12 (by omega)
      have f12 := HS.out.r.frozenAt 12
      go_wp2
      refine bodyPost_ret (v := tv (emE (s.size + 1))) (by simp [results, Try.f125, go_sem, *]) rfl ⟨rfl, ?_⟩
      exact (((((((((((((HS.out.bel.setCell (p := ⟨w.heap.size, 0, none⟩) (by simp only; omega) _).setCell (p := ⟨w.heap.size, 1, none⟩) (by simp only; omega) _).setCell (p := ⟨w.heap.size, 2, none⟩) (by simp only; omega) _).setCell (p := ⟨w.heap.size, 3, none⟩) (by simp only; omega) _).setCell (p := ⟨w.heap.size, 4, none⟩) (by simp only; omega) _).setCell (p := ⟨w.heap.size, 5, none⟩) (by simp only; omega) _).setCell (p := ⟨w.heap.size, 6, none⟩) (by simp only; omega) _).setCell (p := ⟨w.heap.size, 7, none⟩) (by simp only; omega) _).setCell (p := ⟨w.heap.size, 8, none⟩) (by simp only; omega) _).setCell (p := ⟨w.heap.size, 9, none⟩) (by simp only; omega) _).setCell (p := ⟨w.heap.size, 10, none⟩) (by simp only; omega) _).setCell (p := ⟨w.heap.size, 11, none⟩) (by simp only; omega) _).setCell (p := ⟨w.heap.size, 12, none⟩) (by simp only; omega) _)
set_option maxRecDepth 100000 in
set_option maxHeartbeats 8000000 in
theorem ends_any : EC .any := by
  intro s w hs
  have HV : Hid (ev (bts s 0) .any = anE s.size) := hide (by show anE _ = _; rw [bts_lenN])
  rw [HV.out]
  show Calls Try.prog 125 #[.iface 173 (.agg #[]), .string s] w _
  go_enter Try.func125, Try.ntmps125
  go_wp2
  obtain ⟨W, hW⟩ : ∃ W, W = ((w.alloc (.cells #[.int .u16 0, .int .u16 0, .int .u16 0, .int .u16 0, .int .u16 0, .int .u16 0, .int .u16 0, .int .u16 0, .int .u16 0, .int .u16 0, .int .u16 0, .int .u16 0, .int .u16 0] 155)).alloc (.cells #[.int .u16 0, .int .u16 0, .int .u16 0, .int .u16 0, .int .u16 0, .int .u16 0, .int .u16 0, .int .u16 0, .int .u16 0, .int .u16 0, .int .u16 0, .int .u16 0, .int .u16 0] 155)).alloc (.cells #[] 173) := ⟨_, rfl⟩
  rw [← hW]
  have H0 : Hid (S2 w W (fun _ => 0)) := hide ((S2.new rfl).below (by rw [hW]; exact (Below.refl _ _).alloc (Nat.le_refl _) _))
  clear hW HV
  go_loopw [55] (fun i wr => ∃ k : Nat, k ≤ s.size ∧ i = .int .i64 k ∧ Hid (S2 w wr (anE k))) (fun i _ => s.size - (intOf i).toNat)
  case atStart => exact ⟨0, by omega, rfl, H0⟩
  case round =>
    obtain ⟨k, hk, rfl, HS⟩ := hrel
    by_cases hlt : k < s.size
    · have hltI : (k : Int) < (s.size : Int) := by omega
      have hk13 : (k : Int) < 13 := by omega
      have hk16 : (k : Int) ≤ 16 := by omega
      have hsh := shl2 k (by omega)
      have cc := HS.out.o.cell k (by omega)
      have fc := HS.out.o.frozenAt k
      have HN := hide (HS.out.step k (2 * 2 ^ k))
      obtain ⟨q, hq⟩ : ∃ q : Int, q = ((2 * 2 ^ k : Nat) : Int) := ⟨_, rfl⟩
      rw [← hq] at hsh HN
      clear hq
      go_wp2
      go_roundw
      case rel => exact ⟨k + 1, by omega, by go_num, HN⟩
      case measure => simp [intOf]; omega
    · obtain rfl : k = s.size := by omega
      have hltI : ¬ (s.size : Int) < (s.size : Int) := by omega
      have e0 := HS.out.o.cell 0 (by omega)
      have r0 := HS.out.r.cell 0 (by omega)
      have f0 := HS.out.r.frozenAt 0
      have e1 := HS.out.o.cell 1 (by omega)
      have r1 := HS.out.r.cell 1 (by omega)
      have f1 := HS.out.r.frozenAt 1
      have e2 := HS.out.o.cell 2 (by omega)
      have r2 := HS.out.r.cell 2 (by omega)
      have f2 := HS.out.r.frozenAt 2
      have e3 := HS.out.o.cell 3 (by omega)
      have r3 := HS.out.r.cell 3 (by omega)
      have f3 := HS.out.r.frozenAt 3
      have e4 := HS.out.o.cell 4 (by omega)
      have r4 := HS.out.r.cell 4 (by omega)
      have f4 := HS.out.r.frozenAt 4
      have e5 := HS.out.o.cell 5 (by omega)
      have r5 := HS.out.r.cell 5 (by omega)
      have f5 := HS.out.r.frozenAt 5
      have e6 := HS.out.o.cell 6 (by omega)
      have r6 := HS.out.r.cell 6 (by omega)
      have f6 := HS.out.r.frozenAt 6
      have e7 := HS.out.o.cell 7 (by omega)
      have r7 := HS.out.r.cell 7 (by omega)
      have f7 := HS.out.r.frozenAt 7
      have e8 := HS.out.o.cell 8 (by omega)
      have r8 := HS.out.r.cell 8 (by omega)
      have f8 := HS.out.r.frozenAt 8
      have e9 := HS.out.o.cell 9 (by omega)
      have r9 := HS.out.r.cell 9 (by omega)
      have f9 := HS.out.r.frozenAt 9
      have e10 := HS.out.o.cell 10 (by omega)
      have r10 := HS.out.r.cell 10 (by omega)
      have f10 := HS.out.r.frozenAt 10
      have e11 := HS.out.o.cell 11 (by omega)
      have r11 := HS.out.r.cell 11 (by omega)
      have f11 := HS.out.r.frozenAt 11
      have e12 := HS.out.o.cell 12 (by omega)
      have r12 := HS.out.r.cell 12 (by omega)
      have f12 := HS.out.r.frozenAt 12
      go_wp2
      refine bodyPost_ret (v := tv (anE s.size)) (by simp [results, Try.f125, go_sem, *]) rfl ⟨rfl, ?_⟩
      exact (((((((((((((HS.out.bel.setCell (p := ⟨w.heap.size, 0, none⟩) (by simp only; omega) _).setCell (p := ⟨w.heap.size, 1, none⟩) (by simp only; omega) _).setCell (p := ⟨w.heap.size, 2, none⟩) (by simp only; omega) _).setCell (p := ⟨w.heap.size, 3, none⟩) (by simp only; omega) _).setCell (p := ⟨w.heap.size, 4, none⟩) (by simp only; omega) _).setCell (p := ⟨w.heap.size, 5, none⟩) (by simp only; omega) _).setCell (p := ⟨w.heap.size, 6, none⟩) (by simp only; omega) _).setCell (p := ⟨w.heap.size, 7, none⟩) (by simp only; omega) _).setCell (p := ⟨w.heap.size, 8, none⟩) (by simp only; omega) _).setCell (p := ⟨w.heap.size, 9, none⟩) (by simp only; omega) _).setCell (p := ⟨w.heap.size, 10, none⟩) (by simp only; omega) _).setCell (p := ⟨w.heap.size, 11, none⟩) (by simp only; omega) _).setCell (p := ⟨w.heap.size, 12, none⟩) (by simp only; omega) _)
set_option maxRecDepth 100000 in
set_option maxHeartbeats 8000000 in
theorem ends_letter (c : Int) : EC (.letter c) := by
  intro s w hs
  have HV : Hid (ev (bts s 0) (.letter c) = leE c (bts s 0) s.size) := hide (by show leE c _ _ = _; rw [bts_lenN])
  rw [HV.out]
  show Calls Try.prog 125 #[.iface 170 (.agg #[.int .u8 c]), .string s] w _
  go_enter Try.func125, Try.ntmps125
  go_wp2
  obtain ⟨W, hW⟩ : ∃ W, W = ((w.alloc (.cells #[.int .u16 0, .int .u16 0, .int .u16 0, .int .u16 0, .int .u16 0, .int .u16 0, .int .u16 0, .int .u16 0, .int .u16 0, .int .u16 0, .int .u16 0, .int .u16 0, .int .u16 0] 155)).alloc (.cells #[.int .u16 0, .int .u16 0, .int .u16 0, .int .u16 0, .int .u16 0, .int .u16 0, .int .u16 0, .int .u16 0, .int .u16 0, .int .u16 0, .int .u16 0, .int .u16 0, .int .u16 0] 155)).alloc (.cells #[.int .u8 c] 170) := ⟨_, rfl⟩
  rw [← hW]
  have H0 : Hid (S2 w W (fun _ => 0) ∧ W.cell? ⟨w.heap.size + 2, 0, none⟩ = some (.int .u8 c)) := hide ⟨(S2.new rfl).below (by rw [hW]; exact (Below.refl _ _).alloc (Nat.le_refl _) _), by rw [hW]; exact cell_new_at _ _ (by simp) _ _⟩
  clear hW HV
  go_loopw [36] (fun i wr => ∃ k : Nat, k ≤ s.size ∧ i = .int .i64 k ∧ Hid (S2 w wr (leE c (bts s 0) k) ∧ wr.cell? ⟨w.heap.size + 2, 0, none⟩ = some (.int .u8 c))) (fun i _ => s.size - (intOf i).toNat)
  case atStart => exact ⟨0, by omega, rfl, H0⟩
  case round =>
    obtain ⟨k, hk, rfl, HSC⟩ := hrel
    have HS := hide HSC.out.1
    by_cases hlt : k < s.size
    · have hltI : (k : Int) < (s.size : Int) := by omega
      have hk0 : (0 : Int) ≤ (k : Int) := by omega
      have hk13 : (k : Int) < 13 := by omega
      have hk16 : (k : Int) ≤ 16 := by omega
      have hsh := shl2 k (by omega)
      have cl := HSC.out.2
      have cc := HS.out.o.cell k (by omega)
      have fc := HS.out.o.frozenAt k
      have hb := (bts_at s k hlt).symm
      have hst : leE c (bts s 0) (k + 1) = if (bts s 0).getD k 0 = c then upd (leE c (bts s 0) k) k (2 * 2 ^ k) else leE c (bts s 0) k := rfl
      obtain ⟨b, hbe⟩ : ∃ b, b = (bts s 0).getD k 0 := ⟨_, rfl⟩
      rw [← hbe] at hb hst
      have HN := HS.out.step k (2 * 2 ^ k)
      obtain ⟨q, hq⟩ : ∃ q : Int, q = ((2 * 2 ^ k : Nat) : Int) := ⟨_, rfl⟩
      rw [← hq] at hsh HN
      clear hbe hq
      by_cases hbc : b = c
      · rw [if_pos hbc] at hst
        have hbq : (b == c) = true := by simpa using hbc
        have HN2 : Hid (S2 w (wr.setCell ⟨w.heap.size + 1, k, none⟩ (.int .u16 q)) (leE c (bts s 0) (k + 1)) ∧ (wr.setCell ⟨w.heap.size + 1, k, none⟩ (.int .u16 q)).cell? ⟨w.heap.size + 2, 0, none⟩ = some (.int .u8 c)) := hide
          ⟨by rw [hst]; exact HN, (World.cell?_of_block (w := wr) (Below.heap_setCell wr ⟨w.heap.size + 1, k, none⟩ (.int .u16 q) (w.heap.size + 2) (by simp only; omega))).trans cl⟩
        clear hst HN hbc
        go_wp2
        go_quiet (fail)
        go_wp2
        go_roundw
        case rel =>
          refine ⟨k + 1, by omega, by go_num, hide ⟨⟨HN2.out.1.r, HN2.out.1.o, below_drewE HN2.out.1.bel _⟩, HN2.out.2⟩⟩
        case measure => simp [intOf]; omega
      · rw [if_neg hbc] at hst
        have hbq : (b == c) = false := by simpa using hbc
        have HN2 : Hid (S2 w wr (leE c (bts s 0) (k + 1)) ∧ wr.cell? ⟨w.heap.size + 2, 0, none⟩ = some (.int .u8 c)) := hide ⟨by rw [hst]; exact HS.out, cl⟩
        clear hst HN hbc
        go_wp2
        go_quiet (fail)
        go_wp2
        go_roundw
        case rel =>
          refine ⟨k + 1, by omega, by go_num, hide ⟨⟨HN2.out.1.r, HN2.out.1.o, below_drewE HN2.out.1.bel _⟩, HN2.out.2⟩⟩
        case measure => simp [intOf]; omega
    · obtain rfl : k = s.size := by omega
      have hltI : ¬ (s.size : Int) < (s.size : Int) := by omega
      have e0 := HS.out.o.cell 0 (by omega)
      have r0 := HS.out.r.cell 0 (by omega)
      have f0 := HS.out.r.frozenAt 0
      have e1 := HS.out.o.cell 1 (by omega)
      have r1 := HS.out.r.cell 1 (by omega)
      have f1 := HS.out.r.frozenAt 1
      have e2 := HS.out.o.cell 2 (by omega)
      have r2 := HS.out.r.cell 2 (by omega)
      have f2 := HS.out.r.frozenAt 2
      have e3 := HS.out.o.cell 3 (by omega)
      have r3 := HS.out.r.cell 3 (by omega)
      have f3 := HS.out.r.frozenAt 3
      have e4 := HS.out.o.cell 4 (by omega)
      have r4 := HS.out.r.cell 4 (by omega)
      have f4 := HS.out.r.frozenAt 4
      have e5 := HS.out.o.cell 5 (by omega)
      have r5 := HS.out.r.cell 5 (by omega)
      have f5 := HS.out.r.frozenAt 5
      have e6 := HS.out.o.cell 6 (by omega)
      have r6 := HS.out.r.cell 6 (by omega)
      have f6 := HS.out.r.frozenAt 6
      have e7 := HS.out.o.cell 7 (by omega)
      have r7 := HS.out.r.cell 7 (by omega)
      have f7 := HS.out.r.frozenAt 7
      have e8 := HS.out.o.cell 8 (by omega)
      have r8 := HS.out.r.cell 8 (by omega)
      have f8 := HS.out.r.frozenAt 8
      have e9 := HS.out.o.cell 9 (by omega)
      have r9 := HS.out.r.cell 9 (by omega)
      have f9 := HS.out.r.frozenAt 9
      have e10 := HS.out.o.cell 10 (by omega)
      have r10 := HS.out.r.cell 10 (by omega)
      have f10 := HS.out.r.frozenAt 10
      have e11 := HS.out.o.cell 11 (by omega)
      have r11 := HS.out.r.cell 11 (by omega)
      have f11 := HS.out.r.frozenAt 11
      have e12 := HS.out.o.cell 12 (by omega)
      have r12 := HS.out.r.cell 12 (by omega)
      have f12 := HS.out.r.frozenAt 12
      go_wp2
      refine bodyPost_ret (v := tv (leE c (bts s 0) s.size)) (by simp [results, Try.f125, go_sem, *]) rfl ⟨rfl, ?_⟩
      exact (((((((((((((HS.out.bel.setCell (p := ⟨w.heap.size, 0, none⟩) (by simp only; omega) _).setCell (p := ⟨w.heap.size, 1, none⟩) (by simp only; omega) _).setCell (p := ⟨w.heap.size, 2, none⟩) (by simp only; omega) _).setCell (p := ⟨w.heap.size, 3, none⟩) (by simp only; omega) _).setCell (p := ⟨w.heap.size, 4, none⟩) (by simp only; omega) _).setCell (p := ⟨w.heap.size, 5, none⟩) (by simp only; omega) _).setCell (p := ⟨w.heap.size, 6, none⟩) (by simp only; omega) _).setCell (p := ⟨w.heap.size, 7, none⟩) (by simp only; omega) _).setCell (p := ⟨w.heap.size, 8, none⟩) (by simp only; omega) _).setCell (p := ⟨w.heap.size, 9, none⟩) (by simp only; omega) _).setCell (p := ⟨w.heap.size, 10, none⟩) (by simp only; omega) _).setCell (p := ⟨w.heap.size, 11, none⟩) (by simp only; omega) _).setCell (p := ⟨w.heap.size, 12, none⟩) (by simp only; omega) _)
set_option maxRecDepth 100000 in
set_option maxHeartbeats 8000000 in
theorem ends_many (a : Sh) (IA : EC a) : EC (.many a) := by
  intro s w hs
  have HV : Hid (ev (bts s 0) (.many a) = mrE (ev (bts s 0) a) s.size (s.size + 1)) := hide (by show mrE _ _ _ = _; rw [bts_lenN])
  rw [HV.out]
  have hlt := ev_lt (bts s 0) (by rw [bts_lenN]; exact hs) a
  have C1 := hide (fun w => IA s w hs)
  obtain ⟨X, hX⟩ : ∃ X, X = ev (bts s 0) a := ⟨_, rfl⟩
  simp only [← hX] at C1 hlt ⊢
  have C2 := hide (fun w => many_any X s.size hs hlt w)
  obtain ⟨Y, hY⟩ : ∃ Y, Y = mrE X s.size (s.size + 1) := ⟨_, rfl⟩
  simp only [← hY] at C2 ⊢
  have hsI : (s.size : Int) ≤ 12 := by omega
  show Calls Try.prog 125 #[.iface 164 (.agg #[sv a]), .string s] w _
  have HS0 : Hid (S2 w (((w.alloc (.cells #[.int .u16 0, .int .u16 0, .int .u16 0, .int .u16 0, .int .u16 0, .int .u16 0, .int .u16 0, .int .u16 0, .int .u16 0, .int .u16 0, .int .u16 0, .int .u16 0, .int .u16 0] 155)).alloc (.cells #[.int .u16 0, .int .u16 0, .int .u16 0, .int .u16 0, .int .u16 0, .int .u16 0, .int .u16 0, .int .u16 0, .int .u16 0, .int .u16 0, .int .u16 0, .int .u16 0, .int .u16 0] 155)).alloc (.cells #[sv a] 164)) (fun _ => 0)) := hide ((S2.new rfl).below ((Below.refl _ _).alloc (Nat.le_refl _) _))
  clear HV hX hY hlt IA
  go_enter Try.func125, Try.ntmps125
  go_wp2_with fail
  refine (C1.out _).mono ?_
  rintro e w1 ⟨rfl, hb1⟩
  have HS1 := hide (HS0.out.below hb1)
  clear hb1
  go_wp2_with fail
  refine (C2.out _).mono ?_
  rintro e w2 ⟨rfl, hb2⟩
  have HS := hide (HS1.out.below hb2)
  clear hb2
  have r0 := HS.out.r.cell 0 (by omega)
  have f0 := HS.out.r.frozenAt 0
  have r1 := HS.out.r.cell 1 (by omega)
  have f1 := HS.out.r.frozenAt 1
  have r2 := HS.out.r.cell 2 (by omega)
  have f2 := HS.out.r.frozenAt 2
  have r3 := HS.out.r.cell 3 (by omega)
  have f3 := HS.out.r.frozenAt 3
  have r4 := HS.out.r.cell 4 (by omega)
  have f4 := HS.out.r.frozenAt 4
  have r5 := HS.out.r.cell 5 (by omega)
  have f5 := HS.out.r.frozenAt 5
  have r6 := HS.out.r.cell 6 (by omega)
  have f6 := HS.out.r.frozenAt 6
  have r7 := HS.out.r.cell 7 (by omega)
  have f7 := HS.out.r.frozenAt 7
  have r8 := HS.out.r.cell 8 (by omega)
  have f8 := HS.out.r.frozenAt 8
  have r9 := HS.out.r.cell 9 (by omega)
  have f9 := HS.out.r.frozenAt 9
  have r10 := HS.out.r.cell 10 (by omega)
  have f10 := HS.out.r.frozenAt 10
  have r11 := HS.out.r.cell 11 (by omega)
  have f11 := HS.out.r.frozenAt 11
  have r12 := HS.out.r.cell 12 (by omega)
  have f12 := HS.out.r.frozenAt 12
  go_wp2
  refine bodyPost_ret (v := tv Y) (by simp [results, Try.f125, go_sem, *]) rfl ⟨rfl, ?_⟩
  exact (((((((((((((HS.out.bel.setCell (p := ⟨w.heap.size, 0, none⟩) (by simp only; omega) _).setCell (p := ⟨w.heap.size, 1, none⟩) (by simp only; omega) _).setCell (p := ⟨w.heap.size, 2, none⟩) (by simp only; omega) _).setCell (p := ⟨w.heap.size, 3, none⟩) (by simp only; omega) _).setCell (p := ⟨w.heap.size, 4, none⟩) (by simp only; omega) _).setCell (p := ⟨w.heap.size, 5, none⟩) (by simp only; omega) _).setCell (p := ⟨w.heap.size, 6, none⟩) (by simp only; omega) _).setCell (p := ⟨w.heap.size, 7, none⟩) (by simp only; omega) _).setCell (p := ⟨w.heap.size, 8, none⟩) (by simp only; omega) _).setCell (p := ⟨w.heap.size, 9, none⟩) (by simp only; omega) _).setCell (p := ⟨w.heap.size, 10, none⟩) (by simp only; omega) _).setCell (p := ⟨w.heap.size, 11, none⟩) (by simp only; omega) _).setCell (p := ⟨w.heap.size, 12, none⟩) (by simp only; omega) _)
set_option maxRecDepth 100000 in
set_option maxHeartbeats 8000000 in
theorem ends_inv (a : Sh) (IA : EC a) : EC (.inv a) := by
  intro s w hs
  have HV : Hid (ev (bts s 0) (.inv a) = ntE (ev (bts s 0) a) s.size (s.size + 1)) := hide (by show ntE _ _ _ = _; rw [bts_lenN])
  rw [HV.out]
  have hlt := ev_lt (bts s 0) (by rw [bts_lenN]; exact hs) a
  have C1 := hide (fun w => IA s w hs)
  obtain ⟨X, hX⟩ : ∃ X, X = ev (bts s 0) a := ⟨_, rfl⟩
  simp only [← hX] at C1 hlt ⊢
  have C2 := hide (fun w => not_any X s.size hs hlt w)
  obtain ⟨Y, hY⟩ : ∃ Y, Y = ntE X s.size (s.size + 1) := ⟨_, rfl⟩
  simp only [← hY] at C2 ⊢
  have hsI : (s.size : Int) ≤ 12 := by omega
  show Calls Try.prog 125 #[.iface 168 (.agg #[sv a]), .string s] w _
  have HS0 : Hid (S2 w (((w.alloc (.cells #[.int .u16 0, .int .u16 0, .int .u16 0, .int .u16 0, .int .u16 0, .int .u16 0, .int .u16 0, .int .u16 0, .int .u16 0, .int .u16 0, .int .u16 0, .int .u16 0, .int .u16 0] 155)).alloc (.cells #[.int .u16 0, .int .u16 0, .int .u16 0, .int .u16 0, .int .u16 0, .int .u16 0, .int .u16 0, .int .u16 0, .int .u16 0, .int .u16 0, .int .u16 0, .int .u16 0, .int .u16 0] 155)).alloc (.cells #[sv a] 168)) (fun _ => 0)) := hide ((S2.new rfl).below ((Below.refl _ _).alloc (Nat.le_refl _) _))
  clear HV hX hY hlt IA
  go_enter Try.func125, Try.ntmps125
  go_wp2_with fail
  refine (C1.out _).mono ?_
  rintro e w1 ⟨rfl, hb1⟩
  have HS1 := hide (HS0.out.below hb1)
  clear hb1
  go_wp2_with fail
  refine (C2.out _).mono ?_
  rintro e w2 ⟨rfl, hb2⟩
  have HS := hide (HS1.out.below hb2)
  clear hb2
  have r0 := HS.out.r.cell 0 (by omega)
  have f0 := HS.out.r.frozenAt 0
  have r1 := HS.out.r.cell 1 (by omega)
  have f1 := HS.out.r.frozenAt 1
  have r2 := HS.out.r.cell 2 (by omega)
  have f2 := HS.out.r.frozenAt 2
  have r3 := HS.out.r.cell 3 (by omega)
  have f3 := HS.out.r.frozenAt 3
  have r4 := HS.out.r.cell 4 (by omega)
  have f4 := HS.out.r.frozenAt 4
  have r5 := HS.out.r.cell 5 (by omega)
  have f5 := HS.out.r.frozenAt 5
  have r6 := HS.out.r.cell 6 (by omega)
  have f6 := HS.out.r.frozenAt 6
  have r7 := HS.out.r.cell 7 (by omega)
  have f7 := HS.out.r.frozenAt 7
  have r8 := HS.out.r.cell 8 (by omega)
  have f8 := HS.out.r.frozenAt 8
  have r9 := HS.out.r.cell 9 (by omega)
  have f9 := HS.out.r.frozenAt 9
  have r10 := HS.out.r.cell 10 (by omega)
  have f10 := HS.out.r.frozenAt 10
  have r11 := HS.out.r.cell 11 (by omega)
  have f11 := HS.out.r.frozenAt 11
  have r12 := HS.out.r.cell 12 (by omega)
  have f12 := HS.out.r.frozenAt 12
  go_wp2
  refine bodyPost_ret (v := tv Y) (by simp [results, Try.f125, go_sem, *]) rfl ⟨rfl, ?_⟩
  exact (((((((((((((HS.out.bel.setCell (p := ⟨w.heap.size, 0, none⟩) (by simp only; omega) _).setCell (p := ⟨w.heap.size, 1, none⟩) (by simp only; omega) _).setCell (p := ⟨w.heap.size, 2, none⟩) (by simp only; omega) _).setCell (p := ⟨w.heap.size, 3, none⟩) (by simp only; omega) _).setCell (p := ⟨w.heap.size, 4, none⟩) (by simp only; omega) _).setCell (p := ⟨w.heap.size, 5, none⟩) (by simp only; omega) _).setCell (p := ⟨w.heap.size, 6, none⟩) (by simp only; omega) _).setCell (p := ⟨w.heap.size, 7, none⟩) (by simp only; omega) _).setCell (p := ⟨w.heap.size, 8, none⟩) (by simp only; omega) _).setCell (p := ⟨w.heap.size, 9, none⟩) (by simp only; omega) _).setCell (p := ⟨w.heap.size, 10, none⟩) (by simp only; omega) _).setCell (p := ⟨w.heap.size, 11, none⟩) (by simp only; omega) _).setCell (p := ⟨w.heap.size, 12, none⟩) (by simp only; omega) _)
end Go.Proofs.Ytapffbbmofhpoab.L5

namespace Go.Proofs.Ytapffbbmofhpoab.L5
open Go.RowKit L1 L4
set_option linter.unusedVariables false
attribute [local go_sem] mk_noText mk_emptyText mk_oneLetter mk_anyLetter mk_thenShape mk_eitherShape mk_manyShape mk_notShape as_noText_noText as_noText_emptyText as_noText_oneLetter as_noText_anyLetter as_noText_thenShape as_noText_eitherShape as_noText_manyShape as_noText_notShape as_emptyText_noText as_emptyText_emptyText as_emptyText_oneLetter as_emptyText_anyLetter as_emptyText_thenShape as_emptyText_eitherShape as_emptyText_manyShape as_emptyText_notShape as_oneLetter_noText as_oneLetter_emptyText as_oneLetter_oneLetter as_oneLetter_anyLetter as_oneLetter_thenShape as_oneLetter_eitherShape as_oneLetter_manyShape as_oneLetter_notShape as_anyLetter_noText as_anyLetter_emptyText as_anyLetter_oneLetter as_anyLetter_anyLetter as_anyLetter_thenShape as_anyLetter_eitherShape as_anyLetter_manyShape as_anyLetter_notShape as_thenShape_noText as_thenShape_emptyText as_thenShape_oneLetter as_thenShape_anyLetter as_thenShape_thenShape as_thenShape_eitherShape as_thenShape_manyShape as_thenShape_notShape as_eitherShape_noText as_eitherShape_emptyText as_eitherShape_oneLetter as_eitherShape_anyLetter as_eitherShape_thenShape as_eitherShape_eitherShape as_eitherShape_manyShape as_eitherShape_notShape as_manyShape_noText as_manyShape_emptyText as_manyShape_oneLetter as_manyShape_anyLetter as_manyShape_thenShape as_manyShape_eitherShape as_manyShape_manyShape as_manyShape_notShape as_notShape_noText as_notShape_emptyText as_notShape_oneLetter as_notShape_anyLetter as_notShape_thenShape as_notShape_eitherShape as_notShape_manyShape as_notShape_notShape
theorem cell_two_at (w : World) (g : Nat) (hg : w.heap.size = g) (a b : Value) (t : TypeId) : (w.alloc (.cells #[a, b] t)).cell? ⟨g, 0, none⟩ = some a ∧ (w.alloc (.cells #[a, b] t)).cell? ⟨g, 1, none⟩ = some b := by
  subst hg
  exact ⟨by simp, by simp⟩
set_option maxRecDepth 100000 in
set_option maxHeartbeats 8000000 in
theorem ends_seq (a b : Sh) (IA : EC a) (IB : EC b) : EC (.seq a b) := by
  intro s w hs
  have HV : Hid (ev (bts s 0) (.seq a b) = thE (ev (bts s 0) a) (ev (bts s 0) b) 13) := hide rfl
  rw [HV.out]
  have hla := ev_lt (bts s 0) (by rw [bts_lenN]; exact hs) a
  have hlb := ev_lt (bts s 0) (by rw [bts_lenN]; exact hs) b
  have C1 := hide (fun w => IA s w hs)
  have C2 := hide (fun w => IB s w hs)
  obtain ⟨X, hX⟩ : ∃ X, X = ev (bts s 0) a := ⟨_, rfl⟩
  obtain ⟨Y, hY⟩ : ∃ Y, Y = ev (bts s 0) b := ⟨_, rfl⟩
  simp only [← hX] at C1 hla ⊢
  simp only [← hY] at C2 hlb ⊢
  have C3 := hide (fun w => then_any X Y hla hlb w)
  obtain ⟨V, hV⟩ : ∃ V, V = thE X Y 13 := ⟨_, rfl⟩
  simp only [← hV] at C3 ⊢
  show Calls Try.prog 125 #[.iface 166 (.agg #[sv a, sv b]), .string s] w _
  clear HV hX hY hV hla hlb IA IB
  go_enter Try.func125, Try.ntmps125
  go_wp2
  obtain ⟨W, hW⟩ : ∃ W, W = ((w.alloc (.cells #[.int .u16 0, .int .u16 0, .int .u16 0, .int .u16 0, .int .u16 0, .int .u16 0, .int .u16 0, .int .u16 0, .int .u16 0, .int .u16 0, .int .u16 0, .int .u16 0, .int .u16 0] 155)).alloc (.cells #[.int .u16 0, .int .u16 0, .int .u16 0, .int .u16 0, .int .u16 0, .int .u16 0, .int .u16 0, .int .u16 0, .int .u16 0, .int .u16 0, .int .u16 0, .int .u16 0, .int .u16 0] 155)).alloc (.cells #[sv a, sv b] 166) := ⟨_, rfl⟩
  rw [← hW]
  have hz : (((w.alloc (.cells #[.int .u16 0, .int .u16 0, .int .u16 0, .int .u16 0, .int .u16 0, .int .u16 0, .int .u16 0, .int .u16 0, .int .u16 0, .int .u16 0, .int .u16 0, .int .u16 0, .int .u16 0] 155)).alloc (.cells #[.int .u16 0, .int .u16 0, .int .u16 0, .int .u16 0, .int .u16 0, .int .u16 0, .int .u16 0, .int .u16 0, .int .u16 0, .int .u16 0, .int .u16 0, .int .u16 0, .int .u16 0] 155)).heap.size) = w.heap.size + 1 + 1 := by simp
  have HS0 : Hid (S2 w W (fun _ => 0)) := hide ((S2.new rfl).below (by rw [hW]; exact (Below.refl _ _).alloc (Nat.le_refl _) _))
  have c0 : W.cell? ⟨w.heap.size + 1 + 1, 0, none⟩ = some (sv a) := by rw [hW]; exact (cell_two_at _ _ hz _ _ _).1
  have c1 : W.cell? ⟨w.heap.size + 1 + 1, 1, none⟩ = some (sv b) := by rw [hW]; exact (cell_two_at _ _ hz _ _ _).2
  clear hW hz
  refine wp_region_held_drew (S := (fun wx : World => (wx.cell? ⟨w.heap.size + 1 + 1, 0, none⟩ = some (sv a) ∧ wx.cell? ⟨w.heap.size + 1 + 1, 1, none⟩ = some (sv b)) ∧ Below w.heap.size w wx)) (by kernel_rfl) ⟨⟨c0, c1⟩, HS0.out.bel.drew⟩ (fun hHeld => ?_)
  have HSd : Hid (S2 w W.drew (fun _ => 0)) := hide ⟨HS0.out.r, HS0.out.o, HS0.out.bel.drew⟩
  clear c0 c1
  refine wpAnyH_take (i := 0) (v := ?v1) rfl (by kernel_rfl) (by kernel_rfl) (by kernel_rfl) (fun _ _ _ h => h) (Or.inl ⟨by rfl, ?y1⟩) (by assumption) ?r1
  case y1 => (intro w hSw; (try dsimp only at hSw); go_simp; try (with_reducible rfl))
  simp only [List.getElem_toArray, List.getElem_cons_zero, Act.put, List.setIfInBounds_toArray, List.set_cons_zero, List.set_cons_succ]
  refine wpAnyH_take (i := 2) (v := ?v2) rfl (by kernel_rfl) (by kernel_rfl) (by kernel_rfl) (fun _ _ _ h => h) (Or.inl ⟨by rfl, ?y2⟩) (by assumption) ?r2
  case y2 => (intro w hSw; (try dsimp only at hSw); go_simp; try (with_reducible rfl))
  simp only [List.getElem_toArray, List.getElem_cons_succ, List.getElem_cons_zero, Act.put, List.setIfInBounds_toArray, List.set_cons_zero, List.set_cons_succ]
  refine wpAnyH_take (i := 4) (v := ?v3) rfl (by kernel_rfl) (by kernel_rfl) (by kernel_rfl) (fun _ _ _ h => h) (Or.inl ⟨by rfl, ?y3⟩) (by assumption) ?r3
  case y3 => (intro w hSw; (try dsimp only at hSw); go_simp; try (with_reducible rfl))
  simp only [List.getElem_toArray, List.getElem_cons_succ, List.getElem_cons_zero, Act.put, List.setIfInBounds_toArray, List.set_cons_zero, List.set_cons_succ]
  refine wpAnyH_take (i := 6) (v := ?v4) rfl (by kernel_rfl) (by kernel_rfl) (by kernel_rfl) (fun _ _ _ h => h) (Or.inl ⟨by rfl, ?y4⟩) (by assumption) ?r4
  case y4 => (intro w hSw; (try dsimp only at hSw); go_simp; try (with_reducible rfl))
  simp only [List.getElem_toArray, List.getElem_cons_succ, List.getElem_cons_zero, Act.put, List.setIfInBounds_toArray, List.set_cons_zero, List.set_cons_succ]
  refine wpAnyH_take (i := 1) (v := sv a) rfl (by kernel_rfl) (by kernel_rfl) (by kernel_rfl) (fun _ _ _ h => h) (Or.inl ⟨by rfl, ?y5⟩) (by assumption) ?r5
  case y5 => (intro w hSw; obtain ⟨⟨hq0, hq1⟩, hq2⟩ := hSw; go_simp; try (with_reducible rfl))
  simp only [List.getElem_toArray, List.getElem_cons_succ, List.getElem_cons_zero, Act.put, List.setIfInBounds_toArray, List.set_cons_zero, List.set_cons_succ]
  refine wpAnyH_take (i := 5) (v := sv b) rfl (by kernel_rfl) (by kernel_rfl) (by kernel_rfl) (fun _ _ _ h => h) (Or.inl ⟨by rfl, ?y6⟩) (by assumption) ?r6
  case y6 => (intro w hSw; obtain ⟨⟨hq0, hq1⟩, hq2⟩ := hSw; go_simp; try (with_reducible rfl))
  simp only [List.getElem_toArray, List.getElem_cons_succ, List.getElem_cons_zero, Act.put, List.setIfInBounds_toArray, List.set_cons_zero, List.set_cons_succ]
  refine wpAnyH_ready (rs := [3]) (by kernel_rfl) (by simp) ?_
  refine AllReadyH.cons rfl (fun K hK => ?_) AllReadyH.nil
  try simp only [List.getElem_toArray, List.getElem_cons_succ, List.getElem_cons_zero]
  go_simp
  go_at_call 125
  refine (C1.out _).mono ?_
  rintro e w1 ⟨rfl, hb⟩
  have HSw1 := hide (HSd.out.below hb)
  have hS3 : (fun wx : World => (wx.cell? ⟨w.heap.size + 1 + 1, 0, none⟩ = some (sv a) ∧ wx.cell? ⟨w.heap.size + 1 + 1, 1, none⟩ = some (sv b)) ∧ Below w.heap.size w wx) w1 := ⟨⟨(hb.cell (p := ⟨w.heap.size + 1 + 1, 0, none⟩) (blk_lt hHeld.1.1)).trans hHeld.1.1, (hb.cell (p := ⟨w.heap.size + 1 + 1, 1, none⟩) (blk_lt hHeld.1.2)).trans hHeld.1.2⟩, hHeld.2.trans (hb.mono hHeld.2.size)⟩
  clear hb
  dsimp only
  refine hK.out _ _ hS3 (fun hHeld => ?_)
  clear hK K
  try simp only [Act.put, List.setIfInBounds_toArray, List.set_cons_zero, List.set_cons_succ]
  refine wpAnyH_ready (rs := [7]) (by kernel_rfl) (by simp) ?_
  refine AllReadyH.cons rfl (fun K hK => ?_) AllReadyH.nil
  try simp only [List.getElem_toArray, List.getElem_cons_succ, List.getElem_cons_zero]
  go_simp
  go_at_call 125
  refine (C2.out _).mono ?_
  rintro e w2 ⟨rfl, hb⟩
  have HSw2 := hide (HSw1.out.below hb)
  have hS3 : (fun wx : World => (wx.cell? ⟨w.heap.size + 1 + 1, 0, none⟩ = some (sv a) ∧ wx.cell? ⟨w.heap.size + 1 + 1, 1, none⟩ = some (sv b)) ∧ Below w.heap.size w wx) w2 := ⟨⟨(hb.cell (p := ⟨w.heap.size + 1 + 1, 0, none⟩) (blk_lt hHeld.1.1)).trans hHeld.1.1, (hb.cell (p := ⟨w.heap.size + 1 + 1, 1, none⟩) (blk_lt hHeld.1.2)).trans hHeld.1.2⟩, hHeld.2.trans (hb.mono hHeld.2.size)⟩
  clear hb
  dsimp only
  refine hK.out _ _ hS3 (fun hHeld => ?_)
  clear hK K
  try simp only [Act.put, List.setIfInBounds_toArray, List.set_cons_zero, List.set_cons_succ]
  refine wpAnyH_ready (rs := [8]) (by kernel_rfl) (by simp) ?_
  refine AllReadyH.cons rfl (fun K hK => ?_) AllReadyH.nil
  try simp only [List.getElem_toArray, List.getElem_cons_succ, List.getElem_cons_zero]
  go_simp
  go_at_call 146
  refine (C3.out _).mono ?_
  rintro e w3 ⟨rfl, hb⟩
  have HSw3 := hide (HSw2.out.below hb)
  have hS3 : (fun wx : World => (wx.cell? ⟨w.heap.size + 1 + 1, 0, none⟩ = some (sv a) ∧ wx.cell? ⟨w.heap.size + 1 + 1, 1, none⟩ = some (sv b)) ∧ Below w.heap.size w wx) w3 := ⟨⟨(hb.cell (p := ⟨w.heap.size + 1 + 1, 0, none⟩) (blk_lt hHeld.1.1)).trans hHeld.1.1, (hb.cell (p := ⟨w.heap.size + 1 + 1, 1, none⟩) (blk_lt hHeld.1.2)).trans hHeld.1.2⟩, hHeld.2.trans (hb.mono hHeld.2.size)⟩
  clear hb
  dsimp only
  refine hK.out _ _ hS3 (fun hHeld => ?_)
  clear hK K
  try simp only [Act.put, List.setIfInBounds_toArray, List.set_cons_zero, List.set_cons_succ]
  have r0 := HSw3.out.r.cell 0 (by omega)
  have f0 := HSw3.out.r.frozenAt 0
  have r1 := HSw3.out.r.cell 1 (by omega)
  have f1 := HSw3.out.r.frozenAt 1
  have r2 := HSw3.out.r.cell 2 (by omega)
  have f2 := HSw3.out.r.frozenAt 2
  have r3 := HSw3.out.r.cell 3 (by omega)
  have f3 := HSw3.out.r.frozenAt 3
  have r4 := HSw3.out.r.cell 4 (by omega)
  have f4 := HSw3.out.r.frozenAt 4
  have r5 := HSw3.out.r.cell 5 (by omega)
  have f5 := HSw3.out.r.frozenAt 5
  have r6 := HSw3.out.r.cell 6 (by omega)
  have f6 := HSw3.out.r.frozenAt 6
  have r7 := HSw3.out.r.cell 7 (by omega)
  have f7 := HSw3.out.r.frozenAt 7
  have r8 := HSw3.out.r.cell 8 (by omega)
  have f8 := HSw3.out.r.frozenAt 8
  have r9 := HSw3.out.r.cell 9 (by omega)
  have f9 := HSw3.out.r.frozenAt 9
  have r10 := HSw3.out.r.cell 10 (by omega)
  have f10 := HSw3.out.r.frozenAt 10
  have r11 := HSw3.out.r.cell 11 (by omega)
  have f11 := HSw3.out.r.frozenAt 11
  have r12 := HSw3.out.r.cell 12 (by omega)
  have f12 := HSw3.out.r.frozenAt 12
  refine wpAnyH_ready (rs := [9]) (by kernel_rfl) (by simp) ?_
  refine AllReadyH.cons rfl (fun K hK => ?_) AllReadyH.nil
  try simp only [List.getElem_toArray, List.getElem_cons_succ, List.getElem_cons_zero]
  go_simp
  refine hK.out _ _ ?hs4 (fun hHeld => ?_)
  case hs4 => exact ⟨⟨(World.cell?_of_block (Below.heap_setCell _ ⟨w.heap.size, 12, none⟩ _ (w.heap.size + 1 + 1) (by simp only; omega))).trans ((World.cell?_of_block (Below.heap_setCell _ ⟨w.heap.size, 11, none⟩ _ (w.heap.size + 1 + 1) (by simp only; omega))).trans ((World.cell?_of_block (Below.heap_setCell _ ⟨w.heap.size, 10, none⟩ _ (w.heap.size + 1 + 1) (by simp only; omega))).trans ((World.cell?_of_block (Below.heap_setCell _ ⟨w.heap.size, 9, none⟩ _ (w.heap.size + 1 + 1) (by simp only; omega))).trans ((World.cell?_of_block (Below.heap_setCell _ ⟨w.heap.size, 8, none⟩ _ (w.heap.size + 1 + 1) (by simp only; omega))).trans ((World.cell?_of_block (Below.heap_setCell _ ⟨w.heap.size, 7, none⟩ _ (w.heap.size + 1 + 1) (by simp only; omega))).trans ((World.cell?_of_block (Below.heap_setCell _ ⟨w.heap.size, 6, none⟩ _ (w.heap.size + 1 + 1) (by simp only; omega))).trans ((World.cell?_of_block (Below.heap_setCell _ ⟨w.heap.size, 5, none⟩ _ (w.heap.size + 1 + 1) (by simp only; omega))).trans ((World.cell?_of_block (Below.heap_setCell _ ⟨w.heap.size, 4, none⟩ _ (w.heap.size + 1 + 1) (by simp only; omega))).trans ((World.cell?_of_block (Below.heap_setCell _ ⟨w.heap.size, 3, none⟩ _ (w.heap.size + 1 + 1) (by simp only; omega))).trans ((World.cell?_of_block (Below.heap_setCell _ ⟨w.heap.size, 2, none⟩ _ (w.heap.size + 1 + 1) (by simp only; omega))).trans ((World.cell?_of_block (Below.heap_setCell _ ⟨w.heap.size, 1, none⟩ _ (w.heap.size + 1 + 1) (by simp only; omega))).trans ((World.cell?_of_block (Below.heap_setCell _ ⟨w.heap.size, 0, none⟩ _ (w.heap.size + 1 + 1) (by simp only; omega))).trans (hHeld.1.1))))))))))))), (World.cell?_of_block (Below.heap_setCell _ ⟨w.heap.size, 12, none⟩ _ (w.heap.size + 1 + 1) (by simp only; omega))).trans ((World.cell?_of_block (Below.heap_setCell _ ⟨w.heap.size, 11, none⟩ _ (w.heap.size + 1 + 1) (by simp only; omega))).trans ((World.cell?_of_block (Below.heap_setCell _ ⟨w.heap.size, 10, none⟩ _ (w.heap.size + 1 + 1) (by simp only; omega))).trans ((World.cell?_of_block (Below.heap_setCell _ ⟨w.heap.size, 9, none⟩ _ (w.heap.size + 1 + 1) (by simp only; omega))).trans ((World.cell?_of_block (Below.heap_setCell _ ⟨w.heap.size, 8, none⟩ _ (w.heap.size + 1 + 1) (by simp only; omega))).trans ((World.cell?_of_block (Below.heap_setCell _ ⟨w.heap.size, 7, none⟩ _ (w.heap.size + 1 + 1) (by simp only; omega))).trans ((World.cell?_of_block (Below.heap_setCell _ ⟨w.heap.size, 6, none⟩ _ (w.heap.size + 1 + 1) (by simp only; omega))).trans ((World.cell?_of_block (Below.heap_setCell _ ⟨w.heap.size, 5, none⟩ _ (w.heap.size + 1 + 1) (by simp only; omega))).trans ((World.cell?_of_block (Below.heap_setCell _ ⟨w.heap.size, 4, none⟩ _ (w.heap.size + 1 + 1) (by simp only; omega))).trans ((World.cell?_of_block (Below.heap_setCell _ ⟨w.heap.size, 3, none⟩ _ (w.heap.size + 1 + 1) (by simp only; omega))).trans ((World.cell?_of_block (Below.heap_setCell _ ⟨w.heap.size, 2, none⟩ _ (w.heap.size + 1 + 1) (by simp only; omega))).trans ((World.cell?_of_block (Below.heap_setCell _ ⟨w.heap.size, 1, none⟩ _ (w.heap.size + 1 + 1) (by simp only; omega))).trans ((World.cell?_of_block (Below.heap_setCell _ ⟨w.heap.size, 0, none⟩ _ (w.heap.size + 1 + 1) (by simp only; omega))).trans (hHeld.1.2)))))))))))))⟩, (((((((((((((HSw3.out.bel.setCell (p := ⟨w.heap.size, 0, none⟩) (by simp only; omega) _).setCell (p := ⟨w.heap.size, 1, none⟩) (by simp only; omega) _).setCell (p := ⟨w.heap.size, 2, none⟩) (by simp only; omega) _).setCell (p := ⟨w.heap.size, 3, none⟩) (by simp only; omega) _).setCell (p := ⟨w.heap.size, 4, none⟩) (by simp only; omega) _).setCell (p := ⟨w.heap.size, 5, none⟩) (by simp only; omega) _).setCell (p := ⟨w.heap.size, 6, none⟩) (by simp only; omega) _).setCell (p := ⟨w.heap.size, 7, none⟩) (by simp only; omega) _).setCell (p := ⟨w.heap.size, 8, none⟩) (by simp only; omega) _).setCell (p := ⟨w.heap.size, 9, none⟩) (by simp only; omega) _).setCell (p := ⟨w.heap.size, 10, none⟩) (by simp only; omega) _).setCell (p := ⟨w.heap.size, 11, none⟩) (by simp only; omega) _).setCell (p := ⟨w.heap.size, 12, none⟩) (by simp only; omega) _)⟩
  clear hK K
  refine wpAnyH_done (by kernel_rfl) ?_ _
  go_wp2
  refine bodyPost_ret (v := tv V) (by simp [results, Try.f125, go_sem, *]) rfl ⟨rfl, hHeld.2⟩
set_option maxRecDepth 100000 in
set_option maxHeartbeats 8000000 in
theorem ends_alt (a b : Sh) (IA : EC a) (IB : EC b) : EC (.alt a b) := by
  intro s w hs
  have HV : Hid (ev (bts s 0) (.alt a b) = orE (ev (bts s 0) a) (ev (bts s 0) b) 13) := hide rfl
  rw [HV.out]
  have hla := ev_lt (bts s 0) (by rw [bts_lenN]; exact hs) a
  have hlb := ev_lt (bts s 0) (by rw [bts_lenN]; exact hs) b
  have C1 := hide (fun w => IA s w hs)
  have C2 := hide (fun w => IB s w hs)
  obtain ⟨X, hX⟩ : ∃ X, X = ev (bts s 0) a := ⟨_, rfl⟩
  obtain ⟨Y, hY⟩ : ∃ Y, Y = ev (bts s 0) b := ⟨_, rfl⟩
  simp only [← hX] at C1 hla ⊢
  simp only [← hY] at C2 hlb ⊢
  have C3 := hide (fun w => or_any X Y hla hlb w)
  obtain ⟨V, hV⟩ : ∃ V, V = orE X Y 13 := ⟨_, rfl⟩
  simp only [← hV] at C3 ⊢
  show Calls Try.prog 125 #[.iface 167 (.agg #[sv a, sv b]), .string s] w _
  clear HV hX hY hV hla hlb IA IB
  go_enter Try.func125, Try.ntmps125
  go_wp2
  obtain ⟨W, hW⟩ : ∃ W, W = ((w.alloc (.cells #[.int .u16 0, .int .u16 0, .int .u16 0, .int .u16 0, .int .u16 0, .int .u16 0, .int .u16 0, .int .u16 0, .int .u16 0, .int .u16 0, .int .u16 0, .int .u16 0, .int .u16 0] 155)).alloc (.cells #[.int .u16 0, .int .u16 0, .int .u16 0, .int .u16 0, .int .u16 0, .int .u16 0, .int .u16 0, .int .u16 0, .int .u16 0, .int .u16 0, .int .u16 0, .int .u16 0, .int .u16 0] 155)).alloc (.cells #[sv a, sv b] 167) := ⟨_, rfl⟩
  rw [← hW]
  have hz : (((w.alloc (.cells #[.int .u16 0, .int .u16 0, .int .u16 0, .int .u16 0, .int .u16 0, .int .u16 0, .int .u16 0, .int .u16 0, .int .u16 0, .int .u16 0, .int .u16 0, .int .u16 0, .int .u16 0] 155)).alloc (.cells #[.int .u16 0, .int .u16 0, .int .u16 0, .int .u16 0, .int .u16 0, .int .u16 0, .int .u16 0, .int .u16 0, .int .u16 0, .int .u16 0, .int .u16 0, .int .u16 0, .int .u16 0] 155)).heap.size) = w.heap.size + 1 + 1 := by simp
  have HS0 : Hid (S2 w W (fun _ => 0)) := hide ((S2.new rfl).below (by rw [hW]; exact (Below.refl _ _).alloc (Nat.le_refl _) _))
  have c0 : W.cell? ⟨w.heap.size + 1 + 1, 0, none⟩ = some (sv a) := by rw [hW]; exact (cell_two_at _ _ hz _ _ _).1
  have c1 : W.cell? ⟨w.heap.size + 1 + 1, 1, none⟩ = some (sv b) := by rw [hW]; exact (cell_two_at _ _ hz _ _ _).2
  clear hW hz
  refine wp_region_held_drew (S := (fun wx : World => (wx.cell? ⟨w.heap.size + 1 + 1, 0, none⟩ = some (sv a) ∧ wx.cell? ⟨w.heap.size + 1 + 1, 1, none⟩ = some (sv b)) ∧ Below w.heap.size w wx)) (by kernel_rfl) ⟨⟨c0, c1⟩, HS0.out.bel.drew⟩ (fun hHeld => ?_)
  have HSd : Hid (S2 w W.drew (fun _ => 0)) := hide ⟨HS0.out.r, HS0.out.o, HS0.out.bel.drew⟩
  clear c0 c1
  refine wpAnyH_take (i := 0) (v := ?v1) rfl (by kernel_rfl) (by kernel_rfl) (by kernel_rfl) (fun _ _ _ h => h) (Or.inl ⟨by rfl, ?y1⟩) (by assumption) ?r1
  case y1 => (intro w hSw; (try dsimp only at hSw); go_simp; try (with_reducible rfl))
  simp only [List.getElem_toArray, List.getElem_cons_zero, Act.put, List.setIfInBounds_toArray, List.set_cons_zero, List.set_cons_succ]
  refine wpAnyH_take (i := 2) (v := ?v2) rfl (by kernel_rfl) (by kernel_rfl) (by kernel_rfl) (fun _ _ _ h => h) (Or.inl ⟨by rfl, ?y2⟩) (by assumption) ?r2
  case y2 => (intro w hSw; (try dsimp only at hSw); go_simp; try (with_reducible rfl))
  simp only [List.getElem_toArray, List.getElem_cons_succ, List.getElem_cons_zero, Act.put, List.setIfInBounds_toArray, List.set_cons_zero, List.set_cons_succ]
  refine wpAnyH_take (i := 4) (v := ?v3) rfl (by kernel_rfl) (by kernel_rfl) (by kernel_rfl) (fun _ _ _ h => h) (Or.inl ⟨by rfl, ?y3⟩) (by assumption) ?r3
  case y3 => (intro w hSw; (try dsimp only at hSw); go_simp; try (with_reducible rfl))
  simp only [List.getElem_toArray, List.getElem_cons_succ, List.getElem_cons_zero, Act.put, List.setIfInBounds_toArray, List.set_cons_zero, List.set_cons_succ]
  refine wpAnyH_take (i := 6) (v := ?v4) rfl (by kernel_rfl) (by kernel_rfl) (by kernel_rfl) (fun _ _ _ h => h) (Or.inl ⟨by rfl, ?y4⟩) (by assumption) ?r4
  case y4 => (intro w hSw; (try dsimp only at hSw); go_simp; try (with_reducible rfl))
  simp only [List.getElem_toArray, List.getElem_cons_succ, List.getElem_cons_zero, Act.put, List.setIfInBounds_toArray, List.set_cons_zero, List.set_cons_succ]
  refine wpAnyH_take (i := 1) (v := sv a) rfl (by kernel_rfl) (by kernel_rfl) (by kernel_rfl) (fun _ _ _ h => h) (Or.inl ⟨by rfl, ?y5⟩) (by assumption) ?r5
  case y5 => (intro w hSw; obtain ⟨⟨hq0, hq1⟩, hq2⟩ := hSw; go_simp; try (with_reducible rfl))
  simp only [List.getElem_toArray, List.getElem_cons_succ, List.getElem_cons_zero, Act.put, List.setIfInBounds_toArray, List.set_cons_zero, List.set_cons_succ]
  refine wpAnyH_take (i := 5) (v := sv b) rfl (by kernel_rfl) (by kernel_rfl) (by kernel_rfl) (fun _ _ _ h => h) (Or.inl ⟨by rfl, ?y6⟩) (by assumption) ?r6
  case y6 => (intro w hSw; obtain ⟨⟨hq0, hq1⟩, hq2⟩ := hSw; go_simp; try (with_reducible rfl))
  simp only [List.getElem_toArray, List.getElem_cons_succ, List.getElem_cons_zero, Act.put, List.setIfInBounds_toArray, List.set_cons_zero, List.set_cons_succ]
  refine wpAnyH_ready (rs := [3]) (by kernel_rfl) (by simp) ?_
  refine AllReadyH.cons rfl (fun K hK => ?_) AllReadyH.nil
  try simp only [List.getElem_toArray, List.getElem_cons_succ, List.getElem_cons_zero]
  go_simp
  go_at_call 125
  refine (C1.out _).mono ?_
  rintro e w1 ⟨rfl, hb⟩
  have HSw1 := hide (HSd.out.below hb)
  have hS3 : (fun wx : World => (wx.cell? ⟨w.heap.size + 1 + 1, 0, none⟩ = some (sv a) ∧ wx.cell? ⟨w.heap.size + 1 + 1, 1, none⟩ = some (sv b)) ∧ Below w.heap.size w wx) w1 := ⟨⟨(hb.cell (p := ⟨w.heap.size + 1 + 1, 0, none⟩) (blk_lt hHeld.1.1)).trans hHeld.1.1, (hb.cell (p := ⟨w.heap.size + 1 + 1, 1, none⟩) (blk_lt hHeld.1.2)).trans hHeld.1.2⟩, hHeld.2.trans (hb.mono hHeld.2.size)⟩
  clear hb
  dsimp only
  refine hK.out _ _ hS3 (fun hHeld => ?_)
  clear hK K
  try simp only [Act.put, List.setIfInBounds_toArray, List.set_cons_zero, List.set_cons_succ]
  refine wpAnyH_ready (rs := [7]) (by kernel_rfl) (by simp) ?_
  refine AllReadyH.cons rfl (fun K hK => ?_) AllReadyH.nil
  try simp only [List.getElem_toArray, List.getElem_cons_succ, List.getElem_cons_zero]
  go_simp
  go_at_call 125
  refine (C2.out _).mono ?_
  rintro e w2 ⟨rfl, hb⟩
  have HSw2 := hide (HSw1.out.below hb)
  have hS3 : (fun wx : World => (wx.cell? ⟨w.heap.size + 1 + 1, 0, none⟩ = some (sv a) ∧ wx.cell? ⟨w.heap.size + 1 + 1, 1, none⟩ = some (sv b)) ∧ Below w.heap.size w wx) w2 := ⟨⟨(hb.cell (p := ⟨w.heap.size + 1 + 1, 0, none⟩) (blk_lt hHeld.1.1)).trans hHeld.1.1, (hb.cell (p := ⟨w.heap.size + 1 + 1, 1, none⟩) (blk_lt hHeld.1.2)).trans hHeld.1.2⟩, hHeld.2.trans (hb.mono hHeld.2.size)⟩
  clear hb
  dsimp only
  refine hK.out _ _ hS3 (fun hHeld => ?_)
  clear hK K
  try simp only [Act.put, List.setIfInBounds_toArray, List.set_cons_zero, List.set_cons_succ]
  refine wpAnyH_ready (rs := [8]) (by kernel_rfl) (by simp) ?_
  refine AllReadyH.cons rfl (fun K hK => ?_) AllReadyH.nil
  try simp only [List.getElem_toArray, List.getElem_cons_succ, List.getElem_cons_zero]
  go_simp
  go_at_call 147
  refine (C3.out _).mono ?_
  rintro e w3 ⟨rfl, hb⟩
  have HSw3 := hide (HSw2.out.below hb)
  have hS3 : (fun wx : World => (wx.cell? ⟨w.heap.size + 1 + 1, 0, none⟩ = some (sv a) ∧ wx.cell? ⟨w.heap.size + 1 + 1, 1, none⟩ = some (sv b)) ∧ Below w.heap.size w wx) w3 := ⟨⟨(hb.cell (p := ⟨w.heap.size + 1 + 1, 0, none⟩) (blk_lt hHeld.1.1)).trans hHeld.1.1, (hb.cell (p := ⟨w.heap.size + 1 + 1, 1, none⟩) (blk_lt hHeld.1.2)).trans hHeld.1.2⟩, hHeld.2.trans (hb.mono hHeld.2.size)⟩
  clear hb
  dsimp only
  refine hK.out _ _ hS3 (fun hHeld => ?_)
  clear hK K
  try simp only [Act.put, List.setIfInBounds_toArray, List.set_cons_zero, List.set_cons_succ]
  have r0 := HSw3.out.r.cell 0 (by omega)
  have f0 := HSw3.out.r.frozenAt 0
  have r1 := HSw3.out.r.cell 1 (by omega)
  have f1 := HSw3.out.r.frozenAt 1
  have r2 := HSw3.out.r.cell 2 (by omega)
  have f2 := HSw3.out.r.frozenAt 2
  have r3 := HSw3.out.r.cell 3 (by omega)
  have f3 := HSw3.out.r.frozenAt 3
  have r4 := HSw3.out.r.cell 4 (by omega)
  have f4 := HSw3.out.r.frozenAt 4
  have r5 := HSw3.out.r.cell 5 (by omega)
  have f5 := HSw3.out.r.frozenAt 5
  have r6 := HSw3.out.r.cell 6 (by omega)
  have f6 := HSw3.out.r.frozenAt 6
  have r7 := HSw3.out.r.cell 7 (by omega)
  have f7 := HSw3.out.r.frozenAt 7
  have r8 := HSw3.out.r.cell 8 (by omega)
  have f8 := HSw3.out.r.frozenAt 8
  have r9 := HSw3.out.r.cell 9 (by omega)
  have f9 := HSw3.out.r.frozenAt 9
  have r10 := HSw3.out.r.cell 10 (by omega)
  have f10 := HSw3.out.r.frozenAt 10
  have r11 := HSw3.out.r.cell 11 (by omega)
  have f11 := HSw3.out.r.frozenAt 11
  have r12 := HSw3.out.r.cell 12 (by omega)
  have f12 := HSw3.out.r.frozenAt 12
  refine wpAnyH_ready (rs := [9]) (by kernel_rfl) (by simp) ?_
  refine AllReadyH.cons rfl (fun K hK => ?_) AllReadyH.nil
  try simp only [List.getElem_toArray, List.getElem_cons_succ, List.getElem_cons_zero]
  go_simp
  refine hK.out _ _ ?hs4 (fun hHeld => ?_)
  case hs4 => exact ⟨⟨(World.cell?_of_block (Below.heap_setCell _ ⟨w.heap.size, 12, none⟩ _ (w.heap.size + 1 + 1) (by simp only; omega))).trans ((World.cell?_of_block (Below.heap_setCell _ ⟨w.heap.size, 11, none⟩ _ (w.heap.size + 1 + 1) (by simp only; omega))).trans ((World.cell?_of_block (Below.heap_setCell _ ⟨w.heap.size, 10, none⟩ _ (w.heap.size + 1 + 1) (by simp only; omega))).trans ((World.cell?_of_block (Below.heap_setCell _ ⟨w.heap.size, 9, none⟩ _ (w.heap.size + 1 + 1) (by simp only; omega))).trans ((World.cell?_of_block (Below.heap_setCell _ ⟨w.heap.size, 8, none⟩ _ (w.heap.size + 1 + 1) (by simp only; omega))).trans ((World.cell?_of_block (Below.heap_setCell _ ⟨w.heap.size, 7, none⟩ _ (w.heap.size + 1 + 1) (by simp only; omega))).trans ((World.cell?_of_block (Below.heap_setCell _ ⟨w.heap.size, 6, none⟩ _ (w.heap.size + 1 + 1) (by simp only; omega))).trans ((World.cell?_of_block (Below.heap_setCell _ ⟨w.heap.size, 5, none⟩ _ (w.heap.size + 1 + 1) (by simp only; omega))).trans ((World.cell?_of_block (Below.heap_setCell _ ⟨w.heap.size, 4, none⟩ _ (w.heap.size + 1 + 1) (by simp only; omega))).trans ((World.cell?_of_block (Below.heap_setCell _ ⟨w.heap.size, 3, none⟩ _ (w.heap.size + 1 + 1) (by simp only; omega))).trans ((World.cell?_of_block (Below.heap_setCell _ ⟨w.heap.size, 2, none⟩ _ (w.heap.size + 1 + 1) (by simp only; omega))).trans ((World.cell?_of_block (Below.heap_setCell _ ⟨w.heap.size, 1, none⟩ _ (w.heap.size + 1 + 1) (by simp only; omega))).trans ((World.cell?_of_block (Below.heap_setCell _ ⟨w.heap.size, 0, none⟩ _ (w.heap.size + 1 + 1) (by simp only; omega))).trans (hHeld.1.1))))))))))))), (World.cell?_of_block (Below.heap_setCell _ ⟨w.heap.size, 12, none⟩ _ (w.heap.size + 1 + 1) (by simp only; omega))).trans ((World.cell?_of_block (Below.heap_setCell _ ⟨w.heap.size, 11, none⟩ _ (w.heap.size + 1 + 1) (by simp only; omega))).trans ((World.cell?_of_block (Below.heap_setCell _ ⟨w.heap.size, 10, none⟩ _ (w.heap.size + 1 + 1) (by simp only; omega))).trans ((World.cell?_of_block (Below.heap_setCell _ ⟨w.heap.size, 9, none⟩ _ (w.heap.size + 1 + 1) (by simp only; omega))).trans ((World.cell?_of_block (Below.heap_setCell _ ⟨w.heap.size, 8, none⟩ _ (w.heap.size + 1 + 1) (by simp only; omega))).trans ((World.cell?_of_block (Below.heap_setCell _ ⟨w.heap.size, 7, none⟩ _ (w.heap.size + 1 + 1) (by simp only; omega))).trans ((World.cell?_of_block (Below.heap_setCell _ ⟨w.heap.size, 6, none⟩ _ (w.heap.size + 1 + 1) (by simp only; omega))).trans ((World.cell?_of_block (Below.heap_setCell _ ⟨w.heap.size, 5, none⟩ _ (w.heap.size + 1 + 1) (by simp only; omega))).trans ((World.cell?_of_block (Below.heap_setCell _ ⟨w.heap.size, 4, none⟩ _ (w.heap.size + 1 + 1) (by simp only; omega))).trans ((World.cell?_of_block (Below.heap_setCell _ ⟨w.heap.size, 3, none⟩ _ (w.heap.size + 1 + 1) (by simp only; omega))).trans ((World.cell?_of_block (Below.heap_setCell _ ⟨w.heap.size, 2, none⟩ _ (w.heap.size + 1 + 1) (by simp only; omega))).trans ((World.cell?_of_block (Below.heap_setCell _ ⟨w.heap.size, 1, none⟩ _ (w.heap.size + 1 + 1) (by simp only; omega))).trans ((World.cell?_of_block (Below.heap_setCell _ ⟨w.heap.size, 0, none⟩ _ (w.heap.size + 1 + 1) (by simp only; omega))).trans (hHeld.1.2)))))))))))))⟩, (((((((((((((HSw3.out.bel.setCell (p := ⟨w.heap.size, 0, none⟩) (by simp only; omega) _).setCell (p := ⟨w.heap.size, 1, none⟩) (by simp only; omega) _).setCell (p := ⟨w.heap.size, 2, none⟩) (by simp only; omega) _).setCell (p := ⟨w.heap.size, 3, none⟩) (by simp only; omega) _).setCell (p := ⟨w.heap.size, 4, none⟩) (by simp only; omega) _).setCell (p := ⟨w.heap.size, 5, none⟩) (by simp only; omega) _).setCell (p := ⟨w.heap.size, 6, none⟩) (by simp only; omega) _).setCell (p := ⟨w.heap.size, 7, none⟩) (by simp only; omega) _).setCell (p := ⟨w.heap.size, 8, none⟩) (by simp only; omega) _).setCell (p := ⟨w.heap.size, 9, none⟩) (by simp only; omega) _).setCell (p := ⟨w.heap.size, 10, none⟩) (by simp only; omega) _).setCell (p := ⟨w.heap.size, 11, none⟩) (by simp only; omega) _).setCell (p := ⟨w.heap.size, 12, none⟩) (by simp only; omega) _)⟩
  clear hK K
  refine wpAnyH_done (by kernel_rfl) ?_ _
  go_wp2
  refine bodyPost_ret (v := tv V) (by simp [results, Try.f125, go_sem, *]) rfl ⟨rfl, hHeld.2⟩
theorem endsOf_any : ∀ x, EC x
  | .none => ends_none
  | .empty => ends_empty
  | .letter c => ends_letter c
  | .any => ends_any
  | .seq a b => ends_seq a b (endsOf_any a) (endsOf_any b)
  | .alt a b => ends_alt a b (endsOf_any a) (endsOf_any b)
  | .many a => ends_many a (endsOf_any a)
  | .inv a => ends_inv a (endsOf_any a)
set_option maxRecDepth 100000 in
set_option maxHeartbeats 2000000 in
theorem fits_any (x : Sh) (s : ByteArray) (hs : s.size ≤ 12) (w : World) (bb : Bool) (hbb : bb = true ↔ Mt x (bts s 0)) : Calls Try.prog 83 #[sv x, .string s] w fun e w' => e = .returned (.bool bb) ∧ Below w.heap.size w w' := by
  have hl : (bts s 0).length ≤ 12 := by rw [bts_lenN]; exact hs
  have h1 := ev_fits (bts s 0) hl x
  have h2 := ev_lt (bts s 0) hl x 0
  rw [bts_lenN] at h1
  have hb : bb = (ev (bts s 0) x 0).testBit s.size := by
    cases h : (ev (bts s 0) x 0).testBit s.size with
    | true => exact hbb.2 (h1.1 h)
    | false => exact bool_noT hbb (fun hm => by rw [h1.2 hm] at h; cases h)
  have C1 := hide (fun w => endsOf_any x s w hs)
  have C2 := hide (fun w => has_any (ev (bts s 0) x 0) s.size (by omega) hs w bb hb)
  obtain ⟨X, hX⟩ : ∃ X, X = ev (bts s 0) x := ⟨_, rfl⟩
  simp only [← hX] at C1 C2
  have hix : ∀ w : World, (Instr.index 155 (tv X) (.int .i64 0)).run Try.prog w = .ok (.int .u16 ((X 0 : Nat) : Int)) w := fun w => by kernel_rfl
  clear hX h1 h2 hbb hb hl
  go_enter Try.func83, Try.ntmps83
  go_wp2_with fail
  refine (C1.out _).mono ?_
  rintro e w1 ⟨rfl, hb1⟩
  go_wp2_with fail
  refine (C2.out _).mono ?_
  rintro e w2 ⟨rfl, rfl⟩
  go_wp2
  go_ret
  exact ⟨rfl, hb1⟩
set_option maxRecDepth 100000 in
set_option maxHeartbeats 2000000 in
theorem implFitsForm_any (a : Option Addr) (l : List Pr) (n cap : Nat) (s : ByteArray) (w : World) (hn : l.length = n) (hs : SlP w a l) (hn2 : n ≤ 1048576) (hst : TxP l) (hsz : s.size ≤ 9223372036854775807) (b1 b2 : Bool) (h2 : b2 = true ↔ GoodF l ∧ s.size ≤ 12 ∧ Let s) (h1 : b1 = true ↔ b2 = true ∧ Mt (whole l) (bts s 0)) :
    Calls Try.prog 33 #[.slice a n cap, .string s] w fun e w' => e = .returned (.tuple #[.bool b1, .bool b2]) ∧ Below w.heap.size w w' := by
  by_cases hg : GoodF l
  · have C1 := hide (goodForm_any a l n cap w hn hs hn2 hst true (iff_of_true rfl hg))
    by_cases hl : s.size ≤ 12 ∧ Let s
    · obtain rfl : b2 = true := h2.2 ⟨hg, hl⟩
      have C2 := hide (fun w => isFitted_any s w hsz true (iff_of_true rfl hl))
      have C3 := hide (fun w hs => shapeOf_any a l n cap w hn hs hg)
      have C4 := hide (fun w => fits_any (whole l) s hl.1 w b1 (h1.trans ⟨fun h => h.2, fun h => ⟨rfl, h⟩⟩))
      have HS := hide hs
      clear hn hs hst h2 h1 hg hl
      go_enter Try.func33, Try.ntmps33
      go_wp2_with fail
      refine C1.out.mono ?_
      rintro e w1 ⟨rfl, hb1⟩
      have B1 := hide hb1
      clear hb1
      go_wp2_with fail
      refine (C2.out _).mono ?_
      rintro e w2 ⟨rfl, hb2⟩
      have B2 := hide (B1.out.trans (hb2.mono B1.out.size))
      clear hb2
      go_wp2_with fail
      refine (C3.out _ (HS.out.below B2.out)).mono ?_
      rintro e w3 ⟨rfl, hb3⟩
      have B3 := hide (B2.out.trans (hb3.mono B2.out.size))
      clear hb3
      go_wp2_with fail
      refine (C4.out _).mono ?_
      rintro e w4 ⟨rfl, hb4⟩
      have B4 := hide (B3.out.trans (hb4.mono B3.out.size))
      clear hb4
      go_wp2
      go_ret2
      exact ⟨rfl, B4.out⟩
    · obtain rfl : b2 = false := bool_noT h2 (fun h => hl h.2)
      obtain rfl : b1 = false := bool_noT h1 (fun h => by cases h.1)
      have C2 := hide (fun w => isFitted_any s w hsz false (iff_of_false (by simp) hl))
      clear hn hs hst h2 h1 hg hl
      go_enter Try.func33, Try.ntmps33
      go_wp2_with fail
      refine C1.out.mono ?_
      rintro e w1 ⟨rfl, hb1⟩
      have B1 := hide hb1
      clear hb1
      go_wp2_with fail
      refine (C2.out _).mono ?_
      rintro e w2 ⟨rfl, hb2⟩
      have B2 := hide (B1.out.trans (hb2.mono B1.out.size))
      clear hb2
      go_wp2
      go_ret2
      exact ⟨rfl, B2.out⟩
  · obtain rfl : b2 = false := bool_noT h2 (fun h => hg h.1)
    obtain rfl : b1 = false := bool_noT h1 (fun h => by cases h.1)
    have C1 := hide (goodForm_any a l n cap w hn hs hn2 hst false (iff_of_false (by simp) hg))
    clear hn hs hst h2 h1 hg
    go_enter Try.func33, Try.ntmps33
    go_wp2_with fail
    refine C1.out.mono ?_
    rintro e w1 ⟨rfl, hb1⟩
    go_wp2
    go_ret2
    exact ⟨rfl, hb1⟩
end Go.Proofs.Ytapffbbmofhpoab.L5

namespace Go.Proofs.Ytapffbbmofhpoab.L5
open Go.RowKit L1 L4
set_option linter.unusedVariables false

set_option maxRecDepth 100000 in
set_option maxHeartbeats 1000000 in
theorem l5Word_any (s : ByteArray) (w : World) (hs : s.size ≤ 9223372036854775807) (bb : Bool) (hbb : bb = true ↔ s.size ≤ 12 ∧ Let s) :
    Calls Try.prog 86 #[.string s] w fun e w' => e = .returned (.bool bb) ∧ w = w' := by
  by_cases h12 : (s.size : Int) ≤ 12
  · have C := hide (fun w => l5Letters_any s w hs bb (hbb.trans ⟨fun h => h.2, fun h => ⟨by omega, h⟩⟩))
    by_cases h0 : s.toList = []
    · have e0 := ba_nil.1 h0
      obtain rfl : bb = true := hbb.2 ⟨by omega, fun k hk => by rw [e0] at hk; exact absurd hk (Nat.not_lt_zero _)⟩
      clear hbb e0
      go_enter Try.func86, Try.ntmps86
      go_wp2
      go_ret
      exact ⟨rfl, rfl⟩
    · have HE : Hid (s.toList.isEmpty = false) := by refine hide ?_; simpa using h0
      clear hbb
      go_enter Try.func86, Try.ntmps86
      go_wp2_with fail
      refine (C.out _).mono ?_
      rintro e w1 ⟨rfl, rfl⟩
      go_wp2
      go_ret
      exact ⟨ret_bool (by rw [HE.out]; rfl), rfl⟩
  · obtain rfl : bb = false := bool_noT hbb (fun h => h12 (by have := h.1; omega))
    clear hbb
    go_enter Try.func86, Try.ntmps86
    go_wp2
    go_ret
    exact ⟨rfl, rfl⟩
end Go.Proofs.Ytapffbbmofhpoab.L5

namespace Go.Proofs.Ytapffbbmofhpoab.L5
open Go.RowKit L1 L4
set_option linter.unusedVariables false

abbrev AnyM : Nat → Prop := fun _ => True
theorem bts_lenM (s : ByteArray) : (bts s 0).length = s.size := by rw [bts_len]; omega
theorem bts_inj {s t : ByteArray} (h : bts s 0 = bts t 0) : s = t := by
  have e1 := str_piece s 0 s.size (by omega)
  have e2 := str_piece t 0 t.size (by omega)
  have hl : s.size = t.size := by rw [← bts_lenM s, ← bts_lenM t, h]
  rw [h, hl, e2] at e1
  have e3 : t.extract 0 (0 + t.size) = t := by apply ByteArray.ext; simp
  have e4 : s.extract 0 (0 + s.size) = s := by apply ByteArray.ext; simp
  rw [hl] at e4
  rw [← e4, ← e1, e3]
theorem bts_one {c : Int} (h : 97 ≤ c ∧ c ≤ 122) : bts (one c) 0 = [c] := by
  have := ltr_one h
  unfold ltr one strOfNums at this
  unfold bts one strOfNums
  simp only [List.map_cons, List.map_nil, List.drop_zero] at this ⊢
  simpa using this
theorem bts_to (s : ByteArray) (k : Nat) (h : k ≤ s.size) : bts (s.extract 0 k) 0 = (bts s 0).take k := by
  simp only [bts, ByteArray.data_extract, Array.toList_extract, List.drop_zero, ← List.map_take]
  simp
theorem bts_from (s : ByteArray) (k : Nat) (h : k ≤ s.size) : bts (s.extract k s.size) 0 = (bts s 0).drop k := by
  simp only [bts, ByteArray.data_extract, Array.toList_extract, List.drop_zero, ← List.map_drop]
  simp
  rw [List.take_of_length_le (by simp)]
theorem ne_nilM {s : ByteArray} (h : 1 ≤ s.size) : bts s 0 ≠ [] := fun e => by
  have h2 : s.size = 0 := by rw [← bts_lenM, e]; rfl
  omega
theorem mt_seq (a b : Sh) (t : List Int) : Mt (.seq a b) t ↔ ∃ k, k ≤ t.length ∧ Mt a (t.take k) ∧ Mt b (t.drop k) := by
  constructor
  · rintro ⟨u, v, rfl, h1, h2⟩
    exact ⟨u.length, by simp, by simpa using h1, by simpa using h2⟩
  · rintro ⟨k, _, h1, h2⟩
    exact ⟨_, _, (List.take_append_drop k t).symm, h1, h2⟩
theorem mt_many (a : Sh) (t : List Int) (hne : t ≠ []) : Mt (.many a) t ↔ ∃ k, 1 ≤ k ∧ k ≤ t.length ∧ Mt a (t.take k) ∧ Mt (.many a) (t.drop k) := by
  constructor
  · intro h
    change Star (Mt a) t at h
    cases h with
    | nil => exact absurd rfl hne
    | cons u v hu hp hv =>
      refine ⟨u.length, List.length_pos_iff.2 hu, by simp, by simpa using hp, ?_⟩
      show Star (Mt a) _
      simpa using hv
  · rintro ⟨k, h1, h2, h3, h4⟩
    show Star (Mt a) t
    have := Star.cons (p := Mt a) (t.take k) (t.drop k) (fun e => by
      have := congrArg List.length e
      simp at this
      rcases this with h | h
      · omega
      · exact hne h) h3 h4
    rwa [List.take_append_drop] at this
theorem slice_to (w : World) (s : ByteArray) (k : Nat) (h : k ≤ s.size) : (Instr.slice 9 (.string s) none (some (.int .i64 (k : Int))) none).run Try.prog w = .ok (.string (s.extract 0 k)) w := by
  rw [run_slice_string_to_if (P := Try.prog) w 9 s .i64 (k : Int) Try.underlying9, if_pos (by omega)]
  rfl
theorem slice_from (w : World) (s : ByteArray) (k : Nat) (h : k ≤ s.size) : (Instr.slice 9 (.string s) (some (.int .i64 (k : Int))) none none).run Try.prog w = .ok (.string (s.extract k s.size)) w := by
  rw [run_slice_string_from_if (P := Try.prog) w 9 s .i64 (k : Int) Try.underlying9, if_pos (by omega)]
  rfl
theorem andBelow {w w' : World} {g : Nat} {pa pb : Option Addr} {a : Sh} (h : AtF w g 7 ByteArray.empty pa pb ∧ Tr w AnyM pa a) (hb : Below w.heap.size w w') : AtF w' g 7 ByteArray.empty pa pb ∧ Tr w' AnyM pa a := ⟨h.1.base hb (blk_lt h.1.k), h.2.below hb⟩
/-- What the call does at a shape. -/
def MC (x : Sh) : Prop := ∀ (s : ByteArray) (p : Option Addr) (w : World) (bb : Bool), s.size ≤ 12 → Tr w AnyM p x → (bb = true ↔ Mt x (bts s 0)) → Calls Try.prog 87 #[.pointer p, .string s] w fun e w' => e = .returned (.bool bb) ∧ Below w.heap.size w w'
set_option maxRecDepth 100000 in
set_option maxHeartbeats 8000000 in
theorem m_none : MC .none := by
  rintro s p w bb hs ⟨g, pa, pb, rfl, _, hf⟩ hb
  obtain rfl : bb = false := bool_noT hb (fun h => h)
  have c0 := hf.k
  clear hf hb
  go_enter Try.func87, Try.ntmps87
  go_wp2
  go_ret
  exact ⟨rfl, Below.refl _ _⟩
set_option maxRecDepth 100000 in
set_option maxHeartbeats 8000000 in
theorem m_empty : MC .empty := by
  rintro s p w bb hs ⟨g, pa, pb, rfl, _, hf⟩ hb
  have HE : Hid (s.toList.isEmpty = bb) := hide (by
    by_cases h : s.toList = []
    · rw [hb.2 (by rw [ba_nil.1 h]; rfl), h]; rfl
    · rw [bool_noT hb (fun x => h (by
        have : s.size = 0 := by rw [← bts_lenM, x]; rfl
        have e : s = ByteArray.empty := by
          apply ByteArray.ext
          apply Array.toList_inj.1
          exact List.eq_nil_of_length_eq_zero (by simpa using this)
        rw [e]; exact ba_nil.2 rfl))]
      simpa using h)
  have c0 := hf.k
  clear hf hb
  go_enter Try.func87, Try.ntmps87
  go_wp2
  go_ret
  exact ⟨ret_boolE HE.out, Below.refl _ _⟩
set_option maxRecDepth 100000 in
set_option maxHeartbeats 8000000 in
theorem m_letter (c : Int) (hc : 97 ≤ c ∧ c ≤ 122) : MC (.letter c) := by
  rintro s p w bb hs ⟨g, pa, pb, rfl, _, hf⟩ hb
  have HE : Hid ((s.toList == (one c).toList) = bb) := hide (by
    by_cases h : s = one c
    · rw [hb.2 (by rw [h]; exact bts_one hc), h]; simp
    · rw [bool_noT hb (fun x => h (bts_inj (x.trans (bts_one hc).symm)))]
      simp only [beq_eq_false_iff_ne, ne_eq]
      exact fun e => h (toList_inj e))
  have c0 := hf.k
  have c1 := hf.t
  clear hf hb
  go_enter Try.func87, Try.ntmps87
  go_wp2
  go_ret
  exact ⟨ret_boolE HE.out, Below.refl _ _⟩
set_option maxRecDepth 100000 in
set_option maxHeartbeats 8000000 in
theorem m_any : MC .any := by
  rintro s p w bb hs ⟨g, pa, pb, rfl, _, hf⟩ hb
  have HE : Hid (((s.size : Int) == 1) = bb) := hide (by
    by_cases h : s.size = 1
    · rw [hb.2 (by show (bts s 0).length = 1; rw [bts_lenM]; exact h), h]; rfl
    · rw [bool_noT hb (fun x => h (by rw [← bts_lenM]; exact x))]
      simp; omega)
  have c0 := hf.k
  clear hf hb
  go_enter Try.func87, Try.ntmps87
  go_wp2
  go_ret
  exact ⟨ret_boolE HE.out, Below.refl _ _⟩
open Classical in
set_option maxRecDepth 100000 in
set_option maxHeartbeats 8000000 in
theorem m_alt (a b : Sh) (IA : MC a) (IB : MC b) : MC (.alt a b) := by
  rintro s p w bb hs ⟨g, pa, pb, rfl, _, hf, ta, tb⟩ hb
  have c0 := hf.k
  have c2 := hf.a
  have HF := hide hf
  have TB := hide tb
  by_cases h : Mt a (bts s 0)
  · obtain rfl : bb = true := hb.2 (.inl h)
    have C1 := hide (IA s pa w true hs ta (iff_of_true rfl h))
    clear hf hb ta tb h IA IB
    go_enter Try.func87, Try.ntmps87
    go_wp2_with fail
    refine C1.out.mono ?_
    rintro e w1 ⟨rfl, hb1⟩
    go_wp2
    go_ret
    exact ⟨rfl, hb1⟩
  · have C1 := hide (IA s pa w false hs ta (iff_of_false (by simp) h))
    have C2 := hide (fun w t => IB s pb w bb hs t (hb.trans ⟨fun x => x.resolve_left h, .inr⟩))
    clear hf hb ta tb h IA IB
    go_enter Try.func87, Try.ntmps87
    go_wp2_with fail
    refine C1.out.mono ?_
    rintro e w1 ⟨rfl, hb1⟩
    have d3 := (HF.out.base hb1 (blk_lt HF.out.k)).b
    have T1 := hide (TB.out.below hb1)
    have B1 := hide hb1
    clear hb1
    go_wp2_with fail
    refine (C2.out _ T1.out).mono ?_
    rintro e w2 ⟨rfl, hb2⟩
    have B2 := hide (B1.out.trans (hb2.mono B1.out.size))
    clear hb2
    go_wp2
    go_ret
    exact ⟨rfl, B2.out⟩
set_option maxRecDepth 100000 in
set_option maxHeartbeats 8000000 in
theorem m_inv (a : Sh) (IA : MC a) : MC (.inv a) := by
  rintro s p w bb hs ⟨g, pa, pb, rfl, _, hf, ta⟩ hb
  have c0 := hf.k
  have c2 := hf.a
  have C1 := hide (IA s pa w (!bb) hs ta (by
    have hb2 : bb = true ↔ ¬ Mt a (bts s 0) := hb
    cases bb with
    | true => simpa using hb2
    | false =>
      have : ¬ ¬ Mt a (bts s 0) := fun x => by have := hb2.2 x; cases this
      simpa using this))
  clear hf hb ta IA
  go_enter Try.func87, Try.ntmps87
  go_wp2_with fail
  refine C1.out.mono ?_
  rintro e w1 ⟨rfl, hb1⟩
  go_wp2
  go_ret
  exact ⟨ret_boolE (by simp), hb1⟩
open Classical in
set_option maxRecDepth 100000 in
set_option maxHeartbeats 8000000 in
theorem m_seq (a b : Sh) (IA : MC a) (IB : MC b) : MC (.seq a b) := by
  rintro s p w bb hs ⟨g, pa, pb, rfl, _, hf, ta, tb⟩ hb
  have c0 := hf.k
  have c2 := hf.a
  have c3 := hf.b
  have TA := hide ta
  have TB := hide tb
  have HBB := hide (hb.trans (mt_seq a b _))
  clear hf hb ta tb
  go_enter Try.func87, Try.ntmps87
  go_wp2
  go_loopw [5] (fun i wr => ∃ k : Nat, k ≤ s.size + 1 ∧ i = .int .i64 k ∧ Hid (∀ j, j < k → ¬ (Mt a ((bts s 0).take j) ∧ Mt b ((bts s 0).drop j))) ∧ Hid (Below w.heap.size w wr)) (fun i _ => s.size + 1 - (intOf i).toNat)
  case atStart => exact ⟨0, by omega, rfl, fun j hj => absurd hj (Nat.not_lt_zero _), Below.refl _ _⟩
  case round =>
    obtain ⟨k, hk, rfl, HJ, HB⟩ := hrel
    by_cases hlt : k ≤ s.size
    · have hltI : (k : Int) ≤ (s.size : Int) := by omega
      have hk0 : (0 : Int) ≤ (k : Int) := by omega
      have d2 := (HB.out.cell (p := ⟨g, 2, none⟩) (blk_lt c2)).trans c2
      have d3 := (HB.out.cell (p := ⟨g, 3, none⟩) (blk_lt c3)).trans c3
      have hsl1 := fun w => slice_to w s k hlt
      have hsl2 := fun w => slice_from w s k hlt
      have HT := hide (bts_to s k hlt)
      have HF := hide (bts_from s k hlt)
      by_cases hA : Mt a ((bts s 0).take k)
      · have CA := hide (fun w t => IA (s.extract 0 k) pa w true (by rw [ByteArray.size_extract]; omega) t (iff_of_true rfl (by rw [HT.out]; exact hA)))
        by_cases hB : Mt b ((bts s 0).drop k)
        · have CB := hide (fun w t => IB (s.extract k s.size) pb w true (by rw [ByteArray.size_extract]; omega) t (iff_of_true rfl (by rw [HF.out]; exact hB)))
          have HE := hide (HBB.out.2 ⟨k, by rw [bts_lenM]; exact hlt, hA, hB⟩)
          clear hA hB
          go_wp2
          refine wp_region_held_drew (S := (fun wx : World => (wx.cell? ⟨g, 2, none⟩ = some (.pointer pa) ∧ wx.cell? ⟨g, 3, none⟩ = some (.pointer pb)) ∧ Below w.heap.size w wx)) (by kernel_rfl) ⟨⟨d2, d3⟩, HB.out.drew⟩ (fun hHeld => ?_)
          refine wpAnyH_take (i := 0) (v := ?v1) rfl (by kernel_rfl) (by kernel_rfl) (by kernel_rfl) (fun _ _ _ h => h) (Or.inl ⟨by rfl, ?y1⟩) (by assumption) ?r1
          case y1 => (intro w hSw; (try dsimp only at hSw); go_simp; try (with_reducible rfl))
          simp only [List.getElem_toArray, List.getElem_cons_zero, Act.put, List.setIfInBounds_toArray, List.set_cons_zero, List.set_cons_succ]
          refine wpAnyH_take (i := 4) (v := ?v2) rfl (by kernel_rfl) (by kernel_rfl) (by kernel_rfl) (fun _ _ _ h => h) (Or.inl ⟨by rfl, ?y2⟩) (by assumption) ?r2
          case y2 => (intro w hSw; (try dsimp only at hSw); go_simp; try (with_reducible rfl))
          simp only [List.getElem_toArray, List.getElem_cons_succ, List.getElem_cons_zero, Act.put, List.setIfInBounds_toArray, List.set_cons_zero, List.set_cons_succ]
          refine wpAnyH_take (i := 5) (v := ?v3) rfl (by kernel_rfl) (by kernel_rfl) (by kernel_rfl) (fun _ _ _ h => h) (Or.inl ⟨by rfl, ?y3⟩) (by assumption) ?r3
          case y3 => (intro w hSw; (try dsimp only at hSw); go_simp; try (with_reducible rfl))
          simp only [List.getElem_toArray, List.getElem_cons_succ, List.getElem_cons_zero, Act.put, List.setIfInBounds_toArray, List.set_cons_zero, List.set_cons_succ]
          refine wpAnyH_take (i := 1) (v := ?v4) rfl (by kernel_rfl) (by kernel_rfl) (by kernel_rfl) (fun _ _ _ h => h) (Or.inl ⟨by rfl, ?y4⟩) (by assumption) ?r4
          case y4 => (intro w hSw; (try dsimp only at hSw); go_simp; try (with_reducible rfl))
          simp only [List.getElem_toArray, List.getElem_cons_succ, List.getElem_cons_zero, Act.put, List.setIfInBounds_toArray, List.set_cons_zero, List.set_cons_succ]
          refine wpAnyH_take (i := 2) (v := ?v5) rfl (by kernel_rfl) (by kernel_rfl) (by kernel_rfl) (fun _ _ _ h => h) (Or.inl ⟨by rfl, ?y5⟩) (by assumption) ?r5
          case y5 => (intro w hSw; (try dsimp only at hSw); go_simp; try (with_reducible rfl))
          simp only [List.getElem_toArray, List.getElem_cons_succ, List.getElem_cons_zero, Act.put, List.setIfInBounds_toArray, List.set_cons_zero, List.set_cons_succ]
          refine wpAnyH_take (i := 6) (v := .string (s.extract 0 k)) rfl (by kernel_rfl) (by kernel_rfl) (by kernel_rfl) (fun _ _ _ h => h) (Or.inl ⟨by rfl, ?y6⟩) (by assumption) ?r6
          case y6 => (intro w hSw; obtain ⟨⟨hq0, hq1⟩, hq2⟩ := hSw; go_simp; try (with_reducible rfl))
          simp only [List.getElem_toArray, List.getElem_cons_succ, List.getElem_cons_zero, Act.put, List.setIfInBounds_toArray, List.set_cons_zero, List.set_cons_succ]
          refine wpAnyH_take (i := 3) (v := .pointer pa) rfl (by kernel_rfl) (by kernel_rfl) (by kernel_rfl) (fun _ _ _ h => h) (Or.inl ⟨by rfl, ?y7⟩) (by assumption) ?r7
          case y7 => (intro w hSw; obtain ⟨⟨hq0, hq1⟩, hq2⟩ := hSw; go_simp; try (with_reducible rfl))
          simp only [List.getElem_toArray, List.getElem_cons_succ, List.getElem_cons_zero, Act.put, List.setIfInBounds_toArray, List.set_cons_zero, List.set_cons_succ]
          refine wpAnyH_ready (rs := [7]) (by kernel_rfl) (by simp) ?_
          refine AllReadyH.cons rfl (fun K hK => ?_) AllReadyH.nil
          simp only [List.getElem_toArray, List.getElem_cons_succ, List.getElem_cons_zero]
          go_simp
          go_at_call 87
          refine (CA.out _ (TA.out.below hHeld.2)).mono ?_
          rintro e w1 ⟨rfl, hb⟩
          have hS3 : (fun wx : World => (wx.cell? ⟨g, 2, none⟩ = some (.pointer pa) ∧ wx.cell? ⟨g, 3, none⟩ = some (.pointer pb)) ∧ Below w.heap.size w wx) w1 := ⟨⟨(hb.cell (p := ⟨g, 2, none⟩) (blk_lt hHeld.1.1)).trans hHeld.1.1, (hb.cell (p := ⟨g, 3, none⟩) (blk_lt hHeld.1.2)).trans hHeld.1.2⟩, hHeld.2.trans (hb.mono hHeld.2.size)⟩
          clear hb
          dsimp only
          refine hK.out _ _ hS3 (fun hHeld => ?_)
          clear hK K
          try simp only [Act.put, List.setIfInBounds_toArray, List.set_cons_zero, List.set_cons_succ]
          refine wpAnyH_take (i := 8) (v := ?v8) rfl (by kernel_rfl) (by kernel_rfl) (by kernel_rfl) (fun _ _ _ h => h) (Or.inl ⟨by rfl, ?y8⟩) (by assumption) ?r8
          case y8 => (intro w hSw; (try dsimp only at hSw); go_simp; try (with_reducible rfl))
          simp only [List.getElem_toArray, List.getElem_cons_succ, List.getElem_cons_zero, Act.put, List.setIfInBounds_toArray, List.set_cons_zero, List.set_cons_succ]
          refine wpAnyH_take (i := 9) (v := ?v9) rfl (by kernel_rfl) (by kernel_rfl) (by kernel_rfl) (fun _ _ _ h => h) (Or.inl ⟨by rfl, ?y9⟩) (by assumption) ?r9
          case y9 => (intro w hSw; (try dsimp only at hSw); go_simp; try (with_reducible rfl))
          simp only [List.getElem_toArray, List.getElem_cons_succ, List.getElem_cons_zero, Act.put, List.setIfInBounds_toArray, List.set_cons_zero, List.set_cons_succ]
          refine wpAnyH_take (i := 13) (v := ?v10) rfl (by kernel_rfl) (by kernel_rfl) (by kernel_rfl) (fun _ _ _ h => h) (Or.inl ⟨by rfl, ?y10⟩) (by assumption) ?r10
          case y10 => (intro w hSw; (try dsimp only at hSw); go_simp; try (with_reducible rfl))
          simp only [List.getElem_toArray, List.getElem_cons_succ, List.getElem_cons_zero, Act.put, List.setIfInBounds_toArray, List.set_cons_zero, List.set_cons_succ]
          refine wpAnyH_take (i := 14) (v := ?v11) rfl (by kernel_rfl) (by kernel_rfl) (by kernel_rfl) (fun _ _ _ h => h) (Or.inl ⟨by rfl, ?y11⟩) (by assumption) ?r11
          case y11 => (intro w hSw; (try dsimp only at hSw); go_simp; try (with_reducible rfl))
          simp only [List.getElem_toArray, List.getElem_cons_succ, List.getElem_cons_zero, Act.put, List.setIfInBounds_toArray, List.set_cons_zero, List.set_cons_succ]
          refine wpAnyH_take (i := 10) (v := ?v12) rfl (by kernel_rfl) (by kernel_rfl) (by kernel_rfl) (fun _ _ _ h => h) (Or.inl ⟨by rfl, ?y12⟩) (by assumption) ?r12
          case y12 => (intro w hSw; (try dsimp only at hSw); go_simp; try (with_reducible rfl))
          simp only [List.getElem_toArray, List.getElem_cons_succ, List.getElem_cons_zero, Act.put, List.setIfInBounds_toArray, List.set_cons_zero, List.set_cons_succ]
          refine wpAnyH_take (i := 11) (v := ?v13) rfl (by kernel_rfl) (by kernel_rfl) (by kernel_rfl) (fun _ _ _ h => h) (Or.inl ⟨by rfl, ?y13⟩) (by assumption) ?r13
          case y13 => (intro w hSw; (try dsimp only at hSw); go_simp; try (with_reducible rfl))
          simp only [List.getElem_toArray, List.getElem_cons_succ, List.getElem_cons_zero, Act.put, List.setIfInBounds_toArray, List.set_cons_zero, List.set_cons_succ]
          refine wpAnyH_take (i := 15) (v := .string (s.extract k s.size)) rfl (by kernel_rfl) (by kernel_rfl) (by kernel_rfl) (fun _ _ _ h => h) (Or.inl ⟨by rfl, ?y14⟩) (by assumption) ?r14
          case y14 => (intro w hSw; obtain ⟨⟨hq0, hq1⟩, hq2⟩ := hSw; go_simp; try (with_reducible rfl))
          simp only [List.getElem_toArray, List.getElem_cons_succ, List.getElem_cons_zero, Act.put, List.setIfInBounds_toArray, List.set_cons_zero, List.set_cons_succ]
          refine wpAnyH_take (i := 12) (v := .pointer pb) rfl (by kernel_rfl) (by kernel_rfl) (by kernel_rfl) (fun _ _ _ h => h) (Or.inl ⟨by rfl, ?y15⟩) (by assumption) ?r15
          case y15 => (intro w hSw; obtain ⟨⟨hq0, hq1⟩, hq2⟩ := hSw; go_simp; try (with_reducible rfl))
          simp only [List.getElem_toArray, List.getElem_cons_succ, List.getElem_cons_zero, Act.put, List.setIfInBounds_toArray, List.set_cons_zero, List.set_cons_succ]
          refine wpAnyH_ready (rs := [16]) (by kernel_rfl) (by simp) ?_
          refine AllReadyH.cons rfl (fun K hK => ?_) AllReadyH.nil
          simp only [List.getElem_toArray, List.getElem_cons_succ, List.getElem_cons_zero]
          go_simp
          go_at_call 87
          refine (CB.out _ (TB.out.below hHeld.2)).mono ?_
          rintro e w2 ⟨rfl, hb⟩
          have hS3 : (fun wx : World => (wx.cell? ⟨g, 2, none⟩ = some (.pointer pa) ∧ wx.cell? ⟨g, 3, none⟩ = some (.pointer pb)) ∧ Below w.heap.size w wx) w2 := ⟨⟨(hb.cell (p := ⟨g, 2, none⟩) (blk_lt hHeld.1.1)).trans hHeld.1.1, (hb.cell (p := ⟨g, 3, none⟩) (blk_lt hHeld.1.2)).trans hHeld.1.2⟩, hHeld.2.trans (hb.mono hHeld.2.size)⟩
          clear hb
          dsimp only
          refine hK.out _ _ hS3 (fun hHeld => ?_)
          clear hK K
          try simp only [Act.put, List.setIfInBounds_toArray, List.set_cons_zero, List.set_cons_succ]
          refine wpAnyH_take (i := 17) (v := ?v16) rfl (by kernel_rfl) (by kernel_rfl) (by kernel_rfl) (fun _ _ _ h => h) (Or.inl ⟨by rfl, ?y16⟩) (by assumption) ?r16
          case y16 => (intro w hSw; (try dsimp only at hSw); go_simp; try (with_reducible rfl))
          simp only [List.getElem_toArray, List.getElem_cons_succ, List.getElem_cons_zero, Act.put, List.setIfInBounds_toArray, List.set_cons_zero, List.set_cons_succ]
          refine wpAnyH_done (by kernel_rfl) ?_ _
          have BH := hide hHeld.2
          clear hHeld
          go_wp2
          go_ret
          exact ⟨by rw [HE.out]; rfl, BH.out⟩
        · have CB := hide (fun w t => IB (s.extract k s.size) pb w false (by rw [ByteArray.size_extract]; omega) t (iff_of_false (by simp) (by rw [HF.out]; exact hB)))
          have HN : Hid (∀ j, j < k + 1 → ¬ (Mt a ((bts s 0).take j) ∧ Mt b ((bts s 0).drop j))) := hide (by
            intro j hj
            by_cases e : j = k
            · subst e; exact fun x => hB x.2
            · exact HJ.out j (by omega))
          clear hA hB
          go_wp2
          refine wp_region_held_drew (S := (fun wx : World => (wx.cell? ⟨g, 2, none⟩ = some (.pointer pa) ∧ wx.cell? ⟨g, 3, none⟩ = some (.pointer pb)) ∧ Below w.heap.size w wx)) (by kernel_rfl) ⟨⟨d2, d3⟩, HB.out.drew⟩ (fun hHeld => ?_)
          refine wpAnyH_take (i := 0) (v := ?v17) rfl (by kernel_rfl) (by kernel_rfl) (by kernel_rfl) (fun _ _ _ h => h) (Or.inl ⟨by rfl, ?y17⟩) (by assumption) ?r17
          case y17 => (intro w hSw; (try dsimp only at hSw); go_simp; try (with_reducible rfl))
          simp only [List.getElem_toArray, List.getElem_cons_zero, Act.put, List.setIfInBounds_toArray, List.set_cons_zero, List.set_cons_succ]
          refine wpAnyH_take (i := 4) (v := ?v18) rfl (by kernel_rfl) (by kernel_rfl) (by kernel_rfl) (fun _ _ _ h => h) (Or.inl ⟨by rfl, ?y18⟩) (by assumption) ?r18
          case y18 => (intro w hSw; (try dsimp only at hSw); go_simp; try (with_reducible rfl))
          simp only [List.getElem_toArray, List.getElem_cons_succ, List.getElem_cons_zero, Act.put, List.setIfInBounds_toArray, List.set_cons_zero, List.set_cons_succ]
          refine wpAnyH_take (i := 5) (v := ?v19) rfl (by kernel_rfl) (by kernel_rfl) (by kernel_rfl) (fun _ _ _ h => h) (Or.inl ⟨by rfl, ?y19⟩) (by assumption) ?r19
          case y19 => (intro w hSw; (try dsimp only at hSw); go_simp; try (with_reducible rfl))
          simp only [List.getElem_toArray, List.getElem_cons_succ, List.getElem_cons_zero, Act.put, List.setIfInBounds_toArray, List.set_cons_zero, List.set_cons_succ]
          refine wpAnyH_take (i := 1) (v := ?v20) rfl (by kernel_rfl) (by kernel_rfl) (by kernel_rfl) (fun _ _ _ h => h) (Or.inl ⟨by rfl, ?y20⟩) (by assumption) ?r20
          case y20 => (intro w hSw; (try dsimp only at hSw); go_simp; try (with_reducible rfl))
          simp only [List.getElem_toArray, List.getElem_cons_succ, List.getElem_cons_zero, Act.put, List.setIfInBounds_toArray, List.set_cons_zero, List.set_cons_succ]
          refine wpAnyH_take (i := 2) (v := ?v21) rfl (by kernel_rfl) (by kernel_rfl) (by kernel_rfl) (fun _ _ _ h => h) (Or.inl ⟨by rfl, ?y21⟩) (by assumption) ?r21
          case y21 => (intro w hSw; (try dsimp only at hSw); go_simp; try (with_reducible rfl))
          simp only [List.getElem_toArray, List.getElem_cons_succ, List.getElem_cons_zero, Act.put, List.setIfInBounds_toArray, List.set_cons_zero, List.set_cons_succ]
          refine wpAnyH_take (i := 6) (v := .string (s.extract 0 k)) rfl (by kernel_rfl) (by kernel_rfl) (by kernel_rfl) (fun _ _ _ h => h) (Or.inl ⟨by rfl, ?y22⟩) (by assumption) ?r22
          case y22 => (intro w hSw; obtain ⟨⟨hq0, hq1⟩, hq2⟩ := hSw; go_simp; try (with_reducible rfl))
          simp only [List.getElem_toArray, List.getElem_cons_succ, List.getElem_cons_zero, Act.put, List.setIfInBounds_toArray, List.set_cons_zero, List.set_cons_succ]
          refine wpAnyH_take (i := 3) (v := .pointer pa) rfl (by kernel_rfl) (by kernel_rfl) (by kernel_rfl) (fun _ _ _ h => h) (Or.inl ⟨by rfl, ?y23⟩) (by assumption) ?r23
          case y23 => (intro w hSw; obtain ⟨⟨hq0, hq1⟩, hq2⟩ := hSw; go_simp; try (with_reducible rfl))
          simp only [List.getElem_toArray, List.getElem_cons_succ, List.getElem_cons_zero, Act.put, List.setIfInBounds_toArray, List.set_cons_zero, List.set_cons_succ]
          refine wpAnyH_ready (rs := [7]) (by kernel_rfl) (by simp) ?_
          refine AllReadyH.cons rfl (fun K hK => ?_) AllReadyH.nil
          simp only [List.getElem_toArray, List.getElem_cons_succ, List.getElem_cons_zero]
          go_simp
          go_at_call 87
          refine (CA.out _ (TA.out.below hHeld.2)).mono ?_
          rintro e w1 ⟨rfl, hb⟩
          have hS3 : (fun wx : World => (wx.cell? ⟨g, 2, none⟩ = some (.pointer pa) ∧ wx.cell? ⟨g, 3, none⟩ = some (.pointer pb)) ∧ Below w.heap.size w wx) w1 := ⟨⟨(hb.cell (p := ⟨g, 2, none⟩) (blk_lt hHeld.1.1)).trans hHeld.1.1, (hb.cell (p := ⟨g, 3, none⟩) (blk_lt hHeld.1.2)).trans hHeld.1.2⟩, hHeld.2.trans (hb.mono hHeld.2.size)⟩
          clear hb
          dsimp only
          refine hK.out _ _ hS3 (fun hHeld => ?_)
          clear hK K
          try simp only [Act.put, List.setIfInBounds_toArray, List.set_cons_zero, List.set_cons_succ]
          refine wpAnyH_take (i := 8) (v := ?v24) rfl (by kernel_rfl) (by kernel_rfl) (by kernel_rfl) (fun _ _ _ h => h) (Or.inl ⟨by rfl, ?y24⟩) (by assumption) ?r24
          case y24 => (intro w hSw; (try dsimp only at hSw); go_simp; try (with_reducible rfl))
          simp only [List.getElem_toArray, List.getElem_cons_succ, List.getElem_cons_zero, Act.put, List.setIfInBounds_toArray, List.set_cons_zero, List.set_cons_succ]
          refine wpAnyH_take (i := 9) (v := ?v25) rfl (by kernel_rfl) (by kernel_rfl) (by kernel_rfl) (fun _ _ _ h => h) (Or.inl ⟨by rfl, ?y25⟩) (by assumption) ?r25
          case y25 => (intro w hSw; (try dsimp only at hSw); go_simp; try (with_reducible rfl))
          simp only [List.getElem_toArray, List.getElem_cons_succ, List.getElem_cons_zero, Act.put, List.setIfInBounds_toArray, List.set_cons_zero, List.set_cons_succ]
          refine wpAnyH_take (i := 13) (v := ?v26) rfl (by kernel_rfl) (by kernel_rfl) (by kernel_rfl) (fun _ _ _ h => h) (Or.inl ⟨by rfl, ?y26⟩) (by assumption) ?r26
          case y26 => (intro w hSw; (try dsimp only at hSw); go_simp; try (with_reducible rfl))
          simp only [List.getElem_toArray, List.getElem_cons_succ, List.getElem_cons_zero, Act.put, List.setIfInBounds_toArray, List.set_cons_zero, List.set_cons_succ]
          refine wpAnyH_take (i := 14) (v := ?v27) rfl (by kernel_rfl) (by kernel_rfl) (by kernel_rfl) (fun _ _ _ h => h) (Or.inl ⟨by rfl, ?y27⟩) (by assumption) ?r27
          case y27 => (intro w hSw; (try dsimp only at hSw); go_simp; try (with_reducible rfl))
          simp only [List.getElem_toArray, List.getElem_cons_succ, List.getElem_cons_zero, Act.put, List.setIfInBounds_toArray, List.set_cons_zero, List.set_cons_succ]
          refine wpAnyH_take (i := 10) (v := ?v28) rfl (by kernel_rfl) (by kernel_rfl) (by kernel_rfl) (fun _ _ _ h => h) (Or.inl ⟨by rfl, ?y28⟩) (by assumption) ?r28
          case y28 => (intro w hSw; (try dsimp only at hSw); go_simp; try (with_reducible rfl))
          simp only [List.getElem_toArray, List.getElem_cons_succ, List.getElem_cons_zero, Act.put, List.setIfInBounds_toArray, List.set_cons_zero, List.set_cons_succ]
          refine wpAnyH_take (i := 11) (v := ?v29) rfl (by kernel_rfl) (by kernel_rfl) (by kernel_rfl) (fun _ _ _ h => h) (Or.inl ⟨by rfl, ?y29⟩) (by assumption) ?r29
          case y29 => (intro w hSw; (try dsimp only at hSw); go_simp; try (with_reducible rfl))
          simp only [List.getElem_toArray, List.getElem_cons_succ, List.getElem_cons_zero, Act.put, List.setIfInBounds_toArray, List.set_cons_zero, List.set_cons_succ]
          refine wpAnyH_take (i := 15) (v := .string (s.extract k s.size)) rfl (by kernel_rfl) (by kernel_rfl) (by kernel_rfl) (fun _ _ _ h => h) (Or.inl ⟨by rfl, ?y30⟩) (by assumption) ?r30
          case y30 => (intro w hSw; obtain ⟨⟨hq0, hq1⟩, hq2⟩ := hSw; go_simp; try (with_reducible rfl))
          simp only [List.getElem_toArray, List.getElem_cons_succ, List.getElem_cons_zero, Act.put, List.setIfInBounds_toArray, List.set_cons_zero, List.set_cons_succ]
          refine wpAnyH_take (i := 12) (v := .pointer pb) rfl (by kernel_rfl) (by kernel_rfl) (by kernel_rfl) (fun _ _ _ h => h) (Or.inl ⟨by rfl, ?y31⟩) (by assumption) ?r31
          case y31 => (intro w hSw; obtain ⟨⟨hq0, hq1⟩, hq2⟩ := hSw; go_simp; try (with_reducible rfl))
          simp only [List.getElem_toArray, List.getElem_cons_succ, List.getElem_cons_zero, Act.put, List.setIfInBounds_toArray, List.set_cons_zero, List.set_cons_succ]
          refine wpAnyH_ready (rs := [16]) (by kernel_rfl) (by simp) ?_
          refine AllReadyH.cons rfl (fun K hK => ?_) AllReadyH.nil
          simp only [List.getElem_toArray, List.getElem_cons_succ, List.getElem_cons_zero]
          go_simp
          go_at_call 87
          refine (CB.out _ (TB.out.below hHeld.2)).mono ?_
          rintro e w2 ⟨rfl, hb⟩
          have hS3 : (fun wx : World => (wx.cell? ⟨g, 2, none⟩ = some (.pointer pa) ∧ wx.cell? ⟨g, 3, none⟩ = some (.pointer pb)) ∧ Below w.heap.size w wx) w2 := ⟨⟨(hb.cell (p := ⟨g, 2, none⟩) (blk_lt hHeld.1.1)).trans hHeld.1.1, (hb.cell (p := ⟨g, 3, none⟩) (blk_lt hHeld.1.2)).trans hHeld.1.2⟩, hHeld.2.trans (hb.mono hHeld.2.size)⟩
          clear hb
          dsimp only
          refine hK.out _ _ hS3 (fun hHeld => ?_)
          clear hK K
          try simp only [Act.put, List.setIfInBounds_toArray, List.set_cons_zero, List.set_cons_succ]
          refine wpAnyH_take (i := 17) (v := ?v32) rfl (by kernel_rfl) (by kernel_rfl) (by kernel_rfl) (fun _ _ _ h => h) (Or.inl ⟨by rfl, ?y32⟩) (by assumption) ?r32
          case y32 => (intro w hSw; (try dsimp only at hSw); go_simp; try (with_reducible rfl))
          simp only [List.getElem_toArray, List.getElem_cons_succ, List.getElem_cons_zero, Act.put, List.setIfInBounds_toArray, List.set_cons_zero, List.set_cons_succ]
          refine wpAnyH_done (by kernel_rfl) ?_ _
          have BH := hide hHeld.2
          clear hHeld
          go_wp2
          go_roundw
          case rel => exact ⟨k + 1, by omega, by go_num, HN, BH⟩
          case measure => simp [intOf]; omega
      · have CA := hide (fun w t => IA (s.extract 0 k) pa w false (by rw [ByteArray.size_extract]; omega) t (iff_of_false (by simp) (by rw [HT.out]; exact hA)))
        have HN : Hid (∀ j, j < k + 1 → ¬ (Mt a ((bts s 0).take j) ∧ Mt b ((bts s 0).drop j))) := hide (by
          intro j hj
          by_cases e : j = k
          · subst e; exact fun x => hA x.1
          · exact HJ.out j (by omega))
        clear hA
        go_wp2
        refine wp_region_held_drew (S := (fun wx : World => (wx.cell? ⟨g, 2, none⟩ = some (.pointer pa) ∧ wx.cell? ⟨g, 3, none⟩ = some (.pointer pb)) ∧ Below w.heap.size w wx)) (by kernel_rfl) ⟨⟨d2, d3⟩, HB.out.drew⟩ (fun hHeld => ?_)
        refine wpAnyH_take (i := 0) (v := ?v33) rfl (by kernel_rfl) (by kernel_rfl) (by kernel_rfl) (fun _ _ _ h => h) (Or.inl ⟨by rfl, ?y33⟩) (by assumption) ?r33
        case y33 => (intro w hSw; (try dsimp only at hSw); go_simp; try (with_reducible rfl))
        simp only [List.getElem_toArray, List.getElem_cons_zero, Act.put, List.setIfInBounds_toArray, List.set_cons_zero, List.set_cons_succ]
        refine wpAnyH_take (i := 4) (v := ?v34) rfl (by kernel_rfl) (by kernel_rfl) (by kernel_rfl) (fun _ _ _ h => h) (Or.inl ⟨by rfl, ?y34⟩) (by assumption) ?r34
        case y34 => (intro w hSw; (try dsimp only at hSw); go_simp; try (with_reducible rfl))
        simp only [List.getElem_toArray, List.getElem_cons_succ, List.getElem_cons_zero, Act.put, List.setIfInBounds_toArray, List.set_cons_zero, List.set_cons_succ]
        refine wpAnyH_take (i := 5) (v := ?v35) rfl (by kernel_rfl) (by kernel_rfl) (by kernel_rfl) (fun _ _ _ h => h) (Or.inl ⟨by rfl, ?y35⟩) (by assumption) ?r35
        case y35 => (intro w hSw; (try dsimp only at hSw); go_simp; try (with_reducible rfl))
        simp only [List.getElem_toArray, List.getElem_cons_succ, List.getElem_cons_zero, Act.put, List.setIfInBounds_toArray, List.set_cons_zero, List.set_cons_succ]
        refine wpAnyH_take (i := 1) (v := ?v36) rfl (by kernel_rfl) (by kernel_rfl) (by kernel_rfl) (fun _ _ _ h => h) (Or.inl ⟨by rfl, ?y36⟩) (by assumption) ?r36
        case y36 => (intro w hSw; (try dsimp only at hSw); go_simp; try (with_reducible rfl))
        simp only [List.getElem_toArray, List.getElem_cons_succ, List.getElem_cons_zero, Act.put, List.setIfInBounds_toArray, List.set_cons_zero, List.set_cons_succ]
        refine wpAnyH_take (i := 2) (v := ?v37) rfl (by kernel_rfl) (by kernel_rfl) (by kernel_rfl) (fun _ _ _ h => h) (Or.inl ⟨by rfl, ?y37⟩) (by assumption) ?r37
        case y37 => (intro w hSw; (try dsimp only at hSw); go_simp; try (with_reducible rfl))
        simp only [List.getElem_toArray, List.getElem_cons_succ, List.getElem_cons_zero, Act.put, List.setIfInBounds_toArray, List.set_cons_zero, List.set_cons_succ]
        refine wpAnyH_take (i := 6) (v := .string (s.extract 0 k)) rfl (by kernel_rfl) (by kernel_rfl) (by kernel_rfl) (fun _ _ _ h => h) (Or.inl ⟨by rfl, ?y38⟩) (by assumption) ?r38
        case y38 => (intro w hSw; obtain ⟨⟨hq0, hq1⟩, hq2⟩ := hSw; go_simp; try (with_reducible rfl))
        simp only [List.getElem_toArray, List.getElem_cons_succ, List.getElem_cons_zero, Act.put, List.setIfInBounds_toArray, List.set_cons_zero, List.set_cons_succ]
        refine wpAnyH_take (i := 3) (v := .pointer pa) rfl (by kernel_rfl) (by kernel_rfl) (by kernel_rfl) (fun _ _ _ h => h) (Or.inl ⟨by rfl, ?y39⟩) (by assumption) ?r39
        case y39 => (intro w hSw; obtain ⟨⟨hq0, hq1⟩, hq2⟩ := hSw; go_simp; try (with_reducible rfl))
        simp only [List.getElem_toArray, List.getElem_cons_succ, List.getElem_cons_zero, Act.put, List.setIfInBounds_toArray, List.set_cons_zero, List.set_cons_succ]
        refine wpAnyH_ready (rs := [7]) (by kernel_rfl) (by simp) ?_
        refine AllReadyH.cons rfl (fun K hK => ?_) AllReadyH.nil
        simp only [List.getElem_toArray, List.getElem_cons_succ, List.getElem_cons_zero]
        go_simp
        go_at_call 87
        refine (CA.out _ (TA.out.below hHeld.2)).mono ?_
        rintro e w1 ⟨rfl, hb⟩
        have hS3 : (fun wx : World => (wx.cell? ⟨g, 2, none⟩ = some (.pointer pa) ∧ wx.cell? ⟨g, 3, none⟩ = some (.pointer pb)) ∧ Below w.heap.size w wx) w1 := ⟨⟨(hb.cell (p := ⟨g, 2, none⟩) (blk_lt hHeld.1.1)).trans hHeld.1.1, (hb.cell (p := ⟨g, 3, none⟩) (blk_lt hHeld.1.2)).trans hHeld.1.2⟩, hHeld.2.trans (hb.mono hHeld.2.size)⟩
        clear hb
        dsimp only
        refine hK.out _ _ hS3 (fun hHeld => ?_)
        clear hK K
        try simp only [Act.put, List.setIfInBounds_toArray, List.set_cons_zero, List.set_cons_succ]
        refine wpAnyH_take (i := 8) (v := ?v40) rfl (by kernel_rfl) (by kernel_rfl) (by kernel_rfl) (fun _ _ _ h => h) (Or.inl ⟨by rfl, ?y40⟩) (by assumption) ?r40
        case y40 => (intro w hSw; (try dsimp only at hSw); go_simp; try (with_reducible rfl))
        simp only [List.getElem_toArray, List.getElem_cons_succ, List.getElem_cons_zero, Act.put, List.setIfInBounds_toArray, List.set_cons_zero, List.set_cons_succ]
        refine wpAnyH_take (i := 9) (v := undef) rfl (by kernel_rfl) (by kernel_rfl) (by kernel_rfl) (fun _ _ _ h => h) (Or.inr ⟨by rfl, rfl⟩) (by assumption) ?_
        simp only [List.getElem_toArray, List.getElem_cons_succ, List.getElem_cons_zero, Act.put, List.setIfInBounds_toArray, List.set_cons_zero, List.set_cons_succ]
        refine wpAnyH_take (i := 10) (v := undef) rfl (by kernel_rfl) (by kernel_rfl) (by kernel_rfl) (fun _ _ _ h => h) (Or.inr ⟨by rfl, rfl⟩) (by assumption) ?_
        simp only [List.getElem_toArray, List.getElem_cons_succ, List.getElem_cons_zero, Act.put, List.setIfInBounds_toArray, List.set_cons_zero, List.set_cons_succ]
        refine wpAnyH_take (i := 11) (v := undef) rfl (by kernel_rfl) (by kernel_rfl) (by kernel_rfl) (fun _ _ _ h => h) (Or.inr ⟨by rfl, rfl⟩) (by assumption) ?_
        simp only [List.getElem_toArray, List.getElem_cons_succ, List.getElem_cons_zero, Act.put, List.setIfInBounds_toArray, List.set_cons_zero, List.set_cons_succ]
        refine wpAnyH_take (i := 12) (v := undef) rfl (by kernel_rfl) (by kernel_rfl) (by kernel_rfl) (fun _ _ _ h => h) (Or.inr ⟨by rfl, rfl⟩) (by assumption) ?_
        simp only [List.getElem_toArray, List.getElem_cons_succ, List.getElem_cons_zero, Act.put, List.setIfInBounds_toArray, List.set_cons_zero, List.set_cons_succ]
        refine wpAnyH_take (i := 13) (v := undef) rfl (by kernel_rfl) (by kernel_rfl) (by kernel_rfl) (fun _ _ _ h => h) (Or.inr ⟨by rfl, rfl⟩) (by assumption) ?_
        simp only [List.getElem_toArray, List.getElem_cons_succ, List.getElem_cons_zero, Act.put, List.setIfInBounds_toArray, List.set_cons_zero, List.set_cons_succ]
        refine wpAnyH_take (i := 14) (v := undef) rfl (by kernel_rfl) (by kernel_rfl) (by kernel_rfl) (fun _ _ _ h => h) (Or.inr ⟨by rfl, rfl⟩) (by assumption) ?_
        simp only [List.getElem_toArray, List.getElem_cons_succ, List.getElem_cons_zero, Act.put, List.setIfInBounds_toArray, List.set_cons_zero, List.set_cons_succ]
        refine wpAnyH_take (i := 15) (v := undef) rfl (by kernel_rfl) (by kernel_rfl) (by kernel_rfl) (fun _ _ _ h => h) (Or.inr ⟨by rfl, rfl⟩) (by assumption) ?_
        simp only [List.getElem_toArray, List.getElem_cons_succ, List.getElem_cons_zero, Act.put, List.setIfInBounds_toArray, List.set_cons_zero, List.set_cons_succ]
        refine wpAnyH_take (i := 16) (v := undef) rfl (by kernel_rfl) (by kernel_rfl) (by kernel_rfl) (fun _ _ _ h => h) (Or.inr ⟨by rfl, rfl⟩) (by assumption) ?_
        simp only [List.getElem_toArray, List.getElem_cons_succ, List.getElem_cons_zero, Act.put, List.setIfInBounds_toArray, List.set_cons_zero, List.set_cons_succ]
        refine wpAnyH_take (i := 17) (v := ?v49) rfl (by kernel_rfl) (by kernel_rfl) (by kernel_rfl) (fun _ _ _ h => h) (Or.inl ⟨by rfl, ?y49⟩) (by assumption) ?r49
        case y49 => (intro w hSw; (try dsimp only at hSw); go_simp; try (with_reducible rfl))
        simp only [List.getElem_toArray, List.getElem_cons_succ, List.getElem_cons_zero, Act.put, List.setIfInBounds_toArray, List.set_cons_zero, List.set_cons_succ]
        refine wpAnyH_done (by kernel_rfl) ?_ _
        have BH := hide hHeld.2
        clear hHeld
        go_wp2
        go_roundw
        case rel => exact ⟨k + 1, by omega, by go_num, HN, BH⟩
        case measure => simp [intOf]; omega
    · have hltI : ¬ (k : Int) ≤ (s.size : Int) := by omega
      have HE := hide (bool_noT HBB.out (fun x => by
        obtain ⟨j, h1, h2⟩ := x
        rw [bts_lenM] at h1
        exact HJ.out j (by omega) h2))
      go_wp2
      go_ret
      exact ⟨by rw [HE.out]; rfl, HB.out⟩
open Classical in
set_option maxRecDepth 100000 in
set_option maxHeartbeats 8000000 in
theorem m_many (a : Sh) (IA : MC a) (g : Nat) (pa pb : Option Addr) : ∀ (m : Nat) (s : ByteArray) (w : World) (bb : Bool), s.size ≤ m → s.size ≤ 12 → (AtF w g 7 ByteArray.empty pa pb ∧ Tr w AnyM pa a) → (bb = true ↔ Mt (.many a) (bts s 0)) → Calls Try.prog 87 #[.pointer (some ⟨g, 0, none⟩), .string s] w fun e w' => e = .returned (.bool bb) ∧ Below w.heap.size w w' := by
  intro m
  induction m using Nat.strongRecOn with
  | ind m ih =>
  intro s w bb hsm hs ht hb
  obtain ⟨hf, ta⟩ := ht
  have c0 := hf.k
  have c2 := hf.a
  have c3 := hf.b
  have TA := hide ta
  have TX := hide (And.intro hf ta)
  by_cases h0 : s.toList = []
  · obtain rfl : bb = true := hb.2 (by rw [ba_nil.1 h0]; exact Star.nil)
    clear hf hb ta ih IA
    go_enter Try.func87, Try.ntmps87
    go_wp2
    go_ret
    exact ⟨rfl, Below.refl _ _⟩
  have hs1 : 1 ≤ s.size := by
    by_cases h : s.size = 0
    · exact absurd (by
        have e : s = ByteArray.empty := by
          apply ByteArray.ext
          apply Array.toList_inj.1
          exact List.eq_nil_of_length_eq_zero (by simpa using h)
        rw [e]; exact ba_nil.2 rfl) h0
    · omega
  have HBB := hide (hb.trans (mt_many a _ (ne_nilM hs1)))
  have h0b : s.toList.isEmpty = false := by simpa using h0
  have h0c : (s.toList == []) = false := by simpa using h0
  clear hf hb ta h0
  go_enter Try.func87, Try.ntmps87
  go_wp2
  go_loopw [6] (fun i wr => ∃ k : Nat, 1 ≤ k ∧ k ≤ s.size + 1 ∧ i = .int .i64 k ∧ Hid (∀ j, 1 ≤ j → j < k → ¬ (Mt a ((bts s 0).take j) ∧ Mt (.many a) ((bts s 0).drop j))) ∧ Hid (Below w.heap.size w wr)) (fun i _ => s.size + 1 - (intOf i).toNat)
  case atStart => exact ⟨1, by omega, by omega, rfl, fun j h1 h2 => by omega, Below.refl _ _⟩
  case round =>
    obtain ⟨k, hk1, hk, rfl, HJ, HB⟩ := hrel
    by_cases hlt : k ≤ s.size
    · have hltI : (k : Int) ≤ (s.size : Int) := by omega
      have hk0 : (0 : Int) ≤ (k : Int) := by omega
      have d2 := (HB.out.cell (p := ⟨g, 2, none⟩) (blk_lt c2)).trans c2
      have d3 := (HB.out.cell (p := ⟨g, 3, none⟩) (blk_lt c3)).trans c3
      have hsl1 := fun w => slice_to w s k hlt
      have hsl2 := fun w => slice_from w s k hlt
      have HT := hide (bts_to s k hlt)
      have HF := hide (bts_from s k hlt)
      by_cases hA : Mt a ((bts s 0).take k)
      · have CA := hide (fun w t => IA (s.extract 0 k) pa w true (by rw [ByteArray.size_extract]; omega) t (iff_of_true rfl (by rw [HT.out]; exact hA)))
        by_cases hB : Mt (.many a) ((bts s 0).drop k)
        · have CB := hide (fun w t => ih (s.size - k) (by omega) (s.extract k s.size) w true (by rw [ByteArray.size_extract]; omega) (by rw [ByteArray.size_extract]; omega) t (iff_of_true rfl (by rw [HF.out]; exact hB)))
          have HE := hide (HBB.out.2 ⟨k, hk1, by rw [bts_lenM]; exact hlt, hA, hB⟩)
          clear hA hB
          go_wp2
          refine wp_region_held_drew (S := (fun wx : World => (wx.cell? ⟨g, 2, none⟩ = some (.pointer pa) ∧ wx.cell? ⟨g, 3, none⟩ = some (.pointer pb)) ∧ Below w.heap.size w wx)) (by kernel_rfl) ⟨⟨d2, d3⟩, HB.out.drew⟩ (fun hHeld => ?_)
          refine wpAnyH_take (i := 0) (v := ?v1) rfl (by kernel_rfl) (by kernel_rfl) (by kernel_rfl) (fun _ _ _ h => h) (Or.inl ⟨by rfl, ?y1⟩) (by assumption) ?r1
          case y1 => (intro w hSw; (try dsimp only at hSw); go_simp; try (with_reducible rfl))
          simp only [List.getElem_toArray, List.getElem_cons_zero, Act.put, List.setIfInBounds_toArray, List.set_cons_zero, List.set_cons_succ]
          refine wpAnyH_take (i := 4) (v := ?v2) rfl (by kernel_rfl) (by kernel_rfl) (by kernel_rfl) (fun _ _ _ h => h) (Or.inl ⟨by rfl, ?y2⟩) (by assumption) ?r2
          case y2 => (intro w hSw; (try dsimp only at hSw); go_simp; try (with_reducible rfl))
          simp only [List.getElem_toArray, List.getElem_cons_succ, List.getElem_cons_zero, Act.put, List.setIfInBounds_toArray, List.set_cons_zero, List.set_cons_succ]
          refine wpAnyH_take (i := 5) (v := ?v3) rfl (by kernel_rfl) (by kernel_rfl) (by kernel_rfl) (fun _ _ _ h => h) (Or.inl ⟨by rfl, ?y3⟩) (by assumption) ?r3
          case y3 => (intro w hSw; (try dsimp only at hSw); go_simp; try (with_reducible rfl))
          simp only [List.getElem_toArray, List.getElem_cons_succ, List.getElem_cons_zero, Act.put, List.setIfInBounds_toArray, List.set_cons_zero, List.set_cons_succ]
          refine wpAnyH_take (i := 1) (v := ?v4) rfl (by kernel_rfl) (by kernel_rfl) (by kernel_rfl) (fun _ _ _ h => h) (Or.inl ⟨by rfl, ?y4⟩) (by assumption) ?r4
          case y4 => (intro w hSw; (try dsimp only at hSw); go_simp; try (with_reducible rfl))
          simp only [List.getElem_toArray, List.getElem_cons_succ, List.getElem_cons_zero, Act.put, List.setIfInBounds_toArray, List.set_cons_zero, List.set_cons_succ]
          refine wpAnyH_take (i := 2) (v := ?v5) rfl (by kernel_rfl) (by kernel_rfl) (by kernel_rfl) (fun _ _ _ h => h) (Or.inl ⟨by rfl, ?y5⟩) (by assumption) ?r5
          case y5 => (intro w hSw; (try dsimp only at hSw); go_simp; try (with_reducible rfl))
          simp only [List.getElem_toArray, List.getElem_cons_succ, List.getElem_cons_zero, Act.put, List.setIfInBounds_toArray, List.set_cons_zero, List.set_cons_succ]
          refine wpAnyH_take (i := 6) (v := .string (s.extract 0 k)) rfl (by kernel_rfl) (by kernel_rfl) (by kernel_rfl) (fun _ _ _ h => h) (Or.inl ⟨by rfl, ?y6⟩) (by assumption) ?r6
          case y6 => (intro w hSw; obtain ⟨⟨hq0, hq1⟩, hq2⟩ := hSw; go_simp; try (with_reducible rfl))
          simp only [List.getElem_toArray, List.getElem_cons_succ, List.getElem_cons_zero, Act.put, List.setIfInBounds_toArray, List.set_cons_zero, List.set_cons_succ]
          refine wpAnyH_take (i := 3) (v := .pointer pa) rfl (by kernel_rfl) (by kernel_rfl) (by kernel_rfl) (fun _ _ _ h => h) (Or.inl ⟨by rfl, ?y7⟩) (by assumption) ?r7
          case y7 => (intro w hSw; obtain ⟨⟨hq0, hq1⟩, hq2⟩ := hSw; go_simp; try (with_reducible rfl))
          simp only [List.getElem_toArray, List.getElem_cons_succ, List.getElem_cons_zero, Act.put, List.setIfInBounds_toArray, List.set_cons_zero, List.set_cons_succ]
          refine wpAnyH_ready (rs := [7]) (by kernel_rfl) (by simp) ?_
          refine AllReadyH.cons rfl (fun K hK => ?_) AllReadyH.nil
          simp only [List.getElem_toArray, List.getElem_cons_succ, List.getElem_cons_zero]
          go_simp
          go_at_call 87
          refine (CA.out _ (TA.out.below hHeld.2)).mono ?_
          rintro e w1 ⟨rfl, hb⟩
          have hS3 : (fun wx : World => (wx.cell? ⟨g, 2, none⟩ = some (.pointer pa) ∧ wx.cell? ⟨g, 3, none⟩ = some (.pointer pb)) ∧ Below w.heap.size w wx) w1 := ⟨⟨(hb.cell (p := ⟨g, 2, none⟩) (blk_lt hHeld.1.1)).trans hHeld.1.1, (hb.cell (p := ⟨g, 3, none⟩) (blk_lt hHeld.1.2)).trans hHeld.1.2⟩, hHeld.2.trans (hb.mono hHeld.2.size)⟩
          clear hb
          dsimp only
          refine hK.out _ _ hS3 (fun hHeld => ?_)
          clear hK K
          try simp only [Act.put, List.setIfInBounds_toArray, List.set_cons_zero, List.set_cons_succ]
          refine wpAnyH_take (i := 8) (v := ?v8) rfl (by kernel_rfl) (by kernel_rfl) (by kernel_rfl) (fun _ _ _ h => h) (Or.inl ⟨by rfl, ?y8⟩) (by assumption) ?r8
          case y8 => (intro w hSw; (try dsimp only at hSw); go_simp; try (with_reducible rfl))
          simp only [List.getElem_toArray, List.getElem_cons_succ, List.getElem_cons_zero, Act.put, List.setIfInBounds_toArray, List.set_cons_zero, List.set_cons_succ]
          refine wpAnyH_take (i := 9) (v := ?v9) rfl (by kernel_rfl) (by kernel_rfl) (by kernel_rfl) (fun _ _ _ h => h) (Or.inl ⟨by rfl, ?y9⟩) (by assumption) ?r9
          case y9 => (intro w hSw; (try dsimp only at hSw); go_simp; try (with_reducible rfl))
          simp only [List.getElem_toArray, List.getElem_cons_succ, List.getElem_cons_zero, Act.put, List.setIfInBounds_toArray, List.set_cons_zero, List.set_cons_succ]
          refine wpAnyH_take (i := 10) (v := ?v10) rfl (by kernel_rfl) (by kernel_rfl) (by kernel_rfl) (fun _ _ _ h => h) (Or.inl ⟨by rfl, ?y10⟩) (by assumption) ?r10
          case y10 => (intro w hSw; (try dsimp only at hSw); go_simp; try (with_reducible rfl))
          simp only [List.getElem_toArray, List.getElem_cons_succ, List.getElem_cons_zero, Act.put, List.setIfInBounds_toArray, List.set_cons_zero, List.set_cons_succ]
          refine wpAnyH_take (i := 11) (v := ?v11) rfl (by kernel_rfl) (by kernel_rfl) (by kernel_rfl) (fun _ _ _ h => h) (Or.inl ⟨by rfl, ?y11⟩) (by assumption) ?r11
          case y11 => (intro w hSw; (try dsimp only at hSw); go_simp; try (with_reducible rfl))
          simp only [List.getElem_toArray, List.getElem_cons_succ, List.getElem_cons_zero, Act.put, List.setIfInBounds_toArray, List.set_cons_zero, List.set_cons_succ]
          refine wpAnyH_take (i := 12) (v := .string (s.extract k s.size)) rfl (by kernel_rfl) (by kernel_rfl) (by kernel_rfl) (fun _ _ _ h => h) (Or.inl ⟨by rfl, ?y12⟩) (by assumption) ?r12
          case y12 => (intro w hSw; obtain ⟨⟨hq0, hq1⟩, hq2⟩ := hSw; go_simp; try (with_reducible rfl))
          simp only [List.getElem_toArray, List.getElem_cons_succ, List.getElem_cons_zero, Act.put, List.setIfInBounds_toArray, List.set_cons_zero, List.set_cons_succ]
          refine wpAnyH_ready (rs := [13]) (by kernel_rfl) (by simp) ?_
          refine AllReadyH.cons rfl (fun K hK => ?_) AllReadyH.nil
          simp only [List.getElem_toArray, List.getElem_cons_succ, List.getElem_cons_zero]
          go_simp
          go_at_call 87
          refine (CB.out _ (andBelow TX.out hHeld.2)).mono ?_
          rintro e w2 ⟨rfl, hb⟩
          have hS3 : (fun wx : World => (wx.cell? ⟨g, 2, none⟩ = some (.pointer pa) ∧ wx.cell? ⟨g, 3, none⟩ = some (.pointer pb)) ∧ Below w.heap.size w wx) w2 := ⟨⟨(hb.cell (p := ⟨g, 2, none⟩) (blk_lt hHeld.1.1)).trans hHeld.1.1, (hb.cell (p := ⟨g, 3, none⟩) (blk_lt hHeld.1.2)).trans hHeld.1.2⟩, hHeld.2.trans (hb.mono hHeld.2.size)⟩
          clear hb
          dsimp only
          refine hK.out _ _ hS3 (fun hHeld => ?_)
          clear hK K
          try simp only [Act.put, List.setIfInBounds_toArray, List.set_cons_zero, List.set_cons_succ]
          refine wpAnyH_take (i := 14) (v := ?v13) rfl (by kernel_rfl) (by kernel_rfl) (by kernel_rfl) (fun _ _ _ h => h) (Or.inl ⟨by rfl, ?y13⟩) (by assumption) ?r13
          case y13 => (intro w hSw; (try dsimp only at hSw); go_simp; try (with_reducible rfl))
          simp only [List.getElem_toArray, List.getElem_cons_succ, List.getElem_cons_zero, Act.put, List.setIfInBounds_toArray, List.set_cons_zero, List.set_cons_succ]
          refine wpAnyH_done (by kernel_rfl) ?_ _
          have BH := hide hHeld.2
          clear hHeld
          go_wp2
          go_ret
          exact ⟨by rw [HE.out]; rfl, BH.out⟩
        · have CB := hide (fun w t => ih (s.size - k) (by omega) (s.extract k s.size) w false (by rw [ByteArray.size_extract]; omega) (by rw [ByteArray.size_extract]; omega) t (iff_of_false (by simp) (by rw [HF.out]; exact hB)))
          have HN : Hid (∀ j, 1 ≤ j → j < k + 1 → ¬ (Mt a ((bts s 0).take j) ∧ Mt (.many a) ((bts s 0).drop j))) := hide (by
            intro j hj1 hj
            by_cases e : j = k
            · subst e; exact fun x => hB x.2
            · exact HJ.out j hj1 (by omega))
          clear hA hB
          go_wp2
          refine wp_region_held_drew (S := (fun wx : World => (wx.cell? ⟨g, 2, none⟩ = some (.pointer pa) ∧ wx.cell? ⟨g, 3, none⟩ = some (.pointer pb)) ∧ Below w.heap.size w wx)) (by kernel_rfl) ⟨⟨d2, d3⟩, HB.out.drew⟩ (fun hHeld => ?_)
          refine wpAnyH_take (i := 0) (v := ?v14) rfl (by kernel_rfl) (by kernel_rfl) (by kernel_rfl) (fun _ _ _ h => h) (Or.inl ⟨by rfl, ?y14⟩) (by assumption) ?r14
          case y14 => (intro w hSw; (try dsimp only at hSw); go_simp; try (with_reducible rfl))
          simp only [List.getElem_toArray, List.getElem_cons_zero, Act.put, List.setIfInBounds_toArray, List.set_cons_zero, List.set_cons_succ]
          refine wpAnyH_take (i := 4) (v := ?v15) rfl (by kernel_rfl) (by kernel_rfl) (by kernel_rfl) (fun _ _ _ h => h) (Or.inl ⟨by rfl, ?y15⟩) (by assumption) ?r15
          case y15 => (intro w hSw; (try dsimp only at hSw); go_simp; try (with_reducible rfl))
          simp only [List.getElem_toArray, List.getElem_cons_succ, List.getElem_cons_zero, Act.put, List.setIfInBounds_toArray, List.set_cons_zero, List.set_cons_succ]
          refine wpAnyH_take (i := 5) (v := ?v16) rfl (by kernel_rfl) (by kernel_rfl) (by kernel_rfl) (fun _ _ _ h => h) (Or.inl ⟨by rfl, ?y16⟩) (by assumption) ?r16
          case y16 => (intro w hSw; (try dsimp only at hSw); go_simp; try (with_reducible rfl))
          simp only [List.getElem_toArray, List.getElem_cons_succ, List.getElem_cons_zero, Act.put, List.setIfInBounds_toArray, List.set_cons_zero, List.set_cons_succ]
          refine wpAnyH_take (i := 1) (v := ?v17) rfl (by kernel_rfl) (by kernel_rfl) (by kernel_rfl) (fun _ _ _ h => h) (Or.inl ⟨by rfl, ?y17⟩) (by assumption) ?r17
          case y17 => (intro w hSw; (try dsimp only at hSw); go_simp; try (with_reducible rfl))
          simp only [List.getElem_toArray, List.getElem_cons_succ, List.getElem_cons_zero, Act.put, List.setIfInBounds_toArray, List.set_cons_zero, List.set_cons_succ]
          refine wpAnyH_take (i := 2) (v := ?v18) rfl (by kernel_rfl) (by kernel_rfl) (by kernel_rfl) (fun _ _ _ h => h) (Or.inl ⟨by rfl, ?y18⟩) (by assumption) ?r18
          case y18 => (intro w hSw; (try dsimp only at hSw); go_simp; try (with_reducible rfl))
          simp only [List.getElem_toArray, List.getElem_cons_succ, List.getElem_cons_zero, Act.put, List.setIfInBounds_toArray, List.set_cons_zero, List.set_cons_succ]
          refine wpAnyH_take (i := 6) (v := .string (s.extract 0 k)) rfl (by kernel_rfl) (by kernel_rfl) (by kernel_rfl) (fun _ _ _ h => h) (Or.inl ⟨by rfl, ?y19⟩) (by assumption) ?r19
          case y19 => (intro w hSw; obtain ⟨⟨hq0, hq1⟩, hq2⟩ := hSw; go_simp; try (with_reducible rfl))
          simp only [List.getElem_toArray, List.getElem_cons_succ, List.getElem_cons_zero, Act.put, List.setIfInBounds_toArray, List.set_cons_zero, List.set_cons_succ]
          refine wpAnyH_take (i := 3) (v := .pointer pa) rfl (by kernel_rfl) (by kernel_rfl) (by kernel_rfl) (fun _ _ _ h => h) (Or.inl ⟨by rfl, ?y20⟩) (by assumption) ?r20
          case y20 => (intro w hSw; obtain ⟨⟨hq0, hq1⟩, hq2⟩ := hSw; go_simp; try (with_reducible rfl))
          simp only [List.getElem_toArray, List.getElem_cons_succ, List.getElem_cons_zero, Act.put, List.setIfInBounds_toArray, List.set_cons_zero, List.set_cons_succ]
          refine wpAnyH_ready (rs := [7]) (by kernel_rfl) (by simp) ?_
          refine AllReadyH.cons rfl (fun K hK => ?_) AllReadyH.nil
          simp only [List.getElem_toArray, List.getElem_cons_succ, List.getElem_cons_zero]
          go_simp
          go_at_call 87
          refine (CA.out _ (TA.out.below hHeld.2)).mono ?_
          rintro e w1 ⟨rfl, hb⟩
          have hS3 : (fun wx : World => (wx.cell? ⟨g, 2, none⟩ = some (.pointer pa) ∧ wx.cell? ⟨g, 3, none⟩ = some (.pointer pb)) ∧ Below w.heap.size w wx) w1 := ⟨⟨(hb.cell (p := ⟨g, 2, none⟩) (blk_lt hHeld.1.1)).trans hHeld.1.1, (hb.cell (p := ⟨g, 3, none⟩) (blk_lt hHeld.1.2)).trans hHeld.1.2⟩, hHeld.2.trans (hb.mono hHeld.2.size)⟩
          clear hb
          dsimp only
          refine hK.out _ _ hS3 (fun hHeld => ?_)
          clear hK K
          try simp only [Act.put, List.setIfInBounds_toArray, List.set_cons_zero, List.set_cons_succ]
          refine wpAnyH_take (i := 8) (v := ?v21) rfl (by kernel_rfl) (by kernel_rfl) (by kernel_rfl) (fun _ _ _ h => h) (Or.inl ⟨by rfl, ?y21⟩) (by assumption) ?r21
          case y21 => (intro w hSw; (try dsimp only at hSw); go_simp; try (with_reducible rfl))
          simp only [List.getElem_toArray, List.getElem_cons_succ, List.getElem_cons_zero, Act.put, List.setIfInBounds_toArray, List.set_cons_zero, List.set_cons_succ]
          refine wpAnyH_take (i := 9) (v := ?v22) rfl (by kernel_rfl) (by kernel_rfl) (by kernel_rfl) (fun _ _ _ h => h) (Or.inl ⟨by rfl, ?y22⟩) (by assumption) ?r22
          case y22 => (intro w hSw; (try dsimp only at hSw); go_simp; try (with_reducible rfl))
          simp only [List.getElem_toArray, List.getElem_cons_succ, List.getElem_cons_zero, Act.put, List.setIfInBounds_toArray, List.set_cons_zero, List.set_cons_succ]
          refine wpAnyH_take (i := 10) (v := ?v23) rfl (by kernel_rfl) (by kernel_rfl) (by kernel_rfl) (fun _ _ _ h => h) (Or.inl ⟨by rfl, ?y23⟩) (by assumption) ?r23
          case y23 => (intro w hSw; (try dsimp only at hSw); go_simp; try (with_reducible rfl))
          simp only [List.getElem_toArray, List.getElem_cons_succ, List.getElem_cons_zero, Act.put, List.setIfInBounds_toArray, List.set_cons_zero, List.set_cons_succ]
          refine wpAnyH_take (i := 11) (v := ?v24) rfl (by kernel_rfl) (by kernel_rfl) (by kernel_rfl) (fun _ _ _ h => h) (Or.inl ⟨by rfl, ?y24⟩) (by assumption) ?r24
          case y24 => (intro w hSw; (try dsimp only at hSw); go_simp; try (with_reducible rfl))
          simp only [List.getElem_toArray, List.getElem_cons_succ, List.getElem_cons_zero, Act.put, List.setIfInBounds_toArray, List.set_cons_zero, List.set_cons_succ]
          refine wpAnyH_take (i := 12) (v := .string (s.extract k s.size)) rfl (by kernel_rfl) (by kernel_rfl) (by kernel_rfl) (fun _ _ _ h => h) (Or.inl ⟨by rfl, ?y25⟩) (by assumption) ?r25
          case y25 => (intro w hSw; obtain ⟨⟨hq0, hq1⟩, hq2⟩ := hSw; go_simp; try (with_reducible rfl))
          simp only [List.getElem_toArray, List.getElem_cons_succ, List.getElem_cons_zero, Act.put, List.setIfInBounds_toArray, List.set_cons_zero, List.set_cons_succ]
          refine wpAnyH_ready (rs := [13]) (by kernel_rfl) (by simp) ?_
          refine AllReadyH.cons rfl (fun K hK => ?_) AllReadyH.nil
          simp only [List.getElem_toArray, List.getElem_cons_succ, List.getElem_cons_zero]
          go_simp
          go_at_call 87
          refine (CB.out _ (andBelow TX.out hHeld.2)).mono ?_
          rintro e w2 ⟨rfl, hb⟩
          have hS3 : (fun wx : World => (wx.cell? ⟨g, 2, none⟩ = some (.pointer pa) ∧ wx.cell? ⟨g, 3, none⟩ = some (.pointer pb)) ∧ Below w.heap.size w wx) w2 := ⟨⟨(hb.cell (p := ⟨g, 2, none⟩) (blk_lt hHeld.1.1)).trans hHeld.1.1, (hb.cell (p := ⟨g, 3, none⟩) (blk_lt hHeld.1.2)).trans hHeld.1.2⟩, hHeld.2.trans (hb.mono hHeld.2.size)⟩
          clear hb
          dsimp only
          refine hK.out _ _ hS3 (fun hHeld => ?_)
          clear hK K
          try simp only [Act.put, List.setIfInBounds_toArray, List.set_cons_zero, List.set_cons_succ]
          refine wpAnyH_take (i := 14) (v := ?v26) rfl (by kernel_rfl) (by kernel_rfl) (by kernel_rfl) (fun _ _ _ h => h) (Or.inl ⟨by rfl, ?y26⟩) (by assumption) ?r26
          case y26 => (intro w hSw; (try dsimp only at hSw); go_simp; try (with_reducible rfl))
          simp only [List.getElem_toArray, List.getElem_cons_succ, List.getElem_cons_zero, Act.put, List.setIfInBounds_toArray, List.set_cons_zero, List.set_cons_succ]
          refine wpAnyH_done (by kernel_rfl) ?_ _
          have BH := hide hHeld.2
          clear hHeld
          go_wp2
          go_roundw
          case rel => exact ⟨k + 1, by omega, by omega, by go_num, HN, BH⟩
          case measure => simp [intOf]; omega
      · have CA := hide (fun w t => IA (s.extract 0 k) pa w false (by rw [ByteArray.size_extract]; omega) t (iff_of_false (by simp) (by rw [HT.out]; exact hA)))
        have HN : Hid (∀ j, 1 ≤ j → j < k + 1 → ¬ (Mt a ((bts s 0).take j) ∧ Mt (.many a) ((bts s 0).drop j))) := hide (by
          intro j hj1 hj
          by_cases e : j = k
          · subst e; exact fun x => hA x.1
          · exact HJ.out j hj1 (by omega))
        clear hA
        go_wp2
        refine wp_region_held_drew (S := (fun wx : World => (wx.cell? ⟨g, 2, none⟩ = some (.pointer pa) ∧ wx.cell? ⟨g, 3, none⟩ = some (.pointer pb)) ∧ Below w.heap.size w wx)) (by kernel_rfl) ⟨⟨d2, d3⟩, HB.out.drew⟩ (fun hHeld => ?_)
        refine wpAnyH_take (i := 0) (v := ?v27) rfl (by kernel_rfl) (by kernel_rfl) (by kernel_rfl) (fun _ _ _ h => h) (Or.inl ⟨by rfl, ?y27⟩) (by assumption) ?r27
        case y27 => (intro w hSw; (try dsimp only at hSw); go_simp; try (with_reducible rfl))
        simp only [List.getElem_toArray, List.getElem_cons_zero, Act.put, List.setIfInBounds_toArray, List.set_cons_zero, List.set_cons_succ]
        refine wpAnyH_take (i := 4) (v := ?v28) rfl (by kernel_rfl) (by kernel_rfl) (by kernel_rfl) (fun _ _ _ h => h) (Or.inl ⟨by rfl, ?y28⟩) (by assumption) ?r28
        case y28 => (intro w hSw; (try dsimp only at hSw); go_simp; try (with_reducible rfl))
        simp only [List.getElem_toArray, List.getElem_cons_succ, List.getElem_cons_zero, Act.put, List.setIfInBounds_toArray, List.set_cons_zero, List.set_cons_succ]
        refine wpAnyH_take (i := 5) (v := ?v29) rfl (by kernel_rfl) (by kernel_rfl) (by kernel_rfl) (fun _ _ _ h => h) (Or.inl ⟨by rfl, ?y29⟩) (by assumption) ?r29
        case y29 => (intro w hSw; (try dsimp only at hSw); go_simp; try (with_reducible rfl))
        simp only [List.getElem_toArray, List.getElem_cons_succ, List.getElem_cons_zero, Act.put, List.setIfInBounds_toArray, List.set_cons_zero, List.set_cons_succ]
        refine wpAnyH_take (i := 1) (v := ?v30) rfl (by kernel_rfl) (by kernel_rfl) (by kernel_rfl) (fun _ _ _ h => h) (Or.inl ⟨by rfl, ?y30⟩) (by assumption) ?r30
        case y30 => (intro w hSw; (try dsimp only at hSw); go_simp; try (with_reducible rfl))
        simp only [List.getElem_toArray, List.getElem_cons_succ, List.getElem_cons_zero, Act.put, List.setIfInBounds_toArray, List.set_cons_zero, List.set_cons_succ]
        refine wpAnyH_take (i := 2) (v := ?v31) rfl (by kernel_rfl) (by kernel_rfl) (by kernel_rfl) (fun _ _ _ h => h) (Or.inl ⟨by rfl, ?y31⟩) (by assumption) ?r31
        case y31 => (intro w hSw; (try dsimp only at hSw); go_simp; try (with_reducible rfl))
        simp only [List.getElem_toArray, List.getElem_cons_succ, List.getElem_cons_zero, Act.put, List.setIfInBounds_toArray, List.set_cons_zero, List.set_cons_succ]
        refine wpAnyH_take (i := 6) (v := .string (s.extract 0 k)) rfl (by kernel_rfl) (by kernel_rfl) (by kernel_rfl) (fun _ _ _ h => h) (Or.inl ⟨by rfl, ?y32⟩) (by assumption) ?r32
        case y32 => (intro w hSw; obtain ⟨⟨hq0, hq1⟩, hq2⟩ := hSw; go_simp; try (with_reducible rfl))
        simp only [List.getElem_toArray, List.getElem_cons_succ, List.getElem_cons_zero, Act.put, List.setIfInBounds_toArray, List.set_cons_zero, List.set_cons_succ]
        refine wpAnyH_take (i := 3) (v := .pointer pa) rfl (by kernel_rfl) (by kernel_rfl) (by kernel_rfl) (fun _ _ _ h => h) (Or.inl ⟨by rfl, ?y33⟩) (by assumption) ?r33
        case y33 => (intro w hSw; obtain ⟨⟨hq0, hq1⟩, hq2⟩ := hSw; go_simp; try (with_reducible rfl))
        simp only [List.getElem_toArray, List.getElem_cons_succ, List.getElem_cons_zero, Act.put, List.setIfInBounds_toArray, List.set_cons_zero, List.set_cons_succ]
        refine wpAnyH_ready (rs := [7]) (by kernel_rfl) (by simp) ?_
        refine AllReadyH.cons rfl (fun K hK => ?_) AllReadyH.nil
        simp only [List.getElem_toArray, List.getElem_cons_succ, List.getElem_cons_zero]
        go_simp
        go_at_call 87
        refine (CA.out _ (TA.out.below hHeld.2)).mono ?_
        rintro e w1 ⟨rfl, hb⟩
        have hS3 : (fun wx : World => (wx.cell? ⟨g, 2, none⟩ = some (.pointer pa) ∧ wx.cell? ⟨g, 3, none⟩ = some (.pointer pb)) ∧ Below w.heap.size w wx) w1 := ⟨⟨(hb.cell (p := ⟨g, 2, none⟩) (blk_lt hHeld.1.1)).trans hHeld.1.1, (hb.cell (p := ⟨g, 3, none⟩) (blk_lt hHeld.1.2)).trans hHeld.1.2⟩, hHeld.2.trans (hb.mono hHeld.2.size)⟩
        clear hb
        dsimp only
        refine hK.out _ _ hS3 (fun hHeld => ?_)
        clear hK K
        try simp only [Act.put, List.setIfInBounds_toArray, List.set_cons_zero, List.set_cons_succ]
        refine wpAnyH_take (i := 8) (v := ?v34) rfl (by kernel_rfl) (by kernel_rfl) (by kernel_rfl) (fun _ _ _ h => h) (Or.inl ⟨by rfl, ?y34⟩) (by assumption) ?r34
        case y34 => (intro w hSw; (try dsimp only at hSw); go_simp; try (with_reducible rfl))
        simp only [List.getElem_toArray, List.getElem_cons_succ, List.getElem_cons_zero, Act.put, List.setIfInBounds_toArray, List.set_cons_zero, List.set_cons_succ]
        refine wpAnyH_take (i := 9) (v := undef) rfl (by kernel_rfl) (by kernel_rfl) (by kernel_rfl) (fun _ _ _ h => h) (Or.inr ⟨by rfl, rfl⟩) (by assumption) ?_
        simp only [List.getElem_toArray, List.getElem_cons_succ, List.getElem_cons_zero, Act.put, List.setIfInBounds_toArray, List.set_cons_zero, List.set_cons_succ]
        refine wpAnyH_take (i := 10) (v := undef) rfl (by kernel_rfl) (by kernel_rfl) (by kernel_rfl) (fun _ _ _ h => h) (Or.inr ⟨by rfl, rfl⟩) (by assumption) ?_
        simp only [List.getElem_toArray, List.getElem_cons_succ, List.getElem_cons_zero, Act.put, List.setIfInBounds_toArray, List.set_cons_zero, List.set_cons_succ]
        refine wpAnyH_take (i := 11) (v := undef) rfl (by kernel_rfl) (by kernel_rfl) (by kernel_rfl) (fun _ _ _ h => h) (Or.inr ⟨by rfl, rfl⟩) (by assumption) ?_
        simp only [List.getElem_toArray, List.getElem_cons_succ, List.getElem_cons_zero, Act.put, List.setIfInBounds_toArray, List.set_cons_zero, List.set_cons_succ]
        refine wpAnyH_take (i := 12) (v := undef) rfl (by kernel_rfl) (by kernel_rfl) (by kernel_rfl) (fun _ _ _ h => h) (Or.inr ⟨by rfl, rfl⟩) (by assumption) ?_
        simp only [List.getElem_toArray, List.getElem_cons_succ, List.getElem_cons_zero, Act.put, List.setIfInBounds_toArray, List.set_cons_zero, List.set_cons_succ]
        refine wpAnyH_take (i := 13) (v := undef) rfl (by kernel_rfl) (by kernel_rfl) (by kernel_rfl) (fun _ _ _ h => h) (Or.inr ⟨by rfl, rfl⟩) (by assumption) ?_
        simp only [List.getElem_toArray, List.getElem_cons_succ, List.getElem_cons_zero, Act.put, List.setIfInBounds_toArray, List.set_cons_zero, List.set_cons_succ]
        refine wpAnyH_take (i := 14) (v := ?v40) rfl (by kernel_rfl) (by kernel_rfl) (by kernel_rfl) (fun _ _ _ h => h) (Or.inl ⟨by rfl, ?y40⟩) (by assumption) ?r40
        case y40 => (intro w hSw; (try dsimp only at hSw); go_simp; try (with_reducible rfl))
        simp only [List.getElem_toArray, List.getElem_cons_succ, List.getElem_cons_zero, Act.put, List.setIfInBounds_toArray, List.set_cons_zero, List.set_cons_succ]
        refine wpAnyH_done (by kernel_rfl) ?_ _
        have BH := hide hHeld.2
        clear hHeld
        go_wp2
        go_roundw
        case rel => exact ⟨k + 1, by omega, by omega, by go_num, HN, BH⟩
        case measure => simp [intOf]; omega
    · have hltI : ¬ (k : Int) ≤ (s.size : Int) := by omega
      have HE := hide (bool_noT HBB.out (fun x => by
        obtain ⟨j, h0, h1, h2⟩ := x
        rw [bts_lenM] at h1
        exact HJ.out j h0 (by omega) h2))
      go_wp2
      go_ret
      exact ⟨by rw [HE.out]; rfl, HB.out⟩
theorem l5Match_any : ∀ x, okS x → MC x
  | .none, _ => m_none
  | .empty, _ => m_empty
  | .letter c, h => m_letter c h
  | .any, _ => m_any
  | .seq a b, h => m_seq a b (l5Match_any a h.1) (l5Match_any b h.2)
  | .alt a b, h => m_alt a b (l5Match_any a h.1) (l5Match_any b h.2)
  | .many a, h => by
    rintro s p w bb hs ⟨g, pa, pb, rfl, _, hf, ta⟩ hb
    exact m_many a (l5Match_any a h) g pa pb s.size s w bb (Nat.le_refl _) hs ⟨hf, ta⟩ hb
  | .inv a, h => m_inv a (l5Match_any a h)
set_option maxRecDepth 100000 in
set_option maxHeartbeats 2000000 in
theorem specFitsForm_any (a : Option Addr) (l : List Pr) (n cap : Nat) (s : ByteArray) (w : World) (hn : l.length = n) (hs : SlP w a l) (hn2 : n ≤ 1048576) (hst : TxP l) (hsz : s.size ≤ 9223372036854775807) (b1 b2 : Bool) (h2 : b2 = true ↔ GoodF l ∧ s.size ≤ 12 ∧ Let s) (h1 : b1 = true ↔ b2 = true ∧ Mt (whole l) (bts s 0)) :
    Calls Try.prog 34 #[.slice a n cap, .string s] w fun e w' => e = .returned (.tuple #[.bool b1, .bool b2]) ∧ Below w.heap.size w w' := by
  by_cases hg : GoodF l
  · have C1 := hide (specGoodForm_any a l n cap w hn hs hn2 hst true (iff_of_true rfl hg))
    by_cases hl : s.size ≤ 12 ∧ Let s
    · obtain rfl : b2 = true := h2.2 ⟨hg, hl⟩
      have C2 := hide (fun w => l5Word_any s w hsz true (iff_of_true rfl hl))
      have C3 := hide (fun w hs => l5Tree_whole a l n cap w hn hg hs)
      have C4 := hide (fun p w t => l5Match_any (whole l) (okS_whole hg) s p w b1 hl.1 t (h1.trans ⟨fun h => h.2, fun h => ⟨rfl, h⟩⟩))
      have hnI : (1 : Int) ≤ (n : Int) := by have := hg.1; omega
      have HS := hide hs
      clear hn hs hst h2 h1 hg hl
      go_enter Try.func34, Try.ntmps34
      go_wp2_with fail
      refine C1.out.mono ?_
      rintro e w1 ⟨rfl, hb1⟩
      have B1 := hide hb1
      clear hb1
      go_wp2_with fail
      refine (C2.out _).mono ?_
      rintro e w2 ⟨rfl, rfl⟩
      go_wp2_with fail
      refine (C3.out _ (HS.out.below B1.out)).mono ?_
      rintro e w3 ⟨p3, rfl, t3, hb3⟩
      have B3 := hide (B1.out.trans (hb3.mono B1.out.size))
      have T3 : Hid (Tr w3 AnyM p3 (whole l)) := hide (t3.mono (fun _ _ => trivial))
      clear hb3 t3
      go_wp2_with fail
      refine (C4.out _ _ T3.out).mono ?_
      rintro e w4 ⟨rfl, hb4⟩
      have B4 := hide (B3.out.trans (hb4.mono B3.out.size))
      clear hb4
      go_wp2
      go_ret2
      exact ⟨rfl, B4.out⟩
    · obtain rfl : b2 = false := bool_noT h2 (fun h => hl h.2)
      obtain rfl : b1 = false := bool_noT h1 (fun h => by cases h.1)
      have C2 := hide (fun w => l5Word_any s w hsz false (iff_of_false (by simp) hl))
      clear hn hs hst h2 h1 hg hl
      go_enter Try.func34, Try.ntmps34
      go_wp2_with fail
      refine C1.out.mono ?_
      rintro e w1 ⟨rfl, hb1⟩
      have B1 := hide hb1
      clear hb1
      go_wp2_with fail
      refine (C2.out _).mono ?_
      rintro e w2 ⟨rfl, rfl⟩
      go_wp2
      go_ret2
      exact ⟨rfl, B1.out⟩
  · obtain rfl : b2 = false := bool_noT h2 (fun h => hg h.1)
    obtain rfl : b1 = false := bool_noT h1 (fun h => by cases h.1)
    have C1 := hide (specGoodForm_any a l n cap w hn hs hn2 hst false (iff_of_false (by simp) hg))
    clear hn hs hst h2 h1 hg
    go_enter Try.func34, Try.ntmps34
    go_wp2_with fail
    refine C1.out.mono ?_
    rintro e w1 ⟨rfl, hb1⟩
    go_wp2
    go_ret2
    exact ⟨rfl, hb1⟩
end Go.Proofs.Ytapffbbmofhpoab.L5
