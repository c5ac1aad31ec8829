/-
  Forms as shapes: their parts, what is left of them by a letter, what fits them. Nothing of the program's text is proved here.
  Lists of a form's parts in memory.
  What fits a shape; what is left of it by a letter (Brzozowski). Nothing of the program's text is proved here.
  Shapes as the program holds them: interface values, no memory. What becomes of one, what each assertion says of each.
  Contract: impl.hasEmpty: whether the empty text fits a shape.
  Contracts: impl.isLetter, impl.isFitted, spec.l5Letters, impl.isAhead, spec.l5Two, spec.l5One: what a letter and a text of letters is; small tests.
  Trees of the specification's: pointers in memory. Contract: spec.l5Tree: the tree of a good form's part.
  Contracts: impl.textOf, spec.l5Text: the text of a shape.
-/
import Derived.Laws.BytesArg
import Derived.Test.YtapffbbmofhpoabBundle1
import Derived.Deep.RegionHeld3
import Derived.Laws.Runes
namespace Go.Proofs.Ytapffbbmofhpoab.L5
open Go
set_option linter.unusedVariables false

/-- A form as a tree. -/
inductive Sh where
  | none
  | empty
  | letter (c : Int)
  | any
  | seq (a b : Sh)
  | alt (a b : Sh)
  | many (a : Sh)
  | inv (a : Sh)
/-- A part of a form. -/
structure Pr where
  k : Int
  t : ByteArray
  a : Int
  b : Int
def eP : Pr := ⟨0, ByteArray.empty, 0, 0⟩
/-- The text of one letter. -/
def one (c : Int) : ByteArray := strOfNums [c]
/-- The first letter of a text. -/
def ltr (t : ByteArray) : Int := (t.data.toList.map fun c => (c.toNat : Int)).getD 0 0
def kd : Sh → Int
  | .none => 1
  | .empty => 2
  | .letter _ => 3
  | .any => 4
  | .seq _ _ => 5
  | .alt _ _ => 6
  | .many _ => 7
  | .inv _ => 8
def sz : Sh → Nat
  | .seq a b => sz a + sz b + 1
  | .alt a b => sz a + sz b + 1
  | .many a => sz a + 1
  | .inv a => sz a + 1
  | _ => 1
theorem sz_pos : ∀ x, 1 ≤ sz x
  | .none => by simp [sz]
  | .empty => by simp [sz]
  | .letter _ => by simp [sz]
  | .any => by simp [sz]
  | .seq _ _ => by simp [sz]
  | .alt _ _ => by simp [sz]
  | .many _ => by simp [sz]
  | .inv _ => by simp [sz]
/-- All letters are letters. -/
def okS : Sh → Prop
  | .letter c => 97 ≤ c ∧ c ≤ 122
  | .seq a b => okS a ∧ okS b
  | .alt a b => okS a ∧ okS b
  | .many a => okS a
  | .inv a => okS a
  | _ => True
/-- A shape's parts behind others. -/
def flat : Sh → List Pr → List Pr
  | .none, l => l ++ [⟨1, ByteArray.empty, 0, 0⟩]
  | .empty, l => l ++ [⟨2, ByteArray.empty, 0, 0⟩]
  | .letter c, l => l ++ [⟨3, one c, 0, 0⟩]
  | .any, l => l ++ [⟨4, ByteArray.empty, 0, 0⟩]
  | .seq a b, l => flat b (flat a l) ++ [⟨5, ByteArray.empty, ((flat a l).length : Int) - 1, ((flat b (flat a l)).length : Int) - 1⟩]
  | .alt a b, l => flat b (flat a l) ++ [⟨6, ByteArray.empty, ((flat a l).length : Int) - 1, ((flat b (flat a l)).length : Int) - 1⟩]
  | .many a, l => flat a l ++ [⟨7, ByteArray.empty, ((flat a l).length : Int) - 1, 0⟩]
  | .inv a, l => flat a l ++ [⟨8, ByteArray.empty, ((flat a l).length : Int) - 1, 0⟩]
theorem flat_len : ∀ x l, (flat x l).length = l.length + sz x
  | .none, l => by simp [flat, sz]
  | .empty, l => by simp [flat, sz]
  | .letter _, l => by simp [flat, sz]
  | .any, l => by simp [flat, sz]
  | .seq a b, l => by simp [flat, sz, flat_len a, flat_len b]; omega
  | .alt a b, l => by simp [flat, sz, flat_len a, flat_len b]; omega
  | .many a, l => by simp [flat, sz, flat_len a]; omega
  | .inv a, l => by simp [flat, sz, flat_len a]; omega
/-- The shape of a part, those of the parts ahead being told. -/
def shp (p : Pr) (m : List Sh) : Sh :=
  if p.k = 2 then .empty else if p.k = 3 then .letter (ltr p.t) else if p.k = 4 then .any
  else if p.k = 5 then .seq (m.getD p.a.toNat .none) (m.getD p.b.toNat .none)
  else if p.k = 6 then .alt (m.getD p.a.toNat .none) (m.getD p.b.toNat .none)
  else if p.k = 7 then .many (m.getD p.a.toNat .none)
  else if p.k = 8 then .inv (m.getD p.a.toNat .none) else .none
theorem shp_1 {p : Pr} {m : List Sh} (h : p.k = 1) : shp p m = .none := by simp [shp, h]
theorem shp_2 {p : Pr} {m : List Sh} (h : p.k = 2) : shp p m = .empty := by simp [shp, h]
theorem shp_3 {p : Pr} {m : List Sh} (h : p.k = 3) : shp p m = .letter (ltr p.t) := by simp [shp, h]
theorem shp_4 {p : Pr} {m : List Sh} (h : p.k = 4) : shp p m = .any := by simp [shp, h]
theorem shp_5 {p : Pr} {m : List Sh} (h : p.k = 5) : shp p m = .seq (m.getD p.a.toNat .none) (m.getD p.b.toNat .none) := by simp [shp, h]
theorem shp_6 {p : Pr} {m : List Sh} (h : p.k = 6) : shp p m = .alt (m.getD p.a.toNat .none) (m.getD p.b.toNat .none) := by simp [shp, h]
theorem shp_7 {p : Pr} {m : List Sh} (h : p.k = 7) : shp p m = .many (m.getD p.a.toNat .none) := by simp [shp, h]
theorem shp_8 {p : Pr} {m : List Sh} (h : p.k = 8) : shp p m = .inv (m.getD p.a.toNat .none) := by simp [shp, h]
def made (l : List Pr) : List Sh := l.foldl (fun m p => m ++ [shp p m]) []
theorem made_snoc (l : List Pr) (p : Pr) : made (l ++ [p]) = made l ++ [shp p (made l)] := by simp [made]
theorem made_len (l : List Pr) : (made l).length = l.length := by
  suffices ∀ (l : List Pr) (m : List Sh), (l.foldl (fun m p => m ++ [shp p m]) m).length = m.length + l.length by simpa [made] using this l []
  intro l
  induction l with
  | nil => intro m; simp
  | cons p l ih => intro m; rw [List.foldl_cons, ih]; simp; omega
theorem made_pre (l r : List Pr) : ∃ m, made (l ++ r) = made l ++ m := by
  suffices ∀ (r : List Pr) (m : List Sh), ∃ u, r.foldl (fun m p => m ++ [shp p m]) m = m ++ u by
    obtain ⟨u, h⟩ := this r (made l)
    exact ⟨u, by rw [← h]; simp [made]⟩
  intro r
  induction r with
  | nil => intro m; exact ⟨[], by simp⟩
  | cons p r ih =>
    intro m
    obtain ⟨u, h⟩ := ih (m ++ [shp p m])
    exact ⟨shp p m :: u, by rw [List.foldl_cons, h]; simp⟩
/-- The tree of a part. -/
def T (l : List Pr) (i : Nat) : Sh := (made l).getD i .none
theorem getD_pre {α : Type} (m u : List α) (i : Nat) (d : α) (h : i < m.length) : (m ++ u).getD i d = m.getD i d := by
  simp [List.getD, List.getElem?_append, h]
theorem getD_at {α : Type} (m u : List α) (x d : α) (i : Nat) (h : i = m.length) : (m ++ x :: u).getD i d = x := by
  subst h; simp [List.getD]
theorem T_pre (l r : List Pr) (i : Nat) (h : i < l.length) : T (l ++ r) i = T l i := by
  obtain ⟨m, e⟩ := made_pre l r
  unfold T
  rw [e, getD_pre _ _ _ _ (by rw [made_len]; exact h)]
/-- A part is good at its place. -/
def okP (i : Nat) (p : Pr) : Prop :=
  ((p.k = 1 ∨ p.k = 2 ∨ p.k = 4) ∧ p.t = ByteArray.empty ∧ p.a = 0 ∧ p.b = 0) ∨
  (p.k = 3 ∧ (p.t.size = 1 ∧ 97 ≤ ltr p.t ∧ ltr p.t ≤ 122) ∧ p.a = 0 ∧ p.b = 0) ∨
  ((p.k = 5 ∨ p.k = 6) ∧ p.t = ByteArray.empty ∧ (0 ≤ p.a ∧ p.a < (i : Int)) ∧ (0 ≤ p.b ∧ p.b < (i : Int))) ∨
  ((p.k = 7 ∨ p.k = 8) ∧ p.t = ByteArray.empty ∧ (0 ≤ p.a ∧ p.a < (i : Int)) ∧ p.b = 0)
theorem okP_kind {i : Nat} {p : Pr} (h : okP i p) : 1 ≤ p.k ∧ p.k ≤ 8 := by
  rcases h with h | h | h | h <;> omega
/-- How often a part names a number. -/
def nm (p : Pr) (i : Int) : Int := (if (p.k = 5 ∨ p.k = 6) ∧ p.b = i then 1 else 0) + (if (p.k = 5 ∨ p.k = 6 ∨ p.k = 7 ∨ p.k = 8) ∧ p.a = i then 1 else 0)
theorem nm_two {p : Pr} (h : p.k = 5 ∨ p.k = 6) (i : Int) : nm p i = (if p.b = i then 1 else 0) + (if p.a = i then 1 else 0) := by
  rcases h with h | h <;> simp [nm, h]
theorem nm_one {p : Pr} (h : p.k = 7 ∨ p.k = 8) (i : Int) : nm p i = if p.a = i then 1 else 0 := by
  rcases h with h | h <;> simp [nm, h]
theorem nm_no {p : Pr} (h : p.k < 5) (i : Int) : nm p i = 0 := by
  unfold nm; rw [if_neg (by omega), if_neg (by omega)]; rfl
def cnt (l : List Pr) (i : Int) : Int := (l.map fun p => nm p i).sum
theorem cnt_snoc (l : List Pr) (p : Pr) (i : Int) : cnt (l ++ [p]) i = cnt l i + nm p i := by simp [cnt]
theorem nm_range (p : Pr) (i : Int) : 0 ≤ nm p i ∧ nm p i ≤ 2 := by unfold nm; split <;> split <;> omega
theorem cnt_range (l : List Pr) (i : Int) : 0 ≤ cnt l i ∧ cnt l i ≤ 2 * (l.length : Int) := by
  induction l with
  | nil => simp [cnt]
  | cons p l ih =>
    have := nm_range p i
    simp only [cnt, List.map_cons, List.sum_cons, List.length_cons] at ih ⊢
    omega
/-- A form is good. -/
def GoodF (l : List Pr) : Prop := (1 ≤ l.length ∧ l.length ≤ 24) ∧ (∀ j, j < l.length → okP j (l.getD j eP)) ∧ ∀ i : Nat, i + 1 < l.length → cnt l (i : Int) = 1
/-- The tree of the whole. -/
def whole (l : List Pr) : Sh := T l (l.length - 1)
theorem take_snoc (l : List Pr) (i : Nat) (h : i < l.length) : l.take (i + 1) = l.take i ++ [l.getD i eP] := by
  rw [List.take_succ_eq_append_getElem h]
  simp [List.getD, List.getElem?_eq_getElem h]
theorem T_take (l : List Pr) (n i : Nat) (hn : n ≤ l.length) (h : i < n) : T (l.take n) i = T l i := by
  have := T_pre (l.take n) (l.drop n) i (by rw [List.length_take]; omega)
  rw [List.take_append_drop] at this
  exact this.symm
/-- The tree of a part is made of those that it names. -/
theorem T_node (l : List Pr) (i : Nat) (h : i < l.length) (hok : okP i (l.getD i eP)) : T l i = shp (l.getD i eP) (made l) := by
  rw [← T_take l (i + 1) i (by omega) (by omega), take_snoc l i h]
  unfold T
  rw [made_snoc, getD_at _ _ _ _ _ (by rw [made_len, List.length_take]; omega)]
  have e : ∀ a : Int, 0 ≤ a → a < (i : Int) → (made (l.take i)).getD a.toNat .none = (made l).getD a.toNat .none := fun a h0 h1 => T_take l i a.toNat (by omega) (by omega)
  rcases hok with h | h | h | h
  · rcases h.1 with k | k | k
    · rw [shp_1 k, shp_1 k]
    · rw [shp_2 k, shp_2 k]
    · rw [shp_4 k, shp_4 k]
  · rw [shp_3 h.1, shp_3 h.1]
  · obtain ⟨k, _, ha, hb⟩ := h
    rcases k with k | k
    · rw [shp_5 k, shp_5 k, e _ ha.1 ha.2, e _ hb.1 hb.2]
    · rw [shp_6 k, shp_6 k, e _ ha.1 ha.2, e _ hb.1 hb.2]
  · obtain ⟨k, _, ha, hb⟩ := h
    rcases k with k | k
    · rw [shp_7 k, shp_7 k, e _ ha.1 ha.2]
    · rw [shp_8 k, shp_8 k, e _ ha.1 ha.2]
theorem one_size (c : Int) : (one c).size = 1 := by simp [one, strOfNums, ByteArray.size]
theorem ltr_one {c : Int} (h : 97 ≤ c ∧ c ≤ 122) : ltr (one c) = c := by
  simp only [ltr, one, strOfNums, List.map_cons, List.map_nil, List.getD_cons_zero, UInt8.toNat_ofNat']
  omega
theorem one_ltr {t : ByteArray} (h : t.size = 1) : one (ltr t) = t := by
  obtain ⟨⟨l⟩⟩ := t
  match l, h with
  | [c], _ => simp [ltr, one, strOfNums]
/-- The shapes that are made of a shape's parts. -/
theorem made_flat : ∀ (x : Sh) (l : List Pr), okS x → ∃ m, made (flat x l) = made l ++ m ++ [x] ∧ m.length + 1 = sz x
  | .none, l, _ => ⟨[], by simp [flat, made_snoc, shp], rfl⟩
  | .empty, l, _ => ⟨[], by simp [flat, made_snoc, shp], rfl⟩
  | .letter c, l, h => ⟨[], by simp [flat, made_snoc, shp, ltr_one h], rfl⟩
  | .any, l, _ => ⟨[], by simp [flat, made_snoc, shp], rfl⟩
  | .seq a b, l, h => by
    obtain ⟨ma, ea, la⟩ := made_flat a l h.1
    obtain ⟨mb, eb, lb⟩ := made_flat b (flat a l) h.2
    have e1 : (made (flat b (flat a l))).getD (((flat a l).length : Int) - 1).toNat .none = a := by
      rw [eb, ea, List.append_assoc, List.append_assoc, List.singleton_append]
      refine getD_at _ _ _ _ _ ?_
      rw [flat_len, List.length_append, made_len]
      omega
    have e2 : (made (flat b (flat a l))).getD (((flat b (flat a l)).length : Int) - 1).toNat .none = b := by
      rw [eb]
      refine getD_at _ _ _ _ _ ?_
      rw [flat_len, flat_len, List.length_append, made_len, flat_len]
      omega
    refine ⟨ma ++ [a] ++ mb ++ [b], ?_, by simp [sz]; omega⟩
    rw [show flat (.seq a b) l = flat b (flat a l) ++ [⟨5, ByteArray.empty, ((flat a l).length : Int) - 1, ((flat b (flat a l)).length : Int) - 1⟩] from rfl, made_snoc]
    rw [show shp (⟨5, ByteArray.empty, ((flat a l).length : Int) - 1, ((flat b (flat a l)).length : Int) - 1⟩ : Pr) (made (flat b (flat a l))) = .seq a b by rw [shp_5 rfl, e1, e2]]
    rw [eb, ea]
    simp
  | .alt a b, l, h => by
    obtain ⟨ma, ea, la⟩ := made_flat a l h.1
    obtain ⟨mb, eb, lb⟩ := made_flat b (flat a l) h.2
    have e1 : (made (flat b (flat a l))).getD (((flat a l).length : Int) - 1).toNat .none = a := by
      rw [eb, ea, List.append_assoc, List.append_assoc, List.singleton_append]
      refine getD_at _ _ _ _ _ ?_
      rw [flat_len, List.length_append, made_len]
      omega
    have e2 : (made (flat b (flat a l))).getD (((flat b (flat a l)).length : Int) - 1).toNat .none = b := by
      rw [eb]
      refine getD_at _ _ _ _ _ ?_
      rw [flat_len, flat_len, List.length_append, made_len, flat_len]
      omega
    refine ⟨ma ++ [a] ++ mb ++ [b], ?_, by simp [sz]; omega⟩
    rw [show flat (.alt a b) l = flat b (flat a l) ++ [⟨6, ByteArray.empty, ((flat a l).length : Int) - 1, ((flat b (flat a l)).length : Int) - 1⟩] from rfl, made_snoc]
    rw [show shp (⟨6, ByteArray.empty, ((flat a l).length : Int) - 1, ((flat b (flat a l)).length : Int) - 1⟩ : Pr) (made (flat b (flat a l))) = .alt a b by rw [shp_6 rfl, e1, e2]]
    rw [eb, ea]
    simp
  | .many a, l, h => by
    obtain ⟨ma, ea, la⟩ := made_flat a l h
    have e1 : (made (flat a l)).getD (((flat a l).length : Int) - 1).toNat .none = a := by
      rw [ea]
      refine getD_at _ _ _ _ _ ?_
      rw [flat_len, List.length_append, made_len]
      omega
    refine ⟨ma ++ [a], ?_, by simp [sz]; omega⟩
    rw [show flat (.many a) l = flat a l ++ [⟨7, ByteArray.empty, ((flat a l).length : Int) - 1, 0⟩] from rfl, made_snoc]
    rw [show shp (⟨7, ByteArray.empty, ((flat a l).length : Int) - 1, 0⟩ : Pr) (made (flat a l)) = .many a by rw [shp_7 rfl, e1]]
    rw [ea]
    simp
  | .inv a, l, h => by
    obtain ⟨ma, ea, la⟩ := made_flat a l h
    have e1 : (made (flat a l)).getD (((flat a l).length : Int) - 1).toNat .none = a := by
      rw [ea]
      refine getD_at _ _ _ _ _ ?_
      rw [flat_len, List.length_append, made_len]
      omega
    refine ⟨ma ++ [a], ?_, by simp [sz]; omega⟩
    rw [show flat (.inv a) l = flat a l ++ [⟨8, ByteArray.empty, ((flat a l).length : Int) - 1, 0⟩] from rfl, made_snoc]
    rw [show shp (⟨8, ByteArray.empty, ((flat a l).length : Int) - 1, 0⟩ : Pr) (made (flat a l)) = .inv a by rw [shp_8 rfl, e1]]
    rw [ea]
    simp
theorem whole_flat (x : Sh) (h : okS x) : whole (flat x []) = x := by
  obtain ⟨m, e, hl⟩ := made_flat x [] h
  have hm : made ([] : List Pr) = [] := rfl
  unfold whole T
  rw [e, hm]
  refine getD_at _ _ _ _ _ ?_
  rw [flat_len]
  simp
  omega
theorem flat_pre : ∀ (x : Sh) (l : List Pr), ∃ m, flat x l = l ++ m
  | .none, l => ⟨_, rfl⟩
  | .empty, l => ⟨_, rfl⟩
  | .letter c, l => ⟨_, rfl⟩
  | .any, l => ⟨_, rfl⟩
  | .seq a b, l => by
    obtain ⟨ma, ea⟩ := flat_pre a l
    obtain ⟨mb, eb⟩ := flat_pre b (flat a l)
    exact ⟨ma ++ (mb ++ [⟨5, ByteArray.empty, ((flat a l).length : Int) - 1, ((flat b (flat a l)).length : Int) - 1⟩]), by rw [← List.append_assoc, ← ea, ← List.append_assoc, ← eb]; rfl⟩
  | .alt a b, l => by
    obtain ⟨ma, ea⟩ := flat_pre a l
    obtain ⟨mb, eb⟩ := flat_pre b (flat a l)
    exact ⟨ma ++ (mb ++ [⟨6, ByteArray.empty, ((flat a l).length : Int) - 1, ((flat b (flat a l)).length : Int) - 1⟩]), by rw [← List.append_assoc, ← ea, ← List.append_assoc, ← eb]; rfl⟩
  | .many a, l => by
    obtain ⟨ma, ea⟩ := flat_pre a l
    exact ⟨ma ++ [⟨7, ByteArray.empty, ((flat a l).length : Int) - 1, 0⟩], by rw [← List.append_assoc, ← ea]; rfl⟩
  | .inv a, l => by
    obtain ⟨ma, ea⟩ := flat_pre a l
    exact ⟨ma ++ [⟨8, ByteArray.empty, ((flat a l).length : Int) - 1, 0⟩], by rw [← List.append_assoc, ← ea]; rfl⟩
theorem ok_snoc {l : List Pr} {p : Pr} {n : Nat} (h : ∀ j, n ≤ j → j < l.length → okP j (l.getD j eP)) (hp : okP l.length p) : ∀ j, n ≤ j → j < (l ++ [p]).length → okP j ((l ++ [p]).getD j eP) := fun j h1 h2 => by
  by_cases e : j < l.length
  · rw [getD_pre _ _ _ _ e]; exact h j h1 e
  · have e2 : j = l.length := by simp at h2; omega
    rw [getD_at _ _ _ _ _ e2, e2]; exact hp
theorem ok_two {l m : List Pr} {n : Nat} (hn : n ≤ l.length) (h1 : ∀ j, n ≤ j → j < l.length → okP j (l.getD j eP)) (h2 : ∀ j, l.length ≤ j → j < m.length → okP j (m.getD j eP)) (hp : ∃ u, m = l ++ u) : ∀ j, n ≤ j → j < m.length → okP j (m.getD j eP) := fun j h3 h4 => by
  by_cases e : j < l.length
  · obtain ⟨u, rfl⟩ := hp
    rw [getD_pre _ _ _ _ e]; exact h1 j h3 e
  · exact h2 j (by omega) h4
theorem ok_flat : ∀ (x : Sh) (l : List Pr), okS x → ∀ j, l.length ≤ j → j < (flat x l).length → okP j ((flat x l).getD j eP)
  | .none, l, _ => ok_snoc (fun j h1 h2 => by omega) (by simp [okP])
  | .empty, l, _ => ok_snoc (fun j h1 h2 => by omega) (by simp [okP])
  | .letter c, l, h => ok_snoc (fun j h1 h2 => by omega) (by simp [okP, one_size, ltr_one h]; exact h)
  | .any, l, _ => ok_snoc (fun j h1 h2 => by omega) (by simp [okP])
  | .seq a b, l, h => ok_snoc (ok_two (by rw [flat_len]; omega) (ok_flat a l h.1) (ok_flat b _ h.2) (flat_pre b _)) (by
      have := sz_pos a
      have := sz_pos b
      simp [okP, flat_len]; omega)
  | .alt a b, l, h => ok_snoc (ok_two (by rw [flat_len]; omega) (ok_flat a l h.1) (ok_flat b _ h.2) (flat_pre b _)) (by
      have := sz_pos a
      have := sz_pos b
      simp [okP, flat_len]; omega)
  | .many a, l, h => ok_snoc (ok_flat a l h) (by
      have := sz_pos a
      simp [okP, flat_len]; omega)
  | .inv a, l, h => ok_snoc (ok_flat a l h) (by
      have := sz_pos a
      simp [okP, flat_len]; omega)
theorem cnt_flat : ∀ (x : Sh) (l : List Pr) (i : Nat), cnt (flat x l) (i : Int) = cnt l (i : Int) + (if l.length ≤ i ∧ i + 1 < l.length + sz x then 1 else 0)
  | .none, l, i => by rw [flat, cnt_snoc, if_neg (by simp only [sz]; omega)]; simp [nm]
  | .empty, l, i => by rw [flat, cnt_snoc, if_neg (by simp only [sz]; omega)]; simp [nm]
  | .letter c, l, i => by rw [flat, cnt_snoc, if_neg (by simp only [sz]; omega)]; simp [nm]
  | .any, l, i => by rw [flat, cnt_snoc, if_neg (by simp only [sz]; omega)]; simp [nm]
  | .seq a b, l, i => by
    have := sz_pos a
    have := sz_pos b
    rw [flat, cnt_snoc, cnt_flat b, cnt_flat a, flat_len]
    simp only [nm, sz, flat_len, true_or, true_and]
    repeat' split
    all_goals omega
  | .alt a b, l, i => by
    have := sz_pos a
    have := sz_pos b
    rw [flat, cnt_snoc, cnt_flat b, cnt_flat a, flat_len]
    simp only [nm, sz, flat_len, true_or, or_true, true_and]
    repeat' split
    all_goals omega
  | .many a, l, i => by
    have := sz_pos a
    rw [flat, cnt_snoc, cnt_flat a]
    simp only [nm, sz, flat_len, true_or, or_true, true_and]
    repeat' split
    all_goals omega
  | .inv a, l, i => by
    have := sz_pos a
    rw [flat, cnt_snoc, cnt_flat a]
    simp only [nm, sz, flat_len, or_true, true_and]
    repeat' split
    all_goals omega
/-- The parts of a shape are a good form. -/
theorem good_flat (x : Sh) (h : okS x) (hs : sz x ≤ 24) : GoodF (flat x []) := by
  refine ⟨by rw [flat_len]; have := sz_pos x; simp; omega, fun j hj => ok_flat x [] h j (by simp) hj, fun i hi => ?_⟩
  rw [flat_len] at hi
  rw [cnt_flat, if_pos (by simp at hi ⊢; omega)]
  simp [cnt]
/-- A sum over the first numbers. -/
def sumN (f : Nat → Int) : Nat → Int
  | 0 => 0
  | n + 1 => sumN f n + f n
theorem sumN_congr {f g : Nat → Int} : ∀ n, (∀ i, i < n → f i = g i) → sumN f n = sumN g n
  | 0, _ => rfl
  | n + 1, h => by rw [sumN, sumN, sumN_congr n (fun i hi => h i (by omega)), h n (by omega)]
theorem sumN_sub (f g : Nat → Int) : ∀ n, sumN (fun i => f i - g i) n = sumN f n - sumN g n
  | 0 => rfl
  | n + 1 => by simp only [sumN, sumN_sub f g n]; omega
theorem sumN_add (f g : Nat → Int) : ∀ n, sumN (fun i => f i + g i) n = sumN f n + sumN g n
  | 0 => rfl
  | n + 1 => by simp only [sumN, sumN_add f g n]; omega
theorem sumN_zero : ∀ n, sumN (fun _ => 0) n = 0
  | 0 => rfl
  | n + 1 => by simp only [sumN, sumN_zero n]; omega
theorem sumN_at (g : Nat → Int) (c : Int) (h0 : 0 ≤ c) : ∀ n, sumN (fun i => if c = (i : Int) then g i else 0) n = if c < (n : Int) then g c.toNat else 0
  | 0 => by rw [if_neg (by omega)]; rfl
  | n + 1 => by
    rw [sumN, sumN_at g c h0 n]
    by_cases h : c < (n : Int)
    · rw [if_pos h, if_neg (by omega), if_pos (by omega)]; omega
    · rw [if_neg h]
      by_cases e : c = (n : Int)
      · rw [if_pos e, if_pos (by omega)]; subst e; simp
      · rw [if_neg e, if_neg (by omega)]; omega
theorem cnt_high {l : List Pr} (h : ∀ j, j < l.length → okP j (l.getD j eP)) : ∀ k, k ≤ l.length → ∀ i : Nat, k ≤ i + 1 → cnt (l.take k) (i : Int) = 0
  | 0, _, i, _ => by simp [cnt]
  | k + 1, hk, i, hi => by
    rw [take_snoc l k (by omega), cnt_snoc, cnt_high h k (by omega) i (by omega)]
    have ok := h k (by omega)
    unfold nm
    rcases ok with o | o | o | o
    all_goals
      rw [if_neg (by omega), if_neg (by omega)]
      rfl
/-- What the trees of the first parts, those that are named left out, have together. -/
theorem weigh {l : List Pr} (h : ∀ j, j < l.length → okP j (l.getD j eP)) : ∀ k, k ≤ l.length → sumN (fun i => (1 - cnt (l.take k) (i : Int)) * (sz (T l i) : Int)) k = (k : Int)
  | 0, _ => rfl
  | k + 1, hk => by
    have ih := weigh h k (by omega)
    have ok := h k (by omega)
    have e0 := cnt_high h (k + 1) hk k (Nat.le_refl _)
    rw [sumN, e0]
    have e1 : sumN (fun i => (1 - cnt (l.take (k + 1)) (i : Int)) * (sz (T l i) : Int)) k = sumN (fun i => (1 - cnt (l.take k) (i : Int)) * (sz (T l i) : Int)) k - sumN (fun i => nm (l.getD k eP) (i : Int) * (sz (T l i) : Int)) k := by
      rw [← sumN_sub]
      refine sumN_congr k (fun i hi => ?_)
      rw [take_snoc l k (by omega), cnt_snoc, ← Int.sub_sub, Int.sub_mul]
    rw [e1, ih]
    have e2 : sumN (fun i => nm (l.getD k eP) (i : Int) * (sz (T l i) : Int)) k = (sz (T l k) : Int) - 1 := by
      rw [T_node l k (by omega) ok]
      have ea : ∀ a : Int, (sz (T l a.toNat) : Int) = (sz ((made l).getD a.toNat .none) : Int) := fun a => rfl
      rcases ok with o | o | o | o
      · have : ∀ i : Nat, i < k → nm (l.getD k eP) (i : Int) * (sz (T l i) : Int) = 0 := fun i hi => by
          unfold nm; rw [if_neg (by omega), if_neg (by omega)]; simp
        rw [sumN_congr k this, sumN_zero]
        rcases o.1 with e | e | e
        · rw [shp_1 e]; rfl
        · rw [shp_2 e]; rfl
        · rw [shp_4 e]; rfl
      · have : ∀ i : Nat, i < k → nm (l.getD k eP) (i : Int) * (sz (T l i) : Int) = 0 := fun i hi => by
          unfold nm; rw [if_neg (by omega), if_neg (by omega)]; simp
        rw [sumN_congr k this, sumN_zero]
        rw [shp_3 o.1]; rfl
      · obtain ⟨o1, _, oa, ob⟩ := o
        have : ∀ i : Nat, i < k → nm (l.getD k eP) (i : Int) * (sz (T l i) : Int) = (if (l.getD k eP).b = (i : Int) then (sz (T l i) : Int) else 0) + (if (l.getD k eP).a = (i : Int) then (sz (T l i) : Int) else 0) := fun i hi => by
          rw [nm_two o1, Int.add_mul]
          split <;> split <;> simp
        rw [sumN_congr k this, sumN_add, sumN_at (fun i => (sz (T l i) : Int)) _ ob.1, sumN_at (fun i => (sz (T l i) : Int)) _ oa.1, if_pos ob.2, if_pos oa.2]
        rcases o1 with e | e
        · rw [shp_5 e]; unfold T; simp only [sz]; omega
        · rw [shp_6 e]; unfold T; simp only [sz]; omega
      · obtain ⟨o1, _, oa, ob⟩ := o
        have : ∀ i : Nat, i < k → nm (l.getD k eP) (i : Int) * (sz (T l i) : Int) = (if (l.getD k eP).a = (i : Int) then (sz (T l i) : Int) else 0) := fun i hi => by
          rw [nm_one o1]
          split <;> simp
        rw [sumN_congr k this, sumN_at (fun i => (sz (T l i) : Int)) _ oa.1, if_pos oa.2]
        rcases o1 with e | e
        · rw [shp_7 e]; unfold T; simp only [sz]; omega
        · rw [shp_8 e]; unfold T; simp only [sz]; omega
    rw [e2]
    push_cast
    omega
theorem sumN_last (f : Nat → Int) : ∀ n, (∀ i, i < n → f i = 0) → sumN f (n + 1) = f n
  | n, h => by rw [sumN, sumN_congr n h, sumN_zero]; omega
/-- The tree of a good form has just its parts. -/
theorem whole_size {l : List Pr} (h : GoodF l) : sz (whole l) = l.length := by
  obtain ⟨h1, h2, h3⟩ := h
  have w := weigh h2 l.length (Nat.le_refl _)
  obtain ⟨n, hn⟩ : ∃ n, l.length = n + 1 := ⟨l.length - 1, by omega⟩
  rw [List.take_length] at w
  rw [hn, sumN_last _ n (fun i hi => by rw [h3 i (by omega)]; simp)] at w
  have e0 := cnt_high h2 l.length (Nat.le_refl _) n (by omega)
  rw [List.take_length] at e0
  rw [e0] at w
  unfold whole
  rw [show l.length - 1 = n by omega]
  omega
theorem okS_T {l : List Pr} (h : ∀ j, j < l.length → okP j (l.getD j eP)) : ∀ n i, i < n → i < l.length → okS (T l i)
  | 0, i, hi, _ => by omega
  | n + 1, i, hi, hl => by
    have ok := h i hl
    have ih : ∀ a : Int, 0 ≤ a → a < (i : Int) → okS ((made l).getD a.toNat .none) := fun a h0 h1 => okS_T h n a.toNat (by omega) (by omega)
    rw [T_node l i hl ok]
    rcases ok with o | o | o | o
    · rcases o.1 with e | e | e
      · rw [shp_1 e]; trivial
      · rw [shp_2 e]; trivial
      · rw [shp_4 e]; trivial
    · rw [shp_3 o.1]
      exact o.2.1.2
    · obtain ⟨o1, _, oa, ob⟩ := o
      rcases o1 with e | e
      · rw [shp_5 e]; exact ⟨ih _ oa.1 oa.2, ih _ ob.1 ob.2⟩
      · rw [shp_6 e]; exact ⟨ih _ oa.1 oa.2, ih _ ob.1 ob.2⟩
    · obtain ⟨o1, _, oa, ob⟩ := o
      rcases o1 with e | e
      · rw [shp_7 e]; exact ih _ oa.1 oa.2
      · rw [shp_8 e]; exact ih _ oa.1 oa.2
theorem okS_whole {l : List Pr} (h : GoodF l) : okS (whole l) := okS_T h.2.1 l.length _ (by have := h.1; omega) (by have := h.1; omega)
end Go.Proofs.Ytapffbbmofhpoab.L5

namespace Go.Proofs.Ytapffbbmofhpoab.L5
open Go.RowKit L1 L4
set_option linter.unusedVariables false

/-- A part as a value. -/
abbrev svP (p : Pr) : Value := .agg #[.int .i64 p.k, .string p.t, .int .i64 p.a, .int .i64 p.b]
/-- A part lies in memory from a place on. -/
structure AtP (w : World) (b o : Nat) (p : Pr) : Prop where
  k : w.cell? ⟨b, o, none⟩ = some (.int .i64 p.k)
  t : w.cell? ⟨b, o + 1, none⟩ = some (.string p.t)
  a : w.cell? ⟨b, o + 2, none⟩ = some (.int .i64 p.a)
  b : w.cell? ⟨b, o + 3, none⟩ = some (.int .i64 p.b)
theorem AtP.base {w w' : World} {b o B : Nat} {p : Pr} (h : AtP w b o p) (hb : Below B w w') (hB : b < B) : AtP w' b o p :=
  ⟨(hb.cell (p := ⟨b, o, none⟩) hB).trans h.k, (hb.cell (p := ⟨b, o + 1, none⟩) hB).trans h.t, (hb.cell (p := ⟨b, o + 2, none⟩) hB).trans h.a, (hb.cell (p := ⟨b, o + 3, none⟩) hB).trans h.b⟩
theorem AtP.below {w w' : World} {b o : Nat} {p : Pr} (h : AtP w b o p) (hb : Below w.heap.size w w') : AtP w' b o p := h.base hb (blk_lt h.k)
/-- A list of parts lies in memory from an address on. -/
def SlP (w : World) (a : Option Addr) (l : List Pr) : Prop := ∀ i, i < l.length → ∃ b off, a = some ⟨b, off, none⟩ ∧ AtP w b (off + i * 4) (l.getD i eP)
theorem SlP.below {w w' : World} {a : Option Addr} {xs : List Pr} (h : SlP w a xs) (hb : Below w.heap.size w w') : SlP w' a xs := fun i hi => by
  obtain ⟨b, off, ha, hc⟩ := h i hi
  exact ⟨b, off, ha, hc.below hb⟩
theorem slP_base {w w' : World} {a : Option Addr} {xs : List Pr} {base : Nat} (h : SlP w a xs) (hb : Below base w w') (hlt : ∀ x, a = some x → x.block < base) : SlP w' a xs := fun i hi => by
  obtain ⟨b, off, ha, hc⟩ := h i hi
  exact ⟨b, off, ha, hc.base hb (hlt ⟨b, off, none⟩ ha)⟩
/-- The cells of parts, one behind the other. -/
def flatP : List Pr → List Value
  | [] => []
  | p :: l => .int .i64 p.k :: .string p.t :: .int .i64 p.a :: .int .i64 p.b :: flatP l
theorem flatP_len : ∀ l : List Pr, (flatP l).length = l.length * 4
  | [] => rfl
  | p :: l => by simp [flatP, flatP_len l]; omega
theorem flatP_get : ∀ (l : List Pr) (i : Nat), i < l.length → (flatP l)[i * 4]? = some (.int .i64 (l.getD i eP).k) ∧ (flatP l)[i * 4 + 1]? = some (.string (l.getD i eP).t) ∧ (flatP l)[i * 4 + 2]? = some (.int .i64 (l.getD i eP).a) ∧ (flatP l)[i * 4 + 3]? = some (.int .i64 (l.getD i eP).b)
  | [], i, h => by simp at h
  | p :: l, 0, _ => ⟨rfl, rfl, rfl, rfl⟩
  | p :: l, i + 1, h => by
    have := flatP_get l i (by simpa using h)
    have e1 : (i + 1) * 4 = i * 4 + 1 + 1 + 1 + 1 := by omega
    have e2 : (i + 1) * 4 + 1 = i * 4 + 1 + 1 + 1 + 1 + 1 := by omega
    have e3 : (i + 1) * 4 + 2 = i * 4 + 2 + 1 + 1 + 1 + 1 := by omega
    have e4 : (i + 1) * 4 + 3 = i * 4 + 3 + 1 + 1 + 1 + 1 := by omega
    rw [e2, e3, e4, e1]
    simpa only [flatP, List.getElem?_cons_succ, List.getD_cons_succ] using this
theorem flatP_append (l m : List Pr) : flatP (l ++ m) = flatP l ++ flatP m := by
  induction l with
  | nil => rfl
  | cons p l ih => simp [flatP, ih]
theorem flatP_one : ∀ l : List Pr, ∀ u ∈ flatP l, u.oneCell' = true
  | [], u, h => by simp [flatP] at h
  | p :: l, u, h => by
    simp only [flatP, List.mem_cons] at h
    rcases h with rfl | rfl | rfl | rfl | h
    · rfl
    · rfl
    · rfl
    · rfl
    · exact flatP_one l u h
theorem own_formP {w : World} {base n : Nat} {v : Value} {l : List Pr} (h : w.ownsRow base 116 4 v n (flatP l)) : ∃ a cap, v = .slice a n cap ∧ SlP w a l ∧ l.length = n := by
  have hl := h.1
  rw [flatP_len] at hl
  have hl' : l.length = n := by omega
  rcases h.2 with ⟨hv, h0⟩ | ⟨g, cap, cur, hv, _⟩
  · subst h0
    exact ⟨none, 0, hv, fun i hi => by omega, hl'⟩
  · subst hv
    refine ⟨_, cap, rfl, fun i hi => ?_, hl'⟩
    obtain ⟨f1, f2, f3, f4⟩ := flatP_get l i hi
    have h1 := h.cells (g := g) rfl (i * 4) _ f1
    have h2 := h.cells (g := g) rfl (i * 4 + 1) _ f2
    have h3 := h.cells (g := g) rfl (i * 4 + 2) _ f3
    have h4 := h.cells (g := g) rfl (i * 4 + 3) _ f4
    rw [addr_add] at h1 h2 h3 h4
    exact ⟨g, 0, rfl, by simpa using h1, by simpa using h2, by simpa using h3, by simpa using h4⟩
theorem own_slP {w : World} {base n cap : Nat} {a : Option Addr} {l : List Pr} (h : w.ownsRow base 116 4 (.slice a n cap) n (flatP l)) : SlP w a l := by
  obtain ⟨b, q, e, s, _⟩ := own_formP h
  cases e
  exact s
theorem info_part : (Try.prog.info? 116).map (fun i => (i.zero, i.size, i.bytes)) = some (some (.agg #[.int .i64 0, .string ByteArray.empty, .int .i64 0, .int .i64 0]), 4, 40) := by kernel_rfl
theorem slP_cells {w : World} {b off : Nat} {l : List Pr} (h : SlP w (some ⟨b, off, none⟩) l) : ∀ j u, (flatP l)[j]? = some u → w.cell? ((⟨b, off, none⟩ : Addr).add j) = some u := by
  intro j u hu
  have hj : j < (flatP l).length := by
    by_cases hj : j < (flatP l).length
    · exact hj
    · rw [List.getElem?_eq_none (by omega)] at hu; cases hu
  rw [flatP_len] at hj
  have hi : j / 4 < l.length := by omega
  obtain ⟨b', off', ha, hc⟩ := h (j / 4) hi
  cases ha
  obtain ⟨f1, f2, f3, f4⟩ := flatP_get l (j / 4) hi
  rw [add_at]
  have hm : j % 4 = 0 ∨ j % 4 = 1 ∨ j % 4 = 2 ∨ j % 4 = 3 := by omega
  rcases hm with e | e | e | e
  · have ej : j = j / 4 * 4 := by omega
    rw [← ej] at f1; rw [f1] at hu; cases hu
    rw [show off + j = off + j / 4 * 4 by omega]; exact hc.k
  · have ej : j = j / 4 * 4 + 1 := by omega
    rw [← ej] at f2; rw [f2] at hu; cases hu
    rw [show off + j = off + j / 4 * 4 + 1 by omega]; exact hc.t
  · have ej : j = j / 4 * 4 + 2 := by omega
    rw [← ej] at f3; rw [f3] at hu; cases hu
    rw [show off + j = off + j / 4 * 4 + 2 by omega]; exact hc.a
  · have ej : j = j / 4 * 4 + 3 := by omega
    rw [← ej] at f4; rw [f4] at hu; cases hu
    rw [show off + j = off + j / 4 * 4 + 3 by omega]; exact hc.b

/-- Texts are no longer than a machine's. -/
def TxP (l : List Pr) : Prop := ∀ j, j < l.length → (l.getD j eP).t.size ≤ 9223372036854775807
/-- What a walk is told of a slice of parts that came in. -/
def IsRowP (w : World) (a : Option Addr) (len : Nat) (l : List Pr) : Prop := (l.length = len ∧ len ≤ maxLen ∧ SlP w a l) ∧ TxP l
open Classical in
theorem rowP_of {w : World} {a : Addr} {len cap : Nat} (hl : len ≤ cap) (hm : cap ≤ maxLen) (h : ∀ i, i < len → ∃ p : Pr, (w.cell? (a.add (i * 4)) = some (.int .i64 p.k) ∧ w.cell? (a.add (i * 4 + 1)) = some (.string p.t) ∧ w.cell? (a.add (i * 4 + 2)) = some (.int .i64 p.a) ∧ w.cell? (a.add (i * 4 + 3)) = some (.int .i64 p.b)) ∧ p.t.size ≤ maxLen) : ∃ l, IsRowP w (some a) len l := by
  obtain ⟨f, hf⟩ : ∃ f : Nat → Pr, ∀ i, i < len → (w.cell? (a.add (i * 4)) = some (.int .i64 (f i).k) ∧ w.cell? (a.add (i * 4 + 1)) = some (.string (f i).t) ∧ w.cell? (a.add (i * 4 + 2)) = some (.int .i64 (f i).a) ∧ w.cell? (a.add (i * 4 + 3)) = some (.int .i64 (f i).b)) ∧ (f i).t.size ≤ maxLen := by
    refine ⟨fun i => if hi : i < len then Classical.choose (h i hi) else eP, fun i hi => ?_⟩
    simp only [dif_pos hi]
    exact Classical.choose_spec (h i hi)
  have hg : ∀ i, i < len → ((List.range len).map f).getD i eP = f i := fun i hi => by simp [List.getD, hi]
  refine ⟨(List.range len).map f, ⟨by simp, Nat.le_trans hl hm, fun i hi => ?_⟩, fun j hj => ?_⟩
  · have hi' : i < len := by simpa using hi
    obtain ⟨b, off, spot⟩ := a
    have hspot : spot = none := by
      have h00 := (hf 0 (by omega)).1.1
      have := World.cell?_spot h00
      simpa [Addr.add] using this
    subst hspot
    have := (hf i hi').1
    simp only [add_at] at this
    rw [hg i hi']
    exact ⟨b, off, rfl, this.1, by rw [Nat.add_assoc]; exact this.2.1, by rw [Nat.add_assoc]; exact this.2.2.1, by rw [Nat.add_assoc]; exact this.2.2.2⟩
  · have hj' : j < len := by simpa using hj
    have := (hf j hj').2
    unfold maxLen at this
    rw [hg j hj']
    omega
theorem ba_nil {n : ByteArray} : n.toList = [] ↔ n = ByteArray.empty := by
  constructor
  · intro h
    apply ByteArray.ext
    apply Array.toList_inj.1
    rw [← ByteArray.toList_eq, h]
    rfl
  · rintro rfl
    rw [ByteArray.toList_eq]
    rfl
theorem ret_bool {bb c : Bool} (h : c = bb) : Ending.returned (.bool c) = .returned (.bool bb) := by rw [h]
end Go.Proofs.Ytapffbbmofhpoab.L5

namespace Go.Proofs.Ytapffbbmofhpoab.L5
open Go
set_option linter.unusedVariables false

/-- None or more, one behind the other. -/
inductive Star (p : List Int → Prop) : List Int → Prop where
  | nil : Star p []
  | cons (u v : List Int) : u ≠ [] → p u → Star p v → Star p (u ++ v)
/-- A text fits a shape. -/
def Mt : Sh → List Int → Prop
  | .none, _ => False
  | .empty, s => s = []
  | .letter c, s => s = [c]
  | .any, s => s.length = 1
  | .seq a b, s => ∃ u v, s = u ++ v ∧ Mt a u ∧ Mt b v
  | .alt a b, s => Mt a s ∨ Mt b s
  | .many a, s => Star (Mt a) s
  | .inv a, s => ¬ Mt a s
def nul : Sh → Bool
  | .empty => true
  | .many _ => true
  | .seq a b => nul a && nul b
  | .alt a b => nul a || nul b
  | .inv a => !nul a
  | _ => false
theorem nul_iff : ∀ x, nul x = true ↔ Mt x []
  | .none => by simp [nul, Mt]
  | .empty => by simp [nul, Mt]
  | .letter _ => by simp [nul, Mt]
  | .any => by simp [nul, Mt]
  | .seq a b => by
    simp only [nul, Bool.and_eq_true, nul_iff a, nul_iff b, Mt]
    constructor
    · exact fun h => ⟨[], [], rfl, h.1, h.2⟩
    · rintro ⟨u, v, h, h1, h2⟩
      obtain ⟨rfl, rfl⟩ := List.append_eq_nil_iff.1 h.symm
      exact ⟨h1, h2⟩
  | .alt a b => by simp only [nul, Bool.or_eq_true, nul_iff a, nul_iff b, Mt]
  | .many a => by simp only [nul, Mt, true_iff]; exact .nil
  | .inv a => by
    simp only [nul, Mt, ← nul_iff a]
    cases nul a <;> simp
def oT (a b : Sh) : Sh := if kd a = 1 ∨ kd b = 1 then .none else if kd a = 2 then b else if kd b = 2 then a else .seq a b
def oO (a b : Sh) : Sh := if kd a = 1 then b else if kd b = 1 then a else .alt a b
theorem kd_1 {a : Sh} (h : kd a = 1) : a = .none := by cases a <;> simp [kd] at h; rfl
theorem kd_2 {a : Sh} (h : kd a = 2) : a = .empty := by cases a <;> simp [kd] at h; rfl
theorem Mt_oT (a b : Sh) (s : List Int) : Mt (oT a b) s ↔ Mt (.seq a b) s := by
  unfold oT
  split
  · rename_i h
    rcases h with h | h
    · rw [kd_1 h]; simp [Mt]
    · rw [kd_1 h]; simp [Mt]
  · split
    · rename_i h
      rw [kd_2 h]
      simp only [Mt]
      exact ⟨fun h => ⟨[], s, rfl, rfl, h⟩, fun ⟨u, v, e, hu, hv⟩ => by subst hu; rw [e]; exact hv⟩
    · split
      · rename_i h
        rw [kd_2 h]; simp [Mt]
      · rfl
theorem Mt_oO (a b : Sh) (s : List Int) : Mt (oO a b) s ↔ Mt (.alt a b) s := by
  unfold oO
  split
  · rename_i h
    rw [kd_1 h]; simp [Mt]
  · split
    · rename_i h
      rw [kd_1 h]; simp [Mt]
    · rfl
def left : Sh → Int → Sh
  | .letter d, c => if d = c then .empty else .none
  | .any, _ => .empty
  | .seq a b, c => if nul a = true then oO (oT (left a c) b) (left b c) else oT (left a c) b
  | .alt a b, c => oO (left a c) (left b c)
  | .many a, c => oT (left a c) (.many a)
  | .inv a, c => .inv (left a c)
  | _, _ => .none
theorem seq_cons (p q : List Int → Prop) (c : Int) (s : List Int) : (∃ u v, c :: s = u ++ v ∧ p u ∧ q v) ↔ (∃ u v, s = u ++ v ∧ p (c :: u) ∧ q v) ∨ (p [] ∧ q (c :: s)) := by
  constructor
  · rintro ⟨u, v, h, hu, hv⟩
    cases u with
    | nil => exact .inr ⟨hu, by rw [h]; exact hv⟩
    | cons d u =>
      simp only [List.cons_append, List.cons.injEq] at h
      obtain ⟨rfl, rfl⟩ := h
      exact .inl ⟨u, v, rfl, hu, hv⟩
  · rintro (⟨u, v, rfl, hu, hv⟩ | ⟨h1, h2⟩)
    · exact ⟨c :: u, v, rfl, hu, hv⟩
    · exact ⟨[], c :: s, rfl, h1, h2⟩
theorem star_cons (p : List Int → Prop) (c : Int) (s : List Int) : Star p (c :: s) ↔ ∃ u v, s = u ++ v ∧ p (c :: u) ∧ Star p v := by
  constructor
  · intro h
    generalize e : c :: s = t at h
    cases h with
    | nil => cases e
    | cons u v hne hp hv =>
      cases u with
      | nil => exact absurd rfl hne
      | cons d u =>
        simp only [List.cons_append, List.cons.injEq] at e
        obtain ⟨rfl, rfl⟩ := e
        exact ⟨u, v, rfl, hp, hv⟩
  · rintro ⟨u, v, rfl, hu, hv⟩
    exact Star.cons (c :: u) v (by simp) hu hv
/-- Brzozowski: a text fits what is left by a letter just if it fits behind the letter. -/
theorem brz : ∀ (x : Sh) (c : Int) (s : List Int), Mt (left x c) s ↔ Mt x (c :: s)
  | .none, c, s => by simp [left, Mt]
  | .empty, c, s => by simp [left, Mt]
  | .letter d, c, s => by
    simp only [left]
    split
    · rename_i h; subst h; simp [Mt]
    · rename_i h; simp [Mt, Ne.symm h]
  | .any, c, s => by simp [left, Mt]
  | .seq a b, c, s => by
    have e1 : Mt (oT (left a c) b) s ↔ ∃ u v, s = u ++ v ∧ Mt a (c :: u) ∧ Mt b v := by
      rw [Mt_oT]
      simp only [Mt, brz a c]
    simp only [left]
    rw [show Mt (.seq a b) (c :: s) = ∃ u v, c :: s = u ++ v ∧ Mt a u ∧ Mt b v from rfl, seq_cons, ← nul_iff a, ← e1]
    split
    · rename_i h
      rw [Mt_oO]
      simp only [Mt, brz b c, h, true_and]
    · rename_i h
      simp [h]
  | .alt a b, c, s => by
    rw [left, Mt_oO]
    simp only [Mt, brz a c, brz b c]
  | .many a, c, s => by
    rw [left, Mt_oT]
    simp only [Mt]
    rw [star_cons]
    simp only [brz a c]
  | .inv a, c, s => by simp only [left, Mt, brz a c]
theorem okS_oT {a b : Sh} (ha : okS a) (hb : okS b) : okS (oT a b) := by
  unfold oT
  repeat' split
  · trivial
  · exact hb
  · exact ha
  · exact ⟨ha, hb⟩
theorem okS_oO {a b : Sh} (ha : okS a) (hb : okS b) : okS (oO a b) := by
  unfold oO
  repeat' split
  · exact hb
  · exact ha
  · exact ⟨ha, hb⟩
theorem okS_left : ∀ (x : Sh) (c : Int), okS x → okS (left x c)
  | .none, c, h => trivial
  | .empty, c, h => trivial
  | .letter d, c, h => by simp only [left]; split <;> trivial
  | .any, c, h => trivial
  | .seq a b, c, h => by
    simp only [left]
    split
    · exact okS_oO (okS_oT (okS_left a c h.1) h.2) (okS_left b c h.2)
    · exact okS_oT (okS_left a c h.1) h.2
  | .alt a b, c, h => okS_oO (okS_left a c h.1) (okS_left b c h.2)
  | .many a, c, h => okS_oT (okS_left a c h) h
  | .inv a, c, h => okS_left a c h
theorem sz_oT (a b : Sh) : sz (oT a b) ≤ sz a + sz b + 1 := by
  unfold oT
  repeat' split
  all_goals (try simp only [sz]); omega
theorem sz_oO (a b : Sh) : sz (oO a b) ≤ sz a + sz b + 1 := by
  unfold oO
  repeat' split
  all_goals (try simp only [sz]); omega
/-- What is left has not many parts more. -/
theorem sz_left : ∀ (x : Sh) (c : Int) (n : Nat), sz x ≤ n → sz (left x c) + 2 ≤ 3 * sz x + sz x * n
  | .none, c, n, h => by simp only [left, sz]; omega
  | .empty, c, n, h => by simp only [left, sz]; omega
  | .letter d, c, n, h => by simp only [left]; split <;> simp only [sz] <;> omega
  | .any, c, n, h => by simp only [left, sz]; omega
  | .seq a b, c, n, h => by
    simp only [sz] at h
    have h1 := sz_left a c n (by omega)
    have h2 := sz_left b c n (by omega)
    have h3 := sz_oT (left a c) b
    have h4 := sz_oO (oT (left a c) b) (left b c)
    simp only [sz, Nat.add_mul]
    simp only [left]
    split <;> omega
  | .alt a b, c, n, h => by
    simp only [sz] at h
    have h1 := sz_left a c n (by omega)
    have h2 := sz_left b c n (by omega)
    have h4 := sz_oO (left a c) (left b c)
    simp only [sz, Nat.add_mul, left]
    omega
  | .many a, c, n, h => by
    simp only [sz] at h
    have h1 := sz_left a c n (by omega)
    have h4 := sz_oT (left a c) (.many a)
    simp only [sz] at h4
    simp only [sz, Nat.add_mul, left]
    omega
  | .inv a, c, n, h => by
    simp only [sz] at h
    have h1 := sz_left a c n (by omega)
    simp only [sz, Nat.add_mul, left]
    omega
/-- What is left by a text. -/
def lefts : Sh → List Int → Sh
  | x, [] => x
  | x, c :: s => lefts (left x c) s
theorem lefts_iff : ∀ (s : List Int) (x : Sh), nul (lefts x s) = true ↔ Mt x s
  | [], x => nul_iff x
  | c :: s, x => by rw [lefts, lefts_iff s, brz]
theorem lefts_snoc : ∀ (s : List Int) (x : Sh) (c : Int), lefts x (s ++ [c]) = left (lefts x s) c
  | [], x, c => rfl
  | d :: s, x, c => by rw [List.cons_append, lefts, lefts_snoc s, lefts]
end Go.Proofs.Ytapffbbmofhpoab.L5

namespace Go.Proofs.Ytapffbbmofhpoab.L5
open Go.RowKit L1 L4
set_option linter.unusedVariables false

def tid : Sh → TypeId
  | .none => 175
  | .empty => 162
  | .letter _ => 170
  | .any => 173
  | .seq _ _ => 166
  | .alt _ _ => 167
  | .many _ => 164
  | .inv _ => 168
def inn : Sh → Value
  | .letter c => .agg #[.int .u8 c]
  | .seq a b => .agg #[.iface (tid a) (inn a), .iface (tid b) (inn b)]
  | .alt a b => .agg #[.iface (tid a) (inn a), .iface (tid b) (inn b)]
  | .many a => .agg #[.iface (tid a) (inn a)]
  | .inv a => .agg #[.iface (tid a) (inn a)]
  | _ => .agg #[]
/-- A shape as a value. -/
abbrev sv (x : Sh) : Value := .iface (tid x) (inn x)
theorem mk_noText (x : Value) (w : World) : (Instr.makeInterface 175 x).run Try.prog w = .ok (.iface 175 x) w := run_makeInterface w 175 x (by kernel_rfl)
theorem mk_emptyText (x : Value) (w : World) : (Instr.makeInterface 162 x).run Try.prog w = .ok (.iface 162 x) w := run_makeInterface w 162 x (by kernel_rfl)
theorem mk_oneLetter (x : Value) (w : World) : (Instr.makeInterface 170 x).run Try.prog w = .ok (.iface 170 x) w := run_makeInterface w 170 x (by kernel_rfl)
theorem mk_anyLetter (x : Value) (w : World) : (Instr.makeInterface 173 x).run Try.prog w = .ok (.iface 173 x) w := run_makeInterface w 173 x (by kernel_rfl)
theorem mk_thenShape (x : Value) (w : World) : (Instr.makeInterface 166 x).run Try.prog w = .ok (.iface 166 x) w := run_makeInterface w 166 x (by kernel_rfl)
theorem mk_eitherShape (x : Value) (w : World) : (Instr.makeInterface 167 x).run Try.prog w = .ok (.iface 167 x) w := run_makeInterface w 167 x (by kernel_rfl)
theorem mk_manyShape (x : Value) (w : World) : (Instr.makeInterface 164 x).run Try.prog w = .ok (.iface 164 x) w := run_makeInterface w 164 x (by kernel_rfl)
theorem mk_notShape (x : Value) (w : World) : (Instr.makeInterface 168 x).run Try.prog w = .ok (.iface 168 x) w := run_makeInterface w 168 x (by kernel_rfl)
theorem as_noText_noText (v : Value) (w : World) : (Instr.typeAssert (.iface 175 v) 107 175 true).run Try.prog w = .ok (.tuple #[v, .bool true]) w := by kernel_rfl
theorem as_noText_emptyText (v : Value) (w : World) : (Instr.typeAssert (.iface 175 v) 107 162 true).run Try.prog w = .ok (.tuple #[.agg #[], .bool false]) w := by kernel_rfl
theorem as_noText_oneLetter (v : Value) (w : World) : (Instr.typeAssert (.iface 175 v) 107 170 true).run Try.prog w = .ok (.tuple #[.agg #[.int .u8 0], .bool false]) w := by kernel_rfl
theorem as_noText_anyLetter (v : Value) (w : World) : (Instr.typeAssert (.iface 175 v) 107 173 true).run Try.prog w = .ok (.tuple #[.agg #[], .bool false]) w := by kernel_rfl
theorem as_noText_thenShape (v : Value) (w : World) : (Instr.typeAssert (.iface 175 v) 107 166 true).run Try.prog w = .ok (.tuple #[.agg #[.nilIface, .nilIface], .bool false]) w := by kernel_rfl
theorem as_noText_eitherShape (v : Value) (w : World) : (Instr.typeAssert (.iface 175 v) 107 167 true).run Try.prog w = .ok (.tuple #[.agg #[.nilIface, .nilIface], .bool false]) w := by kernel_rfl
theorem as_noText_manyShape (v : Value) (w : World) : (Instr.typeAssert (.iface 175 v) 107 164 true).run Try.prog w = .ok (.tuple #[.agg #[.nilIface], .bool false]) w := by kernel_rfl
theorem as_noText_notShape (v : Value) (w : World) : (Instr.typeAssert (.iface 175 v) 107 168 true).run Try.prog w = .ok (.tuple #[.agg #[.nilIface], .bool false]) w := by kernel_rfl
theorem as_emptyText_noText (v : Value) (w : World) : (Instr.typeAssert (.iface 162 v) 107 175 true).run Try.prog w = .ok (.tuple #[.agg #[], .bool false]) w := by kernel_rfl
theorem as_emptyText_emptyText (v : Value) (w : World) : (Instr.typeAssert (.iface 162 v) 107 162 true).run Try.prog w = .ok (.tuple #[v, .bool true]) w := by kernel_rfl
theorem as_emptyText_oneLetter (v : Value) (w : World) : (Instr.typeAssert (.iface 162 v) 107 170 true).run Try.prog w = .ok (.tuple #[.agg #[.int .u8 0], .bool false]) w := by kernel_rfl
theorem as_emptyText_anyLetter (v : Value) (w : World) : (Instr.typeAssert (.iface 162 v) 107 173 true).run Try.prog w = .ok (.tuple #[.agg #[], .bool false]) w := by kernel_rfl
theorem as_emptyText_thenShape (v : Value) (w : World) : (Instr.typeAssert (.iface 162 v) 107 166 true).run Try.prog w = .ok (.tuple #[.agg #[.nilIface, .nilIface], .bool false]) w := by kernel_rfl
theorem as_emptyText_eitherShape (v : Value) (w : World) : (Instr.typeAssert (.iface 162 v) 107 167 true).run Try.prog w = .ok (.tuple #[.agg #[.nilIface, .nilIface], .bool false]) w := by kernel_rfl
theorem as_emptyText_manyShape (v : Value) (w : World) : (Instr.typeAssert (.iface 162 v) 107 164 true).run Try.prog w = .ok (.tuple #[.agg #[.nilIface], .bool false]) w := by kernel_rfl
theorem as_emptyText_notShape (v : Value) (w : World) : (Instr.typeAssert (.iface 162 v) 107 168 true).run Try.prog w = .ok (.tuple #[.agg #[.nilIface], .bool false]) w := by kernel_rfl
theorem as_oneLetter_noText (v : Value) (w : World) : (Instr.typeAssert (.iface 170 v) 107 175 true).run Try.prog w = .ok (.tuple #[.agg #[], .bool false]) w := by kernel_rfl
theorem as_oneLetter_emptyText (v : Value) (w : World) : (Instr.typeAssert (.iface 170 v) 107 162 true).run Try.prog w = .ok (.tuple #[.agg #[], .bool false]) w := by kernel_rfl
theorem as_oneLetter_oneLetter (v : Value) (w : World) : (Instr.typeAssert (.iface 170 v) 107 170 true).run Try.prog w = .ok (.tuple #[v, .bool true]) w := by kernel_rfl
theorem as_oneLetter_anyLetter (v : Value) (w : World) : (Instr.typeAssert (.iface 170 v) 107 173 true).run Try.prog w = .ok (.tuple #[.agg #[], .bool false]) w := by kernel_rfl
theorem as_oneLetter_thenShape (v : Value) (w : World) : (Instr.typeAssert (.iface 170 v) 107 166 true).run Try.prog w = .ok (.tuple #[.agg #[.nilIface, .nilIface], .bool false]) w := by kernel_rfl
theorem as_oneLetter_eitherShape (v : Value) (w : World) : (Instr.typeAssert (.iface 170 v) 107 167 true).run Try.prog w = .ok (.tuple #[.agg #[.nilIface, .nilIface], .bool false]) w := by kernel_rfl
theorem as_oneLetter_manyShape (v : Value) (w : World) : (Instr.typeAssert (.iface 170 v) 107 164 true).run Try.prog w = .ok (.tuple #[.agg #[.nilIface], .bool false]) w := by kernel_rfl
theorem as_oneLetter_notShape (v : Value) (w : World) : (Instr.typeAssert (.iface 170 v) 107 168 true).run Try.prog w = .ok (.tuple #[.agg #[.nilIface], .bool false]) w := by kernel_rfl
theorem as_anyLetter_noText (v : Value) (w : World) : (Instr.typeAssert (.iface 173 v) 107 175 true).run Try.prog w = .ok (.tuple #[.agg #[], .bool false]) w := by kernel_rfl
theorem as_anyLetter_emptyText (v : Value) (w : World) : (Instr.typeAssert (.iface 173 v) 107 162 true).run Try.prog w = .ok (.tuple #[.agg #[], .bool false]) w := by kernel_rfl
theorem as_anyLetter_oneLetter (v : Value) (w : World) : (Instr.typeAssert (.iface 173 v) 107 170 true).run Try.prog w = .ok (.tuple #[.agg #[.int .u8 0], .bool false]) w := by kernel_rfl
theorem as_anyLetter_anyLetter (v : Value) (w : World) : (Instr.typeAssert (.iface 173 v) 107 173 true).run Try.prog w = .ok (.tuple #[v, .bool true]) w := by kernel_rfl
theorem as_anyLetter_thenShape (v : Value) (w : World) : (Instr.typeAssert (.iface 173 v) 107 166 true).run Try.prog w = .ok (.tuple #[.agg #[.nilIface, .nilIface], .bool false]) w := by kernel_rfl
theorem as_anyLetter_eitherShape (v : Value) (w : World) : (Instr.typeAssert (.iface 173 v) 107 167 true).run Try.prog w = .ok (.tuple #[.agg #[.nilIface, .nilIface], .bool false]) w := by kernel_rfl
theorem as_anyLetter_manyShape (v : Value) (w : World) : (Instr.typeAssert (.iface 173 v) 107 164 true).run Try.prog w = .ok (.tuple #[.agg #[.nilIface], .bool false]) w := by kernel_rfl
theorem as_anyLetter_notShape (v : Value) (w : World) : (Instr.typeAssert (.iface 173 v) 107 168 true).run Try.prog w = .ok (.tuple #[.agg #[.nilIface], .bool false]) w := by kernel_rfl
theorem as_thenShape_noText (v : Value) (w : World) : (Instr.typeAssert (.iface 166 v) 107 175 true).run Try.prog w = .ok (.tuple #[.agg #[], .bool false]) w := by kernel_rfl
theorem as_thenShape_emptyText (v : Value) (w : World) : (Instr.typeAssert (.iface 166 v) 107 162 true).run Try.prog w = .ok (.tuple #[.agg #[], .bool false]) w := by kernel_rfl
theorem as_thenShape_oneLetter (v : Value) (w : World) : (Instr.typeAssert (.iface 166 v) 107 170 true).run Try.prog w = .ok (.tuple #[.agg #[.int .u8 0], .bool false]) w := by kernel_rfl
theorem as_thenShape_anyLetter (v : Value) (w : World) : (Instr.typeAssert (.iface 166 v) 107 173 true).run Try.prog w = .ok (.tuple #[.agg #[], .bool false]) w := by kernel_rfl
theorem as_thenShape_thenShape (v : Value) (w : World) : (Instr.typeAssert (.iface 166 v) 107 166 true).run Try.prog w = .ok (.tuple #[v, .bool true]) w := by kernel_rfl
theorem as_thenShape_eitherShape (v : Value) (w : World) : (Instr.typeAssert (.iface 166 v) 107 167 true).run Try.prog w = .ok (.tuple #[.agg #[.nilIface, .nilIface], .bool false]) w := by kernel_rfl
theorem as_thenShape_manyShape (v : Value) (w : World) : (Instr.typeAssert (.iface 166 v) 107 164 true).run Try.prog w = .ok (.tuple #[.agg #[.nilIface], .bool false]) w := by kernel_rfl
theorem as_thenShape_notShape (v : Value) (w : World) : (Instr.typeAssert (.iface 166 v) 107 168 true).run Try.prog w = .ok (.tuple #[.agg #[.nilIface], .bool false]) w := by kernel_rfl
theorem as_eitherShape_noText (v : Value) (w : World) : (Instr.typeAssert (.iface 167 v) 107 175 true).run Try.prog w = .ok (.tuple #[.agg #[], .bool false]) w := by kernel_rfl
theorem as_eitherShape_emptyText (v : Value) (w : World) : (Instr.typeAssert (.iface 167 v) 107 162 true).run Try.prog w = .ok (.tuple #[.agg #[], .bool false]) w := by kernel_rfl
theorem as_eitherShape_oneLetter (v : Value) (w : World) : (Instr.typeAssert (.iface 167 v) 107 170 true).run Try.prog w = .ok (.tuple #[.agg #[.int .u8 0], .bool false]) w := by kernel_rfl
theorem as_eitherShape_anyLetter (v : Value) (w : World) : (Instr.typeAssert (.iface 167 v) 107 173 true).run Try.prog w = .ok (.tuple #[.agg #[], .bool false]) w := by kernel_rfl
theorem as_eitherShape_thenShape (v : Value) (w : World) : (Instr.typeAssert (.iface 167 v) 107 166 true).run Try.prog w = .ok (.tuple #[.agg #[.nilIface, .nilIface], .bool false]) w := by kernel_rfl
theorem as_eitherShape_eitherShape (v : Value) (w : World) : (Instr.typeAssert (.iface 167 v) 107 167 true).run Try.prog w = .ok (.tuple #[v, .bool true]) w := by kernel_rfl
theorem as_eitherShape_manyShape (v : Value) (w : World) : (Instr.typeAssert (.iface 167 v) 107 164 true).run Try.prog w = .ok (.tuple #[.agg #[.nilIface], .bool false]) w := by kernel_rfl
theorem as_eitherShape_notShape (v : Value) (w : World) : (Instr.typeAssert (.iface 167 v) 107 168 true).run Try.prog w = .ok (.tuple #[.agg #[.nilIface], .bool false]) w := by kernel_rfl
theorem as_manyShape_noText (v : Value) (w : World) : (Instr.typeAssert (.iface 164 v) 107 175 true).run Try.prog w = .ok (.tuple #[.agg #[], .bool false]) w := by kernel_rfl
theorem as_manyShape_emptyText (v : Value) (w : World) : (Instr.typeAssert (.iface 164 v) 107 162 true).run Try.prog w = .ok (.tuple #[.agg #[], .bool false]) w := by kernel_rfl
theorem as_manyShape_oneLetter (v : Value) (w : World) : (Instr.typeAssert (.iface 164 v) 107 170 true).run Try.prog w = .ok (.tuple #[.agg #[.int .u8 0], .bool false]) w := by kernel_rfl
theorem as_manyShape_anyLetter (v : Value) (w : World) : (Instr.typeAssert (.iface 164 v) 107 173 true).run Try.prog w = .ok (.tuple #[.agg #[], .bool false]) w := by kernel_rfl
theorem as_manyShape_thenShape (v : Value) (w : World) : (Instr.typeAssert (.iface 164 v) 107 166 true).run Try.prog w = .ok (.tuple #[.agg #[.nilIface, .nilIface], .bool false]) w := by kernel_rfl
theorem as_manyShape_eitherShape (v : Value) (w : World) : (Instr.typeAssert (.iface 164 v) 107 167 true).run Try.prog w = .ok (.tuple #[.agg #[.nilIface, .nilIface], .bool false]) w := by kernel_rfl
theorem as_manyShape_manyShape (v : Value) (w : World) : (Instr.typeAssert (.iface 164 v) 107 164 true).run Try.prog w = .ok (.tuple #[v, .bool true]) w := by kernel_rfl
theorem as_manyShape_notShape (v : Value) (w : World) : (Instr.typeAssert (.iface 164 v) 107 168 true).run Try.prog w = .ok (.tuple #[.agg #[.nilIface], .bool false]) w := by kernel_rfl
theorem as_notShape_noText (v : Value) (w : World) : (Instr.typeAssert (.iface 168 v) 107 175 true).run Try.prog w = .ok (.tuple #[.agg #[], .bool false]) w := by kernel_rfl
theorem as_notShape_emptyText (v : Value) (w : World) : (Instr.typeAssert (.iface 168 v) 107 162 true).run Try.prog w = .ok (.tuple #[.agg #[], .bool false]) w := by kernel_rfl
theorem as_notShape_oneLetter (v : Value) (w : World) : (Instr.typeAssert (.iface 168 v) 107 170 true).run Try.prog w = .ok (.tuple #[.agg #[.int .u8 0], .bool false]) w := by kernel_rfl
theorem as_notShape_anyLetter (v : Value) (w : World) : (Instr.typeAssert (.iface 168 v) 107 173 true).run Try.prog w = .ok (.tuple #[.agg #[], .bool false]) w := by kernel_rfl
theorem as_notShape_thenShape (v : Value) (w : World) : (Instr.typeAssert (.iface 168 v) 107 166 true).run Try.prog w = .ok (.tuple #[.agg #[.nilIface, .nilIface], .bool false]) w := by kernel_rfl
theorem as_notShape_eitherShape (v : Value) (w : World) : (Instr.typeAssert (.iface 168 v) 107 167 true).run Try.prog w = .ok (.tuple #[.agg #[.nilIface, .nilIface], .bool false]) w := by kernel_rfl
theorem as_notShape_manyShape (v : Value) (w : World) : (Instr.typeAssert (.iface 168 v) 107 164 true).run Try.prog w = .ok (.tuple #[.agg #[.nilIface], .bool false]) w := by kernel_rfl
theorem as_notShape_notShape (v : Value) (w : World) : (Instr.typeAssert (.iface 168 v) 107 168 true).run Try.prog w = .ok (.tuple #[v, .bool true]) w := by kernel_rfl
end Go.Proofs.Ytapffbbmofhpoab.L5

namespace Go.Proofs.Ytapffbbmofhpoab.L5
open Go.RowKit L1 L4
set_option linter.unusedVariables false
attribute [local go_sem] mk_noText mk_emptyText mk_oneLetter mk_anyLetter mk_thenShape mk_eitherShape mk_manyShape mk_notShape as_noText_noText as_noText_emptyText as_noText_oneLetter as_noText_anyLetter as_noText_thenShape as_noText_eitherShape as_noText_manyShape as_noText_notShape as_emptyText_noText as_emptyText_emptyText as_emptyText_oneLetter as_emptyText_anyLetter as_emptyText_thenShape as_emptyText_eitherShape as_emptyText_manyShape as_emptyText_notShape as_oneLetter_noText as_oneLetter_emptyText as_oneLetter_oneLetter as_oneLetter_anyLetter as_oneLetter_thenShape as_oneLetter_eitherShape as_oneLetter_manyShape as_oneLetter_notShape as_anyLetter_noText as_anyLetter_emptyText as_anyLetter_oneLetter as_anyLetter_anyLetter as_anyLetter_thenShape as_anyLetter_eitherShape as_anyLetter_manyShape as_anyLetter_notShape as_thenShape_noText as_thenShape_emptyText as_thenShape_oneLetter as_thenShape_anyLetter as_thenShape_thenShape as_thenShape_eitherShape as_thenShape_manyShape as_thenShape_notShape as_eitherShape_noText as_eitherShape_emptyText as_eitherShape_oneLetter as_eitherShape_anyLetter as_eitherShape_thenShape as_eitherShape_eitherShape as_eitherShape_manyShape as_eitherShape_notShape as_manyShape_noText as_manyShape_emptyText as_manyShape_oneLetter as_manyShape_anyLetter as_manyShape_thenShape as_manyShape_eitherShape as_manyShape_manyShape as_manyShape_notShape as_notShape_noText as_notShape_emptyText as_notShape_oneLetter as_notShape_anyLetter as_notShape_thenShape as_notShape_eitherShape as_notShape_manyShape as_notShape_notShape
theorem ret_boolE {bb c : Bool} (h : c = bb) : Ending.returned (.bool c) = .returned (.bool bb) := by rw [h]
set_option maxRecDepth 100000 in
set_option maxHeartbeats 4000000 in
theorem hasEmpty_any : ∀ (x : Sh) (w : World), Calls Try.prog 89 #[sv x] w fun e w' => e = .returned (.bool (nul x)) ∧ Below w.heap.size w w'
  | .none, w => by
    show Calls Try.prog 89 #[.iface 175 (.agg #[])] w _
    go_enter Try.func89, Try.ntmps89
    go_wp2
    go_ret
    exact ⟨rfl, Below.refl _ _⟩
  | .empty, w => by
    show Calls Try.prog 89 #[.iface 162 (.agg #[])] w _
    go_enter Try.func89, Try.ntmps89
    go_wp2
    go_ret
    exact ⟨rfl, Below.refl _ _⟩
  | .letter c, w => by
    show Calls Try.prog 89 #[.iface 170 (.agg #[.int .u8 c])] w _
    go_enter Try.func89, Try.ntmps89
    go_wp2
    go_ret
    exact ⟨rfl, Below.refl _ _⟩
  | .any, w => by
    show Calls Try.prog 89 #[.iface 173 (.agg #[])] w _
    go_enter Try.func89, Try.ntmps89
    go_wp2
    go_ret
    exact ⟨rfl, Below.refl _ _⟩
  | .seq a b, w => by
    have IA := hide (hasEmpty_any a)
    have IB := hide (hasEmpty_any b)
    show Calls Try.prog 89 #[.iface 166 (.agg #[sv a, sv b])] w _
    have HB0 := hide ((Below.refl w.heap.size w).alloc (Nat.le_refl _) (.cells #[sv a, sv b] 166))
    have HC : Hid ((w.alloc (.cells #[sv a, sv b] 166)).cell? ⟨w.heap.size, 1, none⟩ = some (sv b)) := by refine hide ?_; simp
    have HL : Hid (w.heap.size < (w.alloc (.cells #[sv a, sv b] 166)).heap.size) := by refine hide ?_; simp
    cases ha : nul a with
    | true =>
      have HA := hide ha
      clear ha
      go_enter Try.func89, Try.ntmps89
      go_wp2_with fail
      refine (IA.out _).mono ?_
      rintro e w1 ⟨rfl, hb1⟩
      rw [HA.out]
      have hc := (hb1.cell (p := ⟨w.heap.size, 1, none⟩) HL.out).trans HC.out
      have B1 := hide (HB0.out.trans (hb1.mono HB0.out.size))
      clear hb1
      go_wp2_with fail
      refine (IB.out _).mono ?_
      rintro e w2 ⟨rfl, hb2⟩
      have B2 := hide (B1.out.trans (hb2.mono B1.out.size))
      clear hb2
      go_wp2
      go_ret
      exact ⟨ret_boolE (by simp [nul, HA.out]), B2.out⟩
    | false =>
      have HA := hide ha
      clear ha
      go_enter Try.func89, Try.ntmps89
      go_wp2_with fail
      refine (IA.out _).mono ?_
      rintro e w1 ⟨rfl, hb1⟩
      rw [HA.out]
      have B1 := hide (HB0.out.trans (hb1.mono HB0.out.size))
      clear hb1
      go_wp2
      go_ret
      exact ⟨ret_boolE (by simp [nul, HA.out]), B1.out⟩
  | .alt a b, w => by
    have IA := hide (hasEmpty_any a)
    have IB := hide (hasEmpty_any b)
    show Calls Try.prog 89 #[.iface 167 (.agg #[sv a, sv b])] w _
    have HB0 := hide ((Below.refl w.heap.size w).alloc (Nat.le_refl _) (.cells #[sv a, sv b] 167))
    have HC : Hid ((w.alloc (.cells #[sv a, sv b] 167)).cell? ⟨w.heap.size, 1, none⟩ = some (sv b)) := by refine hide ?_; simp
    have HL : Hid (w.heap.size < (w.alloc (.cells #[sv a, sv b] 167)).heap.size) := by refine hide ?_; simp
    cases ha : nul a with
    | false =>
      have HA := hide ha
      clear ha
      go_enter Try.func89, Try.ntmps89
      go_wp2_with fail
      refine (IA.out _).mono ?_
      rintro e w1 ⟨rfl, hb1⟩
      rw [HA.out]
      have hc := (hb1.cell (p := ⟨w.heap.size, 1, none⟩) HL.out).trans HC.out
      have B1 := hide (HB0.out.trans (hb1.mono HB0.out.size))
      clear hb1
      go_wp2_with fail
      refine (IB.out _).mono ?_
      rintro e w2 ⟨rfl, hb2⟩
      have B2 := hide (B1.out.trans (hb2.mono B1.out.size))
      clear hb2
      go_wp2
      go_ret
      exact ⟨ret_boolE (by simp [nul, HA.out]), B2.out⟩
    | true =>
      have HA := hide ha
      clear ha
      go_enter Try.func89, Try.ntmps89
      go_wp2_with fail
      refine (IA.out _).mono ?_
      rintro e w1 ⟨rfl, hb1⟩
      rw [HA.out]
      have B1 := hide (HB0.out.trans (hb1.mono HB0.out.size))
      clear hb1
      go_wp2
      go_ret
      exact ⟨ret_boolE (by simp [nul, HA.out]), B1.out⟩
  | .many a, w => by
    show Calls Try.prog 89 #[.iface 164 (.agg #[sv a])] w _
    go_enter Try.func89, Try.ntmps89
    go_wp2
    go_ret
    exact ⟨rfl, Below.refl _ _⟩
  | .inv a, w => by
    have IA := hide (hasEmpty_any a)
    show Calls Try.prog 89 #[.iface 168 (.agg #[sv a])] w _
    have HB0 := hide ((Below.refl w.heap.size w).alloc (Nat.le_refl _) (.cells #[sv a] 168))
    go_enter Try.func89, Try.ntmps89
    go_wp2_with fail
    refine (IA.out _).mono ?_
    rintro e w1 ⟨rfl, hb1⟩
    have B1 := hide (HB0.out.trans (hb1.mono HB0.out.size))
    clear hb1
    go_wp2
    go_ret
    exact ⟨rfl, B1.out⟩
end Go.Proofs.Ytapffbbmofhpoab.L5

namespace Go.Proofs.Ytapffbbmofhpoab.L5
open Go.RowKit L1 L4
set_option linter.unusedVariables false

theorem bts_at (s : ByteArray) (k : Nat) (h : k < s.size) : (bts s 0).getD k 0 = ((s[k]'h).toNat : Int) := by
  have := bts_get s 0 k (by omega)
  simp only [Nat.zero_add] at this
  exact this
def okc (b : Int) : Prop := 97 ≤ b ∧ b ≤ 122
instance (b : Int) : Decidable (okc b) := by unfold okc; infer_instance
/-- A text of letters alone. -/
def Let (s : ByteArray) : Prop := ∀ k, k < s.size → okc ((bts s 0).getD k 0)
set_option maxRecDepth 100000 in
set_option maxHeartbeats 400000 in
theorem isLetter_any (r : Int) (w : World) (bb : Bool) (hb : bb = true ↔ okc r) :
    Calls Try.prog 93 #[.int .i32 r] w fun e w' => e = .returned (.bool bb) ∧ w = w' := by
  by_cases h1 : 97 ≤ r
  · by_cases h2 : r ≤ 122
    · obtain rfl : bb = true := hb.2 ⟨h1, h2⟩
      clear hb
      go_enter Try.func93, Try.ntmps93
      go_wp2
      go_ret
      exact ⟨rfl, rfl⟩
    · obtain rfl : bb = false := bool_noT hb (fun h => h2 h.2)
      clear hb
      go_enter Try.func93, Try.ntmps93
      go_wp2
      go_ret
      exact ⟨by first | rfl | simp [h2], rfl⟩
  · obtain rfl : bb = false := bool_noT hb (fun h => h1 h.1)
    clear hb
    go_enter Try.func93, Try.ntmps93
    go_wp2
    go_ret
    exact ⟨by first | rfl | simp [h1], rfl⟩
set_option maxRecDepth 100000 in
set_option maxHeartbeats 1000000 in
theorem isFitted_any (s : ByteArray) (w : World) (hs : s.size ≤ 9223372036854775807) (bb : Bool) (hbb : bb = true ↔ s.size ≤ 12 ∧ Let s) :
    Calls Try.prog 82 #[.string s] w fun e w' => e = .returned (.bool bb) ∧ Below w.heap.size w w' := by
  have HBB := hide hbb
  clear hbb
  by_cases h8 : 12 < (s.size : Int)
  · have E := hide (bool_noT HBB.out (fun h => by have := h.1; omega))
    go_enter Try.func82, Try.ntmps82
    go_wp2
    go_ret
    exact ⟨by rw [E.out]; rfl, Below.refl _ _⟩
  · go_enter Try.func82, Try.ntmps82
    go_wp2
    go_loopw [] (fun w' => ∃ pos : Nat, w' = w.iter s pos ∧ pos ≤ s.size ∧ Hid (∀ k, k < pos → okc ((bts s 0).getD k 0))) (fun w' => s.size - w'.iterPos w.heap.size)
    case atStart => exact ⟨0, rfl, Nat.zero_le _, fun k hk => absurd hk (Nat.not_lt_zero _)⟩
    case round =>
      obtain ⟨pos, rfl, hpos, HJ⟩ := hrel
      by_cases hp : pos < s.size
      · have hnx : ∀ ty, (Instr.next (.pointer (some ⟨w.heap.size, 0, none⟩)) true ty).run Try.prog (w.iter s pos) = _ := fun ty => run_next_any w s pos ty hp
        have hdec : okc ((Utf8.decode s pos).1 : Nat) → (Utf8.decode s pos).2 = 1 ∧ ((Utf8.decode s pos).1 : Int) = (bts s 0).getD pos 0 := fun h => by
          by_cases ha : (s[pos]'hp).toNat < 128
          · rw [decode_ascii s pos hp ha, bts_at s pos hp]; simp
          · have := (decode_high s pos hp (by omega)).1
            unfold okc at h
            omega
        have hdec2 : okc ((bts s 0).getD pos 0) → okc ((Utf8.decode s pos).1 : Nat) := fun h => by
          rw [bts_at s pos hp] at h
          have ha : (s[pos]'hp).toNat < 128 := by unfold okc at h; omega
          rw [decode_ascii s pos hp ha]
          exact h
        obtain ⟨r, hr⟩ : ∃ r, r = (Utf8.decode s pos).1 := ⟨_, rfl⟩
        obtain ⟨wd, hwd⟩ : ∃ wd, wd = (Utf8.decode s pos).2 := ⟨_, rfl⟩
        rw [← hr, ← hwd] at hdec hnx
        rw [← hr] at hdec2
        by_cases hok : okc (r : Int)
        · have C := hide (fun w => isLetter_any (r : Int) w true (by simp [hok]))
          have HD := hide (hdec hok)
          have HOK := hide hok
          clear hr hwd hdec hdec2 hok
          go_wp2_with fail
          refine (C.out _).mono ?_
          rintro e w1 ⟨rfl, rfl⟩
          go_wp2
          go_roundw
          case rel =>
            refine ⟨pos + 1, by rw [HD.out.1], by omega, ?_⟩
            intro k hk
            by_cases e : k = pos
            · subst e; rw [← HD.out.2]; exact HOK.out
            · exact HJ.out k (by omega)
          case measure =>
            have := HD.out.1
            simp
            omega
        · have C := hide (fun w => isLetter_any (r : Int) w false (by simp [hok]))
          have E := hide (bool_noT HBB.out (fun h => hok (hdec2 (h.2 pos hp))))
          clear hr hwd hdec hdec2 hok
          go_wp2_with fail
          refine (C.out _).mono ?_
          rintro e w1 ⟨rfl, rfl⟩
          go_wp2
          go_ret
          exact ⟨by rw [E.out]; rfl, (Below.refl _ _).alloc (Nat.le_refl _) _⟩
      · have hnx : ∀ ty, (Instr.next (.pointer (some ⟨w.heap.size, 0, none⟩)) true ty).run Try.prog (w.iter s pos) = _ := fun ty => run_next_end w s pos ty hp
        have E := hide (HBB.out.2 ⟨by omega, fun k hk => HJ.out k (by omega)⟩)
        go_wp2
        go_ret
        exact ⟨by rw [E.out]; rfl, (Below.refl _ _).alloc (Nat.le_refl _) _⟩
set_option maxRecDepth 100000 in
set_option maxHeartbeats 1000000 in
theorem l5Letters_any (s : ByteArray) (w : World) (hs : s.size ≤ 9223372036854775807) (bb : Bool) (hbb : bb = true ↔ Let s) :
    Calls Try.prog 131 #[.string s] w fun e w' => e = .returned (.bool bb) ∧ w = w' := by
  have HBB := hide hbb
  clear hbb
  go_enter Try.func131, Try.ntmps131
  go_wp2
  go_loop [3] (fun i => ∃ k : Nat, k ≤ s.size ∧ i = .int .i64 k ∧ Hid (∀ j, j < k → okc ((bts s 0).getD j 0))) (fun i => s.size - (intOf i).toNat)
  case atStart => exact ⟨0, by omega, rfl, fun k hk => absurd hk (Nat.not_lt_zero _)⟩
  case round =>
    obtain ⟨k, hk, rfl, HJ⟩ := hrel
    by_cases hlt : k < s.size
    · have hltI : (k : Int) < (s.size : Int) := by omega
      have hb := (bts_at s k hlt).symm
      obtain ⟨c, hc⟩ : ∃ c, c = (bts s 0).getD k 0 := ⟨_, rfl⟩
      rw [← hc] at hb
      have HC := hide hc.symm
      clear hc
      by_cases h1 : c < 97
      · have E := hide (bool_noT HBB.out (fun h => by have := h k hlt; rw [HC.out] at this; unfold okc at this; omega))
        go_wp2
        go_ret
        exact ⟨by rw [E.out]; rfl, rfl⟩
      by_cases h2 : 122 < c
      · have E := hide (bool_noT HBB.out (fun h => by have := h k hlt; rw [HC.out] at this; unfold okc at this; omega))
        go_wp2
        go_ret
        exact ⟨by rw [E.out]; rfl, rfl⟩
      have HOK := hide (show okc c from ⟨by omega, by omega⟩)
      go_wp2
      go_round
      case rel =>
        refine ⟨k + 1, by omega, by go_num, ?_⟩
        intro j hj
        by_cases e : j = k
        · subst e; rw [HC.out]; exact HOK.out
        · exact HJ.out j (by omega)
      case measure => simp [intOf]; omega
    · have hltI : ¬ (k : Int) < (s.size : Int) := by omega
      have E := hide (HBB.out.2 (fun j hj => HJ.out j (by omega)))
      go_wp2
      go_ret
      exact ⟨by rw [E.out]; rfl, rfl⟩
set_option maxRecDepth 100000 in
set_option maxHeartbeats 400000 in
theorem isAhead_any (x at_ : Int) (w : World) (bb : Bool) (hbb : bb = true ↔ 0 ≤ x ∧ x < at_) :
    Calls Try.prog 119 #[.int .i64 x, .int .i64 at_] w fun e w' => e = .returned (.bool bb) ∧ w = w' := by
  by_cases h1 : 0 ≤ x
  · by_cases h2 : x < at_
    · obtain rfl : bb = true := hbb.2 ⟨h1, h2⟩
      clear hbb
      go_enter Try.func119, Try.ntmps119
      go_wp2
      go_ret
      exact ⟨rfl, rfl⟩
    · obtain rfl : bb = false := bool_noT hbb (fun h => h2 h.2)
      clear hbb
      go_enter Try.func119, Try.ntmps119
      go_wp2
      go_ret
      exact ⟨rfl, rfl⟩
  · obtain rfl : bb = false := bool_noT hbb (fun h => h1 h.1)
    clear hbb
    go_enter Try.func119, Try.ntmps119
    go_wp2
    go_ret
    exact ⟨rfl, rfl⟩
set_option maxRecDepth 100000 in
set_option maxHeartbeats 400000 in
theorem l5Two_any (k : Int) (w : World) (bb : Bool) (hbb : bb = true ↔ k = 5 ∨ k = 6) :
    Calls Try.prog 129 #[.int .i64 k] w fun e w' => e = .returned (.bool bb) ∧ w = w' := by
  by_cases h5 : k = 5
  · obtain rfl : bb = true := hbb.2 (.inl h5)
    subst h5
    clear hbb
    go_enter Try.func129, Try.ntmps129
    go_wp2
    go_ret
    exact ⟨rfl, rfl⟩
  · have e5 : (k == 5) = false := by simpa using h5
    have E : Hid ((k == 6) = bb) := by
      refine hide ?_
      by_cases h6 : k = 6
      · rw [hbb.2 (.inr h6)]; simpa using h6
      · rw [bool_noT hbb (fun h => by omega)]; simpa using h6
    clear hbb
    go_enter Try.func129, Try.ntmps129
    go_wp2
    go_ret
    exact ⟨ret_bool E.out, rfl⟩
set_option maxRecDepth 100000 in
set_option maxHeartbeats 400000 in
theorem l5One_any (k : Int) (w : World) (bb : Bool) (hbb : bb = true ↔ k = 7 ∨ k = 8) :
    Calls Try.prog 130 #[.int .i64 k] w fun e w' => e = .returned (.bool bb) ∧ w = w' := by
  by_cases h5 : k = 7
  · obtain rfl : bb = true := hbb.2 (.inl h5)
    subst h5
    clear hbb
    go_enter Try.func130, Try.ntmps130
    go_wp2
    go_ret
    exact ⟨rfl, rfl⟩
  · have e5 : (k == 7) = false := by simpa using h5
    have E : Hid ((k == 8) = bb) := by
      refine hide ?_
      by_cases h6 : k = 8
      · rw [hbb.2 (.inr h6)]; simpa using h6
      · rw [bool_noT hbb (fun h => by omega)]; simpa using h6
    clear hbb
    go_enter Try.func130, Try.ntmps130
    go_wp2
    go_ret
    exact ⟨ret_bool E.out, rfl⟩
end Go.Proofs.Ytapffbbmofhpoab.L5

namespace Go.Proofs.Ytapffbbmofhpoab.L5
open Go.RowKit L1 L4
set_option linter.unusedVariables false

/-- A tree's node lies in a block of its own. -/
structure AtF (w : World) (g : Nat) (k : Int) (t : ByteArray) (pa pb : Option Addr) : Prop where
  k : w.cell? ⟨g, 0, none⟩ = some (.int .i64 k)
  t : w.cell? ⟨g, 1, none⟩ = some (.string t)
  a : w.cell? ⟨g, 2, none⟩ = some (.pointer pa)
  b : w.cell? ⟨g, 3, none⟩ = some (.pointer pb)
theorem AtF.base {w w' : World} {g B : Nat} {k : Int} {t : ByteArray} {pa pb : Option Addr} (h : AtF w g k t pa pb) (hb : Below B w w') (hB : g < B) : AtF w' g k t pa pb :=
  ⟨(hb.cell (p := ⟨g, 0, none⟩) hB).trans h.k, (hb.cell (p := ⟨g, 1, none⟩) hB).trans h.t, (hb.cell (p := ⟨g, 2, none⟩) hB).trans h.a, (hb.cell (p := ⟨g, 3, none⟩) hB).trans h.b⟩
/-- The text that a node bears. -/
def nt : Sh → ByteArray
  | .letter c => one c
  | _ => ByteArray.empty
/-- A pointer leads to a tree of that shape, its nodes in blocks of a kind. -/
def Tr (w : World) (S : Nat → Prop) : Option Addr → Sh → Prop
  | p, .seq a b => ∃ g pa pb, p = some ⟨g, 0, none⟩ ∧ S g ∧ AtF w g 5 ByteArray.empty pa pb ∧ Tr w S pa a ∧ Tr w S pb b
  | p, .alt a b => ∃ g pa pb, p = some ⟨g, 0, none⟩ ∧ S g ∧ AtF w g 6 ByteArray.empty pa pb ∧ Tr w S pa a ∧ Tr w S pb b
  | p, .many a => ∃ g pa pb, p = some ⟨g, 0, none⟩ ∧ S g ∧ AtF w g 7 ByteArray.empty pa pb ∧ Tr w S pa a
  | p, .inv a => ∃ g pa pb, p = some ⟨g, 0, none⟩ ∧ S g ∧ AtF w g 8 ByteArray.empty pa pb ∧ Tr w S pa a
  | p, .letter c => ∃ g pa pb, p = some ⟨g, 0, none⟩ ∧ S g ∧ AtF w g 3 (one c) pa pb
  | p, .none => ∃ g pa pb, p = some ⟨g, 0, none⟩ ∧ S g ∧ AtF w g 1 ByteArray.empty pa pb
  | p, .empty => ∃ g pa pb, p = some ⟨g, 0, none⟩ ∧ S g ∧ AtF w g 2 ByteArray.empty pa pb
  | p, .any => ∃ g pa pb, p = some ⟨g, 0, none⟩ ∧ S g ∧ AtF w g 4 ByteArray.empty pa pb
/-- Whatever keeps the nodes keeps the trees. -/
theorem Tr.keep {w w' : World} {S S' : Nat → Prop} (hk : ∀ g k t pa pb, S g → AtF w g k t pa pb → S' g ∧ AtF w' g k t pa pb) : ∀ (x : Sh) (p : Option Addr), Tr w S p x → Tr w' S' p x
  | .seq a b, p, ⟨g, pa, pb, e, hs, h, ha, hb⟩ => ⟨g, pa, pb, e, (hk _ _ _ _ _ hs h).1, (hk _ _ _ _ _ hs h).2, Tr.keep hk a pa ha, Tr.keep hk b pb hb⟩
  | .alt a b, p, ⟨g, pa, pb, e, hs, h, ha, hb⟩ => ⟨g, pa, pb, e, (hk _ _ _ _ _ hs h).1, (hk _ _ _ _ _ hs h).2, Tr.keep hk a pa ha, Tr.keep hk b pb hb⟩
  | .many a, p, ⟨g, pa, pb, e, hs, h, ha⟩ => ⟨g, pa, pb, e, (hk _ _ _ _ _ hs h).1, (hk _ _ _ _ _ hs h).2, Tr.keep hk a pa ha⟩
  | .inv a, p, ⟨g, pa, pb, e, hs, h, ha⟩ => ⟨g, pa, pb, e, (hk _ _ _ _ _ hs h).1, (hk _ _ _ _ _ hs h).2, Tr.keep hk a pa ha⟩
  | .letter c, p, ⟨g, pa, pb, e, hs, h⟩ => ⟨g, pa, pb, e, (hk _ _ _ _ _ hs h).1, (hk _ _ _ _ _ hs h).2⟩
  | .none, p, ⟨g, pa, pb, e, hs, h⟩ => ⟨g, pa, pb, e, (hk _ _ _ _ _ hs h).1, (hk _ _ _ _ _ hs h).2⟩
  | .empty, p, ⟨g, pa, pb, e, hs, h⟩ => ⟨g, pa, pb, e, (hk _ _ _ _ _ hs h).1, (hk _ _ _ _ _ hs h).2⟩
  | .any, p, ⟨g, pa, pb, e, hs, h⟩ => ⟨g, pa, pb, e, (hk _ _ _ _ _ hs h).1, (hk _ _ _ _ _ hs h).2⟩
theorem Tr.below {w w' : World} {S : Nat → Prop} {x : Sh} {p : Option Addr} (h : Tr w S p x) (hb : Below w.heap.size w w') : Tr w' S p x :=
  Tr.keep (fun g k t pa pb hs h => ⟨hs, h.base hb (blk_lt h.k)⟩) x p h
theorem Tr.mono {w : World} {S S' : Nat → Prop} {x : Sh} {p : Option Addr} (h : Tr w S p x) (hs : ∀ g, S g → S' g) : Tr w S' p x :=
  Tr.keep (fun g k t pa pb h1 h => ⟨hs g h1, h⟩) x p h
theorem Tr.lt {w : World} {S : Nat → Prop} {x : Sh} {p : Option Addr} (h : Tr w S p x) : Tr w (fun g => S g ∧ g < w.heap.size) p x :=
  Tr.keep (fun g k t pa pb h1 h => ⟨⟨h1, blk_lt h.k⟩, h⟩) x p h
theorem AtF.set {w : World} {g : Nat} {k : Int} {t : ByteArray} {pa pb : Option Addr} (h : AtF w g k t pa pb) {p : Addr} (hne : g ≠ p.block) (u : Value) : AtF (w.setCell p u) g k t pa pb := by
  have e : ∀ j, (w.setCell p u).cell? ⟨g, j, none⟩ = w.cell? ⟨g, j, none⟩ := fun j => World.cell?_of_block (w := w) (Below.heap_setCell w p u g hne)
  exact ⟨(e 0).trans h.k, (e 1).trans h.t, (e 2).trans h.a, (e 3).trans h.b⟩
theorem Tr.set {w : World} {S : Nat → Prop} {x : Sh} {q : Option Addr} (h : Tr w S q x) {p : Addr} (hne : ∀ g, S g → g ≠ p.block) (u : Value) : Tr (w.setCell p u) S q x :=
  Tr.keep (fun g k t pa pb hs h => ⟨hs, h.set (hne g hs) u⟩) x q h
theorem AtP.set {w : World} {g o : Nat} {x : Pr} (h : AtP w g o x) {p : Addr} (hne : g ≠ p.block) (u : Value) : AtP (w.setCell p u) g o x := by
  have e : ∀ j, (w.setCell p u).cell? ⟨g, j, none⟩ = w.cell? ⟨g, j, none⟩ := fun j => World.cell?_of_block (w := w) (Below.heap_setCell w p u g hne)
  exact ⟨(e _).trans h.k, (e _).trans h.t, (e _).trans h.a, (e _).trans h.b⟩
/-- A tree's first node. -/
theorem Tr.node {w : World} {S : Nat → Prop} : ∀ {x : Sh} {p : Option Addr}, Tr w S p x → ∃ g pa pb, p = some ⟨g, 0, none⟩ ∧ S g ∧ AtF w g (kd x) (nt x) pa pb
  | .seq a b, p, ⟨g, pa, pb, e, hs, h, _, _⟩ => ⟨g, pa, pb, e, hs, h⟩
  | .alt a b, p, ⟨g, pa, pb, e, hs, h, _, _⟩ => ⟨g, pa, pb, e, hs, h⟩
  | .many a, p, ⟨g, pa, pb, e, hs, h, _⟩ => ⟨g, pa, pb, e, hs, h⟩
  | .inv a, p, ⟨g, pa, pb, e, hs, h, _⟩ => ⟨g, pa, pb, e, hs, h⟩
  | .letter c, p, ⟨g, pa, pb, e, hs, h⟩ => ⟨g, pa, pb, e, hs, h⟩
  | .none, p, ⟨g, pa, pb, e, hs, h⟩ => ⟨g, pa, pb, e, hs, h⟩
  | .empty, p, ⟨g, pa, pb, e, hs, h⟩ => ⟨g, pa, pb, e, hs, h⟩
  | .any, p, ⟨g, pa, pb, e, hs, h⟩ => ⟨g, pa, pb, e, hs, h⟩
/-- A tree that a call hands back, in new memory. -/
def RetT (w : World) (x : Sh) (e : Ending) (w' : World) : Prop := ∃ p, e = .returned (.pointer p) ∧ Tr w' (fun g => w.heap.size ≤ g) p x ∧ Below w.heap.size w w'
/-- A tree that a call hands back, somewhere. -/
def RetU (w : World) (x : Sh) (e : Ending) (w' : World) : Prop := ∃ p, e = .returned (.pointer p) ∧ Tr w' (fun _ => True) p x ∧ Below w.heap.size w w'
/-- A node's block, whole. -/
def FB (w : World) (g : Nat) (k : Int) (t : ByteArray) (pa pb : Option Addr) : Prop := w.heap[g]? = some (.cells #[.int .i64 k, .string t, .pointer pa, .pointer pb] 160 (0, 0))
theorem FB.new (w : World) (k : Int) (t : ByteArray) (pa pb : Option Addr) : FB (w.alloc (.cells #[.int .i64 k, .string t, .pointer pa, .pointer pb] 160)) w.heap.size k t pa pb := by
  unfold FB
  show (w.heap.push _)[w.heap.size]? = _
  exact Array.getElem?_push_size
theorem FB.newAt (w : World) (g : Nat) (k : Int) (t : ByteArray) (pa pb : Option Addr) (hg : w.heap.size = g) : FB (w.alloc (.cells #[.int .i64 k, .string t, .pointer pa, .pointer pb] 160)) g k t pa pb := by
  subst hg
  exact FB.new w k t pa pb
theorem FB.lt {w : World} {g : Nat} {k : Int} {t : ByteArray} {pa pb : Option Addr} (h : FB w g k t pa pb) : g < w.heap.size := (Array.getElem?_eq_some_iff.1 h).1
theorem FB.at {w : World} {g : Nat} {k : Int} {t : ByteArray} {pa pb : Option Addr} (h : FB w g k t pa pb) : AtF w g k t pa pb :=
  ⟨Lib.cell_of_heap h 0, Lib.cell_of_heap h 1, Lib.cell_of_heap h 2, Lib.cell_of_heap h 3⟩
theorem FB.frozen {w : World} {g : Nat} {k : Int} {t : ByteArray} {pa pb : Option Addr} (h : FB w g k t pa pb) (j : Nat) : w.frozen? ⟨g, j, none⟩ = false := Lib.frozen_of_heap h j
theorem FB.below {w w' : World} {g : Nat} {k : Int} {t : ByteArray} {pa pb : Option Addr} (h : FB w g k t pa pb) (hb : Below w.heap.size w w') : FB w' g k t pa pb := (hb.block g h.lt).trans h
theorem FB.setB {w : World} {g : Nat} {k : Int} {t : ByteArray} {pa pb : Option Addr} (h : FB w g k t pa pb) (q : Option Addr) : FB (w.setCell ⟨g, 3, none⟩ (.pointer q)) g k t pa q := by
  have h1 := heap_setCell_same w g 3 _ _ (.pointer q) h
  unfold FB
  rw [h1]
  rfl
theorem FB.setA {w : World} {g : Nat} {k : Int} {t : ByteArray} {pa pb : Option Addr} (h : FB w g k t pa pb) (q : Option Addr) : FB (w.setCell ⟨g, 2, none⟩ (.pointer q)) g k t q pb := by
  have h1 := heap_setCell_same w g 2 _ _ (.pointer q) h
  unfold FB
  rw [h1]
  rfl
theorem FB.setK {w : World} {g : Nat} {k : Int} {t : ByteArray} {pa pb : Option Addr} (h : FB w g k t pa pb) (q : Int) : FB (w.setCell ⟨g, 0, none⟩ (.int .i64 q)) g q t pa pb := by
  have h1 := heap_setCell_same w g 0 _ _ (.int .i64 q) h
  unfold FB
  rw [h1]
  rfl
/-- The tree of a part, by its kind. -/
theorem l5Tree_leaf (k : Int) (hk : k = 1 ∨ k = 2 ∨ k = 3 ∨ k = 4) (a : Option Addr) (l : List Pr) (n cap i : Nat) (w : World) (hn : l.length = n) (hi : i < n) (hs : SlP w a l) (hp : (l.getD i eP).k = k) (x : Sh)
    (hx : ∀ (w' : World) (g : Nat), AtF w' g k (l.getD i eP).t none none → w.heap.size ≤ g → Tr w' (fun g => w.heap.size ≤ g) (some ⟨g, 0, none⟩) x) :
    Calls Try.prog 88 #[.slice a n cap, .int .i64 (i : Int)] w fun e w' => RetT w x e w' := by
  obtain ⟨b, off, rfl, hA⟩ := hs i (by omega)
  have C5 := hide (fun w => l5Two_any k w false (iff_of_false (by simp) (by omega)))
  have C7 := hide (fun w => l5One_any k w false (iff_of_false (by simp) (by omega)))
  obtain ⟨⟨pk, pt, pa, pb⟩, hpe⟩ : ∃ p, p = l.getD i eP := ⟨_, rfl⟩
  rw [← hpe] at hA hp hx
  simp only at hp hx
  subst hp
  have hc0 := hA.k
  have hc1 := hA.t
  have hc2 := hA.a
  have hc3 := hA.b
  simp only at hc0 hc1 hc2 hc3
  have hiI : (i : Int) < (n : Int) := by omega
  have HX := hide hx
  clear hA hpe hx hk
  go_enter Try.func88, Try.ntmps88
  go_wp2_with fail
  refine (C5.out _).mono ?_
  rintro e w1 ⟨rfl, rfl⟩
  go_wp2_with fail
  refine (C5.out _).mono ?_
  rintro e w1 ⟨rfl, rfl⟩
  go_wp2_with fail
  refine (C7.out _).mono ?_
  rintro e w1 ⟨rfl, rfl⟩
  go_wp2
  go_ret
  refine ⟨_, rfl, HX.out _ _ ?_ (by simp), ((Below.refl _ _).alloc (Nat.le_refl _) _).alloc (by simp) _⟩
  exact (FB.newAt _ _ _ _ _ _ (by simp)).at
set_option maxRecDepth 100000 in
set_option maxHeartbeats 4000000 in
theorem l5Tree_two (a : Option Addr) (l : List Pr) (n cap i qa qb : Nat) (w : World) (hn : l.length = n) (hi : i < n) (hs : SlP w a l) (HK : (l.getD i eP).k = 5 ∨ (l.getD i eP).k = 6) (HT : (l.getD i eP).t = ByteArray.empty ∧ (l.getD i eP).a = (qa : Int) ∧ (l.getD i eP).b = (qb : Int)) (xa xb X : Sh)
    (HX : ∀ (w' : World) (S : Nat → Prop) (g : Nat) (pa pb : Option Addr), S g → AtF w' g (l.getD i eP).k ByteArray.empty pa pb → Tr w' S pa xa → Tr w' S pb xb → Tr w' S (some ⟨g, 0, none⟩) X)
    (ca : ∀ w, SlP w a l → Calls Try.prog 88 #[.slice a n cap, .int .i64 (qa : Int)] w fun e w' => RetT w xa e w')
    (cb : ∀ w, SlP w a l → Calls Try.prog 88 #[.slice a n cap, .int .i64 (qb : Int)] w fun e w' => RetT w xb e w') :
    Calls Try.prog 88 #[.slice a n cap, .int .i64 (i : Int)] w fun e w' => RetT w X e w' := by
  obtain ⟨b, off, rfl, hA⟩ := hs i (by omega)
  have HAB : Hid (b < w.heap.size) := hide (blk_lt hA.k)
  obtain ⟨⟨pk, pt, pa, pb⟩, hpe⟩ : ∃ p, p = l.getD i eP := ⟨_, rfl⟩
  rw [← hpe] at hA HK HT HX
  simp only at HK HT HX
  replace HX := hide HX
  have hc0 := hA.k
  have hc1 := hA.t
  have hc2 := hA.a
  have hc3 := hA.b
  simp only at hc0 hc1 hc2 hc3
  have hiI : (i : Int) < (n : Int) := by omega
  have HS := hide hs
  clear hA hs
  obtain ⟨rfl, rfl, rfl⟩ := HT
  have C5 := hide (fun w => l5Two_any pk w true (iff_of_true rfl HK))
  have CA := hide ca
  have CB := hide cb
  have HKK := hide HK
  clear hpe ca cb HK
  obtain ⟨pt, hpt⟩ : ∃ t, t = ByteArray.empty := ⟨_, rfl⟩
  rw [← hpt] at hc1
  have HPT := hide hpt
  obtain ⟨pa, hpa⟩ : ∃ z : Int, z = (qa : Int) := ⟨_, rfl⟩
  obtain ⟨pb, hpb⟩ : ∃ z : Int, z = (qb : Int) := ⟨_, rfl⟩
  simp only [← hpa] at CA hc2
  simp only [← hpb] at CB hc3
  clear hpt hpa hpb
  have HB2 : Hid (Below w.heap.size w ((w.alloc (.cells #[.int .i64 pk, .string pt, .int .i64 pa, .int .i64 pb] 116)).alloc (.cells #[.int .i64 pk, .string pt, .pointer none, .pointer none] 160))) := hide (((Below.refl _ _).alloc (Nat.le_refl _) _).alloc (by simp) _)
  have HF2 : Hid (FB ((w.alloc (.cells #[.int .i64 pk, .string pt, .int .i64 pa, .int .i64 pb] 116)).alloc (.cells #[.int .i64 pk, .string pt, .pointer none, .pointer none] 160)) (w.heap.size + 1) pk pt none none) := hide (FB.newAt _ _ _ _ _ _ (by simp))
  have HP2 : Hid (AtP ((w.alloc (.cells #[.int .i64 pk, .string pt, .int .i64 pa, .int .i64 pb] 116)).alloc (.cells #[.int .i64 pk, .string pt, .pointer none, .pointer none] 160)) w.heap.size 0 ⟨pk, pt, pa, pb⟩) := by
    refine hide ⟨?_, ?_, ?_, ?_⟩ <;> simp
  have HL2 : Hid (w.heap.size + 1 < ((w.alloc (.cells #[.int .i64 pk, .string pt, .int .i64 pa, .int .i64 pb] 116)).alloc (.cells #[.int .i64 pk, .string pt, .pointer none, .pointer none] 160)).heap.size) := hide HF2.out.lt
  go_enter Try.func88, Try.ntmps88
  go_wp2_with fail
  refine (C5.out _).mono ?_
  rintro e w1 ⟨rfl, rfl⟩
  go_wp2_with fail
  refine (CB.out _ (HS.out.below HB2.out)).mono ?_
  rintro e w3 ⟨rb, rfl, t3, b3⟩
  have F3 := hide (HF2.out.below b3)
  have P3 := hide (HP2.out.base b3 (by have := HL2.out; omega))
  have T3 : Hid (Tr w3 (fun g => w.heap.size + 1 < g) rb xb) := hide (t3.mono (fun g hg => by have := HL2.out; omega))
  have B3 := hide (HB2.out.trans (b3.mono HB2.out.size))
  have d0 := P3.out.k
  have f3c := F3.out.at.b
  have f3f := F3.out.frozen 3
  have P4 := hide (P3.out.set (p := ⟨w.heap.size + 1, 3, none⟩) (by simp only; omega) (.pointer rb))
  have F4 := hide (F3.out.setB rb)
  have T4 := hide (T3.out.set (p := ⟨w.heap.size + 1, 3, none⟩) (fun g hg => by simp only; omega) (.pointer rb))
  have B4 := hide (B3.out.setCell (p := ⟨w.heap.size + 1, 3, none⟩) (by simp) (.pointer rb))
  clear t3 b3
  go_wp2_with fail
  refine (C5.out _).mono ?_
  rintro e w5 ⟨rfl, hw5⟩
  obtain ⟨w4, hw4⟩ : ∃ w4, w4 = w3.setCell ⟨w.heap.size + 1, 3, none⟩ (.pointer rb) := ⟨_, rfl⟩
  rw [← hw4] at P4 F4 T4 B4 hw5
  subst hw5
  clear hw4 d0 f3c f3f F3 T3 P3
  have e2 := P4.out.a
  simp only [Nat.zero_add] at e2
  go_wp2_with fail
  refine (CA.out _ (HS.out.below B4.out)).mono ?_
  rintro e w5 ⟨ra, rfl, t5, b5⟩
  have F5 := hide (F4.out.below b5)
  have T5 := hide (T4.out.below b5)
  have U5 : Hid (Tr w5 (fun g => w.heap.size + 1 < g) ra xa) := hide (t5.mono (fun g hg => by have := F4.out.lt; omega))
  have B5 := hide (B4.out.trans (b5.mono B4.out.size))
  have f5c := F5.out.at.a
  have f5f := F5.out.frozen 2
  have F6 := hide (F5.out.setA ra)
  have T6 := hide (T5.out.set (p := ⟨w.heap.size + 1, 2, none⟩) (fun g hg => by simp only; omega) (.pointer ra))
  have U6 := hide (U5.out.set (p := ⟨w.heap.size + 1, 2, none⟩) (fun g hg => by simp only; omega) (.pointer ra))
  have B6 := hide (B5.out.setCell (p := ⟨w.heap.size + 1, 2, none⟩) (by simp) (.pointer ra))
  clear t5 b5 e2
  go_wp2
  go_ret
  refine ⟨_, rfl, ?_, B6.out⟩
  have hf := F6.out.at
  rw [HPT.out] at hf
  have ha := U6.out.mono (S' := fun g => w.heap.size ≤ g) (fun g hg => by omega)
  have hb := T6.out.mono (S' := fun g => w.heap.size ≤ g) (fun g hg => by omega)
  exact HX.out _ (fun g => w.heap.size ≤ g) _ _ _ (by simp) hf ha hb
set_option maxRecDepth 100000 in
set_option maxHeartbeats 4000000 in
theorem l5Tree_one (a : Option Addr) (l : List Pr) (n cap i qa : Nat) (w : World) (hn : l.length = n) (hi : i < n) (hs : SlP w a l) (HK : (l.getD i eP).k = 7 ∨ (l.getD i eP).k = 8) (HT : (l.getD i eP).t = ByteArray.empty ∧ (l.getD i eP).a = (qa : Int)) (xa X : Sh)
    (HX : ∀ (w' : World) (S : Nat → Prop) (g : Nat) (pa pb : Option Addr), S g → AtF w' g (l.getD i eP).k ByteArray.empty pa pb → Tr w' S pa xa → Tr w' S (some ⟨g, 0, none⟩) X)
    (ca : ∀ w, SlP w a l → Calls Try.prog 88 #[.slice a n cap, .int .i64 (qa : Int)] w fun e w' => RetT w xa e w') :
    Calls Try.prog 88 #[.slice a n cap, .int .i64 (i : Int)] w fun e w' => RetT w X e w' := by
  obtain ⟨b, off, rfl, hA⟩ := hs i (by omega)
  have HAB : Hid (b < w.heap.size) := hide (blk_lt hA.k)
  obtain ⟨⟨pk, pt, pa, pb⟩, hpe⟩ : ∃ p, p = l.getD i eP := ⟨_, rfl⟩
  rw [← hpe] at hA HK HT HX
  simp only at HK HT HX
  replace HX := hide HX
  have hc0 := hA.k
  have hc1 := hA.t
  have hc2 := hA.a
  have hc3 := hA.b
  simp only at hc0 hc1 hc2 hc3
  have hiI : (i : Int) < (n : Int) := by omega
  have HS := hide hs
  clear hA hs
  obtain ⟨rfl, rfl⟩ := HT
  have C5 := hide (fun w => l5Two_any pk w false (iff_of_false (by simp) (by omega)))
  have C7 := hide (fun w => l5One_any pk w true (iff_of_true rfl HK))
  have CA := hide ca
  have HKK := hide HK
  clear hpe ca HK
  obtain ⟨pt, hpt⟩ : ∃ t, t = ByteArray.empty := ⟨_, rfl⟩
  rw [← hpt] at hc1
  have HPT := hide hpt
  obtain ⟨pa, hpa⟩ : ∃ z : Int, z = (qa : Int) := ⟨_, rfl⟩
  simp only [← hpa] at CA hc2
  clear hpt hpa
  have HB2 : Hid (Below w.heap.size w ((w.alloc (.cells #[.int .i64 pk, .string pt, .int .i64 pa, .int .i64 pb] 116)).alloc (.cells #[.int .i64 pk, .string pt, .pointer none, .pointer none] 160))) := hide (((Below.refl _ _).alloc (Nat.le_refl _) _).alloc (by simp) _)
  have HF2 : Hid (FB ((w.alloc (.cells #[.int .i64 pk, .string pt, .int .i64 pa, .int .i64 pb] 116)).alloc (.cells #[.int .i64 pk, .string pt, .pointer none, .pointer none] 160)) (w.heap.size + 1) pk pt none none) := hide (FB.newAt _ _ _ _ _ _ (by simp))
  go_enter Try.func88, Try.ntmps88
  go_wp2_with fail
  refine (C5.out _).mono ?_
  rintro e w1 ⟨rfl, rfl⟩
  go_wp2_with fail
  refine (C5.out _).mono ?_
  rintro e w1 ⟨rfl, rfl⟩
  go_wp2_with fail
  refine (C7.out _).mono ?_
  rintro e w1 ⟨rfl, rfl⟩
  go_wp2_with fail
  refine (CA.out _ (HS.out.below HB2.out)).mono ?_
  rintro e w5 ⟨ra, rfl, t5, b5⟩
  have F5 := hide (HF2.out.below b5)
  have U5 : Hid (Tr w5 (fun g => w.heap.size + 1 < g) ra xa) := hide (t5.mono (fun g hg => by have := HF2.out.lt; omega))
  have B5 := hide (HB2.out.trans (b5.mono HB2.out.size))
  have f5c := F5.out.at.a
  have f5f := F5.out.frozen 2
  have F6 := hide (F5.out.setA ra)
  have U6 := hide (U5.out.set (p := ⟨w.heap.size + 1, 2, none⟩) (fun g hg => by simp only; omega) (.pointer ra))
  have B6 := hide (B5.out.setCell (p := ⟨w.heap.size + 1, 2, none⟩) (by simp) (.pointer ra))
  clear t5 b5
  go_wp2
  go_ret
  refine ⟨_, rfl, ?_, B6.out⟩
  have hf := F6.out.at
  rw [HPT.out] at hf
  have ha := U6.out.mono (S' := fun g => w.heap.size ≤ g) (fun g hg => by omega)
  exact HX.out _ (fun g => w.heap.size ≤ g) _ _ _ (by simp) hf ha
/-- The tree of a part of a good form. -/
theorem l5Tree_any (a : Option Addr) (l : List Pr) (n cap : Nat) (hn : l.length = n) (hg : ∀ j, j < l.length → okP j (l.getD j eP)) : ∀ (m i : Nat), i < m → i < n → ∀ w, SlP w a l →
    Calls Try.prog 88 #[.slice a n cap, .int .i64 (i : Int)] w fun e w' => RetT w (T l i) e w'
  | 0, i, hm, _, w, _ => by omega
  | m + 1, i, hm, hi, w, hs => by
    have ok := hg i (by omega)
    have ih : ∀ q : Nat, (q : Int) < (i : Int) → ∀ w, SlP w a l → Calls Try.prog 88 #[.slice a n cap, .int .i64 (q : Int)] w fun e w' => RetT w (T l q) e w' := fun q hq => l5Tree_any a l n cap hn hg m q (by omega) (by omega)
    rw [T_node l i (by omega) ok]
    rcases ok with o | o | o | o
    · obtain ⟨o1, ot, _⟩ := o
      rcases o1 with e | e | e
      · rw [shp_1 e]
        exact l5Tree_leaf 1 (by omega) a l n cap i w hn hi hs e _ (fun w' g h hg => ⟨g, _, _, rfl, hg, by rw [ot] at h; exact h⟩)
      · rw [shp_2 e]
        exact l5Tree_leaf 2 (by omega) a l n cap i w hn hi hs e _ (fun w' g h hg => ⟨g, _, _, rfl, hg, by rw [ot] at h; exact h⟩)
      · rw [shp_4 e]
        exact l5Tree_leaf 4 (by omega) a l n cap i w hn hi hs e _ (fun w' g h hg => ⟨g, _, _, rfl, hg, by rw [ot] at h; exact h⟩)
    · obtain ⟨e, ot, _⟩ := o
      rw [shp_3 e]
      exact l5Tree_leaf 3 (by omega) a l n cap i w hn hi hs e _ (fun w' g h hg => ⟨g, _, _, rfl, hg, by rw [one_ltr ot.1]; exact h⟩)
    · obtain ⟨o1, ot, oa, ob⟩ := o
      obtain ⟨qa, ea⟩ : ∃ q : Nat, (l.getD i eP).a = (q : Int) := ⟨(l.getD i eP).a.toNat, by omega⟩
      obtain ⟨qb, eb⟩ : ∃ q : Nat, (l.getD i eP).b = (q : Int) := ⟨(l.getD i eP).b.toNat, by omega⟩
      have hm : ∀ q : Nat, (made l).getD (q : Int).toNat .none = T l q := fun q => rfl
      refine l5Tree_two a l n cap i qa qb w hn hi hs o1 ⟨ot, ea, eb⟩ (T l qa) (T l qb) _ ?_ (ih qa (by omega)) (ih qb (by omega))
      intro w' S g pa pb hS hf ha hb
      rcases o1 with e | e
      · rw [shp_5 e, ea, eb, hm, hm]
        rw [e] at hf
        exact ⟨_, _, _, rfl, hS, hf, ha, hb⟩
      · rw [shp_6 e, ea, eb, hm, hm]
        rw [e] at hf
        exact ⟨_, _, _, rfl, hS, hf, ha, hb⟩
    · obtain ⟨o1, ot, oa, ob⟩ := o
      obtain ⟨qa, ea⟩ : ∃ q : Nat, (l.getD i eP).a = (q : Int) := ⟨(l.getD i eP).a.toNat, by omega⟩
      have hm : ∀ q : Nat, (made l).getD (q : Int).toNat .none = T l q := fun q => rfl
      refine l5Tree_one a l n cap i qa w hn hi hs o1 ⟨ot, ea⟩ (T l qa) _ ?_ (ih qa (by omega))
      intro w' S g pa pb hS hf ha
      rcases o1 with e | e
      · rw [shp_7 e, ea, hm]
        rw [e] at hf
        exact ⟨_, _, _, rfl, hS, hf, ha⟩
      · rw [shp_8 e, ea, hm]
        rw [e] at hf
        exact ⟨_, _, _, rfl, hS, hf, ha⟩
theorem l5Tree_whole (a : Option Addr) (l : List Pr) (n cap : Nat) (w : World) (hn : l.length = n) (hg : GoodF l) (hs : SlP w a l) :
    Calls Try.prog 88 #[.slice a n cap, .int .i64 ((n : Int) - 1)] w fun e w' => RetT w (whole l) e w' := by
  have h1 := hg.1
  have := l5Tree_any a l n cap hn hg.2.1 n (n - 1) (by omega) (by omega) w hs
  rw [show ((n - 1 : Nat) : Int) = (n : Int) - 1 by omega] at this
  unfold whole
  rw [hn]
  exact this
end Go.Proofs.Ytapffbbmofhpoab.L5

namespace Go.Proofs.Ytapffbbmofhpoab.L5
open Go.RowKit L1 L4
set_option linter.unusedVariables false
attribute [local go_sem] mk_noText mk_emptyText mk_oneLetter mk_anyLetter mk_thenShape mk_eitherShape mk_manyShape mk_notShape as_noText_noText as_noText_emptyText as_noText_oneLetter as_noText_anyLetter as_noText_thenShape as_noText_eitherShape as_noText_manyShape as_noText_notShape as_emptyText_noText as_emptyText_emptyText as_emptyText_oneLetter as_emptyText_anyLetter as_emptyText_thenShape as_emptyText_eitherShape as_emptyText_manyShape as_emptyText_notShape as_oneLetter_noText as_oneLetter_emptyText as_oneLetter_oneLetter as_oneLetter_anyLetter as_oneLetter_thenShape as_oneLetter_eitherShape as_oneLetter_manyShape as_oneLetter_notShape as_anyLetter_noText as_anyLetter_emptyText as_anyLetter_oneLetter as_anyLetter_anyLetter as_anyLetter_thenShape as_anyLetter_eitherShape as_anyLetter_manyShape as_anyLetter_notShape as_thenShape_noText as_thenShape_emptyText as_thenShape_oneLetter as_thenShape_anyLetter as_thenShape_thenShape as_thenShape_eitherShape as_thenShape_manyShape as_thenShape_notShape as_eitherShape_noText as_eitherShape_emptyText as_eitherShape_oneLetter as_eitherShape_anyLetter as_eitherShape_thenShape as_eitherShape_eitherShape as_eitherShape_manyShape as_eitherShape_notShape as_manyShape_noText as_manyShape_emptyText as_manyShape_oneLetter as_manyShape_anyLetter as_manyShape_thenShape as_manyShape_eitherShape as_manyShape_manyShape as_manyShape_notShape as_notShape_noText as_notShape_emptyText as_notShape_oneLetter as_notShape_anyLetter as_notShape_thenShape as_notShape_eitherShape as_notShape_manyShape as_notShape_notShape
/-- The text of a shape. -/
def tx : Sh → ByteArray
  | .none => ⟨#[33]⟩
  | .empty => ⟨#[37]⟩
  | .letter c => one c
  | .any => ⟨#[46]⟩
  | .seq a b => ((⟨#[40]⟩ : ByteArray) ++ tx a ++ tx b) ++ (⟨#[41]⟩ : ByteArray)
  | .alt a b => (((⟨#[91]⟩ : ByteArray) ++ tx a) ++ (⟨#[124]⟩ : ByteArray) ++ tx b) ++ (⟨#[93]⟩ : ByteArray)
  | .many a => tx a ++ (⟨#[42]⟩ : ByteArray)
  | .inv a => tx a ++ (⟨#[94]⟩ : ByteArray)
theorem tx_size : ∀ x, (tx x).size ≤ 3 * sz x
  | .none => by simp [tx, sz]; decide
  | .empty => by simp [tx, sz]; decide
  | .letter c => by simp [tx, sz, one_size]
  | .any => by simp [tx, sz]; decide
  | .seq a b => by
    have h1 := tx_size a
    have h2 := tx_size b
    have e1 : (⟨#[40]⟩ : ByteArray).size = 1 := rfl
    have e2 : (⟨#[41]⟩ : ByteArray).size = 1 := rfl
    simp only [tx, sz, ByteArray.size_append, e1, e2]
    omega
  | .alt a b => by
    have h1 := tx_size a
    have h2 := tx_size b
    have e1 : (⟨#[91]⟩ : ByteArray).size = 1 := rfl
    have e2 : (⟨#[93]⟩ : ByteArray).size = 1 := rfl
    have e3 : (⟨#[124]⟩ : ByteArray).size = 1 := rfl
    simp only [tx, sz, ByteArray.size_append, e1, e2, e3]
    omega
  | .many a => by
    have h1 := tx_size a
    have e1 : (⟨#[42]⟩ : ByteArray).size = 1 := rfl
    simp only [tx, sz, ByteArray.size_append, e1]
    omega
  | .inv a => by
    have h1 := tx_size a
    have e1 : (⟨#[94]⟩ : ByteArray).size = 1 := rfl
    simp only [tx, sz, ByteArray.size_append, e1]
    omega
theorem one_sz (c : UInt8) : (⟨#[c]⟩ : ByteArray).size = 1 := rfl
theorem ret_str {a b : ByteArray} (h : a = b) : Ending.returned (.string a) = .returned (.string b) := by rw [h]
theorem keep1T {wa wb : World} {B1 O1 N : Nat} {v1 v2 : Value} {B2 O2 : Nat} {W : World} (h : (wa.cell? ⟨B1, O1, none⟩ = some v1 ∧ wa.cell? ⟨B2, O2, none⟩ = some v2) ∧ Below N W wa) (hb : Below wa.heap.size wa wb) (hN : N ≤ W.heap.size) :
    (wb.cell? ⟨B1, O1, none⟩ = some v1 ∧ wb.cell? ⟨B2, O2, none⟩ = some v2) ∧ Below N W wb :=
  ⟨⟨(hb.cell (p := ⟨B1, O1, none⟩) (blk_lt h.1.1)).trans h.1.1, (hb.cell (p := ⟨B2, O2, none⟩) (blk_lt h.1.2)).trans h.1.2⟩, h.2.trans (hb.mono (Nat.le_trans hN h.2.size))⟩
theorem enc_letter {c : Int} (h : 97 ≤ c ∧ c ≤ 122) : Utf8.encode c = one c := by
  have hv : Utf8.valid c = true := by unfold Utf8.valid; simp; omega
  unfold Utf8.encode one strOfNums
  rw [if_pos hv]
  simp only
  rw [if_pos (by omega)]
  rfl
set_option maxRecDepth 100000 in
set_option maxHeartbeats 8000000 in
theorem textOf_any : ∀ (x : Sh) (w : World), okS x → sz x ≤ 1000000 → Calls Try.prog 102 #[sv x] w fun e w' => e = .returned (.string (tx x)) ∧ Below w.heap.size w w'
  | .none, w, _, _ => by
    show Calls Try.prog 102 #[.iface 175 (.agg #[])] w _
    go_enter Try.func102, Try.ntmps102
    go_wp2
    go_ret
    exact ⟨rfl, Below.refl _ _⟩
  | .empty, w, _, _ => by
    show Calls Try.prog 102 #[.iface 162 (.agg #[])] w _
    go_enter Try.func102, Try.ntmps102
    go_wp2
    go_ret
    exact ⟨rfl, (Below.refl _ _).alloc (Nat.le_refl _) _⟩
  | .any, w, _, _ => by
    show Calls Try.prog 102 #[.iface 173 (.agg #[])] w _
    go_enter Try.func102, Try.ntmps102
    go_wp2
    go_ret
    exact ⟨rfl, (Below.refl _ _).alloc (Nat.le_refl _) _⟩
  | .letter c, w, hc, _ => by
    show Calls Try.prog 102 #[.iface 170 (.agg #[.int .u8 c])] w _
    have HE := hide (enc_letter hc)
    obtain ⟨h1, h2⟩ := hc
    go_enter Try.func102, Try.ntmps102
    go_wp2
    go_ret
    exact ⟨ret_str HE.out, (Below.refl _ _).alloc (Nat.le_refl _) _⟩
  | .seq a b, w, hok, hsz => by
    simp only [sz] at hsz
    have IA := hide (fun w => textOf_any a w hok.1 (by omega))
    have IB := hide (fun w => textOf_any b w hok.2 (by omega))
    have ha := tx_size a
    have hb := tx_size b
    show Calls Try.prog 102 #[.iface 166 (.agg #[sv a, sv b])] w _
    obtain ⟨W, hW⟩ : ∃ W, W = w.alloc (.cells #[sv a, sv b] 166) := ⟨_, rfl⟩
    have HB0 : Hid (Below w.heap.size w W) := hide (by rw [hW]; exact (Below.refl _ _).alloc (Nat.le_refl _) _)
    have c0 : W.cell? ⟨w.heap.size, 0, none⟩ = some (sv a) := by rw [hW]; simp
    have c1 : W.cell? ⟨w.heap.size, 1, none⟩ = some (sv b) := by rw [hW]; simp
    obtain ⟨A, hA⟩ : ∃ A, A = tx a := ⟨_, rfl⟩
    obtain ⟨B, hB⟩ : ∃ B, B = tx b := ⟨_, rfl⟩
    have HR : Hid (tx (.seq a b) = ((⟨#[40]⟩ : ByteArray) ++ A ++ B) ++ (⟨#[41]⟩ : ByteArray)) := hide (by rw [hA, hB]; rfl)
    simp only [← hA] at IA ha
    simp only [← hB] at IB hb
    have ha2 : (A.size : Int) ≤ 3000000 := by omega
    have hb2 : (B.size : Int) ≤ 3000000 := by omega
    rw [HR.out]
    have q0 : ∀ w : World, (Op.stringOp .add (⟨#[40]⟩ : ByteArray) (A)).run Try.prog w = .ok (.string ((⟨#[40]⟩ : ByteArray) ++ (A))) w := fun w => run_string_add_sum w _ _ (by simp only [one_sz]; omega)
    have q1 : ∀ w : World, (Op.stringOp .add ((⟨#[40]⟩ : ByteArray) ++ (A)) (B)).run Try.prog w = .ok (.string (((⟨#[40]⟩ : ByteArray) ++ (A)) ++ (B))) w := fun w => run_string_add_sum w _ _ (by simp only [ByteArray.size_append, one_sz]; omega)
    have q2 : ∀ w : World, (Op.stringOp .add (((⟨#[40]⟩ : ByteArray) ++ (A)) ++ (B)) (⟨#[41]⟩ : ByteArray)).run Try.prog w = .ok (.string ((((⟨#[40]⟩ : ByteArray) ++ (A)) ++ (B)) ++ (⟨#[41]⟩ : ByteArray))) w := fun w => run_string_add_sum w _ _ (by simp only [ByteArray.size_append, one_sz]; omega)
    clear hA hB ha hb hok hsz HR
    go_enter Try.func102, Try.ntmps102
    go_wp2
    rw [← hW]
    clear hW
    go_region_held3 (fun wx => (wx.cell? ⟨w.heap.size, 0, none⟩ = some (sv a) ∧ wx.cell? ⟨w.heap.size, 1, none⟩ = some (sv b)) ∧ Below W.heap.size W wx) (first | exact ⟨⟨c0, c1⟩, (Below.refl _ _).drew⟩ | exact keep1T (by assumption) (by assumption) (Nat.le_refl _)) (first | (go_at_call_of 102 (sv a); refine (IA.out _).mono ?_; rintro e w1 ⟨rfl, hb⟩) | (go_at_call_of 102 (sv b); refine (IB.out _).mono ?_; rintro e w1 ⟨rfl, hb⟩))
    rename_i hHeld
    have B1 := hide (HB0.out.trans (hHeld.2.mono HB0.out.size))
    clear hHeld
    go_wp2
    go_ret
    exact ⟨rfl, B1.out⟩
  | .alt a b, w, hok, hsz => by
    simp only [sz] at hsz
    have IA := hide (fun w => textOf_any a w hok.1 (by omega))
    have IB := hide (fun w => textOf_any b w hok.2 (by omega))
    have ha := tx_size a
    have hb := tx_size b
    show Calls Try.prog 102 #[.iface 167 (.agg #[sv a, sv b])] w _
    obtain ⟨W, hW⟩ : ∃ W, W = w.alloc (.cells #[sv a, sv b] 167) := ⟨_, rfl⟩
    have HB0 : Hid (Below w.heap.size w W) := hide (by rw [hW]; exact (Below.refl _ _).alloc (Nat.le_refl _) _)
    have c0 : W.cell? ⟨w.heap.size, 0, none⟩ = some (sv a) := by rw [hW]; simp
    have c1 : W.cell? ⟨w.heap.size, 1, none⟩ = some (sv b) := by rw [hW]; simp
    obtain ⟨A, hA⟩ : ∃ A, A = tx a := ⟨_, rfl⟩
    obtain ⟨B, hB⟩ : ∃ B, B = tx b := ⟨_, rfl⟩
    have HR : Hid (tx (.alt a b) = (((⟨#[91]⟩ : ByteArray) ++ A) ++ (⟨#[124]⟩ : ByteArray) ++ B) ++ (⟨#[93]⟩ : ByteArray)) := hide (by rw [hA, hB]; rfl)
    simp only [← hA] at IA ha
    simp only [← hB] at IB hb
    have ha2 : (A.size : Int) ≤ 3000000 := by omega
    have hb2 : (B.size : Int) ≤ 3000000 := by omega
    rw [HR.out]
    have q0 : ∀ w : World, (Op.stringOp .add (⟨#[91]⟩ : ByteArray) (A)).run Try.prog w = .ok (.string ((⟨#[91]⟩ : ByteArray) ++ (A))) w := fun w => run_string_add_sum w _ _ (by simp only [one_sz]; omega)
    have q1 : ∀ w : World, (Op.stringOp .add ((⟨#[91]⟩ : ByteArray) ++ (A)) (⟨#[124]⟩ : ByteArray)).run Try.prog w = .ok (.string (((⟨#[91]⟩ : ByteArray) ++ (A)) ++ (⟨#[124]⟩ : ByteArray))) w := fun w => run_string_add_sum w _ _ (by simp only [ByteArray.size_append, one_sz]; omega)
    have q2 : ∀ w : World, (Op.stringOp .add (((⟨#[91]⟩ : ByteArray) ++ (A)) ++ (⟨#[124]⟩ : ByteArray)) (B)).run Try.prog w = .ok (.string ((((⟨#[91]⟩ : ByteArray) ++ (A)) ++ (⟨#[124]⟩ : ByteArray)) ++ (B))) w := fun w => run_string_add_sum w _ _ (by simp only [ByteArray.size_append, one_sz]; omega)
    have q3 : ∀ w : World, (Op.stringOp .add ((((⟨#[91]⟩ : ByteArray) ++ (A)) ++ (⟨#[124]⟩ : ByteArray)) ++ (B)) (⟨#[93]⟩ : ByteArray)).run Try.prog w = .ok (.string (((((⟨#[91]⟩ : ByteArray) ++ (A)) ++ (⟨#[124]⟩ : ByteArray)) ++ (B)) ++ (⟨#[93]⟩ : ByteArray))) w := fun w => run_string_add_sum w _ _ (by simp only [ByteArray.size_append, one_sz]; omega)
    clear hA hB ha hb hok hsz HR
    go_enter Try.func102, Try.ntmps102
    go_wp2
    rw [← hW]
    clear hW
    go_region_held3 (fun wx => (wx.cell? ⟨w.heap.size, 0, none⟩ = some (sv a) ∧ wx.cell? ⟨w.heap.size, 1, none⟩ = some (sv b)) ∧ Below W.heap.size W wx) (first | exact ⟨⟨c0, c1⟩, (Below.refl _ _).drew⟩ | exact keep1T (by assumption) (by assumption) (Nat.le_refl _)) (first | (go_at_call_of 102 (sv a); refine (IA.out _).mono ?_; rintro e w1 ⟨rfl, hb⟩) | (go_at_call_of 102 (sv b); refine (IB.out _).mono ?_; rintro e w1 ⟨rfl, hb⟩))
    rename_i hHeld
    have B1 := hide (HB0.out.trans (hHeld.2.mono HB0.out.size))
    clear hHeld
    go_wp2
    go_ret
    exact ⟨rfl, B1.out⟩
  | .many a, w, hok, hsz => by
    simp only [sz] at hsz
    have IA := hide (fun w => textOf_any a w hok (by omega))
    have ha := tx_size a
    show Calls Try.prog 102 #[.iface 164 (.agg #[sv a])] w _
    have HB0 := hide ((Below.refl w.heap.size w).alloc (Nat.le_refl _) (.cells #[sv a] 164))
    have ha2 : ((tx a).size : Int) ≤ 3000000 := by omega
    clear ha hok hsz
    go_enter Try.func102, Try.ntmps102
    go_wp2_with fail
    refine (IA.out _).mono ?_
    rintro e w1 ⟨rfl, hb1⟩
    have B1 := hide (HB0.out.trans (hb1.mono HB0.out.size))
    clear hb1
    go_wp2
    go_ret
    exact ⟨rfl, B1.out⟩
  | .inv a, w, hok, hsz => by
    simp only [sz] at hsz
    have IA := hide (fun w => textOf_any a w hok (by omega))
    have ha := tx_size a
    show Calls Try.prog 102 #[.iface 168 (.agg #[sv a])] w _
    have HB0 := hide ((Below.refl w.heap.size w).alloc (Nat.le_refl _) (.cells #[sv a] 168))
    have ha2 : ((tx a).size : Int) ≤ 3000000 := by omega
    clear ha hok hsz
    go_enter Try.func102, Try.ntmps102
    go_wp2_with fail
    refine (IA.out _).mono ?_
    rintro e w1 ⟨rfl, hb1⟩
    have B1 := hide (HB0.out.trans (hb1.mono HB0.out.size))
    clear hb1
    go_wp2
    go_ret
    exact ⟨rfl, B1.out⟩
end Go.Proofs.Ytapffbbmofhpoab.L5
