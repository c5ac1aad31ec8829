/-
  Forms as shapes: their parts, what is left of them by a letter, what fits them. Nothing of the program's text is proved here.
-/
import Derived.Laws.BytesArg
namespace Go.Proofs.Ytkdiffpbljohkay.L5
open Go
set_option linter.unusedVariables false

/-- A form as a tree. -/
inductive Sh where
  | none
  | empty
  | letter (c : Int)
  | any
  | seq (a b : Sh)
  | alt (a b : Sh)
  | many (a : Sh)
  | inv (a : Sh)
/-- A part of a form. -/
structure Pr where
  k : Int
  t : ByteArray
  a : Int
  b : Int
def eP : Pr := ⟨0, ByteArray.empty, 0, 0⟩
/-- The text of one letter. -/
def one (c : Int) : ByteArray := strOfNums [c]
/-- The first letter of a text. -/
def ltr (t : ByteArray) : Int := (t.data.toList.map fun c => (c.toNat : Int)).getD 0 0
def kd : Sh → Int
  | .none => 1
  | .empty => 2
  | .letter _ => 3
  | .any => 4
  | .seq _ _ => 5
  | .alt _ _ => 6
  | .many _ => 7
  | .inv _ => 8
def sz : Sh → Nat
  | .seq a b => sz a + sz b + 1
  | .alt a b => sz a + sz b + 1
  | .many a => sz a + 1
  | .inv a => sz a + 1
  | _ => 1
theorem sz_pos : ∀ x, 1 ≤ sz x
  | .none => by simp [sz]
  | .empty => by simp [sz]
  | .letter _ => by simp [sz]
  | .any => by simp [sz]
  | .seq _ _ => by simp [sz]
  | .alt _ _ => by simp [sz]
  | .many _ => by simp [sz]
  | .inv _ => by simp [sz]
/-- All letters are letters. -/
def okS : Sh → Prop
  | .letter c => 97 ≤ c ∧ c ≤ 122
  | .seq a b => okS a ∧ okS b
  | .alt a b => okS a ∧ okS b
  | .many a => okS a
  | .inv a => okS a
  | _ => True
/-- A shape's parts behind others. -/
def flat : Sh → List Pr → List Pr
  | .none, l => l ++ [⟨1, ByteArray.empty, 0, 0⟩]
  | .empty, l => l ++ [⟨2, ByteArray.empty, 0, 0⟩]
  | .letter c, l => l ++ [⟨3, one c, 0, 0⟩]
  | .any, l => l ++ [⟨4, ByteArray.empty, 0, 0⟩]
  | .seq a b, l => flat b (flat a l) ++ [⟨5, ByteArray.empty, ((flat a l).length : Int) - 1, ((flat b (flat a l)).length : Int) - 1⟩]
  | .alt a b, l => flat b (flat a l) ++ [⟨6, ByteArray.empty, ((flat a l).length : Int) - 1, ((flat b (flat a l)).length : Int) - 1⟩]
  | .many a, l => flat a l ++ [⟨7, ByteArray.empty, ((flat a l).length : Int) - 1, 0⟩]
  | .inv a, l => flat a l ++ [⟨8, ByteArray.empty, ((flat a l).length : Int) - 1, 0⟩]
theorem flat_len : ∀ x l, (flat x l).length = l.length + sz x
  | .none, l => by simp [flat, sz]
  | .empty, l => by simp [flat, sz]
  | .letter _, l => by simp [flat, sz]
  | .any, l => by simp [flat, sz]
  | .seq a b, l => by simp [flat, sz, flat_len a, flat_len b]; omega
  | .alt a b, l => by simp [flat, sz, flat_len a, flat_len b]; omega
  | .many a, l => by simp [flat, sz, flat_len a]; omega
  | .inv a, l => by simp [flat, sz, flat_len a]; omega
/-- The shape of a part, those of the parts ahead being told. -/
def shp (p : Pr) (m : List Sh) : Sh :=
  if p.k = 2 then .empty else if p.k = 3 then .letter (ltr p.t) else if p.k = 4 then .any
  else if p.k = 5 then .seq (m.getD p.a.toNat .none) (m.getD p.b.toNat .none)
  else if p.k = 6 then .alt (m.getD p.a.toNat .none) (m.getD p.b.toNat .none)
  else if p.k = 7 then .many (m.getD p.a.toNat .none)
  else if p.k = 8 then .inv (m.getD p.a.toNat .none) else .none
theorem shp_1 {p : Pr} {m : List Sh} (h : p.k = 1) : shp p m = .none := by simp [shp, h]
theorem shp_2 {p : Pr} {m : List Sh} (h : p.k = 2) : shp p m = .empty := by simp [shp, h]
theorem shp_3 {p : Pr} {m : List Sh} (h : p.k = 3) : shp p m = .letter (ltr p.t) := by simp [shp, h]
theorem shp_4 {p : Pr} {m : List Sh} (h : p.k = 4) : shp p m = .any := by simp [shp, h]
theorem shp_5 {p : Pr} {m : List Sh} (h : p.k = 5) : shp p m = .seq (m.getD p.a.toNat .none) (m.getD p.b.toNat .none) := by simp [shp, h]
theorem shp_6 {p : Pr} {m : List Sh} (h : p.k = 6) : shp p m = .alt (m.getD p.a.toNat .none) (m.getD p.b.toNat .none) := by simp [shp, h]
theorem shp_7 {p : Pr} {m : List Sh} (h : p.k = 7) : shp p m = .many (m.getD p.a.toNat .none) := by simp [shp, h]
theorem shp_8 {p : Pr} {m : List Sh} (h : p.k = 8) : shp p m = .inv (m.getD p.a.toNat .none) := by simp [shp, h]
def made (l : List Pr) : List Sh := l.foldl (fun m p => m ++ [shp p m]) []
theorem made_snoc (l : List Pr) (p : Pr) : made (l ++ [p]) = made l ++ [shp p (made l)] := by simp [made]
theorem made_len (l : List Pr) : (made l).length = l.length := by
  suffices ∀ (l : List Pr) (m : List Sh), (l.foldl (fun m p => m ++ [shp p m]) m).length = m.length + l.length by simpa [made] using this l []
  intro l
  induction l with
  | nil => intro m; simp
  | cons p l ih => intro m; rw [List.foldl_cons, ih]; simp; omega
theorem made_pre (l r : List Pr) : ∃ m, made (l ++ r) = made l ++ m := by
  suffices ∀ (r : List Pr) (m : List Sh), ∃ u, r.foldl (fun m p => m ++ [shp p m]) m = m ++ u by
    obtain ⟨u, h⟩ := this r (made l)
    exact ⟨u, by rw [← h]; simp [made]⟩
  intro r
  induction r with
  | nil => intro m; exact ⟨[], by simp⟩
  | cons p r ih =>
    intro m
    obtain ⟨u, h⟩ := ih (m ++ [shp p m])
    exact ⟨shp p m :: u, by rw [List.foldl_cons, h]; simp⟩
/-- The tree of a part. -/
def T (l : List Pr) (i : Nat) : Sh := (made l).getD i .none
theorem getD_pre {α : Type} (m u : List α) (i : Nat) (d : α) (h : i < m.length) : (m ++ u).getD i d = m.getD i d := by
  simp [List.getD, List.getElem?_append, h]
theorem getD_at {α : Type} (m u : List α) (x d : α) (i : Nat) (h : i = m.length) : (m ++ x :: u).getD i d = x := by
  subst h; simp [List.getD]
theorem T_pre (l r : List Pr) (i : Nat) (h : i < l.length) : T (l ++ r) i = T l i := by
  obtain ⟨m, e⟩ := made_pre l r
  unfold T
  rw [e, getD_pre _ _ _ _ (by rw [made_len]; exact h)]
/-- A part is good at its place. -/
def okP (i : Nat) (p : Pr) : Prop :=
  ((p.k = 1 ∨ p.k = 2 ∨ p.k = 4) ∧ p.t = ByteArray.empty ∧ p.a = 0 ∧ p.b = 0) ∨
  (p.k = 3 ∧ (p.t.size = 1 ∧ 97 ≤ ltr p.t ∧ ltr p.t ≤ 122) ∧ p.a = 0 ∧ p.b = 0) ∨
  ((p.k = 5 ∨ p.k = 6) ∧ p.t = ByteArray.empty ∧ (0 ≤ p.a ∧ p.a < (i : Int)) ∧ (0 ≤ p.b ∧ p.b < (i : Int))) ∨
  ((p.k = 7 ∨ p.k = 8) ∧ p.t = ByteArray.empty ∧ (0 ≤ p.a ∧ p.a < (i : Int)) ∧ p.b = 0)
theorem okP_kind {i : Nat} {p : Pr} (h : okP i p) : 1 ≤ p.k ∧ p.k ≤ 8 := by
  rcases h with h | h | h | h <;> omega
/-- How often a part names a number. -/
def nm (p : Pr) (i : Int) : Int := (if (p.k = 5 ∨ p.k = 6) ∧ p.b = i then 1 else 0) + (if (p.k = 5 ∨ p.k = 6 ∨ p.k = 7 ∨ p.k = 8) ∧ p.a = i then 1 else 0)
theorem nm_two {p : Pr} (h : p.k = 5 ∨ p.k = 6) (i : Int) : nm p i = (if p.b = i then 1 else 0) + (if p.a = i then 1 else 0) := by
  rcases h with h | h <;> simp [nm, h]
theorem nm_one {p : Pr} (h : p.k = 7 ∨ p.k = 8) (i : Int) : nm p i = if p.a = i then 1 else 0 := by
  rcases h with h | h <;> simp [nm, h]
theorem nm_no {p : Pr} (h : p.k < 5) (i : Int) : nm p i = 0 := by
  unfold nm; rw [if_neg (by omega), if_neg (by omega)]; rfl
def cnt (l : List Pr) (i : Int) : Int := (l.map fun p => nm p i).sum
theorem cnt_snoc (l : List Pr) (p : Pr) (i : Int) : cnt (l ++ [p]) i = cnt l i + nm p i := by simp [cnt]
theorem nm_range (p : Pr) (i : Int) : 0 ≤ nm p i ∧ nm p i ≤ 2 := by unfold nm; split <;> split <;> omega
theorem cnt_range (l : List Pr) (i : Int) : 0 ≤ cnt l i ∧ cnt l i ≤ 2 * (l.length : Int) := by
  induction l with
  | nil => simp [cnt]
  | cons p l ih =>
    have := nm_range p i
    simp only [cnt, List.map_cons, List.sum_cons, List.length_cons] at ih ⊢
    omega
/-- A form is good. -/
def GoodF (l : List Pr) : Prop := (1 ≤ l.length ∧ l.length ≤ 24) ∧ (∀ j, j < l.length → okP j (l.getD j eP)) ∧ ∀ i : Nat, i + 1 < l.length → cnt l (i : Int) = 1
/-- The tree of the whole. -/
def whole (l : List Pr) : Sh := T l (l.length - 1)
theorem take_snoc (l : List Pr) (i : Nat) (h : i < l.length) : l.take (i + 1) = l.take i ++ [l.getD i eP] := by
  rw [List.take_succ_eq_append_getElem h]
  simp [List.getD, List.getElem?_eq_getElem h]
theorem T_take (l : List Pr) (n i : Nat) (hn : n ≤ l.length) (h : i < n) : T (l.take n) i = T l i := by
  have := T_pre (l.take n) (l.drop n) i (by rw [List.length_take]; omega)
  rw [List.take_append_drop] at this
  exact this.symm
/-- The tree of a part is made of those that it names. -/
theorem T_node (l : List Pr) (i : Nat) (h : i < l.length) (hok : okP i (l.getD i eP)) : T l i = shp (l.getD i eP) (made l) := by
  rw [← T_take l (i + 1) i (by omega) (by omega), take_snoc l i h]
  unfold T
  rw [made_snoc, getD_at _ _ _ _ _ (by rw [made_len, List.length_take]; omega)]
  have e : ∀ a : Int, 0 ≤ a → a < (i : Int) → (made (l.take i)).getD a.toNat .none = (made l).getD a.toNat .none := fun a h0 h1 => T_take l i a.toNat (by omega) (by omega)
  rcases hok with h | h | h | h
  · rcases h.1 with k | k | k
    · rw [shp_1 k, shp_1 k]
    · rw [shp_2 k, shp_2 k]
    · rw [shp_4 k, shp_4 k]
  · rw [shp_3 h.1, shp_3 h.1]
  · obtain ⟨k, _, ha, hb⟩ := h
    rcases k with k | k
    · rw [shp_5 k, shp_5 k, e _ ha.1 ha.2, e _ hb.1 hb.2]
    · rw [shp_6 k, shp_6 k, e _ ha.1 ha.2, e _ hb.1 hb.2]
  · obtain ⟨k, _, ha, hb⟩ := h
    rcases k with k | k
    · rw [shp_7 k, shp_7 k, e _ ha.1 ha.2]
    · rw [shp_8 k, shp_8 k, e _ ha.1 ha.2]
theorem one_size (c : Int) : (one c).size = 1 := by simp [one, strOfNums, ByteArray.size]
theorem ltr_one {c : Int} (h : 97 ≤ c ∧ c ≤ 122) : ltr (one c) = c := by
  simp only [ltr, one, strOfNums, List.map_cons, List.map_nil, List.getD_cons_zero, UInt8.toNat_ofNat']
  omega
theorem one_ltr {t : ByteArray} (h : t.size = 1) : one (ltr t) = t := by
  obtain ⟨⟨l⟩⟩ := t
  match l, h with
  | [c], _ => simp [ltr, one, strOfNums]
/-- The shapes that are made of a shape's parts. -/
theorem made_flat : ∀ (x : Sh) (l : List Pr), okS x → ∃ m, made (flat x l) = made l ++ m ++ [x] ∧ m.length + 1 = sz x
  | .none, l, _ => ⟨[], by simp [flat, made_snoc, shp], rfl⟩
  | .empty, l, _ => ⟨[], by simp [flat, made_snoc, shp], rfl⟩
  | .letter c, l, h => ⟨[], by simp [flat, made_snoc, shp, ltr_one h], rfl⟩
  | .any, l, _ => ⟨[], by simp [flat, made_snoc, shp], rfl⟩
  | .seq a b, l, h => by
    obtain ⟨ma, ea, la⟩ := made_flat a l h.1
    obtain ⟨mb, eb, lb⟩ := made_flat b (flat a l) h.2
    have e1 : (made (flat b (flat a l))).getD (((flat a l).length : Int) - 1).toNat .none = a := by
      rw [eb, ea, List.append_assoc, List.append_assoc, List.singleton_append]
      refine getD_at _ _ _ _ _ ?_
      rw [flat_len, List.length_append, made_len]
      omega
    have e2 : (made (flat b (flat a l))).getD (((flat b (flat a l)).length : Int) - 1).toNat .none = b := by
      rw [eb]
      refine getD_at _ _ _ _ _ ?_
      rw [flat_len, flat_len, List.length_append, made_len, flat_len]
      omega
    refine ⟨ma ++ [a] ++ mb ++ [b], ?_, by simp [sz]; omega⟩
    rw [show flat (.seq a b) l = flat b (flat a l) ++ [⟨5, ByteArray.empty, ((flat a l).length : Int) - 1, ((flat b (flat a l)).length : Int) - 1⟩] from rfl, made_snoc]
    rw [show shp (⟨5, ByteArray.empty, ((flat a l).length : Int) - 1, ((flat b (flat a l)).length : Int) - 1⟩ : Pr) (made (flat b (flat a l))) = .seq a b by rw [shp_5 rfl, e1, e2]]
    rw [eb, ea]
    simp
  | .alt a b, l, h => by
    obtain ⟨ma, ea, la⟩ := made_flat a l h.1
    obtain ⟨mb, eb, lb⟩ := made_flat b (flat a l) h.2
    have e1 : (made (flat b (flat a l))).getD (((flat a l).length : Int) - 1).toNat .none = a := by
      rw [eb, ea, List.append_assoc, List.append_assoc, List.singleton_append]
      refine getD_at _ _ _ _ _ ?_
      rw [flat_len, List.length_append, made_len]
      omega
    have e2 : (made (flat b (flat a l))).getD (((flat b (flat a l)).length : Int) - 1).toNat .none = b := by
      rw [eb]
      refine getD_at _ _ _ _ _ ?_
      rw [flat_len, flat_len, List.length_append, made_len, flat_len]
      omega
    refine ⟨ma ++ [a] ++ mb ++ [b], ?_, by simp [sz]; omega⟩
    rw [show flat (.alt a b) l = flat b (flat a l) ++ [⟨6, ByteArray.empty, ((flat a l).length : Int) - 1, ((flat b (flat a l)).length : Int) - 1⟩] from rfl, made_snoc]
    rw [show shp (⟨6, ByteArray.empty, ((flat a l).length : Int) - 1, ((flat b (flat a l)).length : Int) - 1⟩ : Pr) (made (flat b (flat a l))) = .alt a b by rw [shp_6 rfl, e1, e2]]
    rw [eb, ea]
    simp
  | .many a, l, h => by
    obtain ⟨ma, ea, la⟩ := made_flat a l h
    have e1 : (made (flat a l)).getD (((flat a l).length : Int) - 1).toNat .none = a := by
      rw [ea]
      refine getD_at _ _ _ _ _ ?_
      rw [flat_len, List.length_append, made_len]
      omega
    refine ⟨ma ++ [a], ?_, by simp [sz]; omega⟩
    rw [show flat (.many a) l = flat a l ++ [⟨7, ByteArray.empty, ((flat a l).length : Int) - 1, 0⟩] from rfl, made_snoc]
    rw [show shp (⟨7, ByteArray.empty, ((flat a l).length : Int) - 1, 0⟩ : Pr) (made (flat a l)) = .many a by rw [shp_7 rfl, e1]]
    rw [ea]
    simp
  | .inv a, l, h => by
    obtain ⟨ma, ea, la⟩ := made_flat a l h
    have e1 : (made (flat a l)).getD (((flat a l).length : Int) - 1).toNat .none = a := by
      rw [ea]
      refine getD_at _ _ _ _ _ ?_
      rw [flat_len, List.length_append, made_len]
      omega
    refine ⟨ma ++ [a], ?_, by simp [sz]; omega⟩
    rw [show flat (.inv a) l = flat a l ++ [⟨8, ByteArray.empty, ((flat a l).length : Int) - 1, 0⟩] from rfl, made_snoc]
    rw [show shp (⟨8, ByteArray.empty, ((flat a l).length : Int) - 1, 0⟩ : Pr) (made (flat a l)) = .inv a by rw [shp_8 rfl, e1]]
    rw [ea]
    simp
theorem whole_flat (x : Sh) (h : okS x) : whole (flat x []) = x := by
  obtain ⟨m, e, hl⟩ := made_flat x [] h
  have hm : made ([] : List Pr) = [] := rfl
  unfold whole T
  rw [e, hm]
  refine getD_at _ _ _ _ _ ?_
  rw [flat_len]
  simp
  omega
theorem flat_pre : ∀ (x : Sh) (l : List Pr), ∃ m, flat x l = l ++ m
  | .none, l => ⟨_, rfl⟩
  | .empty, l => ⟨_, rfl⟩
  | .letter c, l => ⟨_, rfl⟩
  | .any, l => ⟨_, rfl⟩
  | .seq a b, l => by
    obtain ⟨ma, ea⟩ := flat_pre a l
    obtain ⟨mb, eb⟩ := flat_pre b (flat a l)
    exact ⟨ma ++ (mb ++ [⟨5, ByteArray.empty, ((flat a l).length : Int) - 1, ((flat b (flat a l)).length : Int) - 1⟩]), by rw [← List.append_assoc, ← ea, ← List.append_assoc, ← eb]; rfl⟩
  | .alt a b, l => by
    obtain ⟨ma, ea⟩ := flat_pre a l
    obtain ⟨mb, eb⟩ := flat_pre b (flat a l)
    exact ⟨ma ++ (mb ++ [⟨6, ByteArray.empty, ((flat a l).length : Int) - 1, ((flat b (flat a l)).length : Int) - 1⟩]), by rw [← List.append_assoc, ← ea, ← List.append_assoc, ← eb]; rfl⟩
  | .many a, l => by
    obtain ⟨ma, ea⟩ := flat_pre a l
    exact ⟨ma ++ [⟨7, ByteArray.empty, ((flat a l).length : Int) - 1, 0⟩], by rw [← List.append_assoc, ← ea]; rfl⟩
  | .inv a, l => by
    obtain ⟨ma, ea⟩ := flat_pre a l
    exact ⟨ma ++ [⟨8, ByteArray.empty, ((flat a l).length : Int) - 1, 0⟩], by rw [← List.append_assoc, ← ea]; rfl⟩
theorem ok_snoc {l : List Pr} {p : Pr} {n : Nat} (h : ∀ j, n ≤ j → j < l.length → okP j (l.getD j eP)) (hp : okP l.length p) : ∀ j, n ≤ j → j < (l ++ [p]).length → okP j ((l ++ [p]).getD j eP) := fun j h1 h2 => by
  by_cases e : j < l.length
  · rw [getD_pre _ _ _ _ e]; exact h j h1 e
  · have e2 : j = l.length := by simp at h2; omega
    rw [getD_at _ _ _ _ _ e2, e2]; exact hp
theorem ok_two {l m : List Pr} {n : Nat} (hn : n ≤ l.length) (h1 : ∀ j, n ≤ j → j < l.length → okP j (l.getD j eP)) (h2 : ∀ j, l.length ≤ j → j < m.length → okP j (m.getD j eP)) (hp : ∃ u, m = l ++ u) : ∀ j, n ≤ j → j < m.length → okP j (m.getD j eP) := fun j h3 h4 => by
  by_cases e : j < l.length
  · obtain ⟨u, rfl⟩ := hp
    rw [getD_pre _ _ _ _ e]; exact h1 j h3 e
  · exact h2 j (by omega) h4
theorem ok_flat : ∀ (x : Sh) (l : List Pr), okS x → ∀ j, l.length ≤ j → j < (flat x l).length → okP j ((flat x l).getD j eP)
  | .none, l, _ => ok_snoc (fun j h1 h2 => by omega) (by simp [okP])
  | .empty, l, _ => ok_snoc (fun j h1 h2 => by omega) (by simp [okP])
  | .letter c, l, h => ok_snoc (fun j h1 h2 => by omega) (by simp [okP, one_size, ltr_one h]; exact h)
  | .any, l, _ => ok_snoc (fun j h1 h2 => by omega) (by simp [okP])
  | .seq a b, l, h => ok_snoc (ok_two (by rw [flat_len]; omega) (ok_flat a l h.1) (ok_flat b _ h.2) (flat_pre b _)) (by
      have := sz_pos a
      have := sz_pos b
      simp [okP, flat_len]; omega)
  | .alt a b, l, h => ok_snoc (ok_two (by rw [flat_len]; omega) (ok_flat a l h.1) (ok_flat b _ h.2) (flat_pre b _)) (by
      have := sz_pos a
      have := sz_pos b
      simp [okP, flat_len]; omega)
  | .many a, l, h => ok_snoc (ok_flat a l h) (by
      have := sz_pos a
      simp [okP, flat_len]; omega)
  | .inv a, l, h => ok_snoc (ok_flat a l h) (by
      have := sz_pos a
      simp [okP, flat_len]; omega)
theorem cnt_flat : ∀ (x : Sh) (l : List Pr) (i : Nat), cnt (flat x l) (i : Int) = cnt l (i : Int) + (if l.length ≤ i ∧ i + 1 < l.length + sz x then 1 else 0)
  | .none, l, i => by rw [flat, cnt_snoc, if_neg (by simp only [sz]; omega)]; simp [nm]
  | .empty, l, i => by rw [flat, cnt_snoc, if_neg (by simp only [sz]; omega)]; simp [nm]
  | .letter c, l, i => by rw [flat, cnt_snoc, if_neg (by simp only [sz]; omega)]; simp [nm]
  | .any, l, i => by rw [flat, cnt_snoc, if_neg (by simp only [sz]; omega)]; simp [nm]
  | .seq a b, l, i => by
    have := sz_pos a
    have := sz_pos b
    rw [flat, cnt_snoc, cnt_flat b, cnt_flat a, flat_len]
    simp only [nm, sz, flat_len, true_or, true_and]
    repeat' split
    all_goals omega
  | .alt a b, l, i => by
    have := sz_pos a
    have := sz_pos b
    rw [flat, cnt_snoc, cnt_flat b, cnt_flat a, flat_len]
    simp only [nm, sz, flat_len, true_or, or_true, true_and]
    repeat' split
    all_goals omega
  | .many a, l, i => by
    have := sz_pos a
    rw [flat, cnt_snoc, cnt_flat a]
    simp only [nm, sz, flat_len, true_or, or_true, true_and]
    repeat' split
    all_goals omega
  | .inv a, l, i => by
    have := sz_pos a
    rw [flat, cnt_snoc, cnt_flat a]
    simp only [nm, sz, flat_len, or_true, true_and]
    repeat' split
    all_goals omega
/-- The parts of a shape are a good form. -/
theorem good_flat (x : Sh) (h : okS x) (hs : sz x ≤ 24) : GoodF (flat x []) := by
  refine ⟨by rw [flat_len]; have := sz_pos x; simp; omega, fun j hj => ok_flat x [] h j (by simp) hj, fun i hi => ?_⟩
  rw [flat_len] at hi
  rw [cnt_flat, if_pos (by simp at hi ⊢; omega)]
  simp [cnt]
/-- A sum over the first numbers. -/
def sumN (f : Nat → Int) : Nat → Int
  | 0 => 0
  | n + 1 => sumN f n + f n
theorem sumN_congr {f g : Nat → Int} : ∀ n, (∀ i, i < n → f i = g i) → sumN f n = sumN g n
  | 0, _ => rfl
  | n + 1, h => by rw [sumN, sumN, sumN_congr n (fun i hi => h i (by omega)), h n (by omega)]
theorem sumN_sub (f g : Nat → Int) : ∀ n, sumN (fun i => f i - g i) n = sumN f n - sumN g n
  | 0 => rfl
  | n + 1 => by simp only [sumN, sumN_sub f g n]; omega
theorem sumN_add (f g : Nat → Int) : ∀ n, sumN (fun i => f i + g i) n = sumN f n + sumN g n
  | 0 => rfl
  | n + 1 => by simp only [sumN, sumN_add f g n]; omega
theorem sumN_zero : ∀ n, sumN (fun _ => 0) n = 0
  | 0 => rfl
  | n + 1 => by simp only [sumN, sumN_zero n]; omega
theorem sumN_at (g : Nat → Int) (c : Int) (h0 : 0 ≤ c) : ∀ n, sumN (fun i => if c = (i : Int) then g i else 0) n = if c < (n : Int) then g c.toNat else 0
  | 0 => by rw [if_neg (by omega)]; rfl
  | n + 1 => by
    rw [sumN, sumN_at g c h0 n]
    by_cases h : c < (n : Int)
    · rw [if_pos h, if_neg (by omega), if_pos (by omega)]; omega
    · rw [if_neg h]
      by_cases e : c = (n : Int)
      · rw [if_pos e, if_pos (by omega)]; subst e; simp
      · rw [if_neg e, if_neg (by omega)]; omega
theorem cnt_high {l : List Pr} (h : ∀ j, j < l.length → okP j (l.getD j eP)) : ∀ k, k ≤ l.length → ∀ i : Nat, k ≤ i + 1 → cnt (l.take k) (i : Int) = 0
  | 0, _, i, _ => by simp [cnt]
  | k + 1, hk, i, hi => by
    rw [take_snoc l k (by omega), cnt_snoc, cnt_high h k (by omega) i (by omega)]
    have ok := h k (by omega)
    unfold nm
    rcases ok with o | o | o | o
    all_goals
      rw [if_neg (by omega), if_neg (by omega)]
      rfl
/-- What the trees of the first parts, those that are named left out, have together. -/
theorem weigh {l : List Pr} (h : ∀ j, j < l.length → okP j (l.getD j eP)) : ∀ k, k ≤ l.length → sumN (fun i => (1 - cnt (l.take k) (i : Int)) * (sz (T l i) : Int)) k = (k : Int)
  | 0, _ => rfl
  | k + 1, hk => by
    have ih := weigh h k (by omega)
    have ok := h k (by omega)
    have e0 := cnt_high h (k + 1) hk k (Nat.le_refl _)
    rw [sumN, e0]
    have e1 : sumN (fun i => (1 - cnt (l.take (k + 1)) (i : Int)) * (sz (T l i) : Int)) k = sumN (fun i => (1 - cnt (l.take k) (i : Int)) * (sz (T l i) : Int)) k - sumN (fun i => nm (l.getD k eP) (i : Int) * (sz (T l i) : Int)) k := by
      rw [← sumN_sub]
      refine sumN_congr k (fun i hi => ?_)
      rw [take_snoc l k (by omega), cnt_snoc, ← Int.sub_sub, Int.sub_mul]
    rw [e1, ih]
    have e2 : sumN (fun i => nm (l.getD k eP) (i : Int) * (sz (T l i) : Int)) k = (sz (T l k) : Int) - 1 := by
      rw [T_node l k (by omega) ok]
      have ea : ∀ a : Int, (sz (T l a.toNat) : Int) = (sz ((made l).getD a.toNat .none) : Int) := fun a => rfl
      rcases ok with o | o | o | o
      · have : ∀ i : Nat, i < k → nm (l.getD k eP) (i : Int) * (sz (T l i) : Int) = 0 := fun i hi => by
          unfold nm; rw [if_neg (by omega), if_neg (by omega)]; simp
        rw [sumN_congr k this, sumN_zero]
        rcases o.1 with e | e | e
        · rw [shp_1 e]; rfl
        · rw [shp_2 e]; rfl
        · rw [shp_4 e]; rfl
      · have : ∀ i : Nat, i < k → nm (l.getD k eP) (i : Int) * (sz (T l i) : Int) = 0 := fun i hi => by
          unfold nm; rw [if_neg (by omega), if_neg (by omega)]; simp
        rw [sumN_congr k this, sumN_zero]
        rw [shp_3 o.1]; rfl
      · obtain ⟨o1, _, oa, ob⟩ := o
        have : ∀ i : Nat, i < k → nm (l.getD k eP) (i : Int) * (sz (T l i) : Int) = (if (l.getD k eP).b = (i : Int) then (sz (T l i) : Int) else 0) + (if (l.getD k eP).a = (i : Int) then (sz (T l i) : Int) else 0) := fun i hi => by
          rw [nm_two o1, Int.add_mul]
          split <;> split <;> simp
        rw [sumN_congr k this, sumN_add, sumN_at (fun i => (sz (T l i) : Int)) _ ob.1, sumN_at (fun i => (sz (T l i) : Int)) _ oa.1, if_pos ob.2, if_pos oa.2]
        rcases o1 with e | e
        · rw [shp_5 e]; unfold T; simp only [sz]; omega
        · rw [shp_6 e]; unfold T; simp only [sz]; omega
      · obtain ⟨o1, _, oa, ob⟩ := o
        have : ∀ i : Nat, i < k → nm (l.getD k eP) (i : Int) * (sz (T l i) : Int) = (if (l.getD k eP).a = (i : Int) then (sz (T l i) : Int) else 0) := fun i hi => by
          rw [nm_one o1]
          split <;> simp
        rw [sumN_congr k this, sumN_at (fun i => (sz (T l i) : Int)) _ oa.1, if_pos oa.2]
        rcases o1 with e | e
        · rw [shp_7 e]; unfold T; simp only [sz]; omega
        · rw [shp_8 e]; unfold T; simp only [sz]; omega
    rw [e2]
    push_cast
    omega
theorem sumN_last (f : Nat → Int) : ∀ n, (∀ i, i < n → f i = 0) → sumN f (n + 1) = f n
  | n, h => by rw [sumN, sumN_congr n h, sumN_zero]; omega
/-- The tree of a good form has just its parts. -/
theorem whole_size {l : List Pr} (h : GoodF l) : sz (whole l) = l.length := by
  obtain ⟨h1, h2, h3⟩ := h
  have w := weigh h2 l.length (Nat.le_refl _)
  obtain ⟨n, hn⟩ : ∃ n, l.length = n + 1 := ⟨l.length - 1, by omega⟩
  rw [List.take_length] at w
  rw [hn, sumN_last _ n (fun i hi => by rw [h3 i (by omega)]; simp)] at w
  have e0 := cnt_high h2 l.length (Nat.le_refl _) n (by omega)
  rw [List.take_length] at e0
  rw [e0] at w
  unfold whole
  rw [show l.length - 1 = n by omega]
  omega
theorem okS_T {l : List Pr} (h : ∀ j, j < l.length → okP j (l.getD j eP)) : ∀ n i, i < n → i < l.length → okS (T l i)
  | 0, i, hi, _ => by omega
  | n + 1, i, hi, hl => by
    have ok := h i hl
    have ih : ∀ a : Int, 0 ≤ a → a < (i : Int) → okS ((made l).getD a.toNat .none) := fun a h0 h1 => okS_T h n a.toNat (by omega) (by omega)
    rw [T_node l i hl ok]
    rcases ok with o | o | o | o
    · rcases o.1 with e | e | e
      · rw [shp_1 e]; trivial
      · rw [shp_2 e]; trivial
      · rw [shp_4 e]; trivial
    · rw [shp_3 o.1]
      exact o.2.1.2
    · obtain ⟨o1, _, oa, ob⟩ := o
      rcases o1 with e | e
      · rw [shp_5 e]; exact ⟨ih _ oa.1 oa.2, ih _ ob.1 ob.2⟩
      · rw [shp_6 e]; exact ⟨ih _ oa.1 oa.2, ih _ ob.1 ob.2⟩
    · obtain ⟨o1, _, oa, ob⟩ := o
      rcases o1 with e | e
      · rw [shp_7 e]; exact ih _ oa.1 oa.2
      · rw [shp_8 e]; exact ih _ oa.1 oa.2
theorem okS_whole {l : List Pr} (h : GoodF l) : okS (whole l) := okS_T h.2.1 l.length _ (by have := h.1; omega) (by have := h.1; omega)
end Go.Proofs.Ytkdiffpbljohkay.L5
