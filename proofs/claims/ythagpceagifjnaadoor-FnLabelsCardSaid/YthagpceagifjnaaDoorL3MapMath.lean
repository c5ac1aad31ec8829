/-
  A map of labels by name, as it is read; what is gone through of it. Nothing of the program's text is proved here.
-/
import Derived.Test.YthagpceagifjnaaDoorL3MergeMath
import Derived.Maps.RangeWalk
import Derived.Maps.OwnSet
import Derived.StringKeys
namespace Go.Proofs.YthagpceagifjnaaDoor.L3
open Go.RowKit L1 Go.Maps
set_option linter.unusedVariables false

def kl (s : ByteArray) : Lit := .string s.data.toList
def elD (x : Lb) : DataW Unit := .agg [.lit (.string x.1.data.toList), .lit (.string x.2.data.toList)]
def mkLV (x : Lb) : Value := .agg #[.string x.1, .string x.2]
def RL (v : Value) : Option (DataW Unit × List MemPlace) :=
  match v with
  | .agg xs => match xs.toList with
    | [.string a, .string b] => some (elD (a, b), [])
    | _ => none
  | _ => none
theorem RL_mk (x : Lb) : RL (mkLV x) = some (elD x, []) := rfl
theorem RL_inv {v : Value} {y : DataW Unit × List MemPlace} (h : RL v = some y) : ∃ x, v = mkLV x ∧ y = (elD x, []) := by
  unfold RL at h
  split at h
  · rename_i xs
    split at h
    · rename_i a b e
      refine ⟨(a, b), ?_, (Option.some.inj h).symm⟩
      have : xs = #[.string a, .string b] := Array.toList_inj.1 e
      rw [this]
      rfl
    · cases h
  · cases h
theorem ba_inj {a b : ByteArray} (h : a.data.toList = b.data.toList) : a = b := ByteArray.ext (Array.toList_inj.1 h)
theorem kl_inj {s t : ByteArray} (h : kl s = kl t) : s = t := by
  unfold kl at h
  exact ba_inj (by simpa using h)
theorem elD_inj {x y : Lb} (h : elD x = elD y) : x = y := by
  unfold elD at h
  simp at h
  exact Prod.ext (ByteArray.ext h.1) (ByteArray.ext h.2)
theorem kl_key (s : ByteArray) : WideAt.IsKeyLit (kl s) := trivial
theorem kl_same (s t : ByteArray) : (kl s).sameKey (kl t) = true ↔ s = t := by
  unfold kl
  simp only [Lit.sameKey, beq_iff_eq]
  exact ⟨ba_inj, fun h => by rw [h]⟩

/-- A map that has just these labels by name. -/
structure RepM (D : DataW Unit) (M : ByteArray → Option Lb) : Prop where
  map : IsMap D
  has : ∀ s, Maps.has D (kl s) = (M s).isSome
  at' : ∀ s x, M s = some x → ∀ z, D.atKey (kl s) z = elD x
  name : ∀ s x, M s = some x → x.1 = s
open Classical in
/-- The labels by name, the last one where there are two. -/
noncomputable def MM (l : List Lb) (s : ByteArray) : Option Lb := l.reverse.find? fun x => decide (x.1 = s)
open Classical in
theorem MM_snoc (l : List Lb) (x : Lb) (s : ByteArray) : MM (l ++ [x]) s = if x.1 = s then some x else MM l s := by
  unfold MM
  rw [List.reverse_append, List.reverse_singleton, List.singleton_append, List.find?_cons]
  by_cases h : x.1 = s <;> simp [h]
theorem rep_nil : RepM (.map []) (MM []) := ⟨⟨[], rfl⟩, fun s => rfl, fun s x h => by simp [MM] at h, fun s x h => by simp [MM] at h⟩
theorem rep_put {D : DataW Unit} {l : List Lb} (h : RepM D (MM l)) (x : Lb) : RepM (D.put (kl x.1) (elD x)) (MM (l ++ [x])) := by
  refine ⟨h.map.put _ _, fun s => ?_, fun s y hy z => ?_, fun s y hy => ?_⟩
  · rw [MM_snoc]
    by_cases e : x.1 = s
    · subst e; rw [if_pos rfl, has_put_same h.map (kl_key _)]; rfl
    · rw [if_neg e, has_put_other (fun e2 => e (kl_inj e2).symm), h.has]
  · rw [MM_snoc] at hy
    by_cases e : x.1 = s
    · subst e; rw [if_pos rfl] at hy; cases hy; exact atKey_put_same h.map (kl_key _) _ _
    · rw [if_neg e] at hy; rw [atKey_put_other (fun e2 => e (kl_inj e2).symm), h.at' s y hy]
  · rw [MM_snoc] at hy
    by_cases e : x.1 = s
    · rw [if_pos e] at hy; cases hy; exact e
    · rw [if_neg e] at hy; exact h.name s y hy

/-- What has been gone through. -/
structure Col (M : ByteArray → Option Lb) (left : Lit → Bool) (ys : List Lb) : Prop where
  mem : ∀ x ∈ ys, M x.1 = some x ∧ left (kl x.1) = false
  all : ∀ s x, M s = some x → left (kl s) = false → x ∈ ys
  apart : ys.Pairwise fun p q => p.1 ≠ q.1
theorem col_start {D : DataW Unit} {M : ByteArray → Option Lb} (h : RepM D M) : Col M (Maps.has D) [] :=
  ⟨fun x hx => by simp at hx, fun s x hx hl => (by rw [h.has, hx] at hl; cases hl), List.Pairwise.nil⟩
theorem col_step {D : DataW Unit} {M : ByteArray → Option Lb} {left : Lit → Bool} {ys : List Lb} {s : ByteArray} {c : Lb} (h : RepM D M) (hc : Col M left ys) (hl : left (kl s) = true) (hat : ∀ z, D.atKey (kl s) z = elD c) : Col M (fun z => left z && !z.sameKey (kl s)) (ys ++ [c]) := by
  have hh : Maps.has D (kl s) = true := has_true_of_atKey hat
  rw [h.has] at hh
  obtain ⟨x, hx⟩ := Option.isSome_iff_exists.1 hh
  have hxc : x = c := elD_inj ((h.at' s x hx (.map [])).symm.trans (hat _))
  subst hxc
  have hn := h.name s x hx
  refine ⟨fun y hy => ?_, fun t y hy hlt => ?_, ?_⟩
  · rcases List.mem_append.1 hy with hy | hy
    · have := hc.mem y hy
      exact ⟨this.1, by simp [this.2]⟩
    · simp at hy
      subst hy
      refine ⟨by rw [hn]; exact hx, ?_⟩
      have : (kl y.1).sameKey (kl s) = true := (kl_same _ _).2 hn
      simp [this]
  · by_cases e : (kl t).sameKey (kl s) = true
    · have : t = s := (kl_same _ _).1 e
      subst this
      rw [hx] at hy
      cases hy
      simp
    · simp only [Bool.not_eq_true] at e
      simp only [e, Bool.not_false, Bool.and_true] at hlt
      exact List.mem_append.2 (.inl (hc.all t y hy hlt))
  · rw [List.pairwise_append]
    refine ⟨hc.apart, by simp, fun p hp q hq => ?_⟩
    simp at hq
    subst hq
    intro e
    have := (hc.mem p hp).2
    rw [e, hn, hl] at this
    cases this
theorem col_end {M : ByteArray → Option Lb} {left : Lit → Bool} {ys : List Lb} (hc : Col M left ys) (hl : ∀ k, left k = false) : ∀ x, x ∈ ys ↔ M x.1 = some x :=
  fun x => ⟨fun h => (hc.mem x h).1, fun h => hc.all x.1 x h (hl _)⟩

/-- The last one of each name: those of the second list, and the others of the first. -/
theorem MM_in {a b : List Lb} (ha : UpL a) (hb : UpL b) (p : Lb) : MM (a ++ b) p.1 = some p ↔ InM a b p := by
  have key : ∀ {l : List Lb}, UpL l → ∀ s x, MM l s = some x ↔ (x ∈ l ∧ x.1 = s) := fun {l} hl s x => by
    unfold MM
    constructor
    · intro h
      exact ⟨by have := List.mem_of_find?_eq_some h; simpa using this, by have := List.find?_some h; simpa using this⟩
    · rintro ⟨h1, h2⟩
      cases hf : l.reverse.find? (fun x => decide (x.1 = s)) with
      | none =>
        have := List.find?_eq_none.1 hf x (by simpa using h1)
        simp [h2] at this
      | some y =>
        have hy1 : y ∈ l := by have := List.mem_of_find?_eq_some hf; simpa using this
        have hy2 : y.1 = s := by have := List.find?_some hf; simpa using this
        by_cases e : x = y
        · rw [e]
        · exfalso
          have hnd : l.Pairwise fun p q => p.1 ≠ q.1 := hl.imp fun h => ahead_ne h
          obtain ⟨i, hi, rfl⟩ := List.getElem_of_mem h1
          obtain ⟨j, hj, rfl⟩ := List.getElem_of_mem hy1
          rcases Nat.lt_trichotomy i j with h | h | h
          · exact List.pairwise_iff_getElem.1 hnd i j hi hj h (by rw [h2, hy2])
          · subst h; exact e rfl
          · exact List.pairwise_iff_getElem.1 hnd j i hj hi h (by rw [h2, hy2])
  have hsplit : MM (a ++ b) p.1 = (MM b p.1).or (MM a p.1) := by
    unfold MM
    rw [List.reverse_append, List.find?_append]
  rw [hsplit]
  unfold InM
  cases hb' : MM b p.1 with
  | none =>
    have hno : ∀ y ∈ b, y.1 ≠ p.1 := fun y hy e => by
      have := (key hb p.1 y).2 ⟨hy, e⟩
      rw [hb'] at this
      cases this
    rw [Option.none_or, key ha]
    constructor
    · rintro ⟨h1, _⟩; exact .inr ⟨h1, hno⟩
    · rintro (h1 | ⟨h1, _⟩)
      · exact absurd rfl (hno p h1)
      · exact ⟨h1, rfl⟩
  | some y =>
    have hy := (key hb p.1 y).1 hb'
    rw [Option.some_or]
    constructor
    · intro h; cases h; exact .inl hy.1
    · rintro (h1 | ⟨_, h2⟩)
      · have := (key hb p.1 p).2 ⟨h1, rfl⟩
        rw [hb'] at this
        exact this
      · exact absurd hy.2 (h2 y hy.1)
end Go.Proofs.YthagpceagifjnaaDoor.L3
