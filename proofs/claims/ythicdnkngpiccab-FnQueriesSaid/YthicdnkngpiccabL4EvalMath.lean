/-
  Plain mathematics of EvalQuery: what the parts of a query tell, one behind the other.
-/
import Derived.Test.YthicdnkngpiccabL4Ser
import Derived.Test.YthicdnkngpiccabL4Qu
namespace Go.Proofs.Ythicdnkngpiccab.L4
open Go.RowKit L1 L3
set_option linter.unusedVariables false

/-- The numbers of all series. -/
def allN : Nat → List Int
  | 0 => []
  | k + 1 => allN k ++ [(k : Int)]
theorem allN_len : ∀ k, (allN k).length = k
  | 0 => rfl
  | k + 1 => by simp [allN, allN_len k]
theorem allN_mem : ∀ k (y : Int), y ∈ allN k ↔ 0 ≤ y ∧ y < (k : Int)
  | 0, y => by simp [allN] <;> omega
  | k + 1, y => by
    rw [allN, List.mem_append, allN_mem k y, List.mem_singleton]
    omega
theorem allN_rise : ∀ k, Rise (allN k)
  | 0 => List.Pairwise.nil
  | k + 1 => by
    refine List.pairwise_append.2 ⟨allN_rise k, by simp, fun y hy z hz => ?_⟩
    have := (allN_mem k y).1 hy
    simp only [List.mem_singleton] at hz
    omega
/-- Rising numbers of series. -/
def OkT (n : Nat) (t : List Int) : Prop := Rise t ∧ ∀ y ∈ t, 0 ≤ y ∧ y < (n : Int)
theorem rise_ge {l : List Int} (h : Rise l) (h0 : ∀ y ∈ l, 0 ≤ y) : ∀ i, i < l.length → (i : Int) ≤ l.getD i 0
  | 0, hi => h0 _ (getD_mem hi)
  | i + 1, hi => by
    have h1 := rise_ge h h0 i (by omega)
    have h2 := rise_get h (show i < i + 1 by omega) hi
    omega
theorem okT_len {n : Nat} {t : List Int} (h : OkT n t) : t.length ≤ n := by
  by_cases h0 : t.length = 0
  · omega
  · have h1 := rise_ge h.1 (fun y hy => (h.2 y hy).1) (t.length - 1) (by omega)
    have h2 := (h.2 _ (getD_mem (l := t) (j := t.length - 1) (by omega))).2
    omega
theorem okT_nil (n : Nat) : OkT n [] := ⟨List.Pairwise.nil, fun y hy => by simp at hy⟩
theorem getD_ok {n : Nat} {ts : List (List Int)} (h : ∀ t ∈ ts, OkT n t) (i : Nat) : OkT n (ts.getD i []) := by
  by_cases hi : i < ts.length
  · have e : ts.getD i [] = ts[i] := by simp [List.getD, List.getElem?_eq_getElem hi]
    rw [e]
    exact h _ (List.getElem_mem hi)
  · have e : ts.getD i [] = [] := by simp [List.getD, List.getElem?_eq_none (show ts.length ≤ i by omega)]
    rw [e]
    exact okT_nil n
theorem okT_those {n : Nat} {a b : List Int} {s : Bool} (h : OkT n a) : OkT n (those b s a) :=
  ⟨h.1.sublist List.filter_sublist, fun y hy => h.2 y (List.mem_filter.1 hy).1⟩
theorem okT_join {n : Nat} {a b : List Int} (ha : OkT n a) (hb : OkT n b) : OkT n (joinL a b) :=
  ⟨joinL_rise b a ha.1, fun y hy => by
    rcases (joinL_mem b a y).1 hy with h | h
    · exact ha.2 y h
    · exact hb.2 y h⟩
theorem okT_hav (ls : List (List Lb)) (p : Lb) (n : Nat) : OkT n (hav ls p n) :=
  ⟨hav_rise ls p n, fun y hy => by
    obtain ⟨i, h1, h2, _⟩ := (hav_mem ls p n y).1 hy
    omega⟩
theorem okT_all (n : Nat) : OkT n (allN n) := ⟨allN_rise n, fun y hy => (allN_mem n y).1 hy⟩
/-- What a part tells. -/
noncomputable def partL (ls : List (List Lb)) (p : Qr) (ts : List (List Int)) : List Int :=
  if p.k = 2 then hav ls (p.n, p.v) ls.length
  else if p.k = 3 then those (ts.getD p.b.toNat []) true (ts.getD p.a.toNat [])
  else if p.k = 4 then joinL (ts.getD p.a.toNat []) (ts.getD p.b.toNat [])
  else if p.k = 5 then those (ts.getD p.a.toNat []) false (allN ls.length)
  else allN ls.length
theorem okT_part {ls : List (List Lb)} {p : Qr} {ts : List (List Int)} (h : ∀ t ∈ ts, OkT ls.length t) : OkT ls.length (partL ls p ts) := by
  unfold partL
  split
  · exact okT_hav _ _ _
  · split
    · exact okT_those (getD_ok h _)
    · split
      · exact okT_join (getD_ok h _) (getD_ok h _)
      · split
        · exact okT_those (okT_all _)
        · exact okT_all _
/-- What the first parts tell. -/
noncomputable def ev (ls : List (List Lb)) (q : List Qr) : Nat → List (List Int)
  | 0 => []
  | k + 1 => ev ls q k ++ [partL ls (q.getD k eQ) (ev ls q k)]
theorem ev_len (ls : List (List Lb)) (q : List Qr) : ∀ k, (ev ls q k).length = k
  | 0 => rfl
  | k + 1 => by simp [ev, ev_len ls q k]
theorem ev_ok (ls : List (List Lb)) (q : List Qr) : ∀ k, ∀ t ∈ ev ls q k, OkT ls.length t
  | 0, t, h => by simp [ev] at h
  | k + 1, t, h => by
    rw [ev, List.mem_append, List.mem_singleton] at h
    rcases h with h | rfl
    · exact ev_ok ls q k t h
    · exact okT_part (ev_ok ls q k)
open Classical in
noncomputable def evRes (ls : List (List Lb)) (q : List Qr) : Option (List Int) := if GoodS ls ∧ GoodQ q then some ((ev ls q q.length).getD (q.length - 1) []) else none
theorem evRes_len (ls : List (List Lb)) (q : List Qr) : ((evRes ls q).getD []).length ≤ 60 := by
  unfold evRes
  split
  · rename_i h
    have h1 := h.1.1
    have h2 := okT_len (getD_ok (ev_ok ls q q.length) (q.length - 1))
    simp only [Option.getD_some]
    omega
  · simp
end Go.Proofs.Ythicdnkngpiccab.L4
