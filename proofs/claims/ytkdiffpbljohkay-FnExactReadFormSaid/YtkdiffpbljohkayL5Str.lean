/-
  Lists of texts in memory; the texts of two letters, row by row. Nothing of the program's text is proved here but closed facts on its types.
-/
import Derived.Test.YtkdiffpbljohkayL5Word
import Derived.Test.YtkdiffpbljohkayL5Lang
import Derived.Maps.AppendAt
namespace Go.Proofs.Ytkdiffpbljohkay.L5
open Go.RowKit L1 L4
set_option linter.unusedVariables false

theorem info_str5 : (Try.prog.info? 9).map (fun i => (i.zero, i.size, i.bytes)) = some (some (.string ByteArray.empty), 1, 16) := by kernel_rfl
abbrev e0 : ByteArray := ByteArray.empty
/-- A list of texts lies in memory. -/
def SlT (w : World) (a : Option Addr) (xs : List ByteArray) : Prop := ∀ i, i < xs.length → ∃ b off, a = some ⟨b, off, none⟩ ∧ w.cell? ⟨b, off + i, none⟩ = some (.string (xs.getD i e0))
theorem SlT.below {w w' : World} {a : Option Addr} {xs : List ByteArray} (h : SlT w a xs) (hb : Below w.heap.size w w') : SlT w' a xs := fun i hi => by
  obtain ⟨b, off, ha, hc⟩ := h i hi
  exact ⟨b, off, ha, (hb.cell (p := ⟨b, off + i, none⟩) (blk_lt hc)).trans hc⟩
theorem slT_base {w w' : World} {a : Option Addr} {xs : List ByteArray} {base : Nat} (h : SlT w a xs) (hb : Below base w w') (hlt : ∀ x, a = some x → x.block < base) : SlT w' a xs := fun i hi => by
  obtain ⟨b, off, ha, hc⟩ := h i hi
  exact ⟨b, off, ha, (hb.cell (p := ⟨b, off + i, none⟩) (hlt ⟨b, off, none⟩ ha)).trans hc⟩
abbrev mapT (xs : List ByteArray) : List Value := xs.map Value.string
theorem mapT_get (xs : List ByteArray) (i : Nat) (h : i < xs.length) : (mapT xs)[i]? = some (.string (xs.getD i e0)) := by
  rw [List.getElem?_map, List.getElem?_eq_getElem h]
  simp [List.getD, List.getElem?_eq_getElem h]
abbrev OwT (w : World) (base : Nat) (v : Value) (xs : List ByteArray) : Prop := w.ownsRow base 9 1 v xs.length (mapT xs)
theorem own_formT {w : World} {base n : Nat} {v : Value} {xs : List ByteArray} (h : w.ownsRow base 9 1 v n (mapT xs)) : ∃ a cap, v = .slice a n cap ∧ SlT w a xs ∧ xs.length = n := by
  have hl := h.1
  simp at hl
  rcases h.2 with ⟨hv, h0⟩ | ⟨g, cap, cur, hv, _⟩
  · subst h0
    exact ⟨none, 0, hv, fun i hi => by omega, hl⟩
  · subst hv
    refine ⟨_, cap, rfl, fun i hi => ?_, hl⟩
    have := h.cells (g := g) rfl i _ (mapT_get xs i hi)
    rw [addr_add] at this
    exact ⟨g, 0, rfl, by simpa using this⟩
theorem own_slT {w : World} {base n cap : Nat} {a : Option Addr} {xs : List ByteArray} (h : w.ownsRow base 9 1 (.slice a n cap) n (mapT xs)) : SlT w a xs := by
  obtain ⟨b, q, e, s, _⟩ := own_formT h
  cases e
  exact s
theorem own_grownT {w w' : World} {base c n : Nat} {t : TypeId} {v : Value} {xs : List Value} {r : Option Nat} (h : w.ownsRow base t c v n xs) (hg : w.grownBy w' r) (hne : ∀ g, v.ownBlock = some g → r ≠ some g) : w'.ownsRow base t c v n xs := by
  refine ⟨h.1, ?_⟩
  rcases h.2 with h0 | ⟨g, cap, cur, hv, hb, hh, rest⟩
  · exact .inl h0
  · refine .inr ⟨g, cap, cur, hv, hb, ?_, rest⟩
    rw [hg.block g (Array.getElem?_eq_some_iff.1 hh).1 (fun e => hne g (by rw [hv]; rfl) e.symm)]
    exact hh
theorem mapT_one (xs : List ByteArray) : ∀ u ∈ mapT xs, u.oneCell' = true := fun u hu => by
  obtain ⟨x, _, rfl⟩ := List.mem_map.1 hu
  rfl
theorem cell_two_newT (w : World) (g : Nat) (hg : w.heap.size = g) (a b : Value) (t : TypeId) : ∀ j u, [a, b][j]? = some u → (w.alloc (.cells #[a, b] t)).cell? ((⟨g, 0, none⟩ : Addr).add j) = some u := by
  subst hg
  intro j u h
  rw [addr_add]
  match j, h with
  | 0, h => simp at h; subst h; simp
  | 1, h => simp at h; subst h; simp
  | j + 2, h => simp at h
theorem cell_one_newT (w : World) (g : Nat) (hg : w.heap.size = g) (a : Value) (t : TypeId) : ∀ j u, [a][j]? = some u → (w.alloc (.cells #[a] t)).cell? ((⟨g, 0, none⟩ : Addr).add j) = some u := by
  subst hg
  intro j u h
  rw [addr_add]
  match j, h with
  | 0, h => simp at h; subst h; simp
  | j + 1, h => simp at h
theorem own_litT (w : World) (s : ByteArray) (base : Nat) (hb : base ≤ w.heap.size) : OwT (w.alloc (.cells #[.string s] 9)) base (.slice (some ⟨w.heap.size, 0, none⟩) 1 1) [s] :=
  ⟨rfl, .inr ⟨w.heap.size, 1, _, rfl, hb, by show (w.heap.push _)[w.heap.size]? = _; exact Array.getElem?_push_size, Nat.le_refl _, by unfold maxLen; omega, rfl, rfl⟩⟩
/-- A text's next two. -/
def two (s : ByteArray) : List ByteArray := [s ++ (⟨#[97]⟩ : ByteArray), s ++ (⟨#[98]⟩ : ByteArray)]
def nx (ws : List ByteArray) : List ByteArray := ws.flatMap two
theorem nx_snoc (ws : List ByteArray) (s : ByteArray) : nx (ws ++ [s]) = nx ws ++ two s := by simp [nx]
theorem nx_len (ws : List ByteArray) : (nx ws).length = 2 * ws.length := by
  induction ws with
  | nil => rfl
  | cons s ws ih => simp only [nx, List.flatMap_cons, List.length_append, List.length_cons] at ih ⊢; simp only [two, List.length_cons, List.length_nil]; omega
/-- The texts of so many letters. -/
def rw5 : Nat → List ByteArray
  | 0 => [e0]
  | n + 1 => nx (rw5 n)
theorem rw5_len : ∀ n, (rw5 n).length = 2 ^ n
  | 0 => rfl
  | n + 1 => by rw [rw5, nx_len, rw5_len n, Nat.pow_succ]; omega
theorem bts_app (s t : ByteArray) : bts (s ++ t) 0 = bts s 0 ++ bts t 0 := by
  have e : (s ++ t).data.toList = s.data.toList ++ t.data.toList := by
    show (ByteArray.append s t).data.toList = _
    simp [ByteArray.append]
  simp only [bts, List.drop_zero, e, List.map_append]
theorem rw5_ok : ∀ n, ∀ s ∈ rw5 n, s.size = n ∧ ∀ c ∈ bts s 0, okc c
  | 0, s, h => by
    simp [rw5] at h
    subst h
    exact ⟨rfl, fun c hc => by simp [bts, e0] at hc⟩
  | n + 1, s, h => by
    simp only [rw5, nx, List.mem_flatMap, two, List.mem_cons, List.not_mem_nil, or_false] at h
    obtain ⟨t, ht, h⟩ := h
    have ih := rw5_ok n t ht
    rcases h with rfl | rfl
    · refine ⟨by rw [ByteArray.size_append, ih.1]; rfl, fun c hc => ?_⟩
      rw [bts_app, List.mem_append] at hc
      rcases hc with hc | hc
      · exact ih.2 c hc
      · simp [bts] at hc; subst hc; exact ⟨by decide, by decide⟩
    · refine ⟨by rw [ByteArray.size_append, ih.1]; rfl, fun c hc => ?_⟩
      rw [bts_app, List.mem_append] at hc
      rcases hc with hc | hc
      · exact ih.2 c hc
      · simp [bts] at hc; subst hc; exact ⟨by decide, by decide⟩
open Classical in
/-- Those that fit. -/
noncomputable def ft (x : Sh) (ws : List ByteArray) : List ByteArray := ws.filter fun s => decide (Mt x (bts s 0))
theorem ft_snoc (x : Sh) (ws : List ByteArray) (s : ByteArray) : ft x (ws ++ [s]) = ft x ws ++ ft x [s] := by simp [ft]
theorem ft_yes {x : Sh} {s : ByteArray} (h : Mt x (bts s 0)) : ft x [s] = [s] := by simp [ft, h]
theorem ft_no {x : Sh} {s : ByteArray} (h : ¬ Mt x (bts s 0)) : ft x [s] = [] := by simp [ft, h]
theorem ft_len (x : Sh) (ws : List ByteArray) : (ft x ws).length ≤ ws.length := by unfold ft; exact List.length_filter_le _ _
/-- Those of the first rows. -/
noncomputable def outW (x : Sh) : Nat → List ByteArray
  | 0 => []
  | n + 1 => outW x n ++ ft x (rw5 n)
theorem outW_len (x : Sh) : ∀ n, (outW x n).length + 1 ≤ 2 ^ n
  | 0 => by simp [outW]
  | n + 1 => by
    have h1 := outW_len x n
    have h2 := ft_len x (rw5 n)
    rw [rw5_len] at h2
    rw [outW, List.length_append, Nat.pow_succ]
    omega
open Classical in
noncomputable def wordsRes (l : List Pr) (long : Int) : Option (List ByteArray) := if GoodF l ∧ 0 ≤ long ∧ long ≤ 3 then some (outW (whole l) (long.toNat + 1)) else none
theorem wordsRes_len (l : List Pr) (long : Int) : ((wordsRes l long).getD []).length ≤ 16 := by
  unfold wordsRes
  split
  · rename_i h
    have h1 := outW_len (whole l) (long.toNat + 1)
    have h2 : 2 ^ (long.toNat + 1) ≤ 2 ^ 4 := Nat.pow_le_pow_right (by omega) (by omega)
    simp only [Option.getD_some]
    omega
  · simp
theorem takeT_snoc (l : List ByteArray) (i : Nat) (h : i < l.length) : l.take (i + 1) = l.take i ++ [l.getD i e0] := by
  rw [List.take_succ_eq_append_getElem h]
  simp [List.getD, List.getElem?_eq_getElem h]
theorem getT_mem (l : List ByteArray) (i : Nat) (h : i < l.length) : l.getD i e0 ∈ l := by
  simp [List.getD, List.getElem?_eq_getElem h]
/-- Texts that a call hands back, in new memory, and whether there are some. -/
def RetW (w : World) (r : Option (List ByteArray)) (e : Ending) (w' : World) : Prop :=
  ∃ v, e = .returned (.tuple #[v, .bool r.isSome]) ∧ w'.ownsRow w.heap.size 9 1 v (r.getD []).length (mapT (r.getD [])) ∧ Below w.heap.size w w'
theorem retW_none {w w' : World} (hb : Below w.heap.size w w') : RetW w none (.returned (.tuple #[.slice none 0 0, .bool false])) w' := ⟨_, rfl, World.ownsRow_nil _ _ _ _, hb⟩
end Go.Proofs.Ytkdiffpbljohkay.L5
