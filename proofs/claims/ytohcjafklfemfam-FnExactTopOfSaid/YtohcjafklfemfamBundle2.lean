/-
  Texts as lists of bytes. Nothing of the program's text is proved here.
  What a word is; how texts are ordered. Nothing of the program's text is proved here.
  Lists of labels in memory; what is good of them.
  Lists of totals in memory. Nothing of the program's text is proved here but closed facts on its types.
  The text of labels: its pieces, one behind the other, and as one that is joined. Nothing of the program's text is proved here.
  What is good of totals. Nothing of the program's text is proved here.
  The values of totals. Nothing of the program's text is proved here.
  Places by what stands there, from the greatest down, of alike ones the first ahead. Nothing of the program's text is proved here.
-/
import Derived.Test.YtohcjafklfemfamBundle1
import Derived.Deep.QuietTactic
import Derived.BigQuiet
import Derived.Deep.RegionHeld3
import Derived.Laws.Cover1
import Derived.Laws.RangeAny
import Derived.Lib.Join
namespace Go.Proofs.Ytohcjafklfemfam.L1
open Go.RowKit
set_option linter.unusedVariables false

/-- A text's bytes from a place on. -/
def bts (s : ByteArray) (a : Nat) : List Int := (s.data.toList.drop a).map fun c => (c.toNat : Int)
theorem bts_len (s : ByteArray) (a : Nat) : (bts s a).length = s.size - a := by simp [bts]
theorem bts_get (s : ByteArray) (a k : Nat) (h : a + k < s.size) : (bts s a).getD k 0 = ((s[a + k]'h).toNat : Int) := by
  have h2 : a + k < s.data.toList.length := by simpa using h
  simp only [bts, List.getD, List.getElem?_map, List.getElem?_drop, List.getElem?_eq_getElem h2, Option.map_some, Option.getD_some]
  rfl
theorem bts_byte (s : ByteArray) (a k : Nat) : 0 ≤ (bts s a).getD k 0 ∧ (bts s a).getD k 0 < 256 := by
  by_cases h : a + k < s.size
  · rw [bts_get s a k h]
    have := (s[a + k]'h).toNat_lt
    omega
  · simp only [List.getD, List.getElem?_eq_none (show (bts s a).length ≤ k by rw [bts_len]; omega)]
    simp

/-- The text of digits that stand in a text is that piece of it. -/
theorem str_piece (s : ByteArray) (a j : Nat) (h : a + j ≤ s.size) : strOfNums ((bts s a).take j) = s.extract a (a + j) := by
  apply ByteArray.ext
  apply Array.toList_inj.1
  simp only [strOfNums, bts, ByteArray.data_extract, Array.toList_extract]
  rw [← List.map_take, List.map_map]
  have e : (fun n : Int => UInt8.ofNat n.toNat) ∘ (fun c : UInt8 => (c.toNat : Int)) = id := by
    funext c
    simp
  rw [e]
  simp
theorem str_inj : ∀ {l m : List Int}, (∀ x ∈ l, 0 ≤ x ∧ x < 256) → (∀ x ∈ m, 0 ≤ x ∧ x < 256) → strOfNums l = strOfNums m → l = m := by
  intro l m hl hm h
  have h2 : l.map (fun n : Int => UInt8.ofNat n.toNat) = m.map (fun n : Int => UInt8.ofNat n.toNat) := by
    have := congrArg (fun b => b.data.toList) h
    simpa [strOfNums] using this
  clear h
  induction l generalizing m with
  | nil => cases m with
    | nil => rfl
    | cons y m => simp at h2
  | cons x l ih =>
    cases m with
    | nil => simp at h2
    | cons y m =>
      simp only [List.map_cons, List.cons.injEq] at h2
      have hx := hl x (by simp)
      have hy := hm y (by simp)
      have e : x = y := by
        have := congrArg UInt8.toNat h2.1
        simp only [UInt8.toNat_ofNat'] at this
        omega
      rw [e, ih (fun u hu => hl u (by simp [hu])) (fun u hu => hm u (by simp [hu])) h2.2]
theorem toList_inj {A B : ByteArray} (h : A.toList = B.toList) : A = B := by
  rw [ByteArray.toList_eq, ByteArray.toList_eq] at h
  exact ByteArray.ext (Array.toList_inj.1 h)
theorem bts_mem (s : ByteArray) (a : Nat) : ∀ x ∈ bts s a, 0 ≤ x ∧ x < 256 := by
  intro x hx
  simp only [bts, List.mem_map] at hx
  obtain ⟨c, _, rfl⟩ := hx
  have := c.toNat_lt
  omega
end Go.Proofs.Ytohcjafklfemfam.L1

namespace Go.Proofs.Ytohcjafklfemfam.L3
open Go.RowKit L1
set_option linter.unusedVariables false

theorem bl_irrefl : ∀ x : List UInt8, Op.bytesLess x x = false
  | [] => rfl
  | a :: x => by simp [Op.bytesLess, bl_irrefl x]
theorem bl_trans : ∀ x y z : List UInt8, Op.bytesLess x y = true → Op.bytesLess y z = true → Op.bytesLess x z = true
  | _, [], _, h, _ => by simp [Op.bytesLess] at h
  | _, _ :: _, [], _, h => by simp [Op.bytesLess] at h
  | [], _ :: _, _ :: _, _, _ => rfl
  | a :: x, b :: y, c :: z, h1, h2 => by
    simp only [Op.bytesLess, Bool.or_eq_true, decide_eq_true_eq, Bool.and_eq_true, beq_iff_eq] at *
    rcases h1 with h1 | ⟨rfl, h1⟩ <;> rcases h2 with h2 | ⟨rfl, h2⟩
    · exact .inl (UInt8.lt_trans h1 h2)
    · exact .inl h1
    · exact .inl h2
    · exact .inr ⟨rfl, bl_trans x y z h1 h2⟩
theorem bl_tri : ∀ x y : List UInt8, Op.bytesLess x y = false → Op.bytesLess y x = false → x = y
  | [], [], _, _ => rfl
  | [], _ :: _, h, _ => by simp [Op.bytesLess] at h
  | _ :: _, [], _, h => by simp [Op.bytesLess] at h
  | a :: x, b :: y, h1, h2 => by
    simp only [Op.bytesLess, Bool.or_eq_false_iff, decide_eq_false_iff_not, Bool.and_eq_false_iff, beq_eq_false_iff_ne] at *
    have e : a = b := UInt8.le_antisymm (UInt8.not_lt.1 h2.1) (UInt8.not_lt.1 h1.1)
    subst e
    rw [bl_tri x y (h1.2.resolve_left (by simp)) (h2.2.resolve_left (by simp))]
/-- A text comes ahead of another one. -/
def Ahead (a b : ByteArray) : Prop := Op.bytesLess a.toList b.toList = true
instance (a b : ByteArray) : Decidable (Ahead a b) := by unfold Ahead; infer_instance
theorem ahead_not {a b : ByteArray} (h : Ahead a b) : Op.bytesLess b.toList a.toList = false ∧ (b.toList == a.toList) = false := by
  unfold Ahead at h
  constructor
  · cases e : Op.bytesLess b.toList a.toList with
    | false => rfl
    | true => have := bl_trans _ _ _ h e; rw [bl_irrefl] at this; cases this
  · cases e : (b.toList == a.toList) with
    | false => rfl
    | true =>
      rw [beq_iff_eq] at e
      rw [e, bl_irrefl] at h
      cases h
theorem not_ahead {a b : ByteArray} (h : ¬ Ahead a b) : (Op.bytesLess b.toList a.toList || b.toList == a.toList) = true := by
  unfold Ahead at h
  cases e : Op.bytesLess b.toList a.toList with
  | true => rfl
  | false => rw [bl_tri _ _ e (by simpa using h)]; simp
/-- What a byte of a word is. -/
def okB (dig : Bool) (b : Int) : Prop := (97 ≤ b ∧ b ≤ 122) ∨ (dig = true ∧ 48 ≤ b ∧ b ≤ 57)
instance (dig : Bool) (b : Int) : Decidable (okB dig b) := by unfold okB; infer_instance
/-- A word: 1 to 8 letters, or letters and digits. -/
def Word (dig : Bool) (s : ByteArray) : Prop := (1 ≤ s.size ∧ s.size ≤ 8) ∧ ∀ k, k < s.size → okB dig ((bts s 0).getD k 0)
theorem own_belowT {w w' : World} {base n : Nat} {t : TypeId} {c : Nat} {v : Value} {ys : List Value} (h : w.ownsRow base t c v n ys) (hb : Below w.heap.size w w') : w'.ownsRow base t c v n ys := by
  refine ⟨h.1, ?_⟩
  rcases h.2 with h0 | ⟨g, cap, cur, rfl, hbg, hg, r⟩
  · exact .inl h0
  · exact .inr ⟨g, cap, cur, rfl, hbg, by rw [hb.block g (Array.getElem?_eq_some_iff.1 hg).1]; exact hg, r⟩
theorem own_baseT {w : World} {b c n size : Nat} {e : TypeId} {v : Value} {xs : List Value} (h : w.ownsRow c e size v n xs) (hbc : b ≤ c) : w.ownsRow b e size v n xs := by
  refine ⟨h.1, ?_⟩
  rcases h.2 with h0 | ⟨g, cap, cur, hv, hg, r⟩
  · exact .inl h0
  · exact .inr ⟨g, cap, cur, hv, Nat.le_trans hbc hg, r⟩
theorem bool_noT {b : Bool} {p : Prop} (h : b = true ↔ p) (hp : ¬ p) : b = false := by
  cases b with
  | false => rfl
  | true => exact absurd (h.1 rfl) hp
end Go.Proofs.Ytohcjafklfemfam.L3

namespace Go.Proofs.Ytohcjafklfemfam.L3
open Go.RowKit L1
set_option linter.unusedVariables false

/-- A label: its Name and its Value. -/
abbrev Lb := ByteArray × ByteArray
def eL : Lb := (ByteArray.empty, ByteArray.empty)



/-- A label as a value. -/
def svL (p : Lb) : Value := .agg #[.string p.1, .string p.2]
/-- A list of labels lies in memory from an address on. -/
def SlL (w : World) (a : Option Addr) (l : List Lb) : Prop := ∀ i, i < l.length → ∃ b off, a = some ⟨b, off, none⟩ ∧ w.cell? ⟨b, off + i * 2, none⟩ = some (.string (l.getD i eL).1) ∧ w.cell? ⟨b, off + i * 2 + 1, none⟩ = some (.string (l.getD i eL).2)
theorem SlL.below {w w' : World} {a : Option Addr} {xs : List Lb} (h : SlL w a xs) (hb : Below w.heap.size w w') : SlL w' a xs := fun i hi => by
  obtain ⟨b, off, ha, hc, hd⟩ := h i hi
  refine ⟨b, off, ha, ?_, ?_⟩
  · rw [hb.cell (p := ⟨b, off + i * 2, none⟩) (blk_lt hc)]; exact hc
  · rw [hb.cell (p := ⟨b, off + i * 2 + 1, none⟩) (blk_lt hd)]; exact hd

/-- What a walk is told of a slice of labels that came in. -/
def IsRowL (w : World) (a : Option Addr) (len : Nat) (l : List Lb) : Prop := l.length = len ∧ len ≤ maxLen ∧ SlL w a l
open Classical in
theorem rowL_of_pairs {w : World} {a : Addr} {len cap : Nat} (hl : len ≤ cap) (hm : cap ≤ maxLen) (h : ∀ i, i < len → ∃ n0 n1, w.cell? (a.add (i * 2)) = some (.string n0) ∧ w.cell? (a.add (i * 2 + 1)) = some (.string n1)) : ∃ l, IsRowL w (some a) len l := by
  have hc : ∃ f : Nat → Lb, ∀ i, i < len → w.cell? (a.add (i * 2)) = some (.string (f i).1) ∧ w.cell? (a.add (i * 2 + 1)) = some (.string (f i).2) := by
    refine ⟨fun i => if hi : i < len then (Classical.choose (h i hi), Classical.choose (Classical.choose_spec (h i hi))) else eL, fun i hi => ?_⟩
    simp only [dif_pos hi]
    exact Classical.choose_spec (Classical.choose_spec (h i hi))
  obtain ⟨f, hf⟩ := hc
  refine ⟨(List.range len).map f, by simp, Nat.le_trans hl hm, fun i hi => ?_⟩
  have hi' : i < len := by simpa using hi
  obtain ⟨b, off, spot⟩ := a
  have hspot : spot = none := by
    have h00 := (hf 0 (by omega)).1
    have := World.cell?_spot h00
    simpa [Addr.add] using this
  subst hspot
  have e0 : ∀ j, (⟨b, off, none⟩ : Addr).add j = ⟨b, off + j, none⟩ := fun j => by unfold Addr.add; split <;> simp_all
  have hg : ((List.range len).map f).getD i eL = f i := by simp [List.getD, hi']
  have := hf i hi'
  rw [e0, e0] at this
  rw [hg]
  exact ⟨b, off, rfl, this.1, this.2⟩



/-- The cells of labels, one behind the other. -/
def flatL : List Lb → List Value
  | [] => []
  | p :: l => .string p.1 :: .string p.2 :: flatL l
theorem flatL_len : ∀ l : List Lb, (flatL l).length = l.length * 2
  | [] => rfl
  | p :: l => by simp [flatL, flatL_len l]; omega
theorem flatL_get : ∀ (l : List Lb) (i : Nat), i < l.length → (flatL l)[i * 2]? = some (.string (l.getD i eL).1) ∧ (flatL l)[i * 2 + 1]? = some (.string (l.getD i eL).2)
  | [], i, h => by simp at h
  | p :: l, 0, _ => ⟨rfl, rfl⟩
  | p :: l, i + 1, h => by
    have := flatL_get l i (by simpa using h)
    have e1 : (i + 1) * 2 = i * 2 + 1 + 1 := by omega
    rw [e1]
    simpa only [flatL, List.getElem?_cons_succ, List.getD_cons_succ] using this
theorem flatL_append (l m : List Lb) : flatL (l ++ m) = flatL l ++ flatL m := by
  induction l with
  | nil => rfl
  | cons p l ih => simp [flatL, ih]
theorem flatL_set : ∀ (l : List Lb) (i : Nat) (p : Lb), flatL (l.set i p) = ((flatL l).set (i * 2) (.string p.1)).set (i * 2 + 1) (.string p.2)
  | [], _, _ => rfl
  | q :: l, 0, p => rfl
  | q :: l, i + 1, p => by
    have := flatL_set l i p
    have e1 : (i + 1) * 2 = i * 2 + 1 + 1 := by omega
    rw [e1]
    simp only [List.set_cons_succ, flatL, this]
theorem own_formL {w : World} {base n : Nat} {v : Value} {l : List Lb} (h : w.ownsRow base 87 2 v n (flatL l)) : ∃ a cap, v = .slice a n cap ∧ SlL w a l ∧ l.length = n := by
  have hl := h.1
  rw [flatL_len] at hl
  have hl' : l.length = n := by omega
  rcases h.2 with ⟨hv, h0⟩ | ⟨g, cap, cur, hv, _⟩
  · subst h0
    exact ⟨none, 0, hv, fun i hi => by omega, hl'⟩
  · subst hv
    refine ⟨_, cap, rfl, fun i hi => ?_, hl'⟩
    have hf := flatL_get l i hi
    have h1 := h.cells (g := g) rfl (i * 2) _ hf.1
    have h2 := h.cells (g := g) rfl (i * 2 + 1) _ hf.2
    rw [addr_add] at h1 h2
    exact ⟨g, 0, rfl, by simpa using h1, by simpa using h2⟩
theorem own_belowL {w w' : World} {base n : Nat} {v : Value} {ys : List Value} (h : w.ownsRow base 87 2 v n ys) (hb : Below w.heap.size w w') : w'.ownsRow base 87 2 v n ys := by
  refine ⟨h.1, ?_⟩
  rcases h.2 with h0 | ⟨g, cap, cur, rfl, hbg, hg, r⟩
  · exact .inl h0
  · exact .inr ⟨g, cap, cur, rfl, hbg, by rw [hb.block g (Array.getElem?_eq_some_iff.1 hg).1]; exact hg, r⟩
theorem info_lab : (Try.prog.info? 87).map (fun i => (i.zero, i.size, i.bytes)) = some (some (.agg #[.string ByteArray.empty, .string ByteArray.empty]), 2, 32) := by kernel_rfl



theorem own_slL {w : World} {base n cap : Nat} {a : Option Addr} {l : List Lb} (h : w.ownsRow base 87 2 (.slice a n cap) n (flatL l)) : SlL w a l := by
  obtain ⟨b, q, e, s, _⟩ := own_formL h
  cases e
  exact s


/-- What a walk is told of a slice of labels that came in. -/
def IsRowLS (w : World) (a : Option Addr) (len : Nat) (l : List Lb) : Prop := IsRowL w a len l ∧ ∀ j, j < l.length → (l.getD j eL).1.size ≤ 9223372036854775807 ∧ (l.getD j eL).2.size ≤ 9223372036854775807
theorem rowLS_of_pairs {w : World} {a : Addr} {len cap : Nat} (hl : len ≤ cap) (hm : cap ≤ maxLen) (h : ∀ i, i < len → ∃ n0 n1 : ByteArray, w.cell? (a.add (i * 2)) = some (.string n0) ∧ w.cell? (a.add (i * 2 + 1)) = some (.string n1) ∧ n0.size ≤ maxLen ∧ n1.size ≤ maxLen) : ∃ l, IsRowLS w (some a) len l := by
  obtain ⟨l, hr⟩ := rowL_of_pairs hl hm (fun i hi => by obtain ⟨n0, n1, h1, h2, _⟩ := h i hi; exact ⟨n0, n1, h1, h2⟩)
  refine ⟨l, hr, fun j hj => ?_⟩
  obtain ⟨b, off, ha, hc, hd⟩ := hr.2.2 j hj
  obtain ⟨n0, n1, h1, h2, s1, s2⟩ := h j (by rw [← hr.1]; exact hj)
  cases ha
  have e0 : ∀ j, (⟨b, off, none⟩ : Addr).add j = ⟨b, off + j, none⟩ := fun j => by unfold Addr.add; split <;> simp_all
  rw [e0] at h1 h2
  rw [← Nat.add_assoc] at h2
  rw [h1] at hc
  rw [h2] at hd
  simp only [Option.some.injEq, Value.string.injEq] at hc hd
  unfold maxLen at s1 s2
  rw [← hc, ← hd]
  exact ⟨by omega, by omega⟩
def okL (p : Lb) : Prop := Word false p.1 ∧ Word true p.2
def GoodL (l : List Lb) : Prop := l.length ≤ 6 ∧ ∀ j, j < l.length → okL (l.getD j eL) ∧ (0 < j → Ahead (l.getD (j - 1) eL).1 (l.getD j eL).1)
/-- Labels that a call hands back, in new memory, and whether there are some. -/
def RetLb (w : World) (r : Option (List Lb)) (e : Ending) (w' : World) : Prop :=
  ∃ v, e = .returned (.tuple #[v, .bool r.isSome]) ∧ w'.ownsRow w.heap.size 87 2 v (r.getD []).length (flatL (r.getD [])) ∧ Below w.heap.size w w'
end Go.Proofs.Ytohcjafklfemfam.L3

namespace Go.Proofs.Ytohcjafklfemfam.L14T
open Go.RowKit L1 L3
set_option linter.unusedVariables false

/-- One of the totals: its labels, its numbers. -/
structure Rw where
  l : List Lb
  v0 : Int
  v1 : Int
  v2 : Int
  v3 : Int
def eR : Rw := ⟨[], 0, 0, 0, 0⟩
/-- One with the slice that is its labels. -/
abbrev PR := Rw × Value
def eV : PR := (eR, .slice none 0 0)
abbrev gr (L : List Rw) (i : Nat) : Rw := L.getD i eR
/-- One as a value. -/
abbrev svR (p : Rw) (v : Value) : Value := .agg #[v, .int .i64 p.v0, .int .i64 p.v1, .int .i64 p.v2, .int .i64 p.v3]
/-- One lies in memory from a place on. -/
structure AtR (w : World) (b o : Nat) (p : Rw) (a : Option Addr) (c : Nat) : Prop where
  x : w.cell? ⟨b, o, none⟩ = some (.slice a p.l.length c)
  i0 : w.cell? ⟨b, o + 1, none⟩ = some (.int .i64 p.v0)
  i1 : w.cell? ⟨b, o + 2, none⟩ = some (.int .i64 p.v1)
  i2 : w.cell? ⟨b, o + 3, none⟩ = some (.int .i64 p.v2)
  i3 : w.cell? ⟨b, o + 4, none⟩ = some (.int .i64 p.v3)
  l : SlL w a p.l
theorem AtR.below {w w' : World} {b o c : Nat} {p : Rw} {a : Option Addr} (h : AtR w b o p a c) (hb : Below w.heap.size w w') : AtR w' b o p a c :=
  ⟨(hb.cell (p := ⟨b, o, none⟩) (blk_lt h.x)).trans h.x, (hb.cell (p := ⟨b, o + 1, none⟩) (blk_lt h.x)).trans h.i0, (hb.cell (p := ⟨b, o + 2, none⟩) (blk_lt h.x)).trans h.i1, (hb.cell (p := ⟨b, o + 3, none⟩) (blk_lt h.x)).trans h.i2, (hb.cell (p := ⟨b, o + 4, none⟩) (blk_lt h.x)).trans h.i3, h.l.below hb⟩
/-- A list of them lies in memory from an address on. -/
def SlR (w : World) (a : Option Addr) (L : List Rw) : Prop := ∀ i, i < L.length → ∃ b off, a = some ⟨b, off, none⟩ ∧ ∃ ai ci, AtR w b (off + i * 5) (gr L i) ai ci
theorem SlR.below {w w' : World} {a : Option Addr} {xs : List Rw} (h : SlR w a xs) (hb : Below w.heap.size w w') : SlR w' a xs := fun i hi => by
  obtain ⟨b, off, ha, ai, ci, hc⟩ := h i hi
  exact ⟨b, off, ha, ai, ci, hc.below hb⟩
/-- The cells of one, and of some one behind the other. -/
def cR (p : PR) : List Value := [p.2, .int .i64 p.1.v0, .int .i64 p.1.v1, .int .i64 p.1.v2, .int .i64 p.1.v3]
abbrev flatR (M : List PR) : List Value := M.flatMap cR
theorem cR_len (p : PR) : (cR p).length = 5 := rfl
theorem flatR_len (M : List PR) : (flatR M).length = M.length * 5 := L8.flat_len cR 5 cR_len M
theorem flatR_get (M : List PR) (i : Nat) (h : i < M.length) : (flatR M)[i * 5]? = some (M.getD i eV).2 ∧ (flatR M)[i * 5 + 1]? = some (.int .i64 (M.getD i eV).1.v0) ∧ (flatR M)[i * 5 + 2]? = some (.int .i64 (M.getD i eV).1.v1) ∧ (flatR M)[i * 5 + 3]? = some (.int .i64 (M.getD i eV).1.v2) ∧ (flatR M)[i * 5 + 4]? = some (.int .i64 (M.getD i eV).1.v3) :=
  ⟨L8.flat_get cR 5 cR_len eV M i 0 h (by omega), L8.flat_get cR 5 cR_len eV M i 1 h (by omega), L8.flat_get cR 5 cR_len eV M i 2 h (by omega), L8.flat_get cR 5 cR_len eV M i 3 h (by omega), L8.flat_get cR 5 cR_len eV M i 4 h (by omega)⟩
theorem info_row : (Try.prog.info? 60).map (fun i => (i.zero, i.size, i.bytes)) = some (some (.agg #[.slice none 0 0, .int .i64 0, .int .i64 0, .int .i64 0, .int .i64 0]), 5, 56) := by kernel_rfl
/-- The plain ones. -/
abbrev rws (M : List PR) : List Rw := M.map Prod.fst
theorem rws_get (M : List PR) (i : Nat) (h : i < M.length) : gr (rws M) i = (M.getD i eV).1 := by simp [gr, List.getD, List.getElem?_eq_getElem h]
/-- Some that lie in memory of their own: a row of them, and a row of its own for each one's labels. -/
structure OwR (w : World) (base : Nat) (v : Value) (n : Nat) (M : List PR) : Prop where
  len : M.length = n
  row : w.ownsRow base 60 5 v n (flatR M)
  idx : ∀ i, i < n → w.ownsRow base 87 2 (M.getD i eV).2 (M.getD i eV).1.l.length (flatL (M.getD i eV).1.l)
  apart : ∀ i j, i < j → j < n → ∀ g, (M.getD i eV).2.ownBlock = some g → (M.getD j eV).2.ownBlock ≠ some g
theorem own_baseR {w : World} {b1 b2 n c : Nat} {t : TypeId} {v : Value} {ys : List Value} (h : w.ownsRow b1 t c v n ys) (hb : b2 ≤ b1) : w.ownsRow b2 t c v n ys := by
  refine ⟨h.1, ?_⟩
  rcases h.2 with h0 | ⟨g, cap, cur, rfl, hbg, hg, r⟩
  · exact .inl h0
  · exact .inr ⟨g, cap, cur, rfl, Nat.le_trans hb hbg, hg, r⟩
theorem own_belowR {w w' : World} {base n c : Nat} {t : TypeId} {v : Value} {ys : List Value} (h : w.ownsRow base t c v n ys) (hb : Below w.heap.size w w') : w'.ownsRow base t c v n ys := by
  refine ⟨h.1, ?_⟩
  rcases h.2 with h0 | ⟨g, cap, cur, rfl, hbg, hg, r⟩
  · exact .inl h0
  · exact .inr ⟨g, cap, cur, rfl, hbg, by rw [hb.block g (Array.getElem?_eq_some_iff.1 hg).1]; exact hg, r⟩
theorem OwR.below {w w' : World} {base n : Nat} {v : Value} {M : List PR} (h : OwR w base v n M) (hb : Below w.heap.size w w') : OwR w' base v n M :=
  ⟨h.len, own_belowR h.row hb, fun i hi => own_belowR (h.idx i hi) hb, h.apart⟩
theorem OwR.base {w : World} {b1 b2 n : Nat} {v : Value} {M : List PR} (h : OwR w b1 v n M) (hb : b2 ≤ b1) : OwR w b2 v n M :=
  ⟨h.len, own_baseR h.row hb, fun i hi => own_baseR (h.idx i hi) hb, h.apart⟩
theorem OwR.setC {w : World} {base n : Nat} {v : Value} {M : List PR} (h : OwR w base v n M) (p : Addr) (u : Value) (hp : p.block < base) : OwR (w.setCell p u) base v n M :=
  ⟨h.len, L8.own_setC h.row p u hp, fun i hi => L8.own_setC (h.idx i hi) p u hp, h.apart⟩
theorem lab_row : 60 ≠ 87 := by decide
theorem OwR.form {w : World} {base n : Nat} {v : Value} {M : List PR} (h : OwR w base v n M) : ∃ a cap, v = .slice a n cap ∧ SlR w a (rws M) := by
  have hl := h.len
  rcases h.row.2 with ⟨hv, h0⟩ | ⟨g, cap, cur, hv, _⟩
  · subst h0
    exact ⟨none, 0, hv, fun i hi => by simp at hi; omega⟩
  · subst hv
    refine ⟨_, cap, rfl, fun i hi => ?_⟩
    have hi' : i < M.length := by simpa using hi
    obtain ⟨f0, f1, f2, f3, f4⟩ := flatR_get M i hi'
    have h0 := h.row.cells (g := g) rfl (i * 5) _ f0
    have h1 := h.row.cells (g := g) rfl (i * 5 + 1) _ f1
    have h2 := h.row.cells (g := g) rfl (i * 5 + 2) _ f2
    have h3 := h.row.cells (g := g) rfl (i * 5 + 3) _ f3
    have h4 := h.row.cells (g := g) rfl (i * 5 + 4) _ f4
    rw [addr_add] at h0 h1 h2 h3 h4
    rw [rws_get M i hi']
    obtain ⟨ai, ci, e, hs, _⟩ := own_formL (h.idx i (by omega))
    rw [e] at h0
    exact ⟨g, 0, rfl, ai, ci, by simpa using h0, by simpa using h1, by simpa using h2, by simpa using h3, by simpa using h4, hs⟩
theorem OwR.sl {w : World} {base n cap : Nat} {a : Option Addr} {M : List PR} (h : OwR w base (.slice a n cap) n M) : SlR w a (rws M) := by
  obtain ⟨b, q, e, s⟩ := h.form
  cases e
  exact s
/-- Texts and lists are no longer than a machine's. -/
def TxB (l : List Lb) : Prop := ∀ j, j < l.length → (l.getD j eL).1.size ≤ 9223372036854775807 ∧ (l.getD j eL).2.size ≤ 9223372036854775807
def TxR (L : List Rw) : Prop := ∀ j, j < L.length → (gr L j).l.length ≤ 9223372036854775807 ∧ TxB (gr L j).l
/-- What a walk is told of a slice of them that came in. -/
def IsRowR (w : World) (a : Option Addr) (len : Nat) (L : List Rw) : Prop := (L.length = len ∧ len ≤ maxLen ∧ SlR w a L) ∧ TxR L
theorem add_at (b off i : Nat) : (⟨b, off, none⟩ : Addr).add i = ⟨b, off + i, none⟩ := by unfold Addr.add; split <;> simp_all
open Classical in
theorem rowR_of {w : World} {a : Addr} {len cap : Nat} (hl : len ≤ cap) (hm : cap ≤ maxLen) (h : ∀ i, i < len → ∃ (p : Rw) (ai : Option Addr) (ci : Nat), (w.cell? (a.add (i * 5)) = some (.slice ai p.l.length ci) ∧ w.cell? (a.add (i * 5 + 1)) = some (.int .i64 p.v0) ∧ w.cell? (a.add (i * 5 + 2)) = some (.int .i64 p.v1) ∧ w.cell? (a.add (i * 5 + 3)) = some (.int .i64 p.v2) ∧ w.cell? (a.add (i * 5 + 4)) = some (.int .i64 p.v3)) ∧ IsRowLS w ai p.l.length p.l) : ∃ l, IsRowR w (some a) len l := by
  obtain ⟨f, hf⟩ : ∃ f : Nat → Rw, ∀ i, i < len → ∃ (ai : Option Addr) (ci : Nat), (w.cell? (a.add (i * 5)) = some (.slice ai (f i).l.length ci) ∧ w.cell? (a.add (i * 5 + 1)) = some (.int .i64 (f i).v0) ∧ w.cell? (a.add (i * 5 + 2)) = some (.int .i64 (f i).v1) ∧ w.cell? (a.add (i * 5 + 3)) = some (.int .i64 (f i).v2) ∧ w.cell? (a.add (i * 5 + 4)) = some (.int .i64 (f i).v3)) ∧ IsRowLS w ai (f i).l.length (f i).l := by
    refine ⟨fun i => if hi : i < len then Classical.choose (h i hi) else eR, fun i hi => ?_⟩
    simp only [dif_pos hi]
    exact Classical.choose_spec (h i hi)
  have hg : ∀ i, i < len → gr ((List.range len).map f) i = f i := fun i hi => by simp [gr, List.getD, hi]
  refine ⟨(List.range len).map f, ⟨by simp, Nat.le_trans hl hm, fun i hi => ?_⟩, fun j hj => ?_⟩
  · have hi' : i < len := by simpa using hi
    obtain ⟨b, off, spot⟩ := a
    have hspot : spot = none := by
      obtain ⟨_, _, ⟨h00, _⟩, _⟩ := hf 0 (by omega)
      have := World.cell?_spot h00
      simpa [Addr.add] using this
    subst hspot
    obtain ⟨ai, ci, ⟨h0, h1, h2, h3, h4⟩, hx⟩ := hf i hi'
    simp only [add_at, ← Nat.add_assoc] at h0 h1 h2 h3 h4
    rw [hg i hi']
    exact ⟨b, off, rfl, ai, ci, h0, h1, h2, h3, h4, hx.1.2.2⟩
  · have hj' : j < len := by simpa using hj
    obtain ⟨_, _, _, h1⟩ := hf j hj'
    have h2 := h1.1.2.1
    unfold maxLen at h2
    rw [hg j hj']
    exact ⟨by omega, h1.2⟩
theorem list_sameR {M : List PR} {L : List Rw} {n : Nat} (h1 : M.length = n) (h2 : L.length = n) (h : ∀ j, j < n → (M.getD j eV).1 = gr L j) : rws M = L := by
  apply List.ext_getElem?
  intro j
  by_cases hj : j < n
  · have h := h j hj
    simp only [gr, List.getD, List.getElem?_eq_getElem (show j < M.length by omega), List.getElem?_eq_getElem (show j < L.length by omega), Option.getD_some] at h
    rw [List.getElem?_map, List.getElem?_eq_getElem (show j < M.length by omega), List.getElem?_eq_getElem (show j < L.length by omega), ← h]
    rfl
  · rw [List.getElem?_eq_none (by simp; omega), List.getElem?_eq_none (by omega)]
/-- A cell that is no slice, written over. -/
theorem OwR.setI {w : World} {base g n cap : Nat} {M : List PR} (h : OwR w base (.slice (some ⟨g, 0, none⟩) n cap) n M) (k : Nat) (hk : k < n) (j : Nat) (hj : j < 5) (u : Value) (p : Rw) (hp : cR (p, (M.getD k eV).2) = (cR (M.getD k eV)).set j u) (hh : p.l = (M.getD k eV).1.l) :
    OwR (w.setCell ⟨g, k * 5 + j, none⟩ u) base (.slice (some ⟨g, 0, none⟩) n cap) n (M.set k (p, (M.getD k eV).2)) ∧ w.grownBy (w.setCell ⟨g, k * 5 + j, none⟩ u) (some g) := by
  have h1 := h.row.stored (k * 5 + j) u
  have hl := h.len
  have keep : ∀ {c m : Nat} {u' : Value} {ys : List Value}, w.ownsRow base 87 c u' m ys → (w.setCell ⟨g, k * 5 + j, none⟩ u).ownsRow base 87 c u' m ys := fun hu =>
    L8.own_kept hu h1.2 (fun b hb e => by
      simp at e
      subst e
      exact L8.own_two h.row hu lab_row g rfl hb)
  refine ⟨⟨by simpa using hl, ?_, fun i hi => ?_, fun i j hij hj => ?_⟩, h1.2⟩
  · have e0 := L8.flat_set cR 5 cR_len eV M k j u _ (by omega) hj hp
    show World.ownsRow _ base _ 5 _ n (List.flatMap cR _)
    rw [← e0]
    exact h1.1
  · by_cases e : i = k
    · subst e
      rw [L8.getD_self M i _ _ (by omega)]
      show World.ownsRow _ base _ 2 (M.getD i eV).2 p.l.length (flatL p.l)
      rw [hh]
      exact keep (h.idx i hi)
    · rw [L8.getD_ne M k i _ _ e]
      exact keep (h.idx i hi)
  · intro b
    have q : ∀ t, t < n → ((M.set k (p, (M.getD k eV).2)).getD t eV).2 = (M.getD t eV).2 := fun t ht => by
      by_cases e : t = k
      · subst e; rw [L8.getD_self M t _ _ (by omega)]
      · rw [L8.getD_ne M k t _ _ e]
    rw [q i (by omega), q j hj]
    exact h.apart i j hij hj b
/-- The labels of one, written over. -/
theorem OwR.setX {w w' : World} {base n : Nat} {v : Value} {M : List PR} (h : OwR w base v n M) (k : Nat) (hk : k < n) (xs : List Lb) (hx : w'.ownsRow base 87 2 (M.getD k eV).2 xs.length (flatL xs)) (hg : w.grownBy w' (M.getD k eV).2.ownBlock) :
    OwR w' base v n (M.set k (⟨xs, (M.getD k eV).1.v0, (M.getD k eV).1.v1, (M.getD k eV).1.v2, (M.getD k eV).1.v3⟩, (M.getD k eV).2)) := by
  have hl := h.len
  have q : ∀ t, t < n → ((M.set k (⟨xs, (M.getD k eV).1.v0, (M.getD k eV).1.v1, (M.getD k eV).1.v2, (M.getD k eV).1.v3⟩, (M.getD k eV).2)).getD t eV).2 = (M.getD t eV).2 := fun t ht => by
    by_cases e : t = k
    · subst e; rw [L8.getD_self M t _ _ (by omega)]
    · rw [L8.getD_ne M k t _ _ e]
  refine ⟨by simpa using hl, ?_, fun i hi => ?_, fun i j hij hj => ?_⟩
  · have e0 : flatR (M.set k (⟨xs, (M.getD k eV).1.v0, (M.getD k eV).1.v1, (M.getD k eV).1.v2, (M.getD k eV).1.v3⟩, (M.getD k eV).2)) = flatR M := by
      have := L8.flat_set cR 5 cR_len eV M k 0 (M.getD k eV).2 (⟨xs, (M.getD k eV).1.v0, (M.getD k eV).1.v1, (M.getD k eV).1.v2, (M.getD k eV).1.v3⟩, (M.getD k eV).2) (by omega) (by omega) rfl
      show List.flatMap cR _ = _
      rw [← this]
      apply List.ext_getElem?
      intro j
      by_cases e : j = k * 5
      · subst e
        rw [Nat.add_zero, List.getElem?_set_self (by rw [flatR_len]; omega), (flatR_get M k (by omega)).1]
      · rw [Nat.add_zero, List.getElem?_set_ne (by omega)]
    rw [e0]
    exact L8.own_kept h.row hg (fun b hb e => L8.own_two h.row (h.idx k hk) lab_row b hb e)
  · by_cases e : i = k
    · subst e
      rw [L8.getD_self M i _ _ (by omega)]
      exact hx
    · rw [L8.getD_ne M k i _ _ e]
      refine L8.own_kept (h.idx i hi) hg (fun b hb e2 => ?_)
      by_cases hlt : i < k
      · exact h.apart i k hlt hk b hb e2
      · exact h.apart k i (by omega) hi b e2 hb
  · intro b
    rw [q i (by omega), q j hj]
    exact h.apart i j hij hj b
/-- All cells of one of a row that is owned, written over. -/
theorem OwR.put {w : World} {base g n cap : Nat} {M : List PR} (h : OwR w base (.slice (some ⟨g, 0, none⟩) n cap) n M) (k : Nat) (hk : k < n) (p : Rw) (v : Value)
    (hv : w.ownsRow base 87 2 v p.l.length (flatL p.l)) (hne : ∀ i, i < n → i ≠ k → ∀ b, v.ownBlock = some b → (M.getD i eV).2.ownBlock ≠ some b) :
    OwR (((((w.setCell ⟨g, k * 5, none⟩ v).setCell ⟨g, k * 5 + 1, none⟩ (.int .i64 p.v0)).setCell ⟨g, k * 5 + 2, none⟩ (.int .i64 p.v1)).setCell ⟨g, k * 5 + 3, none⟩ (.int .i64 p.v2)).setCell ⟨g, k * 5 + 4, none⟩ (.int .i64 p.v3)) base (.slice (some ⟨g, 0, none⟩) n cap) n (M.set k (p, v)) ∧
    w.grownBy (((((w.setCell ⟨g, k * 5, none⟩ v).setCell ⟨g, k * 5 + 1, none⟩ (.int .i64 p.v0)).setCell ⟨g, k * 5 + 2, none⟩ (.int .i64 p.v1)).setCell ⟨g, k * 5 + 3, none⟩ (.int .i64 p.v2)).setCell ⟨g, k * 5 + 4, none⟩ (.int .i64 p.v3)) (some g) := by
  have h0 := h.row.stored (k * 5) v
  have h1 := h0.1.stored (k * 5 + 1) (.int .i64 p.v0)
  have h2 := h1.1.stored (k * 5 + 2) (.int .i64 p.v1)
  have h3 := h2.1.stored (k * 5 + 3) (.int .i64 p.v2)
  have h4 := h3.1.stored (k * 5 + 4) (.int .i64 p.v3)
  have hg := h0.2.trans h1.2
  have hl := h.len
  have hg := hg.trans h2.2
  have hg := hg.trans h3.2
  have hg := hg.trans h4.2
  have hF : flatR (M.set k (p, v)) = (((((flatR M).set (k * 5) v).set (k * 5 + 1) (.int .i64 p.v0)).set (k * 5 + 2) (.int .i64 p.v1)).set (k * 5 + 3) (.int .i64 p.v2)).set (k * 5 + 4) (.int .i64 p.v3) := by
    have q0 := L8.flat_set cR 5 cR_len eV M k 0 v (⟨p.l, (M.getD k eV).1.v0, (M.getD k eV).1.v1, (M.getD k eV).1.v2, (M.getD k eV).1.v3⟩, v) (by omega) (by omega) rfl
    rw [Nat.add_zero] at q0
    have q1 := L8.flat_set cR 5 cR_len eV (M.set k (⟨p.l, (M.getD k eV).1.v0, (M.getD k eV).1.v1, (M.getD k eV).1.v2, (M.getD k eV).1.v3⟩, v)) k 1 (.int .i64 p.v0) (⟨p.l, p.v0, (M.getD k eV).1.v1, (M.getD k eV).1.v2, (M.getD k eV).1.v3⟩, v) (by simp; omega) (by omega) (by rw [L8.getD_self _ _ _ _ (by omega)]; rfl)
    rw [L8.set_twice] at q1
    have q2 := L8.flat_set cR 5 cR_len eV (M.set k (⟨p.l, p.v0, (M.getD k eV).1.v1, (M.getD k eV).1.v2, (M.getD k eV).1.v3⟩, v)) k 2 (.int .i64 p.v1) (⟨p.l, p.v0, p.v1, (M.getD k eV).1.v2, (M.getD k eV).1.v3⟩, v) (by simp; omega) (by omega) (by rw [L8.getD_self _ _ _ _ (by omega)]; rfl)
    rw [L8.set_twice] at q2
    have q3 := L8.flat_set cR 5 cR_len eV (M.set k (⟨p.l, p.v0, p.v1, (M.getD k eV).1.v2, (M.getD k eV).1.v3⟩, v)) k 3 (.int .i64 p.v2) (⟨p.l, p.v0, p.v1, p.v2, (M.getD k eV).1.v3⟩, v) (by simp; omega) (by omega) (by rw [L8.getD_self _ _ _ _ (by omega)]; rfl)
    rw [L8.set_twice] at q3
    have q4 := L8.flat_set cR 5 cR_len eV (M.set k (⟨p.l, p.v0, p.v1, p.v2, (M.getD k eV).1.v3⟩, v)) k 4 (.int .i64 p.v3) (⟨p.l, p.v0, p.v1, p.v2, p.v3⟩, v) (by simp; omega) (by omega) (by rw [L8.getD_self _ _ _ _ (by omega)]; rfl)
    rw [L8.set_twice] at q4
    show List.flatMap cR _ = ((((((flatR M).set (k * 5) v).set (k * 5 + 1) (.int .i64 p.v0)).set (k * 5 + 2) (.int .i64 p.v1)).set (k * 5 + 3) (.int .i64 p.v2)).set (k * 5 + 4) (.int .i64 p.v3))
    rw [q0, q1, q2, q3, q4]
  have keep : ∀ {c m : Nat} {u : Value} {ys : List Value}, w.ownsRow base 87 c u m ys → (((((w.setCell ⟨g, k * 5, none⟩ v).setCell ⟨g, k * 5 + 1, none⟩ (.int .i64 p.v0)).setCell ⟨g, k * 5 + 2, none⟩ (.int .i64 p.v1)).setCell ⟨g, k * 5 + 3, none⟩ (.int .i64 p.v2)).setCell ⟨g, k * 5 + 4, none⟩ (.int .i64 p.v3)).ownsRow base 87 c u m ys := fun hu =>
    L8.own_kept hu hg (fun b hb e => by
      simp at e
      subst e
      exact L8.own_two h.row hu lab_row g rfl hb)
  refine ⟨⟨by simpa using hl, by rw [hF]; exact h4.1, fun i hi => ?_, fun i j hij hj => ?_⟩, hg⟩
  · by_cases e : i = k
    · subst e
      rw [L8.getD_self M i _ _ (by omega)]
      exact keep hv
    · rw [L8.getD_ne M k i _ _ e]
      exact keep (h.idx i hi)
  · intro b
    by_cases e : i = k
    · have e2 : j ≠ k := by omega
      subst e
      rw [L8.getD_self M i _ _ (by omega), L8.getD_ne M i j _ _ e2]
      exact hne j hj e2 b
    · by_cases e2 : j = k
      · subst e2
        rw [L8.getD_self M j _ _ (by omega), L8.getD_ne M j i _ _ e]
        intro h1 h2
        exact hne i (by omega) e b h2 h1
      · rw [L8.getD_ne M k i _ _ e, L8.getD_ne M k j _ _ e2]
        exact h.apart i j hij hj b
/-- The cells of a box. -/
theorem blkp {w : World} {g : Nat} {u a0 a1 a2 a3 : Value} {t : TypeId} (h : w.heap[g]? = some (.cells #[u, a0, a1, a2, a3] t (0, 0))) :
    w.cell? ⟨g, 0, none⟩ = some u ∧ w.cell? ⟨g, 1, none⟩ = some a0 ∧ w.cell? ⟨g, 2, none⟩ = some a1 ∧ w.cell? ⟨g, 3, none⟩ = some a2 ∧ w.cell? ⟨g, 4, none⟩ = some a3 ∧ w.frozen? ⟨g, 0, none⟩ = false ∧ w.frozen? ⟨g, 1, none⟩ = false ∧ w.frozen? ⟨g, 2, none⟩ = false ∧ w.frozen? ⟨g, 3, none⟩ = false ∧ w.frozen? ⟨g, 4, none⟩ = false := by
  simp [World.cell?, World.frozen?, h]
end Go.Proofs.Ytohcjafklfemfam.L14T

namespace Go.Proofs.Ytohcjafklfemfam.L3
open Go.RowKit L1
set_option linter.unusedVariables false

/-- A label's text. -/
def lw (p : Lb) : ByteArray := p.1 ++ ⟨#[61]⟩ ++ p.2
/-- The text of the first labels, without its end. -/
def ltx (l : List Lb) : Nat → ByteArray
  | 0 => ⟨#[123]⟩
  | k + 1 => (if 0 < k then ltx l k ++ ⟨#[44]⟩ else ltx l k) ++ lw (l.getD k eL)
def ltext (l : List Lb) : ByteArray := ltx l l.length ++ ⟨#[125]⟩
theorem joinTail_snoc (sep : List UInt8) (r : List (List UInt8)) (x : List UInt8) : Lib.joinTail sep (r ++ [x]) = Lib.joinTail sep r ++ (sep ++ x) := by
  simp [Lib.joinTail]
theorem join_snoc (xs : List (List UInt8)) (x sep : List UInt8) : Lib.join (xs ++ [x]) sep = if xs = [] then x else Lib.join xs sep ++ (sep ++ x) := by
  cases xs with
  | nil => simp [Lib.join_one]
  | cons y r =>
    rw [if_neg (by simp), List.cons_append, Lib.join_cons, Lib.join_cons, joinTail_snoc, List.append_assoc]
theorem ba_append (a b : ByteArray) : (a ++ b).data.toList = a.data.toList ++ b.data.toList := by
  show (ByteArray.append a b).data.toList = _
  simp [ByteArray.append]
theorem ltx_join (l : List Lb) : ∀ k, k ≤ l.length → (ltx l k).data.toList = [123] ++ Lib.join ((l.take k).map fun p => (lw p).data.toList) [44]
  | 0, _ => by simp [ltx, Lib.join]
  | k + 1, hk => by
    have ih := ltx_join l k (by omega)
    have e : l.take (k + 1) = l.take k ++ [l.getD k eL] := by
      rw [List.take_succ_eq_append_getElem (by omega)]
      simp [List.getD, List.getElem?_eq_getElem (show k < l.length by omega)]
    rw [e, List.map_append, List.map_cons, List.map_nil, join_snoc]
    unfold ltx
    by_cases h0 : 0 < k
    · have hne : ¬ (l.take k).map (fun p => (lw p).data.toList) = [] := by
        simp only [List.map_eq_nil_iff]
        intro h
        have := congrArg List.length h
        rw [List.length_take, List.length_nil] at this
        omega
      rw [if_pos h0, if_neg hne, ba_append, ba_append, ih]
      simp
    · obtain rfl : k = 0 := by omega
      rw [if_neg (by omega), ba_append, ih]
      simp [Lib.join]
theorem ltext_join (l : List Lb) : ltext l = (⟨#[123]⟩ : ByteArray) ++ (⟨(Lib.join (l.map fun p => (lw p).data.toList) [44]).toArray⟩ : ByteArray) ++ (⟨#[125]⟩ : ByteArray) := by
  have h := ltx_join l l.length (Nat.le_refl _)
  rw [List.take_length] at h
  unfold ltext
  apply ByteArray.ext
  apply Array.toList_inj.1
  rw [ba_append, ba_append, ba_append, h]
theorem lw_size (p : Lb) : (lw p).size = p.1.size + 1 + p.2.size := by
  simp [lw, ByteArray.size_append]
  rfl
theorem ltx_size {l : List Lb} (hg : GoodL l) : ∀ k, k ≤ l.length → (ltx l k).size ≤ 1 + 18 * k
  | 0, _ => by simp [ltx]; decide
  | k + 1, hk => by
    have ih := ltx_size hg k (by omega)
    have ho := (hg.2 k (by omega)).1
    have h1 := ho.1.1.2
    have h2 := ho.2.1.2
    unfold ltx
    rw [ByteArray.size_append, lw_size]
    split
    · rw [ByteArray.size_append]
      have : (⟨#[44]⟩ : ByteArray).size = 1 := rfl
      omega
    · omega
theorem join_size {l : List Lb} (hg : GoodL l) : (Lib.join (l.map fun p => (lw p).data.toList) [44]).length ≤ 200 := by
  have h := ltx_join l l.length (Nat.le_refl _)
  rw [List.take_length] at h
  have h2 := ltx_size hg l.length (Nat.le_refl _)
  have h3 := congrArg List.length h
  have h4 := hg.1
  have h5 : (ltx l l.length).data.toList.length = (ltx l l.length).size := by simp
  rw [List.length_append] at h3
  omega
end Go.Proofs.Ytohcjafklfemfam.L3

namespace Go.Proofs.Ytohcjafklfemfam.L14T
open Go.RowKit L1 L3
set_option linter.unusedVariables false

/-- A good total (v0 Sum, v1 Count, v2 Least, v3 Most), and good totals. -/
def okN (v0 v1 v2 v3 : Int) : Prop := (1 ≤ v1 ∧ v1 ≤ 1000) ∧ (-1000000000 ≤ v0 ∧ v0 ≤ 1000000000) ∧ (-1000000 ≤ v2 ∧ v2 ≤ 1000000) ∧ (-1000000 ≤ v3 ∧ v3 ≤ 1000000) ∧ v2 ≤ v3
def okT (p : Rw) : Prop := GoodL p.l ∧ okN p.v0 p.v1 p.v2 p.v3
def UpTo (L : List Rw) (n : Nat) : Prop := ∀ j, j < n → okT (gr L j) ∧ (0 < j → Ahead (ltext (gr L (j - 1)).l) (ltext (gr L j).l))
def GoodT (L : List Rw) : Prop := L.length ≤ 40 ∧ UpTo L L.length
theorem UpTo.next {L : List Rw} {k : Nat} (h : UpTo L k) (h1 : okT (gr L k)) (h2 : 0 < k → Ahead (ltext (gr L (k - 1)).l) (ltext (gr L k).l)) : UpTo L (k + 1) := fun j hj => by
  by_cases e : j = k
  · subst e; exact ⟨h1, h2⟩
  · exact h j (by omega)
theorem bool_no14 {b : Bool} {p : Prop} (h : b = true ↔ p) (hp : ¬ p) : b = false := by
  cases b with
  | false => rfl
  | true => exact absurd (h.1 rfl) hp
theorem boolP (p : Prop) : ∃ b : Bool, b = true ↔ p := by classical exact ⟨decide p, by simp⟩
theorem bool_same {a b : Bool} {p q : Prop} (e : p ↔ q) (h1 : a = true ↔ p) (h2 : b = true ↔ q) : a = b := by
  rw [Bool.eq_iff_iff]
  exact (h1.trans e).trans h2.symm
end Go.Proofs.Ytohcjafklfemfam.L14T

namespace Go.Proofs.Ytohcjafklfemfam.L14T
open Go.RowKit L1 L3
set_option linter.unusedVariables false

/-- What an op tells of a total. -/
def valOf (op : Int) (p : Rw) : Int := if op = 2 then p.v1 else if op = 3 then p.v2 else if op = 4 then p.v3 else p.v0
def vals (op : Int) (L : List Rw) : List Value := L.map fun p => Value.int .i64 (valOf op p)
theorem vals_take (op : Int) (L : List Rw) (k : Nat) (h : k < L.length) : vals op (L.take (k + 1)) = vals op (L.take k) ++ [Value.int .i64 (valOf op (gr L k))] := by
  have e : gr L k = L[k] := by simp [gr, List.getD, List.getElem?_eq_getElem h]
  show List.map _ _ = List.map _ _ ++ _
  rw [List.take_succ_eq_append_getElem h, List.map_append, e]
  rfl
theorem vals_zero (op : Int) (L : List Rw) : vals op (L.take 0) = [] := by simp [vals]
theorem vals_ints (op : Int) (L : List Rw) : vals op L = (L.map (valOf op)).map (Value.int .i64) := by simp [vals]
def okOp (op : Int) : Prop := op = 1 ∨ op = 2 ∨ op = 3 ∨ op = 4
theorem okOp_iff (op : Int) : okOp op ↔ 1 ≤ op ∧ op ≤ 4 := by unfold okOp; omega
open Classical in
noncomputable def valRes (L : List Rw) (op : Int) : Option (List Int) := if GoodT L ∧ okOp op then some (L.map (valOf op)) else none
theorem valRes_len (L : List Rw) (op : Int) : ((valRes L op).getD []).length ≤ 40 := by
  unfold valRes
  split
  · rename_i h; have := h.1.1; simpa using this
  · simp
theorem own_shapeV {w : World} {base n c : Nat} {t : TypeId} {v : Value} {xs : List Value} (h : w.ownsRow base t c v n xs) : ∃ a cap, v = .slice a n cap := by
  rcases h.2 with ⟨hv, h0⟩ | ⟨g, cap, cur, hv, _⟩
  · exact ⟨none, 0, by rw [hv, h0]⟩
  · exact ⟨_, cap, hv⟩
theorem cell_oneV (w : World) (p : Value) (t : TypeId) : ∀ j u, [p][j]? = some u → (w.alloc (.cells #[p] t)).cell? ((⟨w.heap.size, 0, none⟩ : Addr).add j) = some u := by
  intro j u h
  rw [addr_add]
  match j, h with
  | 0, h => simp at h; subst h; simp
  | j + 1, h => simp at h
theorem cell_one2V (w : World) (o : Obj) (p : Value) (t : TypeId) : ∀ j u, [p][j]? = some u → ((w.alloc o).alloc (.cells #[p] t)).cell? ((⟨w.heap.size + 1, 0, none⟩ : Addr).add j) = some u := by
  intro j u h
  have := cell_oneV (w.alloc o) p t j u h
  rwa [World.size_alloc] at this
/-- Ints that a call hands back, in new memory, and whether there are some. -/
def RetI (w : World) (r : Option (List Int)) (e : Ending) (w' : World) : Prop :=
  ∃ v, e = .returned (.tuple #[v, .bool r.isSome]) ∧ w'.ownsRow w.heap.size 3 1 v (r.getD []).length ((r.getD []).map (Value.int .i64)) ∧ Below w.heap.size w w'
end Go.Proofs.Ytohcjafklfemfam.L14T

namespace Go.Proofs.Ytohcjafklfemfam.SrtI
open Go.RowKit L1 Srt
set_option linter.unusedVariables false

def vat (v : List Int) (x : Int) : Int := v.getD x.toNat 0
def ltv (v : List Int) (x y : Int) : Prop := vat v y < vat v x ∨ (vat v x = vat v y ∧ x < y)
theorem ordv (v : List Int) : Ord (ltv v) Int.toNat := by
  constructor
  · intro x y z h1 h2
    unfold ltv at *
    omega
  · intro x y h1 h2
    unfold ltv at *
    omega
/-- All places, in that order. -/
structure IsTop (v L : List Int) : Prop where
  len : L.length = v.length
  rng : ∀ t, t < L.length → 0 ≤ gi L t ∧ gi L t < (v.length : Int)
  all : ∀ x : Int, 0 ≤ x → x < (v.length : Int) → ∃ t, t < L.length ∧ gi L t = x
  srt : So (ltv v) (gi L) 0 L.length
theorem IsTop.one {v L L' : List Int} (h : IsTop v L) (h' : IsTop v L') : L = L' := by
  have key : ∀ t, t < v.length → gi L t = gi L' t := by
    intro t
    induction t using Nat.strongRecOn with
    | _ t ih =>
      intro ht
      have l1 := h.len
      have l2 := h'.len
      obtain ⟨a1, a2⟩ := h.rng t (by omega)
      obtain ⟨p, hp, ep⟩ := h'.all _ a1 a2
      obtain ⟨b1, b2⟩ := h'.rng t (by omega)
      obtain ⟨q, hq, eq⟩ := h.all _ b1 b2
      have hpt : t ≤ p := by
        by_cases e : p < t
        · have := ih p e (by omega)
          have h3 := h.srt p t (Nat.zero_le _) e (by omega)
          rw [this, ep] at h3
          unfold ltv at h3
          omega
        · omega
      have hqt : t ≤ q := by
        by_cases e : q < t
        · have := ih q e (by omega)
          have h3 := h'.srt q t (Nat.zero_le _) e (by omega)
          rw [← this, eq] at h3
          unfold ltv at h3
          omega
        · omega
      by_cases e1 : p = t
      · rw [← ep, e1]
      · by_cases e2 : q = t
        · rw [← eq, e2]
        · have h3 := h'.srt t p (Nat.zero_le _) (by omega) (by omega)
          have h4 := h.srt t q (Nat.zero_le _) (by omega) (by omega)
          rw [ep] at h3
          rw [eq] at h4
          unfold ltv at h3 h4
          omega
  apply List.ext_getElem (by rw [h.len, h'.len])
  intro i h1 h2
  have := key i (by rw [← h.len]; exact h1)
  simpa [gi, List.getD, List.getElem?_eq_getElem h1, List.getElem?_eq_getElem h2] using this
/-- The first k numbers. -/
def upto (k : Nat) : List Int := (List.range k).map fun i : Nat => (i : Int)
theorem upto_len (k : Nat) : (upto k).length = k := by simp [upto]
theorem upto_get (k t : Nat) (h : t < k) : gi (upto k) t = (t : Int) := by simp [gi, upto, List.getD, h]
theorem upto_succ (k : Nat) : upto (k + 1) = upto k ++ [(k : Int)] := by simp [upto, List.range_succ]
theorem isTop_of {v L : List Int} (hl : L.length = v.length) (hp : PO 0 v.length (gi (upto v.length)) (gi L)) (hs : So (ltv v) (gi L) 0 v.length) : IsTop v L := by
  refine ⟨hl, fun t ht => ?_, fun x h0 h1 => ?_, by rw [hl]; exact hs⟩
  · obtain ⟨u, hu, eu⟩ := hp.src t (by omega)
    rw [eu, upto_get _ _ hu.2]
    omega
  · obtain ⟨s, r, p1, p2, p3, p4, p5⟩ := hp
    have h3 : s (r x.toNat) = x.toNat := p1 _
    have h4 : r x.toNat < v.length := by
      by_cases e : r x.toNat < v.length
      · exact e
      · have := p3 (r x.toNat) (by omega)
        omega
    refine ⟨r x.toNat, by omega, ?_⟩
    rw [p5, h3, upto_get _ _ (by omega)]
    omega
open Classical in
noncomputable def topRes (L : List L14T.Rw) (op many : Int) : Option (List Int) :=
  if h : (L14T.GoodT L ∧ L14T.okOp op) ∧ 0 ≤ many ∧ many ≤ 40 then (if h2 : ∃ l, IsTop (L.map (L14T.valOf op)) l then some (h2.choose.take many.toNat) else none) else none
theorem topRes_some {L : List L14T.Rw} {op many : Int} (h : (L14T.GoodT L ∧ L14T.okOp op) ∧ 0 ≤ many ∧ many ≤ 40) {l : List Int} (hl : IsTop (L.map (L14T.valOf op)) l) : topRes L op many = some (l.take many.toNat) := by
  unfold topRes
  rw [dif_pos h, dif_pos ⟨l, hl⟩]
  have := IsTop.one (Exists.choose_spec (⟨l, hl⟩ : ∃ l, IsTop (L.map (L14T.valOf op)) l)) hl
  rw [this]
theorem topRes_none {L : List L14T.Rw} {op many : Int} (h : ¬ ((L14T.GoodT L ∧ L14T.okOp op) ∧ 0 ≤ many ∧ many ≤ 40)) : topRes L op many = none := by
  unfold topRes
  rw [dif_neg h]
theorem topRes_len (L : List L14T.Rw) (op many : Int) : ((topRes L op many).getD []).length ≤ 40 := by
  unfold topRes
  split
  · split
    · simp only [Option.getD_some, List.length_take]
      omega
    · simp
  · simp
end Go.Proofs.Ytohcjafklfemfam.SrtI
