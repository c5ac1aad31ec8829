/-
  Plain mathematics of chapter 1: a number's digits to 128, their count, and how they are read back. Nothing of Go stands here.
  Small lemmas that the contracts of chapter 1 share. Nothing of the program's text is proved here but closed facts on its types.
  Texts as lists of bytes. Nothing of the program's text is proved here.
  Plain mathematics: the numbers of a text, one behind the other. Nothing of Go stands here.
  Plain mathematics: what is put comes back, each number in one form alone, and smaller ones need no more. Nothing of Go stands here.
  Lists of ints in memory. Nothing of the program's text is proved here but closed facts on its types.
  Plain mathematics: the digits of some numbers, one behind the other; numbers within their bounds.
  Records in a text, one behind the other: where they begin, how many there are, where the last one ends; what is left of this in a part of the text and in a longer one.
-/
import Derived.KernelRfl
import Derived.Test.YtbcljhafdpnjbabDoorChecked
import Derived.WalkKit
import Derived.ProofKit
import Derived.OpenShut
import Derived.Laws.BytesArg
import Derived.WalkSpells
import Derived.WalkLawsBesides
namespace Go.Proofs.YtbcljhafdpnjbabDoor.L1

def zig (n : Int) : Int := if n < 0 then -2 * n - 1 else 2 * n
def zag (z : Int) : Int := if z % 2 = 1 then -((z + 1) / 2) else z / 2

theorem zag_zig (n : Int) : zag (zig n) = n := by unfold zag zig; split <;> split <;> omega
theorem zig_zag (z : Int) (h : 0 ≤ z) : zig (zag z) = z := by unfold zag zig; split <;> split <;> omega
theorem zig_lo (n : Int) : 0 ≤ zig n := by unfold zig; split <;> omega
theorem zig_hi (n : Int) (h1 : -1000000000000 ≤ n) (h2 : n ≤ 1000000000000) : zig n ≤ 2000000000000 := by unfold zig; split <;> omega
theorem zag_lo (z : Int) (h : 0 ≤ z) (h2 : z ≤ 2000000000000) : -1000000000000 ≤ zag z ∧ zag z ≤ 1000000000000 := by unfold zag; split <;> omega

/-- The worth of the k-th digit. -/
def wor : Nat → Int
  | 0 => 1
  | k + 1 => 128 * wor k
theorem wor_pos (k : Nat) : 1 ≤ wor k := by
  induction k with
  | zero => simp [wor]
  | succ k ih => simp only [wor]; omega

/-- The digits to 128, the lowest first, all but the last with 128 more. -/
def vdf : Nat → Int → List Int
  | 0, z => [z]
  | f + 1, z => if z < 128 then [z] else (128 + z % 128) :: vdf f (z / 128)
def vd (z : Int) : List Int := vdf 5 z

theorem vdf_pos (f : Nat) (z : Int) : 1 ≤ (vdf f z).length := by
  cases f with
  | zero => simp [vdf]
  | succ f => simp only [vdf]; split <;> simp
theorem vdf_le (f : Nat) (z : Int) : (vdf f z).length ≤ f + 1 := by
  induction f generalizing z with
  | zero => simp [vdf]
  | succ f ih =>
    simp only [vdf]; split
    · simp
    · have := ih (z / 128); simp; omega

/-- How many digits there are: one more where the number is not less than the next one's worth. -/
theorem vdf_len (f : Nat) : ∀ (z : Int) (k : Nat), 0 ≤ z → 1 ≤ k → (k < (vdf f z).length ↔ k ≤ f ∧ wor k ≤ z) := by
  induction f with
  | zero => intro z k hz hk; simp [vdf]; omega
  | succ f ih =>
    intro z k hz hk
    obtain ⟨k, rfl⟩ : ∃ j, k = j + 1 := ⟨k - 1, by omega⟩
    have hw : wor (k + 1) = 128 * wor k := rfl
    have hp := wor_pos k
    simp only [vdf]
    split
    · simp; omega
    · rename_i hlt
      cases k with
      | zero => have := vdf_pos f (z / 128); simp [wor]; omega
      | succ j =>
        have h := ih (z / 128) (j + 1) (by omega) (by omega)
        simp only [List.length_cons]
        constructor
        · intro h2; have := h.1 (by omega); omega
        · intro h2; have := h.2 (by omega); omega

/-- Each digit by its worth. -/
theorem vdf_get (f : Nat) : ∀ (z : Int) (k : Nat), 0 ≤ z → z < wor (f + 1) → k < (vdf f z).length →
    (vdf f z).getD k 0 = z / wor k % 128 + (if k + 1 < (vdf f z).length then 128 else 0) := by
  induction f with
  | zero =>
    intro z k hz hz2 hk
    simp [vdf] at hk
    subst hk
    simp [wor] at hz2
    simp [vdf, wor]
    omega
  | succ f ih =>
    intro z k hz hz2 hk
    have hw : wor (f + 1 + 1) = 128 * wor (f + 1) := rfl
    by_cases hlt : z < 128
    · simp only [vdf, if_pos hlt] at hk ⊢
      simp at hk
      subst hk
      simp [wor]
      omega
    · simp only [vdf, if_neg hlt] at hk ⊢
      cases k with
      | zero =>
        have := vdf_pos f (z / 128)
        simp [wor]
        rw [if_pos (by omega)]
        omega
      | succ k =>
        simp only [List.length_cons] at hk ⊢
        have h := ih (z / 128) k (by omega) (by omega) (by omega)
        have e : z / wor (k + 1) = z / 128 / wor k := by
          show z / (128 * wor k) = _
          rw [Int.ediv_ediv_of_nonneg (by omega)]
        simp only [List.getD_cons_succ, h, e]
        congr 1
        by_cases h2 : k + 1 < (vdf f (z / 128)).length
        · rw [if_pos h2, if_pos (by omega)]
        · rw [if_neg h2, if_neg (by omega)]

theorem vdf_byte (f : Nat) : ∀ (z : Int), 0 ≤ z → z < wor (f + 1) → ∀ x ∈ vdf f z, 0 ≤ x ∧ x < 256 := by
  induction f with
  | zero => intro z h1 h2 x hx; simp [wor] at h2; simp [vdf] at hx; omega
  | succ f ih =>
    intro z h1 h2 x hx
    have hw : wor (f + 1 + 1) = 128 * wor (f + 1) := rfl
    simp only [vdf] at hx
    split at hx
    · simp at hx; omega
    · simp only [List.mem_cons] at hx
      rcases hx with hx | hx
      · omega
      · exact ih (z / 128) (by omega) (by omega) x hx

/-! What is read back -/
def val : List Int → Int
  | [] => 0
  | x :: l => x % 128 + 128 * val l

theorem val_nonneg : ∀ l, 0 ≤ val l
  | [] => by simp [val]
  | x :: l => by have := val_nonneg l; simp only [val]; omega
theorem val_snoc (l : List Int) (x : Int) : val (l ++ [x]) = val l + x % 128 * wor l.length := by
  induction l with
  | nil => simp [val, wor]
  | cons y l ih =>
    simp only [List.cons_append, val, ih, List.length_cons, wor]
    rw [Int.mul_add, ← Int.mul_assoc, ← Int.mul_assoc, Int.mul_comm (x % 128) 128, Int.add_assoc]
theorem val_lt (l : List Int) : val l < wor l.length := by
  induction l with
  | nil => simp [val, wor]
  | cons y l ih => simp only [val, List.length_cons, wor]; omega

/-- All bytes have 128 more. -/
def Hi (l : List Int) : Prop := ∀ x ∈ l, 128 ≤ x ∧ x < 256

/-- What is read of its digits is the number with these digits just if the last one is not nought, or alone. -/
theorem vdf_val (f : Nat) : ∀ (l : List Int) (x : Int), Hi l → 0 ≤ x → x < 128 → l.length ≤ f →
    (vdf f (val (l ++ [x])) = l ++ [x] ↔ (l = [] ∨ x ≠ 0)) := by
  induction f with
  | zero =>
    intro l x hl h1 h2 hf
    obtain rfl : l = [] := List.eq_nil_of_length_eq_zero (by omega)
    simp [val, vdf]
    omega
  | succ f ih =>
    intro l x hl h1 h2 hf
    cases l with
    | nil =>
      have e : x % 128 = x := by omega
      simp only [List.nil_append, val, vdf, e]
      rw [if_pos (by omega)]
      simp
    | cons y l =>
      have hy := hl y (by simp)
      have hl' : Hi l := fun u hu => hl u (by simp [hu])
      have hi := ih l x hl' h1 h2 (by simp at hf; omega)
      have hn := val_nonneg (l ++ [x])
      simp only [List.cons_append, val, vdf]
      have e2 : (y % 128 + 128 * val (l ++ [x])) / 128 = val (l ++ [x]) := by omega
      have e3 : 128 + (y % 128 + 128 * val (l ++ [x])) % 128 = y := by omega
      by_cases hx : x = 0
      · constructor
        · intro h
          exfalso
          split at h
          · simp at h
          · rw [e2, e3] at h
            injection h with _ h
            have := hi.1 h
            rcases this with h3 | h3
            · subst h3
              simp only [List.nil_append, val, hx] at *
              omega
            · exact h3 hx
        · intro h; simp at h; exact absurd hx h
      · have hpos : 1 ≤ val (l ++ [x]) := by
          rw [val_snoc]
          have := wor_pos l.length
          have h4 := val_nonneg l
          have e : x % 128 = x := by omega
          rw [e]
          have : 1 * 1 ≤ x * wor l.length := Int.mul_le_mul (by omega) this (by omega) (by omega)
          omega
        rw [if_neg (by omega), e2, e3]
        simp only [List.cons.injEq, true_and]
        rw [hi]
        simp [hx]

/-! Reading a number from the front of bytes -/
def MV2 : Int := 2000000000000
/-- Of some bytes read already (each with 128 more) and those that follow: the bytes of the number that ends first; none where it is no number's form. -/
def gvf : Nat → List Int → List Int → Option (List Int)
  | 0, _, _ => none
  | _ + 1, _, [] => none
  | f + 1, pre, x :: r => if 128 ≤ x then gvf f (pre ++ [x]) r else if val (pre ++ [x]) ≤ 2000000000000 ∧ (pre = [] ∨ x ≠ 0) then some (pre ++ [x]) else none
def gv (t : List Int) : Option (List Int) := gvf 6 [] t

theorem take_one (t : List Int) (k : Nat) (h : k < t.length) : t.take (k + 1) = t.take k ++ [t.getD k 0] := by
  rw [List.take_succ_eq_append_getElem h]; simp [List.getD, List.getElem?_eq_getElem h]
theorem drop_one (t : List Int) (k : Nat) (h : k < t.length) : t.drop k = t.getD k 0 :: t.drop (k + 1) := by
  rw [List.drop_eq_getElem_cons h]; simp [List.getD, List.getElem?_eq_getElem h]

theorem gvf_on {t : List Int} {k : Nat} (h : k < t.length) (h6 : k < 6) (hx : 128 ≤ t.getD k 0) :
    gvf (6 - k) (t.take k) (t.drop k) = gvf (6 - (k + 1)) (t.take (k + 1)) (t.drop (k + 1)) := by
  obtain ⟨f, hf⟩ : ∃ f, 6 - k = f + 1 := ⟨5 - k, by omega⟩
  have hf2 : 6 - (k + 1) = f := by omega
  rw [hf, hf2, drop_one t k h, take_one t k h]
  simp only [gvf]
  rw [if_pos hx]
theorem gvf_stop {t : List Int} {k : Nat} (h : k < t.length) (h6 : k < 6) (hx : t.getD k 0 < 128) :
    gvf (6 - k) (t.take k) (t.drop k) = if val (t.take (k + 1)) ≤ 2000000000000 ∧ (k = 0 ∨ t.getD k 0 ≠ 0) then some (t.take (k + 1)) else none := by
  obtain ⟨f, hf⟩ : ∃ f, 6 - k = f + 1 := ⟨5 - k, by omega⟩
  rw [hf, drop_one t k h, take_one t k h]
  simp only [gvf]
  rw [if_neg (by omega)]
  have e : (t.take k = []) ↔ k = 0 := by
    constructor
    · intro h2
      have hl : (t.take k).length = k := by simp; omega
      rw [h2] at hl
      simp at hl
      omega
    · intro h2; simp [h2]
  simp only [e]
theorem gvf_six {t : List Int} {k : Nat} (h6 : 6 ≤ k) : gvf (6 - k) (t.take k) (t.drop k) = none := by
  rw [show 6 - k = 0 by omega]; rfl
theorem gvf_end {t : List Int} {k : Nat} (h : t.length ≤ k) : gvf (6 - k) (t.take k) (t.drop k) = none := by
  rw [List.drop_eq_nil_of_le h]
  cases 6 - k <;> rfl

/-- Whether digits are a number's own: by holding its digits against them, or by the last one. -/
theorem form_iff {t : List Int} {k : Nat} (h : k < t.length) (hhi : Hi (t.take k)) (h0 : 0 ≤ t.getD k 0) (hx : t.getD k 0 < 128) :
    (vd (val (t.take (k + 1))) = t.take (k + 1)) ↔ (k < 6 ∧ (k = 0 ∨ t.getD k 0 ≠ 0)) := by
  rw [take_one t k h]
  have hl : (t.take k).length = k := by simp; omega
  by_cases h6 : k < 6
  · have := vdf_val 5 (t.take k) (t.getD k 0) hhi h0 hx (by omega)
    unfold vd
    rw [this]
    have e : (t.take k = []) ↔ k = 0 := by
      constructor
      · intro h2; rw [h2] at hl; simp at hl; omega
      · intro h2; simp [h2]
    rw [e]
    simp [h6]
  · constructor
    · intro h2
      have h3 := congrArg List.length h2
      have h4 := vdf_le 5 (val (t.take k ++ [t.getD k 0]))
      unfold vd at h3
      rw [h3] at h4
      simp only [List.length_append, hl, List.length_cons, List.length_nil] at h4
      omega
    · intro h2; omega

theorem vd_sep (k : Nat) (t : List Int) (h : k < t.length) (h6 : k < 7) (hhi : Hi (t.take k)) (h0 : 0 ≤ t.getD k 0) (hx : t.getD k 0 < 128) :
    gvf (6 - k) (t.take k) (t.drop k) = if val (t.take (k + 1)) ≤ 2000000000000 ∧ vd (val (t.take (k + 1))) = t.take (k + 1) then some (t.take (k + 1)) else none := by
  by_cases h5 : k < 6
  · rw [gvf_stop h h5 hx]
    have := form_iff h hhi h0 hx
    simp only [this, h5, true_and]
  · rw [gvf_six (by omega)]
    have := form_iff h hhi h0 hx
    rw [if_neg]
    intro ⟨_, h2⟩
    have := this.1 h2
    omega
theorem val_take (t : List Int) (k : Nat) (h : k < t.length) : val (t.take (k + 1)) = val (t.take k) + t.getD k 0 % 128 * wor k := by
  rw [take_one t k h, val_snoc]
  have hl : (t.take k).length = k := by simp; omega
  rw [hl]
theorem val_bd (t : List Int) (k : Nat) (h : k ≤ t.length) : 0 ≤ val (t.take k) ∧ val (t.take k) < wor k := by
  have hl : (t.take k).length = k := by simp; omega
  have := val_lt (t.take k)
  rw [hl] at this
  exact ⟨val_nonneg _, this⟩
theorem hi_take {t : List Int} {k : Nat} (h : k < t.length) (hhi : Hi (t.take k)) (hx : 128 ≤ t.getD k 0) (h2 : t.getD k 0 < 256) : Hi (t.take (k + 1)) := by
  rw [take_one t k h]
  intro x hm
  simp only [List.mem_append, List.mem_singleton] at hm
  rcases hm with hm | hm
  · exact hhi x hm
  · subst hm; exact ⟨hx, h2⟩
theorem wor_le {j k : Nat} (h : j ≤ k) : wor j ≤ wor k := by
  induction k with
  | zero => obtain rfl : j = 0 := by omega
            exact Int.le_refl _
  | succ k ih =>
    by_cases e : j = k + 1
    · subst e; exact Int.le_refl _
    · have := ih (by omega)
      have hp := wor_pos k
      have hw : wor (k + 1) = 128 * wor k := rfl
      omega
/-- A digit by its worth does not run over. -/
theorem digit_bd (b : Int) (k : Nat) (hk : k < 7) : 0 ≤ b % 128 * wor k ∧ b % 128 * wor k ≤ 562949953421311 := by
  have h1 := wor_pos k
  have h2 : wor k ≤ wor 6 := wor_le (by omega)
  have h3 : wor 6 = 4398046511104 := by simp [wor]
  have hb0 : 0 ≤ b % 128 := by omega
  have hb1 : b % 128 ≤ 127 := by omega
  refine ⟨Int.mul_nonneg hb0 (by omega), ?_⟩
  have := Int.mul_le_mul hb1 (show wor k ≤ 4398046511104 by omega) (by omega) (by omega)
  omega
theorem val_bd7 (t : List Int) (k : Nat) (h : k ≤ t.length) (hk : k < 8) : 0 ≤ val (t.take k) ∧ val (t.take k) ≤ 562949953421311 := by
  have h1 := val_bd t k h
  have h2 : wor k ≤ wor 7 := wor_le (by omega)
  have h3 : wor 7 = 562949953421312 := by simp [wor]
  omega
end Go.Proofs.YtbcljhafdpnjbabDoor.L1

namespace Go.Proofs.YtbcljhafdpnjbabDoor.L1
open Go.RowKit
set_option linter.unusedVariables false

theorem hide {p : Prop} (h : p) : Hid p := h
theorem unhide {p : Prop} (h : Hid p) : p := h
theorem ret_int {k : IntKind} {a b : Int} (h : a = b) : Ending.returned (.int k a) = .returned (.int k b) := by rw [h]
theorem addr_add (g i : Nat) : (⟨g, 0, none⟩ : Addr).add i = ⟨g, i, none⟩ := by unfold Addr.add; split <;> simp_all

/-- What a walk is told of a slice of integers that came in: it is nil; or it leads to a row of 'cap' cells, the numbers 'zs' (the first 'len' are its elements), each fitting its kind. -/
def IsRow (k : IntKind) (w : World) (a : Option Addr) (len cap : Nat) (zs : List Int) : Prop :=
  (a = none ∧ len = 0 ∧ cap = 0 ∧ zs = []) ∨
  ∃ x, a = some x ∧ len ≤ cap ∧ cap ≤ maxLen ∧ zs.length = cap ∧ (∀ i, i < zs.length → w.cell? (x.add i) = some (.int k (zs.getD i 0))) ∧ ∀ n ∈ zs, (Lit.int k n).wf = true
end Go.Proofs.YtbcljhafdpnjbabDoor.L1

namespace Go.Proofs.YtbcljhafdpnjbabDoor.L1
open Go.RowKit
set_option linter.unusedVariables false

/-- A text's bytes from a place on. -/
def bts (s : ByteArray) (a : Nat) : List Int := (s.data.toList.drop a).map fun c => (c.toNat : Int)
theorem bts_len (s : ByteArray) (a : Nat) : (bts s a).length = s.size - a := by simp [bts]
theorem bts_get (s : ByteArray) (a k : Nat) (h : a + k < s.size) : (bts s a).getD k 0 = ((s[a + k]'h).toNat : Int) := by
  have h2 : a + k < s.data.toList.length := by simpa using h
  simp only [bts, List.getD, List.getElem?_map, List.getElem?_drop, List.getElem?_eq_getElem h2, Option.map_some, Option.getD_some]
  rfl
theorem bts_byte (s : ByteArray) (a k : Nat) : 0 ≤ (bts s a).getD k 0 ∧ (bts s a).getD k 0 < 256 := by
  by_cases h : a + k < s.size
  · rw [bts_get s a k h]
    have := (s[a + k]'h).toNat_lt
    omega
  · simp only [List.getD, List.getElem?_eq_none (show (bts s a).length ≤ k by rw [bts_len]; omega)]
    simp

/-- The text of digits that stand in a text is that piece of it. -/
theorem str_piece (s : ByteArray) (a j : Nat) (h : a + j ≤ s.size) : strOfNums ((bts s a).take j) = s.extract a (a + j) := by
  apply ByteArray.ext
  apply Array.toList_inj.1
  simp only [strOfNums, bts, ByteArray.data_extract, Array.toList_extract]
  rw [← List.map_take, List.map_map]
  have e : (fun n : Int => UInt8.ofNat n.toNat) ∘ (fun c : UInt8 => (c.toNat : Int)) = id := by
    funext c
    simp
  rw [e]
  simp
theorem str_inj : ∀ {l m : List Int}, (∀ x ∈ l, 0 ≤ x ∧ x < 256) → (∀ x ∈ m, 0 ≤ x ∧ x < 256) → strOfNums l = strOfNums m → l = m := by
  intro l m hl hm h
  have h2 : l.map (fun n : Int => UInt8.ofNat n.toNat) = m.map (fun n : Int => UInt8.ofNat n.toNat) := by
    have := congrArg (fun b => b.data.toList) h
    simpa [strOfNums] using this
  clear h
  induction l generalizing m with
  | nil => cases m with
    | nil => rfl
    | cons y m => simp at h2
  | cons x l ih =>
    cases m with
    | nil => simp at h2
    | cons y m =>
      simp only [List.map_cons, List.cons.injEq] at h2
      have hx := hl x (by simp)
      have hy := hm y (by simp)
      have e : x = y := by
        have := congrArg UInt8.toNat h2.1
        simp only [UInt8.toNat_ofNat'] at this
        omega
      rw [e, ih (fun u hu => hl u (by simp [hu])) (fun u hu => hm u (by simp [hu])) h2.2]
theorem toList_inj {A B : ByteArray} (h : A.toList = B.toList) : A = B := by
  rw [ByteArray.toList_eq, ByteArray.toList_eq] at h
  exact ByteArray.ext (Array.toList_inj.1 h)
theorem bts_mem (s : ByteArray) (a : Nat) : ∀ x ∈ bts s a, 0 ≤ x ∧ x < 256 := by
  intro x hx
  simp only [bts, List.mem_map] at hx
  obtain ⟨c, _, rfl⟩ := hx
  have := c.toNat_lt
  omega
end Go.Proofs.YtbcljhafdpnjbabDoor.L1

namespace Go.Proofs.YtbcljhafdpnjbabDoor.L1

theorem gvf_some : ∀ (f : Nat) (pre t l : List Int), gvf f pre t = some l → ∃ m, 1 ≤ m ∧ m ≤ t.length ∧ l = pre ++ t.take m
  | 0, _, _, _, h => by simp [gvf] at h
  | _ + 1, _, [], _, h => by simp [gvf] at h
  | f + 1, pre, x :: r, l, h => by
    simp only [gvf] at h
    split at h
    · obtain ⟨m, h1, h2, h3⟩ := gvf_some f (pre ++ [x]) r l h
      refine ⟨m + 1, by omega, by simp; omega, ?_⟩
      rw [h3]
      simp
    · split at h
      · simp only [Option.some.injEq] at h
        exact ⟨1, by omega, by simp, by rw [← h]; simp⟩
      · simp at h
theorem gv_some {t l : List Int} (h : gv t = some l) : 1 ≤ l.length ∧ l.length ≤ t.length := by
  obtain ⟨m, h1, h2, h3⟩ := gvf_some 6 [] t l h
  rw [h3]
  simp
  omega

/-- All numbers of a text. -/
def ga : Nat → List Int → Option (List Int)
  | _, [] => some []
  | 0, _ :: _ => none
  | f + 1, x :: r => match gv (x :: r) with
    | none => none
    | some l => (ga f ((x :: r).drop l.length)).map fun o => zag (val l) :: o

theorem ga_fuel : ∀ (n : Nat) (t : List Int) (f g : Nat), t.length ≤ n → t.length ≤ f → t.length ≤ g → ga f t = ga g t
  | _, [], f, g, _, _, _ => by cases f <;> cases g <;> rfl
  | 0, x :: r, _, _, h, _, _ => by simp at h
  | n + 1, x :: r, f, g, h, hf, hg => by
    obtain ⟨f, rfl⟩ : ∃ j, f = j + 1 := ⟨f - 1, by simp at hf; omega⟩
    obtain ⟨g, rfl⟩ : ∃ j, g = j + 1 := ⟨g - 1, by simp at hg; omega⟩
    simp only [ga]
    cases hv : gv (x :: r) with
    | none => rfl
    | some l =>
      have hl := gv_some hv
      have e := ga_fuel n ((x :: r).drop l.length) f g (by simp at *; omega) (by simp at *; omega) (by simp at *; omega)
      simp only [e]

def gall (t : List Int) : Option (List Int) := ga t.length t
theorem gall_nil : gall [] = some [] := rfl
theorem gall_none {t : List Int} (h0 : 0 < t.length) (h : gv t = none) : gall t = none := by
  cases t with
  | nil => simp at h0
  | cons x r => simp only [gall, List.length_cons, ga, h]
theorem gall_some {t l : List Int} (h0 : 0 < t.length) (h : gv t = some l) : gall t = (gall (t.drop l.length)).map fun o => zag (val l) :: o := by
  cases t with
  | nil => simp at h0
  | cons x r =>
    have hl := gv_some h
    simp only [gall, List.length_cons, ga, h]
    rw [ga_fuel (r.length + 1) ((x :: r).drop l.length) r.length ((x :: r).drop l.length).length (by simp) (by simp at *; omega) (by simp)]

/-- What is read so far, and what is still to be read. -/
theorem gall_step {A : Option (List Int)} {xs t l : List Int} (h0 : 0 < t.length) (h : gv t = some l) (hA : A = (gall t).map fun o => xs ++ o) :
    A = (gall (t.drop l.length)).map fun o => (xs ++ [zag (val l)]) ++ o := by
  rw [hA, gall_some h0 h]
  cases gall (t.drop l.length) <;> simp
theorem gall_stop {A : Option (List Int)} {xs t : List Int} (h0 : 0 < t.length) (h : gv t = none) (hA : A = (gall t).map fun o => xs ++ o) : A = none := by
  rw [hA, gall_none h0 h]
  rfl
theorem gall_over {A : Option (List Int)} {xs t : List Int} (hA : A = (gall t).map fun o => xs ++ o) {ys : List Int} (h : A = some ys) : xs.length ≤ ys.length := by
  rw [hA] at h
  cases hg : gall t with
  | none => rw [hg] at h; simp at h
  | some o =>
    rw [hg] at h
    simp at h
    rw [← h]
    simp

/-- The numbers of a text that are at most 60. -/
def gaRes (t : List Int) : Option (List Int) := if t.length ≤ 600 then (gall t).bind (fun xs => if xs.length ≤ 60 then some xs else none) else none
def marks (k : Int) (n : Nat) : List Int := (List.range n).map fun i : Nat => k + (i : Int)
theorem marks_len (k : Int) (n : Nat) : (marks k n).length = n := by simp [marks]
theorem marks_get (k : Int) (n j : Nat) (h : j < n) : (marks k n).getD j 0 = k + (j : Int) := by
  simp [marks, List.getD, h]
end Go.Proofs.YtbcljhafdpnjbabDoor.L1

namespace Go.Proofs.YtbcljhafdpnjbabDoor.L1

theorem val_vdf (f : Nat) : ∀ z : Int, 0 ≤ z → z < wor (f + 1) → val (vdf f z) = z := by
  induction f with
  | zero => intro z h1 h2; simp [wor] at h2; simp [vdf, val]; omega
  | succ f ih =>
    intro z h1 h2
    have hw : wor (f + 1 + 1) = 128 * wor (f + 1) := rfl
    simp only [vdf]
    split
    · simp [val]; omega
    · have := ih (z / 128) (by omega) (by omega)
      simp only [val, this]
      omega
theorem val_vd (z : Int) (h1 : 0 ≤ z) (h2 : z ≤ 2000000000000) : val (vd z) = z := val_vdf 5 z h1 (by simp [wor]; omega)

theorem gvf_vdf (f : Nat) : ∀ (z : Int) (pre r : List Int) (F : Nat), f + 1 ≤ F → 0 ≤ z → z < wor (f + 1) → (pre = [] ∨ 1 ≤ z) → val (pre ++ vdf f z) ≤ 2000000000000 → gvf F pre (vdf f z ++ r) = some (pre ++ vdf f z) := by
  induction f with
  | zero =>
    intro z pre r F hF h1 h2 hp hv
    obtain ⟨F, rfl⟩ : ∃ j, F = j + 1 := ⟨F - 1, by omega⟩
    simp [wor] at h2
    simp only [vdf, List.cons_append, List.nil_append, gvf] at hv ⊢
    rw [if_neg (by omega), if_pos ⟨hv, by rcases hp with h | h; exact .inl h; exact .inr (by omega)⟩]
  | succ f ih =>
    intro z pre r F hF h1 h2 hp hv
    obtain ⟨F, rfl⟩ : ∃ j, F = j + 1 := ⟨F - 1, by omega⟩
    have hw : wor (f + 1 + 1) = 128 * wor (f + 1) := rfl
    by_cases hlt : z < 128
    · simp only [vdf, if_pos hlt, List.cons_append, List.nil_append, gvf] at hv ⊢
      rw [if_neg (by omega), if_pos ⟨hv, by rcases hp with h | h; exact .inl h; exact .inr (by omega)⟩]
    · simp only [vdf, if_neg hlt, List.cons_append, gvf] at hv ⊢
      rw [if_pos (by omega)]
      have e : pre ++ (128 + z % 128) :: vdf f (z / 128) = (pre ++ [128 + z % 128]) ++ vdf f (z / 128) := by simp
      rw [e] at hv ⊢
      exact ih (z / 128) (pre ++ [128 + z % 128]) r F (by omega) (by omega) (by omega) (.inr (by omega)) hv
theorem gv_vd (z : Int) (r : List Int) (h1 : 0 ≤ z) (h2 : z ≤ 2000000000000) : gv (vd z ++ r) = some (vd z) := by
  have := gvf_vdf 5 z [] r 6 (by omega) h1 (by simp [wor]; omega) (.inl rfl) (by
    have := val_vd z h1 h2
    unfold vd at this
    simp only [List.nil_append]
    omega)
  simpa [gv, vd] using this

theorem gvf_form : ∀ (F : Nat) (pre t l : List Int), Hi pre → (∀ x ∈ t, 0 ≤ x ∧ x < 256) → pre.length + F ≤ 6 → gvf F pre t = some l → vd (val l) = l ∧ val l ≤ 2000000000000
  | 0, _, _, _, _, _, _, h => by simp [gvf] at h
  | _ + 1, _, [], _, _, _, _, h => by simp [gvf] at h
  | F + 1, pre, x :: r, l, hp, ht, hF, h => by
    have hx := ht x (by simp)
    simp only [gvf] at h
    split at h
    · refine gvf_form F (pre ++ [x]) r l ?_ (fun y hy => ht y (by simp [hy])) (by simp; omega) h
      intro y hy
      simp only [List.mem_append, List.mem_singleton] at hy
      rcases hy with hy | hy
      · exact hp y hy
      · subst hy; omega
    · split at h
      · rename_i hc
        simp only [Option.some.injEq] at h
        subst h
        exact ⟨(vdf_val 5 pre x hp (by omega) (by omega) (by omega)).2 hc.2, hc.1⟩
      · simp at h
theorem gv_form {t l : List Int} (ht : ∀ x ∈ t, 0 ≤ x ∧ x < 256) (h : gv t = some l) : vd (val l) = l ∧ val l ≤ 2000000000000 :=
  gvf_form 6 [] t l (fun x hx => by simp at hx) ht (by simp) h
theorem gv_take {t l : List Int} (h : gv t = some l) : l = t.take l.length := by
  obtain ⟨m, h1, h2, h3⟩ := gvf_some 6 [] t l h
  have : l.length = m := by rw [h3]; simp; omega
  rw [this, h3]
  simp

theorem vd_mono (a b : Int) (h0 : 0 ≤ a) (h : a ≤ b) : (vd a).length ≤ (vd b).length := by
  rcases Nat.lt_or_ge (vd b).length (vd a).length with hlt | hge
  · have h1 := (vdf_len 5 a (vd b).length h0 (vdf_pos 5 b)).1 hlt
    have h2 := (vdf_len 5 b (vd b).length (by omega) (vdf_pos 5 b)).2 ⟨h1.1, by omega⟩
    change (vd b).length < (vd b).length at h2
    omega
  · exact hge
theorem half_le (n : Int) : zig (n.tdiv 2) ≤ zig n ∧ (-1000000000000 ≤ n → -1000000000000 ≤ n.tdiv 2) ∧ (n ≤ 1000000000000 → n.tdiv 2 ≤ 1000000000000) := by
  by_cases h : 0 ≤ n
  · rw [Int.tdiv_eq_ediv_of_nonneg h]
    unfold zig
    rw [if_neg (by omega), if_neg (by omega)]
    omega
  · obtain ⟨m, rfl⟩ : ∃ m, n = -m := ⟨-n, by omega⟩
    rw [Int.neg_tdiv, Int.tdiv_eq_ediv_of_nonneg (by omega)]
    unfold zig
    split <;> split <;> omega
end Go.Proofs.YtbcljhafdpnjbabDoor.L1

namespace Go.Proofs.YtbcljhafdpnjbabDoor.L1
open Go.RowKit
set_option linter.unusedVariables false

theorem info_int : (Tryd.prog.info? 3).map (fun i => (i.zero, i.size, i.bytes)) = some (some (.int .i64 0), 1, 8) := by kernel_rfl

/-- A list of ints lies in memory from an address on. -/
def Sl (w : World) (a : Option Addr) (xs : List Int) : Prop := ∀ i, i < xs.length → ∃ b off, a = some ⟨b, off, none⟩ ∧ w.cell? ⟨b, off + i, none⟩ = some (.int .i64 (xs.getD i 0))

theorem blk_lt {w : World} {b o : Nat} {v : Value} (h : w.cell? ⟨b, o, none⟩ = some v) : b < w.heap.size := by
  by_cases hb : b < w.heap.size
  · exact hb
  · simp [World.cell?, Array.getElem?_eq_none (show w.heap.size ≤ b by omega)] at h
theorem Sl.below {w w' : World} {a : Option Addr} {xs : List Int} (h : Sl w a xs) (hb : Below w.heap.size w w') : Sl w' a xs := fun i hi => by
  obtain ⟨b, off, ha, hc⟩ := h i hi
  refine ⟨b, off, ha, ?_⟩
  rw [hb.cell (p := ⟨b, off + i, none⟩) (blk_lt hc)]
  exact hc
theorem Sl.at {w : World} {b off : Nat} {xs : List Int} (h : Sl w (some ⟨b, off, none⟩) xs) (i : Nat) (hi : i < xs.length) : w.cell? ⟨b, off + i, none⟩ = some (.int .i64 (xs.getD i 0)) := by
  obtain ⟨b', off', ha, hc⟩ := h i hi
  simp at ha
  obtain ⟨rfl, rfl⟩ := ha
  exact hc
theorem sl_of_own {w : World} {base g n cap : Nat} {xs : List Int} (h : w.ownsRow base 3 1 (.slice (some ⟨g, 0, none⟩) n cap) n (xs.map (Value.int .i64))) : Sl w (some ⟨g, 0, none⟩) xs := fun i hi => by
  have := h.cells (g := g) rfl i (.int .i64 (xs.getD i 0)) (by
    rw [List.getElem?_map, List.getElem?_eq_getElem hi]
    simp [List.getD, List.getElem?_eq_getElem hi])
  rw [addr_add] at this
  exact ⟨g, 0, rfl, by simpa using this⟩
theorem sl_of_row {w : World} {a : Option Addr} {len cap : Nat} {zs : List Int} (h : IsRow .i64 w a len cap zs) : Sl w a (zs.take len) ∧ (zs.take len).length = len ∧ len ≤ maxLen := by
  rcases h with ⟨rfl, rfl, rfl, rfl⟩ | ⟨x, rfl, hl, hm, hz, hc, _⟩
  · exact ⟨fun i hi => by simp at hi, by simp, by unfold maxLen; omega⟩
  · refine ⟨fun i hi => ?_, by simp; omega, by omega⟩
    have hi' : i < zs.length := by simp at hi; omega
    have hil : i < len := by simp at hi; omega
    have h0 := hc i hi'
    obtain ⟨b, off, spot⟩ := x
    have hspot : spot = none := by
      have h00 := hc 0 (by omega)
      simpa [Addr.add] using World.cell?_spot h00
    subst hspot
    refine ⟨b, off, rfl, ?_⟩
    have e : (⟨b, off, none⟩ : Addr).add i = ⟨b, off + i, none⟩ := by unfold Addr.add; split <;> simp_all
    rw [e] at h0
    rw [h0]
    simp [List.getD, hil]

theorem made_ints (n : Nat) : (madeCells (Value.int .i64 0).cells (n * 1)).toList = (List.replicate n (0 : Int)).map (Value.int .i64) := by
  rw [Nat.mul_one]
  show (madeCells #[Value.int .i64 0] n).toList = _
  rw [toList_madeCells_one]
  simp

/-- One round of the copy. -/
theorem copy_round {w wr : World} {xs ys : List Int} {m k : Nat} (hlt : k < m) (hm : xs.length = m) (hl : ys.length = m) (HX : ∀ j, j < k → ys.getD j 0 = xs.getD j 0)
    (hown : wr.ownsRow w.heap.size 3 1 (.slice (some ⟨w.heap.size, 0, none⟩) m m) m (ys.map (Value.int .i64))) (hb : Below w.heap.size w wr) :
    ∃ (k' : Nat) (ys' : List Int), k' ≤ m ∧ Value.int .i64 ((k : Int) + 1) = .int .i64 k' ∧ ys'.length = m ∧ Hid (∀ j, j < k' → ys'.getD j 0 = xs.getD j 0) ∧
      (wr.setCell ⟨w.heap.size, k, none⟩ (.int .i64 (xs.getD k 0))).ownsRow w.heap.size 3 1 (.slice (some ⟨w.heap.size, 0, none⟩) m m) m (ys'.map (Value.int .i64)) ∧ Below w.heap.size w (wr.setCell ⟨w.heap.size, k, none⟩ (.int .i64 (xs.getD k 0))) := by
  have hst := hown.stored k (.int .i64 (xs.getD k 0))
  have hb2 := hb.setCell (p := ⟨w.heap.size, k, none⟩) (Nat.le_refl _) (.int .i64 (xs.getD k 0))
  refine ⟨k + 1, ys.set k (xs.getD k 0), by omega, by simp, by simpa using hl, ?_, by rw [List.map_set]; exact hst.1, hb2⟩
  intro j hj
  by_cases e : j = k
  · subst e
    simp [List.getD, hl, hlt]
  · rw [← HX j (by omega)]
    simp [List.getD, Ne.symm e]
theorem list_same {xs ys : List Int} {m : Nat} (h1 : xs.length = m) (h2 : ys.length = m) (h : ∀ j, j < m → ys.getD j 0 = xs.getD j 0) : ys = xs := by
  apply List.ext_getElem?
  intro j
  by_cases hj : j < m
  · have h := h j hj
    simp only [List.getD, List.getElem?_eq_getElem (show j < ys.length by omega), List.getElem?_eq_getElem (show j < xs.length by omega), Option.getD_some] at h
    rw [List.getElem?_eq_getElem (show j < ys.length by omega), List.getElem?_eq_getElem (show j < xs.length by omega), h]
  · rw [List.getElem?_eq_none (by omega), List.getElem?_eq_none (by omega)]

/-- A list that is owned, as a value. -/
theorem own_form {w : World} {base n : Nat} {v : Value} {xs : List Int} (h : w.ownsRow base 3 1 v n (xs.map (Value.int .i64))) : ∃ a cap, v = .slice a n cap ∧ Sl w a xs ∧ xs.length = n := by
  have hl := h.1
  simp at hl
  rcases h.2 with ⟨hv, h0⟩ | ⟨g, cap, cur, hv, _⟩
  · subst h0
    exact ⟨none, 0, hv, fun i hi => by omega, hl⟩
  · subst hv
    exact ⟨_, cap, rfl, sl_of_own h, hl⟩
/-- What is owned stays so while nothing that is there turns. -/
theorem own_below {w w' : World} {base n : Nat} {v : Value} {ys : List Value} (h : w.ownsRow base 3 1 v n ys) (hb : Below w.heap.size w w') : w'.ownsRow base 3 1 v n ys := by
  refine ⟨h.1, ?_⟩
  rcases h.2 with h0 | ⟨g, cap, cur, rfl, hbg, hg, r⟩
  · exact .inl h0
  · exact .inr ⟨g, cap, cur, rfl, hbg, by rw [hb.block g (Array.getElem?_eq_some_iff.1 hg).1]; exact hg, r⟩
theorem own_ge {w : World} {base n g cap : Nat} {xs : List Value} (h : w.ownsRow base 3 1 (.slice (some ⟨g, 0, none⟩) n cap) n xs) : base ≤ g := (h.lt g rfl).1

/-- A list that a call hands back, in new memory, and whether there is one. -/
def RetL (w : World) (r : Option (List Int)) (e : Ending) (w' : World) : Prop :=
  ∃ v, e = .returned (.tuple #[v, .bool r.isSome]) ∧ w'.ownsRow w.heap.size 3 1 v (r.getD []).length ((r.getD []).map (Value.int .i64)) ∧ Below w.heap.size w w'
end Go.Proofs.YtbcljhafdpnjbabDoor.L1

namespace Go.Proofs.YtbcljhafdpnjbabDoor.L1
open Go.RowKit
set_option linter.unusedVariables false

/-- All digits, one number's behind the other's. -/
def cat : List Int → List Int
  | [] => []
  | n :: l => vd (zig n) ++ cat l
theorem cat_append (l m : List Int) : cat (l ++ m) = cat l ++ cat m := by
  induction l with
  | nil => rfl
  | cons x l ih => simp [cat, ih]
theorem cat_len (l : List Int) : (cat l).length ≤ 6 * l.length := by
  induction l with
  | nil => simp [cat]
  | cons x l ih =>
    have h : (vd (zig x)).length ≤ 6 := vdf_le 5 (zig x)
    simp only [cat, List.length_append, List.length_cons]
    omega
theorem ltake_one (t : List Int) (k : Nat) (h : k < t.length) : t.take (k + 1) = t.take k ++ [t.getD k 0] := by
  rw [List.take_succ_eq_append_getElem h]; simp [List.getD, List.getElem?_eq_getElem h]
theorem cat_take (l : List Int) (k : Nat) (h : k < l.length) : cat (l.take (k + 1)) = cat (l.take k) ++ vd (zig (l.getD k 0)) := by
  rw [ltake_one l k h, cat_append]
  simp [cat]
theorem str_append (l m : List Int) : strOfNums (l ++ m) = strOfNums l ++ strOfNums m := by
  apply ByteArray.ext
  simp [strOfNums, ByteArray.data_append]

/-- All are in -1000000000000..1000000000000. -/
def OkL (xs : List Int) : Prop := ∀ j, j < xs.length → -1000000000000 ≤ xs.getD j 0 ∧ xs.getD j 0 ≤ 1000000000000
end Go.Proofs.YtbcljhafdpnjbabDoor.L1

namespace Go.Proofs.YtbcljhafdpnjbabDoor.L6
open Go.RowKit L1
set_option linter.unusedVariables false

/-- The record that begins at a place: where its bytes begin, and how many they are. -/
def rc (s : ByteArray) (a : Nat) : Option (Nat × Nat) :=
  match gv (bts s a) with
  | none => none
  | some l => if 0 ≤ zag (val l) ∧ zag (val l) ≤ 20 ∧ zag (val l) ≤ (s.size : Int) - ((a + l.length : Nat) : Int) then some (a + l.length, (zag (val l)).toNat) else none
theorem rc_gv {s : ByteArray} {a c n : Nat} (h : rc s a = some (c, n)) : ∃ l, gv (bts s a) = some l ∧ zag (val l) = (n : Int) ∧ c = a + l.length ∧ n ≤ 20 ∧ c + n ≤ s.size := by
  unfold rc at h
  split at h
  · cases h
  · rename_i l hl
    split at h
    · rename_i hc
      simp only [Option.some.injEq, Prod.mk.injEq] at h
      obtain ⟨h1, h2⟩ := h
      refine ⟨l, hl, by omega, h1.symm, by omega, by omega⟩
    · cases h
theorem rc_lt {s : ByteArray} {a c n : Nat} (h : rc s a = some (c, n)) : a < c ∧ n ≤ 20 ∧ c + n ≤ s.size := by
  obtain ⟨l, h1, h2, h3, h4, h5⟩ := rc_gv h
  have := (gv_some h1).1
  exact ⟨by omega, h4, h5⟩
theorem rc_end {s : ByteArray} {a : Nat} (h : s.size ≤ a) : rc s a = none := by
  unfold rc
  have : bts s a = [] := List.eq_nil_of_length_eq_zero (by rw [bts_len]; omega)
  rw [this]
  rfl
/-- The place behind the record at a place; the place itself, where there is none. -/
def nx (s : ByteArray) (a : Nat) : Nat :=
  match rc s a with
  | none => a
  | some (c, n) => c + n
theorem nx_some {s : ByteArray} {a c n : Nat} (h : rc s a = some (c, n)) : nx s a = c + n := by unfold nx; rw [h]
theorem nx_le {s : ByteArray} {a : Nat} (h : a ≤ s.size) : a ≤ nx s a ∧ nx s a ≤ s.size := by
  unfold nx
  split
  · exact ⟨Nat.le_refl _, h⟩
  · rename_i c n hc
    have := rc_lt hc
    omega
/-- The place behind so many records. -/
def pl (s : ByteArray) (a : Nat) : Nat → Nat
  | 0 => a
  | j + 1 => nx s (pl s a j)
theorem pl_front (s : ByteArray) (a : Nat) : ∀ j, pl s a (j + 1) = pl s (nx s a) j
  | 0 => rfl
  | j + 1 => by rw [pl, pl_front s a j]; rfl
theorem pl_le (s : ByteArray) : ∀ j, pl s 0 j ≤ s.size
  | 0 => Nat.zero_le _
  | j + 1 => (nx_le (pl_le s j)).2
theorem pl_mono (s : ByteArray) (j : Nat) : pl s 0 j ≤ pl s 0 (j + 1) := (nx_le (pl_le s j)).1
theorem pl_mono2 (s : ByteArray) {j k : Nat} (h : j ≤ k) : pl s 0 j ≤ pl s 0 k := by
  induction k with
  | zero => obtain rfl : j = 0 := by omega
            exact Nat.le_refl _
  | succ k ih =>
    by_cases e : j = k + 1
    · subst e; exact Nat.le_refl _
    · exact Nat.le_trans (ih (by omega)) (pl_mono s k)
def cntf (s : ByteArray) : Nat → Nat → Nat
  | 0, _ => 0
  | f + 1, a => match rc s a with
    | none => 0
    | some (c, n) => cntf s f (c + n) + 1
theorem cntf_spec (s : ByteArray) : ∀ (f a : Nat), s.size - a < f → (∀ j, j < cntf s f a → rc s (pl s a j) ≠ none) ∧ rc s (pl s a (cntf s f a)) = none
  | 0, a, h => absurd h (Nat.not_lt_zero _)
  | f + 1, a, h => by
    cases hc : rc s a with
    | none =>
      have e : cntf s (f + 1) a = 0 := by simp [cntf, hc]
      rw [e]
      exact ⟨fun j hj => absurd hj (Nat.not_lt_zero _), hc⟩
    | some p =>
      obtain ⟨c, n⟩ := p
      have hl := rc_lt hc
      have e : cntf s (f + 1) a = cntf s f (c + n) + 1 := by simp [cntf, hc]
      have en : nx s a = c + n := nx_some hc
      have ih := cntf_spec s f (c + n) (by omega)
      rw [e]
      refine ⟨fun j hj => ?_, by rw [pl_front, en]; exact ih.2⟩
      cases j with
      | zero => intro h0; rw [show pl s a 0 = a from rfl, hc] at h0; cases h0
      | succ j => rw [pl_front, en]; exact ih.1 j (by omega)
/-- How many whole records a text begins with. -/
def cnt (s : ByteArray) : Nat := cntf s (s.size + 1) 0
theorem cnt_yes (s : ByteArray) (j : Nat) (h : j < cnt s) : rc s (pl s 0 j) ≠ none := (cntf_spec s (s.size + 1) 0 (by omega)).1 j h
theorem cnt_no (s : ByteArray) : rc s (pl s 0 (cnt s)) = none := (cntf_spec s (s.size + 1) 0 (by omega)).2
theorem cnt_rc (s : ByteArray) (j : Nat) (h : j < cnt s) : ∃ c n, rc s (pl s 0 j) = some (c, n) ∧ pl s 0 (j + 1) = c + n := by
  cases hc : rc s (pl s 0 j) with
  | none => exact absurd hc (cnt_yes s j h)
  | some p => exact ⟨p.1, p.2, rfl, nx_some hc⟩
theorem cnt_unique (s : ByteArray) (k : Nat) (h1 : ∀ j, j < k → rc s (pl s 0 j) ≠ none) (h2 : rc s (pl s 0 k) = none) : cnt s = k := by
  by_cases e : cnt s < k
  · exact absurd (cnt_no s) (h1 _ e)
  · by_cases e2 : k < cnt s
    · exact absurd h2 (cnt_yes s k e2)
    · omega
theorem pl_lt (s : ByteArray) (j : Nat) (h : j < cnt s) : pl s 0 j < pl s 0 (j + 1) := by
  obtain ⟨c, n, h1, h2⟩ := cnt_rc s j h
  have := rc_lt h1
  omega
theorem pl_ge (s : ByteArray) : ∀ j, j ≤ cnt s → j ≤ pl s 0 j
  | 0, _ => Nat.zero_le _
  | j + 1, h => by
    have h1 := pl_ge s j (by omega)
    have h2 := pl_lt s j (by omega)
    omega
theorem cnt_le (s : ByteArray) : cnt s ≤ s.size := Nat.le_trans (pl_ge s _ (Nat.le_refl _)) (pl_le s _)
/-- Where the whole records end. -/
def wh (s : ByteArray) : Nat := pl s 0 (cnt s)
theorem wh_le (s : ByteArray) : wh s ≤ s.size := pl_le s _
/-- The places of the first records. -/
def stk (s : ByteArray) (k : Nat) : List Int := (List.range k).map fun j => (pl s 0 j : Int)
theorem stk_len (s : ByteArray) (k : Nat) : (stk s k).length = k := by simp [stk]
theorem stk_get (s : ByteArray) (k j : Nat) (h : j < k) : (stk s k).getD j 0 = (pl s 0 j : Int) := by simp [stk, List.getD, h]
theorem stk_succ (s : ByteArray) (k : Nat) : stk s (k + 1) = stk s k ++ [(pl s 0 k : Int)] := by simp [stk, List.range_succ]
abbrev st (s : ByteArray) : List Int := stk s (cnt s)
/-- Every third place. -/
def ixk (s : ByteArray) (k : Nat) : List Int := (List.range k).map fun j => (pl s 0 (3 * j) : Int)
theorem ixk_len (s : ByteArray) (k : Nat) : (ixk s k).length = k := by simp [ixk]
theorem ixk_get (s : ByteArray) (k j : Nat) (h : j < k) : (ixk s k).getD j 0 = (pl s 0 (3 * j) : Int) := by simp [ixk, List.getD, h]
theorem ixk_succ (s : ByteArray) (k : Nat) : ixk s (k + 1) = ixk s k ++ [(pl s 0 (3 * k) : Int)] := by simp [ixk, List.range_succ]
def ix (s : ByteArray) : List Int := ixk s ((cnt s + 2) / 3)

/-! Texts with one front -/
theorem bts_at (s : ByteArray) (a : Nat) : bts s a = (bts s 0).drop a := by simp [bts]
theorem rc_ext {s t : ByteArray} {a c n : Nat} (h : rc s a = some (c, n)) (hs : c + n ≤ t.size) (he : (bts t 0).take (c + n) = (bts s 0).take (c + n)) : rc t a = some (c, n) := by
  obtain ⟨l, h1, h2, h3, h4, h5⟩ := rc_gv h
  have hf := gv_form (bts_mem s a) h1
  have ht := gv_take h1
  have hl := (gv_some h1)
  have e1 : (bts t a).take l.length = l := by
    rw [bts_at t a]
    rw [bts_at s a] at ht
    have e2 : ((bts t 0).drop a).take l.length = (((bts t 0).take (c + n)).drop a).take l.length := by
      rw [List.drop_take, List.take_take]
      congr 1
      omega
    have e3 : ((bts s 0).drop a).take l.length = (((bts s 0).take (c + n)).drop a).take l.length := by
      rw [List.drop_take, List.take_take]
      congr 1
      omega
    rw [e2, he, ← e3]
    exact ht.symm
  have e4 : bts t a = vd (val l) ++ (bts t a).drop l.length := by
    rw [hf.1]
    conv => lhs; rw [← List.take_append_drop l.length (bts t a)]
    rw [e1]
  have e5 : gv (bts t a) = some l := by
    rw [e4, gv_vd (val l) _ (val_nonneg l) hf.2, hf.1]
  unfold rc
  rw [e5]
  have hsz : zag (val l) ≤ (t.size : Int) - ((a + l.length : Nat) : Int) := by omega
  simp only []
  rw [if_pos ⟨by omega, by omega, hsz⟩]
  simp only [Option.some.injEq, Prod.mk.injEq]
  exact ⟨h3.symm, by omega⟩
/-- Of two texts with one front the first records are alike. -/
theorem pl_ext {s t : ByteArray} (k : Nat) (hk : k ≤ cnt s) (hs : pl s 0 k ≤ t.size) (he : (bts t 0).take (pl s 0 k) = (bts s 0).take (pl s 0 k)) :
    ∀ j, j ≤ k → pl t 0 j = pl s 0 j ∧ (j < k → rc t (pl t 0 j) = rc s (pl s 0 j)) := by
  have key : ∀ j, j < k → rc t (pl s 0 j) = rc s (pl s 0 j) := fun j hj => by
    obtain ⟨c, n, h1, h2⟩ := cnt_rc s j (by omega)
    have h3 : pl s 0 (j + 1) ≤ pl s 0 k := pl_mono2 s (by omega)
    rw [h1]
    refine rc_ext h1 (by omega) ?_
    have e : ∀ u : List Int, u.take (c + n) = (u.take (pl s 0 k)).take (c + n) := fun u => by
      rw [List.take_take]
      congr 1
      omega
    rw [e (bts t 0), he, ← e]
  intro j
  induction j with
  | zero => exact fun _ => ⟨rfl, fun h => key 0 h⟩
  | succ j ih =>
    intro hj
    have h1 := (ih (by omega)).1
    have h2 : pl t 0 (j + 1) = pl s 0 (j + 1) := by
      show nx t (pl t 0 j) = nx s (pl s 0 j)
      rw [h1]
      unfold nx
      rw [key j (by omega)]
    exact ⟨h2, fun h => by rw [h2]; exact key (j + 1) h⟩
theorem bts_cut (s : ByteArray) (b : Nat) (h : b ≤ s.size) : bts (s.extract 0 b) 0 = (bts s 0).take b := by
  simp [bts, ByteArray.data_extract]
/-- What is left of the records where a text ends behind one. -/
theorem cut_cnt (s : ByteArray) (k : Nat) (hk : k ≤ cnt s) : cnt (s.extract 0 (pl s 0 k)) = k ∧ (∀ j, j ≤ k → pl (s.extract 0 (pl s 0 k)) 0 j = pl s 0 j) := by
  have hle := pl_le s k
  have hsz : (s.extract 0 (pl s 0 k)).size = pl s 0 k := by simp; omega
  have E := pl_ext (t := s.extract 0 (pl s 0 k)) k hk (by omega) (by rw [bts_cut s _ hle, List.take_take, Nat.min_self])
  refine ⟨cnt_unique _ k (fun j hj => ?_) (rc_end ?_), fun j hj => (E j hj).1⟩
  · rw [(E j (by omega)).2 hj]
    exact cnt_yes s j (by omega)
  · rw [(E k (Nat.le_refl _)).1, hsz]
    exact Nat.le_refl _
theorem cut_st (s : ByteArray) (k : Nat) (hk : k ≤ cnt s) : st (s.extract 0 (pl s 0 k)) = stk s k := by
  obtain ⟨h1, h2⟩ := cut_cnt s k hk
  unfold st stk
  rw [h1]
  apply List.map_congr_left
  intro j hj
  rw [h2 j (by simp at hj; omega)]
theorem cut_wh (s : ByteArray) (k : Nat) (hk : k ≤ cnt s) : wh (s.extract 0 (pl s 0 k)) = pl s 0 k := by
  obtain ⟨h1, h2⟩ := cut_cnt s k hk
  unfold wh
  rw [h1, h2 k (Nat.le_refl _)]
theorem cut_ix (s : ByteArray) (k : Nat) (hk : k ≤ cnt s) : ix (s.extract 0 (pl s 0 k)) = ixk s ((k + 2) / 3) := by
  obtain ⟨h1, h2⟩ := cut_cnt s k hk
  unfold ix ixk
  rw [h1]
  apply List.map_congr_left
  intro j hj
  rw [h2 (3 * j) (by simp at hj; omega)]
theorem whole_ix (s : ByteArray) : ix (s.extract 0 (wh s)) = ix s := cut_ix s (cnt s) (Nat.le_refl _)
theorem whole_cnt (s : ByteArray) : cnt (s.extract 0 (wh s)) = cnt s := (cut_cnt s (cnt s) (Nat.le_refl _)).1
theorem whole_wh (s : ByteArray) : wh (s.extract 0 (wh s)) = wh s := cut_wh s (cnt s) (Nat.le_refl _)
theorem extract_all (s : ByteArray) : s.extract 0 s.size = s := by
  apply ByteArray.ext
  simp
/-- A record as it stands in a piece. -/
def rec (r : ByteArray) : ByteArray := strOfNums (vd (zig (r.size : Int))) ++ r
theorem bts_append (s t : ByteArray) : bts (s ++ t) 0 = bts s 0 ++ bts t 0 := by
  have e : (s ++ t).data.toList = s.data.toList ++ t.data.toList := by
    show (ByteArray.append s t).data.toList = _
    simp [ByteArray.append]
  simp only [bts, List.drop_zero, e, List.map_append]
end Go.Proofs.YtbcljhafdpnjbabDoor.L6
