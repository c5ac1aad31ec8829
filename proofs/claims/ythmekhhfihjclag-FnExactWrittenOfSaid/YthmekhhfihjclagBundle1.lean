/-
  Plain mathematics of chapter 1: a number's digits to 128, their count, and how they are read back. Nothing of Go stands here.
  Small lemmas that the contracts of chapter 1 share. Nothing of the program's text is proved here but closed facts on its types.
  Lists of ints in memory. Nothing of the program's text is proved here but closed facts on its types.
  Rows that are owned, footprints, what is kept: lemmas on worlds. Nothing of the program's text is proved here.
  Lists of texts in memory. Nothing of the program's text is proved here but closed facts on its types.
  Lists of lists of texts in memory.
  Lists of notes in memory: a bool, an int, an int and a text. Nothing of the program's text is proved here.
  Lists of structs of an int, an int and a text in memory. Nothing of the program's text is proved here.
-/
import Derived.KernelRfl
import Derived.Test.YthmekhhfihjclagChecked
import Derived.WalkKit
import Derived.ProofKit
import Derived.OpenShut
import Derived.Laws.BytesArg
import Derived.WalkSpells
import Derived.WalkLawsBesides
namespace Go.Proofs.Ythmekhhfihjclag.L1

def zig (n : Int) : Int := if n < 0 then -2 * n - 1 else 2 * n
def zag (z : Int) : Int := if z % 2 = 1 then -((z + 1) / 2) else z / 2

theorem zag_zig (n : Int) : zag (zig n) = n := by unfold zag zig; split <;> split <;> omega
theorem zig_zag (z : Int) (h : 0 ≤ z) : zig (zag z) = z := by unfold zag zig; split <;> split <;> omega
theorem zig_lo (n : Int) : 0 ≤ zig n := by unfold zig; split <;> omega
theorem zig_hi (n : Int) (h1 : -1000000000000 ≤ n) (h2 : n ≤ 1000000000000) : zig n ≤ 2000000000000 := by unfold zig; split <;> omega
theorem zag_lo (z : Int) (h : 0 ≤ z) (h2 : z ≤ 2000000000000) : -1000000000000 ≤ zag z ∧ zag z ≤ 1000000000000 := by unfold zag; split <;> omega

/-- The worth of the k-th digit. -/
def wor : Nat → Int
  | 0 => 1
  | k + 1 => 128 * wor k
theorem wor_pos (k : Nat) : 1 ≤ wor k := by
  induction k with
  | zero => simp [wor]
  | succ k ih => simp only [wor]; omega

/-- The digits to 128, the lowest first, all but the last with 128 more. -/
def vdf : Nat → Int → List Int
  | 0, z => [z]
  | f + 1, z => if z < 128 then [z] else (128 + z % 128) :: vdf f (z / 128)
def vd (z : Int) : List Int := vdf 5 z

theorem vdf_pos (f : Nat) (z : Int) : 1 ≤ (vdf f z).length := by
  cases f with
  | zero => simp [vdf]
  | succ f => simp only [vdf]; split <;> simp
theorem vdf_le (f : Nat) (z : Int) : (vdf f z).length ≤ f + 1 := by
  induction f generalizing z with
  | zero => simp [vdf]
  | succ f ih =>
    simp only [vdf]; split
    · simp
    · have := ih (z / 128); simp; omega

/-- How many digits there are: one more where the number is not less than the next one's worth. -/
theorem vdf_len (f : Nat) : ∀ (z : Int) (k : Nat), 0 ≤ z → 1 ≤ k → (k < (vdf f z).length ↔ k ≤ f ∧ wor k ≤ z) := by
  induction f with
  | zero => intro z k hz hk; simp [vdf]; omega
  | succ f ih =>
    intro z k hz hk
    obtain ⟨k, rfl⟩ : ∃ j, k = j + 1 := ⟨k - 1, by omega⟩
    have hw : wor (k + 1) = 128 * wor k := rfl
    have hp := wor_pos k
    simp only [vdf]
    split
    · simp; omega
    · rename_i hlt
      cases k with
      | zero => have := vdf_pos f (z / 128); simp [wor]; omega
      | succ j =>
        have h := ih (z / 128) (j + 1) (by omega) (by omega)
        simp only [List.length_cons]
        constructor
        · intro h2; have := h.1 (by omega); omega
        · intro h2; have := h.2 (by omega); omega

/-- Each digit by its worth. -/
theorem vdf_get (f : Nat) : ∀ (z : Int) (k : Nat), 0 ≤ z → z < wor (f + 1) → k < (vdf f z).length →
    (vdf f z).getD k 0 = z / wor k % 128 + (if k + 1 < (vdf f z).length then 128 else 0) := by
  induction f with
  | zero =>
    intro z k hz hz2 hk
    simp [vdf] at hk
    subst hk
    simp [wor] at hz2
    simp [vdf, wor]
    omega
  | succ f ih =>
    intro z k hz hz2 hk
    have hw : wor (f + 1 + 1) = 128 * wor (f + 1) := rfl
    by_cases hlt : z < 128
    · simp only [vdf, if_pos hlt] at hk ⊢
      simp at hk
      subst hk
      simp [wor]
      omega
    · simp only [vdf, if_neg hlt] at hk ⊢
      cases k with
      | zero =>
        have := vdf_pos f (z / 128)
        simp [wor]
        rw [if_pos (by omega)]
        omega
      | succ k =>
        simp only [List.length_cons] at hk ⊢
        have h := ih (z / 128) k (by omega) (by omega) (by omega)
        have e : z / wor (k + 1) = z / 128 / wor k := by
          show z / (128 * wor k) = _
          rw [Int.ediv_ediv_of_nonneg (by omega)]
        simp only [List.getD_cons_succ, h, e]
        congr 1
        by_cases h2 : k + 1 < (vdf f (z / 128)).length
        · rw [if_pos h2, if_pos (by omega)]
        · rw [if_neg h2, if_neg (by omega)]

theorem vdf_byte (f : Nat) : ∀ (z : Int), 0 ≤ z → z < wor (f + 1) → ∀ x ∈ vdf f z, 0 ≤ x ∧ x < 256 := by
  induction f with
  | zero => intro z h1 h2 x hx; simp [wor] at h2; simp [vdf] at hx; omega
  | succ f ih =>
    intro z h1 h2 x hx
    have hw : wor (f + 1 + 1) = 128 * wor (f + 1) := rfl
    simp only [vdf] at hx
    split at hx
    · simp at hx; omega
    · simp only [List.mem_cons] at hx
      rcases hx with hx | hx
      · omega
      · exact ih (z / 128) (by omega) (by omega) x hx

/-! What is read back -/
def val : List Int → Int
  | [] => 0
  | x :: l => x % 128 + 128 * val l

theorem val_nonneg : ∀ l, 0 ≤ val l
  | [] => by simp [val]
  | x :: l => by have := val_nonneg l; simp only [val]; omega
theorem val_snoc (l : List Int) (x : Int) : val (l ++ [x]) = val l + x % 128 * wor l.length := by
  induction l with
  | nil => simp [val, wor]
  | cons y l ih =>
    simp only [List.cons_append, val, ih, List.length_cons, wor]
    rw [Int.mul_add, ← Int.mul_assoc, ← Int.mul_assoc, Int.mul_comm (x % 128) 128, Int.add_assoc]
theorem val_lt (l : List Int) : val l < wor l.length := by
  induction l with
  | nil => simp [val, wor]
  | cons y l ih => simp only [val, List.length_cons, wor]; omega

/-- All bytes have 128 more. -/
def Hi (l : List Int) : Prop := ∀ x ∈ l, 128 ≤ x ∧ x < 256

/-- What is read of its digits is the number with these digits just if the last one is not nought, or alone. -/
theorem vdf_val (f : Nat) : ∀ (l : List Int) (x : Int), Hi l → 0 ≤ x → x < 128 → l.length ≤ f →
    (vdf f (val (l ++ [x])) = l ++ [x] ↔ (l = [] ∨ x ≠ 0)) := by
  induction f with
  | zero =>
    intro l x hl h1 h2 hf
    obtain rfl : l = [] := List.eq_nil_of_length_eq_zero (by omega)
    simp [val, vdf]
    omega
  | succ f ih =>
    intro l x hl h1 h2 hf
    cases l with
    | nil =>
      have e : x % 128 = x := by omega
      simp only [List.nil_append, val, vdf, e]
      rw [if_pos (by omega)]
      simp
    | cons y l =>
      have hy := hl y (by simp)
      have hl' : Hi l := fun u hu => hl u (by simp [hu])
      have hi := ih l x hl' h1 h2 (by simp at hf; omega)
      have hn := val_nonneg (l ++ [x])
      simp only [List.cons_append, val, vdf]
      have e2 : (y % 128 + 128 * val (l ++ [x])) / 128 = val (l ++ [x]) := by omega
      have e3 : 128 + (y % 128 + 128 * val (l ++ [x])) % 128 = y := by omega
      by_cases hx : x = 0
      · constructor
        · intro h
          exfalso
          split at h
          · simp at h
          · rw [e2, e3] at h
            injection h with _ h
            have := hi.1 h
            rcases this with h3 | h3
            · subst h3
              simp only [List.nil_append, val, hx] at *
              omega
            · exact h3 hx
        · intro h; simp at h; exact absurd hx h
      · have hpos : 1 ≤ val (l ++ [x]) := by
          rw [val_snoc]
          have := wor_pos l.length
          have h4 := val_nonneg l
          have e : x % 128 = x := by omega
          rw [e]
          have : 1 * 1 ≤ x * wor l.length := Int.mul_le_mul (by omega) this (by omega) (by omega)
          omega
        rw [if_neg (by omega), e2, e3]
        simp only [List.cons.injEq, true_and]
        rw [hi]
        simp [hx]

/-! Reading a number from the front of bytes -/
def MV2 : Int := 2000000000000
/-- Of some bytes read already (each with 128 more) and those that follow: the bytes of the number that ends first; none where it is no number's form. -/
def gvf : Nat → List Int → List Int → Option (List Int)
  | 0, _, _ => none
  | _ + 1, _, [] => none
  | f + 1, pre, x :: r => if 128 ≤ x then gvf f (pre ++ [x]) r else if val (pre ++ [x]) ≤ 2000000000000 ∧ (pre = [] ∨ x ≠ 0) then some (pre ++ [x]) else none
def gv (t : List Int) : Option (List Int) := gvf 6 [] t

theorem take_one (t : List Int) (k : Nat) (h : k < t.length) : t.take (k + 1) = t.take k ++ [t.getD k 0] := by
  rw [List.take_succ_eq_append_getElem h]; simp [List.getD, List.getElem?_eq_getElem h]
theorem drop_one (t : List Int) (k : Nat) (h : k < t.length) : t.drop k = t.getD k 0 :: t.drop (k + 1) := by
  rw [List.drop_eq_getElem_cons h]; simp [List.getD, List.getElem?_eq_getElem h]

theorem gvf_on {t : List Int} {k : Nat} (h : k < t.length) (h6 : k < 6) (hx : 128 ≤ t.getD k 0) :
    gvf (6 - k) (t.take k) (t.drop k) = gvf (6 - (k + 1)) (t.take (k + 1)) (t.drop (k + 1)) := by
  obtain ⟨f, hf⟩ : ∃ f, 6 - k = f + 1 := ⟨5 - k, by omega⟩
  have hf2 : 6 - (k + 1) = f := by omega
  rw [hf, hf2, drop_one t k h, take_one t k h]
  simp only [gvf]
  rw [if_pos hx]
theorem gvf_stop {t : List Int} {k : Nat} (h : k < t.length) (h6 : k < 6) (hx : t.getD k 0 < 128) :
    gvf (6 - k) (t.take k) (t.drop k) = if val (t.take (k + 1)) ≤ 2000000000000 ∧ (k = 0 ∨ t.getD k 0 ≠ 0) then some (t.take (k + 1)) else none := by
  obtain ⟨f, hf⟩ : ∃ f, 6 - k = f + 1 := ⟨5 - k, by omega⟩
  rw [hf, drop_one t k h, take_one t k h]
  simp only [gvf]
  rw [if_neg (by omega)]
  have e : (t.take k = []) ↔ k = 0 := by
    constructor
    · intro h2
      have hl : (t.take k).length = k := by simp; omega
      rw [h2] at hl
      simp at hl
      omega
    · intro h2; simp [h2]
  simp only [e]
theorem gvf_six {t : List Int} {k : Nat} (h6 : 6 ≤ k) : gvf (6 - k) (t.take k) (t.drop k) = none := by
  rw [show 6 - k = 0 by omega]; rfl
theorem gvf_end {t : List Int} {k : Nat} (h : t.length ≤ k) : gvf (6 - k) (t.take k) (t.drop k) = none := by
  rw [List.drop_eq_nil_of_le h]
  cases 6 - k <;> rfl

/-- Whether digits are a number's own: by holding its digits against them, or by the last one. -/
theorem form_iff {t : List Int} {k : Nat} (h : k < t.length) (hhi : Hi (t.take k)) (h0 : 0 ≤ t.getD k 0) (hx : t.getD k 0 < 128) :
    (vd (val (t.take (k + 1))) = t.take (k + 1)) ↔ (k < 6 ∧ (k = 0 ∨ t.getD k 0 ≠ 0)) := by
  rw [take_one t k h]
  have hl : (t.take k).length = k := by simp; omega
  by_cases h6 : k < 6
  · have := vdf_val 5 (t.take k) (t.getD k 0) hhi h0 hx (by omega)
    unfold vd
    rw [this]
    have e : (t.take k = []) ↔ k = 0 := by
      constructor
      · intro h2; rw [h2] at hl; simp at hl; omega
      · intro h2; simp [h2]
    rw [e]
    simp [h6]
  · constructor
    · intro h2
      have h3 := congrArg List.length h2
      have h4 := vdf_le 5 (val (t.take k ++ [t.getD k 0]))
      unfold vd at h3
      rw [h3] at h4
      simp only [List.length_append, hl, List.length_cons, List.length_nil] at h4
      omega
    · intro h2; omega

theorem vd_sep (k : Nat) (t : List Int) (h : k < t.length) (h6 : k < 7) (hhi : Hi (t.take k)) (h0 : 0 ≤ t.getD k 0) (hx : t.getD k 0 < 128) :
    gvf (6 - k) (t.take k) (t.drop k) = if val (t.take (k + 1)) ≤ 2000000000000 ∧ vd (val (t.take (k + 1))) = t.take (k + 1) then some (t.take (k + 1)) else none := by
  by_cases h5 : k < 6
  · rw [gvf_stop h h5 hx]
    have := form_iff h hhi h0 hx
    simp only [this, h5, true_and]
  · rw [gvf_six (by omega)]
    have := form_iff h hhi h0 hx
    rw [if_neg]
    intro ⟨_, h2⟩
    have := this.1 h2
    omega
theorem val_take (t : List Int) (k : Nat) (h : k < t.length) : val (t.take (k + 1)) = val (t.take k) + t.getD k 0 % 128 * wor k := by
  rw [take_one t k h, val_snoc]
  have hl : (t.take k).length = k := by simp; omega
  rw [hl]
theorem val_bd (t : List Int) (k : Nat) (h : k ≤ t.length) : 0 ≤ val (t.take k) ∧ val (t.take k) < wor k := by
  have hl : (t.take k).length = k := by simp; omega
  have := val_lt (t.take k)
  rw [hl] at this
  exact ⟨val_nonneg _, this⟩
theorem hi_take {t : List Int} {k : Nat} (h : k < t.length) (hhi : Hi (t.take k)) (hx : 128 ≤ t.getD k 0) (h2 : t.getD k 0 < 256) : Hi (t.take (k + 1)) := by
  rw [take_one t k h]
  intro x hm
  simp only [List.mem_append, List.mem_singleton] at hm
  rcases hm with hm | hm
  · exact hhi x hm
  · subst hm; exact ⟨hx, h2⟩
theorem wor_le {j k : Nat} (h : j ≤ k) : wor j ≤ wor k := by
  induction k with
  | zero => obtain rfl : j = 0 := by omega
            exact Int.le_refl _
  | succ k ih =>
    by_cases e : j = k + 1
    · subst e; exact Int.le_refl _
    · have := ih (by omega)
      have hp := wor_pos k
      have hw : wor (k + 1) = 128 * wor k := rfl
      omega
/-- A digit by its worth does not run over. -/
theorem digit_bd (b : Int) (k : Nat) (hk : k < 7) : 0 ≤ b % 128 * wor k ∧ b % 128 * wor k ≤ 562949953421311 := by
  have h1 := wor_pos k
  have h2 : wor k ≤ wor 6 := wor_le (by omega)
  have h3 : wor 6 = 4398046511104 := by simp [wor]
  have hb0 : 0 ≤ b % 128 := by omega
  have hb1 : b % 128 ≤ 127 := by omega
  refine ⟨Int.mul_nonneg hb0 (by omega), ?_⟩
  have := Int.mul_le_mul hb1 (show wor k ≤ 4398046511104 by omega) (by omega) (by omega)
  omega
theorem val_bd7 (t : List Int) (k : Nat) (h : k ≤ t.length) (hk : k < 8) : 0 ≤ val (t.take k) ∧ val (t.take k) ≤ 562949953421311 := by
  have h1 := val_bd t k h
  have h2 : wor k ≤ wor 7 := wor_le (by omega)
  have h3 : wor 7 = 562949953421312 := by simp [wor]
  omega
end Go.Proofs.Ythmekhhfihjclag.L1

namespace Go.Proofs.Ythmekhhfihjclag.L1
open Go.RowKit
set_option linter.unusedVariables false

theorem hide {p : Prop} (h : p) : Hid p := h
theorem unhide {p : Prop} (h : Hid p) : p := h
theorem ret_int {k : IntKind} {a b : Int} (h : a = b) : Ending.returned (.int k a) = .returned (.int k b) := by rw [h]
theorem addr_add (g i : Nat) : (⟨g, 0, none⟩ : Addr).add i = ⟨g, i, none⟩ := by unfold Addr.add; split <;> simp_all

/-- What a walk is told of a slice of integers that came in: it is nil; or it leads to a row of 'cap' cells, the numbers 'zs' (the first 'len' are its elements), each fitting its kind. -/
def IsRow (k : IntKind) (w : World) (a : Option Addr) (len cap : Nat) (zs : List Int) : Prop :=
  (a = none ∧ len = 0 ∧ cap = 0 ∧ zs = []) ∨
  ∃ x, a = some x ∧ len ≤ cap ∧ cap ≤ maxLen ∧ zs.length = cap ∧ (∀ i, i < zs.length → w.cell? (x.add i) = some (.int k (zs.getD i 0))) ∧ ∀ n ∈ zs, (Lit.int k n).wf = true
end Go.Proofs.Ythmekhhfihjclag.L1

namespace Go.Proofs.Ythmekhhfihjclag.L1
open Go.RowKit
set_option linter.unusedVariables false

theorem info_int : (Try.prog.info? 3).map (fun i => (i.zero, i.size, i.bytes)) = some (some (.int .i64 0), 1, 8) := by kernel_rfl

/-- A list of ints lies in memory from an address on. -/
def Sl (w : World) (a : Option Addr) (xs : List Int) : Prop := ∀ i, i < xs.length → ∃ b off, a = some ⟨b, off, none⟩ ∧ w.cell? ⟨b, off + i, none⟩ = some (.int .i64 (xs.getD i 0))

theorem blk_lt {w : World} {b o : Nat} {v : Value} (h : w.cell? ⟨b, o, none⟩ = some v) : b < w.heap.size := by
  by_cases hb : b < w.heap.size
  · exact hb
  · simp [World.cell?, Array.getElem?_eq_none (show w.heap.size ≤ b by omega)] at h
theorem Sl.below {w w' : World} {a : Option Addr} {xs : List Int} (h : Sl w a xs) (hb : Below w.heap.size w w') : Sl w' a xs := fun i hi => by
  obtain ⟨b, off, ha, hc⟩ := h i hi
  refine ⟨b, off, ha, ?_⟩
  rw [hb.cell (p := ⟨b, off + i, none⟩) (blk_lt hc)]
  exact hc
theorem Sl.at {w : World} {b off : Nat} {xs : List Int} (h : Sl w (some ⟨b, off, none⟩) xs) (i : Nat) (hi : i < xs.length) : w.cell? ⟨b, off + i, none⟩ = some (.int .i64 (xs.getD i 0)) := by
  obtain ⟨b', off', ha, hc⟩ := h i hi
  simp at ha
  obtain ⟨rfl, rfl⟩ := ha
  exact hc
theorem sl_of_own {w : World} {base g n cap : Nat} {xs : List Int} (h : w.ownsRow base 3 1 (.slice (some ⟨g, 0, none⟩) n cap) n (xs.map (Value.int .i64))) : Sl w (some ⟨g, 0, none⟩) xs := fun i hi => by
  have := h.cells (g := g) rfl i (.int .i64 (xs.getD i 0)) (by
    rw [List.getElem?_map, List.getElem?_eq_getElem hi]
    simp [List.getD, List.getElem?_eq_getElem hi])
  rw [addr_add] at this
  exact ⟨g, 0, rfl, by simpa using this⟩
theorem sl_of_row {w : World} {a : Option Addr} {len cap : Nat} {zs : List Int} (h : IsRow .i64 w a len cap zs) : Sl w a (zs.take len) ∧ (zs.take len).length = len ∧ len ≤ maxLen := by
  rcases h with ⟨rfl, rfl, rfl, rfl⟩ | ⟨x, rfl, hl, hm, hz, hc, _⟩
  · exact ⟨fun i hi => by simp at hi, by simp, by unfold maxLen; omega⟩
  · refine ⟨fun i hi => ?_, by simp; omega, by omega⟩
    have hi' : i < zs.length := by simp at hi; omega
    have hil : i < len := by simp at hi; omega
    have h0 := hc i hi'
    obtain ⟨b, off, spot⟩ := x
    have hspot : spot = none := by
      have h00 := hc 0 (by omega)
      simpa [Addr.add] using World.cell?_spot h00
    subst hspot
    refine ⟨b, off, rfl, ?_⟩
    have e : (⟨b, off, none⟩ : Addr).add i = ⟨b, off + i, none⟩ := by unfold Addr.add; split <;> simp_all
    rw [e] at h0
    rw [h0]
    simp [List.getD, hil]

theorem made_ints (n : Nat) : (madeCells (Value.int .i64 0).cells (n * 1)).toList = (List.replicate n (0 : Int)).map (Value.int .i64) := by
  rw [Nat.mul_one]
  show (madeCells #[Value.int .i64 0] n).toList = _
  rw [toList_madeCells_one]
  simp

/-- One round of the copy. -/
theorem copy_round {w wr : World} {xs ys : List Int} {m k : Nat} (hlt : k < m) (hm : xs.length = m) (hl : ys.length = m) (HX : ∀ j, j < k → ys.getD j 0 = xs.getD j 0)
    (hown : wr.ownsRow w.heap.size 3 1 (.slice (some ⟨w.heap.size, 0, none⟩) m m) m (ys.map (Value.int .i64))) (hb : Below w.heap.size w wr) :
    ∃ (k' : Nat) (ys' : List Int), k' ≤ m ∧ Value.int .i64 ((k : Int) + 1) = .int .i64 k' ∧ ys'.length = m ∧ Hid (∀ j, j < k' → ys'.getD j 0 = xs.getD j 0) ∧
      (wr.setCell ⟨w.heap.size, k, none⟩ (.int .i64 (xs.getD k 0))).ownsRow w.heap.size 3 1 (.slice (some ⟨w.heap.size, 0, none⟩) m m) m (ys'.map (Value.int .i64)) ∧ Below w.heap.size w (wr.setCell ⟨w.heap.size, k, none⟩ (.int .i64 (xs.getD k 0))) := by
  have hst := hown.stored k (.int .i64 (xs.getD k 0))
  have hb2 := hb.setCell (p := ⟨w.heap.size, k, none⟩) (Nat.le_refl _) (.int .i64 (xs.getD k 0))
  refine ⟨k + 1, ys.set k (xs.getD k 0), by omega, by simp, by simpa using hl, ?_, by rw [List.map_set]; exact hst.1, hb2⟩
  intro j hj
  by_cases e : j = k
  · subst e
    simp [List.getD, hl, hlt]
  · rw [← HX j (by omega)]
    simp [List.getD, Ne.symm e]
theorem list_same {xs ys : List Int} {m : Nat} (h1 : xs.length = m) (h2 : ys.length = m) (h : ∀ j, j < m → ys.getD j 0 = xs.getD j 0) : ys = xs := by
  apply List.ext_getElem?
  intro j
  by_cases hj : j < m
  · have h := h j hj
    simp only [List.getD, List.getElem?_eq_getElem (show j < ys.length by omega), List.getElem?_eq_getElem (show j < xs.length by omega), Option.getD_some] at h
    rw [List.getElem?_eq_getElem (show j < ys.length by omega), List.getElem?_eq_getElem (show j < xs.length by omega), h]
  · rw [List.getElem?_eq_none (by omega), List.getElem?_eq_none (by omega)]

/-- A list that is owned, as a value. -/
theorem own_form {w : World} {base n : Nat} {v : Value} {xs : List Int} (h : w.ownsRow base 3 1 v n (xs.map (Value.int .i64))) : ∃ a cap, v = .slice a n cap ∧ Sl w a xs ∧ xs.length = n := by
  have hl := h.1
  simp at hl
  rcases h.2 with ⟨hv, h0⟩ | ⟨g, cap, cur, hv, _⟩
  · subst h0
    exact ⟨none, 0, hv, fun i hi => by omega, hl⟩
  · subst hv
    exact ⟨_, cap, rfl, sl_of_own h, hl⟩
/-- What is owned stays so while nothing that is there turns. -/
theorem own_below {w w' : World} {base n : Nat} {v : Value} {ys : List Value} (h : w.ownsRow base 3 1 v n ys) (hb : Below w.heap.size w w') : w'.ownsRow base 3 1 v n ys := by
  refine ⟨h.1, ?_⟩
  rcases h.2 with h0 | ⟨g, cap, cur, rfl, hbg, hg, r⟩
  · exact .inl h0
  · exact .inr ⟨g, cap, cur, rfl, hbg, by rw [hb.block g (Array.getElem?_eq_some_iff.1 hg).1]; exact hg, r⟩
theorem own_ge {w : World} {base n g cap : Nat} {xs : List Value} (h : w.ownsRow base 3 1 (.slice (some ⟨g, 0, none⟩) n cap) n xs) : base ≤ g := (h.lt g rfl).1

/-- A list that a call hands back, in new memory, and whether there is one. -/
def RetL (w : World) (r : Option (List Int)) (e : Ending) (w' : World) : Prop :=
  ∃ v, e = .returned (.tuple #[v, .bool r.isSome]) ∧ w'.ownsRow w.heap.size 3 1 v (r.getD []).length ((r.getD []).map (Value.int .i64)) ∧ Below w.heap.size w w'
end Go.Proofs.Ythmekhhfihjclag.L1

namespace Go.Proofs.Ythmekhhfihjclag.Own
open Go.RowKit L1
set_option linter.unusedVariables false

abbrev nilV : Value := .slice none 0 0
def InS (S : Nat → Prop) (v : Value) : Prop := ∀ q, v.ownBlock = some q → S q
structure Kept (S : Nat → Prop) (w w' : World) : Prop where
  os : w'.os = w.os
  tape : w'.tape = w.tape
  output : w'.output = w.output
  size : w.heap.size ≤ w'.heap.size
  block : ∀ q, q < w.heap.size → ¬ S q → w'.heap[q]? = w.heap[q]?
theorem Kept.refl (S : Nat → Prop) (w : World) : Kept S w w := ⟨rfl, rfl, rfl, Nat.le_refl _, fun _ _ _ => rfl⟩
theorem Kept.trans {S T : Nat → Prop} {a b c : World} (h : Kept S a b) (k : Kept T b c) (hT : ∀ q, q < a.heap.size → T q → S q) : Kept S a c :=
  ⟨k.os.trans h.os, k.tape.trans h.tape, k.output.trans h.output, Nat.le_trans h.size k.size, fun q hq hn => (k.block q (by have := h.size; omega) (fun t => hn (hT q hq t))).trans (h.block q hq hn)⟩
theorem kept_below {S : Nat → Prop} {w w' : World} (h : Below w.heap.size w w') : Kept S w w' := ⟨h.os, h.tape, h.output, h.size, fun q hq _ => h.block q hq⟩
theorem kept_grown {S : Nat → Prop} {w w' : World} {row : Option Nat} (h : w.grownBy w' row) (hr : ∀ q, row = some q → S q) : Kept S w w' :=
  ⟨h.os, h.tape, h.output, h.size, fun q hq hn => h.block q hq (fun e => hn (hr q e.symm))⟩
theorem Kept.set {S : Nat → Prop} {w w1 : World} (h : Kept S w w1) (p : Addr) (v : Value) (hp : S p.block ∨ w.heap.size ≤ p.block) : Kept S w (w1.setCell p v) := by
  have h0 := (Below.refl 0 w1).setCell (p := p) (Nat.zero_le _) v
  refine ⟨h0.os.trans h.os, h0.tape.trans h.tape, h0.output.trans h.output, Nat.le_trans h.size h0.size, fun q hq hn => ?_⟩
  have hne : q ≠ p.block := fun e => by
    subst e
    rcases hp with hp | hp
    · exact hn hp
    · omega
  exact (Below.heap_setCell _ _ _ _ hne).trans (h.block q hq hn)
/-- What was kept and what is new. -/
def Grow (S : Nat → Prop) (w w' : World) (q : Nat) : Prop := S q ∨ (w.heap.size ≤ q ∧ q < w'.heap.size)
theorem grow_lt {S : Nat → Prop} {w w' : World} (hS : ∀ q, S q → q < w.heap.size) (h : w.heap.size ≤ w'.heap.size) : ∀ q, Grow S w w' q → q < w'.heap.size := fun q hq => by
  rcases hq with hq | hq
  · have := hS q hq; omega
  · exact hq.2
theorem own_at {w w' : World} {base c n : Nat} {t : TypeId} {v : Value} {xs : List Value} (h : w.ownsRow base t c v n xs) (hb : ∀ q, v.ownBlock = some q → w'.heap[q]? = w.heap[q]?) : w'.ownsRow base t c v n xs := by
  refine ⟨h.1, ?_⟩
  rcases h.2 with h0 | ⟨g, cap, cur, hv, hg, hh, rest⟩
  · exact .inl h0
  · exact .inr ⟨g, cap, cur, hv, hg, by rw [hb g (by rw [hv]; rfl)]; exact hh, rest⟩
theorem own_ltO {w : World} {base c n : Nat} {t : TypeId} {v : Value} {xs : List Value} (h : w.ownsRow base t c v n xs) (q : Nat) (hq : v.ownBlock = some q) : q < w.heap.size := by
  rcases h.2 with ⟨hv, _⟩ | ⟨g, cap, cur, hv, hg, hh, rest⟩
  · rw [hv] at hq; cases hq
  · rw [hv] at hq
    cases hq
    exact (Array.getElem?_eq_some_iff.1 hh).1
theorem own_zero {w : World} {base c n : Nat} {t : TypeId} {v : Value} {xs : List Value} (h : w.ownsRow base t c v n xs) : w.ownsRow 0 t c v n xs := by
  refine ⟨h.1, ?_⟩
  rcases h.2 with h0 | ⟨g, cap, cur, hv, _, r⟩
  · exact .inl h0
  · exact .inr ⟨g, cap, cur, hv, Nat.zero_le _, r⟩
theorem own_from {w : World} {base c n : Nat} {t : TypeId} {v : Value} {xs : List Value} (h : w.ownsRow 0 t c v n xs) (hb : ∀ q, v.ownBlock = some q → base ≤ q) : w.ownsRow base t c v n xs := by
  refine ⟨h.1, ?_⟩
  rcases h.2 with h0 | ⟨g, cap, cur, hv, _, r⟩
  · exact .inl h0
  · exact .inr ⟨g, cap, cur, hv, hb g (by rw [hv]; rfl), r⟩
theorem own_ge {w : World} {base c n : Nat} {t : TypeId} {v : Value} {xs : List Value} (h : w.ownsRow base t c v n xs) (q : Nat) (hq : v.ownBlock = some q) : base ≤ q := by
  rcases h.2 with ⟨hv, _⟩ | ⟨g, cap, cur, hv, hg, hh, rest⟩
  · rw [hv] at hq; cases hq
  · rw [hv] at hq
    cases hq
    exact hg

theorem grow_refl {S : Nat → Prop} {w : World} {q : Nat} (h : S q) : Grow S w w q := .inl h
theorem own_belO {w w' : World} {base n : Nat} {t : TypeId} {c : Nat} {v : Value} {ys : List Value} (h : w.ownsRow base t c v n ys) (hb : Below w.heap.size w w') : w'.ownsRow base t c v n ys := own_at h fun q hq => hb.block q (own_ltO h q hq)
theorem own_setO {w : World} {base n c : Nat} {t : TypeId} {v : Value} {ys : List Value} (h : w.ownsRow base t c v n ys) (p : Addr) (u : Value) (hp : p.block < base) : (w.setCell p u).ownsRow base t c v n ys :=
  own_at h fun q hq => Below.heap_setCell _ _ _ _ (fun e => by have := own_ge h q hq; have e' : q = p.block := e; omega)
theorem own_pastO {w w' : World} {base c n : Nat} {t : TypeId} {v u : Value} {xs : List Value} (ho : w.ownsRow base t c v n xs) (hg : w.grownBy w' u.ownBlock) (hq : ∀ q, v.ownBlock = some q → u.ownBlock ≠ some q) : w'.ownsRow base t c v n xs := own_at ho fun q e => hg.block q (own_ltO ho q e) (fun e2 => hq q e e2.symm)
theorem own_twoO {w : World} {b1 b2 n1 n2 c1 c2 : Nat} {t1 t2 : TypeId} {v1 v2 : Value} {y1 y2 : List Value} (h1 : w.ownsRow b1 t1 c1 v1 n1 y1) (h2 : w.ownsRow b2 t2 c2 v2 n2 y2) (ht : t1 ≠ t2) (g : Nat) (e1 : v1.ownBlock = some g) : v2.ownBlock ≠ some g := fun e2 => by
  rcases h1.2 with ⟨hv, _⟩ | ⟨q1, cap1, cur1, hv1, _, hh1, _⟩
  · rw [hv] at e1; cases e1
  · rcases h2.2 with ⟨hv, _⟩ | ⟨q2, cap2, cur2, hv2, _, hh2, _⟩
    · rw [hv] at e2; cases e2
    · rw [hv1] at e1
      rw [hv2] at e2
      have e1' : q1 = g := Option.some.inj e1
      have e2' : q2 = g := Option.some.inj e2
      rw [e1'] at hh1
      rw [e2', hh1] at hh2
      simp at hh2
      exact ht hh2.2
theorem own_boxO {w : World} {base n c : Nat} {t tb : TypeId} {v : Value} {ys : List Value} {b : Nat} {cur : Array Value} (h : w.ownsRow base t c v n ys) (hb : w.heap[b]? = some (.cells cur tb (0, 0))) (ht : tb ≠ t) : v.ownBlock ≠ some b := fun e => by
  rcases h.2 with ⟨hv, _⟩ | ⟨q1, cap1, cur1, hv1, _, hh1, _⟩
  · rw [hv] at e; cases e
  · rw [hv1] at e
    have e' : q1 = b := Option.some.inj e
    rw [e', hb] at hh1
    simp at hh1
    exact ht hh1.2
theorem own_shapeO {w : World} {base c n : Nat} {t : TypeId} {v : Value} {xs : List Value} (h : w.ownsRow base t c v n xs) : ∃ a cap, v = .slice a n cap := by
  rcases h.2 with ⟨hv, h0⟩ | ⟨g, cap, cur, hv, _⟩
  · exact ⟨none, 0, by rw [hv, h0]⟩
  · exact ⟨_, cap, hv⟩
theorem blk_ltO {w : World} {p : Addr} {v : Value} (h : w.cell? p = some v) : p.block < w.heap.size := by
  by_cases hb : p.block < w.heap.size
  · exact hb
  · simp [World.cell?, Array.getElem?_eq_none (show w.heap.size ≤ p.block by omega)] at h
theorem blk_newO (w : World) (o : Obj) : (w.alloc o).heap[w.heap.size]? = some o := by
  show (w.heap.push o)[w.heap.size]? = some o
  simp
theorem heap_boxO {w : World} {b : Nat} {cur : Array Value} {t : TypeId} (h : w.heap[b]? = some (.cells cur t (0, 0))) (j : Nat) (u : Value) : (w.setCell ⟨b, j, none⟩ u).heap[b]? = some (.cells (cur.setIfInBounds j u) t (0, 0)) := heap_setCell_same w b j cur t u h
theorem frzO {w : World} {b : Nat} {cur : Array Value} {t : TypeId} (h : w.heap[b]? = some (.cells cur t (0, 0))) (i : Nat) : w.frozen? ⟨b, i, none⟩ = false := by
  simp [World.frozen?, h]
theorem blk5 {w : World} {b : Nat} {c0 c1 c2 c3 c4 : Value} {t : TypeId} (h : w.heap[b]? = some (.cells #[c0, c1, c2, c3, c4] t (0, 0))) : w.cell? ⟨b, 0, none⟩ = some c0 ∧ w.cell? ⟨b, 1, none⟩ = some c1 ∧ w.cell? ⟨b, 2, none⟩ = some c2 ∧ w.cell? ⟨b, 3, none⟩ = some c3 ∧ w.cell? ⟨b, 4, none⟩ = some c4 := by
  simp [World.cell?, h]
theorem bel_keptO {S : Nat → Prop} {w1 w2 w3 : World} (h : Below w1.heap.size w1 w2) (k : Kept S w2 w3) (hS : ∀ q, S q → w1.heap.size ≤ q) : Below w1.heap.size w1 w3 :=
  ⟨k.os.trans h.os, k.tape.trans h.tape, k.output.trans h.output, Nat.le_trans h.size k.size, fun q hq => (k.block q (by have := h.size; omega) (fun s => by have := hS q s; omega)).trans (h.block q hq)⟩
end Go.Proofs.Ythmekhhfihjclag.Own

namespace Go.Proofs.Ythmekhhfihjclag.Str
open Go.RowKit L1
set_option linter.unusedVariables false

theorem info_strS : (Try.prog.info? 9).map (fun i => (i.zero, i.size, i.bytes)) = some (some (.string ByteArray.empty), 1, 16) := by kernel_rfl
abbrev e0 : ByteArray := ByteArray.empty
/-- A list of texts lies in memory. -/
def SlS (w : World) (a : Option Addr) (xs : List ByteArray) : Prop := ∀ i, i < xs.length → ∃ b off, a = some ⟨b, off, none⟩ ∧ w.cell? ⟨b, off + i, none⟩ = some (.string (xs.getD i e0))
theorem SlS.below {w w' : World} {a : Option Addr} {xs : List ByteArray} (h : SlS w a xs) (hb : Below w.heap.size w w') : SlS w' a xs := fun i hi => by
  obtain ⟨b, off, ha, hc⟩ := h i hi
  exact ⟨b, off, ha, (hb.cell (p := ⟨b, off + i, none⟩) (blk_lt hc)).trans hc⟩
abbrev mapS (xs : List ByteArray) : List Value := xs.map Value.string
theorem mapS_get (xs : List ByteArray) (i : Nat) (h : i < xs.length) : (mapS xs)[i]? = some (.string (xs.getD i e0)) := by
  rw [List.getElem?_map, List.getElem?_eq_getElem h]
  simp [List.getD, List.getElem?_eq_getElem h]
theorem mapS_len (xs : List ByteArray) : (mapS xs).length = xs.length := by simp
theorem mapS_set (xs : List ByteArray) (j : Nat) (x : ByteArray) : mapS (xs.set j x) = (mapS xs).set j (.string x) := by simp [List.map_set]
theorem mapS_one (xs : List ByteArray) : ∀ u ∈ mapS xs, u.oneCell' = true := fun u hu => by
  obtain ⟨x, _, rfl⟩ := List.mem_map.1 hu
  rfl
theorem own_formS {w : World} {base n : Nat} {v : Value} {xs : List ByteArray} (h : w.ownsRow base 9 1 v n (mapS xs)) : ∃ a cap, v = .slice a n cap ∧ SlS w a xs ∧ xs.length = n := by
  have hl := h.1
  simp at hl
  rcases h.2 with ⟨hv, h0⟩ | ⟨g, cap, cur, hv, _⟩
  · subst h0
    exact ⟨none, 0, hv, fun i hi => by omega, hl⟩
  · subst hv
    refine ⟨_, cap, rfl, fun i hi => ?_, hl⟩
    have := h.cells (g := g) rfl i _ (mapS_get xs i hi)
    rw [addr_add] at this
    exact ⟨g, 0, rfl, by simpa using this⟩
theorem own_slS {w : World} {base n cap : Nat} {a : Option Addr} {xs : List ByteArray} (h : w.ownsRow base 9 1 (.slice a n cap) n (mapS xs)) : SlS w a xs := by
  obtain ⟨b, q, e, s, _⟩ := own_formS h
  cases e
  exact s
theorem own_belowS {w w' : World} {base n : Nat} {t : TypeId} {c : Nat} {v : Value} {ys : List Value} (h : w.ownsRow base t c v n ys) (hb : Below w.heap.size w w') : w'.ownsRow base t c v n ys := by
  refine ⟨h.1, ?_⟩
  rcases h.2 with h0 | ⟨g, cap, cur, rfl, hbg, hg, r⟩
  · exact .inl h0
  · exact .inr ⟨g, cap, cur, rfl, hbg, by rw [hb.block g (Array.getElem?_eq_some_iff.1 hg).1]; exact hg, r⟩
theorem own_baseS {w : World} {b c n size : Nat} {e : TypeId} {v : Value} {xs : List Value} (h : w.ownsRow c e size v n xs) (hbc : b ≤ c) : w.ownsRow b e size v n xs := by
  refine ⟨h.1, ?_⟩
  rcases h.2 with h0 | ⟨g, cap, cur, hv, hg, r⟩
  · exact .inl h0
  · exact .inr ⟨g, cap, cur, hv, Nat.le_trans hbc hg, r⟩
theorem list_sameS {xs ys : List ByteArray} {n : Nat} (h1 : xs.length = n) (h2 : ys.length = n) (h : ∀ t, t < n → ys.getD t e0 = xs.getD t e0) : ys = xs := by
  apply List.ext_getElem (by omega)
  intro i hi1 hi2
  have := h i (by omega)
  simp [List.getD, List.getElem?_eq_getElem hi1, List.getElem?_eq_getElem hi2] at this
  exact this
def TxS (l : List ByteArray) : Prop := ∀ j, j < l.length → (l.getD j e0).size ≤ 9223372036854775807
/-- What a walk is told of a slice of texts that came in. -/
def IsRowS (w : World) (a : Option Addr) (len : Nat) (l : List ByteArray) : Prop := (l.length = len ∧ len ≤ maxLen ∧ SlS w a l) ∧ TxS l
open Classical in
theorem rowS_of {w : World} {a : Addr} {len cap : Nat} (hl : len ≤ cap) (hm : cap ≤ maxLen) (h : ∀ i, i < len → ∃ p : ByteArray, w.cell? (a.add i) = some (.string p) ∧ p.size ≤ maxLen) : ∃ l, IsRowS w (some a) len l := by
  have hc : ∃ f : Nat → ByteArray, ∀ i, i < len → w.cell? (a.add i) = some (.string (f i)) ∧ (f i).size ≤ maxLen := by
    refine ⟨fun i => if hi : i < len then Classical.choose (h i hi) else e0, fun i hi => ?_⟩
    simp only [dif_pos hi]
    exact Classical.choose_spec (h i hi)
  obtain ⟨f, hf⟩ := hc
  have hg : ∀ i, i < len → ((List.range len).map f).getD i e0 = f i := fun i hi' => by simp [List.getD, hi']
  refine ⟨(List.range len).map f, ⟨by simp, Nat.le_trans hl hm, fun i hi => ?_⟩, fun j hj => ?_⟩
  · have hi' : i < len := by simpa using hi
    obtain ⟨b, off, spot⟩ := a
    have hspot : spot = none := by
      have h00 := (hf 0 (by omega)).1
      have := World.cell?_spot h00
      simpa [Addr.add] using this
    subst hspot
    have e0 : ∀ j, (⟨b, off, none⟩ : Addr).add j = ⟨b, off + j, none⟩ := fun j => by unfold Addr.add; split <;> simp_all
    have := (hf i hi').1
    rw [e0] at this
    rw [hg i hi']
    exact ⟨b, off, rfl, this⟩
  · have hj' : j < len := by simpa using hj
    rw [hg j hj']
    have := (hf j hj').2
    unfold maxLen at this
    omega
theorem made_S (n : Nat) : (madeCells (Value.string ByteArray.empty).cells (n * 1)).toList = mapS (List.replicate n e0) := by
  apply List.ext_getElem?
  intro j
  by_cases hj : j < n
  · rw [mapS_get _ _ (by simpa using hj)]
    simp only [madeCells, Value.cells, Array.toList_map, Array.toList_range, List.getElem?_map]
    rw [List.getElem?_range (by omega)]
    have hg : (List.replicate n e0).getD j e0 = e0 := by simp [List.getD, hj]
    rw [hg]
    simp [Nat.mod_one]
  · rw [List.getElem?_eq_none (by simp [size_madeCells]; omega), List.getElem?_eq_none (by simp; omega)]
/-- The lengths of all texts. -/
def szsS : List ByteArray → Nat
  | [] => 0
  | p :: l => p.size + szsS l
theorem szsS_append : ∀ l m : List ByteArray, szsS (l ++ m) = szsS l + szsS m
  | [], m => by simp [szsS]
  | p :: l, m => by simp [szsS, szsS_append l m]; omega
theorem szsS_take (l : List ByteArray) (k : Nat) (hk : k < l.length) : szsS (l.take (k + 1)) = szsS (l.take k) + (l.getD k e0).size := by
  rw [List.take_succ_eq_append_getElem hk, szsS_append]
  simp [szsS, List.getD, List.getElem?_eq_getElem hk]
theorem szsS_le (l : List ByteArray) (k : Nat) : szsS (l.take k) ≤ szsS l := by
  have h : l = l.take k ++ l.drop k := (List.take_append_drop k l).symm
  have := szsS_append (l.take k) (l.drop k)
  rw [← h] at this
  omega
theorem szsS_get : ∀ (l : List ByteArray) (k : Nat), k < l.length → (l.getD k e0).size ≤ szsS l
  | [], k, h => by simp at h
  | p :: l, 0, _ => by simp [szsS]
  | p :: l, k + 1, h => by
    have := szsS_get l k (by simpa using h)
    simp only [List.getD_cons_succ, szsS]
    omega
/-- What a list weighs. -/
def wtS (l : List ByteArray) : Nat := l.length + szsS l
end Go.Proofs.Ythmekhhfihjclag.Str

namespace Go.Proofs.Ythmekhhfihjclag.Str
open Go.RowKit L1
set_option linter.unusedVariables false

/-- A list of lists of texts lies in memory from an address on. -/
def SlSS (w : World) (a : Option Addr) (ls : List (List ByteArray)) : Prop := ∀ i, i < ls.length → ∃ b off, a = some ⟨b, off, none⟩ ∧ ∃ ai ci, w.cell? ⟨b, off + i, none⟩ = some (.slice ai (ls.getD i []).length ci) ∧ SlS w ai (ls.getD i [])
theorem SlSS.below {w w' : World} {a : Option Addr} {xs : List (List ByteArray)} (h : SlSS w a xs) (hb : Below w.heap.size w w') : SlSS w' a xs := fun i hi => by
  obtain ⟨b, off, ha, ai, ci, hc, hs⟩ := h i hi
  exact ⟨b, off, ha, ai, ci, (hb.cell (p := ⟨b, off + i, none⟩) (blk_lt hc)).trans hc, hs.below hb⟩
theorem add_atS (b off i : Nat) : (⟨b, off, none⟩ : Addr).add i = ⟨b, off + i, none⟩ := by unfold Addr.add; split <;> simp_all
/-- Texts and lists are no longer than a machine's. -/
def TxSS (ls : List (List ByteArray)) : Prop := ∀ i, i < ls.length → (ls.getD i []).length ≤ 9223372036854775807 ∧ TxS (ls.getD i [])
/-- What a walk is told of a slice of slices of texts that came in. -/
def IsRowSS (w : World) (a : Option Addr) (len : Nat) (ls : List (List ByteArray)) : Prop := (ls.length = len ∧ len ≤ maxLen ∧ SlSS w a ls) ∧ TxSS ls
open Classical in
theorem rowSS_of {w : World} {a : Addr} {len cap : Nat} (hl : len ≤ cap) (hm : cap ≤ maxLen) (h : ∀ i, i < len → ∃ (l : List ByteArray) (ai : Option Addr) (ci : Nat), w.cell? (a.add i) = some (.slice ai l.length ci) ∧ IsRowS w ai l.length l) : ∃ ls, IsRowSS w (some a) len ls := by
  obtain ⟨f, hf⟩ : ∃ f : Nat → List ByteArray, ∀ i, i < len → ∃ ai ci, w.cell? (a.add i) = some (.slice ai (f i).length ci) ∧ IsRowS w ai (f i).length (f i) := by
    refine ⟨fun i => if hi : i < len then Classical.choose (h i hi) else [], fun i hi => ?_⟩
    simp only [dif_pos hi]
    exact Classical.choose_spec (h i hi)
  have hg : ∀ i, i < len → ((List.range len).map f).getD i [] = f i := fun i hi => by simp [List.getD, hi]
  refine ⟨(List.range len).map f, ⟨by simp, Nat.le_trans hl hm, fun i hi => ?_⟩, fun i hi => ?_⟩
  · have hi' : i < len := by simpa using hi
    obtain ⟨b, off, spot⟩ := a
    have hspot : spot = none := by
      obtain ⟨_, _, h00, _⟩ := hf 0 (by omega)
      have := World.cell?_spot h00
      simpa [Addr.add] using this
    subst hspot
    obtain ⟨ai, ci, h1, h2⟩ := hf i hi'
    rw [add_atS] at h1
    rw [hg i hi']
    exact ⟨b, off, rfl, ai, ci, h1, h2.1.2.2⟩
  · have hi' : i < len := by simpa using hi
    obtain ⟨ai, ci, h1, h2⟩ := hf i hi'
    rw [hg i hi']
    have := h2.1.2.1
    unfold maxLen at this
    exact ⟨by omega, h2.2⟩
end Go.Proofs.Ythmekhhfihjclag.Str

namespace Go.Proofs.Ythmekhhfihjclag.Nte
open Go.RowKit L1
set_option linter.unusedVariables false

abbrev Nt := Bool × Int × Int × ByteArray
abbrev e4 : Nt := (false, 0, 0, ByteArray.empty)
def Sl4 (w : World) (a : Option Addr) (l : List Nt) : Prop := ∀ i, i < l.length → ∃ b off, a = some ⟨b, off, none⟩ ∧ w.cell? ⟨b, off + i * 4, none⟩ = some (.bool (l.getD i e4).1) ∧ w.cell? ⟨b, off + i * 4 + 1, none⟩ = some (.int .i64 (l.getD i e4).2.1) ∧ w.cell? ⟨b, off + i * 4 + 2, none⟩ = some (.int .i64 (l.getD i e4).2.2.1) ∧ w.cell? ⟨b, off + i * 4 + 3, none⟩ = some (.string (l.getD i e4).2.2.2)
theorem Sl4.below {w w' : World} {a : Option Addr} {xs : List Nt} (h : Sl4 w a xs) (hb : Below w.heap.size w w') : Sl4 w' a xs := fun i hi => by
  obtain ⟨b, off, ha, hc, hd, he, hf⟩ := h i hi
  exact ⟨b, off, ha, (hb.cell (p := ⟨b, off + i * 4, none⟩) (blk_lt hc)).trans hc, (hb.cell (p := ⟨b, off + i * 4 + 1, none⟩) (blk_lt hd)).trans hd, (hb.cell (p := ⟨b, off + i * 4 + 2, none⟩) (blk_lt he)).trans he, (hb.cell (p := ⟨b, off + i * 4 + 3, none⟩) (blk_lt hf)).trans hf⟩
def Tx4 (l : List Nt) : Prop := ∀ j, j < l.length → (l.getD j e4).2.2.2.size ≤ 9223372036854775807
/-- What a walk is told of a slice that came in. -/
def IsRow4 (w : World) (a : Option Addr) (len : Nat) (l : List Nt) : Prop := (l.length = len ∧ len ≤ maxLen ∧ Sl4 w a l) ∧ Tx4 l
open Classical in
theorem row4_of {w : World} {a : Addr} {len cap : Nat} (hl : len ≤ cap) (hm : cap ≤ maxLen) (h : ∀ i, i < len → ∃ p : Nt, (w.cell? (a.add (i * 4)) = some (.bool p.1) ∧ w.cell? (a.add (i * 4 + 1)) = some (.int .i64 p.2.1) ∧ w.cell? (a.add (i * 4 + 2)) = some (.int .i64 p.2.2.1) ∧ w.cell? (a.add (i * 4 + 3)) = some (.string p.2.2.2)) ∧ p.2.2.2.size ≤ maxLen) : ∃ l, IsRow4 w (some a) len l := by
  have hc : ∃ f : Nat → Nt, ∀ i, i < len → (w.cell? (a.add (i * 4)) = some (.bool (f i).1) ∧ w.cell? (a.add (i * 4 + 1)) = some (.int .i64 (f i).2.1) ∧ w.cell? (a.add (i * 4 + 2)) = some (.int .i64 (f i).2.2.1) ∧ w.cell? (a.add (i * 4 + 3)) = some (.string (f i).2.2.2)) ∧ (f i).2.2.2.size ≤ maxLen := by
    refine ⟨fun i => if hi : i < len then Classical.choose (h i hi) else e4, fun i hi => ?_⟩
    simp only [dif_pos hi]
    exact Classical.choose_spec (h i hi)
  obtain ⟨f, hf⟩ := hc
  have hg : ∀ i, i < len → ((List.range len).map f).getD i e4 = f i := fun i hi' => by simp [List.getD, hi']
  refine ⟨(List.range len).map f, ⟨by simp, Nat.le_trans hl hm, fun i hi => ?_⟩, fun j hj => ?_⟩
  · have hi' : i < len := by simpa using hi
    obtain ⟨b, off, spot⟩ := a
    have hspot : spot = none := by
      have h00 := (hf 0 (by omega)).1.1
      have := World.cell?_spot h00
      simpa [Addr.add] using this
    subst hspot
    have e0 : ∀ j, (⟨b, off, none⟩ : Addr).add j = ⟨b, off + j, none⟩ := fun j => by unfold Addr.add; split <;> simp_all
    have := (hf i hi').1
    rw [e0, e0, e0, e0] at this
    rw [hg i hi']
    exact ⟨b, off, rfl, this.1, this.2.1, this.2.2.1, this.2.2.2⟩
  · have hj' : j < len := by simpa using hj
    rw [hg j hj']
    have := (hf j hj').2
    unfold maxLen at this
    omega
/-- The cells, one behind the other. -/
def flat4 : List Nt → List Value
  | [] => []
  | p :: l => .bool p.1 :: .int .i64 p.2.1 :: .int .i64 p.2.2.1 :: .string p.2.2.2 :: flat4 l
theorem flat4_len : ∀ l : List Nt, (flat4 l).length = l.length * 4
  | [] => rfl
  | p :: l => by simp [flat4, flat4_len l]; omega
theorem flat4_get : ∀ (l : List Nt) (i : Nat), i < l.length → (flat4 l)[i * 4]? = some (.bool (l.getD i e4).1) ∧ (flat4 l)[i * 4 + 1]? = some (.int .i64 (l.getD i e4).2.1) ∧ (flat4 l)[i * 4 + 2]? = some (.int .i64 (l.getD i e4).2.2.1) ∧ (flat4 l)[i * 4 + 3]? = some (.string (l.getD i e4).2.2.2)
  | [], i, h => by simp at h
  | p :: l, 0, _ => ⟨rfl, rfl, rfl, rfl⟩
  | p :: l, i + 1, h => by
    have := flat4_get l i (by simpa using h)
    have e1 : (i + 1) * 4 = i * 4 + 1 + 1 + 1 + 1 := by omega
    rw [e1]
    simpa only [flat4, List.getElem?_cons_succ, List.getD_cons_succ] using this
theorem flat4_append (l m : List Nt) : flat4 (l ++ m) = flat4 l ++ flat4 m := by
  induction l with
  | nil => rfl
  | cons p l ih => simp [flat4, ih]
theorem flat4_one (l : List Nt) : ∀ u ∈ flat4 l, u.oneCell' = true := by
  induction l with
  | nil => intro u hu; cases hu
  | cons p l ih =>
    intro u hu
    simp only [flat4, List.mem_cons] at hu
    rcases hu with rfl | rfl | rfl | rfl | hu
    · rfl
    · rfl
    · rfl
    · rfl
    · exact ih u hu
theorem flat4_set : ∀ (l : List Nt) (i : Nat) (p : Nt), flat4 (l.set i p) = ((((flat4 l).set (i * 4) (.bool p.1)).set (i * 4 + 1) (.int .i64 p.2.1)).set (i * 4 + 2) (.int .i64 p.2.2.1)).set (i * 4 + 3) (.string p.2.2.2)
  | [], _, _ => rfl
  | q :: l, 0, p => rfl
  | q :: l, i + 1, p => by
    have := flat4_set l i p
    have e1 : (i + 1) * 4 = i * 4 + 1 + 1 + 1 + 1 := by omega
    rw [e1]
    simp only [List.set_cons_succ, flat4, this]
theorem own_form4 {w : World} {base n : Nat} {t : TypeId} {v : Value} {l : List Nt} (h : w.ownsRow base t 4 v n (flat4 l)) : ∃ a cap, v = .slice a n cap ∧ Sl4 w a l ∧ l.length = n := by
  have hl := h.1
  rw [flat4_len] at hl
  have hl' : l.length = n := by omega
  rcases h.2 with ⟨hv, h0⟩ | ⟨g, cap, cur, hv, _⟩
  · subst h0
    exact ⟨none, 0, hv, fun i hi => by omega, hl'⟩
  · subst hv
    refine ⟨_, cap, rfl, fun i hi => ?_, hl'⟩
    have hf := flat4_get l i hi
    have h1 := h.cells (g := g) rfl (i * 4) _ hf.1
    have h2 := h.cells (g := g) rfl (i * 4 + 1) _ hf.2.1
    have h3 := h.cells (g := g) rfl (i * 4 + 2) _ hf.2.2.1
    have h4 := h.cells (g := g) rfl (i * 4 + 3) _ hf.2.2.2
    rw [addr_add] at h1 h2 h3 h4
    exact ⟨g, 0, rfl, by simpa using h1, by simpa using h2, by simpa using h3, by simpa using h4⟩
theorem own_sl4 {w : World} {base n cap : Nat} {t : TypeId} {a : Option Addr} {l : List Nt} (h : w.ownsRow base t 4 (.slice a n cap) n (flat4 l)) : Sl4 w a l := by
  obtain ⟨b, q, e, s, _⟩ := own_form4 h
  cases e
  exact s
theorem own_below4 {w w' : World} {base n : Nat} {t : TypeId} {c : Nat} {v : Value} {ys : List Value} (h : w.ownsRow base t c v n ys) (hb : Below w.heap.size w w') : w'.ownsRow base t c v n ys := by
  refine ⟨h.1, ?_⟩
  rcases h.2 with h0 | ⟨g, cap, cur, rfl, hbg, hg, r⟩
  · exact .inl h0
  · exact .inr ⟨g, cap, cur, rfl, hbg, by rw [hb.block g (Array.getElem?_eq_some_iff.1 hg).1]; exact hg, r⟩
theorem list_same4 {xs ys : List Nt} {m : Nat} (h1 : xs.length = m) (h2 : ys.length = m) (h : ∀ j, j < m → ys.getD j e4 = xs.getD j e4) : ys = xs := by
  apply List.ext_getElem?
  intro j
  by_cases hj : j < m
  · have h := h j hj
    simp only [List.getD, List.getElem?_eq_getElem (show j < ys.length by omega), List.getElem?_eq_getElem (show j < xs.length by omega), Option.getD_some] at h
    rw [List.getElem?_eq_getElem (show j < ys.length by omega), List.getElem?_eq_getElem (show j < xs.length by omega), h]
  · rw [List.getElem?_eq_none (by omega), List.getElem?_eq_none (by omega)]
theorem made_4 (n : Nat) : (madeCells (Value.agg #[.bool false, .int .i64 0, .int .i64 0, .string ByteArray.empty]).cells (n * 4)).toList = flat4 (List.replicate n e4) := by
  apply List.ext_getElem?
  intro j
  by_cases hj : j < n * 4
  · have hi : j / 4 < (List.replicate n e4).length := by simp; omega
    have hf := flat4_get (List.replicate n e4) (j / 4) hi
    have hg : (List.replicate n e4).getD (j / 4) e4 = e4 := by
      simp [List.getD, List.getElem?_replicate]; split <;> rfl
    rw [hg] at hf
    have hm : (madeCells (Value.agg #[.bool false, .int .i64 0, .int .i64 0, .string ByteArray.empty]).cells (n * 4)).toList[j]? = some (if j % 4 = 0 then .bool false else if j % 4 = 3 then .string ByteArray.empty else .int .i64 0) := by
      simp only [madeCells, Value.cells, Array.toList_map, Array.toList_range, List.getElem?_map]
      rw [List.getElem?_range hj]
      simp only [Option.map_some, List.size_toArray, List.length_cons, List.length_nil]
      have h01 : j % 4 = 0 ∨ j % 4 = 1 ∨ j % 4 = 2 ∨ j % 4 = 3 := by omega
      rcases h01 with h | h | h | h <;> simp [h]
    rw [hm]
    have h01 : j % 4 = 0 ∨ j % 4 = 1 ∨ j % 4 = 2 ∨ j % 4 = 3 := by omega
    rcases h01 with h | h | h | h
    · rw [if_pos h, show j = j / 4 * 4 by omega]; exact hf.1.symm
    · rw [if_neg (by omega), if_neg (by omega), show j = j / 4 * 4 + 1 by omega]; exact hf.2.1.symm
    · rw [if_neg (by omega), if_neg (by omega), show j = j / 4 * 4 + 2 by omega]; exact hf.2.2.1.symm
    · rw [if_neg (by omega), if_pos h, show j = j / 4 * 4 + 3 by omega]; exact hf.2.2.2.symm
  · rw [List.getElem?_eq_none (by simp [size_madeCells]; omega), List.getElem?_eq_none (by rw [flat4_len]; simp; omega)]
/-- The lengths of all texts. -/
def szs4 : List Nt → Nat
  | [] => 0
  | p :: l => p.2.2.2.size + szs4 l
theorem szs4_append : ∀ l m : List Nt, szs4 (l ++ m) = szs4 l + szs4 m
  | [], m => by simp [szs4]
  | p :: l, m => by simp [szs4, szs4_append l m]; omega
theorem szs4_take (l : List Nt) (k : Nat) (hk : k < l.length) : szs4 (l.take (k + 1)) = szs4 (l.take k) + (l.getD k e4).2.2.2.size := by
  rw [List.take_succ_eq_append_getElem hk, szs4_append]
  simp [szs4, List.getD, List.getElem?_eq_getElem hk]
theorem szs4_le (l : List Nt) (k : Nat) : szs4 (l.take k) ≤ szs4 l := by
  have h : l = l.take k ++ l.drop k := (List.take_append_drop k l).symm
  have := szs4_append (l.take k) (l.drop k)
  rw [← h] at this
  omega
theorem szs4_get : ∀ (l : List Nt) (k : Nat), k < l.length → (l.getD k e4).2.2.2.size ≤ szs4 l
  | [], k, h => by simp at h
  | p :: l, 0, _ => by simp [szs4]
  | p :: l, k + 1, h => by
    have := szs4_get l k (by simpa using h)
    simp only [List.getD_cons_succ, szs4]
    omega
/-- What a list weighs. -/
def wt4 (l : List Nt) : Nat := l.length + szs4 l
end Go.Proofs.Ythmekhhfihjclag.Nte

namespace Go.Proofs.Ythmekhhfihjclag.Tri
open Go.RowKit L1
set_option linter.unusedVariables false
abbrev Tr := Int × Int × ByteArray
abbrev e3 : Tr := (0, 0, ByteArray.empty)
def Sl3 (w : World) (a : Option Addr) (l : List Tr) : Prop := ∀ i, i < l.length → ∃ b off, a = some ⟨b, off, none⟩ ∧ w.cell? ⟨b, off + i * 3, none⟩ = some (.int .i64 (l.getD i e3).1) ∧ w.cell? ⟨b, off + i * 3 + 1, none⟩ = some (.int .i64 (l.getD i e3).2.1) ∧ w.cell? ⟨b, off + i * 3 + 2, none⟩ = some (.string (l.getD i e3).2.2)
theorem Sl3.below {w w' : World} {a : Option Addr} {xs : List Tr} (h : Sl3 w a xs) (hb : Below w.heap.size w w') : Sl3 w' a xs := fun i hi => by
  obtain ⟨b, off, ha, hc, hd, he⟩ := h i hi
  exact ⟨b, off, ha, (hb.cell (p := ⟨b, off + i * 3, none⟩) (blk_lt hc)).trans hc, (hb.cell (p := ⟨b, off + i * 3 + 1, none⟩) (blk_lt hd)).trans hd, (hb.cell (p := ⟨b, off + i * 3 + 2, none⟩) (blk_lt he)).trans he⟩
def Tx3 (l : List Tr) : Prop := ∀ j, j < l.length → (l.getD j e3).2.2.size ≤ 9223372036854775807
/-- What a walk is told of a slice that came in. -/
def IsRow3 (w : World) (a : Option Addr) (len : Nat) (l : List Tr) : Prop := (l.length = len ∧ len ≤ maxLen ∧ Sl3 w a l) ∧ Tx3 l
open Classical in
theorem row3_of {w : World} {a : Addr} {len cap : Nat} (hl : len ≤ cap) (hm : cap ≤ maxLen) (h : ∀ i, i < len → ∃ p : Tr, (w.cell? (a.add (i * 3)) = some (.int .i64 p.1) ∧ w.cell? (a.add (i * 3 + 1)) = some (.int .i64 p.2.1) ∧ w.cell? (a.add (i * 3 + 2)) = some (.string p.2.2)) ∧ p.2.2.size ≤ maxLen) : ∃ l, IsRow3 w (some a) len l := by
  have hc : ∃ f : Nat → Tr, ∀ i, i < len → (w.cell? (a.add (i * 3)) = some (.int .i64 (f i).1) ∧ w.cell? (a.add (i * 3 + 1)) = some (.int .i64 (f i).2.1) ∧ w.cell? (a.add (i * 3 + 2)) = some (.string (f i).2.2)) ∧ (f i).2.2.size ≤ maxLen := by
    refine ⟨fun i => if hi : i < len then Classical.choose (h i hi) else e3, fun i hi => ?_⟩
    simp only [dif_pos hi]
    exact Classical.choose_spec (h i hi)
  obtain ⟨f, hf⟩ := hc
  have hg : ∀ i, i < len → ((List.range len).map f).getD i e3 = f i := fun i hi' => by simp [List.getD, hi']
  refine ⟨(List.range len).map f, ⟨by simp, Nat.le_trans hl hm, fun i hi => ?_⟩, fun j hj => ?_⟩
  · have hi' : i < len := by simpa using hi
    obtain ⟨b, off, spot⟩ := a
    have hspot : spot = none := by
      have h00 := (hf 0 (by omega)).1.1
      have := World.cell?_spot h00
      simpa [Addr.add] using this
    subst hspot
    have e0 : ∀ j, (⟨b, off, none⟩ : Addr).add j = ⟨b, off + j, none⟩ := fun j => by unfold Addr.add; split <;> simp_all
    have := (hf i hi').1
    rw [e0, e0, e0] at this
    rw [hg i hi']
    exact ⟨b, off, rfl, this.1, this.2.1, this.2.2⟩
  · have hj' : j < len := by simpa using hj
    rw [hg j hj']
    have := (hf j hj').2
    unfold maxLen at this
    omega
/-- The cells, one behind the other. -/
def flat3 : List Tr → List Value
  | [] => []
  | p :: l => .int .i64 p.1 :: .int .i64 p.2.1 :: .string p.2.2 :: flat3 l
theorem flat3_len : ∀ l : List Tr, (flat3 l).length = l.length * 3
  | [] => rfl
  | p :: l => by simp [flat3, flat3_len l]; omega
theorem flat3_get : ∀ (l : List Tr) (i : Nat), i < l.length → (flat3 l)[i * 3]? = some (.int .i64 (l.getD i e3).1) ∧ (flat3 l)[i * 3 + 1]? = some (.int .i64 (l.getD i e3).2.1) ∧ (flat3 l)[i * 3 + 2]? = some (.string (l.getD i e3).2.2)
  | [], i, h => by simp at h
  | p :: l, 0, _ => ⟨rfl, rfl, rfl⟩
  | p :: l, i + 1, h => by
    have := flat3_get l i (by simpa using h)
    have e1 : (i + 1) * 3 = i * 3 + 1 + 1 + 1 := by omega
    rw [e1]
    simpa only [flat3, List.getElem?_cons_succ, List.getD_cons_succ] using this
theorem flat3_append (l m : List Tr) : flat3 (l ++ m) = flat3 l ++ flat3 m := by
  induction l with
  | nil => rfl
  | cons p l ih => simp [flat3, ih]
theorem flat3_one (l : List Tr) : ∀ u ∈ flat3 l, u.oneCell' = true := by
  induction l with
  | nil => intro u hu; cases hu
  | cons p l ih =>
    intro u hu
    simp only [flat3, List.mem_cons] at hu
    rcases hu with rfl | rfl | rfl | hu
    · rfl
    · rfl
    · rfl
    · exact ih u hu
theorem flat3_set : ∀ (l : List Tr) (i : Nat) (p : Tr), flat3 (l.set i p) = (((flat3 l).set (i * 3) (.int .i64 p.1)).set (i * 3 + 1) (.int .i64 p.2.1)).set (i * 3 + 2) (.string p.2.2)
  | [], _, _ => rfl
  | q :: l, 0, p => rfl
  | q :: l, i + 1, p => by
    have := flat3_set l i p
    have e1 : (i + 1) * 3 = i * 3 + 1 + 1 + 1 := by omega
    rw [e1]
    simp only [List.set_cons_succ, flat3, this]
theorem own_form3 {w : World} {base n : Nat} {t : TypeId} {v : Value} {l : List Tr} (h : w.ownsRow base t 3 v n (flat3 l)) : ∃ a cap, v = .slice a n cap ∧ Sl3 w a l ∧ l.length = n := by
  have hl := h.1
  rw [flat3_len] at hl
  have hl' : l.length = n := by omega
  rcases h.2 with ⟨hv, h0⟩ | ⟨g, cap, cur, hv, _⟩
  · subst h0
    exact ⟨none, 0, hv, fun i hi => by omega, hl'⟩
  · subst hv
    refine ⟨_, cap, rfl, fun i hi => ?_, hl'⟩
    have hf := flat3_get l i hi
    have h1 := h.cells (g := g) rfl (i * 3) _ hf.1
    have h2 := h.cells (g := g) rfl (i * 3 + 1) _ hf.2.1
    have h3 := h.cells (g := g) rfl (i * 3 + 2) _ hf.2.2
    rw [addr_add] at h1 h2 h3
    exact ⟨g, 0, rfl, by simpa using h1, by simpa using h2, by simpa using h3⟩
theorem own_sl3 {w : World} {base n cap : Nat} {t : TypeId} {a : Option Addr} {l : List Tr} (h : w.ownsRow base t 3 (.slice a n cap) n (flat3 l)) : Sl3 w a l := by
  obtain ⟨b, q, e, s, _⟩ := own_form3 h
  cases e
  exact s
theorem own_below3 {w w' : World} {base n : Nat} {t : TypeId} {c : Nat} {v : Value} {ys : List Value} (h : w.ownsRow base t c v n ys) (hb : Below w.heap.size w w') : w'.ownsRow base t c v n ys := by
  refine ⟨h.1, ?_⟩
  rcases h.2 with h0 | ⟨g, cap, cur, rfl, hbg, hg, r⟩
  · exact .inl h0
  · exact .inr ⟨g, cap, cur, rfl, hbg, by rw [hb.block g (Array.getElem?_eq_some_iff.1 hg).1]; exact hg, r⟩
theorem list_same3 {xs ys : List Tr} {m : Nat} (h1 : xs.length = m) (h2 : ys.length = m) (h : ∀ j, j < m → ys.getD j e3 = xs.getD j e3) : ys = xs := by
  apply List.ext_getElem?
  intro j
  by_cases hj : j < m
  · have h := h j hj
    simp only [List.getD, List.getElem?_eq_getElem (show j < ys.length by omega), List.getElem?_eq_getElem (show j < xs.length by omega), Option.getD_some] at h
    rw [List.getElem?_eq_getElem (show j < ys.length by omega), List.getElem?_eq_getElem (show j < xs.length by omega), h]
  · rw [List.getElem?_eq_none (by omega), List.getElem?_eq_none (by omega)]
theorem made_3 (n : Nat) : (madeCells (Value.agg #[.int .i64 0, .int .i64 0, .string ByteArray.empty]).cells (n * 3)).toList = flat3 (List.replicate n e3) := by
  apply List.ext_getElem?
  intro j
  by_cases hj : j < n * 3
  · have hi : j / 3 < (List.replicate n e3).length := by simp; omega
    have hf := flat3_get (List.replicate n e3) (j / 3) hi
    have hg : (List.replicate n e3).getD (j / 3) e3 = e3 := by
      simp [List.getD, List.getElem?_replicate]; split <;> rfl
    rw [hg] at hf
    have hm : (madeCells (Value.agg #[.int .i64 0, .int .i64 0, .string ByteArray.empty]).cells (n * 3)).toList[j]? = some (if j % 3 = 2 then .string ByteArray.empty else .int .i64 0) := by
      simp only [madeCells, Value.cells, Array.toList_map, Array.toList_range, List.getElem?_map]
      rw [List.getElem?_range hj]
      simp only [Option.map_some, List.size_toArray, List.length_cons, List.length_nil]
      have h01 : j % 3 = 0 ∨ j % 3 = 1 ∨ j % 3 = 2 := by omega
      rcases h01 with h | h | h <;> simp [h]
    rw [hm]
    have h01 : j % 3 = 0 ∨ j % 3 = 1 ∨ j % 3 = 2 := by omega
    rcases h01 with h | h | h
    · rw [if_neg (by omega), show j = j / 3 * 3 by omega]; exact hf.1.symm
    · rw [if_neg (by omega), show j = j / 3 * 3 + 1 by omega]; exact hf.2.1.symm
    · rw [if_pos h, show j = j / 3 * 3 + 2 by omega]; exact hf.2.2.symm
  · rw [List.getElem?_eq_none (by simp [size_madeCells]; omega), List.getElem?_eq_none (by rw [flat3_len]; simp; omega)]
/-- The lengths of all texts. -/
def szs3 : List Tr → Nat
  | [] => 0
  | p :: l => p.2.2.size + szs3 l
theorem szs3_append : ∀ l m : List Tr, szs3 (l ++ m) = szs3 l + szs3 m
  | [], m => by simp [szs3]
  | p :: l, m => by simp [szs3, szs3_append l m]; omega
theorem szs3_take (l : List Tr) (k : Nat) (hk : k < l.length) : szs3 (l.take (k + 1)) = szs3 (l.take k) + (l.getD k e3).2.2.size := by
  rw [List.take_succ_eq_append_getElem hk, szs3_append]
  simp [szs3, List.getD, List.getElem?_eq_getElem hk]
theorem szs3_le (l : List Tr) (k : Nat) : szs3 (l.take k) ≤ szs3 l := by
  have h : l = l.take k ++ l.drop k := (List.take_append_drop k l).symm
  have := szs3_append (l.take k) (l.drop k)
  rw [← h] at this
  omega
theorem szs3_get : ∀ (l : List Tr) (k : Nat), k < l.length → (l.getD k e3).2.2.size ≤ szs3 l
  | [], k, h => by simp at h
  | p :: l, 0, _ => by simp [szs3]
  | p :: l, k + 1, h => by
    have := szs3_get l k (by simpa using h)
    simp only [List.getD_cons_succ, szs3]
    omega
/-- What a list weighs. -/
def wt3 (l : List Tr) : Nat := l.length + szs3 l
end Go.Proofs.Ythmekhhfihjclag.Tri
