/-
  Plain mathematics of chapter 1: a number's digits to 128, their count, and how they are read back. Nothing of Go stands here.
  Small lemmas that the contracts of chapter 1 share. Nothing of the program's text is proved here but closed facts on its types.
  Lists of ints in memory. Nothing of the program's text is proved here but closed facts on its types.
  Lists of texts in memory. Nothing of the program's text is proved here but closed facts on its types.
  Plain mathematics of chapter 4: rising lists of ints, leaps, what is met, taken off and joined. Nothing of Go stands here.
  Small facts on lists of ints that chapter 4's contracts and walks share. Nothing of the program's text is proved here but closed facts on its types.
  Rows of memory: cells of structs one behind the other, blocks that are two, what stays where some blocks are written into. Nothing of the program's text is proved here.
  Rows that are owned, footprints, what is kept: lemmas on worlds. Nothing of the program's text is proved here.
-/
import Derived.KernelRfl
import Derived.Test.YticgejaaoamhmaoChecked
import Derived.WalkKit
import Derived.ProofKit
import Derived.OpenShut
import Derived.Laws.BytesArg
import Derived.WalkSpells
import Derived.WalkLawsBesides
import Derived.Maps.AppendAt
namespace Go.Proofs.Yticgejaaoamhmao.L1

def zig (n : Int) : Int := if n < 0 then -2 * n - 1 else 2 * n
def zag (z : Int) : Int := if z % 2 = 1 then -((z + 1) / 2) else z / 2

theorem zag_zig (n : Int) : zag (zig n) = n := by unfold zag zig; split <;> split <;> omega
theorem zig_zag (z : Int) (h : 0 ≤ z) : zig (zag z) = z := by unfold zag zig; split <;> split <;> omega
theorem zig_lo (n : Int) : 0 ≤ zig n := by unfold zig; split <;> omega
theorem zig_hi (n : Int) (h1 : -1000000000000 ≤ n) (h2 : n ≤ 1000000000000) : zig n ≤ 2000000000000 := by unfold zig; split <;> omega
theorem zag_lo (z : Int) (h : 0 ≤ z) (h2 : z ≤ 2000000000000) : -1000000000000 ≤ zag z ∧ zag z ≤ 1000000000000 := by unfold zag; split <;> omega

/-- The worth of the k-th digit. -/
def wor : Nat → Int
  | 0 => 1
  | k + 1 => 128 * wor k
theorem wor_pos (k : Nat) : 1 ≤ wor k := by
  induction k with
  | zero => simp [wor]
  | succ k ih => simp only [wor]; omega

/-- The digits to 128, the lowest first, all but the last with 128 more. -/
def vdf : Nat → Int → List Int
  | 0, z => [z]
  | f + 1, z => if z < 128 then [z] else (128 + z % 128) :: vdf f (z / 128)
def vd (z : Int) : List Int := vdf 5 z

theorem vdf_pos (f : Nat) (z : Int) : 1 ≤ (vdf f z).length := by
  cases f with
  | zero => simp [vdf]
  | succ f => simp only [vdf]; split <;> simp
theorem vdf_le (f : Nat) (z : Int) : (vdf f z).length ≤ f + 1 := by
  induction f generalizing z with
  | zero => simp [vdf]
  | succ f ih =>
    simp only [vdf]; split
    · simp
    · have := ih (z / 128); simp; omega

/-- How many digits there are: one more where the number is not less than the next one's worth. -/
theorem vdf_len (f : Nat) : ∀ (z : Int) (k : Nat), 0 ≤ z → 1 ≤ k → (k < (vdf f z).length ↔ k ≤ f ∧ wor k ≤ z) := by
  induction f with
  | zero => intro z k hz hk; simp [vdf]; omega
  | succ f ih =>
    intro z k hz hk
    obtain ⟨k, rfl⟩ : ∃ j, k = j + 1 := ⟨k - 1, by omega⟩
    have hw : wor (k + 1) = 128 * wor k := rfl
    have hp := wor_pos k
    simp only [vdf]
    split
    · simp; omega
    · rename_i hlt
      cases k with
      | zero => have := vdf_pos f (z / 128); simp [wor]; omega
      | succ j =>
        have h := ih (z / 128) (j + 1) (by omega) (by omega)
        simp only [List.length_cons]
        constructor
        · intro h2; have := h.1 (by omega); omega
        · intro h2; have := h.2 (by omega); omega

/-- Each digit by its worth. -/
theorem vdf_get (f : Nat) : ∀ (z : Int) (k : Nat), 0 ≤ z → z < wor (f + 1) → k < (vdf f z).length →
    (vdf f z).getD k 0 = z / wor k % 128 + (if k + 1 < (vdf f z).length then 128 else 0) := by
  induction f with
  | zero =>
    intro z k hz hz2 hk
    simp [vdf] at hk
    subst hk
    simp [wor] at hz2
    simp [vdf, wor]
    omega
  | succ f ih =>
    intro z k hz hz2 hk
    have hw : wor (f + 1 + 1) = 128 * wor (f + 1) := rfl
    by_cases hlt : z < 128
    · simp only [vdf, if_pos hlt] at hk ⊢
      simp at hk
      subst hk
      simp [wor]
      omega
    · simp only [vdf, if_neg hlt] at hk ⊢
      cases k with
      | zero =>
        have := vdf_pos f (z / 128)
        simp [wor]
        rw [if_pos (by omega)]
        omega
      | succ k =>
        simp only [List.length_cons] at hk ⊢
        have h := ih (z / 128) k (by omega) (by omega) (by omega)
        have e : z / wor (k + 1) = z / 128 / wor k := by
          show z / (128 * wor k) = _
          rw [Int.ediv_ediv_of_nonneg (by omega)]
        simp only [List.getD_cons_succ, h, e]
        congr 1
        by_cases h2 : k + 1 < (vdf f (z / 128)).length
        · rw [if_pos h2, if_pos (by omega)]
        · rw [if_neg h2, if_neg (by omega)]

theorem vdf_byte (f : Nat) : ∀ (z : Int), 0 ≤ z → z < wor (f + 1) → ∀ x ∈ vdf f z, 0 ≤ x ∧ x < 256 := by
  induction f with
  | zero => intro z h1 h2 x hx; simp [wor] at h2; simp [vdf] at hx; omega
  | succ f ih =>
    intro z h1 h2 x hx
    have hw : wor (f + 1 + 1) = 128 * wor (f + 1) := rfl
    simp only [vdf] at hx
    split at hx
    · simp at hx; omega
    · simp only [List.mem_cons] at hx
      rcases hx with hx | hx
      · omega
      · exact ih (z / 128) (by omega) (by omega) x hx

/-! What is read back -/
def val : List Int → Int
  | [] => 0
  | x :: l => x % 128 + 128 * val l

theorem val_nonneg : ∀ l, 0 ≤ val l
  | [] => by simp [val]
  | x :: l => by have := val_nonneg l; simp only [val]; omega
theorem val_snoc (l : List Int) (x : Int) : val (l ++ [x]) = val l + x % 128 * wor l.length := by
  induction l with
  | nil => simp [val, wor]
  | cons y l ih =>
    simp only [List.cons_append, val, ih, List.length_cons, wor]
    rw [Int.mul_add, ← Int.mul_assoc, ← Int.mul_assoc, Int.mul_comm (x % 128) 128, Int.add_assoc]
theorem val_lt (l : List Int) : val l < wor l.length := by
  induction l with
  | nil => simp [val, wor]
  | cons y l ih => simp only [val, List.length_cons, wor]; omega

/-- All bytes have 128 more. -/
def Hi (l : List Int) : Prop := ∀ x ∈ l, 128 ≤ x ∧ x < 256

/-- What is read of its digits is the number with these digits just if the last one is not nought, or alone. -/
theorem vdf_val (f : Nat) : ∀ (l : List Int) (x : Int), Hi l → 0 ≤ x → x < 128 → l.length ≤ f →
    (vdf f (val (l ++ [x])) = l ++ [x] ↔ (l = [] ∨ x ≠ 0)) := by
  induction f with
  | zero =>
    intro l x hl h1 h2 hf
    obtain rfl : l = [] := List.eq_nil_of_length_eq_zero (by omega)
    simp [val, vdf]
    omega
  | succ f ih =>
    intro l x hl h1 h2 hf
    cases l with
    | nil =>
      have e : x % 128 = x := by omega
      simp only [List.nil_append, val, vdf, e]
      rw [if_pos (by omega)]
      simp
    | cons y l =>
      have hy := hl y (by simp)
      have hl' : Hi l := fun u hu => hl u (by simp [hu])
      have hi := ih l x hl' h1 h2 (by simp at hf; omega)
      have hn := val_nonneg (l ++ [x])
      simp only [List.cons_append, val, vdf]
      have e2 : (y % 128 + 128 * val (l ++ [x])) / 128 = val (l ++ [x]) := by omega
      have e3 : 128 + (y % 128 + 128 * val (l ++ [x])) % 128 = y := by omega
      by_cases hx : x = 0
      · constructor
        · intro h
          exfalso
          split at h
          · simp at h
          · rw [e2, e3] at h
            injection h with _ h
            have := hi.1 h
            rcases this with h3 | h3
            · subst h3
              simp only [List.nil_append, val, hx] at *
              omega
            · exact h3 hx
        · intro h; simp at h; exact absurd hx h
      · have hpos : 1 ≤ val (l ++ [x]) := by
          rw [val_snoc]
          have := wor_pos l.length
          have h4 := val_nonneg l
          have e : x % 128 = x := by omega
          rw [e]
          have : 1 * 1 ≤ x * wor l.length := Int.mul_le_mul (by omega) this (by omega) (by omega)
          omega
        rw [if_neg (by omega), e2, e3]
        simp only [List.cons.injEq, true_and]
        rw [hi]
        simp [hx]

/-! Reading a number from the front of bytes -/
def MV2 : Int := 2000000000000
/-- Of some bytes read already (each with 128 more) and those that follow: the bytes of the number that ends first; none where it is no number's form. -/
def gvf : Nat → List Int → List Int → Option (List Int)
  | 0, _, _ => none
  | _ + 1, _, [] => none
  | f + 1, pre, x :: r => if 128 ≤ x then gvf f (pre ++ [x]) r else if val (pre ++ [x]) ≤ 2000000000000 ∧ (pre = [] ∨ x ≠ 0) then some (pre ++ [x]) else none
def gv (t : List Int) : Option (List Int) := gvf 6 [] t

theorem take_one (t : List Int) (k : Nat) (h : k < t.length) : t.take (k + 1) = t.take k ++ [t.getD k 0] := by
  rw [List.take_succ_eq_append_getElem h]; simp [List.getD, List.getElem?_eq_getElem h]
theorem drop_one (t : List Int) (k : Nat) (h : k < t.length) : t.drop k = t.getD k 0 :: t.drop (k + 1) := by
  rw [List.drop_eq_getElem_cons h]; simp [List.getD, List.getElem?_eq_getElem h]

theorem gvf_on {t : List Int} {k : Nat} (h : k < t.length) (h6 : k < 6) (hx : 128 ≤ t.getD k 0) :
    gvf (6 - k) (t.take k) (t.drop k) = gvf (6 - (k + 1)) (t.take (k + 1)) (t.drop (k + 1)) := by
  obtain ⟨f, hf⟩ : ∃ f, 6 - k = f + 1 := ⟨5 - k, by omega⟩
  have hf2 : 6 - (k + 1) = f := by omega
  rw [hf, hf2, drop_one t k h, take_one t k h]
  simp only [gvf]
  rw [if_pos hx]
theorem gvf_stop {t : List Int} {k : Nat} (h : k < t.length) (h6 : k < 6) (hx : t.getD k 0 < 128) :
    gvf (6 - k) (t.take k) (t.drop k) = if val (t.take (k + 1)) ≤ 2000000000000 ∧ (k = 0 ∨ t.getD k 0 ≠ 0) then some (t.take (k + 1)) else none := by
  obtain ⟨f, hf⟩ : ∃ f, 6 - k = f + 1 := ⟨5 - k, by omega⟩
  rw [hf, drop_one t k h, take_one t k h]
  simp only [gvf]
  rw [if_neg (by omega)]
  have e : (t.take k = []) ↔ k = 0 := by
    constructor
    · intro h2
      have hl : (t.take k).length = k := by simp; omega
      rw [h2] at hl
      simp at hl
      omega
    · intro h2; simp [h2]
  simp only [e]
theorem gvf_six {t : List Int} {k : Nat} (h6 : 6 ≤ k) : gvf (6 - k) (t.take k) (t.drop k) = none := by
  rw [show 6 - k = 0 by omega]; rfl
theorem gvf_end {t : List Int} {k : Nat} (h : t.length ≤ k) : gvf (6 - k) (t.take k) (t.drop k) = none := by
  rw [List.drop_eq_nil_of_le h]
  cases 6 - k <;> rfl

/-- Whether digits are a number's own: by holding its digits against them, or by the last one. -/
theorem form_iff {t : List Int} {k : Nat} (h : k < t.length) (hhi : Hi (t.take k)) (h0 : 0 ≤ t.getD k 0) (hx : t.getD k 0 < 128) :
    (vd (val (t.take (k + 1))) = t.take (k + 1)) ↔ (k < 6 ∧ (k = 0 ∨ t.getD k 0 ≠ 0)) := by
  rw [take_one t k h]
  have hl : (t.take k).length = k := by simp; omega
  by_cases h6 : k < 6
  · have := vdf_val 5 (t.take k) (t.getD k 0) hhi h0 hx (by omega)
    unfold vd
    rw [this]
    have e : (t.take k = []) ↔ k = 0 := by
      constructor
      · intro h2; rw [h2] at hl; simp at hl; omega
      · intro h2; simp [h2]
    rw [e]
    simp [h6]
  · constructor
    · intro h2
      have h3 := congrArg List.length h2
      have h4 := vdf_le 5 (val (t.take k ++ [t.getD k 0]))
      unfold vd at h3
      rw [h3] at h4
      simp only [List.length_append, hl, List.length_cons, List.length_nil] at h4
      omega
    · intro h2; omega

theorem vd_sep (k : Nat) (t : List Int) (h : k < t.length) (h6 : k < 7) (hhi : Hi (t.take k)) (h0 : 0 ≤ t.getD k 0) (hx : t.getD k 0 < 128) :
    gvf (6 - k) (t.take k) (t.drop k) = if val (t.take (k + 1)) ≤ 2000000000000 ∧ vd (val (t.take (k + 1))) = t.take (k + 1) then some (t.take (k + 1)) else none := by
  by_cases h5 : k < 6
  · rw [gvf_stop h h5 hx]
    have := form_iff h hhi h0 hx
    simp only [this, h5, true_and]
  · rw [gvf_six (by omega)]
    have := form_iff h hhi h0 hx
    rw [if_neg]
    intro ⟨_, h2⟩
    have := this.1 h2
    omega
theorem val_take (t : List Int) (k : Nat) (h : k < t.length) : val (t.take (k + 1)) = val (t.take k) + t.getD k 0 % 128 * wor k := by
  rw [take_one t k h, val_snoc]
  have hl : (t.take k).length = k := by simp; omega
  rw [hl]
theorem val_bd (t : List Int) (k : Nat) (h : k ≤ t.length) : 0 ≤ val (t.take k) ∧ val (t.take k) < wor k := by
  have hl : (t.take k).length = k := by simp; omega
  have := val_lt (t.take k)
  rw [hl] at this
  exact ⟨val_nonneg _, this⟩
theorem hi_take {t : List Int} {k : Nat} (h : k < t.length) (hhi : Hi (t.take k)) (hx : 128 ≤ t.getD k 0) (h2 : t.getD k 0 < 256) : Hi (t.take (k + 1)) := by
  rw [take_one t k h]
  intro x hm
  simp only [List.mem_append, List.mem_singleton] at hm
  rcases hm with hm | hm
  · exact hhi x hm
  · subst hm; exact ⟨hx, h2⟩
theorem wor_le {j k : Nat} (h : j ≤ k) : wor j ≤ wor k := by
  induction k with
  | zero => obtain rfl : j = 0 := by omega
            exact Int.le_refl _
  | succ k ih =>
    by_cases e : j = k + 1
    · subst e; exact Int.le_refl _
    · have := ih (by omega)
      have hp := wor_pos k
      have hw : wor (k + 1) = 128 * wor k := rfl
      omega
/-- A digit by its worth does not run over. -/
theorem digit_bd (b : Int) (k : Nat) (hk : k < 7) : 0 ≤ b % 128 * wor k ∧ b % 128 * wor k ≤ 562949953421311 := by
  have h1 := wor_pos k
  have h2 : wor k ≤ wor 6 := wor_le (by omega)
  have h3 : wor 6 = 4398046511104 := by simp [wor]
  have hb0 : 0 ≤ b % 128 := by omega
  have hb1 : b % 128 ≤ 127 := by omega
  refine ⟨Int.mul_nonneg hb0 (by omega), ?_⟩
  have := Int.mul_le_mul hb1 (show wor k ≤ 4398046511104 by omega) (by omega) (by omega)
  omega
theorem val_bd7 (t : List Int) (k : Nat) (h : k ≤ t.length) (hk : k < 8) : 0 ≤ val (t.take k) ∧ val (t.take k) ≤ 562949953421311 := by
  have h1 := val_bd t k h
  have h2 : wor k ≤ wor 7 := wor_le (by omega)
  have h3 : wor 7 = 562949953421312 := by simp [wor]
  omega
end Go.Proofs.Yticgejaaoamhmao.L1

namespace Go.Proofs.Yticgejaaoamhmao.L1
open Go.RowKit
set_option linter.unusedVariables false

theorem hide {p : Prop} (h : p) : Hid p := h
theorem unhide {p : Prop} (h : Hid p) : p := h
theorem ret_int {k : IntKind} {a b : Int} (h : a = b) : Ending.returned (.int k a) = .returned (.int k b) := by rw [h]
theorem addr_add (g i : Nat) : (⟨g, 0, none⟩ : Addr).add i = ⟨g, i, none⟩ := by unfold Addr.add; split <;> simp_all

/-- What a walk is told of a slice of integers that came in: it is nil; or it leads to a row of 'cap' cells, the numbers 'zs' (the first 'len' are its elements), each fitting its kind. -/
def IsRow (k : IntKind) (w : World) (a : Option Addr) (len cap : Nat) (zs : List Int) : Prop :=
  (a = none ∧ len = 0 ∧ cap = 0 ∧ zs = []) ∨
  ∃ x, a = some x ∧ len ≤ cap ∧ cap ≤ maxLen ∧ zs.length = cap ∧ (∀ i, i < zs.length → w.cell? (x.add i) = some (.int k (zs.getD i 0))) ∧ ∀ n ∈ zs, (Lit.int k n).wf = true
end Go.Proofs.Yticgejaaoamhmao.L1

namespace Go.Proofs.Yticgejaaoamhmao.L1
open Go.RowKit
set_option linter.unusedVariables false

theorem info_int : (Try.prog.info? 3).map (fun i => (i.zero, i.size, i.bytes)) = some (some (.int .i64 0), 1, 8) := by kernel_rfl

/-- A list of ints lies in memory from an address on. -/
def Sl (w : World) (a : Option Addr) (xs : List Int) : Prop := ∀ i, i < xs.length → ∃ b off, a = some ⟨b, off, none⟩ ∧ w.cell? ⟨b, off + i, none⟩ = some (.int .i64 (xs.getD i 0))

theorem blk_lt {w : World} {b o : Nat} {v : Value} (h : w.cell? ⟨b, o, none⟩ = some v) : b < w.heap.size := by
  by_cases hb : b < w.heap.size
  · exact hb
  · simp [World.cell?, Array.getElem?_eq_none (show w.heap.size ≤ b by omega)] at h
theorem Sl.below {w w' : World} {a : Option Addr} {xs : List Int} (h : Sl w a xs) (hb : Below w.heap.size w w') : Sl w' a xs := fun i hi => by
  obtain ⟨b, off, ha, hc⟩ := h i hi
  refine ⟨b, off, ha, ?_⟩
  rw [hb.cell (p := ⟨b, off + i, none⟩) (blk_lt hc)]
  exact hc
theorem Sl.at {w : World} {b off : Nat} {xs : List Int} (h : Sl w (some ⟨b, off, none⟩) xs) (i : Nat) (hi : i < xs.length) : w.cell? ⟨b, off + i, none⟩ = some (.int .i64 (xs.getD i 0)) := by
  obtain ⟨b', off', ha, hc⟩ := h i hi
  simp at ha
  obtain ⟨rfl, rfl⟩ := ha
  exact hc
theorem sl_of_own {w : World} {base g n cap : Nat} {xs : List Int} (h : w.ownsRow base 3 1 (.slice (some ⟨g, 0, none⟩) n cap) n (xs.map (Value.int .i64))) : Sl w (some ⟨g, 0, none⟩) xs := fun i hi => by
  have := h.cells (g := g) rfl i (.int .i64 (xs.getD i 0)) (by
    rw [List.getElem?_map, List.getElem?_eq_getElem hi]
    simp [List.getD, List.getElem?_eq_getElem hi])
  rw [addr_add] at this
  exact ⟨g, 0, rfl, by simpa using this⟩
theorem sl_of_row {w : World} {a : Option Addr} {len cap : Nat} {zs : List Int} (h : IsRow .i64 w a len cap zs) : Sl w a (zs.take len) ∧ (zs.take len).length = len ∧ len ≤ maxLen := by
  rcases h with ⟨rfl, rfl, rfl, rfl⟩ | ⟨x, rfl, hl, hm, hz, hc, _⟩
  · exact ⟨fun i hi => by simp at hi, by simp, by unfold maxLen; omega⟩
  · refine ⟨fun i hi => ?_, by simp; omega, by omega⟩
    have hi' : i < zs.length := by simp at hi; omega
    have hil : i < len := by simp at hi; omega
    have h0 := hc i hi'
    obtain ⟨b, off, spot⟩ := x
    have hspot : spot = none := by
      have h00 := hc 0 (by omega)
      simpa [Addr.add] using World.cell?_spot h00
    subst hspot
    refine ⟨b, off, rfl, ?_⟩
    have e : (⟨b, off, none⟩ : Addr).add i = ⟨b, off + i, none⟩ := by unfold Addr.add; split <;> simp_all
    rw [e] at h0
    rw [h0]
    simp [List.getD, hil]

theorem made_ints (n : Nat) : (madeCells (Value.int .i64 0).cells (n * 1)).toList = (List.replicate n (0 : Int)).map (Value.int .i64) := by
  rw [Nat.mul_one]
  show (madeCells #[Value.int .i64 0] n).toList = _
  rw [toList_madeCells_one]
  simp

/-- One round of the copy. -/
theorem copy_round {w wr : World} {xs ys : List Int} {m k : Nat} (hlt : k < m) (hm : xs.length = m) (hl : ys.length = m) (HX : ∀ j, j < k → ys.getD j 0 = xs.getD j 0)
    (hown : wr.ownsRow w.heap.size 3 1 (.slice (some ⟨w.heap.size, 0, none⟩) m m) m (ys.map (Value.int .i64))) (hb : Below w.heap.size w wr) :
    ∃ (k' : Nat) (ys' : List Int), k' ≤ m ∧ Value.int .i64 ((k : Int) + 1) = .int .i64 k' ∧ ys'.length = m ∧ Hid (∀ j, j < k' → ys'.getD j 0 = xs.getD j 0) ∧
      (wr.setCell ⟨w.heap.size, k, none⟩ (.int .i64 (xs.getD k 0))).ownsRow w.heap.size 3 1 (.slice (some ⟨w.heap.size, 0, none⟩) m m) m (ys'.map (Value.int .i64)) ∧ Below w.heap.size w (wr.setCell ⟨w.heap.size, k, none⟩ (.int .i64 (xs.getD k 0))) := by
  have hst := hown.stored k (.int .i64 (xs.getD k 0))
  have hb2 := hb.setCell (p := ⟨w.heap.size, k, none⟩) (Nat.le_refl _) (.int .i64 (xs.getD k 0))
  refine ⟨k + 1, ys.set k (xs.getD k 0), by omega, by simp, by simpa using hl, ?_, by rw [List.map_set]; exact hst.1, hb2⟩
  intro j hj
  by_cases e : j = k
  · subst e
    simp [List.getD, hl, hlt]
  · rw [← HX j (by omega)]
    simp [List.getD, Ne.symm e]
theorem list_same {xs ys : List Int} {m : Nat} (h1 : xs.length = m) (h2 : ys.length = m) (h : ∀ j, j < m → ys.getD j 0 = xs.getD j 0) : ys = xs := by
  apply List.ext_getElem?
  intro j
  by_cases hj : j < m
  · have h := h j hj
    simp only [List.getD, List.getElem?_eq_getElem (show j < ys.length by omega), List.getElem?_eq_getElem (show j < xs.length by omega), Option.getD_some] at h
    rw [List.getElem?_eq_getElem (show j < ys.length by omega), List.getElem?_eq_getElem (show j < xs.length by omega), h]
  · rw [List.getElem?_eq_none (by omega), List.getElem?_eq_none (by omega)]

/-- A list that is owned, as a value. -/
theorem own_form {w : World} {base n : Nat} {v : Value} {xs : List Int} (h : w.ownsRow base 3 1 v n (xs.map (Value.int .i64))) : ∃ a cap, v = .slice a n cap ∧ Sl w a xs ∧ xs.length = n := by
  have hl := h.1
  simp at hl
  rcases h.2 with ⟨hv, h0⟩ | ⟨g, cap, cur, hv, _⟩
  · subst h0
    exact ⟨none, 0, hv, fun i hi => by omega, hl⟩
  · subst hv
    exact ⟨_, cap, rfl, sl_of_own h, hl⟩
/-- What is owned stays so while nothing that is there turns. -/
theorem own_below {w w' : World} {base n : Nat} {v : Value} {ys : List Value} (h : w.ownsRow base 3 1 v n ys) (hb : Below w.heap.size w w') : w'.ownsRow base 3 1 v n ys := by
  refine ⟨h.1, ?_⟩
  rcases h.2 with h0 | ⟨g, cap, cur, rfl, hbg, hg, r⟩
  · exact .inl h0
  · exact .inr ⟨g, cap, cur, rfl, hbg, by rw [hb.block g (Array.getElem?_eq_some_iff.1 hg).1]; exact hg, r⟩
theorem own_ge {w : World} {base n g cap : Nat} {xs : List Value} (h : w.ownsRow base 3 1 (.slice (some ⟨g, 0, none⟩) n cap) n xs) : base ≤ g := (h.lt g rfl).1

/-- A list that a call hands back, in new memory, and whether there is one. -/
def RetL (w : World) (r : Option (List Int)) (e : Ending) (w' : World) : Prop :=
  ∃ v, e = .returned (.tuple #[v, .bool r.isSome]) ∧ w'.ownsRow w.heap.size 3 1 v (r.getD []).length ((r.getD []).map (Value.int .i64)) ∧ Below w.heap.size w w'
end Go.Proofs.Yticgejaaoamhmao.L1

namespace Go.Proofs.Yticgejaaoamhmao.Str
open Go.RowKit L1
set_option linter.unusedVariables false

theorem info_strS : (Try.prog.info? 9).map (fun i => (i.zero, i.size, i.bytes)) = some (some (.string ByteArray.empty), 1, 16) := by kernel_rfl
abbrev e0 : ByteArray := ByteArray.empty
/-- A list of texts lies in memory. -/
def SlS (w : World) (a : Option Addr) (xs : List ByteArray) : Prop := ∀ i, i < xs.length → ∃ b off, a = some ⟨b, off, none⟩ ∧ w.cell? ⟨b, off + i, none⟩ = some (.string (xs.getD i e0))
theorem SlS.below {w w' : World} {a : Option Addr} {xs : List ByteArray} (h : SlS w a xs) (hb : Below w.heap.size w w') : SlS w' a xs := fun i hi => by
  obtain ⟨b, off, ha, hc⟩ := h i hi
  exact ⟨b, off, ha, (hb.cell (p := ⟨b, off + i, none⟩) (blk_lt hc)).trans hc⟩
abbrev mapS (xs : List ByteArray) : List Value := xs.map Value.string
theorem mapS_get (xs : List ByteArray) (i : Nat) (h : i < xs.length) : (mapS xs)[i]? = some (.string (xs.getD i e0)) := by
  rw [List.getElem?_map, List.getElem?_eq_getElem h]
  simp [List.getD, List.getElem?_eq_getElem h]
theorem mapS_len (xs : List ByteArray) : (mapS xs).length = xs.length := by simp
theorem mapS_set (xs : List ByteArray) (j : Nat) (x : ByteArray) : mapS (xs.set j x) = (mapS xs).set j (.string x) := by simp [List.map_set]
theorem mapS_one (xs : List ByteArray) : ∀ u ∈ mapS xs, u.oneCell' = true := fun u hu => by
  obtain ⟨x, _, rfl⟩ := List.mem_map.1 hu
  rfl
theorem own_formS {w : World} {base n : Nat} {v : Value} {xs : List ByteArray} (h : w.ownsRow base 9 1 v n (mapS xs)) : ∃ a cap, v = .slice a n cap ∧ SlS w a xs ∧ xs.length = n := by
  have hl := h.1
  simp at hl
  rcases h.2 with ⟨hv, h0⟩ | ⟨g, cap, cur, hv, _⟩
  · subst h0
    exact ⟨none, 0, hv, fun i hi => by omega, hl⟩
  · subst hv
    refine ⟨_, cap, rfl, fun i hi => ?_, hl⟩
    have := h.cells (g := g) rfl i _ (mapS_get xs i hi)
    rw [addr_add] at this
    exact ⟨g, 0, rfl, by simpa using this⟩
theorem own_slS {w : World} {base n cap : Nat} {a : Option Addr} {xs : List ByteArray} (h : w.ownsRow base 9 1 (.slice a n cap) n (mapS xs)) : SlS w a xs := by
  obtain ⟨b, q, e, s, _⟩ := own_formS h
  cases e
  exact s
theorem own_belowS {w w' : World} {base n : Nat} {t : TypeId} {c : Nat} {v : Value} {ys : List Value} (h : w.ownsRow base t c v n ys) (hb : Below w.heap.size w w') : w'.ownsRow base t c v n ys := by
  refine ⟨h.1, ?_⟩
  rcases h.2 with h0 | ⟨g, cap, cur, rfl, hbg, hg, r⟩
  · exact .inl h0
  · exact .inr ⟨g, cap, cur, rfl, hbg, by rw [hb.block g (Array.getElem?_eq_some_iff.1 hg).1]; exact hg, r⟩
theorem own_baseS {w : World} {b c n size : Nat} {e : TypeId} {v : Value} {xs : List Value} (h : w.ownsRow c e size v n xs) (hbc : b ≤ c) : w.ownsRow b e size v n xs := by
  refine ⟨h.1, ?_⟩
  rcases h.2 with h0 | ⟨g, cap, cur, hv, hg, r⟩
  · exact .inl h0
  · exact .inr ⟨g, cap, cur, hv, Nat.le_trans hbc hg, r⟩
theorem list_sameS {xs ys : List ByteArray} {n : Nat} (h1 : xs.length = n) (h2 : ys.length = n) (h : ∀ t, t < n → ys.getD t e0 = xs.getD t e0) : ys = xs := by
  apply List.ext_getElem (by omega)
  intro i hi1 hi2
  have := h i (by omega)
  simp [List.getD, List.getElem?_eq_getElem hi1, List.getElem?_eq_getElem hi2] at this
  exact this
def TxS (l : List ByteArray) : Prop := ∀ j, j < l.length → (l.getD j e0).size ≤ 9223372036854775807
/-- What a walk is told of a slice of texts that came in. -/
def IsRowS (w : World) (a : Option Addr) (len : Nat) (l : List ByteArray) : Prop := (l.length = len ∧ len ≤ maxLen ∧ SlS w a l) ∧ TxS l
open Classical in
theorem rowS_of {w : World} {a : Addr} {len cap : Nat} (hl : len ≤ cap) (hm : cap ≤ maxLen) (h : ∀ i, i < len → ∃ p : ByteArray, w.cell? (a.add i) = some (.string p) ∧ p.size ≤ maxLen) : ∃ l, IsRowS w (some a) len l := by
  have hc : ∃ f : Nat → ByteArray, ∀ i, i < len → w.cell? (a.add i) = some (.string (f i)) ∧ (f i).size ≤ maxLen := by
    refine ⟨fun i => if hi : i < len then Classical.choose (h i hi) else e0, fun i hi => ?_⟩
    simp only [dif_pos hi]
    exact Classical.choose_spec (h i hi)
  obtain ⟨f, hf⟩ := hc
  have hg : ∀ i, i < len → ((List.range len).map f).getD i e0 = f i := fun i hi' => by simp [List.getD, hi']
  refine ⟨(List.range len).map f, ⟨by simp, Nat.le_trans hl hm, fun i hi => ?_⟩, fun j hj => ?_⟩
  · have hi' : i < len := by simpa using hi
    obtain ⟨b, off, spot⟩ := a
    have hspot : spot = none := by
      have h00 := (hf 0 (by omega)).1
      have := World.cell?_spot h00
      simpa [Addr.add] using this
    subst hspot
    have e0 : ∀ j, (⟨b, off, none⟩ : Addr).add j = ⟨b, off + j, none⟩ := fun j => by unfold Addr.add; split <;> simp_all
    have := (hf i hi').1
    rw [e0] at this
    rw [hg i hi']
    exact ⟨b, off, rfl, this⟩
  · have hj' : j < len := by simpa using hj
    rw [hg j hj']
    have := (hf j hj').2
    unfold maxLen at this
    omega
theorem made_S (n : Nat) : (madeCells (Value.string ByteArray.empty).cells (n * 1)).toList = mapS (List.replicate n e0) := by
  apply List.ext_getElem?
  intro j
  by_cases hj : j < n
  · rw [mapS_get _ _ (by simpa using hj)]
    simp only [madeCells, Value.cells, Array.toList_map, Array.toList_range, List.getElem?_map]
    rw [List.getElem?_range (by omega)]
    have hg : (List.replicate n e0).getD j e0 = e0 := by simp [List.getD, hj]
    rw [hg]
    simp [Nat.mod_one]
  · rw [List.getElem?_eq_none (by simp [size_madeCells]; omega), List.getElem?_eq_none (by simp; omega)]
/-- The lengths of all texts. -/
def szsS : List ByteArray → Nat
  | [] => 0
  | p :: l => p.size + szsS l
theorem szsS_append : ∀ l m : List ByteArray, szsS (l ++ m) = szsS l + szsS m
  | [], m => by simp [szsS]
  | p :: l, m => by simp [szsS, szsS_append l m]; omega
theorem szsS_take (l : List ByteArray) (k : Nat) (hk : k < l.length) : szsS (l.take (k + 1)) = szsS (l.take k) + (l.getD k e0).size := by
  rw [List.take_succ_eq_append_getElem hk, szsS_append]
  simp [szsS, List.getD, List.getElem?_eq_getElem hk]
theorem szsS_le (l : List ByteArray) (k : Nat) : szsS (l.take k) ≤ szsS l := by
  have h : l = l.take k ++ l.drop k := (List.take_append_drop k l).symm
  have := szsS_append (l.take k) (l.drop k)
  rw [← h] at this
  omega
theorem szsS_get : ∀ (l : List ByteArray) (k : Nat), k < l.length → (l.getD k e0).size ≤ szsS l
  | [], k, h => by simp at h
  | p :: l, 0, _ => by simp [szsS]
  | p :: l, k + 1, h => by
    have := szsS_get l k (by simpa using h)
    simp only [List.getD_cons_succ, szsS]
    omega
/-- What a list weighs. -/
def wtS (l : List ByteArray) : Nat := l.length + szsS l
end Go.Proofs.Yticgejaaoamhmao.Str

namespace Go.Proofs.Yticgejaaoamhmao.L4
set_option linter.unusedVariables false

/-- Posts are good. -/
def GoodP (l : List Int) : Prop := l.length ≤ 60 ∧ ∀ j, j < l.length → (0 ≤ l.getD j 0 ∧ l.getD j 0 ≤ 9999) ∧ (0 < j → l.getD (j - 1) 0 < l.getD j 0)
def Rise (l : List Int) : Prop := l.Pairwise fun x y => x < y

theorem getD_eq {l : List Int} {j : Nat} (h : j < l.length) : l.getD j 0 = l[j] := by simp [List.getD, List.getElem?_eq_getElem h]
theorem getD_mem {l : List Int} {j : Nat} (h : j < l.length) : l.getD j 0 ∈ l := by rw [getD_eq h]; exact List.getElem_mem h
theorem mem_getD {l : List Int} {x : Int} (h : x ∈ l) : ∃ j, j < l.length ∧ l.getD j 0 = x := by
  obtain ⟨j, hj, e⟩ := List.getElem_of_mem h
  exact ⟨j, hj, by rw [getD_eq hj]; exact e⟩
theorem rise_get {l : List Int} (h : Rise l) {i j : Nat} (hij : i < j) (hj : j < l.length) : l.getD i 0 < l.getD j 0 := by
  rw [getD_eq hj, getD_eq (Nat.lt_trans hij hj)]
  exact List.pairwise_iff_getElem.1 h i j _ _ hij
theorem rise_le {l : List Int} (h : Rise l) {i j : Nat} (hij : i ≤ j) (hj : j < l.length) : l.getD i 0 ≤ l.getD j 0 := by
  by_cases e : i = j
  · subst e; omega
  · have := rise_get h (show i < j by omega) hj; omega
theorem rise_of_step {l : List Int} (h : ∀ j, j < l.length → 0 < j → l.getD (j - 1) 0 < l.getD j 0) : Rise l := by
  refine List.pairwise_iff_getElem.2 fun i j hi hj hij => ?_
  have key : ∀ d, i + 1 + d < l.length → l.getD i 0 < l.getD (i + 1 + d) 0 := fun d => by
    induction d with
    | zero => intro hd; have := h (i + 1) hd (by omega); simpa using this
    | succ d ih =>
      intro hd
      have h1 := ih (by omega)
      have h2 := h (i + 1 + (d + 1)) hd (by omega)
      have e : i + 1 + (d + 1) - 1 = i + 1 + d := by omega
      rw [e] at h2
      omega
  have := key (j - i - 1) (by omega)
  rw [show i + 1 + (j - i - 1) = j by omega, getD_eq hi, getD_eq hj] at this
  exact this
theorem good_rise {l : List Int} (h : GoodP l) : Rise l := rise_of_step fun j hj h0 => (h.2 j hj).2 h0
theorem rise_uniq : ∀ {l m : List Int}, Rise l → Rise m → (∀ x, x ∈ l ↔ x ∈ m) → l = m
  | [], [], _, _, _ => rfl
  | [], y :: m, _, _, h => by have := (h y).2 (by simp); simp at this
  | x :: l, [], _, _, h => by have := (h x).1 (by simp); simp at this
  | x :: l, y :: m, hl, hm, h => by
    have hl' := List.pairwise_cons.1 hl
    have hm' := List.pairwise_cons.1 hm
    have e : x = y := by
      have h1 := (h x).1 (by simp)
      have h2 := (h y).2 (by simp)
      simp only [List.mem_cons] at h1 h2
      rcases h1 with h1 | h1
      · exact h1
      · rcases h2 with h2 | h2
        · exact h2.symm
        · have := hm'.1 x h1; have := hl'.1 y h2; omega
    subst e
    rw [rise_uniq hl'.2 hm'.2 fun z => by
      have hz := h z
      simp only [List.mem_cons] at hz
      constructor
      · intro hz1
        rcases hz.1 (.inr hz1) with e | e
        · subst e; have := hl'.1 z hz1; omega
        · exact e
      · intro hz1
        rcases hz.2 (.inr hz1) with e | e
        · subst e; have := hm'.1 z hz1; omega
        · exact e]

/-- How many at the front are less. -/
def lp (n : Int) : List Int → Nat
  | [] => 0
  | x :: l => if x < n then lp n l + 1 else 0
theorem lp_le (n : Int) : ∀ l : List Int, lp n l ≤ l.length
  | [] => Nat.le_refl _
  | x :: l => by
    have := lp_le n l
    unfold lp
    split <;> simp <;> omega
theorem lp_lt (n : Int) : ∀ (l : List Int) (j : Nat), j < lp n l → l.getD j 0 < n
  | [], j, h => by simp [lp] at h
  | x :: l, j, h => by
    unfold lp at h
    split at h
    · cases j with
      | zero => simpa
      | succ j => simpa using lp_lt n l j (by omega)
    · omega
theorem lp_stop (n : Int) : ∀ (l : List Int), lp n l < l.length → ¬ l.getD (lp n l) 0 < n
  | [], h => by simp at h
  | x :: l, h => by
    unfold lp at h ⊢
    split
    · rename_i hx
      rw [if_pos hx] at h
      simpa using lp_stop n l (by simpa using h)
    · rename_i hx
      simpa using Int.not_lt.1 hx
theorem lp_at {n : Int} : ∀ (l : List Int) (k : Nat), k ≤ l.length → (∀ j, j < k → l.getD j 0 < n) → (k < l.length → ¬ l.getD k 0 < n) → lp n l = k := fun l k hk h1 h2 => by
  rcases Nat.lt_trichotomy (lp n l) k with h | h | h
  · exact absurd (h1 _ h) (lp_stop n l (by omega))
  · exact h
  · have := lp_le n l
    exact absurd (lp_lt n l k h) (h2 (by omega))
theorem count_lp (n : Int) : ∀ {l : List Int}, Rise l → l.countP (fun y => decide (y < n)) = lp n l
  | [], _ => rfl
  | x :: l, h => by
    have h' := List.pairwise_cons.1 h
    rw [List.countP_cons, count_lp n h'.2]
    conv => rhs; unfold lp
    by_cases hx : x < n
    · simp [hx]
    · have h0 : lp n l = 0 := by
        have := h'.1
        cases l with
        | nil => rfl
        | cons z zs =>
          have := this z (by simp)
          unfold lp
          rw [if_neg (by omega)]
      simp [hx, h0]
/-- The first place from a place on with a number that is great enough. -/
def leap (l : List Int) (f : Nat) (n : Int) : Nat := f + lp n (l.drop f)
theorem drop_getD (l : List Int) (f j : Nat) : (l.drop f).getD j 0 = l.getD (f + j) 0 := by simp [List.getD]
theorem leap_ge (l : List Int) (f : Nat) (n : Int) : f ≤ leap l f n := by unfold leap; omega
theorem leap_le (l : List Int) (f : Nat) (n : Int) (hf : f ≤ l.length) : leap l f n ≤ l.length := by
  have := lp_le n (l.drop f)
  unfold leap
  simp at this
  omega
theorem leap_lt (l : List Int) (f : Nat) (n : Int) (j : Nat) (h1 : f ≤ j) (h2 : j < leap l f n) : l.getD j 0 < n := by
  unfold leap at h2
  have := lp_lt n (l.drop f) (j - f) (by omega)
  rw [drop_getD, show f + (j - f) = j by omega] at this
  exact this
theorem leap_stop (l : List Int) (f : Nat) (n : Int) (h : leap l f n < l.length) : ¬ l.getD (leap l f n) 0 < n := by
  unfold leap at h ⊢
  have := lp_stop n (l.drop f) (by simp; omega)
  rw [drop_getD] at this
  exact this
theorem leap_at {l : List Int} {f k : Nat} {n : Int} (hfk : f ≤ k) (hk : k ≤ l.length) (h1 : ∀ j, f ≤ j → j < k → l.getD j 0 < n) (h2 : k < l.length → ¬ l.getD k 0 < n) : leap l f n = k := by
  have := lp_at (n := n) (l.drop f) (k - f) (by simp; omega) (fun j hj => by rw [drop_getD]; exact h1 _ (by omega) (by omega)) (fun h => by
    rw [drop_getD, show f + (k - f) = k by omega]
    exact h2 (by simp at h; omega))
  unfold leap
  omega

/-- What both have; what the first alone has. -/
def those (b : List Int) (s : Bool) (a : List Int) : List Int := a.filter fun x => decide (x ∈ b) == s
theorem those_len (a b : List Int) (s : Bool) : (those b s a).length ≤ a.length := List.length_filter_le _ _
theorem those_snoc (a b : List Int) (s : Bool) (k : Nat) (h : k < a.length) : those b s (a.take (k + 1)) = if (decide (a.getD k 0 ∈ b) == s) = true then those b s (a.take k) ++ [a.getD k 0] else those b s (a.take k) := by
  unfold those
  rw [List.take_succ_eq_append_getElem h, List.filter_append, getD_eq h]
  by_cases e : (decide (a[k] ∈ b) == s) = true
  · rw [if_pos e]; simp [e]
  · rw [if_neg e]; simp only [Bool.not_eq_true] at e; simp [e]
theorem leap_mem {b : List Int} {f : Nat} {x : Int} (hb : Rise b) (hf : f ≤ b.length) (h : ∀ j, j < f → b.getD j 0 < x) : x ∈ b ↔ leap b f x < b.length ∧ b.getD (leap b f x) 0 = x := by
  constructor
  · intro hx
    obtain ⟨j, hj, e⟩ := mem_getD hx
    have h1 : ¬ j < leap b f x := fun hlt => by
      by_cases hjf : j < f
      · have := h j hjf; omega
      · have := leap_lt b f x j (by omega) hlt; omega
    have h2 : leap b f x ≤ j := by omega
    have h3 := leap_stop b f x (by omega)
    have h4 := rise_le hb h2 hj
    exact ⟨by omega, by omega⟩
  · rintro ⟨h1, h2⟩
    rw [← h2]
    exact getD_mem h1

/-- A number put into a list. -/
def put (l : List Int) (x : Int) : List Int := if lp x l < l.length ∧ l.getD (lp x l) 0 = x then l else l.take (lp x l) ++ x :: l.drop (lp x l)
theorem put_len (l : List Int) (x : Int) : (put l x).length ≤ l.length + 1 := by
  unfold put
  split
  · omega
  · simp; omega
theorem put_mem (l : List Int) (x y : Int) : y ∈ put l x ↔ y = x ∨ y ∈ l := by
  unfold put
  split
  · rename_i h
    constructor
    · exact .inr
    · rintro (rfl | h1)
      · have h2 := h.2
        have := getD_mem h.1
        rwa [h2] at this
      · exact h1
  · have e := List.take_append_drop (lp x l) l
    constructor
    · intro h
      simp only [List.mem_append, List.mem_cons] at h
      rcases h with h | h | h
      · exact .inr (List.mem_of_mem_take h)
      · exact .inl h
      · exact .inr (List.mem_of_mem_drop h)
    · rintro (rfl | h)
      · simp
      · rw [← e] at h
        simp only [List.mem_append, List.mem_cons] at h ⊢
        rcases h with h | h
        · exact .inl h
        · exact .inr (.inr h)
theorem take_lt {l : List Int} {k : Nat} {x y : Int} (h : ∀ j, j < k → l.getD j 0 < x) (hy : y ∈ l.take k) : y < x := by
  obtain ⟨j, hj, e⟩ := mem_getD hy
  have hj' : j < k ∧ j < l.length := by simp at hj; omega
  have := h j hj'.1
  rw [getD_eq hj] at e
  rw [getD_eq hj'.2] at this
  simp at e
  omega
theorem drop_mem {l : List Int} {k : Nat} {y : Int} (hy : y ∈ l.drop k) : ∃ j, k ≤ j ∧ j < l.length ∧ l.getD j 0 = y := by
  obtain ⟨j, hj, e⟩ := mem_getD hy
  rw [drop_getD] at e
  exact ⟨k + j, by omega, by simp at hj; omega, e⟩
theorem put_rise {l : List Int} {x : Int} (h : Rise l) : Rise (put l x) := by
  unfold put
  split
  · exact h
  · rename_i hno
    refine List.pairwise_append.2 ⟨h.sublist (List.take_sublist _ _), List.pairwise_cons.2 ⟨fun y hy => ?_, h.sublist (List.drop_sublist _ _)⟩, fun y hy z hz => ?_⟩
    · obtain ⟨j, hj, hl, e⟩ := drop_mem hy
      have h1 := lp_stop x l (by omega)
      have h2 := rise_le h hj hl
      by_cases e2 : l.getD (lp x l) 0 = x
      · exact absurd ⟨by omega, e2⟩ hno
      · omega
    · have h1 := take_lt (lp_lt x l) hy
      simp only [List.mem_cons] at hz
      rcases hz with rfl | hz
      · exact h1
      · obtain ⟨j, hj, hl, e⟩ := drop_mem hz
        have h2 := lp_stop x l (by omega)
        have h3 := rise_le h hj hl
        omega
/-- Those of either. -/
def joinL (a b : List Int) : List Int := b.foldl put a
theorem joinL_snoc (a b : List Int) (k : Nat) (h : k < b.length) : joinL a (b.take (k + 1)) = put (joinL a (b.take k)) (b.getD k 0) := by
  unfold joinL
  rw [List.take_succ_eq_append_getElem h, List.foldl_append, getD_eq h]
  rfl
theorem joinL_len (a b : List Int) : ∀ k, (joinL a (b.take k)).length ≤ a.length + k
  | 0 => by simp [joinL]
  | k + 1 => by
    have ih := joinL_len a b k
    by_cases h : k < b.length
    · rw [joinL_snoc a b k h]
      have := put_len (joinL a (b.take k)) (b.getD k 0)
      omega
    · rw [List.take_of_length_le (by omega)] at ih ⊢
      omega
theorem joinL_mem : ∀ (b a : List Int) (y : Int), y ∈ joinL a b ↔ y ∈ a ∨ y ∈ b
  | [], a, y => by simp [joinL]
  | x :: b, a, y => by
    have := joinL_mem b (put a x) y
    unfold joinL at this ⊢
    rw [List.foldl_cons, this, put_mem]
    simp only [List.mem_cons]
    constructor
    · rintro ((h | h) | h)
      · exact .inr (.inl h)
      · exact .inl h
      · exact .inr (.inr h)
    · rintro (h | h | h)
      · exact .inl (.inr h)
      · exact .inl (.inl h)
      · exact .inr h
theorem joinL_rise : ∀ (b a : List Int), Rise a → Rise (joinL a b)
  | [], a, h => h
  | x :: b, a, h => joinL_rise b (put a x) (put_rise h)

/-- The program's way: a's numbers one by one, those of b that are less ahead of each. -/
def jst (a b : List Int) : Nat → List Int × Nat
  | 0 => ([], 0)
  | k + 1 =>
    let u := leap b (jst a b k).2 (a.getD k 0)
    ((jst a b k).1 ++ (b.drop (jst a b k).2).take (u - (jst a b k).2) ++ [a.getD k 0], if u < b.length ∧ b.getD u 0 = a.getD k 0 then u + 1 else u)
/-- What holds after k of a's numbers. -/
structure JInv (a b : List Int) (k : Nat) : Prop where
  le : (jst a b k).2 ≤ b.length
  rise : Rise (jst a b k).1
  mem : ∀ y, y ∈ (jst a b k).1 ↔ y ∈ a.take k ∨ y ∈ b.take (jst a b k).2
  low : ∀ y ∈ (jst a b k).1, ∀ j, k ≤ j → j < a.length → y < a.getD j 0
  high : ∀ y ∈ (jst a b k).1, ∀ j, (jst a b k).2 ≤ j → j < b.length → y < b.getD j 0
  len : (jst a b k).1.length ≤ k + (jst a b k).2
theorem take_mem_iff {l : List Int} {k : Nat} {y : Int} : y ∈ l.take k ↔ ∃ j, j < k ∧ j < l.length ∧ l.getD j 0 = y := by
  constructor
  · intro h
    obtain ⟨j, hj, e⟩ := mem_getD h
    have hj' : j < k ∧ j < l.length := by simp at hj; omega
    refine ⟨j, hj'.1, hj'.2, ?_⟩
    rw [getD_eq hj] at e
    rw [getD_eq hj'.2]
    simpa using e
  · rintro ⟨j, h1, h2, rfl⟩
    rw [getD_eq h2]
    exact List.mem_take_iff_getElem.2 ⟨j, by omega, rfl⟩
theorem seg_mem {l : List Int} {f u : Nat} {y : Int} : y ∈ (l.drop f).take (u - f) ↔ ∃ j, f ≤ j ∧ j < u ∧ j < l.length ∧ l.getD j 0 = y := by
  rw [take_mem_iff]
  constructor
  · rintro ⟨j, h1, h2, h3⟩
    rw [drop_getD] at h3
    exact ⟨f + j, by omega, by omega, by simp at h2; omega, h3⟩
  · rintro ⟨j, h1, h2, h3, h4⟩
    exact ⟨j - f, by omega, by simp; omega, by rw [drop_getD, show f + (j - f) = j by omega]; exact h4⟩
theorem jinv {a b : List Int} (ha : Rise a) (hb : Rise b) : ∀ k, k ≤ a.length → JInv a b k
  | 0, _ => ⟨Nat.zero_le _, List.Pairwise.nil, fun y => by simp [jst], fun y hy => by simp [jst] at hy, fun y hy => by simp [jst] at hy, Nat.zero_le _⟩
  | k + 1, hk => by
    have I := jinv ha hb k (by omega)
    obtain ⟨⟨o, f⟩, e⟩ : ∃ p, p = jst a b k := ⟨_, rfl⟩
    have h1 := I.le; have h2 := I.rise; have h3 := I.mem; have h4 := I.low; have h5 := I.high; have h6 := I.len
    rw [← e] at h1 h2 h3 h4 h5 h6
    simp only at h1 h2 h3 h4 h5 h6
    obtain ⟨x, hx⟩ : ∃ x, x = a.getD k 0 := ⟨_, rfl⟩
    obtain ⟨u, hu⟩ : ∃ u, u = leap b f x := ⟨_, rfl⟩
    have u1 : f ≤ u := by rw [hu]; exact leap_ge _ _ _
    have u2 : u ≤ b.length := by rw [hu]; exact leap_le _ _ _ h1
    have u3 : ∀ j, f ≤ j → j < u → b.getD j 0 < x := fun j q1 q2 => leap_lt b f x j q1 (by rw [← hu]; exact q2)
    have u4 : u < b.length → ¬ b.getD u 0 < x := fun q => by have := leap_stop b f x (by rw [← hu]; exact q); rwa [← hu] at this
    obtain ⟨g, hg⟩ : ∃ g, g = if u < b.length ∧ b.getD u 0 = x then u + 1 else u := ⟨_, rfl⟩
    have e2 : jst a b (k + 1) = (o ++ (b.drop f).take (u - f) ++ [x], g) := by
      rw [hg, hu, hx]
      conv => lhs; unfold jst
      rw [← e]
    have g1 : u ≤ g ∧ g ≤ b.length ∧ (g = u ∨ (g = u + 1 ∧ b.getD u 0 = x)) := by
      rw [hg]
      split
      · rename_i q; exact ⟨by omega, by omega, .inr ⟨rfl, q.2⟩⟩
      · exact ⟨Nat.le_refl _, u2, .inl rfl⟩
    have g2 : ∀ j, g ≤ j → j < b.length → x < b.getD j 0 := fun j q1 q2 => by
      have w1 := rise_le hb (show u ≤ j by omega) q2
      have w2 := u4 (by omega)
      rw [hg] at q1
      split at q1
      · rename_i q; have := rise_get hb (show u < j by omega) q2; omega
      · rename_i q
        by_cases e3 : b.getD u 0 = x
        · exact absurd ⟨by omega, e3⟩ q
        · omega
    have ox : ∀ y ∈ o, y < x := fun y hy => by rw [hx]; exact h4 y hy k (Nat.le_refl _) (by omega)
    have newmem : ∀ y, y ∈ o ++ (b.drop f).take (u - f) ++ [x] ↔ y ∈ o ∨ (∃ j, f ≤ j ∧ j < u ∧ j < b.length ∧ b.getD j 0 = y) ∨ y = x := fun y => by
      simp only [List.mem_append, List.mem_singleton, seg_mem]
      constructor
      · rintro ((q | q) | q)
        · exact .inl q
        · exact .inr (.inl q)
        · exact .inr (.inr q)
      · rintro (q | q | q)
        · exact .inl (.inl q)
        · exact .inl (.inr q)
        · exact .inr q
    have lex : ∀ y, y ∈ o ++ (b.drop f).take (u - f) ++ [x] → y ≤ x := fun y hy => by
      rcases (newmem y).1 hy with q | ⟨j, q1, q2, q3, q4⟩ | q
      · have := ox y q; omega
      · have := u3 j q1 q2; omega
      · omega
    refine ⟨?_, ?_, ?_, ?_, ?_, ?_⟩ <;> rw [e2] <;> simp only
    · exact g1.2.1
    · refine List.pairwise_append.2 ⟨List.pairwise_append.2 ⟨h2, (hb.sublist (List.drop_sublist _ _)).sublist (List.take_sublist _ _), fun y hy z hz => ?_⟩, by simp, fun y hy z hz => ?_⟩
      · obtain ⟨j, q1, q2, q3, q4⟩ := seg_mem.1 hz
        have := h5 y hy j q1 q3
        omega
      · simp only [List.mem_singleton] at hz
        subst hz
        rcases List.mem_append.1 hy with q | q
        · exact ox y q
        · obtain ⟨j, q1, q2, q3, q4⟩ := seg_mem.1 q
          have := u3 j q1 q2
          omega
    · intro y
      rw [newmem, h3, take_mem_iff, take_mem_iff, take_mem_iff, take_mem_iff]
      constructor
      · rintro ((⟨j, q1, q2, q3⟩ | ⟨j, q1, q2, q3⟩) | ⟨j, q1, q2, q3, q4⟩ | q)
        · exact .inl ⟨j, by omega, q2, q3⟩
        · exact .inr ⟨j, by omega, q2, q3⟩
        · exact .inr ⟨j, by omega, q3, q4⟩
        · exact .inl ⟨k, by omega, by omega, by rw [q, hx]⟩
      · rintro (⟨j, q1, q2, q3⟩ | ⟨j, q1, q2, q3⟩)
        · by_cases ej : j = k
          · subst ej; exact .inr (.inr (by rw [← q3, hx]))
          · exact .inl (.inl ⟨j, by omega, q2, q3⟩)
        · by_cases ej : j < f
          · exact .inl (.inr ⟨j, ej, q2, q3⟩)
          · by_cases ej2 : j < u
            · exact .inr (.inl ⟨j, by omega, ej2, q2, q3⟩)
            · rcases g1.2.2 with q | ⟨q, q'⟩
              · omega
              · obtain rfl : j = u := by omega
                exact .inr (.inr (by rw [← q3, q']))
    · intro y hy j q1 q2
      have := lex y hy
      have := rise_get ha (show k < j by omega) q2
      omega
    · intro y hy j q1 q2
      have := lex y hy
      have := g2 j q1 q2
      omega
    · simp; omega
theorem join_eq {a b : List Int} (ha : Rise a) (hb : Rise b) : (jst a b a.length).1 ++ b.drop (jst a b a.length).2 = joinL a b := by
  have I := jinv ha hb a.length (Nat.le_refl _)
  refine rise_uniq (List.pairwise_append.2 ⟨I.rise, hb.sublist (List.drop_sublist _ _), fun y hy z hz => ?_⟩) (joinL_rise b a ha) fun y => ?_
  · obtain ⟨j, q1, q2, q3⟩ := drop_mem hz
    have := I.high y hy j q1 q2
    omega
  · rw [joinL_mem, List.mem_append, I.mem, List.take_length]
    conv => rhs; rw [← List.take_append_drop (jst a b a.length).2 b]
    rw [List.mem_append]
    constructor
    · rintro ((q | q) | q)
      · exact .inl q
      · exact .inr (.inl q)
      · exact .inr (.inr q)
    · rintro (q | q | q)
      · exact .inl (.inl q)
      · exact .inl (.inr q)
      · exact .inr q
end Go.Proofs.Yticgejaaoamhmao.L4

namespace Go.Proofs.Yticgejaaoamhmao.L4
open Go.RowKit L1
set_option linter.unusedVariables false

theorem own_belowT {w w' : World} {base n : Nat} {t : TypeId} {c : Nat} {v : Value} {ys : List Value} (h : w.ownsRow base t c v n ys) (hb : Below w.heap.size w w') : w'.ownsRow base t c v n ys := by
  refine ⟨h.1, ?_⟩
  rcases h.2 with h0 | ⟨g, cap, cur, rfl, hbg, hg, r⟩
  · exact .inl h0
  · exact .inr ⟨g, cap, cur, rfl, hbg, by rw [hb.block g (Array.getElem?_eq_some_iff.1 hg).1]; exact hg, r⟩
theorem own_baseT {w : World} {b c n size : Nat} {e : TypeId} {v : Value} {xs : List Value} (h : w.ownsRow c e size v n xs) (hbc : b ≤ c) : w.ownsRow b e size v n xs := by
  refine ⟨h.1, ?_⟩
  rcases h.2 with h0 | ⟨g, cap, cur, hv, hg, r⟩
  · exact .inl h0
  · exact .inr ⟨g, cap, cur, hv, Nat.le_trans hbc hg, r⟩
theorem own_some {w : World} {base n c : Nat} {t : TypeId} {v : Value} {xs : List Value} (h : w.ownsRow base t c v n xs) (hv : ¬ v = .slice none 0 0) : ∃ g cap, v = .slice (some ⟨g, 0, none⟩) n cap ∧ n ≤ cap ∧ cap ≤ maxLen := by
  rcases h.2 with ⟨hv', h0⟩ | ⟨g, cap, cur, hv', _, _, hc, hm, _⟩
  · exact absurd hv' hv
  · exact ⟨g, cap, hv', hc, hm⟩
theorem own_shapeT {w : World} {base n c : Nat} {t : TypeId} {v : Value} {xs : List Value} (h : w.ownsRow base t c v n xs) : ∃ a cap, v = .slice a n cap := by
  rcases h.2 with ⟨hv, h0⟩ | ⟨g, cap, cur, hv, _⟩
  · exact ⟨none, 0, by rw [hv, h0]⟩
  · exact ⟨_, cap, hv⟩
theorem bool_noT {b : Bool} {p : Prop} (h : b = true ↔ p) (hp : ¬ p) : b = false := by
  cases b with
  | false => rfl
  | true => exact absurd (h.1 rfl) hp
theorem own_neG {w : World} {base n cap g c : Nat} {t : TypeId} {a : Option Addr} {xs : List Value} (h : w.ownsRow base t c (.slice a n cap) n xs) (hg : g < base) : (Value.slice a n cap).ownBlock = none ∨ (Value.slice a n cap).ownBlock ≠ some g := by
  cases a with
  | none => exact .inl rfl
  | some x =>
    refine .inr fun e => ?_
    have := (h.lt g e).1
    omega
theorem sl_baseI {w w' : World} {a : Option Addr} {xs : List Int} {base : Nat} (h : Sl w a xs) (hb : Below base w w') (hlt : ∀ x, a = some x → x.block < base) : Sl w' a xs := fun i hi => by
  obtain ⟨b, off, ha, hc⟩ := h i hi
  exact ⟨b, off, ha, (hb.cell (p := ⟨b, off + i, none⟩) (hlt ⟨b, off, none⟩ ha)).trans hc⟩
theorem own_slI {w : World} {base n cap : Nat} {a : Option Addr} {xs : List Int} (h : w.ownsRow base 3 1 (.slice a n cap) n (xs.map (Value.int .i64))) : Sl w a xs := by
  obtain ⟨b, q, e, s, _⟩ := own_form h
  cases e
  exact s
theorem cell_one_new (w : World) (p : Value) (t : TypeId) : ∀ j u, [p][j]? = some u → (w.alloc (.cells #[p] t)).cell? ((⟨w.heap.size, 0, none⟩ : Addr).add j) = some u := by
  intro j u h
  rw [addr_add]
  match j, h with
  | 0, h => simp at h; subst h; simp
  | j + 1, h => simp at h
theorem ints_one (xs : List Int) : ∀ u ∈ xs.map (Value.int .i64), u.oneCell' = true := fun u hu => by
  obtain ⟨x, _, rfl⟩ := List.mem_map.1 hu
  rfl
theorem add_at (b off i : Nat) : (⟨b, off, none⟩ : Addr).add i = ⟨b, off + i, none⟩ := by unfold Addr.add; split <;> simp_all
/-- What lies from a place on. -/
theorem sl_seg {w : World} {b off : Nat} {xs : List Int} (h : Sl w (some ⟨b, off, none⟩) xs) (f m : Nat) : ∀ j u, (((xs.drop f).take m).map (Value.int .i64))[j]? = some u → w.cell? ((⟨b, off + f, none⟩ : Addr).add j) = some u := fun j u hu => by
  rw [add_at]
  rw [List.getElem?_map, List.getElem?_take] at hu
  split at hu
  · rw [List.getElem?_drop] at hu
    by_cases hj : f + j < xs.length
    · have := h.at (f + j) hj
      rw [List.getElem?_eq_getElem hj] at hu
      simp only [Option.map_some, Option.some.injEq] at hu
      rw [← hu, Nat.add_assoc, this, getD_eq hj]
    · rw [List.getElem?_eq_none (by omega)] at hu
      simp at hu
  · simp at hu
end Go.Proofs.Yticgejaaoamhmao.L4

namespace Go.Proofs.Yticgejaaoamhmao.L8
open Go.RowKit L1 L4
set_option linter.unusedVariables false

theorem blk_ltA {w : World} {p : Addr} {v : Value} (h : w.cell? p = some v) : p.block < w.heap.size := by
  by_cases hb : p.block < w.heap.size
  · exact hb
  · simp [World.cell?, Array.getElem?_eq_none (show w.heap.size ≤ p.block by omega)] at h
theorem blk_new (w : World) (o : Obj) : (w.alloc o).heap[w.heap.size]? = some o := by
  show (w.heap.push _)[w.heap.size]? = _
  simp
theorem own_lt {w : World} {base n c : Nat} {t : TypeId} {v : Value} {ys : List Value} (h : w.ownsRow base t c v n ys) (b : Nat) (hb : v.ownBlock = some b) : base ≤ b ∧ b < w.heap.size := by
  rcases h.2 with ⟨rfl, _⟩ | ⟨g, cap, cur, rfl, hbg, hg, r⟩
  · simp [Value.ownBlock] at hb
  · simp [Value.ownBlock] at hb
    subst hb
    exact ⟨hbg, (Array.getElem?_eq_some_iff.1 hg).1⟩
/-- Blocks of two types are two. -/
theorem own_two {w : World} {b1 b2 n1 n2 c1 c2 : Nat} {t1 t2 : TypeId} {v1 v2 : Value} {y1 y2 : List Value} (h1 : w.ownsRow b1 t1 c1 v1 n1 y1) (h2 : w.ownsRow b2 t2 c2 v2 n2 y2) (ht : t1 ≠ t2) (g : Nat) (e1 : v1.ownBlock = some g) : v2.ownBlock ≠ some g := by
  intro e2
  rcases h1.2 with ⟨rfl, _⟩ | ⟨g1, cap1, cur1, rfl, _, hg1, _⟩
  · simp [Value.ownBlock] at e1
  · rcases h2.2 with ⟨rfl, _⟩ | ⟨g2, cap2, cur2, rfl, _, hg2, _⟩
    · simp [Value.ownBlock] at e2
    · simp [Value.ownBlock] at e1 e2
      subst e1
      subst e2
      rw [hg1] at hg2
      simp at hg2
      exact ht hg2.2
theorem own_kept {w w' : World} {base c n : Nat} {t : TypeId} {v : Value} {xs : List Value} {r : Option Nat} (h : w.ownsRow base t c v n xs) (hg : w.grownBy w' r) (hne : ∀ g, v.ownBlock = some g → r ≠ some g) : w'.ownsRow base t c v n xs := by
  refine ⟨h.1, ?_⟩
  rcases h.2 with h0 | ⟨g, cap, cur, hv, hb, hh, rest⟩
  · exact .inl h0
  · refine .inr ⟨g, cap, cur, hv, hb, ?_, rest⟩
    rw [hg.block g (Array.getElem?_eq_some_iff.1 hh).1 (fun e => hne g (by rw [hv]; rfl) e.symm)]
    exact hh
theorem own_setC {w : World} {base n c : Nat} {t : TypeId} {v : Value} {ys : List Value} (h : w.ownsRow base t c v n ys) (p : Addr) (u : Value) (hp : p.block < base) : (w.setCell p u).ownsRow base t c v n ys := by
  refine ⟨h.1, ?_⟩
  rcases h.2 with h0 | ⟨g, cap, cur, rfl, hbg, hg, r⟩
  · exact .inl h0
  · exact .inr ⟨g, cap, cur, rfl, hbg, by rw [Below.heap_setCell _ _ _ _ (by omega)]; exact hg, r⟩
theorem grown_below {w w' : World} {r : Option Nat} (hb : Below w.heap.size w w') : w.grownBy w' r := ⟨hb.os, hb.tape, hb.output, hb.size, fun k hk _ => hb.block k hk⟩
theorem grown_cell {w w' : World} {r : Option Nat} (hg : w.grownBy w' r) (p : Addr) {v : Value} (h : w.cell? p = some v) (hne : some p.block ≠ r) : w'.cell? p = some v := by
  have := hg.block p.block (blk_ltA h) hne
  rw [← h]
  simp only [World.cell?, this]
theorem sl_grown {w w' : World} {r : Option Nat} {a : Option Addr} {xs : List Int} (h : Sl w a xs) (hg : w.grownBy w' r) (hne : ∀ x, a = some x → some x.block ≠ r) : Sl w' a xs := fun i hi => by
  obtain ⟨b, off, ha, hc⟩ := h i hi
  exact ⟨b, off, ha, grown_cell hg ⟨b, off + i, none⟩ hc (hne ⟨b, off, none⟩ ha)⟩
/-- Only blocks between two numbers, and new ones, are written into. -/
structure Only (lo hi : Nat) (w w' : World) : Prop where
  os : w'.os = w.os
  tape : w'.tape = w.tape
  output : w'.output = w.output
  size : w.heap.size ≤ w'.heap.size
  block : ∀ k, k < w.heap.size → (k < lo ∨ hi ≤ k) → w'.heap[k]? = w.heap[k]?
theorem Only.refl (lo hi : Nat) (w : World) : Only lo hi w w := ⟨rfl, rfl, rfl, Nat.le_refl _, fun _ _ _ => rfl⟩
theorem Only.trans {lo hi : Nat} {w w1 w2 : World} (h : Only lo hi w w1) (h2 : Only lo hi w1 w2) : Only lo hi w w2 :=
  ⟨h2.os.trans h.os, h2.tape.trans h.tape, h2.output.trans h.output, Nat.le_trans h.size h2.size, fun k hk ho => (h2.block k (Nat.lt_of_lt_of_le hk h.size) ho).trans (h.block k hk ho)⟩
theorem Only.of_below {lo hi : Nat} {w w' : World} (hb : Below w.heap.size w w') : Only lo hi w w' := ⟨hb.os, hb.tape, hb.output, hb.size, fun k hk _ => hb.block k hk⟩
theorem Only.cell {lo hi : Nat} {w w' : World} (h : Only lo hi w w') {p : Addr} {v : Value} (hc : w.cell? p = some v) (ho : p.block < lo ∨ hi ≤ p.block) : w'.cell? p = some v := by
  have := h.block p.block (blk_ltA hc) ho
  rw [← hc]
  simp only [World.cell?, this]
theorem Only.below {lo hi : Nat} {w w' : World} (h : Only lo hi w w') (hl : lo ≤ w.heap.size) : Below lo w w' := ⟨h.os, h.tape, h.output, h.size, fun k hk => h.block k (by omega) (.inl hk)⟩
theorem Only.grown {lo hi : Nat} {w w1 w2 : World} {r : Option Nat} (h : Only lo hi w w1) (hg : w1.grownBy w2 r) (hr : ∀ g, r = some g → lo ≤ g ∧ g < hi) : Only lo hi w w2 := by
  refine ⟨hg.os.trans h.os, hg.tape.trans h.tape, hg.output.trans h.output, Nat.le_trans h.size hg.size, fun k hk ho => (hg.block k (Nat.lt_of_lt_of_le hk h.size) (fun e => ?_)).trans (h.block k hk ho)⟩
  have := hr k e.symm
  omega
theorem Only.row {lo hi : Nat} {w w' : World} (h : Only lo hi w w') {base n c : Nat} {t : TypeId} {v : Value} {xs : List Value} (ho : w.ownsRow base t c v n xs) (hb : hi ≤ base) : w'.ownsRow base t c v n xs := by
  refine ⟨ho.1, ?_⟩
  rcases ho.2 with h0 | ⟨g, cap, cur, rfl, hbg, hg, r⟩
  · exact .inl h0
  · exact .inr ⟨g, cap, cur, rfl, hbg, by rw [h.block g (Array.getElem?_eq_some_iff.1 hg).1 (.inr (by omega))]; exact hg, r⟩

/-! Cells of structs, one behind the other. -/
theorem flat_len {α : Type} (f : α → List Value) (c : Nat) (hf : ∀ x, (f x).length = c) : ∀ L : List α, (L.flatMap f).length = L.length * c
  | [] => by simp
  | x :: L => by rw [List.flatMap_cons, List.length_append, hf, flat_len f c hf L, List.length_cons, Nat.succ_mul]; omega
theorem flat_get {α : Type} (f : α → List Value) (c : Nat) (hf : ∀ x, (f x).length = c) (d : α) : ∀ (L : List α) (i j : Nat), i < L.length → j < c → (L.flatMap f)[i * c + j]? = (f (L.getD i d))[j]?
  | [], i, j, h, _ => by simp at h
  | x :: L, 0, j, _, hj => by
    rw [List.flatMap_cons, Nat.zero_mul, Nat.zero_add, List.getElem?_append_left (by rw [hf]; exact hj)]
    rfl
  | x :: L, i + 1, j, h, hj => by
    have ih := flat_get f c hf d L i j (by simpa using h) hj
    rw [List.flatMap_cons, List.getElem?_append_right (by rw [hf, Nat.succ_mul]; omega), hf]
    rw [show (i + 1) * c + j - c = i * c + j by rw [Nat.succ_mul]; omega, ih]
    rfl
theorem flat_set {α : Type} (f : α → List Value) (c : Nat) (hf : ∀ x, (f x).length = c) (d : α) : ∀ (L : List α) (i j : Nat) (u : Value) (y : α), i < L.length → j < c → f y = (f (L.getD i d)).set j u → (L.flatMap f).set (i * c + j) u = (L.set i y).flatMap f
  | [], i, j, u, y, h, _, _ => by simp at h
  | x :: L, 0, j, u, y, _, hj, e => by
    have e' : f y = (f x).set j u := e
    rw [List.flatMap_cons, Nat.zero_mul, Nat.zero_add, List.set_append_left _ _ (by rw [hf]; exact hj), List.set_cons_zero, List.flatMap_cons, e']
  | x :: L, i + 1, j, u, y, h, hj, e => by
    have ih := flat_set f c hf d L i j u y (by simpa using h) hj (by simpa using e)
    rw [List.flatMap_cons, List.set_append_right _ _ (by rw [hf, Nat.succ_mul]; omega), hf]
    rw [show (i + 1) * c + j - c = i * c + j by rw [Nat.succ_mul]; omega, ih, List.set_cons_succ, List.flatMap_cons]
theorem getD_self {α : Type} (M : List α) (k : Nat) (p d : α) (h : k < M.length) : (M.set k p).getD k d = p := by simp [List.getD, h]
theorem getD_ne {α : Type} (M : List α) (k i : Nat) (p d : α) (h : i ≠ k) : (M.set k p).getD i d = M.getD i d := by simp [List.getD, Ne.symm h]
theorem set_twice {α : Type} (M : List α) (k : Nat) (p q : α) : (M.set k p).set k q = M.set k q := by simp
theorem keep2 {wa wb W : World} {N : Nat} {p0 p1 : Addr} {v0 v1 : Value} (h : (wa.cell? p0 = some v0 ∧ wa.cell? p1 = some v1) ∧ Below N W wa) (hb : Below wa.heap.size wa wb) (hN : N ≤ W.heap.size) : (wb.cell? p0 = some v0 ∧ wb.cell? p1 = some v1) ∧ Below N W wb := by
  obtain ⟨⟨h0, h1⟩, hz⟩ := h
  exact ⟨⟨(hb.cell (blk_ltA h0)).trans h0, (hb.cell (blk_ltA h1)).trans h1⟩, hz.trans (hb.mono (Nat.le_trans hN hz.size))⟩
theorem keep3 {wa wb W : World} {N : Nat} {p0 p1 p2 : Addr} {v0 v1 v2 : Value} (h : (wa.cell? p0 = some v0 ∧ wa.cell? p1 = some v1 ∧ wa.cell? p2 = some v2) ∧ Below N W wa) (hb : Below wa.heap.size wa wb) (hN : N ≤ W.heap.size) : (wb.cell? p0 = some v0 ∧ wb.cell? p1 = some v1 ∧ wb.cell? p2 = some v2) ∧ Below N W wb := by
  obtain ⟨⟨h0, h1, h2⟩, hz⟩ := h
  exact ⟨⟨(hb.cell (blk_ltA h0)).trans h0, (hb.cell (blk_ltA h1)).trans h1, (hb.cell (blk_ltA h2)).trans h2⟩, hz.trans (hb.mono (Nat.le_trans hN hz.size))⟩
theorem keep4 {wa wb W : World} {N : Nat} {p0 p1 p2 p3 : Addr} {v0 v1 v2 v3 : Value} (h : (wa.cell? p0 = some v0 ∧ wa.cell? p1 = some v1 ∧ wa.cell? p2 = some v2 ∧ wa.cell? p3 = some v3) ∧ Below N W wa) (hb : Below wa.heap.size wa wb) (hN : N ≤ W.heap.size) : (wb.cell? p0 = some v0 ∧ wb.cell? p1 = some v1 ∧ wb.cell? p2 = some v2 ∧ wb.cell? p3 = some v3) ∧ Below N W wb := by
  obtain ⟨⟨h0, h1, h2, h3⟩, hz⟩ := h
  exact ⟨⟨(hb.cell (blk_ltA h0)).trans h0, (hb.cell (blk_ltA h1)).trans h1, (hb.cell (blk_ltA h2)).trans h2, (hb.cell (blk_ltA h3)).trans h3⟩, hz.trans (hb.mono (Nat.le_trans hN hz.size))⟩
theorem keep5 {wa wb W : World} {N : Nat} {p0 p1 p2 p3 p4 : Addr} {v0 v1 v2 v3 v4 : Value} (h : (wa.cell? p0 = some v0 ∧ wa.cell? p1 = some v1 ∧ wa.cell? p2 = some v2 ∧ wa.cell? p3 = some v3 ∧ wa.cell? p4 = some v4) ∧ Below N W wa) (hb : Below wa.heap.size wa wb) (hN : N ≤ W.heap.size) : (wb.cell? p0 = some v0 ∧ wb.cell? p1 = some v1 ∧ wb.cell? p2 = some v2 ∧ wb.cell? p3 = some v3 ∧ wb.cell? p4 = some v4) ∧ Below N W wb := by
  obtain ⟨⟨h0, h1, h2, h3, h4⟩, hz⟩ := h
  exact ⟨⟨(hb.cell (blk_ltA h0)).trans h0, (hb.cell (blk_ltA h1)).trans h1, (hb.cell (blk_ltA h2)).trans h2, (hb.cell (blk_ltA h3)).trans h3, (hb.cell (blk_ltA h4)).trans h4⟩, hz.trans (hb.mono (Nat.le_trans hN hz.size))⟩
theorem keep6 {wa wb W : World} {N : Nat} {p0 p1 p2 p3 p4 p5 : Addr} {v0 v1 v2 v3 v4 v5 : Value} (h : (wa.cell? p0 = some v0 ∧ wa.cell? p1 = some v1 ∧ wa.cell? p2 = some v2 ∧ wa.cell? p3 = some v3 ∧ wa.cell? p4 = some v4 ∧ wa.cell? p5 = some v5) ∧ Below N W wa) (hb : Below wa.heap.size wa wb) (hN : N ≤ W.heap.size) : (wb.cell? p0 = some v0 ∧ wb.cell? p1 = some v1 ∧ wb.cell? p2 = some v2 ∧ wb.cell? p3 = some v3 ∧ wb.cell? p4 = some v4 ∧ wb.cell? p5 = some v5) ∧ Below N W wb := by
  obtain ⟨⟨h0, h1, h2, h3, h4, h5⟩, hz⟩ := h
  exact ⟨⟨(hb.cell (blk_ltA h0)).trans h0, (hb.cell (blk_ltA h1)).trans h1, (hb.cell (blk_ltA h2)).trans h2, (hb.cell (blk_ltA h3)).trans h3, (hb.cell (blk_ltA h4)).trans h4, (hb.cell (blk_ltA h5)).trans h5⟩, hz.trans (hb.mono (Nat.le_trans hN hz.size))⟩
theorem keep8 {wa wb W : World} {N : Nat} {p0 p1 p2 p3 p4 p5 p6 p7 : Addr} {v0 v1 v2 v3 v4 v5 v6 v7 : Value} (h : (wa.cell? p0 = some v0 ∧ wa.cell? p1 = some v1 ∧ wa.cell? p2 = some v2 ∧ wa.cell? p3 = some v3 ∧ wa.cell? p4 = some v4 ∧ wa.cell? p5 = some v5 ∧ wa.cell? p6 = some v6 ∧ wa.cell? p7 = some v7) ∧ Below N W wa) (hb : Below wa.heap.size wa wb) (hN : N ≤ W.heap.size) : (wb.cell? p0 = some v0 ∧ wb.cell? p1 = some v1 ∧ wb.cell? p2 = some v2 ∧ wb.cell? p3 = some v3 ∧ wb.cell? p4 = some v4 ∧ wb.cell? p5 = some v5 ∧ wb.cell? p6 = some v6 ∧ wb.cell? p7 = some v7) ∧ Below N W wb := by
  obtain ⟨⟨h0, h1, h2, h3, h4, h5, h6, h7⟩, hz⟩ := h
  exact ⟨⟨(hb.cell (blk_ltA h0)).trans h0, (hb.cell (blk_ltA h1)).trans h1, (hb.cell (blk_ltA h2)).trans h2, (hb.cell (blk_ltA h3)).trans h3, (hb.cell (blk_ltA h4)).trans h4, (hb.cell (blk_ltA h5)).trans h5, (hb.cell (blk_ltA h6)).trans h6, (hb.cell (blk_ltA h7)).trans h7⟩, hz.trans (hb.mono (Nat.le_trans hN hz.size))⟩
theorem keep10 {wa wb W : World} {N : Nat} {p0 p1 p2 p3 p4 p5 p6 p7 p8 p9 : Addr} {v0 v1 v2 v3 v4 v5 v6 v7 v8 v9 : Value} (h : (wa.cell? p0 = some v0 ∧ wa.cell? p1 = some v1 ∧ wa.cell? p2 = some v2 ∧ wa.cell? p3 = some v3 ∧ wa.cell? p4 = some v4 ∧ wa.cell? p5 = some v5 ∧ wa.cell? p6 = some v6 ∧ wa.cell? p7 = some v7 ∧ wa.cell? p8 = some v8 ∧ wa.cell? p9 = some v9) ∧ Below N W wa) (hb : Below wa.heap.size wa wb) (hN : N ≤ W.heap.size) : (wb.cell? p0 = some v0 ∧ wb.cell? p1 = some v1 ∧ wb.cell? p2 = some v2 ∧ wb.cell? p3 = some v3 ∧ wb.cell? p4 = some v4 ∧ wb.cell? p5 = some v5 ∧ wb.cell? p6 = some v6 ∧ wb.cell? p7 = some v7 ∧ wb.cell? p8 = some v8 ∧ wb.cell? p9 = some v9) ∧ Below N W wb := by
  obtain ⟨⟨h0, h1, h2, h3, h4, h5, h6, h7, h8, h9⟩, hz⟩ := h
  exact ⟨⟨(hb.cell (blk_ltA h0)).trans h0, (hb.cell (blk_ltA h1)).trans h1, (hb.cell (blk_ltA h2)).trans h2, (hb.cell (blk_ltA h3)).trans h3, (hb.cell (blk_ltA h4)).trans h4, (hb.cell (blk_ltA h5)).trans h5, (hb.cell (blk_ltA h6)).trans h6, (hb.cell (blk_ltA h7)).trans h7, (hb.cell (blk_ltA h8)).trans h8, (hb.cell (blk_ltA h9)).trans h9⟩, hz.trans (hb.mono (Nat.le_trans hN hz.size))⟩
end Go.Proofs.Yticgejaaoamhmao.L8

namespace Go.Proofs.Yticgejaaoamhmao.Own
open Go.RowKit L1
set_option linter.unusedVariables false

abbrev nilV : Value := .slice none 0 0
def InS (S : Nat → Prop) (v : Value) : Prop := ∀ q, v.ownBlock = some q → S q
structure Kept (S : Nat → Prop) (w w' : World) : Prop where
  os : w'.os = w.os
  tape : w'.tape = w.tape
  output : w'.output = w.output
  size : w.heap.size ≤ w'.heap.size
  block : ∀ q, q < w.heap.size → ¬ S q → w'.heap[q]? = w.heap[q]?
theorem Kept.refl (S : Nat → Prop) (w : World) : Kept S w w := ⟨rfl, rfl, rfl, Nat.le_refl _, fun _ _ _ => rfl⟩
theorem Kept.trans {S T : Nat → Prop} {a b c : World} (h : Kept S a b) (k : Kept T b c) (hT : ∀ q, q < a.heap.size → T q → S q) : Kept S a c :=
  ⟨k.os.trans h.os, k.tape.trans h.tape, k.output.trans h.output, Nat.le_trans h.size k.size, fun q hq hn => (k.block q (by have := h.size; omega) (fun t => hn (hT q hq t))).trans (h.block q hq hn)⟩
theorem kept_below {S : Nat → Prop} {w w' : World} (h : Below w.heap.size w w') : Kept S w w' := ⟨h.os, h.tape, h.output, h.size, fun q hq _ => h.block q hq⟩
theorem kept_grown {S : Nat → Prop} {w w' : World} {row : Option Nat} (h : w.grownBy w' row) (hr : ∀ q, row = some q → S q) : Kept S w w' :=
  ⟨h.os, h.tape, h.output, h.size, fun q hq hn => h.block q hq (fun e => hn (hr q e.symm))⟩
theorem Kept.set {S : Nat → Prop} {w w1 : World} (h : Kept S w w1) (p : Addr) (v : Value) (hp : S p.block ∨ w.heap.size ≤ p.block) : Kept S w (w1.setCell p v) := by
  have h0 := (Below.refl 0 w1).setCell (p := p) (Nat.zero_le _) v
  refine ⟨h0.os.trans h.os, h0.tape.trans h.tape, h0.output.trans h.output, Nat.le_trans h.size h0.size, fun q hq hn => ?_⟩
  have hne : q ≠ p.block := fun e => by
    subst e
    rcases hp with hp | hp
    · exact hn hp
    · omega
  exact (Below.heap_setCell _ _ _ _ hne).trans (h.block q hq hn)
/-- What was kept and what is new. -/
def Grow (S : Nat → Prop) (w w' : World) (q : Nat) : Prop := S q ∨ (w.heap.size ≤ q ∧ q < w'.heap.size)
theorem grow_lt {S : Nat → Prop} {w w' : World} (hS : ∀ q, S q → q < w.heap.size) (h : w.heap.size ≤ w'.heap.size) : ∀ q, Grow S w w' q → q < w'.heap.size := fun q hq => by
  rcases hq with hq | hq
  · have := hS q hq; omega
  · exact hq.2
theorem own_at {w w' : World} {base c n : Nat} {t : TypeId} {v : Value} {xs : List Value} (h : w.ownsRow base t c v n xs) (hb : ∀ q, v.ownBlock = some q → w'.heap[q]? = w.heap[q]?) : w'.ownsRow base t c v n xs := by
  refine ⟨h.1, ?_⟩
  rcases h.2 with h0 | ⟨g, cap, cur, hv, hg, hh, rest⟩
  · exact .inl h0
  · exact .inr ⟨g, cap, cur, hv, hg, by rw [hb g (by rw [hv]; rfl)]; exact hh, rest⟩
theorem own_ltO {w : World} {base c n : Nat} {t : TypeId} {v : Value} {xs : List Value} (h : w.ownsRow base t c v n xs) (q : Nat) (hq : v.ownBlock = some q) : q < w.heap.size := by
  rcases h.2 with ⟨hv, _⟩ | ⟨g, cap, cur, hv, hg, hh, rest⟩
  · rw [hv] at hq; cases hq
  · rw [hv] at hq
    cases hq
    exact (Array.getElem?_eq_some_iff.1 hh).1
theorem own_zero {w : World} {base c n : Nat} {t : TypeId} {v : Value} {xs : List Value} (h : w.ownsRow base t c v n xs) : w.ownsRow 0 t c v n xs := by
  refine ⟨h.1, ?_⟩
  rcases h.2 with h0 | ⟨g, cap, cur, hv, _, r⟩
  · exact .inl h0
  · exact .inr ⟨g, cap, cur, hv, Nat.zero_le _, r⟩
theorem own_from {w : World} {base c n : Nat} {t : TypeId} {v : Value} {xs : List Value} (h : w.ownsRow 0 t c v n xs) (hb : ∀ q, v.ownBlock = some q → base ≤ q) : w.ownsRow base t c v n xs := by
  refine ⟨h.1, ?_⟩
  rcases h.2 with h0 | ⟨g, cap, cur, hv, _, r⟩
  · exact .inl h0
  · exact .inr ⟨g, cap, cur, hv, hb g (by rw [hv]; rfl), r⟩
theorem own_ge {w : World} {base c n : Nat} {t : TypeId} {v : Value} {xs : List Value} (h : w.ownsRow base t c v n xs) (q : Nat) (hq : v.ownBlock = some q) : base ≤ q := by
  rcases h.2 with ⟨hv, _⟩ | ⟨g, cap, cur, hv, hg, hh, rest⟩
  · rw [hv] at hq; cases hq
  · rw [hv] at hq
    cases hq
    exact hg

theorem grow_refl {S : Nat → Prop} {w : World} {q : Nat} (h : S q) : Grow S w w q := .inl h
theorem own_belO {w w' : World} {base n : Nat} {t : TypeId} {c : Nat} {v : Value} {ys : List Value} (h : w.ownsRow base t c v n ys) (hb : Below w.heap.size w w') : w'.ownsRow base t c v n ys := own_at h fun q hq => hb.block q (own_ltO h q hq)
theorem own_setO {w : World} {base n c : Nat} {t : TypeId} {v : Value} {ys : List Value} (h : w.ownsRow base t c v n ys) (p : Addr) (u : Value) (hp : p.block < base) : (w.setCell p u).ownsRow base t c v n ys :=
  own_at h fun q hq => Below.heap_setCell _ _ _ _ (fun e => by have := own_ge h q hq; have e' : q = p.block := e; omega)
theorem own_pastO {w w' : World} {base c n : Nat} {t : TypeId} {v u : Value} {xs : List Value} (ho : w.ownsRow base t c v n xs) (hg : w.grownBy w' u.ownBlock) (hq : ∀ q, v.ownBlock = some q → u.ownBlock ≠ some q) : w'.ownsRow base t c v n xs := own_at ho fun q e => hg.block q (own_ltO ho q e) (fun e2 => hq q e e2.symm)
theorem own_twoO {w : World} {b1 b2 n1 n2 c1 c2 : Nat} {t1 t2 : TypeId} {v1 v2 : Value} {y1 y2 : List Value} (h1 : w.ownsRow b1 t1 c1 v1 n1 y1) (h2 : w.ownsRow b2 t2 c2 v2 n2 y2) (ht : t1 ≠ t2) (g : Nat) (e1 : v1.ownBlock = some g) : v2.ownBlock ≠ some g := fun e2 => by
  rcases h1.2 with ⟨hv, _⟩ | ⟨q1, cap1, cur1, hv1, _, hh1, _⟩
  · rw [hv] at e1; cases e1
  · rcases h2.2 with ⟨hv, _⟩ | ⟨q2, cap2, cur2, hv2, _, hh2, _⟩
    · rw [hv] at e2; cases e2
    · rw [hv1] at e1
      rw [hv2] at e2
      have e1' : q1 = g := Option.some.inj e1
      have e2' : q2 = g := Option.some.inj e2
      rw [e1'] at hh1
      rw [e2', hh1] at hh2
      simp at hh2
      exact ht hh2.2
theorem own_boxO {w : World} {base n c : Nat} {t tb : TypeId} {v : Value} {ys : List Value} {b : Nat} {cur : Array Value} (h : w.ownsRow base t c v n ys) (hb : w.heap[b]? = some (.cells cur tb (0, 0))) (ht : tb ≠ t) : v.ownBlock ≠ some b := fun e => by
  rcases h.2 with ⟨hv, _⟩ | ⟨q1, cap1, cur1, hv1, _, hh1, _⟩
  · rw [hv] at e; cases e
  · rw [hv1] at e
    have e' : q1 = b := Option.some.inj e
    rw [e', hb] at hh1
    simp at hh1
    exact ht hh1.2
theorem own_shapeO {w : World} {base c n : Nat} {t : TypeId} {v : Value} {xs : List Value} (h : w.ownsRow base t c v n xs) : ∃ a cap, v = .slice a n cap := by
  rcases h.2 with ⟨hv, h0⟩ | ⟨g, cap, cur, hv, _⟩
  · exact ⟨none, 0, by rw [hv, h0]⟩
  · exact ⟨_, cap, hv⟩
theorem blk_ltO {w : World} {p : Addr} {v : Value} (h : w.cell? p = some v) : p.block < w.heap.size := by
  by_cases hb : p.block < w.heap.size
  · exact hb
  · simp [World.cell?, Array.getElem?_eq_none (show w.heap.size ≤ p.block by omega)] at h
theorem blk_newO (w : World) (o : Obj) : (w.alloc o).heap[w.heap.size]? = some o := by
  show (w.heap.push o)[w.heap.size]? = some o
  simp
theorem heap_boxO {w : World} {b : Nat} {cur : Array Value} {t : TypeId} (h : w.heap[b]? = some (.cells cur t (0, 0))) (j : Nat) (u : Value) : (w.setCell ⟨b, j, none⟩ u).heap[b]? = some (.cells (cur.setIfInBounds j u) t (0, 0)) := heap_setCell_same w b j cur t u h
theorem frzO {w : World} {b : Nat} {cur : Array Value} {t : TypeId} (h : w.heap[b]? = some (.cells cur t (0, 0))) (i : Nat) : w.frozen? ⟨b, i, none⟩ = false := by
  simp [World.frozen?, h]
theorem blk5 {w : World} {b : Nat} {c0 c1 c2 c3 c4 : Value} {t : TypeId} (h : w.heap[b]? = some (.cells #[c0, c1, c2, c3, c4] t (0, 0))) : w.cell? ⟨b, 0, none⟩ = some c0 ∧ w.cell? ⟨b, 1, none⟩ = some c1 ∧ w.cell? ⟨b, 2, none⟩ = some c2 ∧ w.cell? ⟨b, 3, none⟩ = some c3 ∧ w.cell? ⟨b, 4, none⟩ = some c4 := by
  simp [World.cell?, h]
theorem bel_keptO {S : Nat → Prop} {w1 w2 w3 : World} (h : Below w1.heap.size w1 w2) (k : Kept S w2 w3) (hS : ∀ q, S q → w1.heap.size ≤ q) : Below w1.heap.size w1 w3 :=
  ⟨k.os.trans h.os, k.tape.trans h.tape, k.output.trans h.output, Nat.le_trans h.size k.size, fun q hq => (k.block q (by have := h.size; omega) (fun s => by have := hS q s; omega)).trans (h.block q hq)⟩
end Go.Proofs.Yticgejaaoamhmao.Own
