/-
  Plain mathematics of chapter 1: a number's digits to 128, their count, and how they are read back. Nothing of Go stands here.
  Small lemmas that the contracts of chapter 1 share. Nothing of the program's text is proved here but closed facts on its types.
  Lists of ints in memory. Nothing of the program's text is proved here but closed facts on its types.
  Plain mathematics: the digits of some numbers, one behind the other; numbers within their bounds.
  Plain mathematics: the numbers of a text, one behind the other. Nothing of Go stands here.
  Plain mathematics: what is put comes back, each number in one form alone, and smaller ones need no more. Nothing of Go stands here.
  Plain mathematics of chapter 2: differences and running sums of numbers; good samples; the numbers of a chunk, and the samples that they tell. Nothing of Go stands here.
  Lists of samples in memory; impl.withinLimits.
-/
import Derived.KernelRfl
import Derived.Test.YtapffbbmofhpoaaDoorChecked
import Derived.WalkKit
import Derived.ProofKit
import Derived.OpenShut
import Derived.Laws.BytesArg
import Derived.WalkSpells
import Derived.WalkLawsBesides
import Derived.Deep.QuietTactic
import Derived.BigQuiet
import Derived.Deep.RegionHeld3
namespace Go.Proofs.YtapffbbmofhpoaaDoor.L1

def zig (n : Int) : Int := if n < 0 then -2 * n - 1 else 2 * n
def zag (z : Int) : Int := if z % 2 = 1 then -((z + 1) / 2) else z / 2

theorem zag_zig (n : Int) : zag (zig n) = n := by unfold zag zig; split <;> split <;> omega
theorem zig_zag (z : Int) (h : 0 ≤ z) : zig (zag z) = z := by unfold zag zig; split <;> split <;> omega
theorem zig_lo (n : Int) : 0 ≤ zig n := by unfold zig; split <;> omega
theorem zig_hi (n : Int) (h1 : -1000000000000 ≤ n) (h2 : n ≤ 1000000000000) : zig n ≤ 2000000000000 := by unfold zig; split <;> omega
theorem zag_lo (z : Int) (h : 0 ≤ z) (h2 : z ≤ 2000000000000) : -1000000000000 ≤ zag z ∧ zag z ≤ 1000000000000 := by unfold zag; split <;> omega

/-- The worth of the k-th digit. -/
def wor : Nat → Int
  | 0 => 1
  | k + 1 => 128 * wor k
theorem wor_pos (k : Nat) : 1 ≤ wor k := by
  induction k with
  | zero => simp [wor]
  | succ k ih => simp only [wor]; omega

/-- The digits to 128, the lowest first, all but the last with 128 more. -/
def vdf : Nat → Int → List Int
  | 0, z => [z]
  | f + 1, z => if z < 128 then [z] else (128 + z % 128) :: vdf f (z / 128)
def vd (z : Int) : List Int := vdf 5 z

theorem vdf_pos (f : Nat) (z : Int) : 1 ≤ (vdf f z).length := by
  cases f with
  | zero => simp [vdf]
  | succ f => simp only [vdf]; split <;> simp
theorem vdf_le (f : Nat) (z : Int) : (vdf f z).length ≤ f + 1 := by
  induction f generalizing z with
  | zero => simp [vdf]
  | succ f ih =>
    simp only [vdf]; split
    · simp
    · have := ih (z / 128); simp; omega

/-- How many digits there are: one more where the number is not less than the next one's worth. -/
theorem vdf_len (f : Nat) : ∀ (z : Int) (k : Nat), 0 ≤ z → 1 ≤ k → (k < (vdf f z).length ↔ k ≤ f ∧ wor k ≤ z) := by
  induction f with
  | zero => intro z k hz hk; simp [vdf]; omega
  | succ f ih =>
    intro z k hz hk
    obtain ⟨k, rfl⟩ : ∃ j, k = j + 1 := ⟨k - 1, by omega⟩
    have hw : wor (k + 1) = 128 * wor k := rfl
    have hp := wor_pos k
    simp only [vdf]
    split
    · simp; omega
    · rename_i hlt
      cases k with
      | zero => have := vdf_pos f (z / 128); simp [wor]; omega
      | succ j =>
        have h := ih (z / 128) (j + 1) (by omega) (by omega)
        simp only [List.length_cons]
        constructor
        · intro h2; have := h.1 (by omega); omega
        · intro h2; have := h.2 (by omega); omega

/-- Each digit by its worth. -/
theorem vdf_get (f : Nat) : ∀ (z : Int) (k : Nat), 0 ≤ z → z < wor (f + 1) → k < (vdf f z).length →
    (vdf f z).getD k 0 = z / wor k % 128 + (if k + 1 < (vdf f z).length then 128 else 0) := by
  induction f with
  | zero =>
    intro z k hz hz2 hk
    simp [vdf] at hk
    subst hk
    simp [wor] at hz2
    simp [vdf, wor]
    omega
  | succ f ih =>
    intro z k hz hz2 hk
    have hw : wor (f + 1 + 1) = 128 * wor (f + 1) := rfl
    by_cases hlt : z < 128
    · simp only [vdf, if_pos hlt] at hk ⊢
      simp at hk
      subst hk
      simp [wor]
      omega
    · simp only [vdf, if_neg hlt] at hk ⊢
      cases k with
      | zero =>
        have := vdf_pos f (z / 128)
        simp [wor]
        rw [if_pos (by omega)]
        omega
      | succ k =>
        simp only [List.length_cons] at hk ⊢
        have h := ih (z / 128) k (by omega) (by omega) (by omega)
        have e : z / wor (k + 1) = z / 128 / wor k := by
          show z / (128 * wor k) = _
          rw [Int.ediv_ediv_of_nonneg (by omega)]
        simp only [List.getD_cons_succ, h, e]
        congr 1
        by_cases h2 : k + 1 < (vdf f (z / 128)).length
        · rw [if_pos h2, if_pos (by omega)]
        · rw [if_neg h2, if_neg (by omega)]

theorem vdf_byte (f : Nat) : ∀ (z : Int), 0 ≤ z → z < wor (f + 1) → ∀ x ∈ vdf f z, 0 ≤ x ∧ x < 256 := by
  induction f with
  | zero => intro z h1 h2 x hx; simp [wor] at h2; simp [vdf] at hx; omega
  | succ f ih =>
    intro z h1 h2 x hx
    have hw : wor (f + 1 + 1) = 128 * wor (f + 1) := rfl
    simp only [vdf] at hx
    split at hx
    · simp at hx; omega
    · simp only [List.mem_cons] at hx
      rcases hx with hx | hx
      · omega
      · exact ih (z / 128) (by omega) (by omega) x hx

/-! What is read back -/
def val : List Int → Int
  | [] => 0
  | x :: l => x % 128 + 128 * val l

theorem val_nonneg : ∀ l, 0 ≤ val l
  | [] => by simp [val]
  | x :: l => by have := val_nonneg l; simp only [val]; omega
theorem val_snoc (l : List Int) (x : Int) : val (l ++ [x]) = val l + x % 128 * wor l.length := by
  induction l with
  | nil => simp [val, wor]
  | cons y l ih =>
    simp only [List.cons_append, val, ih, List.length_cons, wor]
    rw [Int.mul_add, ← Int.mul_assoc, ← Int.mul_assoc, Int.mul_comm (x % 128) 128, Int.add_assoc]
theorem val_lt (l : List Int) : val l < wor l.length := by
  induction l with
  | nil => simp [val, wor]
  | cons y l ih => simp only [val, List.length_cons, wor]; omega

/-- All bytes have 128 more. -/
def Hi (l : List Int) : Prop := ∀ x ∈ l, 128 ≤ x ∧ x < 256

/-- What is read of its digits is the number with these digits just if the last one is not nought, or alone. -/
theorem vdf_val (f : Nat) : ∀ (l : List Int) (x : Int), Hi l → 0 ≤ x → x < 128 → l.length ≤ f →
    (vdf f (val (l ++ [x])) = l ++ [x] ↔ (l = [] ∨ x ≠ 0)) := by
  induction f with
  | zero =>
    intro l x hl h1 h2 hf
    obtain rfl : l = [] := List.eq_nil_of_length_eq_zero (by omega)
    simp [val, vdf]
    omega
  | succ f ih =>
    intro l x hl h1 h2 hf
    cases l with
    | nil =>
      have e : x % 128 = x := by omega
      simp only [List.nil_append, val, vdf, e]
      rw [if_pos (by omega)]
      simp
    | cons y l =>
      have hy := hl y (by simp)
      have hl' : Hi l := fun u hu => hl u (by simp [hu])
      have hi := ih l x hl' h1 h2 (by simp at hf; omega)
      have hn := val_nonneg (l ++ [x])
      simp only [List.cons_append, val, vdf]
      have e2 : (y % 128 + 128 * val (l ++ [x])) / 128 = val (l ++ [x]) := by omega
      have e3 : 128 + (y % 128 + 128 * val (l ++ [x])) % 128 = y := by omega
      by_cases hx : x = 0
      · constructor
        · intro h
          exfalso
          split at h
          · simp at h
          · rw [e2, e3] at h
            injection h with _ h
            have := hi.1 h
            rcases this with h3 | h3
            · subst h3
              simp only [List.nil_append, val, hx] at *
              omega
            · exact h3 hx
        · intro h; simp at h; exact absurd hx h
      · have hpos : 1 ≤ val (l ++ [x]) := by
          rw [val_snoc]
          have := wor_pos l.length
          have h4 := val_nonneg l
          have e : x % 128 = x := by omega
          rw [e]
          have : 1 * 1 ≤ x * wor l.length := Int.mul_le_mul (by omega) this (by omega) (by omega)
          omega
        rw [if_neg (by omega), e2, e3]
        simp only [List.cons.injEq, true_and]
        rw [hi]
        simp [hx]

/-! Reading a number from the front of bytes -/
def MV2 : Int := 2000000000000
/-- Of some bytes read already (each with 128 more) and those that follow: the bytes of the number that ends first; none where it is no number's form. -/
def gvf : Nat → List Int → List Int → Option (List Int)
  | 0, _, _ => none
  | _ + 1, _, [] => none
  | f + 1, pre, x :: r => if 128 ≤ x then gvf f (pre ++ [x]) r else if val (pre ++ [x]) ≤ 2000000000000 ∧ (pre = [] ∨ x ≠ 0) then some (pre ++ [x]) else none
def gv (t : List Int) : Option (List Int) := gvf 6 [] t

theorem take_one (t : List Int) (k : Nat) (h : k < t.length) : t.take (k + 1) = t.take k ++ [t.getD k 0] := by
  rw [List.take_succ_eq_append_getElem h]; simp [List.getD, List.getElem?_eq_getElem h]
theorem drop_one (t : List Int) (k : Nat) (h : k < t.length) : t.drop k = t.getD k 0 :: t.drop (k + 1) := by
  rw [List.drop_eq_getElem_cons h]; simp [List.getD, List.getElem?_eq_getElem h]

theorem gvf_on {t : List Int} {k : Nat} (h : k < t.length) (h6 : k < 6) (hx : 128 ≤ t.getD k 0) :
    gvf (6 - k) (t.take k) (t.drop k) = gvf (6 - (k + 1)) (t.take (k + 1)) (t.drop (k + 1)) := by
  obtain ⟨f, hf⟩ : ∃ f, 6 - k = f + 1 := ⟨5 - k, by omega⟩
  have hf2 : 6 - (k + 1) = f := by omega
  rw [hf, hf2, drop_one t k h, take_one t k h]
  simp only [gvf]
  rw [if_pos hx]
theorem gvf_stop {t : List Int} {k : Nat} (h : k < t.length) (h6 : k < 6) (hx : t.getD k 0 < 128) :
    gvf (6 - k) (t.take k) (t.drop k) = if val (t.take (k + 1)) ≤ 2000000000000 ∧ (k = 0 ∨ t.getD k 0 ≠ 0) then some (t.take (k + 1)) else none := by
  obtain ⟨f, hf⟩ : ∃ f, 6 - k = f + 1 := ⟨5 - k, by omega⟩
  rw [hf, drop_one t k h, take_one t k h]
  simp only [gvf]
  rw [if_neg (by omega)]
  have e : (t.take k = []) ↔ k = 0 := by
    constructor
    · intro h2
      have hl : (t.take k).length = k := by simp; omega
      rw [h2] at hl
      simp at hl
      omega
    · intro h2; simp [h2]
  simp only [e]
theorem gvf_six {t : List Int} {k : Nat} (h6 : 6 ≤ k) : gvf (6 - k) (t.take k) (t.drop k) = none := by
  rw [show 6 - k = 0 by omega]; rfl
theorem gvf_end {t : List Int} {k : Nat} (h : t.length ≤ k) : gvf (6 - k) (t.take k) (t.drop k) = none := by
  rw [List.drop_eq_nil_of_le h]
  cases 6 - k <;> rfl

/-- Whether digits are a number's own: by holding its digits against them, or by the last one. -/
theorem form_iff {t : List Int} {k : Nat} (h : k < t.length) (hhi : Hi (t.take k)) (h0 : 0 ≤ t.getD k 0) (hx : t.getD k 0 < 128) :
    (vd (val (t.take (k + 1))) = t.take (k + 1)) ↔ (k < 6 ∧ (k = 0 ∨ t.getD k 0 ≠ 0)) := by
  rw [take_one t k h]
  have hl : (t.take k).length = k := by simp; omega
  by_cases h6 : k < 6
  · have := vdf_val 5 (t.take k) (t.getD k 0) hhi h0 hx (by omega)
    unfold vd
    rw [this]
    have e : (t.take k = []) ↔ k = 0 := by
      constructor
      · intro h2; rw [h2] at hl; simp at hl; omega
      · intro h2; simp [h2]
    rw [e]
    simp [h6]
  · constructor
    · intro h2
      have h3 := congrArg List.length h2
      have h4 := vdf_le 5 (val (t.take k ++ [t.getD k 0]))
      unfold vd at h3
      rw [h3] at h4
      simp only [List.length_append, hl, List.length_cons, List.length_nil] at h4
      omega
    · intro h2; omega

theorem vd_sep (k : Nat) (t : List Int) (h : k < t.length) (h6 : k < 7) (hhi : Hi (t.take k)) (h0 : 0 ≤ t.getD k 0) (hx : t.getD k 0 < 128) :
    gvf (6 - k) (t.take k) (t.drop k) = if val (t.take (k + 1)) ≤ 2000000000000 ∧ vd (val (t.take (k + 1))) = t.take (k + 1) then some (t.take (k + 1)) else none := by
  by_cases h5 : k < 6
  · rw [gvf_stop h h5 hx]
    have := form_iff h hhi h0 hx
    simp only [this, h5, true_and]
  · rw [gvf_six (by omega)]
    have := form_iff h hhi h0 hx
    rw [if_neg]
    intro ⟨_, h2⟩
    have := this.1 h2
    omega
theorem val_take (t : List Int) (k : Nat) (h : k < t.length) : val (t.take (k + 1)) = val (t.take k) + t.getD k 0 % 128 * wor k := by
  rw [take_one t k h, val_snoc]
  have hl : (t.take k).length = k := by simp; omega
  rw [hl]
theorem val_bd (t : List Int) (k : Nat) (h : k ≤ t.length) : 0 ≤ val (t.take k) ∧ val (t.take k) < wor k := by
  have hl : (t.take k).length = k := by simp; omega
  have := val_lt (t.take k)
  rw [hl] at this
  exact ⟨val_nonneg _, this⟩
theorem hi_take {t : List Int} {k : Nat} (h : k < t.length) (hhi : Hi (t.take k)) (hx : 128 ≤ t.getD k 0) (h2 : t.getD k 0 < 256) : Hi (t.take (k + 1)) := by
  rw [take_one t k h]
  intro x hm
  simp only [List.mem_append, List.mem_singleton] at hm
  rcases hm with hm | hm
  · exact hhi x hm
  · subst hm; exact ⟨hx, h2⟩
theorem wor_le {j k : Nat} (h : j ≤ k) : wor j ≤ wor k := by
  induction k with
  | zero => obtain rfl : j = 0 := by omega
            exact Int.le_refl _
  | succ k ih =>
    by_cases e : j = k + 1
    · subst e; exact Int.le_refl _
    · have := ih (by omega)
      have hp := wor_pos k
      have hw : wor (k + 1) = 128 * wor k := rfl
      omega
/-- A digit by its worth does not run over. -/
theorem digit_bd (b : Int) (k : Nat) (hk : k < 7) : 0 ≤ b % 128 * wor k ∧ b % 128 * wor k ≤ 562949953421311 := by
  have h1 := wor_pos k
  have h2 : wor k ≤ wor 6 := wor_le (by omega)
  have h3 : wor 6 = 4398046511104 := by simp [wor]
  have hb0 : 0 ≤ b % 128 := by omega
  have hb1 : b % 128 ≤ 127 := by omega
  refine ⟨Int.mul_nonneg hb0 (by omega), ?_⟩
  have := Int.mul_le_mul hb1 (show wor k ≤ 4398046511104 by omega) (by omega) (by omega)
  omega
theorem val_bd7 (t : List Int) (k : Nat) (h : k ≤ t.length) (hk : k < 8) : 0 ≤ val (t.take k) ∧ val (t.take k) ≤ 562949953421311 := by
  have h1 := val_bd t k h
  have h2 : wor k ≤ wor 7 := wor_le (by omega)
  have h3 : wor 7 = 562949953421312 := by simp [wor]
  omega
end Go.Proofs.YtapffbbmofhpoaaDoor.L1

namespace Go.Proofs.YtapffbbmofhpoaaDoor.L1
open Go.RowKit
set_option linter.unusedVariables false

theorem hide {p : Prop} (h : p) : Hid p := h
theorem unhide {p : Prop} (h : Hid p) : p := h
theorem ret_int {k : IntKind} {a b : Int} (h : a = b) : Ending.returned (.int k a) = .returned (.int k b) := by rw [h]
theorem addr_add (g i : Nat) : (⟨g, 0, none⟩ : Addr).add i = ⟨g, i, none⟩ := by unfold Addr.add; split <;> simp_all

/-- What a walk is told of a slice of integers that came in: it is nil; or it leads to a row of 'cap' cells, the numbers 'zs' (the first 'len' are its elements), each fitting its kind. -/
def IsRow (k : IntKind) (w : World) (a : Option Addr) (len cap : Nat) (zs : List Int) : Prop :=
  (a = none ∧ len = 0 ∧ cap = 0 ∧ zs = []) ∨
  ∃ x, a = some x ∧ len ≤ cap ∧ cap ≤ maxLen ∧ zs.length = cap ∧ (∀ i, i < zs.length → w.cell? (x.add i) = some (.int k (zs.getD i 0))) ∧ ∀ n ∈ zs, (Lit.int k n).wf = true
end Go.Proofs.YtapffbbmofhpoaaDoor.L1

namespace Go.Proofs.YtapffbbmofhpoaaDoor.L1
open Go.RowKit
set_option linter.unusedVariables false

theorem info_int : (Tryd.prog.info? 3).map (fun i => (i.zero, i.size, i.bytes)) = some (some (.int .i64 0), 1, 8) := by kernel_rfl

/-- A list of ints lies in memory from an address on. -/
def Sl (w : World) (a : Option Addr) (xs : List Int) : Prop := ∀ i, i < xs.length → ∃ b off, a = some ⟨b, off, none⟩ ∧ w.cell? ⟨b, off + i, none⟩ = some (.int .i64 (xs.getD i 0))

theorem blk_lt {w : World} {b o : Nat} {v : Value} (h : w.cell? ⟨b, o, none⟩ = some v) : b < w.heap.size := by
  by_cases hb : b < w.heap.size
  · exact hb
  · simp [World.cell?, Array.getElem?_eq_none (show w.heap.size ≤ b by omega)] at h
theorem Sl.below {w w' : World} {a : Option Addr} {xs : List Int} (h : Sl w a xs) (hb : Below w.heap.size w w') : Sl w' a xs := fun i hi => by
  obtain ⟨b, off, ha, hc⟩ := h i hi
  refine ⟨b, off, ha, ?_⟩
  rw [hb.cell (p := ⟨b, off + i, none⟩) (blk_lt hc)]
  exact hc
theorem Sl.at {w : World} {b off : Nat} {xs : List Int} (h : Sl w (some ⟨b, off, none⟩) xs) (i : Nat) (hi : i < xs.length) : w.cell? ⟨b, off + i, none⟩ = some (.int .i64 (xs.getD i 0)) := by
  obtain ⟨b', off', ha, hc⟩ := h i hi
  simp at ha
  obtain ⟨rfl, rfl⟩ := ha
  exact hc
theorem sl_of_own {w : World} {base g n cap : Nat} {xs : List Int} (h : w.ownsRow base 3 1 (.slice (some ⟨g, 0, none⟩) n cap) n (xs.map (Value.int .i64))) : Sl w (some ⟨g, 0, none⟩) xs := fun i hi => by
  have := h.cells (g := g) rfl i (.int .i64 (xs.getD i 0)) (by
    rw [List.getElem?_map, List.getElem?_eq_getElem hi]
    simp [List.getD, List.getElem?_eq_getElem hi])
  rw [addr_add] at this
  exact ⟨g, 0, rfl, by simpa using this⟩
theorem sl_of_row {w : World} {a : Option Addr} {len cap : Nat} {zs : List Int} (h : IsRow .i64 w a len cap zs) : Sl w a (zs.take len) ∧ (zs.take len).length = len ∧ len ≤ maxLen := by
  rcases h with ⟨rfl, rfl, rfl, rfl⟩ | ⟨x, rfl, hl, hm, hz, hc, _⟩
  · exact ⟨fun i hi => by simp at hi, by simp, by unfold maxLen; omega⟩
  · refine ⟨fun i hi => ?_, by simp; omega, by omega⟩
    have hi' : i < zs.length := by simp at hi; omega
    have hil : i < len := by simp at hi; omega
    have h0 := hc i hi'
    obtain ⟨b, off, spot⟩ := x
    have hspot : spot = none := by
      have h00 := hc 0 (by omega)
      simpa [Addr.add] using World.cell?_spot h00
    subst hspot
    refine ⟨b, off, rfl, ?_⟩
    have e : (⟨b, off, none⟩ : Addr).add i = ⟨b, off + i, none⟩ := by unfold Addr.add; split <;> simp_all
    rw [e] at h0
    rw [h0]
    simp [List.getD, hil]

theorem made_ints (n : Nat) : (madeCells (Value.int .i64 0).cells (n * 1)).toList = (List.replicate n (0 : Int)).map (Value.int .i64) := by
  rw [Nat.mul_one]
  show (madeCells #[Value.int .i64 0] n).toList = _
  rw [toList_madeCells_one]
  simp

/-- One round of the copy. -/
theorem copy_round {w wr : World} {xs ys : List Int} {m k : Nat} (hlt : k < m) (hm : xs.length = m) (hl : ys.length = m) (HX : ∀ j, j < k → ys.getD j 0 = xs.getD j 0)
    (hown : wr.ownsRow w.heap.size 3 1 (.slice (some ⟨w.heap.size, 0, none⟩) m m) m (ys.map (Value.int .i64))) (hb : Below w.heap.size w wr) :
    ∃ (k' : Nat) (ys' : List Int), k' ≤ m ∧ Value.int .i64 ((k : Int) + 1) = .int .i64 k' ∧ ys'.length = m ∧ Hid (∀ j, j < k' → ys'.getD j 0 = xs.getD j 0) ∧
      (wr.setCell ⟨w.heap.size, k, none⟩ (.int .i64 (xs.getD k 0))).ownsRow w.heap.size 3 1 (.slice (some ⟨w.heap.size, 0, none⟩) m m) m (ys'.map (Value.int .i64)) ∧ Below w.heap.size w (wr.setCell ⟨w.heap.size, k, none⟩ (.int .i64 (xs.getD k 0))) := by
  have hst := hown.stored k (.int .i64 (xs.getD k 0))
  have hb2 := hb.setCell (p := ⟨w.heap.size, k, none⟩) (Nat.le_refl _) (.int .i64 (xs.getD k 0))
  refine ⟨k + 1, ys.set k (xs.getD k 0), by omega, by simp, by simpa using hl, ?_, by rw [List.map_set]; exact hst.1, hb2⟩
  intro j hj
  by_cases e : j = k
  · subst e
    simp [List.getD, hl, hlt]
  · rw [← HX j (by omega)]
    simp [List.getD, Ne.symm e]
theorem list_same {xs ys : List Int} {m : Nat} (h1 : xs.length = m) (h2 : ys.length = m) (h : ∀ j, j < m → ys.getD j 0 = xs.getD j 0) : ys = xs := by
  apply List.ext_getElem?
  intro j
  by_cases hj : j < m
  · have h := h j hj
    simp only [List.getD, List.getElem?_eq_getElem (show j < ys.length by omega), List.getElem?_eq_getElem (show j < xs.length by omega), Option.getD_some] at h
    rw [List.getElem?_eq_getElem (show j < ys.length by omega), List.getElem?_eq_getElem (show j < xs.length by omega), h]
  · rw [List.getElem?_eq_none (by omega), List.getElem?_eq_none (by omega)]

/-- A list that is owned, as a value. -/
theorem own_form {w : World} {base n : Nat} {v : Value} {xs : List Int} (h : w.ownsRow base 3 1 v n (xs.map (Value.int .i64))) : ∃ a cap, v = .slice a n cap ∧ Sl w a xs ∧ xs.length = n := by
  have hl := h.1
  simp at hl
  rcases h.2 with ⟨hv, h0⟩ | ⟨g, cap, cur, hv, _⟩
  · subst h0
    exact ⟨none, 0, hv, fun i hi => by omega, hl⟩
  · subst hv
    exact ⟨_, cap, rfl, sl_of_own h, hl⟩
/-- What is owned stays so while nothing that is there turns. -/
theorem own_below {w w' : World} {base n : Nat} {v : Value} {ys : List Value} (h : w.ownsRow base 3 1 v n ys) (hb : Below w.heap.size w w') : w'.ownsRow base 3 1 v n ys := by
  refine ⟨h.1, ?_⟩
  rcases h.2 with h0 | ⟨g, cap, cur, rfl, hbg, hg, r⟩
  · exact .inl h0
  · exact .inr ⟨g, cap, cur, rfl, hbg, by rw [hb.block g (Array.getElem?_eq_some_iff.1 hg).1]; exact hg, r⟩
theorem own_ge {w : World} {base n g cap : Nat} {xs : List Value} (h : w.ownsRow base 3 1 (.slice (some ⟨g, 0, none⟩) n cap) n xs) : base ≤ g := (h.lt g rfl).1

/-- A list that a call hands back, in new memory, and whether there is one. -/
def RetL (w : World) (r : Option (List Int)) (e : Ending) (w' : World) : Prop :=
  ∃ v, e = .returned (.tuple #[v, .bool r.isSome]) ∧ w'.ownsRow w.heap.size 3 1 v (r.getD []).length ((r.getD []).map (Value.int .i64)) ∧ Below w.heap.size w w'
end Go.Proofs.YtapffbbmofhpoaaDoor.L1

namespace Go.Proofs.YtapffbbmofhpoaaDoor.L1
open Go.RowKit
set_option linter.unusedVariables false

/-- All digits, one number's behind the other's. -/
def cat : List Int → List Int
  | [] => []
  | n :: l => vd (zig n) ++ cat l
theorem cat_append (l m : List Int) : cat (l ++ m) = cat l ++ cat m := by
  induction l with
  | nil => rfl
  | cons x l ih => simp [cat, ih]
theorem cat_len (l : List Int) : (cat l).length ≤ 6 * l.length := by
  induction l with
  | nil => simp [cat]
  | cons x l ih =>
    have h : (vd (zig x)).length ≤ 6 := vdf_le 5 (zig x)
    simp only [cat, List.length_append, List.length_cons]
    omega
theorem ltake_one (t : List Int) (k : Nat) (h : k < t.length) : t.take (k + 1) = t.take k ++ [t.getD k 0] := by
  rw [List.take_succ_eq_append_getElem h]; simp [List.getD, List.getElem?_eq_getElem h]
theorem cat_take (l : List Int) (k : Nat) (h : k < l.length) : cat (l.take (k + 1)) = cat (l.take k) ++ vd (zig (l.getD k 0)) := by
  rw [ltake_one l k h, cat_append]
  simp [cat]
theorem str_append (l m : List Int) : strOfNums (l ++ m) = strOfNums l ++ strOfNums m := by
  apply ByteArray.ext
  simp [strOfNums, ByteArray.data_append]

/-- All are in -1000000000000..1000000000000. -/
def OkL (xs : List Int) : Prop := ∀ j, j < xs.length → -1000000000000 ≤ xs.getD j 0 ∧ xs.getD j 0 ≤ 1000000000000
end Go.Proofs.YtapffbbmofhpoaaDoor.L1

namespace Go.Proofs.YtapffbbmofhpoaaDoor.L1

theorem gvf_some : ∀ (f : Nat) (pre t l : List Int), gvf f pre t = some l → ∃ m, 1 ≤ m ∧ m ≤ t.length ∧ l = pre ++ t.take m
  | 0, _, _, _, h => by simp [gvf] at h
  | _ + 1, _, [], _, h => by simp [gvf] at h
  | f + 1, pre, x :: r, l, h => by
    simp only [gvf] at h
    split at h
    · obtain ⟨m, h1, h2, h3⟩ := gvf_some f (pre ++ [x]) r l h
      refine ⟨m + 1, by omega, by simp; omega, ?_⟩
      rw [h3]
      simp
    · split at h
      · simp only [Option.some.injEq] at h
        exact ⟨1, by omega, by simp, by rw [← h]; simp⟩
      · simp at h
theorem gv_some {t l : List Int} (h : gv t = some l) : 1 ≤ l.length ∧ l.length ≤ t.length := by
  obtain ⟨m, h1, h2, h3⟩ := gvf_some 6 [] t l h
  rw [h3]
  simp
  omega

/-- All numbers of a text. -/
def ga : Nat → List Int → Option (List Int)
  | _, [] => some []
  | 0, _ :: _ => none
  | f + 1, x :: r => match gv (x :: r) with
    | none => none
    | some l => (ga f ((x :: r).drop l.length)).map fun o => zag (val l) :: o

theorem ga_fuel : ∀ (n : Nat) (t : List Int) (f g : Nat), t.length ≤ n → t.length ≤ f → t.length ≤ g → ga f t = ga g t
  | _, [], f, g, _, _, _ => by cases f <;> cases g <;> rfl
  | 0, x :: r, _, _, h, _, _ => by simp at h
  | n + 1, x :: r, f, g, h, hf, hg => by
    obtain ⟨f, rfl⟩ : ∃ j, f = j + 1 := ⟨f - 1, by simp at hf; omega⟩
    obtain ⟨g, rfl⟩ : ∃ j, g = j + 1 := ⟨g - 1, by simp at hg; omega⟩
    simp only [ga]
    cases hv : gv (x :: r) with
    | none => rfl
    | some l =>
      have hl := gv_some hv
      have e := ga_fuel n ((x :: r).drop l.length) f g (by simp at *; omega) (by simp at *; omega) (by simp at *; omega)
      simp only [e]

def gall (t : List Int) : Option (List Int) := ga t.length t
theorem gall_nil : gall [] = some [] := rfl
theorem gall_none {t : List Int} (h0 : 0 < t.length) (h : gv t = none) : gall t = none := by
  cases t with
  | nil => simp at h0
  | cons x r => simp only [gall, List.length_cons, ga, h]
theorem gall_some {t l : List Int} (h0 : 0 < t.length) (h : gv t = some l) : gall t = (gall (t.drop l.length)).map fun o => zag (val l) :: o := by
  cases t with
  | nil => simp at h0
  | cons x r =>
    have hl := gv_some h
    simp only [gall, List.length_cons, ga, h]
    rw [ga_fuel (r.length + 1) ((x :: r).drop l.length) r.length ((x :: r).drop l.length).length (by simp) (by simp at *; omega) (by simp)]

/-- What is read so far, and what is still to be read. -/
theorem gall_step {A : Option (List Int)} {xs t l : List Int} (h0 : 0 < t.length) (h : gv t = some l) (hA : A = (gall t).map fun o => xs ++ o) :
    A = (gall (t.drop l.length)).map fun o => (xs ++ [zag (val l)]) ++ o := by
  rw [hA, gall_some h0 h]
  cases gall (t.drop l.length) <;> simp
theorem gall_stop {A : Option (List Int)} {xs t : List Int} (h0 : 0 < t.length) (h : gv t = none) (hA : A = (gall t).map fun o => xs ++ o) : A = none := by
  rw [hA, gall_none h0 h]
  rfl
theorem gall_over {A : Option (List Int)} {xs t : List Int} (hA : A = (gall t).map fun o => xs ++ o) {ys : List Int} (h : A = some ys) : xs.length ≤ ys.length := by
  rw [hA] at h
  cases hg : gall t with
  | none => rw [hg] at h; simp at h
  | some o =>
    rw [hg] at h
    simp at h
    rw [← h]
    simp

/-- The numbers of a text that are at most 60. -/
def gaRes (t : List Int) : Option (List Int) := if t.length ≤ 600 then (gall t).bind (fun xs => if xs.length ≤ 60 then some xs else none) else none
def marks (k : Int) (n : Nat) : List Int := (List.range n).map fun i : Nat => k + (i : Int)
theorem marks_len (k : Int) (n : Nat) : (marks k n).length = n := by simp [marks]
theorem marks_get (k : Int) (n j : Nat) (h : j < n) : (marks k n).getD j 0 = k + (j : Int) := by
  simp [marks, List.getD, h]
end Go.Proofs.YtapffbbmofhpoaaDoor.L1

namespace Go.Proofs.YtapffbbmofhpoaaDoor.L1

theorem val_vdf (f : Nat) : ∀ z : Int, 0 ≤ z → z < wor (f + 1) → val (vdf f z) = z := by
  induction f with
  | zero => intro z h1 h2; simp [wor] at h2; simp [vdf, val]; omega
  | succ f ih =>
    intro z h1 h2
    have hw : wor (f + 1 + 1) = 128 * wor (f + 1) := rfl
    simp only [vdf]
    split
    · simp [val]; omega
    · have := ih (z / 128) (by omega) (by omega)
      simp only [val, this]
      omega
theorem val_vd (z : Int) (h1 : 0 ≤ z) (h2 : z ≤ 2000000000000) : val (vd z) = z := val_vdf 5 z h1 (by simp [wor]; omega)

theorem gvf_vdf (f : Nat) : ∀ (z : Int) (pre r : List Int) (F : Nat), f + 1 ≤ F → 0 ≤ z → z < wor (f + 1) → (pre = [] ∨ 1 ≤ z) → val (pre ++ vdf f z) ≤ 2000000000000 → gvf F pre (vdf f z ++ r) = some (pre ++ vdf f z) := by
  induction f with
  | zero =>
    intro z pre r F hF h1 h2 hp hv
    obtain ⟨F, rfl⟩ : ∃ j, F = j + 1 := ⟨F - 1, by omega⟩
    simp [wor] at h2
    simp only [vdf, List.cons_append, List.nil_append, gvf] at hv ⊢
    rw [if_neg (by omega), if_pos ⟨hv, by rcases hp with h | h; exact .inl h; exact .inr (by omega)⟩]
  | succ f ih =>
    intro z pre r F hF h1 h2 hp hv
    obtain ⟨F, rfl⟩ : ∃ j, F = j + 1 := ⟨F - 1, by omega⟩
    have hw : wor (f + 1 + 1) = 128 * wor (f + 1) := rfl
    by_cases hlt : z < 128
    · simp only [vdf, if_pos hlt, List.cons_append, List.nil_append, gvf] at hv ⊢
      rw [if_neg (by omega), if_pos ⟨hv, by rcases hp with h | h; exact .inl h; exact .inr (by omega)⟩]
    · simp only [vdf, if_neg hlt, List.cons_append, gvf] at hv ⊢
      rw [if_pos (by omega)]
      have e : pre ++ (128 + z % 128) :: vdf f (z / 128) = (pre ++ [128 + z % 128]) ++ vdf f (z / 128) := by simp
      rw [e] at hv ⊢
      exact ih (z / 128) (pre ++ [128 + z % 128]) r F (by omega) (by omega) (by omega) (.inr (by omega)) hv
theorem gv_vd (z : Int) (r : List Int) (h1 : 0 ≤ z) (h2 : z ≤ 2000000000000) : gv (vd z ++ r) = some (vd z) := by
  have := gvf_vdf 5 z [] r 6 (by omega) h1 (by simp [wor]; omega) (.inl rfl) (by
    have := val_vd z h1 h2
    unfold vd at this
    simp only [List.nil_append]
    omega)
  simpa [gv, vd] using this

theorem gvf_form : ∀ (F : Nat) (pre t l : List Int), Hi pre → (∀ x ∈ t, 0 ≤ x ∧ x < 256) → pre.length + F ≤ 6 → gvf F pre t = some l → vd (val l) = l ∧ val l ≤ 2000000000000
  | 0, _, _, _, _, _, _, h => by simp [gvf] at h
  | _ + 1, _, [], _, _, _, _, h => by simp [gvf] at h
  | F + 1, pre, x :: r, l, hp, ht, hF, h => by
    have hx := ht x (by simp)
    simp only [gvf] at h
    split at h
    · refine gvf_form F (pre ++ [x]) r l ?_ (fun y hy => ht y (by simp [hy])) (by simp; omega) h
      intro y hy
      simp only [List.mem_append, List.mem_singleton] at hy
      rcases hy with hy | hy
      · exact hp y hy
      · subst hy; omega
    · split at h
      · rename_i hc
        simp only [Option.some.injEq] at h
        subst h
        exact ⟨(vdf_val 5 pre x hp (by omega) (by omega) (by omega)).2 hc.2, hc.1⟩
      · simp at h
theorem gv_form {t l : List Int} (ht : ∀ x ∈ t, 0 ≤ x ∧ x < 256) (h : gv t = some l) : vd (val l) = l ∧ val l ≤ 2000000000000 :=
  gvf_form 6 [] t l (fun x hx => by simp at hx) ht (by simp) h
theorem gv_take {t l : List Int} (h : gv t = some l) : l = t.take l.length := by
  obtain ⟨m, h1, h2, h3⟩ := gvf_some 6 [] t l h
  have : l.length = m := by rw [h3]; simp; omega
  rw [this, h3]
  simp

theorem vd_mono (a b : Int) (h0 : 0 ≤ a) (h : a ≤ b) : (vd a).length ≤ (vd b).length := by
  rcases Nat.lt_or_ge (vd b).length (vd a).length with hlt | hge
  · have h1 := (vdf_len 5 a (vd b).length h0 (vdf_pos 5 b)).1 hlt
    have h2 := (vdf_len 5 b (vd b).length (by omega) (vdf_pos 5 b)).2 ⟨h1.1, by omega⟩
    change (vd b).length < (vd b).length at h2
    omega
  · exact hge
theorem half_le (n : Int) : zig (n.tdiv 2) ≤ zig n ∧ (-1000000000000 ≤ n → -1000000000000 ≤ n.tdiv 2) ∧ (n ≤ 1000000000000 → n.tdiv 2 ≤ 1000000000000) := by
  by_cases h : 0 ≤ n
  · rw [Int.tdiv_eq_ediv_of_nonneg h]
    unfold zig
    rw [if_neg (by omega), if_neg (by omega)]
    omega
  · obtain ⟨m, rfl⟩ : ∃ m, n = -m := ⟨-n, by omega⟩
    rw [Int.neg_tdiv, Int.tdiv_eq_ediv_of_nonneg (by omega)]
    unfold zig
    split <;> split <;> omega
end Go.Proofs.YtapffbbmofhpoaaDoor.L1

namespace Go.Proofs.YtapffbbmofhpoaaDoor.L1
set_option linter.unusedVariables false

/-- Each number less the one ahead. -/
def dl : Int → List Int → List Int
  | _, [] => []
  | p, x :: l => (x - p) :: dl x l
/-- Each number with all ahead of it. -/
def sm : Int → List Int → List Int
  | _, [] => []
  | s, x :: l => (s + x) :: sm (s + x) l
theorem dl_len : ∀ (l : List Int) (p : Int), (dl p l).length = l.length
  | [], _ => rfl
  | x :: l, _ => by simp [dl, dl_len l]
theorem sm_len : ∀ (l : List Int) (p : Int), (sm p l).length = l.length
  | [], _ => rfl
  | x :: l, _ => by simp [sm, sm_len l]
theorem sm_dl : ∀ (l : List Int) (p : Int), sm p (dl p l) = l
  | [], _ => rfl
  | x :: l, p => by
    have e : p + (x - p) = x := by omega
    simp only [dl, sm, e, sm_dl l]
theorem dl_sm : ∀ (l : List Int) (p : Int), dl p (sm p l) = l
  | [], _ => rfl
  | x :: l, p => by
    have e : p + x - p = x := by omega
    simp only [dl, sm, e, dl_sm l]
theorem dl_get : ∀ (l : List Int) (p : Int) (k : Nat), k < l.length → (dl p l).getD k 0 = l.getD k 0 - (p :: l).getD k 0
  | [], _, k, h => by simp at h
  | x :: l, p, 0, _ => rfl
  | x :: l, p, k + 1, h => by
    have := dl_get l x k (by simpa using h)
    simpa only [dl, List.getD_cons_succ] using this
theorem sm_get : ∀ (l : List Int) (s : Int) (k : Nat), k < l.length → (sm s l).getD k 0 = (s :: sm s l).getD k 0 + l.getD k 0
  | [], _, k, h => by simp at h
  | x :: l, p, 0, _ => rfl
  | x :: l, p, k + 1, h => by
    have := sm_get l (p + x) k (by simpa using h)
    simpa only [sm, List.getD_cons_succ] using this
theorem sm_bd {l : List Int} (h : OkL l) : ∀ k : Nat, k ≤ l.length → -(1000000000000 * (k : Int)) ≤ (0 :: sm 0 l).getD k 0 ∧ (0 :: sm 0 l).getD k 0 ≤ 1000000000000 * (k : Int)
  | 0, _ => by simp
  | k + 1, hk => by
    have ih := sm_bd h k (by omega)
    have e := sm_get l 0 k (by omega)
    have b := h k (by omega)
    simp only [List.getD_cons_succ]
    rw [e]
    omega
theorem ltake_snoc (t : List Int) (k : Nat) (h : k < t.length) : t.take (k + 1) = t.take k ++ [t.getD k 0] := by
  rw [List.take_succ_eq_append_getElem h]; simp [List.getD, List.getElem?_eq_getElem h]

open Classical in
/-- What DeltasOf tells. -/
noncomputable def dRes (xs : List Int) : Option (List Int) := if xs.length ≤ 40 ∧ OkL xs ∧ OkL (dl 0 xs) then some (dl 0 xs) else none
open Classical in
/-- What SumsOf tells. -/
noncomputable def sRes (xs : List Int) : Option (List Int) := if xs.length ≤ 40 ∧ OkL xs ∧ OkL (sm 0 xs) then some (sm 0 xs) else none
theorem dRes_len (xs : List Int) : ((dRes xs).getD []).length ≤ 40 := by
  unfold dRes; split
  · rename_i h; simp [dl_len, h.1]
  · simp
theorem sRes_len (xs : List Int) : ((sRes xs).getD []).length ≤ 40 := by
  unfold sRes; split
  · rename_i h; simp [sm_len, h.1]
  · simp
theorem okL_of {xs : List Int} {B : Int} (hB : B ≤ 1000000000000) (h : ∀ j, j < xs.length → -B ≤ xs.getD j 0 ∧ xs.getD j 0 ≤ B) : OkL xs := fun j hj => by
  have := h j hj; omega
theorem okL_take {xs : List Int} (h : OkL xs) (k : Nat) : OkL (xs.take k) := fun j hj => by
  have h1 : j < xs.length := by simp at hj; omega
  have h2 : j < k := by simp at hj; omega
  have := h j h1
  simpa [List.getD, h2] using this

/-! Samples -/
def okS (p : Int × Int) : Prop := 0 ≤ p.1 ∧ p.1 ≤ 1000000000 ∧ -1000000000 ≤ p.2 ∧ p.2 ≤ 1000000000
def GoodS (l : List (Int × Int)) : Prop := l.length ≤ 40 ∧ ∀ j, j < l.length → okS (l.getD j (0, 0)) ∧ (0 < j → (l.getD (j - 1) (0, 0)).1 < (l.getD j (0, 0)).1)
def ats (l : List (Int × Int)) : List Int := l.map (·.1)
def vals (l : List (Int × Int)) : List Int := l.map (·.2)
theorem ats_len (l : List (Int × Int)) : (ats l).length = l.length := by simp [ats]
theorem vals_len (l : List (Int × Int)) : (vals l).length = l.length := by simp [vals]
theorem ats_get (l : List (Int × Int)) (j : Nat) : (ats l).getD j 0 = (l.getD j (0, 0)).1 := by
  simp only [ats, List.getD, List.getElem?_map]; cases l[j]? <;> rfl
theorem vals_get (l : List (Int × Int)) (j : Nat) : (vals l).getD j 0 = (l.getD j (0, 0)).2 := by
  simp only [vals, List.getD, List.getElem?_map]; cases l[j]? <;> rfl

/-- Of numbers within B all differences are within 2 B. -/
theorem dl_bd {xs : List Int} {B : Int} (hB : 0 ≤ B) (h : ∀ j, j < xs.length → -B ≤ xs.getD j 0 ∧ xs.getD j 0 ≤ B) : ∀ j, j < (dl 0 xs).length → -(2 * B) ≤ (dl 0 xs).getD j 0 ∧ (dl 0 xs).getD j 0 ≤ 2 * B := fun j hj => by
  rw [dl_len] at hj
  rw [dl_get xs 0 j hj]
  have h1 := h j hj
  cases j with
  | zero => simp at *; omega
  | succ j =>
    have h2 := h j (by omega)
    rw [List.getD_cons_succ]
    omega
theorem good_ats {l : List (Int × Int)} (h : GoodS l) : ∀ j, j < (ats l).length → -1000000000 ≤ (ats l).getD j 0 ∧ (ats l).getD j 0 ≤ 1000000000 := fun j hj => by
  rw [ats_len] at hj
  have := (h.2 j hj).1
  unfold okS at this
  rw [ats_get]; omega
theorem good_vals {l : List (Int × Int)} (h : GoodS l) : ∀ j, j < (vals l).length → -1000000000 ≤ (vals l).getD j 0 ∧ (vals l).getD j 0 ≤ 1000000000 := fun j hj => by
  rw [vals_len] at hj
  have := (h.2 j hj).1
  unfold okS at this
  rw [vals_get]; omega
theorem okL_ats {l : List (Int × Int)} (h : GoodS l) : OkL (ats l) := okL_of (by omega) (good_ats h)
theorem okL_vals {l : List (Int × Int)} (h : GoodS l) : OkL (vals l) := okL_of (by omega) (good_vals h)
theorem okL_steps {l : List (Int × Int)} (h : GoodS l) : OkL (dl 0 (ats l)) := okL_of (by omega) (dl_bd (by omega) (good_ats h))
theorem okL_bends {l : List (Int × Int)} (h : GoodS l) : OkL (dl 0 (dl 0 (ats l))) := okL_of (by omega) (dl_bd (by omega) (dl_bd (by omega) (good_ats h)))
theorem okL_changes {l : List (Int × Int)} (h : GoodS l) : OkL (dl 0 (vals l)) := okL_of (by omega) (dl_bd (by omega) (good_vals h))
theorem dRes_ats {l : List (Int × Int)} (h : GoodS l) : dRes (ats l) = some (dl 0 (ats l)) := by
  unfold dRes; rw [if_pos ⟨by rw [ats_len]; exact h.1, okL_ats h, okL_steps h⟩]
theorem dRes_steps {l : List (Int × Int)} (h : GoodS l) : dRes (dl 0 (ats l)) = some (dl 0 (dl 0 (ats l))) := by
  unfold dRes; rw [if_pos ⟨by rw [dl_len, ats_len]; exact h.1, okL_steps h, okL_bends h⟩]
theorem dRes_vals {l : List (Int × Int)} (h : GoodS l) : dRes (vals l) = some (dl 0 (vals l)) := by
  unfold dRes; rw [if_pos ⟨by rw [vals_len]; exact h.1, okL_vals h, okL_changes h⟩]

/-- Two lists, one number of each in turn. -/
def inter : List Int → List Int → List Int
  | x :: l, y :: m => x :: y :: inter l m
  | _, _ => []
theorem inter_len : ∀ (l m : List Int), l.length = m.length → (inter l m).length = 2 * l.length
  | [], _, _ => by simp [inter]
  | x :: l, [], h => by simp at h
  | x :: l, y :: m, h => by
    have := inter_len l m (by simpa using h)
    simp [inter, this]; omega
theorem inter_take : ∀ (l m : List Int) (k : Nat), l.length = m.length → k < l.length → inter (l.take (k + 1)) (m.take (k + 1)) = inter (l.take k) (m.take k) ++ [l.getD k 0, m.getD k 0]
  | [], _, _, _, h => by simp at h
  | x :: l, [], _, h, _ => by simp at h
  | x :: l, y :: m, 0, _, _ => by simp [inter]
  | x :: l, y :: m, k + 1, h, hk => by
    have := inter_take l m k (by simpa using h) (by simpa using hk)
    simp only [List.take_succ_cons, inter, this, List.getD_cons_succ, List.cons_append]
theorem okL_cons {x : Int} {l : List Int} (h1 : -1000000000000 ≤ x ∧ x ≤ 1000000000000) (h : OkL l) : OkL (x :: l) := fun j hj => by
  cases j with
  | zero => exact h1
  | succ j => exact h j (by simpa using hj)
theorem okL_tail {x : Int} {l : List Int} (h : OkL (x :: l)) : OkL l := fun j hj => h (j + 1) (by simpa using hj)
theorem okL_nil : OkL [] := fun j hj => by simp at hj
theorem okL_inter : ∀ {l m : List Int}, OkL l → OkL m → OkL (inter l m)
  | [], _, _, _ => by simpa [inter] using okL_nil
  | x :: l, [], _, _ => by simpa [inter] using okL_nil
  | x :: l, y :: m, h1, h2 => by
    simp only [inter]
    exact okL_cons (h1 0 (by simp)) (okL_cons (h2 0 (by simp)) (okL_inter (okL_tail h1) (okL_tail h2)))

/-- The numbers of a chunk: how many samples, then a bend and a change for each. -/
def nums (l : List (Int × Int)) : List Int := (l.length : Int) :: inter (dl 0 (dl 0 (ats l))) (dl 0 (vals l))
theorem nums_len (l : List (Int × Int)) : (nums l).length = 1 + 2 * l.length := by
  simp only [nums, List.length_cons]
  rw [inter_len _ _ (by simp [dl_len, ats_len, vals_len])]
  simp [dl_len, ats_len]; omega
theorem okL_nums {l : List (Int × Int)} (h : GoodS l) : OkL (nums l) :=
  okL_cons (by have := h.1; omega) (okL_inter (okL_bends h) (okL_changes h))

/-! Back -/
def ev : List Int → List Int
  | x :: _ :: l => x :: ev l
  | _ => []
def od : List Int → List Int
  | _ :: y :: l => y :: od l
  | _ => []
theorem ev_inter : ∀ (l m : List Int), l.length = m.length → ev (inter l m) = l ∧ od (inter l m) = m
  | [], [], _ => ⟨rfl, rfl⟩
  | [], y :: m, h => by simp at h
  | x :: l, [], h => by simp at h
  | x :: l, y :: m, h => by
    have := ev_inter l m (by simpa using h)
    simp only [inter, ev, od, this.1, this.2, and_self]
theorem inter_ev : ∀ (n : Nat) (r : List Int), r.length = 2 * n → inter (ev r) (od r) = r ∧ (ev r).length = n ∧ (od r).length = n
  | 0, [], _ => ⟨rfl, rfl, rfl⟩
  | 0, x :: r, h => by simp at h
  | n + 1, [], h => by simp at h
  | n + 1, [x], h => by simp at h; omega
  | n + 1, x :: y :: r, h => by
    have := inter_ev n r (by simp at h; omega)
    refine ⟨by simp only [ev, od, inter, this.1], by simp [ev, this.2.1], by simp [od, this.2.2]⟩
theorem ev_get : ∀ (n : Nat) (r : List Int), r.length = 2 * n → ∀ k, k < n → (ev r).getD k 0 = r.getD (2 * k) 0 ∧ (od r).getD k 0 = r.getD (2 * k + 1) 0
  | 0, _, _, k, hk => by omega
  | n + 1, [], h, k, hk => by simp at h
  | n + 1, [x], h, k, hk => by simp at h; omega
  | n + 1, x :: y :: r, h, 0, hk => ⟨rfl, rfl⟩
  | n + 1, x :: y :: r, h, k + 1, hk => by
    have := ev_get n r (by simp at h; omega) k (by omega)
    have e1 : 2 * (k + 1) = 2 * k + 1 + 1 := by omega
    rw [e1]
    simpa only [ev, od, List.getD_cons_succ] using this
theorem okL_ev : ∀ (n : Nat) {r : List Int}, r.length = 2 * n → OkL r → OkL (ev r) ∧ OkL (od r) := fun n r h hr => by
  have hl := inter_ev n r h
  have hg := ev_get n r h
  constructor
  · intro j hj
    rw [hl.2.1] at hj
    rw [(hg j hj).1]
    exact hr _ (by omega)
  · intro j hj
    rw [hl.2.2] at hj
    rw [(hg j hj).2]
    exact hr _ (by omega)

/-- The samples that bends and changes tell. -/
def unS (bs cs : List Int) : List (Int × Int) := (sm 0 (sm 0 bs)).zip (sm 0 cs)
theorem unS_len {bs cs : List Int} (h : bs.length = cs.length) : (unS bs cs).length = bs.length := by
  simp [unS, sm_len, h]
theorem map_zip : ∀ (l m : List Int), l.length = m.length → (l.zip m).map (·.1) = l ∧ (l.zip m).map (·.2) = m
  | [], [], _ => ⟨rfl, rfl⟩
  | [], y :: m, h => by simp at h
  | x :: l, [], h => by simp at h
  | x :: l, y :: m, h => by
    have := map_zip l m (by simpa using h)
    simp only [List.zip_cons_cons, List.map_cons, this.1, this.2, and_self]
theorem unS_ats {bs cs : List Int} (h : bs.length = cs.length) : ats (unS bs cs) = sm 0 (sm 0 bs) := (map_zip _ _ (by simp [sm_len, h])).1
theorem unS_vals {bs cs : List Int} (h : bs.length = cs.length) : vals (unS bs cs) = sm 0 cs := (map_zip _ _ (by simp [sm_len, h])).2
theorem zip_ats : ∀ (l : List (Int × Int)), (ats l).zip (vals l) = l
  | [] => rfl
  | (a, b) :: l => by
    have := zip_ats l
    simp only [ats, vals] at this
    simp [ats, vals, this]
theorem unS_back (l : List (Int × Int)) : unS (dl 0 (dl 0 (ats l))) (dl 0 (vals l)) = l := by
  simp only [unS, sm_dl, zip_ats]
theorem nums_unS {n : Nat} {bs cs : List Int} (h1 : bs.length = n) (h2 : cs.length = n) : nums (unS bs cs) = (n : Int) :: inter bs cs := by
  have h : bs.length = cs.length := by omega
  simp only [nums, unS_ats h, unS_vals h, dl_sm, unS_len h, h1]
/-- Where the samples that are told are good all sums on the way are within their bounds. -/
theorem good_sums {bs cs : List Int} (h : bs.length = cs.length) (hg : GoodS (unS bs cs)) : OkL (sm 0 bs) ∧ OkL (sm 0 (sm 0 bs)) ∧ OkL (sm 0 cs) := by
  have h1 := okL_ats hg
  have h2 := okL_steps hg
  have h3 := okL_vals hg
  rw [unS_ats h] at h1 h2
  rw [unS_vals h] at h3
  rw [dl_sm] at h2
  exact ⟨h2, h1, h3⟩

open Classical in
/-- The samples of bends and changes in turn. -/
noncomputable def ofPairs (r : List Int) : Option (List (Int × Int)) := if GoodS (unS (ev r) (od r)) then some (unS (ev r) (od r)) else none
open Classical in
/-- The samples of a chunk's numbers. -/
noncomputable def ofNums : List Int → Option (List (Int × Int))
  | [] => none
  | m :: r => if (r.length : Int) = 2 * m ∧ m ≤ 40 ∧ GoodS (unS (ev r) (od r)) then some (unS (ev r) (od r)) else none
/-- The samples of a text. -/
noncomputable def dcRes (t : List Int) : Option (List (Int × Int)) := (gall t).bind ofNums

theorem okL_mem' {xs : List Int} (h : OkL xs) : ∀ x ∈ xs, -1000000000000 ≤ x ∧ x ≤ 1000000000000 := by
  intro x hx
  obtain ⟨i, hi, rfl⟩ := List.mem_iff_getElem.1 hx
  have := h i hi
  simpa [List.getD, List.getElem?_eq_getElem hi] using this
theorem okL_of_mem {xs : List Int} (h : ∀ x ∈ xs, -1000000000000 ≤ x ∧ x ≤ 1000000000000) : OkL xs := fun j hj => by
  have := h xs[j] (List.getElem_mem hj)
  simpa [List.getD, List.getElem?_eq_getElem hj] using this
theorem gall_cat' : ∀ (xs : List Int), (∀ x ∈ xs, -1000000000000 ≤ x ∧ x ≤ 1000000000000) → gall (cat xs) = some xs
  | [], _ => rfl
  | n :: l, h => by
    have hn := h n (by simp)
    have hz := gv_vd (zig n) (cat l) (zig_lo n) (zig_hi n hn.1 hn.2)
    have hp : 0 < (vd (zig n) ++ cat l).length := by have : 1 ≤ (vd (zig n)).length := vdf_pos 5 (zig n); simp; omega
    show gall (vd (zig n) ++ cat l) = _
    rw [gall_some hp hz, List.drop_left, gall_cat' l (fun x hx => h x (by simp [hx])), val_vd _ (zig_lo n) (zig_hi n hn.1 hn.2), zag_zig]
    rfl
/-- What is read of a text is written the same. -/
theorem cat_gall : ∀ (n : Nat) (t xs : List Int), t.length ≤ n → (∀ x ∈ t, 0 ≤ x ∧ x < 256) → gall t = some xs → cat xs = t ∧ ∀ x ∈ xs, -1000000000000 ≤ x ∧ x ≤ 1000000000000
  | _, [], xs, _, _, h => by
    rw [gall_nil] at h
    simp at h
    subst h
    exact ⟨rfl, by simp⟩
  | 0, x :: r, _, h, _, _ => by simp at h
  | n + 1, x :: r, xs, hn, hb, h => by
    have h0 : 0 < (x :: r).length := by simp
    cases hv : gv (x :: r) with
    | none => rw [gall_none h0 hv] at h; simp at h
    | some l =>
      have hl := gv_some hv
      have hf := gv_form hb hv
      have ht := gv_take hv
      have hvn := val_nonneg l
      rw [gall_some h0 hv] at h
      cases hg : gall ((x :: r).drop l.length) with
      | none => rw [hg] at h; simp at h
      | some ys =>
        rw [hg] at h
        simp at h
        subst h
        have ih := cat_gall n ((x :: r).drop l.length) ys (by simp at *; omega) (fun y hy => hb y (List.mem_of_mem_drop hy)) hg
        refine ⟨?_, ?_⟩
        · simp only [cat]
          rw [zig_zag _ hvn, hf.1, ih.1]
          conv => lhs; lhs; rw [ht]
          exact List.take_append_drop _ _
        · intro y hy
          simp only [List.mem_cons] at hy
          rcases hy with rfl | hy
          · exact zag_lo _ hvn hf.2
          · exact ih.2 y hy
theorem ofNums_some {xs : List Int} {l : List (Int × Int)} (h : ofNums xs = some l) : GoodS l ∧ nums l = xs := by
  cases xs with
  | nil => simp [ofNums] at h
  | cons m r =>
    simp only [ofNums] at h
    split at h
    · rename_i hc
      simp at h
      subst h
      obtain ⟨n, hn⟩ : ∃ n : Nat, m = (n : Int) := ⟨m.toNat, by omega⟩
      subst hn
      have hr : r.length = 2 * n := by omega
      have hl := inter_ev n r hr
      refine ⟨hc.2.2, ?_⟩
      rw [nums_unS hl.2.1 hl.2.2, hl.1]
    · simp at h
theorem ofNums_nums {l : List (Int × Int)} (h : GoodS l) : ofNums (nums l) = some l := by
  have hi := inter_len (dl 0 (dl 0 (ats l))) (dl 0 (vals l)) (by simp [dl_len, ats_len, vals_len])
  have he := ev_inter (dl 0 (dl 0 (ats l))) (dl 0 (vals l)) (by simp [dl_len, ats_len, vals_len])
  simp only [dl_len, ats_len] at hi
  have h40 := h.1
  simp only [nums, ofNums]
  rw [he.1, he.2, unS_back, if_pos ⟨by omega, by omega, h⟩]
theorem dcRes_some {t : List Int} {l : List (Int × Int)} (hb : ∀ x ∈ t, 0 ≤ x ∧ x < 256) (h : dcRes t = some l) : GoodS l ∧ cat (nums l) = t := by
  unfold dcRes at h
  cases hg : gall t with
  | none => rw [hg] at h; simp at h
  | some xs =>
    rw [hg] at h
    have h2 := ofNums_some h
    exact ⟨h2.1, by rw [h2.2]; exact (cat_gall t.length t xs (Nat.le_refl _) hb hg).1⟩
theorem dcRes_cat {l : List (Int × Int)} (h : GoodS l) : dcRes (cat (nums l)) = some l := by
  unfold dcRes
  rw [gall_cat' _ (okL_mem' (okL_nums h))]
  exact ofNums_nums h
theorem dcRes_len {t : List Int} (hb : ∀ x ∈ t, 0 ≤ x ∧ x < 256) : ((dcRes t).getD []).length ≤ 40 := by
  cases h : dcRes t with
  | none => simp
  | some l => exact (dcRes_some hb h).1.1
theorem cat_ge : ∀ (xs : List Int), xs.length ≤ (cat xs).length
  | [] => by simp [cat]
  | x :: l => by
    have h1 : 1 ≤ (vd (zig x)).length := vdf_pos 5 (zig x)
    have := cat_ge l
    simp only [cat, List.length_append, List.length_cons]
    omega
/-- No text of more than 486 bytes is a chunk's. -/
theorem dcRes_long {t : List Int} (hb : ∀ x ∈ t, 0 ≤ x ∧ x < 256) (h : 486 < t.length) : dcRes t = none := by
  cases hd : dcRes t with
  | none => rfl
  | some l =>
    obtain ⟨h1, h2⟩ := dcRes_some hb hd
    have h3 := cat_len (nums l)
    have h4 := nums_len l
    have h5 := h1.1
    rw [h2] at h3
    omega
end Go.Proofs.YtapffbbmofhpoaaDoor.L1

namespace Go.Proofs.YtapffbbmofhpoaaDoor.L1
open Go.RowKit
set_option linter.unusedVariables false

/-- A sample as a value. -/
def sv (p : Int × Int) : Value := .agg #[.int .i64 p.1, .int .i64 p.2]
/-- A list of samples lies in memory from an address on. -/
def Sl2 (w : World) (a : Option Addr) (l : List (Int × Int)) : Prop := ∀ i, i < l.length → ∃ b off, a = some ⟨b, off, none⟩ ∧ w.cell? ⟨b, off + i * 2, none⟩ = some (.int .i64 (l.getD i (0, 0)).1) ∧ w.cell? ⟨b, off + i * 2 + 1, none⟩ = some (.int .i64 (l.getD i (0, 0)).2)
theorem Sl2.below {w w' : World} {a : Option Addr} {xs : List (Int × Int)} (h : Sl2 w a xs) (hb : Below w.heap.size w w') : Sl2 w' a xs := fun i hi => by
  obtain ⟨b, off, ha, hc, hd⟩ := h i hi
  refine ⟨b, off, ha, ?_, ?_⟩
  · rw [hb.cell (p := ⟨b, off + i * 2, none⟩) (blk_lt hc)]; exact hc
  · rw [hb.cell (p := ⟨b, off + i * 2 + 1, none⟩) (blk_lt hd)]; exact hd

/-- What a walk is told of a slice of samples that came in. -/
def IsRow2 (w : World) (a : Option Addr) (len : Nat) (l : List (Int × Int)) : Prop := l.length = len ∧ len ≤ maxLen ∧ Sl2 w a l
open Classical in
theorem row2_of_pairs {w : World} {a : Addr} {len cap : Nat} (hl : len ≤ cap) (hm : cap ≤ maxLen) (h : ∀ i, i < len → ∃ n0 n1, w.cell? (a.add (i * 2)) = some (.int .i64 n0) ∧ w.cell? (a.add (i * 2 + 1)) = some (.int .i64 n1)) : ∃ l, IsRow2 w (some a) len l := by
  have hc : ∃ f : Nat → Int × Int, ∀ i, i < len → w.cell? (a.add (i * 2)) = some (.int .i64 (f i).1) ∧ w.cell? (a.add (i * 2 + 1)) = some (.int .i64 (f i).2) := by
    refine ⟨fun i => if hi : i < len then (Classical.choose (h i hi), Classical.choose (Classical.choose_spec (h i hi))) else (0, 0), fun i hi => ?_⟩
    simp only [dif_pos hi]
    exact Classical.choose_spec (Classical.choose_spec (h i hi))
  obtain ⟨f, hf⟩ := hc
  refine ⟨(List.range len).map f, by simp, Nat.le_trans hl hm, fun i hi => ?_⟩
  have hi' : i < len := by simpa using hi
  obtain ⟨b, off, spot⟩ := a
  have hspot : spot = none := by
    have h00 := (hf 0 (by omega)).1
    have := World.cell?_spot h00
    simpa [Addr.add] using this
  subst hspot
  have e0 : ∀ j, (⟨b, off, none⟩ : Addr).add j = ⟨b, off + j, none⟩ := fun j => by unfold Addr.add; split <;> simp_all
  have hg : ((List.range len).map f).getD i (0, 0) = f i := by simp [List.getD, hi']
  have := hf i hi'
  rw [e0, e0] at this
  rw [hg]
  exact ⟨b, off, rfl, this.1, this.2⟩

def lim (lo hi x : Int) : Int := min (max x lo) hi
theorem lim_iff (lo hi x : Int) (h : lo ≤ hi) : lim lo hi x = x ↔ lo ≤ x ∧ x ≤ hi := by unfold lim; omega

set_option maxRecDepth 100000 in
set_option maxHeartbeats 1000000 in
theorem withinLimits_any (x y : Int) (w : World) :
    Calls Tryd.prog 101 #[.agg #[.int .i64 x, .int .i64 y]] w fun e w' => e = .returned (.agg #[.int .i64 (lim 0 1000000000 x), .int .i64 (lim (-1000000000) 1000000000 y)]) ∧ Below w.heap.size w w' := by
  go_enter Tryd.func101, Tryd.ntmps101
  go_wp2
  all_goals
    refine bodyPost_ret (v := .agg #[.int .i64 (lim 0 1000000000 x), .int .i64 (lim (-1000000000) 1000000000 y)]) (by simp [results, Tryd.f101, go_sem, lim] <;> omega) rfl ⟨rfl, ?_⟩
    exact ((Below.refl _ _).alloc (Nat.le_refl _) _).alloc (by simp) _
end Go.Proofs.YtapffbbmofhpoaaDoor.L1
