/-
  Plain mathematics of chapter 1: a number's digits to 128, their count, and how they are read back. Nothing of Go stands here.
  Small lemmas that the contracts of chapter 1 share. Nothing of the program's text is proved here but closed facts on its types.
  Lists of ints in memory. Nothing of the program's text is proved here but closed facts on its types.
  Lists of events in memory.
  Plain mathematics of chapter 11: events, what came first, clocks, stamps. Nothing of Go stands here.
  Contract: impl.GoodEvents tells whether events are good.
  Arrays of ints in a block of their own. Nothing of the program's text is proved here.
  Numbers of events among those of their nodes. Nothing of the program's text is proved here.
-/
import Derived.KernelRfl
import Derived.Test.YtkfnejiiancmhadChecked
import Derived.WalkKit
import Derived.ProofKit
import Derived.OpenShut
import Derived.Laws.BytesArg
import Derived.WalkSpells
import Derived.WalkLawsBesides
import Derived.Deep.QuietTactic
import Derived.BigQuiet
import Derived.Deep.RegionHeld3
namespace Go.Proofs.Ytkfnejiiancmhad.L1

def zig (n : Int) : Int := if n < 0 then -2 * n - 1 else 2 * n
def zag (z : Int) : Int := if z % 2 = 1 then -((z + 1) / 2) else z / 2

theorem zag_zig (n : Int) : zag (zig n) = n := by unfold zag zig; split <;> split <;> omega
theorem zig_zag (z : Int) (h : 0 ≤ z) : zig (zag z) = z := by unfold zag zig; split <;> split <;> omega
theorem zig_lo (n : Int) : 0 ≤ zig n := by unfold zig; split <;> omega
theorem zig_hi (n : Int) (h1 : -1000000000000 ≤ n) (h2 : n ≤ 1000000000000) : zig n ≤ 2000000000000 := by unfold zig; split <;> omega
theorem zag_lo (z : Int) (h : 0 ≤ z) (h2 : z ≤ 2000000000000) : -1000000000000 ≤ zag z ∧ zag z ≤ 1000000000000 := by unfold zag; split <;> omega

/-- The worth of the k-th digit. -/
def wor : Nat → Int
  | 0 => 1
  | k + 1 => 128 * wor k
theorem wor_pos (k : Nat) : 1 ≤ wor k := by
  induction k with
  | zero => simp [wor]
  | succ k ih => simp only [wor]; omega

/-- The digits to 128, the lowest first, all but the last with 128 more. -/
def vdf : Nat → Int → List Int
  | 0, z => [z]
  | f + 1, z => if z < 128 then [z] else (128 + z % 128) :: vdf f (z / 128)
def vd (z : Int) : List Int := vdf 5 z

theorem vdf_pos (f : Nat) (z : Int) : 1 ≤ (vdf f z).length := by
  cases f with
  | zero => simp [vdf]
  | succ f => simp only [vdf]; split <;> simp
theorem vdf_le (f : Nat) (z : Int) : (vdf f z).length ≤ f + 1 := by
  induction f generalizing z with
  | zero => simp [vdf]
  | succ f ih =>
    simp only [vdf]; split
    · simp
    · have := ih (z / 128); simp; omega

/-- How many digits there are: one more where the number is not less than the next one's worth. -/
theorem vdf_len (f : Nat) : ∀ (z : Int) (k : Nat), 0 ≤ z → 1 ≤ k → (k < (vdf f z).length ↔ k ≤ f ∧ wor k ≤ z) := by
  induction f with
  | zero => intro z k hz hk; simp [vdf]; omega
  | succ f ih =>
    intro z k hz hk
    obtain ⟨k, rfl⟩ : ∃ j, k = j + 1 := ⟨k - 1, by omega⟩
    have hw : wor (k + 1) = 128 * wor k := rfl
    have hp := wor_pos k
    simp only [vdf]
    split
    · simp; omega
    · rename_i hlt
      cases k with
      | zero => have := vdf_pos f (z / 128); simp [wor]; omega
      | succ j =>
        have h := ih (z / 128) (j + 1) (by omega) (by omega)
        simp only [List.length_cons]
        constructor
        · intro h2; have := h.1 (by omega); omega
        · intro h2; have := h.2 (by omega); omega

/-- Each digit by its worth. -/
theorem vdf_get (f : Nat) : ∀ (z : Int) (k : Nat), 0 ≤ z → z < wor (f + 1) → k < (vdf f z).length →
    (vdf f z).getD k 0 = z / wor k % 128 + (if k + 1 < (vdf f z).length then 128 else 0) := by
  induction f with
  | zero =>
    intro z k hz hz2 hk
    simp [vdf] at hk
    subst hk
    simp [wor] at hz2
    simp [vdf, wor]
    omega
  | succ f ih =>
    intro z k hz hz2 hk
    have hw : wor (f + 1 + 1) = 128 * wor (f + 1) := rfl
    by_cases hlt : z < 128
    · simp only [vdf, if_pos hlt] at hk ⊢
      simp at hk
      subst hk
      simp [wor]
      omega
    · simp only [vdf, if_neg hlt] at hk ⊢
      cases k with
      | zero =>
        have := vdf_pos f (z / 128)
        simp [wor]
        rw [if_pos (by omega)]
        omega
      | succ k =>
        simp only [List.length_cons] at hk ⊢
        have h := ih (z / 128) k (by omega) (by omega) (by omega)
        have e : z / wor (k + 1) = z / 128 / wor k := by
          show z / (128 * wor k) = _
          rw [Int.ediv_ediv_of_nonneg (by omega)]
        simp only [List.getD_cons_succ, h, e]
        congr 1
        by_cases h2 : k + 1 < (vdf f (z / 128)).length
        · rw [if_pos h2, if_pos (by omega)]
        · rw [if_neg h2, if_neg (by omega)]

theorem vdf_byte (f : Nat) : ∀ (z : Int), 0 ≤ z → z < wor (f + 1) → ∀ x ∈ vdf f z, 0 ≤ x ∧ x < 256 := by
  induction f with
  | zero => intro z h1 h2 x hx; simp [wor] at h2; simp [vdf] at hx; omega
  | succ f ih =>
    intro z h1 h2 x hx
    have hw : wor (f + 1 + 1) = 128 * wor (f + 1) := rfl
    simp only [vdf] at hx
    split at hx
    · simp at hx; omega
    · simp only [List.mem_cons] at hx
      rcases hx with hx | hx
      · omega
      · exact ih (z / 128) (by omega) (by omega) x hx

/-! What is read back -/
def val : List Int → Int
  | [] => 0
  | x :: l => x % 128 + 128 * val l

theorem val_nonneg : ∀ l, 0 ≤ val l
  | [] => by simp [val]
  | x :: l => by have := val_nonneg l; simp only [val]; omega
theorem val_snoc (l : List Int) (x : Int) : val (l ++ [x]) = val l + x % 128 * wor l.length := by
  induction l with
  | nil => simp [val, wor]
  | cons y l ih =>
    simp only [List.cons_append, val, ih, List.length_cons, wor]
    rw [Int.mul_add, ← Int.mul_assoc, ← Int.mul_assoc, Int.mul_comm (x % 128) 128, Int.add_assoc]
theorem val_lt (l : List Int) : val l < wor l.length := by
  induction l with
  | nil => simp [val, wor]
  | cons y l ih => simp only [val, List.length_cons, wor]; omega

/-- All bytes have 128 more. -/
def Hi (l : List Int) : Prop := ∀ x ∈ l, 128 ≤ x ∧ x < 256

/-- What is read of its digits is the number with these digits just if the last one is not nought, or alone. -/
theorem vdf_val (f : Nat) : ∀ (l : List Int) (x : Int), Hi l → 0 ≤ x → x < 128 → l.length ≤ f →
    (vdf f (val (l ++ [x])) = l ++ [x] ↔ (l = [] ∨ x ≠ 0)) := by
  induction f with
  | zero =>
    intro l x hl h1 h2 hf
    obtain rfl : l = [] := List.eq_nil_of_length_eq_zero (by omega)
    simp [val, vdf]
    omega
  | succ f ih =>
    intro l x hl h1 h2 hf
    cases l with
    | nil =>
      have e : x % 128 = x := by omega
      simp only [List.nil_append, val, vdf, e]
      rw [if_pos (by omega)]
      simp
    | cons y l =>
      have hy := hl y (by simp)
      have hl' : Hi l := fun u hu => hl u (by simp [hu])
      have hi := ih l x hl' h1 h2 (by simp at hf; omega)
      have hn := val_nonneg (l ++ [x])
      simp only [List.cons_append, val, vdf]
      have e2 : (y % 128 + 128 * val (l ++ [x])) / 128 = val (l ++ [x]) := by omega
      have e3 : 128 + (y % 128 + 128 * val (l ++ [x])) % 128 = y := by omega
      by_cases hx : x = 0
      · constructor
        · intro h
          exfalso
          split at h
          · simp at h
          · rw [e2, e3] at h
            injection h with _ h
            have := hi.1 h
            rcases this with h3 | h3
            · subst h3
              simp only [List.nil_append, val, hx] at *
              omega
            · exact h3 hx
        · intro h; simp at h; exact absurd hx h
      · have hpos : 1 ≤ val (l ++ [x]) := by
          rw [val_snoc]
          have := wor_pos l.length
          have h4 := val_nonneg l
          have e : x % 128 = x := by omega
          rw [e]
          have : 1 * 1 ≤ x * wor l.length := Int.mul_le_mul (by omega) this (by omega) (by omega)
          omega
        rw [if_neg (by omega), e2, e3]
        simp only [List.cons.injEq, true_and]
        rw [hi]
        simp [hx]

/-! Reading a number from the front of bytes -/
def MV2 : Int := 2000000000000
/-- Of some bytes read already (each with 128 more) and those that follow: the bytes of the number that ends first; none where it is no number's form. -/
def gvf : Nat → List Int → List Int → Option (List Int)
  | 0, _, _ => none
  | _ + 1, _, [] => none
  | f + 1, pre, x :: r => if 128 ≤ x then gvf f (pre ++ [x]) r else if val (pre ++ [x]) ≤ 2000000000000 ∧ (pre = [] ∨ x ≠ 0) then some (pre ++ [x]) else none
def gv (t : List Int) : Option (List Int) := gvf 6 [] t

theorem take_one (t : List Int) (k : Nat) (h : k < t.length) : t.take (k + 1) = t.take k ++ [t.getD k 0] := by
  rw [List.take_succ_eq_append_getElem h]; simp [List.getD, List.getElem?_eq_getElem h]
theorem drop_one (t : List Int) (k : Nat) (h : k < t.length) : t.drop k = t.getD k 0 :: t.drop (k + 1) := by
  rw [List.drop_eq_getElem_cons h]; simp [List.getD, List.getElem?_eq_getElem h]

theorem gvf_on {t : List Int} {k : Nat} (h : k < t.length) (h6 : k < 6) (hx : 128 ≤ t.getD k 0) :
    gvf (6 - k) (t.take k) (t.drop k) = gvf (6 - (k + 1)) (t.take (k + 1)) (t.drop (k + 1)) := by
  obtain ⟨f, hf⟩ : ∃ f, 6 - k = f + 1 := ⟨5 - k, by omega⟩
  have hf2 : 6 - (k + 1) = f := by omega
  rw [hf, hf2, drop_one t k h, take_one t k h]
  simp only [gvf]
  rw [if_pos hx]
theorem gvf_stop {t : List Int} {k : Nat} (h : k < t.length) (h6 : k < 6) (hx : t.getD k 0 < 128) :
    gvf (6 - k) (t.take k) (t.drop k) = if val (t.take (k + 1)) ≤ 2000000000000 ∧ (k = 0 ∨ t.getD k 0 ≠ 0) then some (t.take (k + 1)) else none := by
  obtain ⟨f, hf⟩ : ∃ f, 6 - k = f + 1 := ⟨5 - k, by omega⟩
  rw [hf, drop_one t k h, take_one t k h]
  simp only [gvf]
  rw [if_neg (by omega)]
  have e : (t.take k = []) ↔ k = 0 := by
    constructor
    · intro h2
      have hl : (t.take k).length = k := by simp; omega
      rw [h2] at hl
      simp at hl
      omega
    · intro h2; simp [h2]
  simp only [e]
theorem gvf_six {t : List Int} {k : Nat} (h6 : 6 ≤ k) : gvf (6 - k) (t.take k) (t.drop k) = none := by
  rw [show 6 - k = 0 by omega]; rfl
theorem gvf_end {t : List Int} {k : Nat} (h : t.length ≤ k) : gvf (6 - k) (t.take k) (t.drop k) = none := by
  rw [List.drop_eq_nil_of_le h]
  cases 6 - k <;> rfl

/-- Whether digits are a number's own: by holding its digits against them, or by the last one. -/
theorem form_iff {t : List Int} {k : Nat} (h : k < t.length) (hhi : Hi (t.take k)) (h0 : 0 ≤ t.getD k 0) (hx : t.getD k 0 < 128) :
    (vd (val (t.take (k + 1))) = t.take (k + 1)) ↔ (k < 6 ∧ (k = 0 ∨ t.getD k 0 ≠ 0)) := by
  rw [take_one t k h]
  have hl : (t.take k).length = k := by simp; omega
  by_cases h6 : k < 6
  · have := vdf_val 5 (t.take k) (t.getD k 0) hhi h0 hx (by omega)
    unfold vd
    rw [this]
    have e : (t.take k = []) ↔ k = 0 := by
      constructor
      · intro h2; rw [h2] at hl; simp at hl; omega
      · intro h2; simp [h2]
    rw [e]
    simp [h6]
  · constructor
    · intro h2
      have h3 := congrArg List.length h2
      have h4 := vdf_le 5 (val (t.take k ++ [t.getD k 0]))
      unfold vd at h3
      rw [h3] at h4
      simp only [List.length_append, hl, List.length_cons, List.length_nil] at h4
      omega
    · intro h2; omega

theorem vd_sep (k : Nat) (t : List Int) (h : k < t.length) (h6 : k < 7) (hhi : Hi (t.take k)) (h0 : 0 ≤ t.getD k 0) (hx : t.getD k 0 < 128) :
    gvf (6 - k) (t.take k) (t.drop k) = if val (t.take (k + 1)) ≤ 2000000000000 ∧ vd (val (t.take (k + 1))) = t.take (k + 1) then some (t.take (k + 1)) else none := by
  by_cases h5 : k < 6
  · rw [gvf_stop h h5 hx]
    have := form_iff h hhi h0 hx
    simp only [this, h5, true_and]
  · rw [gvf_six (by omega)]
    have := form_iff h hhi h0 hx
    rw [if_neg]
    intro ⟨_, h2⟩
    have := this.1 h2
    omega
theorem val_take (t : List Int) (k : Nat) (h : k < t.length) : val (t.take (k + 1)) = val (t.take k) + t.getD k 0 % 128 * wor k := by
  rw [take_one t k h, val_snoc]
  have hl : (t.take k).length = k := by simp; omega
  rw [hl]
theorem val_bd (t : List Int) (k : Nat) (h : k ≤ t.length) : 0 ≤ val (t.take k) ∧ val (t.take k) < wor k := by
  have hl : (t.take k).length = k := by simp; omega
  have := val_lt (t.take k)
  rw [hl] at this
  exact ⟨val_nonneg _, this⟩
theorem hi_take {t : List Int} {k : Nat} (h : k < t.length) (hhi : Hi (t.take k)) (hx : 128 ≤ t.getD k 0) (h2 : t.getD k 0 < 256) : Hi (t.take (k + 1)) := by
  rw [take_one t k h]
  intro x hm
  simp only [List.mem_append, List.mem_singleton] at hm
  rcases hm with hm | hm
  · exact hhi x hm
  · subst hm; exact ⟨hx, h2⟩
theorem wor_le {j k : Nat} (h : j ≤ k) : wor j ≤ wor k := by
  induction k with
  | zero => obtain rfl : j = 0 := by omega
            exact Int.le_refl _
  | succ k ih =>
    by_cases e : j = k + 1
    · subst e; exact Int.le_refl _
    · have := ih (by omega)
      have hp := wor_pos k
      have hw : wor (k + 1) = 128 * wor k := rfl
      omega
/-- A digit by its worth does not run over. -/
theorem digit_bd (b : Int) (k : Nat) (hk : k < 7) : 0 ≤ b % 128 * wor k ∧ b % 128 * wor k ≤ 562949953421311 := by
  have h1 := wor_pos k
  have h2 : wor k ≤ wor 6 := wor_le (by omega)
  have h3 : wor 6 = 4398046511104 := by simp [wor]
  have hb0 : 0 ≤ b % 128 := by omega
  have hb1 : b % 128 ≤ 127 := by omega
  refine ⟨Int.mul_nonneg hb0 (by omega), ?_⟩
  have := Int.mul_le_mul hb1 (show wor k ≤ 4398046511104 by omega) (by omega) (by omega)
  omega
theorem val_bd7 (t : List Int) (k : Nat) (h : k ≤ t.length) (hk : k < 8) : 0 ≤ val (t.take k) ∧ val (t.take k) ≤ 562949953421311 := by
  have h1 := val_bd t k h
  have h2 : wor k ≤ wor 7 := wor_le (by omega)
  have h3 : wor 7 = 562949953421312 := by simp [wor]
  omega
end Go.Proofs.Ytkfnejiiancmhad.L1

namespace Go.Proofs.Ytkfnejiiancmhad.L1
open Go.RowKit
set_option linter.unusedVariables false

theorem hide {p : Prop} (h : p) : Hid p := h
theorem unhide {p : Prop} (h : Hid p) : p := h
theorem ret_int {k : IntKind} {a b : Int} (h : a = b) : Ending.returned (.int k a) = .returned (.int k b) := by rw [h]
theorem addr_add (g i : Nat) : (⟨g, 0, none⟩ : Addr).add i = ⟨g, i, none⟩ := by unfold Addr.add; split <;> simp_all

/-- What a walk is told of a slice of integers that came in: it is nil; or it leads to a row of 'cap' cells, the numbers 'zs' (the first 'len' are its elements), each fitting its kind. -/
def IsRow (k : IntKind) (w : World) (a : Option Addr) (len cap : Nat) (zs : List Int) : Prop :=
  (a = none ∧ len = 0 ∧ cap = 0 ∧ zs = []) ∨
  ∃ x, a = some x ∧ len ≤ cap ∧ cap ≤ maxLen ∧ zs.length = cap ∧ (∀ i, i < zs.length → w.cell? (x.add i) = some (.int k (zs.getD i 0))) ∧ ∀ n ∈ zs, (Lit.int k n).wf = true
end Go.Proofs.Ytkfnejiiancmhad.L1

namespace Go.Proofs.Ytkfnejiiancmhad.L1
open Go.RowKit
set_option linter.unusedVariables false

theorem info_int : (Try.prog.info? 3).map (fun i => (i.zero, i.size, i.bytes)) = some (some (.int .i64 0), 1, 8) := by kernel_rfl

/-- A list of ints lies in memory from an address on. -/
def Sl (w : World) (a : Option Addr) (xs : List Int) : Prop := ∀ i, i < xs.length → ∃ b off, a = some ⟨b, off, none⟩ ∧ w.cell? ⟨b, off + i, none⟩ = some (.int .i64 (xs.getD i 0))

theorem blk_lt {w : World} {b o : Nat} {v : Value} (h : w.cell? ⟨b, o, none⟩ = some v) : b < w.heap.size := by
  by_cases hb : b < w.heap.size
  · exact hb
  · simp [World.cell?, Array.getElem?_eq_none (show w.heap.size ≤ b by omega)] at h
theorem Sl.below {w w' : World} {a : Option Addr} {xs : List Int} (h : Sl w a xs) (hb : Below w.heap.size w w') : Sl w' a xs := fun i hi => by
  obtain ⟨b, off, ha, hc⟩ := h i hi
  refine ⟨b, off, ha, ?_⟩
  rw [hb.cell (p := ⟨b, off + i, none⟩) (blk_lt hc)]
  exact hc
theorem Sl.at {w : World} {b off : Nat} {xs : List Int} (h : Sl w (some ⟨b, off, none⟩) xs) (i : Nat) (hi : i < xs.length) : w.cell? ⟨b, off + i, none⟩ = some (.int .i64 (xs.getD i 0)) := by
  obtain ⟨b', off', ha, hc⟩ := h i hi
  simp at ha
  obtain ⟨rfl, rfl⟩ := ha
  exact hc
theorem sl_of_own {w : World} {base g n cap : Nat} {xs : List Int} (h : w.ownsRow base 3 1 (.slice (some ⟨g, 0, none⟩) n cap) n (xs.map (Value.int .i64))) : Sl w (some ⟨g, 0, none⟩) xs := fun i hi => by
  have := h.cells (g := g) rfl i (.int .i64 (xs.getD i 0)) (by
    rw [List.getElem?_map, List.getElem?_eq_getElem hi]
    simp [List.getD, List.getElem?_eq_getElem hi])
  rw [addr_add] at this
  exact ⟨g, 0, rfl, by simpa using this⟩
theorem sl_of_row {w : World} {a : Option Addr} {len cap : Nat} {zs : List Int} (h : IsRow .i64 w a len cap zs) : Sl w a (zs.take len) ∧ (zs.take len).length = len ∧ len ≤ maxLen := by
  rcases h with ⟨rfl, rfl, rfl, rfl⟩ | ⟨x, rfl, hl, hm, hz, hc, _⟩
  · exact ⟨fun i hi => by simp at hi, by simp, by unfold maxLen; omega⟩
  · refine ⟨fun i hi => ?_, by simp; omega, by omega⟩
    have hi' : i < zs.length := by simp at hi; omega
    have hil : i < len := by simp at hi; omega
    have h0 := hc i hi'
    obtain ⟨b, off, spot⟩ := x
    have hspot : spot = none := by
      have h00 := hc 0 (by omega)
      simpa [Addr.add] using World.cell?_spot h00
    subst hspot
    refine ⟨b, off, rfl, ?_⟩
    have e : (⟨b, off, none⟩ : Addr).add i = ⟨b, off + i, none⟩ := by unfold Addr.add; split <;> simp_all
    rw [e] at h0
    rw [h0]
    simp [List.getD, hil]

theorem made_ints (n : Nat) : (madeCells (Value.int .i64 0).cells (n * 1)).toList = (List.replicate n (0 : Int)).map (Value.int .i64) := by
  rw [Nat.mul_one]
  show (madeCells #[Value.int .i64 0] n).toList = _
  rw [toList_madeCells_one]
  simp

/-- One round of the copy. -/
theorem copy_round {w wr : World} {xs ys : List Int} {m k : Nat} (hlt : k < m) (hm : xs.length = m) (hl : ys.length = m) (HX : ∀ j, j < k → ys.getD j 0 = xs.getD j 0)
    (hown : wr.ownsRow w.heap.size 3 1 (.slice (some ⟨w.heap.size, 0, none⟩) m m) m (ys.map (Value.int .i64))) (hb : Below w.heap.size w wr) :
    ∃ (k' : Nat) (ys' : List Int), k' ≤ m ∧ Value.int .i64 ((k : Int) + 1) = .int .i64 k' ∧ ys'.length = m ∧ Hid (∀ j, j < k' → ys'.getD j 0 = xs.getD j 0) ∧
      (wr.setCell ⟨w.heap.size, k, none⟩ (.int .i64 (xs.getD k 0))).ownsRow w.heap.size 3 1 (.slice (some ⟨w.heap.size, 0, none⟩) m m) m (ys'.map (Value.int .i64)) ∧ Below w.heap.size w (wr.setCell ⟨w.heap.size, k, none⟩ (.int .i64 (xs.getD k 0))) := by
  have hst := hown.stored k (.int .i64 (xs.getD k 0))
  have hb2 := hb.setCell (p := ⟨w.heap.size, k, none⟩) (Nat.le_refl _) (.int .i64 (xs.getD k 0))
  refine ⟨k + 1, ys.set k (xs.getD k 0), by omega, by simp, by simpa using hl, ?_, by rw [List.map_set]; exact hst.1, hb2⟩
  intro j hj
  by_cases e : j = k
  · subst e
    simp [List.getD, hl, hlt]
  · rw [← HX j (by omega)]
    simp [List.getD, Ne.symm e]
theorem list_same {xs ys : List Int} {m : Nat} (h1 : xs.length = m) (h2 : ys.length = m) (h : ∀ j, j < m → ys.getD j 0 = xs.getD j 0) : ys = xs := by
  apply List.ext_getElem?
  intro j
  by_cases hj : j < m
  · have h := h j hj
    simp only [List.getD, List.getElem?_eq_getElem (show j < ys.length by omega), List.getElem?_eq_getElem (show j < xs.length by omega), Option.getD_some] at h
    rw [List.getElem?_eq_getElem (show j < ys.length by omega), List.getElem?_eq_getElem (show j < xs.length by omega), h]
  · rw [List.getElem?_eq_none (by omega), List.getElem?_eq_none (by omega)]

/-- A list that is owned, as a value. -/
theorem own_form {w : World} {base n : Nat} {v : Value} {xs : List Int} (h : w.ownsRow base 3 1 v n (xs.map (Value.int .i64))) : ∃ a cap, v = .slice a n cap ∧ Sl w a xs ∧ xs.length = n := by
  have hl := h.1
  simp at hl
  rcases h.2 with ⟨hv, h0⟩ | ⟨g, cap, cur, hv, _⟩
  · subst h0
    exact ⟨none, 0, hv, fun i hi => by omega, hl⟩
  · subst hv
    exact ⟨_, cap, rfl, sl_of_own h, hl⟩
/-- What is owned stays so while nothing that is there turns. -/
theorem own_below {w w' : World} {base n : Nat} {v : Value} {ys : List Value} (h : w.ownsRow base 3 1 v n ys) (hb : Below w.heap.size w w') : w'.ownsRow base 3 1 v n ys := by
  refine ⟨h.1, ?_⟩
  rcases h.2 with h0 | ⟨g, cap, cur, rfl, hbg, hg, r⟩
  · exact .inl h0
  · exact .inr ⟨g, cap, cur, rfl, hbg, by rw [hb.block g (Array.getElem?_eq_some_iff.1 hg).1]; exact hg, r⟩
theorem own_ge {w : World} {base n g cap : Nat} {xs : List Value} (h : w.ownsRow base 3 1 (.slice (some ⟨g, 0, none⟩) n cap) n xs) : base ≤ g := (h.lt g rfl).1

/-- A list that a call hands back, in new memory, and whether there is one. -/
def RetL (w : World) (r : Option (List Int)) (e : Ending) (w' : World) : Prop :=
  ∃ v, e = .returned (.tuple #[v, .bool r.isSome]) ∧ w'.ownsRow w.heap.size 3 1 v (r.getD []).length ((r.getD []).map (Value.int .i64)) ∧ Below w.heap.size w w'
end Go.Proofs.Ytkfnejiiancmhad.L1

namespace Go.Proofs.Ytkfnejiiancmhad.L11
open Go.RowKit L1
set_option linter.unusedVariables false


/-- A event as a value. -/
def sv (p : Int × Int) : Value := .agg #[.int .i64 p.1, .int .i64 p.2]
/-- A list of events lies in memory from an address on. -/
def Sl2 (w : World) (a : Option Addr) (l : List (Int × Int)) : Prop := ∀ i, i < l.length → ∃ b off, a = some ⟨b, off, none⟩ ∧ w.cell? ⟨b, off + i * 2, none⟩ = some (.int .i64 (l.getD i (0, 0)).1) ∧ w.cell? ⟨b, off + i * 2 + 1, none⟩ = some (.int .i64 (l.getD i (0, 0)).2)
theorem Sl2.below {w w' : World} {a : Option Addr} {xs : List (Int × Int)} (h : Sl2 w a xs) (hb : Below w.heap.size w w') : Sl2 w' a xs := fun i hi => by
  obtain ⟨b, off, ha, hc, hd⟩ := h i hi
  refine ⟨b, off, ha, ?_, ?_⟩
  · rw [hb.cell (p := ⟨b, off + i * 2, none⟩) (blk_lt hc)]; exact hc
  · rw [hb.cell (p := ⟨b, off + i * 2 + 1, none⟩) (blk_lt hd)]; exact hd

/-- What a walk is told of a slice of events that came in. -/
def IsRow2 (w : World) (a : Option Addr) (len : Nat) (l : List (Int × Int)) : Prop := l.length = len ∧ len ≤ maxLen ∧ Sl2 w a l
open Classical in
theorem row2_of_pairs {w : World} {a : Addr} {len cap : Nat} (hl : len ≤ cap) (hm : cap ≤ maxLen) (h : ∀ i, i < len → ∃ n0 n1, w.cell? (a.add (i * 2)) = some (.int .i64 n0) ∧ w.cell? (a.add (i * 2 + 1)) = some (.int .i64 n1)) : ∃ l, IsRow2 w (some a) len l := by
  have hc : ∃ f : Nat → Int × Int, ∀ i, i < len → w.cell? (a.add (i * 2)) = some (.int .i64 (f i).1) ∧ w.cell? (a.add (i * 2 + 1)) = some (.int .i64 (f i).2) := by
    refine ⟨fun i => if hi : i < len then (Classical.choose (h i hi), Classical.choose (Classical.choose_spec (h i hi))) else (0, 0), fun i hi => ?_⟩
    simp only [dif_pos hi]
    exact Classical.choose_spec (Classical.choose_spec (h i hi))
  obtain ⟨f, hf⟩ := hc
  refine ⟨(List.range len).map f, by simp, Nat.le_trans hl hm, fun i hi => ?_⟩
  have hi' : i < len := by simpa using hi
  obtain ⟨b, off, spot⟩ := a
  have hspot : spot = none := by
    have h00 := (hf 0 (by omega)).1
    have := World.cell?_spot h00
    simpa [Addr.add] using this
  subst hspot
  have e0 : ∀ j, (⟨b, off, none⟩ : Addr).add j = ⟨b, off + j, none⟩ := fun j => by unfold Addr.add; split <;> simp_all
  have hg : ((List.range len).map f).getD i (0, 0) = f i := by simp [List.getD, hi']
  have := hf i hi'
  rw [e0, e0] at this
  rw [hg]
  exact ⟨b, off, rfl, this.1, this.2⟩



/-- The cells of events, one behind the other. -/
def flat : List (Int × Int) → List Value
  | [] => []
  | p :: l => .int .i64 p.1 :: .int .i64 p.2 :: flat l
theorem flat_len : ∀ l : List (Int × Int), (flat l).length = l.length * 2
  | [] => rfl
  | p :: l => by simp [flat, flat_len l]; omega
theorem flat_get : ∀ (l : List (Int × Int)) (i : Nat), i < l.length → (flat l)[i * 2]? = some (.int .i64 (l.getD i (0, 0)).1) ∧ (flat l)[i * 2 + 1]? = some (.int .i64 (l.getD i (0, 0)).2)
  | [], i, h => by simp at h
  | p :: l, 0, _ => ⟨rfl, rfl⟩
  | p :: l, i + 1, h => by
    have := flat_get l i (by simpa using h)
    have e1 : (i + 1) * 2 = i * 2 + 1 + 1 := by omega
    rw [e1]
    simpa only [flat, List.getElem?_cons_succ, List.getD_cons_succ] using this
theorem flat_append (l m : List (Int × Int)) : flat (l ++ m) = flat l ++ flat m := by
  induction l with
  | nil => rfl
  | cons p l ih => simp [flat, ih]
theorem flat_set : ∀ (l : List (Int × Int)) (i : Nat) (p : Int × Int), flat (l.set i p) = ((flat l).set (i * 2) (.int .i64 p.1)).set (i * 2 + 1) (.int .i64 p.2)
  | [], _, _ => rfl
  | q :: l, 0, p => rfl
  | q :: l, i + 1, p => by
    have := flat_set l i p
    have e1 : (i + 1) * 2 = i * 2 + 1 + 1 := by omega
    rw [e1]
    simp only [List.set_cons_succ, flat, this]
theorem own_form2 {w : World} {base n : Nat} {v : Value} {l : List (Int × Int)} (h : w.ownsRow base 118 2 v n (flat l)) : ∃ a cap, v = .slice a n cap ∧ Sl2 w a l ∧ l.length = n := by
  have hl := h.1
  rw [flat_len] at hl
  have hl' : l.length = n := by omega
  rcases h.2 with ⟨hv, h0⟩ | ⟨g, cap, cur, hv, _⟩
  · subst h0
    exact ⟨none, 0, hv, fun i hi => by omega, hl'⟩
  · subst hv
    refine ⟨_, cap, rfl, fun i hi => ?_, hl'⟩
    have hf := flat_get l i hi
    have h1 := h.cells (g := g) rfl (i * 2) _ hf.1
    have h2 := h.cells (g := g) rfl (i * 2 + 1) _ hf.2
    rw [addr_add] at h1 h2
    exact ⟨g, 0, rfl, by simpa using h1, by simpa using h2⟩
theorem own_below2 {w w' : World} {base n : Nat} {v : Value} {ys : List Value} (h : w.ownsRow base 118 2 v n ys) (hb : Below w.heap.size w w') : w'.ownsRow base 118 2 v n ys := by
  refine ⟨h.1, ?_⟩
  rcases h.2 with h0 | ⟨g, cap, cur, rfl, hbg, hg, r⟩
  · exact .inl h0
  · exact .inr ⟨g, cap, cur, rfl, hbg, by rw [hb.block g (Array.getElem?_eq_some_iff.1 hg).1]; exact hg, r⟩
theorem info_ev : (Try.prog.info? 118).map (fun i => (i.zero, i.size, i.bytes)) = some (some (.agg #[.int .i64 0, .int .i64 0]), 2, 16) := by kernel_rfl



theorem own_sl2 {w : World} {base n cap : Nat} {a : Option Addr} {l : List (Int × Int)} (h : w.ownsRow base 118 2 (.slice a n cap) n (flat l)) : Sl2 w a l := by
  obtain ⟨b, q, e, s, _⟩ := own_form2 h
  cases e
  exact s

theorem own_belowT {w w' : World} {base n : Nat} {t : TypeId} {c : Nat} {v : Value} {ys : List Value} (h : w.ownsRow base t c v n ys) (hb : Below w.heap.size w w') : w'.ownsRow base t c v n ys := by
  refine ⟨h.1, ?_⟩
  rcases h.2 with h0 | ⟨g, cap, cur, rfl, hbg, hg, r⟩
  · exact .inl h0
  · exact .inr ⟨g, cap, cur, rfl, hbg, by rw [hb.block g (Array.getElem?_eq_some_iff.1 hg).1]; exact hg, r⟩
theorem own_baseT {w : World} {b c n size : Nat} {e : TypeId} {v : Value} {xs : List Value} (h : w.ownsRow c e size v n xs) (hbc : b ≤ c) : w.ownsRow b e size v n xs := by
  refine ⟨h.1, ?_⟩
  rcases h.2 with h0 | ⟨g, cap, cur, hv, hg, r⟩
  · exact .inl h0
  · exact .inr ⟨g, cap, cur, hv, Nat.le_trans hbc hg, r⟩
theorem bool_noT {b : Bool} {p : Prop} (h : b = true ↔ p) (hp : ¬ p) : b = false := by
  cases b with
  | false => rfl
  | true => exact absurd (h.1 rfl) hp
end Go.Proofs.Ytkfnejiiancmhad.L11

namespace Go.Proofs.Ytkfnejiiancmhad.L11
set_option linter.unusedVariables false

abbrev Ev := Int × Int
def nd (l : List Ev) (k : Nat) : Int := (l.getD k (0, 0)).1
def fr (l : List Ev) (k : Nat) : Int := (l.getD k (0, 0)).2
/-- The event at a place is good behind those ahead. -/
def StepV (nodes : Int) (l : List Ev) (k : Nat) : Prop := 0 ≤ nd l k ∧ nd l k < nodes ∧ -1 ≤ fr l k ∧ fr l k < k ∧ (0 ≤ fr l k → nd l (fr l k).toNat ≠ nd l k)
/-- Good events. -/
def GoodV (nodes : Int) (l : List Ev) : Prop := 1 ≤ nodes ∧ nodes ≤ 5 ∧ l.length ≤ 40 ∧ ∀ j, j < l.length → StepV nodes l j

/-- The number of the last event at a node ahead of a place, -1 for none. -/
def pri (l : List Ev) (x : Int) : Nat → Int
  | 0 => -1
  | m + 1 => if nd l m = x then (m : Int) else pri l x m
theorem pri_ge (l : List Ev) (x : Int) : ∀ m, -1 ≤ pri l x m
  | 0 => by simp [pri]
  | m + 1 => by unfold pri; split; omega; exact pri_ge l x m
theorem pri_lt (l : List Ev) (x : Int) : ∀ m : Nat, pri l x m < (m : Int)
  | 0 => by simp [pri]
  | m + 1 => by unfold pri; split; omega; have := pri_lt l x m; omega
theorem pri_nd (l : List Ev) (x : Int) : ∀ m : Nat, 0 ≤ pri l x m → nd l (pri l x m).toNat = x
  | 0 => by simp [pri]
  | m + 1 => by
    unfold pri; split
    · rename_i h; intro _; simpa using h
    · exact pri_nd l x m
theorem pri_max (l : List Ev) (x : Int) : ∀ m i : Nat, i < m → nd l i = x → (i : Int) ≤ pri l x m
  | 0, i, h, _ => by omega
  | m + 1, i, h, e => by
    unfold pri; split
    · omega
    · rename_i hne
      have : i ≠ m := fun h => hne (h ▸ e)
      exact pri_max l x m i (by omega) e
/-- How many of the first events are at a node. -/
def cnt (l : List Ev) (x : Int) : Nat → Int
  | 0 => 0
  | m + 1 => cnt l x m + if nd l m = x then 1 else 0
theorem cnt_nn (l : List Ev) (x : Int) : ∀ m, 0 ≤ cnt l x m
  | 0 => by simp [cnt]
  | m + 1 => by have := cnt_nn l x m; unfold cnt; split <;> omega
theorem cnt_le (l : List Ev) (x : Int) : ∀ m : Nat, cnt l x m ≤ (m : Int)
  | 0 => by simp [cnt]
  | m + 1 => by have := cnt_le l x m; unfold cnt; split <;> omega
theorem cnt_mono (l : List Ev) (x : Int) {a b : Nat} (h : a ≤ b) : cnt l x a ≤ cnt l x b := by
  induction b with
  | zero => obtain rfl : a = 0 := by omega
            exact Int.le_refl _
  | succ b ih =>
    by_cases e : a = b + 1
    · subst e; exact Int.le_refl _
    · have := ih (by omega)
      show _ ≤ cnt l x b + _
      split <;> omega
theorem cnt_pri (l : List Ev) (x : Int) : ∀ m, cnt l x (pri l x m + 1).toNat = cnt l x m
  | 0 => by simp [pri]
  | m + 1 => by
    unfold pri; split
    · have : ((m : Int) + 1).toNat = m + 1 := by omega
      rw [this]
    · rename_i h
      rw [cnt_pri l x m]
      simp [cnt, h]

/-- The clock of an event, node by node. -/
def clk (l : List Ev) (k : Nat) (x : Int) : Int :=
  max (if h : 0 ≤ pri l (nd l k) k then clk l (pri l (nd l k) k).toNat x else 0) (if h : 0 ≤ fr l k ∧ fr l k < k then clk l (fr l k).toNat x else 0) + if x = nd l k then 1 else 0
termination_by k
decreasing_by
  · have := pri_lt l (nd l k) k; omega
  · omega
/-- The clock of an event that may not be. -/
def clkO (l : List Ev) (i : Int) (x : Int) : Int := if 0 ≤ i then clk l i.toNat x else 0
/-- The part of a clock that comes of the event ahead at its node. -/
def cP (l : List Ev) (k : Nat) (x : Int) : Int := clkO l (pri l (nd l k) k) x
/-- The part of a clock that comes of what was heard of. -/
def cF (l : List Ev) (k : Nat) (x : Int) : Int := if 0 ≤ fr l k ∧ fr l k < k then clk l (fr l k).toNat x else 0
theorem clk_two (l : List Ev) (k : Nat) (x : Int) : clk l k x = max (cP l k x) (cF l k x) + if x = nd l k then 1 else 0 := by
  rw [clk]
  unfold cP cF clkO
  congr 1
theorem clk_eq (l : List Ev) (k : Nat) (x : Int) (h : fr l k < k) : clk l k x = max (clkO l (pri l (nd l k) k) x) (clkO l (fr l k) x) + if x = nd l k then 1 else 0 := by
  rw [clk_two]
  unfold cP cF
  congr 1
  congr 1
  unfold clkO
  by_cases h0 : 0 ≤ fr l k
  · rw [if_pos ⟨h0, h⟩, if_pos h0]
  · rw [if_neg (fun c => h0 c.1), if_neg h0]
theorem clk_nn (l : List Ev) (k : Nat) (x : Int) : 0 ≤ clk l k x := by
  induction k using Nat.strongRecOn with
  | ind k ih =>
    rw [clk_two]
    have h1 : 0 ≤ cP l k x := by
      unfold cP clkO
      split
      · exact ih _ (by have := pri_lt l (nd l k) k; omega)
      · exact Int.le_refl _
    split <;> omega
theorem clkO_nn (l : List Ev) (i x : Int) : 0 ≤ clkO l i x := by
  unfold clkO; split
  · exact clk_nn _ _ _
  · exact Int.le_refl _
theorem clk_le (l : List Ev) (k : Nat) (x : Int) : clk l k x ≤ cnt l x (k + 1) := by
  induction k using Nat.strongRecOn with
  | ind k ih =>
    rw [clk_two]
    show _ ≤ cnt l x k + _
    have h0 := cnt_nn l x k
    have h1 : cP l k x ≤ cnt l x k := by
      unfold cP clkO
      split
      · rename_i h
        have hp := pri_lt l (nd l k) k
        exact Int.le_trans (ih _ (by omega)) (cnt_mono l x (by omega))
      · exact h0
    have h2 : cF l k x ≤ cnt l x k := by
      unfold cF
      split
      · rename_i h
        exact Int.le_trans (ih _ (by omega)) (cnt_mono l x (by omega))
      · exact h0
    by_cases e : x = nd l k
    · rw [if_pos e, if_pos e.symm]; omega
    · rw [if_neg e, if_neg (Ne.symm e)]; omega
theorem clk_own (l : List Ev) (k : Nat) : clk l k (nd l k) = cnt l (nd l k) (k + 1) := by
  apply Int.le_antisymm (clk_le l k _)
  induction k using Nat.strongRecOn with
  | ind k ih =>
    rw [clk_two]
    show cnt l (nd l k) k + _ ≤ _
    rw [if_pos rfl]
    have h1 : cnt l (nd l k) k ≤ cP l k (nd l k) := by
      have hp := pri_lt l (nd l k) k
      have hc := cnt_pri l (nd l k) k
      unfold cP clkO
      split
      · rename_i h
        have hn := pri_nd l (nd l k) k h
        have := ih (pri l (nd l k) k).toNat (by omega)
        rw [hn] at this
        rw [← hc]
        have e : (pri l (nd l k) k + 1).toNat = (pri l (nd l k) k).toNat + 1 := by omega
        rw [e]; exact this
      · rename_i h
        have hg := pri_ge l (nd l k) k
        have e : (pri l (nd l k) k + 1).toNat = 0 := by omega
        rw [← hc, e]
        exact Int.le_refl _
    omega

/-- What an event comes of at once. -/
def Par (l : List Ev) (p b : Nat) : Prop := pri l (nd l b) b = (p : Int) ∨ (fr l b = (p : Int) ∧ p < b)
/-- What came first. -/
inductive Anc (l : List Ev) : Nat → Nat → Prop
  | one {p b : Nat} (h : Par l p b) : Anc l p b
  | more {i p b : Nat} (h : Par l p b) (h2 : Anc l i p) : Anc l i b
theorem Par.lt {l : List Ev} {p b : Nat} (h : Par l p b) : p < b := by
  rcases h with h | h
  · have := pri_lt l (nd l b) b; omega
  · exact h.2
theorem Anc.lt {l : List Ev} {a b : Nat} (h : Anc l a b) : a < b := by
  induction h with
  | one h => exact h.lt
  | more h _ ih => have := h.lt; omega
theorem Par.le {l : List Ev} {p b : Nat} (h : Par l p b) (x : Int) : clk l p x ≤ clk l b x := by
  rw [clk_two l b x]
  rcases h with h | h
  · have : cP l b x = clk l p x := by
      unfold cP clkO
      rw [if_pos (by omega), h]; rfl
    split <;> omega
  · have : cF l b x = clk l p x := by
      unfold cF
      rw [if_pos (by omega), h.1]; rfl
    split <;> omega
theorem Anc.le {l : List Ev} {a b : Nat} (h : Anc l a b) (x : Int) : clk l a x ≤ clk l b x := by
  induction h with
  | one h => exact h.le x
  | more h _ ih => exact Int.le_trans ih (h.le x)
/-- Which events of a node a clock counts: they came first, or it is the event itself. -/
theorem anc_of (l : List Ev) (b i : Nat) (h : cnt l (nd l i) (i + 1) ≤ clk l b (nd l i)) : i = b ∨ Anc l i b := by
  induction b using Nat.strongRecOn with
  | ind b ih =>
    have h1 : 1 ≤ cnt l (nd l i) (i + 1) := by
      have := cnt_nn l (nd l i) i
      show 1 ≤ cnt l (nd l i) i + _
      rw [if_pos rfl]; omega
    have via : ∀ p, Par l p b → cnt l (nd l i) (i + 1) ≤ clk l p (nd l i) → i = b ∨ Anc l i b := fun p hp hc => by
      rcases ih p hp.lt hc with rfl | ha
      · exact .inr (.one hp)
      · exact .inr (.more hp ha)
    by_cases e : nd l i = nd l b
    · by_cases hib : i = b
      · exact .inl hib
      · have hlt : i < b := by
          rcases Nat.lt_or_ge i b with h2 | h2
          · exact h2
          · exfalso
            have h3 := clk_le l b (nd l i)
            have h4 := cnt_mono l (nd l i) (show b + 1 ≤ i by omega)
            have h5 : cnt l (nd l i) (i + 1) = cnt l (nd l i) i + 1 := by
              show cnt l (nd l i) i + _ = _
              rw [if_pos rfl]
            omega
        have hm := pri_max l (nd l b) b i hlt e
        have hn := pri_nd l (nd l b) b (by omega)
        have hpl := pri_lt l (nd l b) b
        obtain ⟨p, hp⟩ : ∃ p : Nat, pri l (nd l b) b = (p : Int) := ⟨(pri l (nd l b) b).toNat, by omega⟩
        refine via p (.inl hp) ?_
        rw [hp] at hn hm
        have hn' : nd l p = nd l i := by rw [e]; exact hn
        rw [← hn', clk_own]
        exact cnt_mono l _ (by omega)
    · rw [clk_two, if_neg e] at h
      by_cases hp : cnt l (nd l i) (i + 1) ≤ cP l b (nd l i)
      · unfold cP clkO at hp
        split at hp
        · exact via (pri l (nd l b) b).toNat (.inl (by omega)) hp
        · omega
      · have hq : cnt l (nd l i) (i + 1) ≤ cF l b (nd l i) := by omega
        unfold cF at hq
        split at hq
        · exact via (fr l b).toNat (.inr (by omega)) hq
        · omega
/-- One event came first for another just if its clock is less (Fidge; Mattern). -/
theorem anc_iff (l : List Ev) (a b : Nat) : Anc l a b ↔ a ≠ b ∧ ∀ x, clk l a x ≤ clk l b x := by
  constructor
  · intro h
    exact ⟨fun e => by have := h.lt; omega, fun x => h.le x⟩
  · rintro ⟨h1, h2⟩
    have := h2 (nd l a)
    rw [clk_own] at this
    rcases anc_of l b a this with e | h
    · exact absurd e h1
    · exact h
theorem anc_own_lt {l : List Ev} {a b : Nat} (h : Anc l a b) : clk l a (nd l b) < clk l b (nd l b) := by
  rw [clk_own]
  have h1 := clk_le l a (nd l b)
  have h2 := cnt_mono l (nd l b) (show a + 1 ≤ b by have := h.lt; omega)
  have h3 : cnt l (nd l b) (b + 1) = cnt l (nd l b) b + 1 := by
    show cnt l (nd l b) b + _ = _
    rw [if_pos rfl]
  omega
/-- The stamp of an event. -/
def stp (l : List Ev) (k : Nat) : Int :=
  max (if h : 0 ≤ pri l (nd l k) k then stp l (pri l (nd l k) k).toNat else 0) (if h : 0 ≤ fr l k ∧ fr l k < k then stp l (fr l k).toNat else 0) + 1
termination_by k
decreasing_by
  · have := pri_lt l (nd l k) k; omega
  · omega
def stpO (l : List Ev) (i : Int) : Int := if 0 ≤ i then stp l i.toNat else 0
def sP (l : List Ev) (k : Nat) : Int := stpO l (pri l (nd l k) k)
def sF (l : List Ev) (k : Nat) : Int := if 0 ≤ fr l k ∧ fr l k < k then stp l (fr l k).toNat else 0
theorem stp_two (l : List Ev) (k : Nat) : stp l k = max (sP l k) (sF l k) + 1 := by
  rw [stp]
  unfold sP sF stpO
  congr 1
theorem stp_eq (l : List Ev) (k : Nat) (h : fr l k < k) : stp l k = max (stpO l (pri l (nd l k) k)) (stpO l (fr l k)) + 1 := by
  rw [stp_two]
  unfold sP sF
  congr 1
  congr 1
  unfold stpO
  by_cases h0 : 0 ≤ fr l k
  · rw [if_pos ⟨h0, h⟩, if_pos h0]
  · rw [if_neg (fun c => h0 c.1), if_neg h0]
theorem stp_bd (l : List Ev) (k : Nat) : 1 ≤ stp l k ∧ stp l k ≤ (k : Int) + 1 := by
  induction k using Nat.strongRecOn with
  | ind k ih =>
    rw [stp_two]
    have h1 : 0 ≤ sP l k ∧ sP l k ≤ (k : Int) := by
      unfold sP stpO
      split
      · have hp := pri_lt l (nd l k) k
        have := ih (pri l (nd l k) k).toNat (by omega)
        omega
      · omega
    have h2 : 0 ≤ sF l k ∧ sF l k ≤ (k : Int) := by
      unfold sF
      split
      · have := ih (fr l k).toNat (by omega)
        omega
      · omega
    omega
theorem stpO_bd (l : List Ev) (i : Int) : 0 ≤ stpO l i ∧ (stpO l i ≤ i + 1 ∨ stpO l i = 0) := by
  unfold stpO
  split
  · have := stp_bd l i.toNat; omega
  · omega
theorem Par.stp {l : List Ev} {p b : Nat} (h : Par l p b) : L11.stp l p < L11.stp l b := by
  rw [stp_two l b]
  rcases h with h | h
  · have : sP l b = L11.stp l p := by
      unfold sP stpO
      rw [if_pos (by omega), h]; rfl
    omega
  · have : sF l b = L11.stp l p := by
      unfold sF
      rw [if_pos (by omega), h.1]; rfl
    omega
theorem Anc.stp {l : List Ev} {a b : Nat} (h : Anc l a b) : L11.stp l a < L11.stp l b := by
  induction h with
  | one h => exact h.stp
  | more h _ ih => have := h.stp; omega
end Go.Proofs.Ytkfnejiiancmhad.L11

namespace Go.Proofs.Ytkfnejiiancmhad.L11
open Go.RowKit L1
set_option linter.unusedVariables false

theorem bool_is {b c : Bool} {p : Prop} (h : b = true ↔ p) (h2 : c = true ↔ p) : b = c := by
  cases b <;> cases c <;> simp_all
set_option maxRecDepth 100000 in
set_option maxHeartbeats 400000 in
theorem isBelow_any (k m : Int) (w : World) (b : Bool) (hb : b = true ↔ 0 ≤ k ∧ k < m) :
    Calls Try.prog 64 #[.int .i64 k, .int .i64 m] w fun e w' => e = .returned (.bool b) ∧ w = w' := by
  by_cases h1 : 0 ≤ k
  · by_cases h2 : k < m
    · obtain rfl : b = true := hb.2 ⟨h1, h2⟩
      clear hb
      go_enter Try.func64, Try.ntmps64
      go_wp2
      go_ret
      exact ⟨rfl, rfl⟩
    · obtain rfl : b = false := bool_noT hb (fun h => h2 h.2)
      clear hb
      go_enter Try.func64, Try.ntmps64
      go_wp2
      go_ret
      exact ⟨rfl, rfl⟩
  · obtain rfl : b = false := bool_noT hb (fun h => h1 h.1)
    clear hb
    go_enter Try.func64, Try.ntmps64
    go_wp2
    go_ret
    exact ⟨rfl, rfl⟩
theorem Sl2.two {w : World} {b off : Nat} {l : List (Int × Int)} (h : Sl2 w (some ⟨b, off, none⟩) l) (i : Nat) (hi : i < l.length) : w.cell? ⟨b, off + i * 2, none⟩ = some (.int .i64 (nd l i)) ∧ w.cell? ⟨b, off + i * 2 + 1, none⟩ = some (.int .i64 (fr l i)) := by
  obtain ⟨b', off', ha, h1, h2⟩ := h i hi
  simp only [Option.some.injEq, Addr.mk.injEq, and_true] at ha
  obtain ⟨rfl, rfl⟩ := ha
  exact ⟨h1, h2⟩
set_option maxRecDepth 100000 in
set_option maxHeartbeats 4000000 in
theorem hearsOf_any (b off : Nat) (l : List (Int × Int)) (n cap k : Nat) (w : World) (hn : l.length = n) (hs : Sl2 w (some ⟨b, off, none⟩) l) (hk : k < n) (hn2 : n ≤ 1048576) (bb : Bool) (hbb : bb = true ↔ 0 ≤ fr l k ∧ fr l k < k ∧ nd l (fr l k).toNat ≠ nd l k) :
    Calls Try.prog 83 #[.slice (some ⟨b, off, none⟩) n cap, .int .i64 k] w fun e w' => e = .returned (.bool bb) ∧ Below w.heap.size w w' := by
  obtain ⟨hy, hf⟩ := hs.two k (by omega)
  have hki : (k : Int) < (n : Int) := by omega
  have hk0 : (0 : Int) ≤ (k : Int) := by omega
  have HS := hide hs
  have HN := hide hn
  clear hs hn
  by_cases hin : 0 ≤ fr l k ∧ fr l k < k
  · have C := hide (fun w => isBelow_any (fr l k) k w true (by simp; omega))
    obtain ⟨f, hfe⟩ : ∃ f : Nat, fr l k = (f : Int) := ⟨(fr l k).toNat, by omega⟩
    rw [hfe] at hbb hf C hin
    obtain ⟨hx, _⟩ := HS.out.two f (by rw [HN.out]; omega)
    have hft : (f : Int).toNat = f := rfl
    rw [hft] at hbb
    have hfi : (f : Int) < (n : Int) := by omega
    have hf0 : (0 : Int) ≤ (f : Int) := by omega
    obtain ⟨x, hxe⟩ : ∃ x, x = nd l f := ⟨_, rfl⟩
    obtain ⟨y, hye⟩ : ∃ y, y = nd l k := ⟨_, rfl⟩
    rw [← hxe] at hx hbb
    rw [← hye] at hy hbb
    have HIN := hide hin
    clear hfe hxe hye hft hin HS HN
    have hb2 : (x != y) = bb := bool_is (by simp) ⟨fun h => (hbb.1 h).2.2, fun h => hbb.2 ⟨HIN.out.1, HIN.out.2, h⟩⟩
    clear hbb HIN
    go_enter Try.func83, Try.ntmps83
    go_wp2
    refine wp_region_held_drew (S := (fun wx => wx.cell? ⟨b, off + k * 2, none⟩ = some (.int .i64 y) ∧ wx.cell? ⟨b, off + f * 2, none⟩ = some (.int .i64 x) ∧ Below w.heap.size w wx)) (by kernel_rfl) ⟨hy, hx, (Below.refl _ _).drew⟩ (fun hHeld => ?_)
    refine wpAnyH_take (i := 0) (v := ?v1) rfl (by kernel_rfl) (by kernel_rfl) (by kernel_rfl) (fun _ _ _ h => h) (Or.inl ⟨by rfl, ?y1⟩) (by assumption) ?r1
    case y1 => (intro w hSw; (try dsimp only at hSw); go_simp; try (with_reducible rfl))
    simp only [List.getElem_toArray, List.getElem_cons_zero, Act.put, List.setIfInBounds_toArray, List.set_cons_zero, List.set_cons_succ]
    refine wpAnyH_take (i := 1) (v := ?v2) rfl (by kernel_rfl) (by kernel_rfl) (by kernel_rfl) (fun _ _ _ h => h) (Or.inl ⟨by rfl, ?y2⟩) (by assumption) ?r2
    case y2 => (intro w hSw; (try dsimp only at hSw); go_simp; try (with_reducible rfl))
    simp only [List.getElem_toArray, List.getElem_cons_succ, List.getElem_cons_zero, Act.put, List.setIfInBounds_toArray, List.set_cons_zero, List.set_cons_succ]
    refine wpAnyH_ready (rs := [2]) (by kernel_rfl) (by simp) ?_
    refine AllReadyH.cons rfl (fun K hK => ?_) AllReadyH.nil
    simp only [List.getElem_toArray, List.getElem_cons_succ, List.getElem_cons_zero]
    go_simp
    go_at_call 64
    refine (C.out _).mono ?_
    rintro e w1 ⟨rfl, rfl⟩
    dsimp only
    refine hK.out _ _ ?_ (fun hHeld => ?_)
    · assumption
    clear hK K
    try simp only [Act.put, List.setIfInBounds_toArray, List.set_cons_zero, List.set_cons_succ]
    refine wpAnyH_take (i := 3) (v := ?v3) rfl (by kernel_rfl) (by kernel_rfl) (by kernel_rfl) (fun _ _ _ h => h) (Or.inl ⟨by rfl, ?y3⟩) (by assumption) ?r3
    case y3 => (intro w hSw; (try dsimp only at hSw); go_simp; try (with_reducible rfl))
    simp only [List.getElem_toArray, List.getElem_cons_succ, List.getElem_cons_zero, Act.put, List.setIfInBounds_toArray, List.set_cons_zero, List.set_cons_succ]
    refine wpAnyH_take (i := 4) (v := ?v4) rfl (by kernel_rfl) (by kernel_rfl) (by kernel_rfl) (fun _ _ _ h => h) (Or.inl ⟨by rfl, ?y4⟩) (by assumption) ?r4
    case y4 => (intro w hSw; (try dsimp only at hSw); go_simp; try (with_reducible rfl))
    simp only [List.getElem_toArray, List.getElem_cons_succ, List.getElem_cons_zero, Act.put, List.setIfInBounds_toArray, List.set_cons_zero, List.set_cons_succ]
    refine wpAnyH_take (i := 5) (v := ?v5) rfl (by kernel_rfl) (by kernel_rfl) (by kernel_rfl) (fun _ _ _ h => h) (Or.inl ⟨by rfl, ?y5⟩) (by assumption) ?r5
    case y5 => (intro w hSw; (try dsimp only at hSw); go_simp; try (with_reducible rfl))
    simp only [List.getElem_toArray, List.getElem_cons_succ, List.getElem_cons_zero, Act.put, List.setIfInBounds_toArray, List.set_cons_zero, List.set_cons_succ]
    refine wpAnyH_take (i := 6) (v := ?v6) rfl (by kernel_rfl) (by kernel_rfl) (by kernel_rfl) (fun _ _ _ h => h) (Or.inl ⟨by rfl, ?y6⟩) (by assumption) ?r6
    case y6 => (intro w hSw; (try dsimp only at hSw); go_simp; try (with_reducible rfl))
    simp only [List.getElem_toArray, List.getElem_cons_succ, List.getElem_cons_zero, Act.put, List.setIfInBounds_toArray, List.set_cons_zero, List.set_cons_succ]
    refine wpAnyH_take (i := 7) (v := ?v7) rfl (by kernel_rfl) (by kernel_rfl) (by kernel_rfl) (fun _ _ _ h => h) (Or.inl ⟨by rfl, ?y7⟩) (by assumption) ?r7
    case y7 => (intro w hSw; (try dsimp only at hSw); go_simp; try (with_reducible rfl))
    simp only [List.getElem_toArray, List.getElem_cons_succ, List.getElem_cons_zero, Act.put, List.setIfInBounds_toArray, List.set_cons_zero, List.set_cons_succ]
    refine wpAnyH_take (i := 8) (v := ?v8) rfl (by kernel_rfl) (by kernel_rfl) (by kernel_rfl) (fun _ _ _ h => h) (Or.inl ⟨by rfl, ?y8⟩) (by assumption) ?r8
    case y8 => (intro w hSw; (try dsimp only at hSw); go_simp; try (with_reducible rfl))
    simp only [List.getElem_toArray, List.getElem_cons_succ, List.getElem_cons_zero, Act.put, List.setIfInBounds_toArray, List.set_cons_zero, List.set_cons_succ]
    refine wpAnyH_take (i := 9) (v := ?v9) rfl (by kernel_rfl) (by kernel_rfl) (by kernel_rfl) (fun _ _ _ h => h) (Or.inl ⟨by rfl, ?y9⟩) (by assumption) ?r9
    case y9 => (intro w hSw; (try dsimp only at hSw); go_simp; try (with_reducible rfl))
    simp only [List.getElem_toArray, List.getElem_cons_succ, List.getElem_cons_zero, Act.put, List.setIfInBounds_toArray, List.set_cons_zero, List.set_cons_succ]
    refine wpAnyH_take (i := 10) (v := ?v10) rfl (by kernel_rfl) (by kernel_rfl) (by kernel_rfl) (fun _ _ _ h => h) (Or.inl ⟨by rfl, ?y10⟩) (by assumption) ?r10
    case y10 => (intro w hSw; (try dsimp only at hSw); go_simp; try (with_reducible rfl))
    simp only [List.getElem_toArray, List.getElem_cons_succ, List.getElem_cons_zero, Act.put, List.setIfInBounds_toArray, List.set_cons_zero, List.set_cons_succ]
    refine wpAnyH_take (i := 11) (v := ?v11) rfl (by kernel_rfl) (by kernel_rfl) (by kernel_rfl) (fun _ _ _ h => h) (Or.inl ⟨by rfl, ?y11⟩) (by assumption) ?r11
    case y11 => (intro w hSw; (try dsimp only at hSw); go_simp; try (with_reducible rfl))
    simp only [List.getElem_toArray, List.getElem_cons_succ, List.getElem_cons_zero, Act.put, List.setIfInBounds_toArray, List.set_cons_zero, List.set_cons_succ]
    refine wpAnyH_take (i := 12) (v := ?v12) rfl (by kernel_rfl) (by kernel_rfl) (by kernel_rfl) (fun _ _ _ h => h) (Or.inl ⟨by rfl, ?y12⟩) (by assumption) ?r12
    case y12 => (intro w hSw; (try dsimp only at hSw); go_simp; try (with_reducible rfl))
    simp only [List.getElem_toArray, List.getElem_cons_succ, List.getElem_cons_zero, Act.put, List.setIfInBounds_toArray, List.set_cons_zero, List.set_cons_succ]
    refine wpAnyH_take (i := 13) (v := ?v13) rfl (by kernel_rfl) (by kernel_rfl) (by kernel_rfl) (fun _ _ _ h => h) (Or.inl ⟨by rfl, ?y13⟩) (by assumption) ?r13
    case y13 => (intro w hSw; (try dsimp only at hSw); go_simp; try (with_reducible rfl))
    simp only [List.getElem_toArray, List.getElem_cons_succ, List.getElem_cons_zero, Act.put, List.setIfInBounds_toArray, List.set_cons_zero, List.set_cons_succ]
    refine wpAnyH_take (i := 14) (v := ?v14) rfl (by kernel_rfl) (by kernel_rfl) (by kernel_rfl) (fun _ _ _ h => h) (Or.inl ⟨by rfl, ?y14⟩) (by assumption) ?r14
    case y14 => (intro w hSw; (try dsimp only at hSw); go_simp; try (with_reducible rfl))
    simp only [List.getElem_toArray, List.getElem_cons_succ, List.getElem_cons_zero, Act.put, List.setIfInBounds_toArray, List.set_cons_zero, List.set_cons_succ]
    refine wpAnyH_take (i := 15) (v := ?v15) rfl (by kernel_rfl) (by kernel_rfl) (by kernel_rfl) (fun _ _ _ h => h) (Or.inl ⟨by rfl, ?y15⟩) (by assumption) ?r15
    case y15 => (intro w hSw; (try dsimp only at hSw); go_simp; try (with_reducible rfl))
    simp only [List.getElem_toArray, List.getElem_cons_succ, List.getElem_cons_zero, Act.put, List.setIfInBounds_toArray, List.set_cons_zero, List.set_cons_succ]
    refine wpAnyH_take (i := 16) (v := ?v16) rfl (by kernel_rfl) (by kernel_rfl) (by kernel_rfl) (fun _ _ _ h => h) (Or.inl ⟨by rfl, ?y16⟩) (by assumption) ?r16
    case y16 => (intro w hSw; (try dsimp only at hSw); go_simp; try (with_reducible rfl))
    simp only [List.getElem_toArray, List.getElem_cons_succ, List.getElem_cons_zero, Act.put, List.setIfInBounds_toArray, List.set_cons_zero, List.set_cons_succ]
    refine wpAnyH_done (by kernel_rfl) ?_ _
    go_wp2
    go_ret
    exact ⟨by first | rfl | rw [hb2], hHeld.2.2⟩
  · have C := hide (fun w => isBelow_any (fr l k) k w false (by simp; omega))
    have E : Hid (bb = false) := bool_noT hbb (fun h => hin ⟨h.1, h.2.1⟩)
    obtain ⟨f, hfe⟩ : ∃ f, f = fr l k := ⟨_, rfl⟩
    rw [← hfe] at hf C
    clear hbb hin hfe HS HN
    go_enter Try.func83, Try.ntmps83
    go_wp2
    refine wp_region_held_drew (S := (fun wx => Below w.heap.size w wx)) (by kernel_rfl) (Below.refl _ _).drew (fun hHeld => ?_)
    refine wpAnyH_take (i := 0) (v := ?v17) rfl (by kernel_rfl) (by kernel_rfl) (by kernel_rfl) (fun _ _ _ h => h) (Or.inl ⟨by rfl, ?y17⟩) (by assumption) ?r17
    case y17 => (intro w hSw; (try dsimp only at hSw); go_simp; try (with_reducible rfl))
    simp only [List.getElem_toArray, List.getElem_cons_zero, Act.put, List.setIfInBounds_toArray, List.set_cons_zero, List.set_cons_succ]
    refine wpAnyH_take (i := 1) (v := ?v18) rfl (by kernel_rfl) (by kernel_rfl) (by kernel_rfl) (fun _ _ _ h => h) (Or.inl ⟨by rfl, ?y18⟩) (by assumption) ?r18
    case y18 => (intro w hSw; (try dsimp only at hSw); go_simp; try (with_reducible rfl))
    simp only [List.getElem_toArray, List.getElem_cons_succ, List.getElem_cons_zero, Act.put, List.setIfInBounds_toArray, List.set_cons_zero, List.set_cons_succ]
    refine wpAnyH_ready (rs := [2]) (by kernel_rfl) (by simp) ?_
    refine AllReadyH.cons rfl (fun K hK => ?_) AllReadyH.nil
    simp only [List.getElem_toArray, List.getElem_cons_succ, List.getElem_cons_zero]
    go_simp
    go_at_call 64
    refine (C.out _).mono ?_
    rintro e w1 ⟨rfl, rfl⟩
    dsimp only
    refine hK.out _ _ ?_ (fun hHeld => ?_)
    · assumption
    clear hK K
    try simp only [Act.put, List.setIfInBounds_toArray, List.set_cons_zero, List.set_cons_succ]
    refine wpAnyH_take (i := 3) (v := ?v19) rfl (by kernel_rfl) (by kernel_rfl) (by kernel_rfl) (fun _ _ _ h => h) (Or.inl ⟨by rfl, ?y19⟩) (by assumption) ?r19
    case y19 => (intro w hSw; (try dsimp only at hSw); go_simp; try (with_reducible rfl))
    simp only [List.getElem_toArray, List.getElem_cons_succ, List.getElem_cons_zero, Act.put, List.setIfInBounds_toArray, List.set_cons_zero, List.set_cons_succ]
    refine wpAnyH_take (i := 4) (v := undef) rfl (by kernel_rfl) (by kernel_rfl) (by kernel_rfl) (fun _ _ _ h => h) (Or.inr ⟨by rfl, rfl⟩) (by assumption) ?_
    simp only [List.getElem_toArray, List.getElem_cons_succ, List.getElem_cons_zero, Act.put, List.setIfInBounds_toArray, List.set_cons_zero, List.set_cons_succ]
    refine wpAnyH_take (i := 5) (v := undef) rfl (by kernel_rfl) (by kernel_rfl) (by kernel_rfl) (fun _ _ _ h => h) (Or.inr ⟨by rfl, rfl⟩) (by assumption) ?_
    simp only [List.getElem_toArray, List.getElem_cons_succ, List.getElem_cons_zero, Act.put, List.setIfInBounds_toArray, List.set_cons_zero, List.set_cons_succ]
    refine wpAnyH_take (i := 6) (v := undef) rfl (by kernel_rfl) (by kernel_rfl) (by kernel_rfl) (fun _ _ _ h => h) (Or.inr ⟨by rfl, rfl⟩) (by assumption) ?_
    simp only [List.getElem_toArray, List.getElem_cons_succ, List.getElem_cons_zero, Act.put, List.setIfInBounds_toArray, List.set_cons_zero, List.set_cons_succ]
    refine wpAnyH_take (i := 7) (v := undef) rfl (by kernel_rfl) (by kernel_rfl) (by kernel_rfl) (fun _ _ _ h => h) (Or.inr ⟨by rfl, rfl⟩) (by assumption) ?_
    simp only [List.getElem_toArray, List.getElem_cons_succ, List.getElem_cons_zero, Act.put, List.setIfInBounds_toArray, List.set_cons_zero, List.set_cons_succ]
    refine wpAnyH_take (i := 8) (v := undef) rfl (by kernel_rfl) (by kernel_rfl) (by kernel_rfl) (fun _ _ _ h => h) (Or.inr ⟨by rfl, rfl⟩) (by assumption) ?_
    simp only [List.getElem_toArray, List.getElem_cons_succ, List.getElem_cons_zero, Act.put, List.setIfInBounds_toArray, List.set_cons_zero, List.set_cons_succ]
    refine wpAnyH_take (i := 9) (v := undef) rfl (by kernel_rfl) (by kernel_rfl) (by kernel_rfl) (fun _ _ _ h => h) (Or.inr ⟨by rfl, rfl⟩) (by assumption) ?_
    simp only [List.getElem_toArray, List.getElem_cons_succ, List.getElem_cons_zero, Act.put, List.setIfInBounds_toArray, List.set_cons_zero, List.set_cons_succ]
    refine wpAnyH_take (i := 10) (v := undef) rfl (by kernel_rfl) (by kernel_rfl) (by kernel_rfl) (fun _ _ _ h => h) (Or.inr ⟨by rfl, rfl⟩) (by assumption) ?_
    simp only [List.getElem_toArray, List.getElem_cons_succ, List.getElem_cons_zero, Act.put, List.setIfInBounds_toArray, List.set_cons_zero, List.set_cons_succ]
    refine wpAnyH_take (i := 11) (v := undef) rfl (by kernel_rfl) (by kernel_rfl) (by kernel_rfl) (fun _ _ _ h => h) (Or.inr ⟨by rfl, rfl⟩) (by assumption) ?_
    simp only [List.getElem_toArray, List.getElem_cons_succ, List.getElem_cons_zero, Act.put, List.setIfInBounds_toArray, List.set_cons_zero, List.set_cons_succ]
    refine wpAnyH_take (i := 12) (v := undef) rfl (by kernel_rfl) (by kernel_rfl) (by kernel_rfl) (fun _ _ _ h => h) (Or.inr ⟨by rfl, rfl⟩) (by assumption) ?_
    simp only [List.getElem_toArray, List.getElem_cons_succ, List.getElem_cons_zero, Act.put, List.setIfInBounds_toArray, List.set_cons_zero, List.set_cons_succ]
    refine wpAnyH_take (i := 13) (v := undef) rfl (by kernel_rfl) (by kernel_rfl) (by kernel_rfl) (fun _ _ _ h => h) (Or.inr ⟨by rfl, rfl⟩) (by assumption) ?_
    simp only [List.getElem_toArray, List.getElem_cons_succ, List.getElem_cons_zero, Act.put, List.setIfInBounds_toArray, List.set_cons_zero, List.set_cons_succ]
    refine wpAnyH_take (i := 14) (v := undef) rfl (by kernel_rfl) (by kernel_rfl) (by kernel_rfl) (fun _ _ _ h => h) (Or.inr ⟨by rfl, rfl⟩) (by assumption) ?_
    simp only [List.getElem_toArray, List.getElem_cons_succ, List.getElem_cons_zero, Act.put, List.setIfInBounds_toArray, List.set_cons_zero, List.set_cons_succ]
    refine wpAnyH_take (i := 15) (v := ?v31) rfl (by kernel_rfl) (by kernel_rfl) (by kernel_rfl) (fun _ _ _ h => h) (Or.inl ⟨by rfl, ?y31⟩) (by assumption) ?r31
    case y31 => (intro w hSw; (try dsimp only at hSw); go_simp; try (with_reducible rfl))
    simp only [List.getElem_toArray, List.getElem_cons_succ, List.getElem_cons_zero, Act.put, List.setIfInBounds_toArray, List.set_cons_zero, List.set_cons_succ]
    refine wpAnyH_take (i := 16) (v := ?v32) rfl (by kernel_rfl) (by kernel_rfl) (by kernel_rfl) (fun _ _ _ h => h) (Or.inl ⟨by rfl, ?y32⟩) (by assumption) ?r32
    case y32 => (intro w hSw; (try dsimp only at hSw); go_simp; try (with_reducible rfl))
    simp only [List.getElem_toArray, List.getElem_cons_succ, List.getElem_cons_zero, Act.put, List.setIfInBounds_toArray, List.set_cons_zero, List.set_cons_succ]
    refine wpAnyH_done (by kernel_rfl) ?_ _
    go_wp2
    go_ret
    exact ⟨by rw [E.out]; rfl, hHeld⟩
set_option maxRecDepth 100000 in
set_option maxHeartbeats 4000000 in
theorem goodEvents_any (N : Int) (a : Option Addr) (l : List (Int × Int)) (n cap : Nat) (w : World) (hn : l.length = n) (hs : Sl2 w a l) (hn2 : n ≤ 1048576) (bb : Bool) (hbb : bb = true ↔ GoodV N l) :
    Calls Try.prog 39 #[.int .i64 N, .slice a n cap] w fun e w' => e = .returned (.bool bb) ∧ Below w.heap.size w w' := by
  by_cases h1 : N < 1
  · have HNO : Hid (bb = false) := bool_noT hbb (fun h => by have := h.1; omega)
    clear hs hn
    go_enter Try.func39, Try.ntmps39
    go_wp2
    go_ret
    exact ⟨by rw [HNO.out]; rfl, Below.refl _ _⟩
  by_cases h5 : 5 < N
  · have HNO : Hid (bb = false) := bool_noT hbb (fun h => by have := h.2.1; omega)
    clear hs hn
    go_enter Try.func39, Try.ntmps39
    go_wp2
    go_ret
    exact ⟨by rw [HNO.out]; rfl, Below.refl _ _⟩
  by_cases h40 : 40 < (n : Int)
  · have HNO : Hid (bb = false) := bool_noT hbb (fun h => by have := h.2.2.1; omega)
    clear hs hn
    go_enter Try.func39, Try.ntmps39
    go_wp2
    go_ret
    exact ⟨by rw [HNO.out]; rfl, Below.refl _ _⟩
  have HBB := hide hbb
  have HS := hide hs
  have HN := hide hn
  clear hs hn hbb
  go_enter Try.func39, Try.ntmps39
  go_wp2
  go_loopw [20] (fun i wr => ∃ k : Nat, k ≤ n ∧ i = .int .i64 k ∧ Hid (∀ j, j < k → StepV N l j) ∧ Below w.heap.size w wr) (fun i _ => n - (intOf i).toNat)
  case atStart => exact ⟨0, Nat.zero_le _, rfl, fun j hj => absurd hj (Nat.not_lt_zero _), Below.refl _ _⟩
  case round =>
    obtain ⟨k, hk, rfl, HJ, hbel⟩ := hrel
    by_cases hlt : k < n
    · have hno : bb = true → StepV N l k := fun h => (HBB.out.1 h).2.2.2 k (by rw [HN.out]; exact hlt)
      have hste : StepV N l k ↔ 0 ≤ nd l k ∧ nd l k < N ∧ -1 ≤ fr l k ∧ fr l k < k ∧ (0 ≤ fr l k → nd l (fr l k).toNat ≠ nd l k) := Iff.rfl
      obtain ⟨b, off, rfl, hc0, hd0⟩ := HS.out k (by rw [HN.out]; exact hlt)
      have hc : wr.cell? ⟨b, off + k * 2, none⟩ = some (.int .i64 (nd l k)) := (hbel.cell (p := ⟨b, off + k * 2, none⟩) (blk_lt hc0)).trans hc0
      have hd : wr.cell? ⟨b, off + k * 2 + 1, none⟩ = some (.int .i64 (fr l k)) := (hbel.cell (p := ⟨b, off + k * 2 + 1, none⟩) (blk_lt hd0)).trans hd0
      have hltI : (k : Int) < (n : Int) := by omega
      obtain ⟨b2, hb2⟩ : ∃ b2 : Bool, b2 = true ↔ 0 ≤ fr l k ∧ fr l k < k ∧ nd l (fr l k).toNat ≠ nd l k := ⟨decide (0 ≤ fr l k ∧ fr l k < k ∧ nd l (fr l k).toNat ≠ nd l k), by simp⟩
      have C2 := hide (fun w hs => hearsOf_any b off l n cap k w HN.out hs hlt hn2 b2 hb2)
      obtain ⟨x, hx⟩ : ∃ x, x = nd l k := ⟨_, rfl⟩
      obtain ⟨y, hy⟩ : ∃ y, y = fr l k := ⟨_, rfl⟩
      obtain ⟨z, hz⟩ : ∃ z, z = nd l (fr l k).toNat := ⟨_, rfl⟩
      rw [← hx] at hc
      rw [← hy] at hd
      rw [← hz, ← hx, ← hy] at hste hb2
      have HNO := hide hno
      have HSTE := hide hste
      have HB2 := hide hb2
      have B0 := hide hbel
      clear hc0 hd0 hx hy hz hbel hno hste hb2
      by_cases hin : 0 ≤ x ∧ x < N
      · have C1 := hide (fun w => isBelow_any x N w true (by simp; omega))
        have HIN := hide hin
        clear hin
        by_cases hy1 : y = -1
        · have hyb : (y != -1) = false := by simp [hy1]
          have HY1 := hide hy1
          clear hy1 C2
          have HK : Hid (∀ j, j < k + 1 → StepV N l j) := fun j hj => by
            by_cases e : j = k
            · subst e; have := HIN.out; have h3 := HY1.out; exact HSTE.out.2 ⟨by omega, by omega, by omega, by omega, by omega⟩
            · exact HJ.out j (by omega)
          go_wp2_with fail
          refine (C1.out _).mono ?_
          rintro e w1 ⟨rfl, rfl⟩
          go_wp2
          go_roundw
          case rel => exact ⟨k + 1, by omega, by go_num, HK.out, B0.out.alloc B0.out.size _⟩
          case measure => simp [intOf]; omega
        · have hyb : (y != -1) = true := by simp [hy1]
          have HY1 := hide hy1
          clear hy1
          have HSL := hide (HS.out.below (B0.out.alloc B0.out.size (.cells #[.int .i64 x, .int .i64 y] 118)))
          cases b2 with
          | true =>
            have HK : Hid (∀ j, j < k + 1 → StepV N l j) := fun j hj => by
              by_cases e : j = k
              · subst e; have h1 := HIN.out; have h2 := HB2.out.1 rfl; exact HSTE.out.2 ⟨h1.1, h1.2, by omega, h2.2.1, fun _ => h2.2.2⟩
              · exact HJ.out j (by omega)
            go_wp2_with fail
            refine (C1.out _).mono ?_
            rintro e w1 ⟨rfl, rfl⟩
            go_wp2_with fail
            refine (C2.out _ HSL.out).mono ?_
            rintro e w2 ⟨rfl, hb⟩
            have B1 := hide ((B0.out.alloc B0.out.size _).trans (hb.mono (B0.out.alloc B0.out.size _).size))
            clear hb
            go_wp2
            go_roundw
            case rel => exact ⟨k + 1, by omega, by go_num, HK.out, B1.out⟩
            case measure => simp [intOf]; omega
          | false =>
            have E : Hid (bb = false) := by
              cases bb with
              | false => rfl
              | true =>
                have h1 := HSTE.out.1 (HNO.out rfl)
                have h2 := HY1.out
                exact absurd (HB2.out.2 ⟨by omega, h1.2.2.2.1, h1.2.2.2.2 (by omega)⟩) (by simp)
            go_wp2_with fail
            refine (C1.out _).mono ?_
            rintro e w1 ⟨rfl, rfl⟩
            go_wp2_with fail
            refine (C2.out _ HSL.out).mono ?_
            rintro e w2 ⟨rfl, hb⟩
            have B1 := hide ((B0.out.alloc B0.out.size _).trans (hb.mono (B0.out.alloc B0.out.size _).size))
            clear hb
            go_wp2
            go_ret
            exact ⟨by rw [E.out]; rfl, B1.out⟩
      · have C1 := hide (fun w => isBelow_any x N w false (by simp; omega))
        have E : Hid (bb = false) := by
          cases bb with
          | false => rfl
          | true => have := HSTE.out.1 (HNO.out rfl); omega
        clear hin C2
        go_wp2_with fail
        refine (C1.out _).mono ?_
        rintro e w1 ⟨rfl, rfl⟩
        go_wp2
        go_ret
        exact ⟨by rw [E.out]; rfl, B0.out.alloc B0.out.size _⟩
    · have hltI : ¬ (k : Int) < (n : Int) := by omega
      have E : Hid (bb = true) := HBB.out.2 ⟨by omega, by omega, by rw [HN.out]; omega, fun j hj => HJ.out j (by rw [HN.out] at hj; omega)⟩
      go_wp2
      go_ret
      exact ⟨by rw [E.out]; rfl, hbel⟩
end Go.Proofs.Ytkfnejiiancmhad.L11

namespace Go.Proofs.Ytkfnejiiancmhad.Own
open Go.RowKit L1
set_option linter.unusedVariables false

/-- A function with another value at one place. -/
def updI (E : Nat → Int) (i : Nat) (v : Int) : Nat → Int := fun k => if k = i then v else E k
theorem updI_self (E : Nat → Int) (i : Nat) (v : Int) : updI E i v i = v := by simp [updI]
theorem updI_ne (E : Nat → Int) (i : Nat) (v : Int) (k : Nat) (h : k ≠ i) : updI E i v k = E k := by simp [updI, h]
/-- The cells of an array. -/
def lA (n : Nat) (E : Nat → Int) : List Value := (List.range n).map fun i => .int .i64 (E i)
/-- An array lies in a block. -/
abbrev Arr (t : TypeId) (n : Nat) (w : World) (base g : Nat) (E : Nat → Int) : Prop := w.ownsRow base t 1 (.slice (some ⟨g, 0, none⟩) n n) n (lA n E)
theorem lA_get (n : Nat) (E : Nat → Int) (i : Nat) (h : i < n) : (lA n E)[i]? = some (.int .i64 (E i)) := by
  simp [lA, h]
theorem lA_upd (n : Nat) (E : Nat → Int) (i : Nat) (v : Int) : (lA n E).set i (.int .i64 v) = lA n (updI E i v) := by
  apply List.ext_getElem?
  intro j
  by_cases hj : j < n
  · rw [lA_get _ _ j hj]
    by_cases e : i = j
    · subst e
      rw [List.getElem?_set_self (by simp [lA, hj]), updI_self]
    · rw [List.getElem?_set_ne e, lA_get _ _ j hj, updI_ne _ _ _ _ (Ne.symm e)]
  · rw [List.getElem?_eq_none (by simp [lA]; omega), List.getElem?_eq_none (by simp [lA]; omega)]
theorem lA_congr (n : Nat) (E F : Nat → Int) (h : ∀ i, i < n → E i = F i) : lA n E = lA n F := by
  apply List.ext_getElem?
  intro j
  by_cases hj : j < n
  · rw [lA_get _ _ j hj, lA_get _ _ j hj, h j hj]
  · rw [List.getElem?_eq_none (by simp [lA]; omega), List.getElem?_eq_none (by simp [lA]; omega)]
section
variable {t : TypeId} {n : Nat} {w w' : World} {base g : Nat} {E : Nat → Int}
theorem arr_new (t : TypeId) (n : Nat) (w : World) (g base : Nat) (hg : w.heap.size = g) (hb : base ≤ g) (hn : n ≤ 1048576) (E : Nat → Int) (cs : Array Value) (hcs : cs.toList = lA n E) : Arr t n (w.alloc (.cells cs t)) base g E := by
  subst hg
  have hl : cs.size = n := by
    have : cs.toList.length = n := by rw [hcs]; simp [lA]
    simpa using this
  exact ⟨by simp [lA], .inr ⟨w.heap.size, n, cs, rfl, hb, by show (w.heap.push _)[w.heap.size]? = _; exact Array.getElem?_push_size, Nat.le_refl _, by unfold maxLen; omega, by rw [hl]; omega, by rw [hcs]; exact List.take_of_length_le (by simp [lA])⟩⟩
theorem Arr.cell (h : Arr t n w base g E) (i : Nat) (hi : i < n) : w.cell? ⟨g, i, none⟩ = some (.int .i64 (E i)) := (h.cellAt i (by omega)).trans (lA_get n E i hi)
theorem Arr.set (h : Arr t n w base g E) (i : Nat) (v : Int) : Arr t n (w.setCell ⟨g, i, none⟩ (.int .i64 v)) base g (updI E i v) := by
  have := (h.stored i (.int .i64 v)).1
  rw [lA_upd] at this
  exact this
theorem Arr.keep {g' : Nat} (h : Arr t n w base g E) (i : Nat) (u : Value) (hne : g ≠ g') : Arr t n (w.setCell ⟨g', i, none⟩ u) base g E := by
  refine ⟨h.1, ?_⟩
  rcases h.2 with ⟨h0, _⟩ | ⟨q, cap, cur, hv, hb, hh, rest⟩
  · cases h0
  · cases hv
    exact .inr ⟨g, n, cur, rfl, hb, by rw [Below.heap_setCell w ⟨g', i, none⟩ u g hne]; exact hh, rest⟩
theorem Arr.drew (h : Arr t n w base g E) : Arr t n w.drew base g E := h
theorem Arr.lt (h : Arr t n w base g E) : g < w.heap.size := (World.ownsRow.lt h g rfl).2
theorem Arr.congr {F : Nat → Int} (h : Arr t n w base g E) (he : ∀ i, i < n → E i = F i) : Arr t n w base g F := by
  have := h
  unfold Arr at *
  rw [lA_congr n E F he] at this
  exact this
theorem Arr.below (h : Arr t n w base g E) (hb : Below w.heap.size w w') : Arr t n w' base g E := by
  refine ⟨h.1, ?_⟩
  rcases h.2 with h0 | ⟨q, cap, cur, hv, hbg, hg, r⟩
  · exact .inl h0
  · cases hv
    exact .inr ⟨g, _, cur, rfl, hbg, by rw [hb.block g (Array.getElem?_eq_some_iff.1 hg).1]; exact hg, r⟩
theorem Arr.alloc (h : Arr t n w base g E) (o) : Arr t n (w.alloc o) base g E := h.below ((Below.refl _ _).alloc (Nat.le_refl _) _)
end
end Go.Proofs.Ytkfnejiiancmhad.Own

namespace Go.Proofs.Ytkfnejiiancmhad.L11
open Go.RowKit L1 Own
set_option linter.unusedVariables false

/-- The number of each event among those of its node. -/
def atL (l : List Ev) (k : Nat) : List Int := (List.range k).map fun j => cnt l (nd l j) (j + 1)
theorem atL_len (l : List Ev) (k : Nat) : (atL l k).length = k := by simp [atL]
theorem atL_succ (l : List Ev) (k : Nat) : atL l (k + 1) = atL l k ++ [cnt l (nd l k) (k + 1)] := by simp [atL, List.range_succ]
theorem atL_get (l : List Ev) (k i : Nat) (h : i < k) : (atL l k).getD i 0 = cnt l (nd l i) (i + 1) := by simp [atL, List.getD, h]
def cntN (l : List Ev) (k : Nat) : Nat → Int := fun i => cnt l (i : Int) k
theorem cntN_succ (l : List Ev) (k x : Nat) (hx : nd l k = (x : Int)) (i : Nat) : updI (cntN l k) x (cntN l k x + 1) i = cntN l (k + 1) i := by
  unfold updI cntN
  show _ = cnt l (i : Int) k + _
  by_cases e : i = x
  · subst e; rw [if_pos rfl, if_pos hx]
  · rw [if_neg e, if_neg (by omega)]; omega
theorem made_lA (n : Nat) : (madeCells (Value.int .i64 0).cells (n * 1)).toList = lA n (fun _ => 0) := by
  rw [made_ints]
  apply List.ext_getElem?
  intro j
  by_cases h : j < n
  · rw [lA_get n _ j h]; simp [h]
  · rw [List.getElem?_eq_none (by simp; omega), List.getElem?_eq_none (by simp [lA]; omega)]
theorem cell_oneA (w : World) (g : Nat) (hg : w.heap.size = g) (p : Value) (t : TypeId) : ∀ j u, [p][j]? = some u → (w.alloc (.cells #[p] t)).cell? ((⟨g, 0, none⟩ : Addr).add j) = some u := by
  subst hg
  intro j u h
  rw [addr_add]
  match j, h with
  | 0, h => simp at h; subst h; simp
  | j + 1, h => simp at h
theorem own_setA {w : World} {base n c : Nat} {t : TypeId} {v : Value} {xs : List Value} (h : w.ownsRow base t c v n xs) (g i : Nat) (u : Value) (hg : g < base) : (w.setCell ⟨g, i, none⟩ u).ownsRow base t c v n xs := by
  refine ⟨h.1, ?_⟩
  rcases h.2 with h0 | ⟨q, cap, cur, hv, hb, hh, rest⟩
  · exact .inl h0
  · exact .inr ⟨q, cap, cur, hv, hb, by rw [Below.heap_setCell w ⟨g, i, none⟩ u q (show q ≠ g by omega)]; exact hh, rest⟩
theorem arr_grownA {w w' : World} {t : TypeId} {n base g : Nat} {E : Nat → Int} {r : Option Nat} (h : Arr t n w base g E) (hg : w.grownBy w' r) (hne : r ≠ some g) : Arr t n w' base g E :=
  World.ownsRow.kept h hg (.inr (fun e => hne e.symm))
end Go.Proofs.Ytkfnejiiancmhad.L11
