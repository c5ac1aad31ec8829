/-
  Plain mathematics of chapter 1: a number's digits to 128, their count, and how they are read back. Nothing of Go stands here.
  Small lemmas that the contracts of chapter 1 share. Nothing of the program's text is proved here but closed facts on its types.
  Lists of ints in memory. Nothing of the program's text is proved here but closed facts on its types.
  Lists of entries in memory; what is good of them.
  What is known of entries, their starts and their ends. Nothing of the program is used.
  Lists of starts in memory.
  What a follower finds among rising starts.
  Pieces of lists of entries, and one list of entries behind another that is the call's own. Nothing of the program's text is proved here but closed facts on its types.
-/
import Derived.KernelRfl
import Derived.Test.YthmekhhfihjclbdChecked
import Derived.WalkKit
import Derived.ProofKit
import Derived.OpenShut
import Derived.Laws.BytesArg
import Derived.WalkSpells
import Derived.WalkLawsBesides
import Derived.Deep.QuietTactic
import Derived.BigQuiet
import Derived.Deep.RegionHeld3
import Derived.Maps.AppendAt
import Derived.Deep.Upon
namespace Go.Proofs.Ythmekhhfihjclbd.L1

def zig (n : Int) : Int := if n < 0 then -2 * n - 1 else 2 * n
def zag (z : Int) : Int := if z % 2 = 1 then -((z + 1) / 2) else z / 2

theorem zag_zig (n : Int) : zag (zig n) = n := by unfold zag zig; split <;> split <;> omega
theorem zig_zag (z : Int) (h : 0 ≤ z) : zig (zag z) = z := by unfold zag zig; split <;> split <;> omega
theorem zig_lo (n : Int) : 0 ≤ zig n := by unfold zig; split <;> omega
theorem zig_hi (n : Int) (h1 : -1000000000000 ≤ n) (h2 : n ≤ 1000000000000) : zig n ≤ 2000000000000 := by unfold zig; split <;> omega
theorem zag_lo (z : Int) (h : 0 ≤ z) (h2 : z ≤ 2000000000000) : -1000000000000 ≤ zag z ∧ zag z ≤ 1000000000000 := by unfold zag; split <;> omega

/-- The worth of the k-th digit. -/
def wor : Nat → Int
  | 0 => 1
  | k + 1 => 128 * wor k
theorem wor_pos (k : Nat) : 1 ≤ wor k := by
  induction k with
  | zero => simp [wor]
  | succ k ih => simp only [wor]; omega

/-- The digits to 128, the lowest first, all but the last with 128 more. -/
def vdf : Nat → Int → List Int
  | 0, z => [z]
  | f + 1, z => if z < 128 then [z] else (128 + z % 128) :: vdf f (z / 128)
def vd (z : Int) : List Int := vdf 5 z

theorem vdf_pos (f : Nat) (z : Int) : 1 ≤ (vdf f z).length := by
  cases f with
  | zero => simp [vdf]
  | succ f => simp only [vdf]; split <;> simp
theorem vdf_le (f : Nat) (z : Int) : (vdf f z).length ≤ f + 1 := by
  induction f generalizing z with
  | zero => simp [vdf]
  | succ f ih =>
    simp only [vdf]; split
    · simp
    · have := ih (z / 128); simp; omega

/-- How many digits there are: one more where the number is not less than the next one's worth. -/
theorem vdf_len (f : Nat) : ∀ (z : Int) (k : Nat), 0 ≤ z → 1 ≤ k → (k < (vdf f z).length ↔ k ≤ f ∧ wor k ≤ z) := by
  induction f with
  | zero => intro z k hz hk; simp [vdf]; omega
  | succ f ih =>
    intro z k hz hk
    obtain ⟨k, rfl⟩ : ∃ j, k = j + 1 := ⟨k - 1, by omega⟩
    have hw : wor (k + 1) = 128 * wor k := rfl
    have hp := wor_pos k
    simp only [vdf]
    split
    · simp; omega
    · rename_i hlt
      cases k with
      | zero => have := vdf_pos f (z / 128); simp [wor]; omega
      | succ j =>
        have h := ih (z / 128) (j + 1) (by omega) (by omega)
        simp only [List.length_cons]
        constructor
        · intro h2; have := h.1 (by omega); omega
        · intro h2; have := h.2 (by omega); omega

/-- Each digit by its worth. -/
theorem vdf_get (f : Nat) : ∀ (z : Int) (k : Nat), 0 ≤ z → z < wor (f + 1) → k < (vdf f z).length →
    (vdf f z).getD k 0 = z / wor k % 128 + (if k + 1 < (vdf f z).length then 128 else 0) := by
  induction f with
  | zero =>
    intro z k hz hz2 hk
    simp [vdf] at hk
    subst hk
    simp [wor] at hz2
    simp [vdf, wor]
    omega
  | succ f ih =>
    intro z k hz hz2 hk
    have hw : wor (f + 1 + 1) = 128 * wor (f + 1) := rfl
    by_cases hlt : z < 128
    · simp only [vdf, if_pos hlt] at hk ⊢
      simp at hk
      subst hk
      simp [wor]
      omega
    · simp only [vdf, if_neg hlt] at hk ⊢
      cases k with
      | zero =>
        have := vdf_pos f (z / 128)
        simp [wor]
        rw [if_pos (by omega)]
        omega
      | succ k =>
        simp only [List.length_cons] at hk ⊢
        have h := ih (z / 128) k (by omega) (by omega) (by omega)
        have e : z / wor (k + 1) = z / 128 / wor k := by
          show z / (128 * wor k) = _
          rw [Int.ediv_ediv_of_nonneg (by omega)]
        simp only [List.getD_cons_succ, h, e]
        congr 1
        by_cases h2 : k + 1 < (vdf f (z / 128)).length
        · rw [if_pos h2, if_pos (by omega)]
        · rw [if_neg h2, if_neg (by omega)]

theorem vdf_byte (f : Nat) : ∀ (z : Int), 0 ≤ z → z < wor (f + 1) → ∀ x ∈ vdf f z, 0 ≤ x ∧ x < 256 := by
  induction f with
  | zero => intro z h1 h2 x hx; simp [wor] at h2; simp [vdf] at hx; omega
  | succ f ih =>
    intro z h1 h2 x hx
    have hw : wor (f + 1 + 1) = 128 * wor (f + 1) := rfl
    simp only [vdf] at hx
    split at hx
    · simp at hx; omega
    · simp only [List.mem_cons] at hx
      rcases hx with hx | hx
      · omega
      · exact ih (z / 128) (by omega) (by omega) x hx

/-! What is read back -/
def val : List Int → Int
  | [] => 0
  | x :: l => x % 128 + 128 * val l

theorem val_nonneg : ∀ l, 0 ≤ val l
  | [] => by simp [val]
  | x :: l => by have := val_nonneg l; simp only [val]; omega
theorem val_snoc (l : List Int) (x : Int) : val (l ++ [x]) = val l + x % 128 * wor l.length := by
  induction l with
  | nil => simp [val, wor]
  | cons y l ih =>
    simp only [List.cons_append, val, ih, List.length_cons, wor]
    rw [Int.mul_add, ← Int.mul_assoc, ← Int.mul_assoc, Int.mul_comm (x % 128) 128, Int.add_assoc]
theorem val_lt (l : List Int) : val l < wor l.length := by
  induction l with
  | nil => simp [val, wor]
  | cons y l ih => simp only [val, List.length_cons, wor]; omega

/-- All bytes have 128 more. -/
def Hi (l : List Int) : Prop := ∀ x ∈ l, 128 ≤ x ∧ x < 256

/-- What is read of its digits is the number with these digits just if the last one is not nought, or alone. -/
theorem vdf_val (f : Nat) : ∀ (l : List Int) (x : Int), Hi l → 0 ≤ x → x < 128 → l.length ≤ f →
    (vdf f (val (l ++ [x])) = l ++ [x] ↔ (l = [] ∨ x ≠ 0)) := by
  induction f with
  | zero =>
    intro l x hl h1 h2 hf
    obtain rfl : l = [] := List.eq_nil_of_length_eq_zero (by omega)
    simp [val, vdf]
    omega
  | succ f ih =>
    intro l x hl h1 h2 hf
    cases l with
    | nil =>
      have e : x % 128 = x := by omega
      simp only [List.nil_append, val, vdf, e]
      rw [if_pos (by omega)]
      simp
    | cons y l =>
      have hy := hl y (by simp)
      have hl' : Hi l := fun u hu => hl u (by simp [hu])
      have hi := ih l x hl' h1 h2 (by simp at hf; omega)
      have hn := val_nonneg (l ++ [x])
      simp only [List.cons_append, val, vdf]
      have e2 : (y % 128 + 128 * val (l ++ [x])) / 128 = val (l ++ [x]) := by omega
      have e3 : 128 + (y % 128 + 128 * val (l ++ [x])) % 128 = y := by omega
      by_cases hx : x = 0
      · constructor
        · intro h
          exfalso
          split at h
          · simp at h
          · rw [e2, e3] at h
            injection h with _ h
            have := hi.1 h
            rcases this with h3 | h3
            · subst h3
              simp only [List.nil_append, val, hx] at *
              omega
            · exact h3 hx
        · intro h; simp at h; exact absurd hx h
      · have hpos : 1 ≤ val (l ++ [x]) := by
          rw [val_snoc]
          have := wor_pos l.length
          have h4 := val_nonneg l
          have e : x % 128 = x := by omega
          rw [e]
          have : 1 * 1 ≤ x * wor l.length := Int.mul_le_mul (by omega) this (by omega) (by omega)
          omega
        rw [if_neg (by omega), e2, e3]
        simp only [List.cons.injEq, true_and]
        rw [hi]
        simp [hx]

/-! Reading a number from the front of bytes -/
def MV2 : Int := 2000000000000
/-- Of some bytes read already (each with 128 more) and those that follow: the bytes of the number that ends first; none where it is no number's form. -/
def gvf : Nat → List Int → List Int → Option (List Int)
  | 0, _, _ => none
  | _ + 1, _, [] => none
  | f + 1, pre, x :: r => if 128 ≤ x then gvf f (pre ++ [x]) r else if val (pre ++ [x]) ≤ 2000000000000 ∧ (pre = [] ∨ x ≠ 0) then some (pre ++ [x]) else none
def gv (t : List Int) : Option (List Int) := gvf 6 [] t

theorem take_one (t : List Int) (k : Nat) (h : k < t.length) : t.take (k + 1) = t.take k ++ [t.getD k 0] := by
  rw [List.take_succ_eq_append_getElem h]; simp [List.getD, List.getElem?_eq_getElem h]
theorem drop_one (t : List Int) (k : Nat) (h : k < t.length) : t.drop k = t.getD k 0 :: t.drop (k + 1) := by
  rw [List.drop_eq_getElem_cons h]; simp [List.getD, List.getElem?_eq_getElem h]

theorem gvf_on {t : List Int} {k : Nat} (h : k < t.length) (h6 : k < 6) (hx : 128 ≤ t.getD k 0) :
    gvf (6 - k) (t.take k) (t.drop k) = gvf (6 - (k + 1)) (t.take (k + 1)) (t.drop (k + 1)) := by
  obtain ⟨f, hf⟩ : ∃ f, 6 - k = f + 1 := ⟨5 - k, by omega⟩
  have hf2 : 6 - (k + 1) = f := by omega
  rw [hf, hf2, drop_one t k h, take_one t k h]
  simp only [gvf]
  rw [if_pos hx]
theorem gvf_stop {t : List Int} {k : Nat} (h : k < t.length) (h6 : k < 6) (hx : t.getD k 0 < 128) :
    gvf (6 - k) (t.take k) (t.drop k) = if val (t.take (k + 1)) ≤ 2000000000000 ∧ (k = 0 ∨ t.getD k 0 ≠ 0) then some (t.take (k + 1)) else none := by
  obtain ⟨f, hf⟩ : ∃ f, 6 - k = f + 1 := ⟨5 - k, by omega⟩
  rw [hf, drop_one t k h, take_one t k h]
  simp only [gvf]
  rw [if_neg (by omega)]
  have e : (t.take k = []) ↔ k = 0 := by
    constructor
    · intro h2
      have hl : (t.take k).length = k := by simp; omega
      rw [h2] at hl
      simp at hl
      omega
    · intro h2; simp [h2]
  simp only [e]
theorem gvf_six {t : List Int} {k : Nat} (h6 : 6 ≤ k) : gvf (6 - k) (t.take k) (t.drop k) = none := by
  rw [show 6 - k = 0 by omega]; rfl
theorem gvf_end {t : List Int} {k : Nat} (h : t.length ≤ k) : gvf (6 - k) (t.take k) (t.drop k) = none := by
  rw [List.drop_eq_nil_of_le h]
  cases 6 - k <;> rfl

/-- Whether digits are a number's own: by holding its digits against them, or by the last one. -/
theorem form_iff {t : List Int} {k : Nat} (h : k < t.length) (hhi : Hi (t.take k)) (h0 : 0 ≤ t.getD k 0) (hx : t.getD k 0 < 128) :
    (vd (val (t.take (k + 1))) = t.take (k + 1)) ↔ (k < 6 ∧ (k = 0 ∨ t.getD k 0 ≠ 0)) := by
  rw [take_one t k h]
  have hl : (t.take k).length = k := by simp; omega
  by_cases h6 : k < 6
  · have := vdf_val 5 (t.take k) (t.getD k 0) hhi h0 hx (by omega)
    unfold vd
    rw [this]
    have e : (t.take k = []) ↔ k = 0 := by
      constructor
      · intro h2; rw [h2] at hl; simp at hl; omega
      · intro h2; simp [h2]
    rw [e]
    simp [h6]
  · constructor
    · intro h2
      have h3 := congrArg List.length h2
      have h4 := vdf_le 5 (val (t.take k ++ [t.getD k 0]))
      unfold vd at h3
      rw [h3] at h4
      simp only [List.length_append, hl, List.length_cons, List.length_nil] at h4
      omega
    · intro h2; omega

theorem vd_sep (k : Nat) (t : List Int) (h : k < t.length) (h6 : k < 7) (hhi : Hi (t.take k)) (h0 : 0 ≤ t.getD k 0) (hx : t.getD k 0 < 128) :
    gvf (6 - k) (t.take k) (t.drop k) = if val (t.take (k + 1)) ≤ 2000000000000 ∧ vd (val (t.take (k + 1))) = t.take (k + 1) then some (t.take (k + 1)) else none := by
  by_cases h5 : k < 6
  · rw [gvf_stop h h5 hx]
    have := form_iff h hhi h0 hx
    simp only [this, h5, true_and]
  · rw [gvf_six (by omega)]
    have := form_iff h hhi h0 hx
    rw [if_neg]
    intro ⟨_, h2⟩
    have := this.1 h2
    omega
theorem val_take (t : List Int) (k : Nat) (h : k < t.length) : val (t.take (k + 1)) = val (t.take k) + t.getD k 0 % 128 * wor k := by
  rw [take_one t k h, val_snoc]
  have hl : (t.take k).length = k := by simp; omega
  rw [hl]
theorem val_bd (t : List Int) (k : Nat) (h : k ≤ t.length) : 0 ≤ val (t.take k) ∧ val (t.take k) < wor k := by
  have hl : (t.take k).length = k := by simp; omega
  have := val_lt (t.take k)
  rw [hl] at this
  exact ⟨val_nonneg _, this⟩
theorem hi_take {t : List Int} {k : Nat} (h : k < t.length) (hhi : Hi (t.take k)) (hx : 128 ≤ t.getD k 0) (h2 : t.getD k 0 < 256) : Hi (t.take (k + 1)) := by
  rw [take_one t k h]
  intro x hm
  simp only [List.mem_append, List.mem_singleton] at hm
  rcases hm with hm | hm
  · exact hhi x hm
  · subst hm; exact ⟨hx, h2⟩
theorem wor_le {j k : Nat} (h : j ≤ k) : wor j ≤ wor k := by
  induction k with
  | zero => obtain rfl : j = 0 := by omega
            exact Int.le_refl _
  | succ k ih =>
    by_cases e : j = k + 1
    · subst e; exact Int.le_refl _
    · have := ih (by omega)
      have hp := wor_pos k
      have hw : wor (k + 1) = 128 * wor k := rfl
      omega
/-- A digit by its worth does not run over. -/
theorem digit_bd (b : Int) (k : Nat) (hk : k < 7) : 0 ≤ b % 128 * wor k ∧ b % 128 * wor k ≤ 562949953421311 := by
  have h1 := wor_pos k
  have h2 : wor k ≤ wor 6 := wor_le (by omega)
  have h3 : wor 6 = 4398046511104 := by simp [wor]
  have hb0 : 0 ≤ b % 128 := by omega
  have hb1 : b % 128 ≤ 127 := by omega
  refine ⟨Int.mul_nonneg hb0 (by omega), ?_⟩
  have := Int.mul_le_mul hb1 (show wor k ≤ 4398046511104 by omega) (by omega) (by omega)
  omega
theorem val_bd7 (t : List Int) (k : Nat) (h : k ≤ t.length) (hk : k < 8) : 0 ≤ val (t.take k) ∧ val (t.take k) ≤ 562949953421311 := by
  have h1 := val_bd t k h
  have h2 : wor k ≤ wor 7 := wor_le (by omega)
  have h3 : wor 7 = 562949953421312 := by simp [wor]
  omega
end Go.Proofs.Ythmekhhfihjclbd.L1

namespace Go.Proofs.Ythmekhhfihjclbd.L1
open Go.RowKit
set_option linter.unusedVariables false

theorem hide {p : Prop} (h : p) : Hid p := h
theorem unhide {p : Prop} (h : Hid p) : p := h
theorem ret_int {k : IntKind} {a b : Int} (h : a = b) : Ending.returned (.int k a) = .returned (.int k b) := by rw [h]
theorem addr_add (g i : Nat) : (⟨g, 0, none⟩ : Addr).add i = ⟨g, i, none⟩ := by unfold Addr.add; split <;> simp_all

/-- What a walk is told of a slice of integers that came in: it is nil; or it leads to a row of 'cap' cells, the numbers 'zs' (the first 'len' are its elements), each fitting its kind. -/
def IsRow (k : IntKind) (w : World) (a : Option Addr) (len cap : Nat) (zs : List Int) : Prop :=
  (a = none ∧ len = 0 ∧ cap = 0 ∧ zs = []) ∨
  ∃ x, a = some x ∧ len ≤ cap ∧ cap ≤ maxLen ∧ zs.length = cap ∧ (∀ i, i < zs.length → w.cell? (x.add i) = some (.int k (zs.getD i 0))) ∧ ∀ n ∈ zs, (Lit.int k n).wf = true
end Go.Proofs.Ythmekhhfihjclbd.L1

namespace Go.Proofs.Ythmekhhfihjclbd.L1
open Go.RowKit
set_option linter.unusedVariables false

theorem info_int : (Try.prog.info? 3).map (fun i => (i.zero, i.size, i.bytes)) = some (some (.int .i64 0), 1, 8) := by kernel_rfl

/-- A list of ints lies in memory from an address on. -/
def Sl (w : World) (a : Option Addr) (xs : List Int) : Prop := ∀ i, i < xs.length → ∃ b off, a = some ⟨b, off, none⟩ ∧ w.cell? ⟨b, off + i, none⟩ = some (.int .i64 (xs.getD i 0))

theorem blk_lt {w : World} {b o : Nat} {v : Value} (h : w.cell? ⟨b, o, none⟩ = some v) : b < w.heap.size := by
  by_cases hb : b < w.heap.size
  · exact hb
  · simp [World.cell?, Array.getElem?_eq_none (show w.heap.size ≤ b by omega)] at h
theorem Sl.below {w w' : World} {a : Option Addr} {xs : List Int} (h : Sl w a xs) (hb : Below w.heap.size w w') : Sl w' a xs := fun i hi => by
  obtain ⟨b, off, ha, hc⟩ := h i hi
  refine ⟨b, off, ha, ?_⟩
  rw [hb.cell (p := ⟨b, off + i, none⟩) (blk_lt hc)]
  exact hc
theorem Sl.at {w : World} {b off : Nat} {xs : List Int} (h : Sl w (some ⟨b, off, none⟩) xs) (i : Nat) (hi : i < xs.length) : w.cell? ⟨b, off + i, none⟩ = some (.int .i64 (xs.getD i 0)) := by
  obtain ⟨b', off', ha, hc⟩ := h i hi
  simp at ha
  obtain ⟨rfl, rfl⟩ := ha
  exact hc
theorem sl_of_own {w : World} {base g n cap : Nat} {xs : List Int} (h : w.ownsRow base 3 1 (.slice (some ⟨g, 0, none⟩) n cap) n (xs.map (Value.int .i64))) : Sl w (some ⟨g, 0, none⟩) xs := fun i hi => by
  have := h.cells (g := g) rfl i (.int .i64 (xs.getD i 0)) (by
    rw [List.getElem?_map, List.getElem?_eq_getElem hi]
    simp [List.getD, List.getElem?_eq_getElem hi])
  rw [addr_add] at this
  exact ⟨g, 0, rfl, by simpa using this⟩
theorem sl_of_row {w : World} {a : Option Addr} {len cap : Nat} {zs : List Int} (h : IsRow .i64 w a len cap zs) : Sl w a (zs.take len) ∧ (zs.take len).length = len ∧ len ≤ maxLen := by
  rcases h with ⟨rfl, rfl, rfl, rfl⟩ | ⟨x, rfl, hl, hm, hz, hc, _⟩
  · exact ⟨fun i hi => by simp at hi, by simp, by unfold maxLen; omega⟩
  · refine ⟨fun i hi => ?_, by simp; omega, by omega⟩
    have hi' : i < zs.length := by simp at hi; omega
    have hil : i < len := by simp at hi; omega
    have h0 := hc i hi'
    obtain ⟨b, off, spot⟩ := x
    have hspot : spot = none := by
      have h00 := hc 0 (by omega)
      simpa [Addr.add] using World.cell?_spot h00
    subst hspot
    refine ⟨b, off, rfl, ?_⟩
    have e : (⟨b, off, none⟩ : Addr).add i = ⟨b, off + i, none⟩ := by unfold Addr.add; split <;> simp_all
    rw [e] at h0
    rw [h0]
    simp [List.getD, hil]

theorem made_ints (n : Nat) : (madeCells (Value.int .i64 0).cells (n * 1)).toList = (List.replicate n (0 : Int)).map (Value.int .i64) := by
  rw [Nat.mul_one]
  show (madeCells #[Value.int .i64 0] n).toList = _
  rw [toList_madeCells_one]
  simp

/-- One round of the copy. -/
theorem copy_round {w wr : World} {xs ys : List Int} {m k : Nat} (hlt : k < m) (hm : xs.length = m) (hl : ys.length = m) (HX : ∀ j, j < k → ys.getD j 0 = xs.getD j 0)
    (hown : wr.ownsRow w.heap.size 3 1 (.slice (some ⟨w.heap.size, 0, none⟩) m m) m (ys.map (Value.int .i64))) (hb : Below w.heap.size w wr) :
    ∃ (k' : Nat) (ys' : List Int), k' ≤ m ∧ Value.int .i64 ((k : Int) + 1) = .int .i64 k' ∧ ys'.length = m ∧ Hid (∀ j, j < k' → ys'.getD j 0 = xs.getD j 0) ∧
      (wr.setCell ⟨w.heap.size, k, none⟩ (.int .i64 (xs.getD k 0))).ownsRow w.heap.size 3 1 (.slice (some ⟨w.heap.size, 0, none⟩) m m) m (ys'.map (Value.int .i64)) ∧ Below w.heap.size w (wr.setCell ⟨w.heap.size, k, none⟩ (.int .i64 (xs.getD k 0))) := by
  have hst := hown.stored k (.int .i64 (xs.getD k 0))
  have hb2 := hb.setCell (p := ⟨w.heap.size, k, none⟩) (Nat.le_refl _) (.int .i64 (xs.getD k 0))
  refine ⟨k + 1, ys.set k (xs.getD k 0), by omega, by simp, by simpa using hl, ?_, by rw [List.map_set]; exact hst.1, hb2⟩
  intro j hj
  by_cases e : j = k
  · subst e
    simp [List.getD, hl, hlt]
  · rw [← HX j (by omega)]
    simp [List.getD, Ne.symm e]
theorem list_same {xs ys : List Int} {m : Nat} (h1 : xs.length = m) (h2 : ys.length = m) (h : ∀ j, j < m → ys.getD j 0 = xs.getD j 0) : ys = xs := by
  apply List.ext_getElem?
  intro j
  by_cases hj : j < m
  · have h := h j hj
    simp only [List.getD, List.getElem?_eq_getElem (show j < ys.length by omega), List.getElem?_eq_getElem (show j < xs.length by omega), Option.getD_some] at h
    rw [List.getElem?_eq_getElem (show j < ys.length by omega), List.getElem?_eq_getElem (show j < xs.length by omega), h]
  · rw [List.getElem?_eq_none (by omega), List.getElem?_eq_none (by omega)]

/-- A list that is owned, as a value. -/
theorem own_form {w : World} {base n : Nat} {v : Value} {xs : List Int} (h : w.ownsRow base 3 1 v n (xs.map (Value.int .i64))) : ∃ a cap, v = .slice a n cap ∧ Sl w a xs ∧ xs.length = n := by
  have hl := h.1
  simp at hl
  rcases h.2 with ⟨hv, h0⟩ | ⟨g, cap, cur, hv, _⟩
  · subst h0
    exact ⟨none, 0, hv, fun i hi => by omega, hl⟩
  · subst hv
    exact ⟨_, cap, rfl, sl_of_own h, hl⟩
/-- What is owned stays so while nothing that is there turns. -/
theorem own_below {w w' : World} {base n : Nat} {v : Value} {ys : List Value} (h : w.ownsRow base 3 1 v n ys) (hb : Below w.heap.size w w') : w'.ownsRow base 3 1 v n ys := by
  refine ⟨h.1, ?_⟩
  rcases h.2 with h0 | ⟨g, cap, cur, rfl, hbg, hg, r⟩
  · exact .inl h0
  · exact .inr ⟨g, cap, cur, rfl, hbg, by rw [hb.block g (Array.getElem?_eq_some_iff.1 hg).1]; exact hg, r⟩
theorem own_ge {w : World} {base n g cap : Nat} {xs : List Value} (h : w.ownsRow base 3 1 (.slice (some ⟨g, 0, none⟩) n cap) n xs) : base ≤ g := (h.lt g rfl).1

/-- A list that a call hands back, in new memory, and whether there is one. -/
def RetL (w : World) (r : Option (List Int)) (e : Ending) (w' : World) : Prop :=
  ∃ v, e = .returned (.tuple #[v, .bool r.isSome]) ∧ w'.ownsRow w.heap.size 3 1 v (r.getD []).length ((r.getD []).map (Value.int .i64)) ∧ Below w.heap.size w w'
end Go.Proofs.Ythmekhhfihjclbd.L1

namespace Go.Proofs.Ythmekhhfihjclbd.L7
open Go.RowKit L1
set_option linter.unusedVariables false
/-- An entry: its Epoch and its Text. -/
abbrev En := Int × ByteArray
def eE : En := (0, ByteArray.empty)
/-- A entry as a value. -/
def svE (p : En) : Value := .agg #[.int .i64 p.1, .string p.2]
/-- A list of entries lies in memory from an address on. -/
def SlE (w : World) (a : Option Addr) (l : List En) : Prop := ∀ i, i < l.length → ∃ b off, a = some ⟨b, off, none⟩ ∧ w.cell? ⟨b, off + i * 2, none⟩ = some (.int .i64 (l.getD i eE).1) ∧ w.cell? ⟨b, off + i * 2 + 1, none⟩ = some (.string (l.getD i eE).2)
theorem SlE.below {w w' : World} {a : Option Addr} {xs : List En} (h : SlE w a xs) (hb : Below w.heap.size w w') : SlE w' a xs := fun i hi => by
  obtain ⟨b, off, ha, hc, hd⟩ := h i hi
  refine ⟨b, off, ha, ?_, ?_⟩
  · rw [hb.cell (p := ⟨b, off + i * 2, none⟩) (blk_lt hc)]; exact hc
  · rw [hb.cell (p := ⟨b, off + i * 2 + 1, none⟩) (blk_lt hd)]; exact hd

/-- What a walk is told of a slice of entries that came in. -/
def IsRowE (w : World) (a : Option Addr) (len : Nat) (l : List En) : Prop := l.length = len ∧ len ≤ maxLen ∧ SlE w a l
open Classical in
theorem rowE_of_pairs {w : World} {a : Addr} {len cap : Nat} (hl : len ≤ cap) (hm : cap ≤ maxLen) (h : ∀ i, i < len → ∃ n0 n1, w.cell? (a.add (i * 2)) = some (.int .i64 n0) ∧ w.cell? (a.add (i * 2 + 1)) = some (.string n1)) : ∃ l, IsRowE w (some a) len l := by
  have hc : ∃ f : Nat → En, ∀ i, i < len → w.cell? (a.add (i * 2)) = some (.int .i64 (f i).1) ∧ w.cell? (a.add (i * 2 + 1)) = some (.string (f i).2) := by
    refine ⟨fun i => if hi : i < len then (Classical.choose (h i hi), Classical.choose (Classical.choose_spec (h i hi))) else eE, fun i hi => ?_⟩
    simp only [dif_pos hi]
    exact Classical.choose_spec (Classical.choose_spec (h i hi))
  obtain ⟨f, hf⟩ := hc
  refine ⟨(List.range len).map f, by simp, Nat.le_trans hl hm, fun i hi => ?_⟩
  have hi' : i < len := by simpa using hi
  obtain ⟨b, off, spot⟩ := a
  have hspot : spot = none := by
    have h00 := (hf 0 (by omega)).1
    have := World.cell?_spot h00
    simpa [Addr.add] using this
  subst hspot
  have e0 : ∀ j, (⟨b, off, none⟩ : Addr).add j = ⟨b, off + j, none⟩ := fun j => by unfold Addr.add; split <;> simp_all
  have hg : ((List.range len).map f).getD i eE = f i := by simp [List.getD, hi']
  have := hf i hi'
  rw [e0, e0] at this
  rw [hg]
  exact ⟨b, off, rfl, this.1, this.2⟩



/-- The cells of entries, one behind the other. -/
def flatE : List En → List Value
  | [] => []
  | p :: l => .int .i64 p.1 :: .string p.2 :: flatE l
theorem flatE_len : ∀ l : List En, (flatE l).length = l.length * 2
  | [] => rfl
  | p :: l => by simp [flatE, flatE_len l]; omega
theorem flatE_get : ∀ (l : List En) (i : Nat), i < l.length → (flatE l)[i * 2]? = some (.int .i64 (l.getD i eE).1) ∧ (flatE l)[i * 2 + 1]? = some (.string (l.getD i eE).2)
  | [], i, h => by simp at h
  | p :: l, 0, _ => ⟨rfl, rfl⟩
  | p :: l, i + 1, h => by
    have := flatE_get l i (by simpa using h)
    have e1 : (i + 1) * 2 = i * 2 + 1 + 1 := by omega
    rw [e1]
    simpa only [flatE, List.getElem?_cons_succ, List.getD_cons_succ] using this
theorem flatE_append (l m : List En) : flatE (l ++ m) = flatE l ++ flatE m := by
  induction l with
  | nil => rfl
  | cons p l ih => simp [flatE, ih]
theorem flatE_set : ∀ (l : List En) (i : Nat) (p : En), flatE (l.set i p) = ((flatE l).set (i * 2) (.int .i64 p.1)).set (i * 2 + 1) (.string p.2)
  | [], _, _ => rfl
  | q :: l, 0, p => rfl
  | q :: l, i + 1, p => by
    have := flatE_set l i p
    have e1 : (i + 1) * 2 = i * 2 + 1 + 1 := by omega
    rw [e1]
    simp only [List.set_cons_succ, flatE, this]
theorem own_formE {w : World} {base n : Nat} {v : Value} {l : List En} (h : w.ownsRow base 93 2 v n (flatE l)) : ∃ a cap, v = .slice a n cap ∧ SlE w a l ∧ l.length = n := by
  have hl := h.1
  rw [flatE_len] at hl
  have hl' : l.length = n := by omega
  rcases h.2 with ⟨hv, h0⟩ | ⟨g, cap, cur, hv, _⟩
  · subst h0
    exact ⟨none, 0, hv, fun i hi => by omega, hl'⟩
  · subst hv
    refine ⟨_, cap, rfl, fun i hi => ?_, hl'⟩
    have hf := flatE_get l i hi
    have h1 := h.cells (g := g) rfl (i * 2) _ hf.1
    have h2 := h.cells (g := g) rfl (i * 2 + 1) _ hf.2
    rw [addr_add] at h1 h2
    exact ⟨g, 0, rfl, by simpa using h1, by simpa using h2⟩
theorem own_belowE {w w' : World} {base n : Nat} {v : Value} {ys : List Value} (h : w.ownsRow base 93 2 v n ys) (hb : Below w.heap.size w w') : w'.ownsRow base 93 2 v n ys := by
  refine ⟨h.1, ?_⟩
  rcases h.2 with h0 | ⟨g, cap, cur, rfl, hbg, hg, r⟩
  · exact .inl h0
  · exact .inr ⟨g, cap, cur, rfl, hbg, by rw [hb.block g (Array.getElem?_eq_some_iff.1 hg).1]; exact hg, r⟩
theorem info_ent : (Try.prog.info? 93).map (fun i => (i.zero, i.size, i.bytes)) = some (some (.agg #[.int .i64 0, .string ByteArray.empty]), 2, 24) := by kernel_rfl



theorem own_slE {w : World} {base n cap : Nat} {a : Option Addr} {l : List En} (h : w.ownsRow base 93 2 (.slice a n cap) n (flatE l)) : SlE w a l := by
  obtain ⟨b, q, e, s, _⟩ := own_formE h
  cases e
  exact s



/-- What a walk is told of a slice of entries that came in. -/
def IsRowES (w : World) (a : Option Addr) (len : Nat) (l : List En) : Prop := IsRowE w a len l ∧ ∀ j, j < l.length → (l.getD j eE).2.size ≤ 9223372036854775807
theorem rowES_of_pairs {w : World} {a : Addr} {len cap : Nat} (hl : len ≤ cap) (hm : cap ≤ maxLen) (h : ∀ i, i < len → ∃ (n0 : Int) (n1 : ByteArray), w.cell? (a.add (i * 2)) = some (.int .i64 n0) ∧ w.cell? (a.add (i * 2 + 1)) = some (.string n1) ∧ n1.size ≤ maxLen) : ∃ l, IsRowES w (some a) len l := by
  obtain ⟨l, hr⟩ := rowE_of_pairs hl hm (fun i hi => by obtain ⟨n0, n1, h1, h2, _⟩ := h i hi; exact ⟨n0, n1, h1, h2⟩)
  refine ⟨l, hr, fun j hj => ?_⟩
  obtain ⟨b, off, ha, hc, hd⟩ := hr.2.2 j hj
  obtain ⟨n0, n1, h1, h2, s2⟩ := h j (by rw [← hr.1]; exact hj)
  cases ha
  have e0 : ∀ j, (⟨b, off, none⟩ : Addr).add j = ⟨b, off + j, none⟩ := fun j => by unfold Addr.add; split <;> simp_all
  rw [e0] at h2
  rw [← Nat.add_assoc] at h2
  rw [h2] at hd
  simp only [Option.some.injEq, Value.string.injEq] at hd
  unfold maxLen at s2
  rw [← hd]
  omega
theorem own_belowT {w w' : World} {base n : Nat} {t : TypeId} {c : Nat} {v : Value} {ys : List Value} (h : w.ownsRow base t c v n ys) (hb : Below w.heap.size w w') : w'.ownsRow base t c v n ys := by
  refine ⟨h.1, ?_⟩
  rcases h.2 with h0 | ⟨g, cap, cur, rfl, hbg, hg, r⟩
  · exact .inl h0
  · exact .inr ⟨g, cap, cur, rfl, hbg, by rw [hb.block g (Array.getElem?_eq_some_iff.1 hg).1]; exact hg, r⟩
theorem own_baseT {w : World} {b c n size : Nat} {e : TypeId} {v : Value} {xs : List Value} (h : w.ownsRow c e size v n xs) (hbc : b ≤ c) : w.ownsRow b e size v n xs := by
  refine ⟨h.1, ?_⟩
  rcases h.2 with h0 | ⟨g, cap, cur, hv, hg, r⟩
  · exact .inl h0
  · exact .inr ⟨g, cap, cur, hv, Nat.le_trans hbc hg, r⟩
theorem bool_noT {b : Bool} {p : Prop} (h : b = true ↔ p) (hp : ¬ p) : b = false := by
  cases b with
  | false => rfl
  | true => exact absurd (h.1 rfl) hp
/-- Good entries: few, Epochs in their bounds that do not fall, short texts. -/
def okE (p : En) : Prop := 1 ≤ p.1 ∧ p.1 ≤ 1000 ∧ p.2.size ≤ 20
def GoodE (l : List En) : Prop := l.length ≤ 40 ∧ ∀ j, j < l.length → okE (l.getD j eE) ∧ (0 < j → (l.getD (j - 1) eE).1 ≤ (l.getD j eE).1)
end Go.Proofs.Ythmekhhfihjclbd.L7

namespace Go.Proofs.Ythmekhhfihjclbd.L7
open Go.RowKit L1
set_option linter.unusedVariables false

/-- The starts of the first entries. -/
def stsK (l : List En) : Nat → List (Int × Int)
  | 0 => []
  | k + 1 => stsK l k ++ (if k = 0 ∨ (l.getD (k - 1) eE).1 ≠ (l.getD k eE).1 then [((l.getD k eE).1, (k : Int))] else [])
def sts (l : List En) : List (Int × Int) := stsK l l.length
theorem stsK_len (l : List En) (k : Nat) : (stsK l k).length ≤ k := by
  induction k with
  | zero => simp [stsK]
  | succ k ih => simp only [stsK, List.length_append]; split <;> simp <;> omega
theorem stsK_yes (l : List En) (k : Nat) (h : k = 0 ∨ (l.getD (k - 1) eE).1 ≠ (l.getD k eE).1) : stsK l (k + 1) = stsK l k ++ [((l.getD k eE).1, (k : Int))] := by
  show stsK l k ++ _ = _
  rw [if_pos h]
theorem stsK_no (l : List En) (k : Nat) (h : ¬ (k = 0 ∨ (l.getD (k - 1) eE).1 ≠ (l.getD k eE).1)) : stsK l (k + 1) = stsK l k := by
  show stsK l k ++ _ = _
  rw [if_neg h, List.append_nil]
/-- How many of the first entries have an Epoch up to one. -/
def endK (l : List En) (e : Int) : Nat → Nat
  | 0 => 0
  | k + 1 => endK l e k + if (l.getD k eE).1 ≤ e then 1 else 0
def endE (l : List En) (e : Int) : Nat := endK l e l.length
theorem endK_le (l : List En) (e : Int) (k : Nat) : endK l e k ≤ k := by
  induction k with
  | zero => simp [endK]
  | succ k ih => simp only [endK]; split <;> omega
/-- Epochs do not fall. -/
def Mono (l : List En) : Prop := ∀ i j, i ≤ j → j < l.length → (l.getD i eE).1 ≤ (l.getD j eE).1
theorem GoodE.mono {l : List En} (h : GoodE l) : Mono l := by
  intro i j hij hj
  induction j with
  | zero => have : i = 0 := by omega
            rw [this]; exact Int.le_refl _
  | succ j ih =>
    by_cases e : i = j + 1
    · rw [e]; exact Int.le_refl _
    · have h1 := ih (by omega) (by omega)
      have h2 := (h.2 (j + 1) hj).2 (by omega)
      simp at h2
      exact Int.le_trans h1 (by simpa using h2)
theorem endE_back (l : List En) (e : Int) (m : Nat) (hM : Mono l) (hm : m ≤ l.length) (h1 : ∀ j, m ≤ j → j < l.length → e < (l.getD j eE).1) (h2 : m = 0 ∨ (l.getD (m - 1) eE).1 ≤ e) : endE l e = m := by
  have ha : ∀ k, k ≤ m → endK l e k = k := by
    intro k hk
    induction k with
    | zero => rfl
    | succ k ih =>
      have := hM k (m - 1) (by omega) (by omega)
      simp only [endK]
      rw [ih (by omega), if_pos (by omega)]
  have hb : ∀ k, m ≤ k → k ≤ l.length → endK l e k = m := by
    intro k hk hkl
    induction k with
    | zero => have : m = 0 := by omega
              rw [this]; rfl
    | succ k ih =>
      by_cases e1 : m = k + 1
      · rw [← e1]; exact ha m (Nat.le_refl _)
      · have := h1 k (by omega) (by omega)
        simp only [endK]
        rw [ih (by omega) (by omega), if_neg (by omega)]
        rfl
  exact hb _ hm (Nat.le_refl _)
/-- Where two lists part. -/
def prt : List En → List En → Nat
  | x :: a, y :: b => if x = y then prt a b + 1 else 0
  | _, _ => 0
theorem prt_eq : ∀ (k : Nat) (a b : List En), (∀ j, j < k → a.getD j eE = b.getD j eE) → k ≤ a.length → k ≤ b.length → (k = a.length ∨ k = b.length ∨ a.getD k eE ≠ b.getD k eE) → prt a b = k
  | 0, [], b, _, _, _, _ => by simp [prt]
  | 0, x :: a, [], _, _, _, _ => by simp [prt]
  | 0, x :: a, y :: b, _, _, _, h => by
    rcases h with h | h | h
    · simp at h
    · simp at h
    · simp only [List.getD_cons_zero] at h
      simp [prt, h]
  | k + 1, [], b, _, h, _, _ => by simp at h
  | k + 1, x :: a, [], _, _, h, _ => by simp at h
  | k + 1, x :: a, y :: b, h, h1, h2, h3 => by
    have e0 := h 0 (by omega)
    simp only [List.getD_cons_zero] at e0
    have ih := prt_eq k a b (fun j hj => by have := h (j + 1) (by omega); simpa only [List.getD_cons_succ] using this) (by simpa using h1) (by simpa using h2) (by
      rcases h3 with h3 | h3 | h3
      · left; simpa using h3
      · right; left; simpa using h3
      · right; right; simpa only [List.getD_cons_succ] using h3)
    simp [prt, e0, ih]
theorem prt_le : ∀ a b : List En, prt a b ≤ a.length ∧ prt a b ≤ b.length
  | [], b => by simp [prt]
  | x :: a, [] => by simp [prt]
  | x :: a, y :: b => by
    have := prt_le a b
    simp only [prt, List.length_cons]
    split <;> omega
theorem prt_same : ∀ (a b : List En) (j : Nat), j < prt a b → a.getD j eE = b.getD j eE
  | [], b, j, h => by simp [prt] at h
  | x :: a, [], j, h => by simp [prt] at h
  | x :: a, y :: b, 0, h => by
    simp only [prt] at h
    split at h
    · simpa
    · omega
  | x :: a, y :: b, j + 1, h => by
    simp only [prt] at h
    split at h
    · have := prt_same a b j (by omega); simpa only [List.getD_cons_succ] using this
    · omega
/-- Two texts are alike just if their bytes are. -/
theorem text_ne {a b : ByteArray} (h : a ≠ b) : (a.toList == b.toList) = false := by
  cases e : (a.toList == b.toList) with
  | false => rfl
  | true =>
    rw [beq_iff_eq] at e
    rw [ByteArray.toList_eq, ByteArray.toList_eq] at e
    exact absurd (ByteArray.ext (Array.toList_inj.1 e)) h
/-- Starts are good for an end. -/
def okS (en : Int) (p : Int × Int) : Prop := 1 ≤ p.1 ∧ p.1 ≤ 1000 ∧ 0 ≤ p.2 ∧ p.2 < en
def GoodS (l : List (Int × Int)) (en : Int) : Prop := (l.length ≤ 40 ∧ 0 ≤ en ∧ en ≤ 40) ∧ ∀ j, j < l.length → okS en (l.getD j (0, 0)) ∧ (0 < j → (l.getD (j - 1) (0, 0)).1 < (l.getD j (0, 0)).1 ∧ (l.getD (j - 1) (0, 0)).2 < (l.getD j (0, 0)).2)
/-- Epochs of starts rise. -/
def Rise (l : List (Int × Int)) : Prop := ∀ i j, i < j → j < l.length → (l.getD i (0, 0)).1 < (l.getD j (0, 0)).1
theorem GoodS.rise {l : List (Int × Int)} {en : Int} (h : GoodS l en) : Rise l := by
  intro i j hij hj
  induction j with
  | zero => omega
  | succ j ih =>
    have h2 := ((h.2 (j + 1) hj).2 (by omega)).1
    simp only [Nat.add_sub_cancel] at h2
    by_cases e : i = j
    · rw [e]; exact h2
    · exact Int.lt_trans (ih (by omega) (by omega)) h2
/-- The first place of an Epoch among starts. -/
def idx : List (Int × Int) → Int → Option Nat
  | [], _ => none
  | p :: l, e => if p.1 = e then some 0 else (idx l e).map (· + 1)
theorem idx_some : ∀ (l : List (Int × Int)) (e : Int) (k : Nat), k < l.length → (l.getD k (0, 0)).1 = e → (∀ j, j < k → (l.getD j (0, 0)).1 ≠ e) → idx l e = some k
  | [], e, k, h, _, _ => by simp at h
  | p :: l, e, 0, _, h, _ => by simp only [List.getD_cons_zero] at h; simp [idx, h]
  | p :: l, e, k + 1, h, h1, h2 => by
    have h0 := h2 0 (by omega)
    simp only [List.getD_cons_zero] at h0
    have ih := idx_some l e k (by simpa using h) (by simpa only [List.getD_cons_succ] using h1) (fun j hj => by have := h2 (j + 1) (by omega); simpa only [List.getD_cons_succ] using this)
    simp [idx, h0, ih]
theorem idx_none : ∀ (l : List (Int × Int)) (e : Int), (∀ j, j < l.length → (l.getD j (0, 0)).1 ≠ e) → idx l e = none
  | [], e, _ => rfl
  | p :: l, e, h => by
    have h0 := h 0 (by simp)
    simp only [List.getD_cons_zero] at h0
    have ih := idx_none l e (fun j hj => by have := h (j + 1) (by simpa using hj); simpa only [List.getD_cons_succ] using this)
    simp [idx, h0, ih]
theorem idx_lt : ∀ (l : List (Int × Int)) (e : Int) (k : Nat), idx l e = some k → k < l.length ∧ (l.getD k (0, 0)).1 = e
  | [], e, k, h => by simp [idx] at h
  | p :: l, e, k, h => by
    simp only [idx] at h
    split at h
    · rename_i h0
      simp at h
      subst h
      exact ⟨by simp, by simpa using h0⟩
    · cases h1 : idx l e with
      | none => rw [h1] at h; simp at h
      | some q =>
        rw [h1] at h
        simp at h
        subst h
        have := idx_lt l e q h1
        exact ⟨by simpa using this.1, by simpa only [List.getD_cons_succ] using this.2⟩
/-- Where the next start is. -/
def nxt (st : List (Int × Int)) (k : Nat) (en : Int) : Int := if k + 1 < st.length then (st.getD (k + 1) (0, 0)).2 else en
/-- What a follower finds: the place, and how many Epochs were looked at. -/
def fnd (a : List En) (own st : List (Int × Int)) (en : Int) : Nat → Int → Int × Int
  | 0, q => (0, q)
  | i + 1, q => match idx st (own.getD i (0, 0)).1 with
    | some k => (min (endE a (own.getD i (0, 0)).1 : Int) (nxt st k en), q + 1)
    | none => fnd a own st en i (q + 1)
def find (a : List En) (st : List (Int × Int)) (en : Int) : Int × Int := fnd a (sts a) st en (sts a).length 0
theorem fnd_some {a : List En} {own st : List (Int × Int)} {en : Int} {i k : Nat} {q : Int} (h : idx st (own.getD i (0, 0)).1 = some k) : fnd a own st en (i + 1) q = (min (endE a (own.getD i (0, 0)).1 : Int) (nxt st k en), q + 1) := by
  simp only [fnd, h]
theorem fnd_none {a : List En} {own st : List (Int × Int)} {en : Int} {i : Nat} {q : Int} (h : idx st (own.getD i (0, 0)).1 = none) : fnd a own st en (i + 1) q = fnd a own st en i (q + 1) := by
  simp only [fnd, h]
theorem below_dN {B : Nat} {a w : World} (h : Below B a w) (n : Nat) : Below B a (w.drewN n) := h.trans ⟨rfl, rfl, rfl, Nat.le_refl _, fun _ _ => rfl⟩
end Go.Proofs.Ythmekhhfihjclbd.L7

namespace Go.Proofs.Ythmekhhfihjclbd.L7
open Go.RowKit L1
set_option linter.unusedVariables false



/-- A start as a value. -/
def svS (p : Int × Int) : Value := .agg #[.int .i64 p.1, .int .i64 p.2]
/-- A list of starts lies in memory from an address on. -/
def SlS (w : World) (a : Option Addr) (l : List (Int × Int)) : Prop := ∀ i, i < l.length → ∃ b off, a = some ⟨b, off, none⟩ ∧ w.cell? ⟨b, off + i * 2, none⟩ = some (.int .i64 (l.getD i (0, 0)).1) ∧ w.cell? ⟨b, off + i * 2 + 1, none⟩ = some (.int .i64 (l.getD i (0, 0)).2)
theorem SlS.below {w w' : World} {a : Option Addr} {xs : List (Int × Int)} (h : SlS w a xs) (hb : Below w.heap.size w w') : SlS w' a xs := fun i hi => by
  obtain ⟨b, off, ha, hc, hd⟩ := h i hi
  refine ⟨b, off, ha, ?_, ?_⟩
  · rw [hb.cell (p := ⟨b, off + i * 2, none⟩) (blk_lt hc)]; exact hc
  · rw [hb.cell (p := ⟨b, off + i * 2 + 1, none⟩) (blk_lt hd)]; exact hd

/-- What a walk is told of a slice of starts that came in. -/
def IsRowS (w : World) (a : Option Addr) (len : Nat) (l : List (Int × Int)) : Prop := l.length = len ∧ len ≤ maxLen ∧ SlS w a l
open Classical in
theorem rowS_of_pairs {w : World} {a : Addr} {len cap : Nat} (hl : len ≤ cap) (hm : cap ≤ maxLen) (h : ∀ i, i < len → ∃ n0 n1, w.cell? (a.add (i * 2)) = some (.int .i64 n0) ∧ w.cell? (a.add (i * 2 + 1)) = some (.int .i64 n1)) : ∃ l, IsRowS w (some a) len l := by
  have hc : ∃ f : Nat → Int × Int, ∀ i, i < len → w.cell? (a.add (i * 2)) = some (.int .i64 (f i).1) ∧ w.cell? (a.add (i * 2 + 1)) = some (.int .i64 (f i).2) := by
    refine ⟨fun i => if hi : i < len then (Classical.choose (h i hi), Classical.choose (Classical.choose_spec (h i hi))) else (0, 0), fun i hi => ?_⟩
    simp only [dif_pos hi]
    exact Classical.choose_spec (Classical.choose_spec (h i hi))
  obtain ⟨f, hf⟩ := hc
  refine ⟨(List.range len).map f, by simp, Nat.le_trans hl hm, fun i hi => ?_⟩
  have hi' : i < len := by simpa using hi
  obtain ⟨b, off, spot⟩ := a
  have hspot : spot = none := by
    have h00 := (hf 0 (by omega)).1
    have := World.cell?_spot h00
    simpa [Addr.add] using this
  subst hspot
  have e0 : ∀ j, (⟨b, off, none⟩ : Addr).add j = ⟨b, off + j, none⟩ := fun j => by unfold Addr.add; split <;> simp_all
  have hg : ((List.range len).map f).getD i (0, 0) = f i := by simp [List.getD, hi']
  have := hf i hi'
  rw [e0, e0] at this
  rw [hg]
  exact ⟨b, off, rfl, this.1, this.2⟩



/-- The cells of starts, one behind the other. -/
def flatS : List (Int × Int) → List Value
  | [] => []
  | p :: l => .int .i64 p.1 :: .int .i64 p.2 :: flatS l
theorem flatS_len : ∀ l : List (Int × Int), (flatS l).length = l.length * 2
  | [] => rfl
  | p :: l => by simp [flatS, flatS_len l]; omega
theorem flatS_get : ∀ (l : List (Int × Int)) (i : Nat), i < l.length → (flatS l)[i * 2]? = some (.int .i64 (l.getD i (0, 0)).1) ∧ (flatS l)[i * 2 + 1]? = some (.int .i64 (l.getD i (0, 0)).2)
  | [], i, h => by simp at h
  | p :: l, 0, _ => ⟨rfl, rfl⟩
  | p :: l, i + 1, h => by
    have := flatS_get l i (by simpa using h)
    have e1 : (i + 1) * 2 = i * 2 + 1 + 1 := by omega
    rw [e1]
    simpa only [flatS, List.getElem?_cons_succ, List.getD_cons_succ] using this
theorem flatS_append (l m : List (Int × Int)) : flatS (l ++ m) = flatS l ++ flatS m := by
  induction l with
  | nil => rfl
  | cons p l ih => simp [flatS, ih]
theorem flatS_set : ∀ (l : List (Int × Int)) (i : Nat) (p : Int × Int), flatS (l.set i p) = ((flatS l).set (i * 2) (.int .i64 p.1)).set (i * 2 + 1) (.int .i64 p.2)
  | [], _, _ => rfl
  | q :: l, 0, p => rfl
  | q :: l, i + 1, p => by
    have := flatS_set l i p
    have e1 : (i + 1) * 2 = i * 2 + 1 + 1 := by omega
    rw [e1]
    simp only [List.set_cons_succ, flatS, this]
theorem own_formS {w : World} {base n : Nat} {v : Value} {l : List (Int × Int)} (h : w.ownsRow base 117 2 v n (flatS l)) : ∃ a cap, v = .slice a n cap ∧ SlS w a l ∧ l.length = n := by
  have hl := h.1
  rw [flatS_len] at hl
  have hl' : l.length = n := by omega
  rcases h.2 with ⟨hv, h0⟩ | ⟨g, cap, cur, hv, _⟩
  · subst h0
    exact ⟨none, 0, hv, fun i hi => by omega, hl'⟩
  · subst hv
    refine ⟨_, cap, rfl, fun i hi => ?_, hl'⟩
    have hf := flatS_get l i hi
    have h1 := h.cells (g := g) rfl (i * 2) _ hf.1
    have h2 := h.cells (g := g) rfl (i * 2 + 1) _ hf.2
    rw [addr_add] at h1 h2
    exact ⟨g, 0, rfl, by simpa using h1, by simpa using h2⟩
theorem own_belowS {w w' : World} {base n : Nat} {v : Value} {ys : List Value} (h : w.ownsRow base 117 2 v n ys) (hb : Below w.heap.size w w') : w'.ownsRow base 117 2 v n ys := by
  refine ⟨h.1, ?_⟩
  rcases h.2 with h0 | ⟨g, cap, cur, rfl, hbg, hg, r⟩
  · exact .inl h0
  · exact .inr ⟨g, cap, cur, rfl, hbg, by rw [hb.block g (Array.getElem?_eq_some_iff.1 hg).1]; exact hg, r⟩
theorem info_sta : (Try.prog.info? 117).map (fun i => (i.zero, i.size, i.bytes)) = some (some (.agg #[.int .i64 0, .int .i64 0]), 2, 16) := by kernel_rfl



theorem own_slS {w : World} {base n cap : Nat} {a : Option Addr} {l : List (Int × Int)} (h : w.ownsRow base 117 2 (.slice a n cap) n (flatS l)) : SlS w a l := by
  obtain ⟨b, q, e, s, _⟩ := own_formS h
  cases e
  exact s

end Go.Proofs.Ythmekhhfihjclbd.L7

namespace Go.Proofs.Ythmekhhfihjclbd.L7
open Go.RowKit L1
set_option linter.unusedVariables false

theorem sts_le (l : List En) : (sts l).length ≤ l.length := stsK_len l l.length
theorem idx_gt {st : List (Int × Int)} {e : Int} (hR : Rise st) (k : Nat) (hk : k < st.length) (h1 : ∀ j, j < k → (st.getD j (0, 0)).1 < e) (h2 : e < (st.getD k (0, 0)).1) : idx st e = none :=
  idx_none st e (fun j hj => by
    by_cases e1 : j < k
    · have := h1 j e1; omega
    · by_cases e2 : j = k
      · rw [e2]; omega
      · have := hR k j (by omega) hj; omega)
end Go.Proofs.Ythmekhhfihjclbd.L7

namespace Go.Proofs.Ythmekhhfihjclbd.L7
open Go.RowKit L1
set_option linter.unusedVariables false

theorem size_ent : (Try.prog.info? 93).map (·.size) = some 2 := by kernel_rfl
theorem elem_ent : Try.prog.elem 30 = 93 := by kernel_rfl
theorem run_size_ent (w : World) : (sizeOf (Try.prog.elem 30)).run Try.prog w = .ok 2 w := by
  rw [elem_ent]
  cases hq : Try.prog.info? 93 with
  | none => have := size_ent; rw [hq] at this; cases this
  | some i =>
    have hi : i.size = 2 := by have := size_ent; rw [hq] at this; simpa using this
    simp [sizeOf, typeInfo, hq, hi]
theorem slE_take {w : World} {a : Option Addr} {l : List En} (h : SlE w a l) (p : Nat) : SlE w a (l.take p) := fun i hi => by
  have hi' : i < l.length := by simp at hi; omega
  have hip : i < p := by simp at hi; omega
  obtain ⟨b, off, ha, h1, h2⟩ := h i hi'
  have e : (l.take p).getD i eE = l.getD i eE := by simp [List.getD, hip]
  rw [e]
  exact ⟨b, off, ha, h1, h2⟩
theorem slE_drop {w : World} {b off : Nat} {l : List En} (h : SlE w (some ⟨b, off, none⟩) l) (p : Nat) : SlE w (some ⟨b, off + p * 2, none⟩) (l.drop p) := fun i hi => by
  have hi' : p + i < l.length := by simp at hi; omega
  obtain ⟨b', off', ha, h1, h2⟩ := h (p + i) hi'
  cases ha
  have e : (l.drop p).getD i eE = l.getD (p + i) eE := by simp [List.getD]
  rw [e]
  have e2 : off + (p + i) * 2 = off + p * 2 + i * 2 := by omega
  rw [e2] at h1 h2
  exact ⟨b, off + p * 2, rfl, h1, h2⟩
/-- A list's first entries, as a slice. -/
theorem slice_to (a : Option Addr) (n cap p : Nat) (hp : p ≤ n) (hc : n ≤ cap) (h0 : a = none → cap = 0) :
    ∃ c', ∀ w, (Instr.slice 30 (.slice a n cap) none (some (.int .i64 (p : Int))) none).run Try.prog w = .ok (.slice a p c') w := by
  refine ⟨cap, fun w => ?_⟩
  rw [run_slice_h w 30 a n cap (by rw [elem_ent]; exact Try.underlying30) .i64 (p : Int) (by omega) (by omega), run_size_ent]
  cases a with
  | none => have := h0 rfl; subst this; simp [sliced]
  | some x => obtain ⟨b, off, sp⟩ := x; simp [sliced, Addr.add]; try (split <;> simp_all)
/-- A list's entries from a place on, as a slice. -/
theorem slice_from (w0 : World) (a : Option Addr) (l : List En) (n cap p : Nat) (hn : l.length = n) (hs : SlE w0 a l) (hp : p ≤ n) (hc : n ≤ cap) (h0 : a = none → cap = 0) :
    ∃ a' c', (∀ w, (Instr.slice 30 (.slice a n cap) (some (.int .i64 (p : Int))) none none).run Try.prog w = .ok (.slice a' (n - p) c') w) ∧ ∀ w, SlE w a l → SlE w a' (l.drop p) := by
  by_cases e : p = n
  · refine ⟨if cap = p then a else a.map (·.add (p * 2)), cap - p, fun w => ?_, fun w _ i hi => ?_⟩
    · rw [run_slice_l w 30 a n cap (by rw [elem_ent]; exact Try.underlying30) .i64 (p : Int) (by omega) (by omega), run_size_ent]
      simp only [Result.andThen_ok, sliced, Int.toNat_natCast]
    · simp at hi; omega
  · obtain ⟨b, off, rfl, _⟩ := hs p (by omega)
    refine ⟨some ⟨b, off + p * 2, none⟩, cap - p, fun w => ?_, fun w h => slE_drop h p⟩
    rw [run_slice_l w 30 (some ⟨b, off, none⟩) n cap (by rw [elem_ent]; exact Try.underlying30) .i64 (p : Int) (by omega) (by omega), run_size_ent]
    have h1 : ¬ cap = p := by omega
    simp [sliced, h1, Addr.add]
theorem flatE_cells {w : World} {b off : Nat} {l : List En} (h : SlE w (some ⟨b, off, none⟩) l) : ∀ j u, (flatE l)[j]? = some u → w.cell? ((⟨b, off, none⟩ : Addr).add j) = some u := fun j u hu => by
  have hj : j < l.length * 2 := by
    by_cases hj : j < l.length * 2
    · exact hj
    · rw [List.getElem?_eq_none (by rw [flatE_len]; omega)] at hu; cases hu
  have e0 : (⟨b, off, none⟩ : Addr).add j = ⟨b, off + j, none⟩ := by unfold Addr.add; split <;> simp_all
  rw [e0]
  obtain ⟨b', off', ha, h1, h2⟩ := h (j / 2) (by omega)
  cases ha
  have hf := flatE_get l (j / 2) (by omega)
  have h01 : j % 2 = 0 ∨ j % 2 = 1 := by omega
  rcases h01 with e | e
  · rw [show j / 2 * 2 = j by omega] at hf h1
    rw [h1, ← hf.1, hu]
  · rw [show j / 2 * 2 + 1 = j by omega] at hf
    rw [show off + j / 2 * 2 + 1 = off + j by omega] at h2
    rw [h2, ← hf.2, hu]
theorem flatE_one (l : List En) : ∀ u ∈ flatE l, u.oneCell' = true := by
  induction l with
  | nil => intro u hu; simp [flatE] at hu
  | cons p l ih =>
    intro u hu
    simp only [flatE, List.mem_cons] at hu
    rcases hu with rfl | rfl | hu
    · rfl
    · rfl
    · exact ih u hu
theorem own_capE {w : World} {base n cap c : Nat} {t : TypeId} {a : Option Addr} {xs : List Value} (h : w.ownsRow base t c (.slice a n cap) n xs) : n ≤ cap := by
  rcases h.2 with ⟨h, h0⟩ | ⟨g', cap', cur, e, _, _, hle, _⟩
  · omega
  · cases e; exact hle
/-- 'append' of a list behind one that is the call's own. -/
theorem wpList_append_ent {ops : Array Oper} {rest : List Oper} {o : Oper} {a : Act} {Q : Exit → Act → World → Prop} {w : World} (hgd : o.guard = none) (s x : Operand)
    (ho : o.op = .call { callee := .builtin .append, args := #[s, x], argTypes := #[30, 30] })
    (base : Nat) (ad ax : Option Addr) (k cd n c : Nat) (O xs : List En) (hO : O.length = k) (hxs : xs.length = n) (hk2 : k ≤ 1048576) (hn2 : n ≤ 1048576) (hs : a.eval s = .slice ad k cd) (hown : w.ownsRow base 93 2 (.slice ad k cd) k (flatE O)) (hx : a.eval x = .slice ax n c) (hsl : SlE w ax xs) (hbase : base ≤ w.heap.size)
    (h : ∀ a' c' w', w'.ownsRow base 93 2 (.slice a' (k + n) c') (k + n) (flatE (O ++ xs)) → w.grownBy w' (Value.slice ad k cd).ownBlock → wpList Try.prog ops Q rest (a.put o.dst (.slice a' (k + n) c')) w') : wpList Try.prog ops Q (o :: rest) a w := by
  obtain ⟨i0, hi, hz0, hz1, hz2⟩ := info_parts info_ent
  by_cases h0 : n = 0
  · subst h0
    have hx0 : xs = [] := List.eq_nil_of_length_eq_zero hxs
    subst hx0
    have hr : (Builtin.append_ #[30, 30] o.type #[.slice ad k cd, .slice ax 0 c]).run Try.prog w = .ok (.slice ad k cd) w := by
      refine run_append_nothing w 30 30 o.type 93 i0 Try.underlying30 hi ad k cd (own_capE hown) _ ?_
      cases ax with
      | none => exact Src.ofNil _ Try.underlying30 c
      | some x => exact Src.ofSlice _ Try.underlying30 x 0 c [] (by simp) (fun j u hu => by simp at hu) (fun u hu => by simp at hu)
    refine wpList_plain hgd fun K hK => ?_
    unfold Oper.wp execOp
    simp only [ho, resolve, invoke, builtin, Sem.run_bind, Sem.run_pure, Result.andThen_ok, List.map_toArray, List.map_cons, List.map_nil, hs, hx, hr]
    exact hK _ _ (h ad cd w (by simpa using hown) (World.grownBy.refl _ _))
  · obtain ⟨b, off, rfl, _⟩ := hsl 0 (by omega)
    refine wpList_append_own_at w hgd s x 30 ho base 93 i0 (.agg #[.int .i64 0, .string ByteArray.empty]) 2 24 Try.underlying30 hi hz0 hz1 hz2 rfl (by decide) (.slice ad k cd) k (flatE O) hs hown ⟨b, off, none⟩ n c (flatE xs) hx (by rw [flatE_len]; omega) (flatE_cells hsl) (flatE_one xs) (by unfold maxLen; omega) (by omega) hbase ?_
    intro v' w' h1 h2 _ h4
    rw [← flatE_append] at h1
    obtain ⟨a', c', rfl, _, _⟩ := own_formE h1
    exact h a' c' w' h1 h2
end Go.Proofs.Ythmekhhfihjclbd.L7
