/-
  The text of labels: its pieces, one behind the other, and as one that is joined. Nothing of the program's text is proved here.
-/
import Derived.Test.YtohcjafklfemfamL3Lab
import Derived.Lib.Join
namespace Go.Proofs.Ytohcjafklfemfam.L3
open Go.RowKit L1
set_option linter.unusedVariables false

/-- A label's text. -/
def lw (p : Lb) : ByteArray := p.1 ++ ⟨#[61]⟩ ++ p.2
/-- The text of the first labels, without its end. -/
def ltx (l : List Lb) : Nat → ByteArray
  | 0 => ⟨#[123]⟩
  | k + 1 => (if 0 < k then ltx l k ++ ⟨#[44]⟩ else ltx l k) ++ lw (l.getD k eL)
def ltext (l : List Lb) : ByteArray := ltx l l.length ++ ⟨#[125]⟩
theorem joinTail_snoc (sep : List UInt8) (r : List (List UInt8)) (x : List UInt8) : Lib.joinTail sep (r ++ [x]) = Lib.joinTail sep r ++ (sep ++ x) := by
  simp [Lib.joinTail]
theorem join_snoc (xs : List (List UInt8)) (x sep : List UInt8) : Lib.join (xs ++ [x]) sep = if xs = [] then x else Lib.join xs sep ++ (sep ++ x) := by
  cases xs with
  | nil => simp [Lib.join_one]
  | cons y r =>
    rw [if_neg (by simp), List.cons_append, Lib.join_cons, Lib.join_cons, joinTail_snoc, List.append_assoc]
theorem ba_append (a b : ByteArray) : (a ++ b).data.toList = a.data.toList ++ b.data.toList := by
  show (ByteArray.append a b).data.toList = _
  simp [ByteArray.append]
theorem ltx_join (l : List Lb) : ∀ k, k ≤ l.length → (ltx l k).data.toList = [123] ++ Lib.join ((l.take k).map fun p => (lw p).data.toList) [44]
  | 0, _ => by simp [ltx, Lib.join]
  | k + 1, hk => by
    have ih := ltx_join l k (by omega)
    have e : l.take (k + 1) = l.take k ++ [l.getD k eL] := by
      rw [List.take_succ_eq_append_getElem (by omega)]
      simp [List.getD, List.getElem?_eq_getElem (show k < l.length by omega)]
    rw [e, List.map_append, List.map_cons, List.map_nil, join_snoc]
    unfold ltx
    by_cases h0 : 0 < k
    · have hne : ¬ (l.take k).map (fun p => (lw p).data.toList) = [] := by
        simp only [List.map_eq_nil_iff]
        intro h
        have := congrArg List.length h
        rw [List.length_take, List.length_nil] at this
        omega
      rw [if_pos h0, if_neg hne, ba_append, ba_append, ih]
      simp
    · obtain rfl : k = 0 := by omega
      rw [if_neg (by omega), ba_append, ih]
      simp [Lib.join]
theorem ltext_join (l : List Lb) : ltext l = (⟨#[123]⟩ : ByteArray) ++ (⟨(Lib.join (l.map fun p => (lw p).data.toList) [44]).toArray⟩ : ByteArray) ++ (⟨#[125]⟩ : ByteArray) := by
  have h := ltx_join l l.length (Nat.le_refl _)
  rw [List.take_length] at h
  unfold ltext
  apply ByteArray.ext
  apply Array.toList_inj.1
  rw [ba_append, ba_append, ba_append, h]
theorem lw_size (p : Lb) : (lw p).size = p.1.size + 1 + p.2.size := by
  simp [lw, ByteArray.size_append]
  rfl
theorem ltx_size {l : List Lb} (hg : GoodL l) : ∀ k, k ≤ l.length → (ltx l k).size ≤ 1 + 18 * k
  | 0, _ => by simp [ltx]; decide
  | k + 1, hk => by
    have ih := ltx_size hg k (by omega)
    have ho := (hg.2 k (by omega)).1
    have h1 := ho.1.1.2
    have h2 := ho.2.1.2
    unfold ltx
    rw [ByteArray.size_append, lw_size]
    split
    · rw [ByteArray.size_append]
      have : (⟨#[44]⟩ : ByteArray).size = 1 := rfl
      omega
    · omega
theorem join_size {l : List Lb} (hg : GoodL l) : (Lib.join (l.map fun p => (lw p).data.toList) [44]).length ≤ 200 := by
  have h := ltx_join l l.length (Nat.le_refl _)
  rw [List.take_length] at h
  have h2 := ltx_size hg l.length (Nat.le_refl _)
  have h3 := congrArg List.length h
  have h4 := hg.1
  have h5 : (ltx l l.length).data.toList.length = (ltx l l.length).size := by simp
  rw [List.length_append] at h3
  omega
end Go.Proofs.Ytohcjafklfemfam.L3
