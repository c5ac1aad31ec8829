/-
  The parts of a text between the places of one byte: the mathematics.
-/
import Derived.Test.YtbcnkglcfjineakDoorL1Bytes
import Derived.Lib.Bytealg
import Derived.Lib.IndexLaws
import Derived.Lib.Strings
namespace Go.Proofs.YtbcnkglcfjineakDoor.L3
open Go.RowKit L1
set_option linter.unusedVariables false

/-- The parts of a list of bytes between the places of c. -/
def sp (c : UInt8) : List UInt8 → List (List UInt8)
  | [] => [[]]
  | b :: l => if b = c then [] :: sp c l else match sp c l with
    | p :: ps => (b :: p) :: ps
    | [] => [[b]]
theorem sp_none (c : UInt8) : ∀ (l : List UInt8), (∀ k : Nat, l[k]? ≠ some c) → sp c l = [l]
  | [], _ => rfl
  | b :: l, h => by
    have hb : b ≠ c := fun e => h 0 (by simp [e])
    have ih := sp_none c l (fun k => by have := h (k + 1); simpa using this)
    unfold sp
    rw [if_neg hb, ih]
theorem sp_cut (c : UInt8) : ∀ (l : List UInt8) (n : Nat), (∀ k : Nat, k < n → l[k]? ≠ some c) → l[n]? = some c → sp c l = l.take n :: sp c (l.drop (n + 1))
  | [], n, _, h => by simp at h
  | b :: l, 0, _, h => by
    have hb : b = c := by simpa using h
    rw [show sp c (b :: l) = (if b = c then [] :: sp c l else match sp c l with | p :: ps => (b :: p) :: ps | [] => [[b]]) from rfl, if_pos hb]
    simp
  | b :: l, n + 1, h, hn => by
    have hb : b ≠ c := fun e => h 0 (by omega) (by simp [e])
    have ih := sp_cut c l n (fun k hk => by have := h (k + 1) (by omega); simpa using this) (by simpa using hn)
    rw [show sp c (b :: l) = (if b = c then [] :: sp c l else match sp c l with | p :: ps => (b :: p) :: ps | [] => [[b]]) from rfl, if_neg hb, ih]
    simp
theorem sp_ne (c : UInt8) : ∀ (l : List UInt8), sp c l ≠ []
  | [] => by simp [sp]
  | b :: l => by
    unfold sp
    split
    · simp
    · cases sp c l <;> simp
/-- A part bears none of the byte. -/
theorem sp_free (c : UInt8) : ∀ (l p : List UInt8), p ∈ sp c l → c ∉ p
  | [], p, h => by
    have : p = [] := by simpa [sp] using h
    subst this; simp
  | b :: l, p, h => by
    have ih := sp_free c l
    unfold sp at h
    split at h
    · rcases List.mem_cons.1 h with rfl | h
      · simp
      · exact ih p h
    · rename_i hb
      revert h ih
      cases sp c l with
      | nil => intro ih h; have : p = [b] := by simpa using h
               subst this; simpa using fun e => hb e.symm
      | cons q ps =>
        intro ih h
        rcases List.mem_cons.1 h with rfl | h
        · intro hc
          rcases List.mem_cons.1 hc with e | hc
          · exact hb e.symm
          · exact ih q (List.mem_cons_self ..) hc
        · exact ih p (List.mem_cons_of_mem _ h)
/-- How long the parts are, all in all. -/
theorem sp_length (c : UInt8) : ∀ (l : List UInt8), l.length + 1 = ((sp c l).map (fun p => p.length + 1)).sum
  | [] => by simp [sp]
  | b :: l => by
    have ih := sp_length c l
    unfold sp
    split
    · simp [ih]; omega
    · revert ih
      cases h : sp c l with
      | nil => exact absurd h (sp_ne c l)
      | cons q ps => intro ih; simp at ih ⊢; omega

/-- The parts of a text. -/
def parts (c : UInt8) (s : ByteArray) : List ByteArray := (sp c s.data.toList).map fun l => ⟨l.toArray⟩
theorem parts_ne (c : UInt8) (s : ByteArray) : parts c s ≠ [] := by simp [parts, sp_ne]
theorem parts_none (c : UInt8) (s : ByteArray) (h : ∀ k : Nat, s.data.toList[k]? ≠ some c) : parts c s = [s] := by
  unfold parts; rw [sp_none c _ h]; simp
theorem parts_cut (c : UInt8) (s : ByteArray) (n : Nat) (h : ∀ k : Nat, k < n → s.data.toList[k]? ≠ some c) (hn : s.data.toList[n]? = some c) :
    parts c s = s.extract 0 n :: parts c (s.extract (n + 1) s.size) := by
  unfold parts
  rw [sp_cut c _ n h hn, List.map_cons]
  have e1 : (⟨(s.data.toList.take n).toArray⟩ : ByteArray) = s.extract 0 n := by
    rw [Lib.extract_eq]; simp
  have e2 : (s.extract (n + 1) s.size).data.toList = s.data.toList.drop (n + 1) := by
    rw [Lib.extract_eq]
    simp only []
    rw [List.take_of_length_le]
    rw [List.length_drop, ← Lib.size_eq]; omega
  rw [e1, e2]
theorem parts_length (c : UInt8) (s : ByteArray) : (parts c s).length ≤ s.size + 1 := by
  have h := sp_length c s.data.toList
  rw [← Lib.size_eq] at h
  have : ∀ (l : List (List UInt8)), l.length ≤ (l.map (fun p => p.length + 1)).sum := by
    intro l
    induction l with
    | nil => simp
    | cons a l ih => simp only [List.length_cons, List.map_cons, List.sum_cons]; omega
  have := this (sp c s.data.toList)
  unfold parts
  rw [List.length_map]; omega
theorem parts_size (c : UInt8) (s : ByteArray) : s.size + 1 = ((parts c s).map (fun p => p.size + 1)).sum := by
  have h := sp_length c s.data.toList
  rw [← Lib.size_eq] at h
  rw [h, parts, List.map_map]
  rfl
theorem parts_free (c : UInt8) (s p : ByteArray) (h : p ∈ parts c s) : c ∉ p.data.toList := by
  unfold parts at h
  obtain ⟨l, hl, rfl⟩ := List.mem_map.1 h
  simpa using sp_free c _ l hl
end Go.Proofs.YtbcnkglcfjineakDoor.L3
