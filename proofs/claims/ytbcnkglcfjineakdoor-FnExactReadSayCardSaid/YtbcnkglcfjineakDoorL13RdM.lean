/-
  Numbers and says out of their texts. Nothing of the program's text is proved here.
-/
import Derived.Test.YtbcnkglcfjineakDoorL13SayM
import Derived.Test.YtbcnkglcfjineakDoorL3Parts
import Derived.Test.YtbcnkglcfjineakDoorL13GMath
import Derived.Lib.AtoiAll
namespace Go.Proofs.YtbcnkglcfjineakDoor.L13
open Go.RowKit L1
set_option linter.unusedVariables false

theorem bts_atR (s : ByteArray) (k : Nat) (h : k < s.size) : (bts s 0).getD k 0 = ((s[k]'h).toNat : Int) := by
  have := bts_get s 0 k (by omega)
  simp only [Nat.zero_add] at this
  exact this
theorem ba_ext {a b : ByteArray} (h : a.data.toList = b.data.toList) : a = b := by
  apply ByteArray.ext
  exact Array.toList_inj.1 h
theorem numT_data (n : Int) : (numT n).data.toList = Lib.itoa n := by simp [numT]
theorem dec_dig (u : Nat) : ∀ b ∈ Lib.decDigits u, 48 ≤ b.toNat ∧ b.toNat ≤ 57 := by
  induction u using Nat.strongRecOn with
  | _ u ih =>
    intro b hb
    rw [Lib.decDigits] at hb
    split at hb
    · rename_i h
      simp only [List.mem_cons, List.not_mem_nil, or_false] at hb
      subst hb
      rw [UInt8.toNat_ofNat']
      omega
    · rename_i h
      rcases List.mem_append.1 hb with hb | hb
      · exact ih (u / 10) (by omega) b hb
      · simp only [List.mem_cons, List.not_mem_nil, or_false] at hb
        subst hb
        rw [UInt8.toNat_ofNat']
        omega
theorem dec_ne (u : Nat) : Lib.decDigits u ≠ [] := by
  rw [Lib.decDigits]
  split <;> simp
theorem itoa_mem (n : Int) : ∀ b ∈ Lib.itoa n, b.toNat = 45 ∨ (48 ≤ b.toNat ∧ b.toNat ≤ 57) := by
  intro b hb
  unfold Lib.itoa at hb
  split at hb
  · rcases List.mem_cons.1 hb with rfl | hb
    · exact .inl rfl
    · exact .inr (dec_dig _ b hb)
  · exact .inr (dec_dig _ b hb)
theorem num_free (n : Int) (c : UInt8) (hc : c.toNat < 45) : c ∉ (numT n).data.toList := by
  rw [numT_data]
  intro h
  have := itoa_mem n c h
  omega
/-- The value of digits. -/
def valB : List UInt8 → Nat := List.foldl (fun a c => 10 * a + (c.toNat - 48)) 0
theorem valB_one (l : List UInt8) (c : UInt8) : valB (l ++ [c]) = 10 * valB l + (c.toNat - 48) := by simp [valB, List.foldl_append]
theorem valB_dec (u : Nat) : valB (Lib.decDigits u) = u := by
  induction u using Nat.strongRecOn with
  | _ u ih =>
    rw [Lib.decDigits]
    split
    · rename_i h
      have e := valB_one [] (UInt8.ofNat (48 + u))
      rw [List.nil_append] at e
      rw [e, UInt8.toNat_ofNat']
      show 10 * 0 + _ = u
      omega
    · rename_i h
      rw [valB_one, ih (u / 10) (by omega), UInt8.toNat_ofNat']
      omega
theorem valB_lt (l : List UInt8) : ∀ k, k ≤ l.length → (∀ j, (h : j < k) → (hj : j < l.length) → l[j].toNat ≤ 57) → valB (l.take k) < 10 ^ k
  | 0, _, _ => by simp [valB]
  | k + 1, hk, hd => by
    have ih := valB_lt l k (by omega) (fun j h hj => hd j (by omega) hj)
    have h1 := hd k (by omega) (by omega)
    rw [List.take_succ_eq_append_getElem (show k < l.length by omega), valB_one, Nat.pow_succ]
    omega
theorem dec_len (u : Nat) (h : u ≤ 9999999999) : (Lib.decDigits u).length ≤ 10 := by
  rw [dec_dgs, List.length_map]
  exact dgs_len 9 u (by omega)
theorem parse_app (c : UInt8) : ∀ (l : List UInt8) (acc : Nat), Lib.parseUint10 acc (l ++ [c]) = (match Lib.parseUint10 acc l with | .ok a => Lib.parseUint10 a [c] | .«syntax» => .«syntax» | .range => .range)
  | [], acc => rfl
  | b :: l, acc => by
    simp only [List.cons_append, Lib.parseUint10]
    split
    · split
      · rfl
      · split
        · rfl
        · exact parse_app c l _
    · rfl
theorem parse_dec (u : Nat) : u ≤ 10000000000 → Lib.parseUint10 0 (Lib.decDigits u) = .ok u := by
  induction u using Nat.strongRecOn with
  | _ u ih =>
    intro hu
    rw [Lib.decDigits]
    split
    · rename_i h
      simp only [Lib.parseUint10]
      have e : (UInt8.ofNat (48 + u)).toNat = 48 + u := by rw [UInt8.toNat_ofNat']; omega
      rw [e, if_pos (by omega), if_neg (by omega), if_neg (by omega)]
      congr 1
      omega
    · rename_i h
      rw [parse_app, ih (u / 10) (by omega) (by omega)]
      simp only [Lib.parseUint10]
      have e : (UInt8.ofNat (48 + u % 10)).toNat = 48 + u % 10 := by rw [UInt8.toNat_ofNat']; omega
      rw [e, if_pos (by omega), if_neg (by omega), if_neg (by omega)]
      congr 1
      omega
/-- What Atoi tells of a number's text. -/
theorem atoi_num (n : Int) (h0 : -9999999999 ≤ n) (h1 : n ≤ 9999999999) : Lib.atoiAll (Lib.itoa n) = .ok n := by
  unfold Lib.itoa
  split
  · rename_i hn
    unfold Lib.atoiAll Lib.parseMag
    have e := parse_dec n.natAbs (by omega)
    simp only [show (45 : UInt8).toNat = 45 from rfl, or_true, if_true, dec_ne, if_false, e]
    rw [if_neg (by simp), if_neg (by omega)]
    congr 1
    omega
  · rename_i hn
    have e := parse_dec n.toNat (by omega)
    have hd := dec_dig n.toNat
    have hne := dec_ne n.toNat
    revert e hd hne
    generalize Lib.decDigits n.toNat = l
    intro e hd hne
    cases l with
    | nil => exact absurd rfl hne
    | cons c r =>
      have hc := hd c (List.mem_cons_self ..)
      unfold Lib.atoiAll Lib.parseMag
      have hx : ¬ c.toNat = 43 := by omega
      have hy : ¬ c.toNat = 45 := by omega
      simp only [hx, hy, or_self, if_false, e, reduceCtorEq]
      rw [if_neg (by omega), if_neg (by omega)]
      congr 1
      omega
theorem numT_inj {a b : Int} (ha0 : -9999999999 ≤ a) (ha1 : a ≤ 9999999999) (hb0 : -9999999999 ≤ b) (hb1 : b ≤ 9999999999) (h : numT a = numT b) : a = b := by
  have h1 := atoi_num a ha0 ha1
  have h2 := atoi_num b hb0 hb1
  rw [← numT_data, h, numT_data, h2] at h1
  injection h1 with h1
  exact h1.symm
theorem num_ne (n : Int) : (numT n).size ≠ 0 := by
  rw [Lib.size_eq, numT_data]
  unfold Lib.itoa
  split
  · simp
  · intro h
    exact dec_ne _ (List.eq_nil_of_length_eq_zero h)
/-- What a text is read as: a number that is written so, or none. -/
structure IsRd (s : ByteArray) (v : Int) (ok : Bool) : Prop where
  yes : ok = true → s = numT v
  all : ∀ n, -9999999999 ≤ n → n ≤ 9999999999 → s = numT n → ok = true ∧ v = n
/-! Parts put together again. -/
def jn (c : UInt8) : List (List UInt8) → List UInt8
  | [] => []
  | [p] => p
  | p :: q :: t => p ++ c :: jn c (q :: t)
theorem jn_sp (c : UInt8) : ∀ l, jn c (L3.sp c l) = l
  | [] => rfl
  | b :: l => by
    have ih := jn_sp c l
    unfold L3.sp
    split
    · rename_i h
      subst h
      cases hs : L3.sp b l with
      | nil => exact absurd hs (L3.sp_ne _ _)
      | cons q t =>
        rw [hs] at ih
        show [] ++ b :: jn b (q :: t) = b :: l
        rw [ih]
        rfl
    · cases hs : L3.sp c l with
      | nil => exact absurd hs (L3.sp_ne _ _)
      | cons q t =>
        rw [hs] at ih
        cases t with
        | nil =>
          show b :: q = b :: l
          rw [show q = l from ih]
        | cons r t =>
          show (b :: q) ++ c :: jn c (r :: t) = b :: l
          rw [List.cons_append, show q ++ c :: jn c (r :: t) = l from ih]
theorem sp_app (c : UInt8) : ∀ (a r : List UInt8), c ∉ a → L3.sp c (a ++ c :: r) = a :: L3.sp c r
  | [], r, _ => by
    show L3.sp c (c :: r) = _
    rw [L3.sp, if_pos rfl]
  | b :: a, r, h => by
    have hb : b ≠ c := fun e => h (by rw [e]; exact List.mem_cons_self ..)
    have ih := sp_app c a r (fun hc => h (List.mem_cons_of_mem _ hc))
    show L3.sp c (b :: (a ++ c :: r)) = _
    rw [L3.sp, if_neg hb, ih]
theorem sp_self (c : UInt8) (a : List UInt8) (h : c ∉ a) : L3.sp c a = [a] :=
  L3.sp_none c a (fun k hk => h (List.mem_of_getElem? hk))
/-- The bytes of a say's text. -/
theorem say_data (nm : ByteArray) (x y : Int) : (sayT nm x y).data.toList = nm.data.toList ++ 32 :: ((numT x).data.toList ++ 32 :: (numT y).data.toList) := by
  unfold sayT
  simp only [ByteArray.data_append, Array.toList_append]
  simp
theorem arr_backR (t : ByteArray) : (⟨t.data.toList.toArray⟩ : ByteArray) = t := by
  apply ByteArray.ext
  simp
theorem word_free {nm : ByteArray} (h : L3.Word false nm) (c : UInt8) (hc : c.toNat < 97) : c ∉ nm.data.toList := by
  intro hm
  obtain ⟨k, hk, e⟩ := List.getElem_of_mem hm
  have hk2 : k < nm.size := by rw [Lib.size_eq]; exact hk
  have h1 := h.2 k hk2
  rw [bts_atR nm k hk2] at h1
  have e2 : (nm[k]'hk2) = c := e
  rw [e2] at h1
  unfold L3.okB at h1
  simp at h1
  omega
theorem say_parts {nm : ByteArray} {x y : Int} (h : L3.Word false nm) : L3.parts 32 (sayT nm x y) = [nm, numT x, numT y] := by
  unfold L3.parts
  rw [say_data, sp_app 32 _ _ (word_free h 32 (by decide)), sp_app 32 _ _ (num_free x 32 (by decide)), sp_self 32 _ (num_free y 32 (by decide))]
  simp only [List.map_cons, List.map_nil, arr_backR]
/-- Three parts put together again. -/
theorem three_join {s a b d : ByteArray} (h : L3.parts 32 s = [a, b, d]) : s = (((a ++ ⟨#[32]⟩) ++ b) ++ ⟨#[32]⟩) ++ d := by
  have hj := jn_sp 32 s.data.toList
  unfold L3.parts at h
  match hs : L3.sp 32 s.data.toList, h with
  | [p, q, r], h =>
    simp only [List.map_cons, List.map_nil, List.cons.injEq, and_true] at h
    obtain ⟨rfl, rfl, rfl⟩ := h
    rw [hs] at hj
    apply ba_ext
    rw [← hj]
    simp only [ByteArray.data_append, Array.toList_append, jn]
    simp
end Go.Proofs.YtbcnkglcfjineakDoor.L13
