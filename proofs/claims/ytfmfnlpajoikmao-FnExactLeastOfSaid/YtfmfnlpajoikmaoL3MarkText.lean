/-
  Contract of the laws' own helper markText: the same text of a number each time.
-/
import Derived.Test.YtfmfnlpajoikmaoL1Conv
namespace Go.Proofs.Ytfmfnlpajoikmao.L3
open Go.RowKit L1
set_option linter.unusedVariables false

/-- A number's digits. -/
def dgN (k : Nat) : List Int := if h : k = 0 then [] else dgN (k / 10) ++ [48 + ((k % 10 : Nat) : Int)]
termination_by k
decreasing_by omega
theorem dgN_zero : dgN 0 = [] := by rw [dgN]; simp
theorem dgN_succ (k : Nat) (h : k ≠ 0) : dgN k = dgN (k / 10) ++ [48 + ((k % 10 : Nat) : Int)] := by
  conv => lhs; rw [dgN]
  rw [dif_neg h]
theorem dgN_len (k : Nat) : (dgN k).length ≤ k := by
  induction k using Nat.strongRecOn with
  | _ k ih =>
    by_cases h : k = 0
    · rw [h, dgN_zero]; simp
    · rw [dgN_succ k h]
      have := ih (k / 10) (by omega)
      simp only [List.length_append, List.length_cons, List.length_nil]
      omega
theorem str_app (l m : List Int) : strOfNums (l ++ m) = strOfNums l ++ strOfNums m := by
  apply ByteArray.ext
  apply Array.toList_inj.1
  show _ = (ByteArray.append (strOfNums l) (strOfNums m)).data.toList
  simp [strOfNums, ByteArray.append]
theorem str_size (l : List Int) : (strOfNums l).size = l.length := by
  show (strOfNums l).data.size = _
  simp [strOfNums]
/-- The text that marks a number. -/
def mkT (k : Int) : ByteArray := if k ≤ 0 then ⟨#[109, 48]⟩ else strOfNums (109 :: dgN k.toNat)

set_option maxRecDepth 100000 in
set_option maxHeartbeats 1000000 in
theorem markText_any (k : Int) (w : World) (h0 : 0 < k) (h1 : k ≤ 4294967296) :
    Calls Try.prog 41 #[.int .i64 k] w fun e w' => e = .returned (.string (mkT k)) ∧ Below w.heap.size w w' := by
  obtain ⟨n, rfl⟩ : ∃ n : Nat, k = (n : Int) := ⟨k.toNat, by omega⟩
  have hk : ¬ (n : Int) ≤ 0 := by omega
  have HT : Hid (mkT (n : Int) = strOfNums [109] ++ strOfNums (dgN n)) := by
    show mkT (n : Int) = _
    unfold mkT
    rw [if_neg hk, ← str_app]
    simp
  have HL := hide (dgN_len n)
  go_enter Try.func41, Try.ntmps41
  go_wp2
  go_loopw [0, 3] (fun kv o wr => ∃ (j : Nat) (L : List Int), j ≤ n ∧ kv = .int .i64 j ∧ o = .string (strOfNums L) ∧ Hid (dgN j ++ L = dgN n) ∧ Below w.heap.size w wr) (fun kv _ _ => (intOf kv).toNat)
  case atStart => exact ⟨n, [], Nat.le_refl _, rfl, rfl, by show dgN n ++ [] = dgN n; simp, Below.refl _ _⟩
  case round =>
    obtain ⟨j, L, hj, rfl, rfl, HD, hbel⟩ := hrel
    have hLs : L.length ≤ n := by
      have := congrArg List.length HD.out
      have h2 := HL.out
      rw [List.length_append] at this
      omega
    have hsz := str_size L
    have happ := fun d => str_app [d] L
    obtain ⟨A, hA⟩ : ∃ A, A = strOfNums L := ⟨_, rfl⟩
    rw [← hA] at hsz ⊢
    simp only [← hA] at happ
    have hA8 : (A.size : Int) ≤ 4294967296 := by omega
    have HA := hide hA
    have HAPP := hide happ
    clear hsz hA happ
    by_cases hj0 : 0 < (j : Int)
    · have hd : Int.tmod (j : Int) 10 = ((j % 10 : Nat) : Int) := by rw [Int.tmod_eq_emod_of_nonneg (by omega)]; omega
      have hq : Int.tdiv (j : Int) 10 = ((j / 10 : Nat) : Int) := by rw [Int.tdiv_eq_ediv_of_nonneg (by omega)]; omega
      have hst := dgN_succ j (by omega)
      have hd9 : j % 10 < 10 := Nat.mod_lt _ (by omega)
      have hjq : j / 10 < j := by omega
      obtain ⟨d, hde⟩ : ∃ d, d = j % 10 := ⟨_, rfl⟩
      obtain ⟨q, hqe⟩ : ∃ q, q = j / 10 := ⟨_, rfl⟩
      rw [← hde] at hd hst hd9
      rw [← hqe] at hq hst hjq
      have hcv : (convert 65 9 (.slice (some ⟨wr.heap.size, 0, none⟩) 1 1)).run Try.prog (wr.alloc (.cells #[.int .u8 (48 + (d : Int))] 5)) = .ok (.string (strOfNums [48 + (d : Int)])) (wr.alloc (.cells #[.int .u8 (48 + (d : Int))] 5)) :=
        run_convert_bytes_arg _ 65 5 Try.underlying65 Try.underlying5 wr.heap.size 0 1 1 [48 + (d : Int)] rfl (fun i hi => by
          obtain rfl : i = 0 := by omega
          simp) 9 Try.underlying9
      have hw8 : IntKind.u8.wrap (48 + (d : Int)) = 48 + (d : Int) := by
        simp only [IntKind.wrap, IntKind.bits, IntKind.signed]
        simp
        omega
      obtain ⟨D, hD⟩ : ∃ D, D = strOfNums [48 + (d : Int)] := ⟨_, rfl⟩
      have hDs : (D.size : Int) ≤ 8 := by rw [hD, str_size]; simp
      rw [← hD] at hcv
      have R : Hid (D ++ A = strOfNums ((48 + (d : Int)) :: L)) := by show D ++ A = _; rw [hD, ← HAPP.out]; rfl
      have R2 : Hid (dgN q ++ ((48 + (d : Int)) :: L) = dgN n) := by show _ = _; rw [← HD.out, hst]; simp
      have B0 := hide hbel
      clear hde hqe hD hst hbel
      go_wp2
      go_roundw
      case rel => exact ⟨q, (48 + (d : Int)) :: L, by omega, by go_num, by rw [R.out], R2.out, B0.out.alloc B0.out.size _⟩
      case measure => simp [intOf]; omega
    · obtain rfl : j = 0 := by omega
      have e : L = dgN n := by have := HD.out; rw [dgN_zero] at this; simpa using this
      have HE : Hid (mkT (n : Int) = ⟨#[109]⟩ ++ A) := by show mkT (n : Int) = _; rw [HT.out, HA.out, e]; rfl
      have B0 := hide hbel
      clear e hbel
      go_wp2
      go_ret
      exact ⟨by rw [HE.out]; rfl, B0.out⟩
end Go.Proofs.Ytfmfnlpajoikmao.L3
