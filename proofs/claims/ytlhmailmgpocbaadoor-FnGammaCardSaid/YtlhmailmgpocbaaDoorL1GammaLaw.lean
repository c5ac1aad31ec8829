/-
  What is put in bits is read from their front, whatever stands behind: impl.ReadGamma at a number's bits and any text of at most 100 bytes behind them.
-/
import Derived.Test.YtlhmailmgpocbaaDoorL1GammaMath
import Derived.Test.YtlhmailmgpocbaaDoorL1SpecGamma
import Derived.Test.YtlhmailmgpocbaaDoorL1Gamma
namespace Go.Proofs.YtlhmailmgpocbaaDoor.L1
open Go.RowKit
set_option linter.unusedVariables false

theorem bts_app (A B : ByteArray) : bts (A ++ B) 0 = bts A 0 ++ bts B 0 := by
  simp [bts, ByteArray.data_append]
theorem bts_nums (l : List Int) (h : ∀ x ∈ l, 0 ≤ x ∧ x < 256) : bts (strOfNums l) 0 = l := by
  simp only [bts, strOfNums, List.drop_zero, List.map_map]
  have : ∀ l : List Int, (∀ x ∈ l, 0 ≤ x ∧ x < 256) → l.map ((fun c : UInt8 => (c.toNat : Int)) ∘ fun n : Int => UInt8.ofNat n.toNat) = l := by
    intro l
    induction l with
    | nil => intro _; rfl
    | cons x l ih =>
      intro hl
      have hx := hl x (by simp)
      rw [List.map_cons, ih (fun y hy => hl y (by simp [hy]))]
      congr 1
      simp only [Function.comp, UInt8.toNat_ofNat']
      omega
  exact this l h
theorem gbits_bytes (n : Int) (h1 : 1 ≤ n) (h2 : n ≤ 1000000) : ∀ x ∈ gbits n, 0 ≤ x ∧ x < 256 := by
  intro x hx
  have hpw : n < pw (20 + 1) := by simp [pw]; omega
  have hg := (good_bl 20 n (by omega) hpw).1
  simp only [gbits, List.mem_append, List.mem_replicate] at hx
  rcases hx with ⟨_, rfl⟩ | hx
  · omega
  · simp only [good, List.all_eq_true] at hg
    have := hg x hx
    simp at this
    omega
theorem read_front (n : Int) (t : ByteArray) (w : World) (h1 : 1 ≤ n) (h2 : n ≤ 1000000) (ht : t.size ≤ 100) :
    Calls Tryd.prog 27 #[.string (strOfNums (gbits n) ++ t)] w fun e w' => e = .returned (.tuple #[.int .i64 n, .int .i64 ((strOfNums (gbits n)).size : Nat), .bool true]) ∧ w = w' := by
  have hl := gbits_len n
  have hb := bl_len 20 n
  have hsz : (strOfNums (gbits n) ++ t).size ≤ 1048576 := by rw [ByteArray.size_append, strOfNums_size]; omega
  have h := readGamma_any (strOfNums (gbits n) ++ t) w hsz
  rw [bts_app, bts_nums _ (gbits_bytes n h1 h2), rg_front n _ h1 h2 (by rw [List.length_append, bts_len]; omega)] at h
  rw [strOfNums_size]
  exact h
end Go.Proofs.YtlhmailmgpocbaaDoor.L1
