/-
  Contract: spec.l3Text: the text of good labels.
-/
import Derived.Test.YtohcjafklfemfamL3SpecGood
import Derived.Test.YtohcjafklfemfamL3TextMath
namespace Go.Proofs.Ytohcjafklfemfam.L3
open Go.RowKit L1
set_option linter.unusedVariables false

open Classical in
noncomputable def txRes (l : List Lb) : Option ByteArray := if GoodL l then some (ltext l) else none
theorem good_sizes {l : List Lb} (hg : GoodL l) : ∀ j, j < l.length → (l.getD j eL).1.size ≤ 8 ∧ (l.getD j eL).2.size ≤ 8 := fun j hj => ⟨(hg.2 j hj).1.1.1.2, (hg.2 j hj).1.2.1.2⟩

set_option maxRecDepth 100000 in
set_option maxHeartbeats 1000000 in
theorem l3Text_any (a : Option Addr) (l : List Lb) (n cap : Nat) (w : World) (hn : l.length = n) (hs : SlL w a l) (hg : GoodL l) :
    Calls Try.prog 36 #[.slice a n cap] w fun e w' => e = .returned (.string (ltext l)) ∧ Below w.heap.size w w' := by
  have h6 : n ≤ 6 := by have := hg.1; omega
  have HS := hide hs
  have HN := hide hn
  have HZ := hide (good_sizes hg)
  have HX := hide (fun k => ltx_size hg k)
  have HT : Hid (ltext l = ltx l n ++ ⟨#[125]⟩) := by show ltext l = _; unfold ltext; rw [hn]
  clear hs hn hg
  go_enter Try.func36, Try.ntmps36
  go_wp2
  go_loopw [3, 8] (fun t i wr => ∃ k : Nat, k ≤ n ∧ i = .int .i64 k ∧ t = .string (ltx l k) ∧ Below w.heap.size w wr) (fun _ i _ => n - (intOf i).toNat)
  case atStart => exact ⟨0, Nat.zero_le _, rfl, rfl, Below.refl _ _⟩
  case round =>
    obtain ⟨k, hk, rfl, rfl, hbel⟩ := hrel
    have hA := HX.out k (by rw [HN.out]; exact hk)
    by_cases hlt : k < n
    · obtain ⟨b, off, rfl, hc0, hd0⟩ := HS.out k (by rw [HN.out]; exact hlt)
      have hc := (hbel.cell (p := ⟨b, off + k * 2, none⟩) (blk_lt hc0)).trans hc0
      have hd := (hbel.cell (p := ⟨b, off + k * 2 + 1, none⟩) (blk_lt hd0)).trans hd0
      have hltI : (k : Int) < (n : Int) := by omega
      have hz := HZ.out k (by rw [HN.out]; exact hlt)
      have hst : ltx l (k + 1) = (if 0 < k then ltx l k ++ ⟨#[44]⟩ else ltx l k) ++ lw (l.getD k eL) := rfl
      unfold lw at hst
      obtain ⟨x, hx⟩ : ∃ x, x = (l.getD k eL).1 := ⟨_, rfl⟩
      obtain ⟨y, hy⟩ : ∃ y, y = (l.getD k eL).2 := ⟨_, rfl⟩
      rw [← hx] at hc hz hst
      rw [← hy] at hd hz hst
      obtain ⟨A, hAe⟩ : ∃ A, A = ltx l k := ⟨_, rfl⟩
      rw [← hAe] at hA hst ⊢
      have hx8 : (x.size : Int) ≤ 8 := by omega
      have hy8 : (y.size : Int) ≤ 8 := by omega
      have hA8 : (A.size : Int) ≤ 200 := by omega
      have B0 := hide hbel
      have HST := hide hst
      clear hc0 hd0 hx hy hAe hbel hst hz hA
      by_cases h0 : 0 < k
      · have h0I : (0 : Int) < (k : Int) := by omega
        have hst2 := HST.out
        rw [if_pos h0] at hst2
        have HST2 := hide hst2
        clear hst2 h0
        go_wp2
        go_roundw
        case rel => exact ⟨k + 1, by omega, by go_num, by rw [HST2.out], B0.out.alloc B0.out.size _⟩
        case measure => simp [intOf]; omega
      · have h0I : ¬ (0 : Int) < (k : Int) := by omega
        have hst2 := HST.out
        rw [if_neg h0] at hst2
        have HST2 := hide hst2
        clear hst2 h0
        go_wp2
        go_roundw
        case rel => exact ⟨k + 1, by omega, by go_num, by rw [HST2.out], B0.out.alloc B0.out.size _⟩
        case measure => simp [intOf]; omega
    · obtain rfl : k = n := by omega
      have hltI : ¬ (k : Int) < (k : Int) := by omega
      obtain ⟨A, hAe⟩ : ∃ A, A = ltx l k := ⟨_, rfl⟩
      rw [← hAe] at hA HT ⊢
      have hA8 : (A.size : Int) ≤ 200 := by omega
      clear hAe hA
      go_wp2
      go_ret
      exact ⟨by rw [HT.out]; rfl, hbel⟩

end Go.Proofs.Ytohcjafklfemfam.L3
