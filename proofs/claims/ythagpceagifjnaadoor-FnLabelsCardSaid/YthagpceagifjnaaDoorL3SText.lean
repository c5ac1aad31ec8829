/-
  Contracts: spec.l3Text, spec.LabelsText: the text of good labels, and true; else no text and false.
-/
import Derived.Test.YthagpceagifjnaaDoorL3SpecGood
import Derived.Test.YthagpceagifjnaaDoorL3TextMath
namespace Go.Proofs.YthagpceagifjnaaDoor.L3
open Go.RowKit L1
set_option linter.unusedVariables false

open Classical in
noncomputable def txRes (l : List Lb) : Option ByteArray := if GoodL l then some (ltext l) else none
theorem good_sizes {l : List Lb} (hg : GoodL l) : ∀ j, j < l.length → (l.getD j eL).1.size ≤ 8 ∧ (l.getD j eL).2.size ≤ 8 := fun j hj => ⟨(hg.2 j hj).1.1.1.2, (hg.2 j hj).1.2.1.2⟩

set_option maxRecDepth 100000 in
set_option maxHeartbeats 1000000 in
theorem l3Text_any (a : Option Addr) (l : List Lb) (n cap : Nat) (w : World) (hn : l.length = n) (hs : SlL w a l) (hg : GoodL l) :
    Calls Tryd.prog 116 #[.slice a n cap] w fun e w' => e = .returned (.string (ltext l)) ∧ Below w.heap.size w w' := by
  have h6 : n ≤ 6 := by have := hg.1; omega
  have HS := hide hs
  have HN := hide hn
  have HZ := hide (good_sizes hg)
  have HX := hide (fun k => ltx_size hg k)
  have HT : Hid (ltext l = ltx l n ++ ⟨#[125]⟩) := by show ltext l = _; unfold ltext; rw [hn]
  clear hs hn hg
  go_enter Tryd.func116, Tryd.ntmps116
  go_wp2
  go_loopw [3, 8] (fun t i wr => ∃ k : Nat, k ≤ n ∧ i = .int .i64 k ∧ t = .string (ltx l k) ∧ Below w.heap.size w wr) (fun _ i _ => n - (intOf i).toNat)
  case atStart => exact ⟨0, Nat.zero_le _, rfl, rfl, Below.refl _ _⟩
  case round =>
    obtain ⟨k, hk, rfl, rfl, hbel⟩ := hrel
    have hA := HX.out k (by rw [HN.out]; exact hk)
    by_cases hlt : k < n
    · obtain ⟨b, off, rfl, hc0, hd0⟩ := HS.out k (by rw [HN.out]; exact hlt)
      have hc := (hbel.cell (p := ⟨b, off + k * 2, none⟩) (blk_lt hc0)).trans hc0
      have hd := (hbel.cell (p := ⟨b, off + k * 2 + 1, none⟩) (blk_lt hd0)).trans hd0
      have hltI : (k : Int) < (n : Int) := by omega
      have hz := HZ.out k (by rw [HN.out]; exact hlt)
      have hst : ltx l (k + 1) = (if 0 < k then ltx l k ++ ⟨#[44]⟩ else ltx l k) ++ lw (l.getD k eL) := rfl
      unfold lw at hst
      obtain ⟨x, hx⟩ : ∃ x, x = (l.getD k eL).1 := ⟨_, rfl⟩
      obtain ⟨y, hy⟩ : ∃ y, y = (l.getD k eL).2 := ⟨_, rfl⟩
      rw [← hx] at hc hz hst
      rw [← hy] at hd hz hst
      obtain ⟨A, hAe⟩ : ∃ A, A = ltx l k := ⟨_, rfl⟩
      rw [← hAe] at hA hst ⊢
      have hx8 : (x.size : Int) ≤ 8 := by omega
      have hy8 : (y.size : Int) ≤ 8 := by omega
      have hA8 : (A.size : Int) ≤ 200 := by omega
      have B0 := hide hbel
      have HST := hide hst
      clear hc0 hd0 hx hy hAe hbel hst hz hA
      by_cases h0 : 0 < k
      · have h0I : (0 : Int) < (k : Int) := by omega
        have hst2 := HST.out
        rw [if_pos h0] at hst2
        have HST2 := hide hst2
        clear hst2 h0
        go_wp2
        go_roundw
        case rel => exact ⟨k + 1, by omega, by go_num, by rw [HST2.out], B0.out.alloc B0.out.size _⟩
        case measure => simp [intOf]; omega
      · have h0I : ¬ (0 : Int) < (k : Int) := by omega
        have hst2 := HST.out
        rw [if_neg h0] at hst2
        have HST2 := hide hst2
        clear hst2 h0
        go_wp2
        go_roundw
        case rel => exact ⟨k + 1, by omega, by go_num, by rw [HST2.out], B0.out.alloc B0.out.size _⟩
        case measure => simp [intOf]; omega
    · obtain rfl : k = n := by omega
      have hltI : ¬ (k : Int) < (k : Int) := by omega
      obtain ⟨A, hAe⟩ : ∃ A, A = ltx l k := ⟨_, rfl⟩
      rw [← hAe] at hA HT ⊢
      have hA8 : (A.size : Int) ≤ 200 := by omega
      clear hAe hA
      go_wp2
      go_ret
      exact ⟨by rw [HT.out]; rfl, hbel⟩

open Classical in
set_option maxRecDepth 100000 in
set_option maxHeartbeats 1000000 in
theorem specText_any (a : Option Addr) (l : List Lb) (n cap : Nat) (w : World) (hn : l.length = n) (hs : SlL w a l) (hn2 : n ≤ 1048576) (hst : ∀ j, j < l.length → (l.getD j eL).1.size ≤ 9223372036854775807 ∧ (l.getD j eL).2.size ≤ 9223372036854775807) (r : Option ByteArray) (hr : r = txRes l) :
    Calls Tryd.prog 61 #[.slice a n cap] w fun e w' => e = .returned (.tuple #[.string (r.getD ByteArray.empty), .bool r.isSome]) ∧ Below w.heap.size w w' := by
  by_cases hg : GoodL l
  · have C1 := hide (specGoodLabels_any a l n cap w hn hs hn2 hst true (by simp [hg]))
    have C2 := hide (fun w hs => l3Text_any a l n cap w hn hs hg)
    have HS := hide hs
    have hr' : r = some (ltext l) := by rw [hr]; unfold txRes; rw [if_pos hg]
    have HR := hide hr'
    clear hr hr' hg hs hn hst
    go_enter Tryd.func61, Tryd.ntmps61
    go_wp2_with fail
    refine C1.out.mono ?_
    rintro e w1 ⟨rfl, hb1⟩
    have B1 := hide hb1
    clear hb1
    go_wp2_with fail
    refine (C2.out _ (HS.out.below B1.out)).mono ?_
    rintro e w2 ⟨rfl, hb2⟩
    have B2 := hide (B1.out.trans (hb2.mono B1.out.size))
    clear hb2
    go_wp2
    go_ret2
    exact ⟨by rw [HR.out]; rfl, B2.out⟩
  · have C1 := hide (specGoodLabels_any a l n cap w hn hs hn2 hst false (by simp [hg]))
    have hr' : r = none := by rw [hr]; unfold txRes; rw [if_neg hg]
    have HR := hide hr'
    clear hr hr' hg hs hn hst
    go_enter Tryd.func61, Tryd.ntmps61
    go_wp2_with fail
    refine C1.out.mono ?_
    rintro e w1 ⟨rfl, hb1⟩
    go_wp2
    go_ret2
    exact ⟨by rw [HR.out]; rfl, hb1⟩

end Go.Proofs.YthagpceagifjnaaDoor.L3
