/-
  The walk of the law FnExactPutAll: it returns true at every list of ints, where the table of worths lies in memory; memory that was there stays as it was.
-/
import Derived.Test.YtphkbnlappbjeasDoorL1SpecPutAll
import Derived.Test.YtphkbnlappbjeasDoorL1PutAll
import Derived.Test.YtphkbnlappbjeasDoorL1Lists
namespace Go.Proofs.YtphkbnlappbjeasDoor.fnExactPutAll
open Go.RowKit L1
set_option linter.unusedVariables false

set_option maxRecDepth 100000 in
set_option maxHeartbeats 1000000 in
theorem walk (a0 : Option Addr) (len0 cap0 : Nat) (z0 : List Int) (w : World) (w0 : IsRow .i64 w a0 len0 cap0 z0) (ht : Tab w) :
    Calls Tryd.prog 4 #[.slice a0 len0 cap0] w fun e w' => e = .returned (.bool true) ∧ Below w.heap.size w w' := by
  obtain ⟨hs, hn, hm⟩ := sl_of_row w0
  obtain ⟨xs, hxs⟩ : ∃ xs, xs = z0.take len0 := ⟨_, rfl⟩
  rw [← hxs] at hs hn
  have HS := hide hs
  have HN := hide hn
  have HT := hide ht
  clear w0 hxs hs hn ht
  unfold maxLen at hm
  by_cases hsz : 1048576 < (len0 : Int)
  · go_enter Tryd.func4, Tryd.ntmps4
    go_wp2
    go_ret
    exact ⟨rfl, Below.refl _ _⟩
  · have hl : len0 ≤ 1048576 := by omega
    by_cases hok : len0 ≤ 60 ∧ OkL xs
    · have HK := hide hok
      clear hok
      go_enter Tryd.func4, Tryd.ntmps4
      go_wp2_with fail
      refine (toIntS_any a0 xs len0 cap0 _ HN.out HS.out hl).mono ?_
      rintro e w1 ⟨rfl, ho1, hb1⟩
      have S1 := hide (sl_of_own ho1)
      clear ho1
      go_wp2_with fail
      refine (specPutAll_yes _ xs len0 _ _ HN.out S1.out HK.out.1 HK.out.2).mono ?_
      rintro e w2 ⟨rfl, hb2⟩
      have B2 := hide (hb1.trans (hb2.mono hb1.size))
      clear S1 hb1 hb2
      go_wp2_with fail
      refine (toIntS_any a0 xs len0 cap0 _ HN.out (HS.out.below B2.out) hl).mono ?_
      rintro e w3 ⟨rfl, ho3, hb3⟩
      have S3 := hide (sl_of_own ho3)
      have B3 := hide (B2.out.trans (hb3.mono B2.out.size))
      clear ho3 hb3
      go_wp2_with fail
      refine (putAll_yes _ xs len0 _ _ HN.out S3.out HK.out.1 HK.out.2 (HT.out.below B3.out)).mono ?_
      rintro e w4 ⟨rfl, hb4⟩
      have S4 := hide (S3.out.below hb4)
      have B4 := hide (B3.out.trans (hb4.mono B3.out.size))
      clear S3 hb4
      go_wp2_with fail
      refine (toIntS_any a0 xs len0 cap0 _ HN.out (HS.out.below B4.out) hl).mono ?_
      rintro e w5 ⟨rfl, ho5, hb5⟩
      have S5 := hide (sl_of_own ho5)
      have T5 := hide (S4.out.below hb5)
      have B5 := hide (B4.out.trans (hb5.mono B4.out.size))
      clear ho5 hb5
      go_wp2_with fail
      refine (eqIntS_same _ _ xs len0 _ _ _ HN.out T5.out S5.out hl).mono ?_
      rintro e w6 ⟨rfl, hb6⟩
      have B6 := hide (B5.out.trans (hb6.mono B5.out.size))
      clear hb6
      go_wp2
      go_ret
      exact ⟨rfl, B6.out⟩
    · have HK := hide hok
      clear hok
      have hno : ∀ (a : Option Addr) (c : Nat) (wx : World), Sl wx a xs → Tab wx → Calls Tryd.prog 12 #[.slice a len0 c] wx fun e w' => e = .returned (.tuple #[.string ⟨#[]⟩, .bool false]) ∧ Below wx.heap.size wx w' := fun a c wx h1 h2 => by
        by_cases h60 : 60 < (len0 : Int)
        · refine (putAll_long a len0 c wx h60 hl).mono ?_
          rintro e w' ⟨rfl, rfl⟩
          exact ⟨rfl, Below.refl _ _⟩
        · exact putAll_no a xs len0 c wx HN.out h1 (by omega) (fun h => HK.out ⟨by omega, h⟩) h2
      have HNO := hide hno
      clear hno
      go_enter Tryd.func4, Tryd.ntmps4
      go_wp2_with fail
      refine (toIntS_any a0 xs len0 cap0 _ HN.out HS.out hl).mono ?_
      rintro e w1 ⟨rfl, ho1, hb1⟩
      have S1 := hide (sl_of_own ho1)
      clear ho1
      go_wp2_with fail
      refine (specPutAll_no _ xs len0 _ _ HN.out S1.out hl HK.out).mono ?_
      rintro e w2 ⟨rfl, rfl⟩
      have B2 := hide hb1
      clear S1 hb1
      go_wp2_with fail
      refine (toIntS_any a0 xs len0 cap0 _ HN.out (HS.out.below B2.out) hl).mono ?_
      rintro e w3 ⟨rfl, ho3, hb3⟩
      have S3 := hide (sl_of_own ho3)
      have B3 := hide (B2.out.trans (hb3.mono B2.out.size))
      clear ho3 hb3
      go_wp2_with fail
      refine (HNO.out _ _ _ S3.out (HT.out.below B3.out)).mono ?_
      rintro e w4 ⟨rfl, hb4⟩
      have S4 := hide (S3.out.below hb4)
      have B4 := hide (B3.out.trans (hb4.mono B3.out.size))
      clear S3 hb4
      go_wp2_with fail
      refine (toIntS_any a0 xs len0 cap0 _ HN.out (HS.out.below B4.out) hl).mono ?_
      rintro e w5 ⟨rfl, ho5, hb5⟩
      have S5 := hide (sl_of_own ho5)
      have T5 := hide (S4.out.below hb5)
      have B5 := hide (B4.out.trans (hb5.mono B4.out.size))
      clear ho5 hb5
      go_wp2_with fail
      refine (eqIntS_same _ _ xs len0 _ _ _ HN.out T5.out S5.out hl).mono ?_
      rintro e w6 ⟨rfl, hb6⟩
      have B6 := hide (B5.out.trans (hb6.mono B5.out.size))
      clear hb6
      go_wp2
      go_ret
      exact ⟨rfl, B6.out⟩
end Go.Proofs.YtphkbnlappbjeasDoor.fnExactPutAll
