/-
  Contracts: impl.ChunkSize and spec.ChunkSize: of good samples how many bytes their chunk has, and true; of others 0 and false.
-/
import Derived.Test.YtkjljkfjcngkcaaDoorL2Nums
import Derived.Test.YtkjljkfjcngkcaaDoorL2SpecEnc
import Derived.Test.YtkjljkfjcngkcaaDoorL1Size
namespace Go.Proofs.YtkjljkfjcngkcaaDoor.L1
open Go.RowKit
set_option linter.unusedVariables false

set_option maxRecDepth 100000 in
set_option maxHeartbeats 1000000 in
theorem chunkSize_yes (a : Option Addr) (l : List (Int × Int)) (n cap : Nat) (w : World) (hn : l.length = n) (hs : Sl2 w a l) (hg : GoodS l) (ht : Tab w) :
    Calls Tryd.prog 37 #[.slice a n cap] w fun e w' => e = .returned (.tuple #[.int .i64 ((cat (nums l)).length : Nat), .bool true]) ∧ Below w.heap.size w w' := by
  have h40 : n ≤ 40 := by have := hg.1; omega
  have C1 := hide (chunkNumbers_yes a l n cap w hn hs hg)
  have hlen : (nums l).length = 1 + 2 * n := by rw [nums_len, hn]
  have hok := okL_nums hg
  obtain ⟨ns, hns⟩ : ∃ ns, ns = nums l := ⟨_, rfl⟩
  rw [← hns] at C1 hlen hok ⊢
  obtain ⟨m, hm⟩ : ∃ m, m = 1 + 2 * n := ⟨_, rfl⟩
  rw [← hm] at C1 hlen
  have hm81 : m ≤ 81 := by omega
  have HLEN := hide hlen
  have HOK := hide hok
  have HT := hide ht
  clear hn hs hg ht h40 hns hlen hok hm
  go_enter Tryd.func37, Tryd.ntmps37
  go_wp2_with fail
  refine C1.out.mono ?_
  rintro e w1 ⟨v, rfl, ho, hb1⟩
  obtain ⟨va, vc, rfl, hsl, _⟩ := own_form ho
  have HS := hide hsl
  have B1 := hide hb1
  have T1 := hide (HT.out.below hb1)
  clear ho hsl hb1
  go_wp2
  go_loop [6, 20] (fun z i => ∃ k : Nat, k ≤ m ∧ i = .int .i64 k ∧ z = .int .i64 ((cat (ns.take k)).length : Nat)) (fun _ i => m - (intOf i).toNat)
  case atStart => exact ⟨0, Nat.zero_le _, rfl, rfl⟩
  case round =>
    obtain ⟨k, hk, rfl, rfl⟩ := hrel
    by_cases hlt : k < m
    · obtain ⟨b, off, rfl, hc⟩ := HS.out k (by rw [HLEN.out]; exact hlt)
      have hx := HOK.out k (by rw [HLEN.out]; exact hlt)
      have hct := congrArg List.length (cat_take ns k (by rw [HLEN.out]; exact hlt))
      rw [List.length_append] at hct
      have hl1 : (cat (ns.take k)).length ≤ 486 := by
        have := cat_len (ns.take k)
        have h2 : (ns.take k).length ≤ k := List.length_take_le _ _
        omega
      have hl2 : (vd (zig (ns.getD k 0))).length ≤ 6 := vdf_le 5 _
      have hlc := fun w ht => len_yes (ns.getD k 0) w hx.1 hx.2 ht
      obtain ⟨x, hxe⟩ : ∃ x, x = ns.getD k 0 := ⟨_, rfl⟩
      rw [← hxe] at hc hct hl2 hlc
      obtain ⟨p, hp⟩ : ∃ p, p = (cat (ns.take k)).length := ⟨_, rfl⟩
      rw [← hp] at hct hl1 ⊢
      obtain ⟨q, hq⟩ : ∃ q, q = (vd (zig x)).length := ⟨_, rfl⟩
      rw [← hq] at hct hl2 hlc
      have HCT := hide hct
      have LC := hide hlc
      have hltI : (k : Int) < (m : Int) := by omega
      clear hx hxe hct hlc hp hq
      go_wp2_with fail
      refine (LC.out _ T1.out).mono ?_
      rintro e w2 ⟨rfl, rfl⟩
      go_wp2
      go_round
      case rel => exact ⟨k + 1, by omega, by go_num, by rw [HCT.out]; simp⟩
      case measure => simp [intOf]; omega
    · obtain rfl : m = k := by omega
      have e1 : ns.take m = ns := List.take_of_length_le (by rw [HLEN.out]; omega)
      rw [e1]
      have hltI : ¬ (m : Int) < (m : Int) := by omega
      clear e1
      go_wp2
      go_ret2
      exact ⟨rfl, B1.out⟩
set_option maxRecDepth 100000 in
set_option maxHeartbeats 400000 in
theorem chunkSize_no (a : Option Addr) (l : List (Int × Int)) (n cap : Nat) (w : World) (hn : l.length = n) (hs : Sl2 w a l) (hn2 : n ≤ 1048576) (hg : ¬ GoodS l) :
    Calls Tryd.prog 37 #[.slice a n cap] w fun e w' => e = .returned (.tuple #[.int .i64 0, .bool false]) ∧ Below w.heap.size w w' := by
  have C1 := hide (chunkNumbers_no a l n cap w hn hs hn2 hg)
  clear hn hs hg
  go_enter Tryd.func37, Tryd.ntmps37
  go_wp2_with fail
  refine C1.out.mono ?_
  rintro e w1 ⟨rfl, hb1⟩
  go_wp2
  go_ret2
  exact ⟨rfl, hb1⟩
set_option maxRecDepth 100000 in
set_option maxHeartbeats 400000 in
theorem specSize_yes (a : Option Addr) (l : List (Int × Int)) (n cap : Nat) (w : World) (hn : l.length = n) (hs : Sl2 w a l) (hg : GoodS l) :
    Calls Tryd.prog 38 #[.slice a n cap] w fun e w' => e = .returned (.tuple #[.int .i64 ((cat (nums l)).length : Nat), .bool true]) ∧ Below w.heap.size w w' := by
  have C1 := hide (specGood_any a l n cap w hn hs (by have := hg.1; omega) true (by simp [hg]))
  have c2 := fun w hs => l2Encode_any a l n cap w hn hs hg
  have hz : (strOfNums (cat (nums l))).size = (cat (nums l)).length := strOfNums_size _
  rw [← hz]
  obtain ⟨s, hse⟩ : ∃ s, s = strOfNums (cat (nums l)) := ⟨_, rfl⟩
  rw [← hse]
  simp only [← hse] at c2
  have C2 := hide c2
  have HS := hide hs
  clear hn hs hg c2 hz hse
  go_enter Tryd.func38, Tryd.ntmps38
  go_wp2_with fail
  refine C1.out.mono ?_
  rintro e w1 ⟨rfl, hb1⟩
  have S1 := hide (HS.out.below hb1)
  have B1 := hide hb1
  clear hb1
  go_wp2_with fail
  refine (C2.out _ S1.out).mono ?_
  rintro e w2 ⟨rfl, hb2⟩
  have B2 := hide (B1.out.trans (hb2.mono B1.out.size))
  clear hb2
  go_wp2
  go_ret2
  exact ⟨rfl, B2.out⟩
set_option maxRecDepth 100000 in
set_option maxHeartbeats 400000 in
theorem specSize_no (a : Option Addr) (l : List (Int × Int)) (n cap : Nat) (w : World) (hn : l.length = n) (hs : Sl2 w a l) (hn2 : n ≤ 1048576) (hg : ¬ GoodS l) :
    Calls Tryd.prog 38 #[.slice a n cap] w fun e w' => e = .returned (.tuple #[.int .i64 0, .bool false]) ∧ Below w.heap.size w w' := by
  have C1 := hide (specGood_any a l n cap w hn hs hn2 false (by simp [hg]))
  clear hn hs hg
  go_enter Tryd.func38, Tryd.ntmps38
  go_wp2_with fail
  refine C1.out.mono ?_
  rintro e w1 ⟨rfl, hb1⟩
  go_wp2
  go_ret2
  exact ⟨rfl, hb1⟩
end Go.Proofs.YtkjljkfjcngkcaaDoor.L1
