/-
  Contracts: impl.keepLabels, impl.goodNames, impl.KeepLabels: the labels whose Name is among names, in new memory.
-/
import Derived.Test.YtohcjafklfemfalL14KeepM
import Derived.Test.YtohcjafklfemfalStrIdx
import Derived.Test.YtohcjafklfemfalL3Good
import Derived.Maps.AppendAt
namespace Go.Proofs.Ytohcjafklfemfal.L14K
open Go.RowKit L1 L3
set_option linter.unusedVariables false

set_option maxRecDepth 100000 in
set_option maxHeartbeats 2000000 in
theorem keepLabels_any (a : Option Addr) (l : List Lb) (n cap : Nat) (a2 : Option Addr) (ns : List ByteArray) (nn ncap : Nat) (w : World) (hn : l.length = n) (hs : SlL w a l) (hn2 : n ≤ 1048576) (hnn : ns.length = nn) (hs2 : Str.SlS w a2 ns) (hnn2 : nn ≤ 1048576) :
    Calls Try.prog 70 #[.slice a n cap, .slice a2 nn ncap] w fun e w' => ∃ v, e = .returned v ∧ w'.ownsRow w.heap.size 104 2 v (keepL l ns).length (flatL (keepL l ns)) ∧ Below w.heap.size w w' := by
  have HS := hide hs
  have HN := hide hn
  have HS2 := hide hs2
  have HNN := hide hnn
  obtain ⟨i1, hi1, hy0, hy1, hy2⟩ := info_parts info_lab
  clear hs hn hs2 hnn
  go_enter Try.func70, Try.ntmps70
  go_wp2
  go_loopw [5, 10] (fun ot i wr => ∃ k c : Nat, k ≤ n ∧ c ≤ k ∧ i = .int .i64 k ∧ wr.ownsRow w.heap.size 104 2 ot c (flatL (keepL (l.take k) ns)) ∧ Below w.heap.size w wr) (fun _ i _ => n - (intOf i).toNat)
  case atStart => exact ⟨0, 0, Nat.zero_le _, Nat.le_refl _, rfl, World.ownsRow_nil _ _ _ _, Below.refl _ _⟩
  case round =>
    obtain ⟨k, c, hk, hck, rfl, hown, hbel⟩ := hrel
    obtain ⟨oa, ocap, rfl⟩ := own_shape14 hown
    by_cases hlt : k < n
    · have hkl : k < l.length := by rw [HN.out]; exact hlt
      obtain ⟨b, off, rfl, hc0, hd0⟩ := HS.out k hkl
      have hc := (hbel.cell (p := ⟨b, off + k * 2, none⟩) (blk_lt hc0)).trans hc0
      have hd := (hbel.cell (p := ⟨b, off + k * 2 + 1, none⟩) (blk_lt hd0)).trans hd0
      have hltI : (k : Int) < (n : Int) := by omega
      obtain ⟨htin, htout⟩ := keepL_take l ns k hkl
      obtain ⟨x, hx⟩ : ∃ x, x = (l.getD k eL).1 := ⟨_, rfl⟩
      obtain ⟨y, hy⟩ : ∃ y, y = (l.getD k eL).2 := ⟨_, rfl⟩
      have hxy : l.getD k eL = (x, y) := by rw [hx, hy]
      rw [← hx] at hc
      rw [← hy] at hd
      rw [hxy] at htin htout
      simp only at htin htout
      have HROW := hide hown
      have hsz := hbel.size
      have B0 := hide hbel
      clear hc0 hd0 hx hy hxy hown hbel hkl
      by_cases hin : x ∈ ns
      · have CC := hide (fun w hs => Str.containsS_any a2 ns nn ncap x w HNN.out hs hnn2 true (by simp [hin]))
        have HIN := hide (htin hin)
        clear htin htout hin
        go_wp2_with fail
        refine (CC.out _ (HS2.out.below (B0.out.alloc B0.out.size _))).mono ?_
        rintro e w1 ⟨rfl, rfl⟩
        go_wp2_with (first
          | (at_builtin; refine wpList_append_own _ rfl _ _ 52 rfl w.heap.size 104 i1 (.agg #[.string ByteArray.empty, .string ByteArray.empty]) 2 32 Try.underlying52 hi1 hy0 hy1 hy2 rfl (by decide) _ _ _ rfl ((HROW.out.alloc _).alloc _) ⟨wr.heap.size + 1, 0, none⟩ 1 1 [.string x, .string y] rfl rfl (cell_two_new2 _ _ _ _ _) (by intro u hu; simp at hu; rcases hu with rfl | rfl <;> rfl) (by unfold maxLen; omega) (by omega) (by simp; omega) ?_)
          | go_in)
        intro v6 w6 hown6 hgrow6 _
        have hb6 := B0.out.trans (((Below.refl _ _).alloc hsz _).alloc (by simp; omega) _ |>.grown hgrow6 (by simp; omega) (fun g hg => (HROW.out.lt g hg).1))
        have hown8 : w6.ownsRow w.heap.size 104 2 v6 (c + 1) (flatL (keepL (l.take (k + 1)) ns)) := by
          rw [HIN.out, flatL_snoc14]; exact hown6
        have hown7 := hide hown8
        clear hown6 hgrow6 hown8
        go_wp2
        go_roundw
        case rel => exact ⟨k + 1, c + 1, by omega, by omega, by go_num, hown7.out, hb6⟩
        case measure => simp [intOf]; omega
      · have CC := hide (fun w hs => Str.containsS_any a2 ns nn ncap x w HNN.out hs hnn2 false (by simp [hin]))
        have HOUT := hide (htout hin)
        clear htin htout hin
        go_wp2_with fail
        refine (CC.out _ (HS2.out.below (B0.out.alloc B0.out.size _))).mono ?_
        rintro e w1 ⟨rfl, rfl⟩
        go_wp2
        go_roundw
        case rel => exact ⟨k + 1, c, by omega, by omega, by go_num, by rw [HOUT.out]; exact HROW.out.alloc _, B0.out.alloc B0.out.size _⟩
        case measure => simp [intOf]; omega
    · obtain rfl : k = n := by omega
      have hltI : ¬ (k : Int) < (k : Int) := by omega
      have e1 : l.take k = l := List.take_of_length_le (by rw [HN.out]; exact Nat.le_refl _)
      rw [e1] at hown
      have hl : (keepL l ns).length = c := by have := hown.1; rw [flatL_len] at this; omega
      have HROW := hide hown
      have HL := hide hl
      have B0 := hide hbel
      clear e1 hown hl hbel
      go_wp2
      go_ret
      exact ⟨_, rfl, by rw [HL.out]; exact HROW.out, B0.out⟩
set_option maxRecDepth 100000 in
set_option maxHeartbeats 400000 in
theorem goodNames_any (a2 : Option Addr) (nn ncap : Nat) (w : World) (bb : Bool) (hbb : bb = true ↔ nn ≤ 6) :
    Calls Try.prog 69 #[.slice a2 nn ncap] w fun e w' => e = .returned (.bool bb) ∧ w = w' := by
  have hb : decide ((nn : Int) ≤ 6) = bb := by
    rw [Bool.eq_iff_iff, hbb, decide_eq_true_iff]; omega
  clear hbb
  go_enter Try.func69, Try.ntmps69
  go_wp2
  go_ret
  exact ⟨rfl, rfl⟩
open Classical in
set_option maxRecDepth 100000 in
set_option maxHeartbeats 1000000 in
theorem implKeepLabels_any (a : Option Addr) (l : List Lb) (n cap : Nat) (a2 : Option Addr) (ns : List ByteArray) (nn ncap : Nat) (w : World) (hn : l.length = n) (hs : SlL w a l) (hn2 : n ≤ 1048576) (hnn : ns.length = nn) (hs2 : Str.SlS w a2 ns) (hnn2 : nn ≤ 1048576) (hst : ∀ j, j < l.length → (l.getD j eL).1.size ≤ 9223372036854775807 ∧ (l.getD j eL).2.size ≤ 9223372036854775807) (r : Option (List Lb)) (hr : r = keepRes l ns) :
    Calls Try.prog 31 #[.slice a n cap, .slice a2 nn ncap] w fun e w' => RetLb w r e w' := by
  have HS := hide hs
  have HS2 := hide hs2
  by_cases hg : GoodL l
  · have CG := hide (goodLabels_any a l n cap w hn hs hn2 hst true (by simp [hg]))
    by_cases h6 : nn ≤ 6
    · have hr' : r = some (keepL l ns) := by rw [hr]; unfold keepRes; rw [if_pos ⟨hg, by omega⟩]
      have HR := hide hr'
      have h6I : (nn : Int) ≤ 6 := by omega
      have h6J : ¬ (6 : Int) < (nn : Int) := by omega
      have CN := hide (fun w => goodNames_any a2 nn ncap w true (by simp [h6]))
      have CK := hide (fun w hs hs2 => keepLabels_any a l n cap a2 ns nn ncap w hn hs hn2 hnn hs2 hnn2)
      clear hr hr' hg hs hn hst hs2 hnn h6
      go_enter Try.func31, Try.ntmps31
      go_wp2_with fail
      refine CG.out.mono ?_
      rintro e w1 ⟨rfl, hb1⟩
      have B1 := hide hb1
      clear hb1
      go_wp2_with fail
      refine (CN.out _).mono ?_
      rintro e w2 ⟨rfl, rfl⟩
      go_wp2_with fail
      refine (CK.out _ (HS.out.below B1.out) (HS2.out.below B1.out)).mono ?_
      rintro e w2 ⟨v, rfl, ho, hb⟩
      have HO := hide (own_base14 ho B1.out.size)
      have B2 := hide (B1.out.trans (hb.mono B1.out.size))
      clear ho hb
      go_wp2
      go_ret2
      exact ⟨v, by rw [HR.out]; rfl, by rw [HR.out]; exact HO.out, B2.out⟩
    · have hr' : r = none := by rw [hr]; unfold keepRes; rw [if_neg (fun h => h6 (by omega))]
      have HR := hide hr'
      have h6J : (6 : Int) < (nn : Int) := by omega
      have CN := hide (fun w => goodNames_any a2 nn ncap w false (by simp [h6]))
      clear hr hr' hg hs hn hst hs2 hnn h6
      go_enter Try.func31, Try.ntmps31
      go_wp2_with fail
      refine CG.out.mono ?_
      rintro e w1 ⟨rfl, hb1⟩
      have B1 := hide hb1
      clear hb1
      go_wp2_with fail
      refine (CN.out _).mono ?_
      rintro e w2 ⟨rfl, rfl⟩
      go_wp2
      go_ret2
      exact ⟨_, by rw [HR.out]; rfl, by rw [HR.out]; exact World.ownsRow_nil _ _ _ _, B1.out⟩
  · have CG := hide (goodLabels_any a l n cap w hn hs hn2 hst false (by simp [hg]))
    have hr' : r = none := by rw [hr]; unfold keepRes; rw [if_neg (fun h => hg h.1)]
    have HR := hide hr'
    clear hr hr' hg hs hn hst hs2 hnn
    go_enter Try.func31, Try.ntmps31
    go_wp2_with fail
    refine CG.out.mono ?_
    rintro e w1 ⟨rfl, hb1⟩
    have B1 := hide hb1
    clear hb1
    go_wp2
    go_ret2
    exact ⟨_, by rw [HR.out]; rfl, by rw [HR.out]; exact World.ownsRow_nil _ _ _ _, B1.out⟩
end Go.Proofs.Ytohcjafklfemfal.L14K
