/-
  Contracts: spec.l14Keep, spec.KeepLabels: the labels whose Name is among names, in new memory.
-/
import Derived.Test.YtohcjafklfemfalL14KeepM
import Derived.Test.YtohcjafklfemfalStrIdx
import Derived.Test.YtohcjafklfemfalL3SpecGood
import Derived.Maps.AppendAt
namespace Go.Proofs.Ytohcjafklfemfal.L14K
open Go.RowKit L1 L3
set_option linter.unusedVariables false

set_option maxRecDepth 100000 in
set_option maxHeartbeats 4000000 in
theorem sKeep_any (a : Option Addr) (l : List Lb) (n cap : Nat) (a2 : Option Addr) (ns : List ByteArray) (nn ncap : Nat) (w : World) (hn : l.length = n) (hs : SlL w a l) (hn2 : n ≤ 1048576) (hnn : ns.length = nn) (hs2 : Str.SlS w a2 ns) (hnn2 : nn ≤ 1048576) :
    Calls Try.prog 67 #[.slice a n cap, .slice a2 nn ncap] w fun e w' => ∃ v, e = .returned v ∧ w'.ownsRow w.heap.size 104 2 v (keepL l ns).length (flatL (keepL l ns)) ∧ Below w.heap.size w w' := by
  have HS := hide hs
  have HN := hide hn
  have HS2 := hide hs2
  have HNN := hide hnn
  obtain ⟨i1, hi1, hy0, hy1, hy2⟩ := info_parts info_lab
  clear hs hn hs2 hnn
  go_enter Try.func67, Try.ntmps67
  go_wp2
  go_loopw [5, 13] (fun ot i wr => ∃ k c : Nat, k ≤ n ∧ c ≤ k ∧ i = .int .i64 k ∧ wr.ownsRow w.heap.size 104 2 ot c (flatL (keepL (l.take k) ns)) ∧ Below w.heap.size w wr) (fun _ i _ => n - (intOf i).toNat)
  case atStart => exact ⟨0, 0, Nat.zero_le _, Nat.le_refl _, rfl, World.ownsRow_nil _ _ _ _, Below.refl _ _⟩
  case round =>
    obtain ⟨k, c, hk, hck, rfl, hown, hbel⟩ := hrel
    obtain ⟨oa, ocap, rfl⟩ := own_shape14 hown
    by_cases hlt : k < n
    · have hkl : k < l.length := by rw [HN.out]; exact hlt
      obtain ⟨b, off, rfl, hc0, hd0⟩ := HS.out k hkl
      have hc := (hbel.cell (p := ⟨b, off + k * 2, none⟩) (blk_lt hc0)).trans hc0
      have hd := (hbel.cell (p := ⟨b, off + k * 2 + 1, none⟩) (blk_lt hd0)).trans hd0
      have hltI : (k : Int) < (n : Int) := by omega
      obtain ⟨htin, htout⟩ := keepL_take l ns k hkl
      obtain ⟨x, hx⟩ : ∃ x, x = (l.getD k eL).1 := ⟨_, rfl⟩
      obtain ⟨y, hy⟩ : ∃ y, y = (l.getD k eL).2 := ⟨_, rfl⟩
      have hxy : l.getD k eL = (x, y) := by rw [hx, hy]
      rw [← hx] at hc
      rw [← hy] at hd
      rw [hxy] at htin htout
      simp only at htin htout
      have HROW := hide hown
      have hsz := hbel.size
      have B0 := hide hbel
      clear hc0 hd0 hx hy hxy hown hbel hkl
      obtain ⟨wo, hwo⟩ : ∃ wo, wo = wr := ⟨_, rfl⟩
      have HWO := hide hwo.symm
      clear hwo
      go_wp2
      go_loopw [8, 19] (fun iv i wq => ∃ (j : Nat) (bb : Bool), j ≤ nn ∧ i = .int .i64 j ∧ iv = .bool bb ∧ Hid (bb = true ↔ ∃ t, t < j ∧ ns.getD t Str.e0 = x) ∧ wq = wr.alloc (.cells #[.string x, .string y] 104)) (fun _ i _ => nn - (intOf i).toNat)
      case atStart => exact ⟨0, false, Nat.zero_le _, rfl, rfl, by show _ ↔ _; simp, rfl⟩
      case round =>
        obtain ⟨j, bb, hj, rfl, rfl, HB, rfl⟩ := hrel
        by_cases hj2 : j < nn
        · have hjI : (j : Int) < (nn : Int) := by omega
          obtain ⟨b2, off2, rfl, hn0⟩ := HS2.out j (by rw [HNN.out]; exact hj2)
          have hn1 := ((B0.out.alloc B0.out.size (.cells #[.string x, .string y] 104)).cell (p := ⟨b2, off2 + j, none⟩) (blk_lt hn0)).trans hn0
          obtain ⟨z, hz⟩ : ∃ z, z = ns.getD j Str.e0 := ⟨_, rfl⟩
          rw [← hz] at hn1
          have HZ := hide hz
          clear hn0 hz
          cases bb with
          | false =>
            by_cases hzx : z = x
            · have hzz : (z.toList == x.toList) = true := by rw [hzx]; simp
              have HZX := hide hzx
              clear hzx
              go_wp2
              go_roundw
              case rel => exact ⟨j + 1, true, by omega, by go_num, rfl, ⟨fun _ => ⟨j, by omega, by rw [← HZ.out]; exact HZX.out⟩, fun _ => rfl⟩, trivial⟩
              case measure => simp [intOf]; omega
            · have hzz : (z.toList == x.toList) = false := by rw [beq_eq_false_iff_ne]; exact fun h => hzx (Str.ba_eq.1 h)
              have HZX := hide hzx
              clear hzx
              go_wp2
              go_roundw
              case rel =>
                refine ⟨j + 1, false, by omega, by go_num, rfl, ⟨fun h => absurd h (by simp), fun ⟨t, ht, he⟩ => ?_⟩, trivial⟩
                by_cases e : t = j
                · subst e; exact absurd (by rw [HZ.out]; exact he) HZX.out
                · exact HB.out.2 ⟨t, by omega, he⟩
              case measure => simp [intOf]; omega
          | true =>
            go_wp2
            go_roundw
            case rel => exact ⟨j + 1, true, by omega, by go_num, rfl, ⟨fun _ => by obtain ⟨t, ht, he⟩ := HB.out.1 rfl; exact ⟨t, by omega, he⟩, fun _ => rfl⟩, trivial⟩
            case measure => simp [intOf]; omega
        · obtain rfl : j = nn := by omega
          have hjI : ¬ (j : Int) < (j : Int) := by omega
          have hmem : bb = true ↔ x ∈ ns := by
            refine HB.out.trans ⟨fun ⟨t, ht, he⟩ => ?_, fun h => ?_⟩
            · rw [← he]; exact Str.memS_get (by rw [HNN.out]; exact ht)
            · obtain ⟨t, ht, e⟩ := List.getElem_of_mem h
              refine ⟨t, by rw [← HNN.out]; exact ht, ?_⟩
              simp only [List.getD, List.getElem?_eq_getElem ht, Option.getD_some]
              exact e
          cases bb with
          | true =>
            have HIN := hide (htin (hmem.1 rfl))
            clear htin htout hmem
            go_wp2_with (first
              | (at_builtin; refine wpList_append_own _ rfl _ _ 52 rfl w.heap.size 104 i1 (.agg #[.string ByteArray.empty, .string ByteArray.empty]) 2 32 Try.underlying52 hi1 hy0 hy1 hy2 rfl (by decide) _ _ _ rfl ((HROW.out.alloc _).alloc _) ⟨wr.heap.size + 1, 0, none⟩ 1 1 [.string x, .string y] rfl rfl (cell_two_new2 _ _ _ _ _) (by intro u hu; simp at hu; rcases hu with rfl | rfl <;> rfl) (by unfold maxLen; omega) (by omega) (by simp; omega) ?_)
              | go_in)
            intro v6 w6 hown6 hgrow6 _
            have hb6 := B0.out.trans (((Below.refl _ _).alloc hsz _).alloc (by simp; omega) _ |>.grown hgrow6 (by simp; omega) (fun g hg => (HROW.out.lt g hg).1))
            have hown8 : w6.ownsRow w.heap.size 104 2 v6 (c + 1) (flatL (keepL (l.take (k + 1)) ns)) := by
              rw [HIN.out, flatL_snoc14]; exact hown6
            have hown7 := hide hown8
            clear hown6 hgrow6 hown8
            go_wp2
            go_roundw
            case rel => exact ⟨k + 1, c + 1, by omega, by omega, by go_num, hown7.out, hb6⟩
            case measure => simp [intOf]; omega
          | false =>
            have HOUT := hide (htout (fun h => absurd (hmem.2 h) (by simp)))
            clear htin htout hmem
            go_wp2
            go_roundw
            case rel => exact ⟨k + 1, c, by omega, by omega, by go_num, by rw [HOUT.out]; exact HROW.out.alloc _, B0.out.alloc B0.out.size _⟩
            case measure => simp [intOf]; omega
    · obtain rfl : k = n := by omega
      have hltI : ¬ (k : Int) < (k : Int) := by omega
      have e1 : l.take k = l := List.take_of_length_le (by rw [HN.out]; exact Nat.le_refl _)
      rw [e1] at hown
      have hl : (keepL l ns).length = c := by have := hown.1; rw [flatL_len] at this; omega
      have HROW := hide hown
      have HL := hide hl
      have B0 := hide hbel
      clear e1 hown hl hbel
      go_wp2
      go_ret
      exact ⟨_, rfl, by rw [HL.out]; exact HROW.out, B0.out⟩
open Classical in
set_option maxRecDepth 100000 in
set_option maxHeartbeats 1000000 in
theorem specKeepLabels_any (a : Option Addr) (l : List Lb) (n cap : Nat) (a2 : Option Addr) (ns : List ByteArray) (nn ncap : Nat) (w : World) (hn : l.length = n) (hs : SlL w a l) (hn2 : n ≤ 1048576) (hnn : ns.length = nn) (hs2 : Str.SlS w a2 ns) (hnn2 : nn ≤ 1048576) (hst : ∀ j, j < l.length → (l.getD j eL).1.size ≤ 9223372036854775807 ∧ (l.getD j eL).2.size ≤ 9223372036854775807) (r : Option (List Lb)) (hr : r = keepRes l ns) :
    Calls Try.prog 28 #[.slice a n cap, .slice a2 nn ncap] w fun e w' => RetLb w r e w' := by
  have HS := hide hs
  have HS2 := hide hs2
  by_cases hg : GoodL l
  · have CG := hide (specGoodLabels_any a l n cap w hn hs hn2 hst true (by simp [hg]))
    by_cases h6 : nn ≤ 6
    · have hr' : r = some (keepL l ns) := by rw [hr]; unfold keepRes; rw [if_pos ⟨hg, by omega⟩]
      have HR := hide hr'
      have h6I : (nn : Int) ≤ 6 := by omega
      have h6J : ¬ (6 : Int) < (nn : Int) := by omega
      have CK := hide (fun w hs hs2 => sKeep_any a l n cap a2 ns nn ncap w hn hs hn2 hnn hs2 hnn2)
      clear hr hr' hg hs hn hst hs2 hnn h6
      go_enter Try.func28, Try.ntmps28
      go_wp2_with fail
      refine CG.out.mono ?_
      rintro e w1 ⟨rfl, hb1⟩
      have B1 := hide hb1
      clear hb1
      go_wp2_with fail
      refine (CK.out _ (HS.out.below B1.out) (HS2.out.below B1.out)).mono ?_
      rintro e w2 ⟨v, rfl, ho, hb⟩
      have HO := hide (own_base14 ho B1.out.size)
      have B2 := hide (B1.out.trans (hb.mono B1.out.size))
      clear ho hb
      go_wp2
      go_ret2
      exact ⟨v, by rw [HR.out]; rfl, by rw [HR.out]; exact HO.out, B2.out⟩
    · have hr' : r = none := by rw [hr]; unfold keepRes; rw [if_neg (fun h => h6 (by omega))]
      have HR := hide hr'
      have h6J : (6 : Int) < (nn : Int) := by omega
      clear hr hr' hg hs hn hst hs2 hnn h6
      go_enter Try.func28, Try.ntmps28
      go_wp2_with fail
      refine CG.out.mono ?_
      rintro e w1 ⟨rfl, hb1⟩
      have B1 := hide hb1
      clear hb1
      go_wp2
      go_ret2
      exact ⟨_, by rw [HR.out]; rfl, by rw [HR.out]; exact World.ownsRow_nil _ _ _ _, B1.out⟩
  · have CG := hide (specGoodLabels_any a l n cap w hn hs hn2 hst false (by simp [hg]))
    have hr' : r = none := by rw [hr]; unfold keepRes; rw [if_neg (fun h => hg h.1)]
    have HR := hide hr'
    clear hr hr' hg hs hn hst hs2 hnn
    go_enter Try.func28, Try.ntmps28
    go_wp2_with fail
    refine CG.out.mono ?_
    rintro e w1 ⟨rfl, hb1⟩
    have B1 := hide hb1
    clear hb1
    go_wp2
    go_ret2
    exact ⟨_, by rw [HR.out]; rfl, by rw [HR.out]; exact World.ownsRow_nil _ _ _ _, B1.out⟩
end Go.Proofs.Ytohcjafklfemfal.L14K
