/-
  Contracts: impl.DropOwner, spec.DropOwner: a ring without the tokens of an owner, in new memory.
-/
import Derived.Test.YtkjljkfjcngkcaaL3Has
namespace Go.Proofs.Ytkjljkfjcngkcaa.L3
open Go.RowKit L1
set_option linter.unusedVariables false

set_option maxRecDepth 100000 in
set_option maxHeartbeats 2000000 in
theorem dropOwner_any (a : Option Addr) (l : List (Int × Int)) (n cap : Nat) (o : Int) (w : World) (hn : l.length = n) (hs : Sl2 w a l) (hn2 : n ≤ 1048576) (r : Option (List (Int × Int))) (hr : r = dropRes l o) :
    Calls Try.prog 12 #[.slice a n cap, .int .i64 o] w fun e w' => RetT w r e w' := by
  by_cases hg : GoodT l
  · have C1 := hide (goodRing_any a l n cap w hn hs hn2 true (by simp [hg]))
    by_cases hh : HasO l o
    · have C2 := hide (fun w hs => hasTokens_any a l n cap o w hn hs hn2 true (by simp [hh]))
      have hr' : r = some (dropL l o) := by rw [hr]; unfold dropRes; rw [if_pos ⟨hg, hh⟩]
      have HR := hide hr'
      have h40 : n ≤ 40 := by have := hg.1; omega
      obtain ⟨i1, hi1, hy0, hy1, hy2⟩ := info_parts info_tok
      have HS := hide hs
      have HN := hide hn
      clear hr hr' hg hh hs hn
      go_enter Try.func12, Try.ntmps12
      go_wp2_with fail
      refine C1.out.mono ?_
      rintro e w1 ⟨rfl, hb1⟩
      have B1 := hide hb1
      have S1 := hide (HS.out.below hb1)
      clear hb1
      go_wp2_with fail
      refine (C2.out _ S1.out).mono ?_
      rintro e w2 ⟨rfl, hb2⟩
      have B2 := hide (B1.out.trans (hb2.mono B1.out.size))
      have S2 := hide (S1.out.below hb2)
      clear hb2 S1 B1
      go_wp2
      go_loopw [6, 20] (fun ot i wr => ∃ k : Nat, k ≤ n ∧ i = .int .i64 k ∧ wr.ownsRow w.heap.size 55 2 ot (dropL (l.take k) o).length (flat (dropL (l.take k) o)) ∧ Below w.heap.size w wr) (fun _ i _ => n - (intOf i).toNat)
      case atStart => exact ⟨0, Nat.zero_le _, rfl, World.ownsRow_nil _ _ _ _, B2.out⟩
      case round =>
        obtain ⟨k, hk, rfl, hown, hbel⟩ := hrel
        obtain ⟨oa, ocap, rfl, _, _⟩ := own_form2 hown
        by_cases hlt : k < n
        · obtain ⟨b, off, rfl, hc0, hd0⟩ := HS.out k (by rw [HN.out]; exact hlt)
          have hc := (hbel.cell (p := ⟨b, off + k * 2, none⟩) (blk_lt hc0)).trans hc0
          have hd := (hbel.cell (p := ⟨b, off + k * 2 + 1, none⟩) (blk_lt hd0)).trans hd0
          have hltI : (k : Int) < (n : Int) := by omega
          have htk := keepT l (fun p => p.2 != o) k (by rw [HN.out]; exact hlt)
          change dropL (l.take (k + 1)) o = dropL (l.take k) o ++ _ at htk
          obtain ⟨x, hx⟩ : ∃ x, x = (l.getD k (0, 0)).1 := ⟨_, rfl⟩
          obtain ⟨y, hy⟩ : ∃ y, y = (l.getD k (0, 0)).2 := ⟨_, rfl⟩
          have hxy : l.getD k (0, 0) = (x, y) := by rw [hx, hy]
          rw [hxy] at htk
          rw [← hx] at hc
          rw [← hy] at hd
          have hml : (dropL (l.take k) o).length ≤ 40 := by
            have := List.length_filter_le (fun p : Int × Int => p.2 != o) (l.take k)
            have h2 : (l.take k).length ≤ k := by simp; omega
            unfold dropL
            omega
          obtain ⟨ns, hns⟩ : ∃ ns, ns = dropL (l.take k) o := ⟨_, rfl⟩
          rw [← hns] at htk hown hml ⊢
          obtain ⟨m, hm⟩ : ∃ m, m = ns.length := ⟨_, rfl⟩
          rw [← hm] at hown hml ⊢
          have HM := hide hm
          have HROW := hide hown
          have hsz := hbel.size
          have B0 := hide hbel
          clear hc0 hd0 hx hy hxy hns hown hbel hm
          by_cases hle : y = o
          · subst hle
            have hne : (y != y) = false := by simp
            have htk2 : dropL (l.take (k + 1)) y = ns := by rw [htk]; simp
            have HTK := hide htk2
            clear htk htk2
            go_wp2
            go_roundw
            case rel => exact ⟨k + 1, by omega, by go_num, by rw [HTK.out, ← HM.out]; exact HROW.out.alloc _, B0.out.alloc B0.out.size _⟩
            case measure => simp [intOf]; omega
          · have hne : (y != o) = true := by simpa using hle
            have htk2 : dropL (l.take (k + 1)) o = ns ++ [(x, y)] := by rw [htk]; simp [hle]
            have HTK := hide htk2
            clear htk htk2 hle
            go_wp2_with (first
              | (at_builtin; refine wpList_append_own _ rfl _ _ 23 rfl w.heap.size 55 i1 (.agg #[.int .i64 0, .int .i64 0]) 2 16 Try.underlying23 hi1 hy0 hy1 hy2 rfl (by decide) _ _ _ rfl ((HROW.out.alloc _).alloc _) ⟨wr.heap.size + 1, 0, none⟩ 1 1 [.int .i64 x, .int .i64 y] rfl rfl (cell_two_new2 _ _ _ _ _) (by intro u hu; simp at hu; rcases hu with rfl | rfl <;> rfl) (by unfold maxLen; omega) (by omega) (by simp; omega) ?_)
              | go_in)
            intro v6 w6 hown6 hgrow6 _
            have hb6 := B0.out.trans (((Below.refl _ _).alloc hsz _).alloc (by simp; omega) _ |>.grown hgrow6 (by simp; omega) (fun g hg => (HROW.out.lt g hg).1))
            have hown8 : w6.ownsRow w.heap.size 55 2 v6 (dropL (l.take (k + 1)) o).length (flat (dropL (l.take (k + 1)) o)) := by
              rw [HTK.out, flat_append, List.length_append, ← HM.out]; simpa [flat] using hown6
            have hown7 := hide hown8
            clear hown6 hgrow6 hown8
            go_wp2
            go_roundw
            case rel => exact ⟨k + 1, by omega, by go_num, hown7.out, hb6⟩
            case measure => simp [intOf]; omega
        · obtain rfl : k = n := by omega
          have e1 : l.take k = l := List.take_of_length_le (by rw [HN.out]; exact Nat.le_refl _)
          rw [e1] at hown ⊢
          have HO := hide hown
          have hltI : ¬ (k : Int) < (k : Int) := by omega
          clear e1 hown
          go_wp2
          go_ret2
          exact ⟨_, by rw [HR.out]; rfl, by rw [HR.out]; exact HO.out, hbel⟩
    · have C2 := hide (fun w hs => hasTokens_any a l n cap o w hn hs hn2 false (by simp [hh]))
      have hr' : r = none := by rw [hr]; unfold dropRes; rw [if_neg (fun h => hh h.2)]
      have HR := hide hr'
      have HS := hide hs
      clear hr hr' hg hh hs hn
      go_enter Try.func12, Try.ntmps12
      go_wp2_with fail
      refine C1.out.mono ?_
      rintro e w1 ⟨rfl, hb1⟩
      have B1 := hide hb1
      have S1 := hide (HS.out.below hb1)
      clear hb1
      go_wp2_with fail
      refine (C2.out _ S1.out).mono ?_
      rintro e w2 ⟨rfl, hb2⟩
      have B2 := hide (B1.out.trans (hb2.mono B1.out.size))
      clear hb2 S1 B1
      go_wp2
      go_ret2
      exact ⟨_, by rw [HR.out]; rfl, by rw [HR.out]; exact World.ownsRow_nil _ _ _ _, B2.out⟩
  · have C1 := hide (goodRing_any a l n cap w hn hs hn2 false (by simp [hg]))
    have hr' : r = none := by rw [hr]; unfold dropRes; rw [if_neg (fun h => hg h.1)]
    have HR := hide hr'
    clear hr hr' hg hs hn
    go_enter Try.func12, Try.ntmps12
    go_wp2_with fail
    refine C1.out.mono ?_
    rintro e w1 ⟨rfl, hb1⟩
    go_wp2
    go_ret2
    exact ⟨_, by rw [HR.out]; rfl, by rw [HR.out]; exact World.ownsRow_nil _ _ _ _, hb1⟩

set_option maxRecDepth 100000 in
set_option maxHeartbeats 2000000 in
theorem specDrop_any (a : Option Addr) (l : List (Int × Int)) (n cap : Nat) (o : Int) (w : World) (hn : l.length = n) (hs : Sl2 w a l) (hn2 : n ≤ 1048576) (r : Option (List (Int × Int))) (hr : r = dropRes l o) :
    Calls Try.prog 19 #[.slice a n cap, .int .i64 o] w fun e w' => RetT w r e w' := by
  by_cases hg : GoodT l
  · have C1 := hide (specGoodRing_any a l n cap w hn hs hn2 true (by simp [hg]))
    by_cases hh : HasO l o
    · have C2 := hide (fun w hs => l3Owns_any a l n cap o w hn hs hn2 true (by simp [hh]))
      have hr' : r = some (dropL l o) := by rw [hr]; unfold dropRes; rw [if_pos ⟨hg, hh⟩]
      have HR := hide hr'
      have h40 : n ≤ 40 := by have := hg.1; omega
      obtain ⟨i1, hi1, hy0, hy1, hy2⟩ := info_parts info_tok
      have HS := hide hs
      have HN := hide hn
      clear hr hr' hg hh hs hn
      go_enter Try.func19, Try.ntmps19
      go_wp2_with fail
      refine C1.out.mono ?_
      rintro e w1 ⟨rfl, hb1⟩
      have B1 := hide hb1
      have S1 := hide (HS.out.below hb1)
      clear hb1
      go_wp2_with fail
      refine (C2.out _ S1.out).mono ?_
      rintro e w2 ⟨rfl, hb2⟩
      have B2 := hide (B1.out.trans (hb2.mono B1.out.size))
      have S2 := hide (S1.out.below hb2)
      clear hb2 S1 B1
      go_wp2
      go_loopw [6, 20] (fun ot i wr => ∃ k : Nat, k ≤ n ∧ i = .int .i64 k ∧ wr.ownsRow w.heap.size 55 2 ot (dropL (l.take k) o).length (flat (dropL (l.take k) o)) ∧ Below w.heap.size w wr) (fun _ i _ => n - (intOf i).toNat)
      case atStart => exact ⟨0, Nat.zero_le _, rfl, World.ownsRow_nil _ _ _ _, B2.out⟩
      case round =>
        obtain ⟨k, hk, rfl, hown, hbel⟩ := hrel
        obtain ⟨oa, ocap, rfl, _, _⟩ := own_form2 hown
        by_cases hlt : k < n
        · obtain ⟨b, off, rfl, hc0, hd0⟩ := HS.out k (by rw [HN.out]; exact hlt)
          have hc := (hbel.cell (p := ⟨b, off + k * 2, none⟩) (blk_lt hc0)).trans hc0
          have hd := (hbel.cell (p := ⟨b, off + k * 2 + 1, none⟩) (blk_lt hd0)).trans hd0
          have hltI : (k : Int) < (n : Int) := by omega
          have htk := keepT l (fun p => p.2 != o) k (by rw [HN.out]; exact hlt)
          change dropL (l.take (k + 1)) o = dropL (l.take k) o ++ _ at htk
          obtain ⟨x, hx⟩ : ∃ x, x = (l.getD k (0, 0)).1 := ⟨_, rfl⟩
          obtain ⟨y, hy⟩ : ∃ y, y = (l.getD k (0, 0)).2 := ⟨_, rfl⟩
          have hxy : l.getD k (0, 0) = (x, y) := by rw [hx, hy]
          rw [hxy] at htk
          rw [← hx] at hc
          rw [← hy] at hd
          have hml : (dropL (l.take k) o).length ≤ 40 := by
            have := List.length_filter_le (fun p : Int × Int => p.2 != o) (l.take k)
            have h2 : (l.take k).length ≤ k := by simp; omega
            unfold dropL
            omega
          obtain ⟨ns, hns⟩ : ∃ ns, ns = dropL (l.take k) o := ⟨_, rfl⟩
          rw [← hns] at htk hown hml ⊢
          obtain ⟨m, hm⟩ : ∃ m, m = ns.length := ⟨_, rfl⟩
          rw [← hm] at hown hml ⊢
          have HM := hide hm
          have HROW := hide hown
          have hsz := hbel.size
          have B0 := hide hbel
          clear hc0 hd0 hx hy hxy hns hown hbel hm
          by_cases hle : y = o
          · subst hle
            have hne : (y != y) = false := by simp
            have htk2 : dropL (l.take (k + 1)) y = ns := by rw [htk]; simp
            have HTK := hide htk2
            clear htk htk2
            go_wp2
            go_roundw
            case rel => exact ⟨k + 1, by omega, by go_num, by rw [HTK.out, ← HM.out]; exact HROW.out.alloc _, B0.out.alloc B0.out.size _⟩
            case measure => simp [intOf]; omega
          · have hne : (y != o) = true := by simpa using hle
            have htk2 : dropL (l.take (k + 1)) o = ns ++ [(x, y)] := by rw [htk]; simp [hle]
            have HTK := hide htk2
            clear htk htk2 hle
            go_wp2_with (first
              | (at_builtin; refine wpList_append_own _ rfl _ _ 23 rfl w.heap.size 55 i1 (.agg #[.int .i64 0, .int .i64 0]) 2 16 Try.underlying23 hi1 hy0 hy1 hy2 rfl (by decide) _ _ _ rfl ((HROW.out.alloc _).alloc _) ⟨wr.heap.size + 1, 0, none⟩ 1 1 [.int .i64 x, .int .i64 y] rfl rfl (cell_two_new2 _ _ _ _ _) (by intro u hu; simp at hu; rcases hu with rfl | rfl <;> rfl) (by unfold maxLen; omega) (by omega) (by simp; omega) ?_)
              | go_in)
            intro v6 w6 hown6 hgrow6 _
            have hb6 := B0.out.trans (((Below.refl _ _).alloc hsz _).alloc (by simp; omega) _ |>.grown hgrow6 (by simp; omega) (fun g hg => (HROW.out.lt g hg).1))
            have hown8 : w6.ownsRow w.heap.size 55 2 v6 (dropL (l.take (k + 1)) o).length (flat (dropL (l.take (k + 1)) o)) := by
              rw [HTK.out, flat_append, List.length_append, ← HM.out]; simpa [flat] using hown6
            have hown7 := hide hown8
            clear hown6 hgrow6 hown8
            go_wp2
            go_roundw
            case rel => exact ⟨k + 1, by omega, by go_num, hown7.out, hb6⟩
            case measure => simp [intOf]; omega
        · obtain rfl : k = n := by omega
          have e1 : l.take k = l := List.take_of_length_le (by rw [HN.out]; exact Nat.le_refl _)
          rw [e1] at hown ⊢
          have HO := hide hown
          have hltI : ¬ (k : Int) < (k : Int) := by omega
          clear e1 hown
          go_wp2
          go_ret2
          exact ⟨_, by rw [HR.out]; rfl, by rw [HR.out]; exact HO.out, hbel⟩
    · have C2 := hide (fun w hs => l3Owns_any a l n cap o w hn hs hn2 false (by simp [hh]))
      have hr' : r = none := by rw [hr]; unfold dropRes; rw [if_neg (fun h => hh h.2)]
      have HR := hide hr'
      have HS := hide hs
      clear hr hr' hg hh hs hn
      go_enter Try.func19, Try.ntmps19
      go_wp2_with fail
      refine C1.out.mono ?_
      rintro e w1 ⟨rfl, hb1⟩
      have B1 := hide hb1
      have S1 := hide (HS.out.below hb1)
      clear hb1
      go_wp2_with fail
      refine (C2.out _ S1.out).mono ?_
      rintro e w2 ⟨rfl, hb2⟩
      have B2 := hide (B1.out.trans (hb2.mono B1.out.size))
      clear hb2 S1 B1
      go_wp2
      go_ret2
      exact ⟨_, by rw [HR.out]; rfl, by rw [HR.out]; exact World.ownsRow_nil _ _ _ _, B2.out⟩
  · have C1 := hide (specGoodRing_any a l n cap w hn hs hn2 false (by simp [hg]))
    have hr' : r = none := by rw [hr]; unfold dropRes; rw [if_neg (fun h => hg h.1)]
    have HR := hide hr'
    clear hr hr' hg hs hn
    go_enter Try.func19, Try.ntmps19
    go_wp2_with fail
    refine C1.out.mono ?_
    rintro e w1 ⟨rfl, hb1⟩
    go_wp2
    go_ret2
    exact ⟨_, by rw [HR.out]; rfl, by rw [HR.out]; exact World.ownsRow_nil _ _ _ _, hb1⟩

end Go.Proofs.Ytkjljkfjcngkcaa.L3
