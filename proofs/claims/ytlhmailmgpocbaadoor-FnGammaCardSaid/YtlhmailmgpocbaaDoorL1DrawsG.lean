/-
  Contracts of the specification's draws of the second law of chapter 1 (numbers, texts of bits, folded numbers): each returns, within the bounds told, and turns nothing that was there. And spec.UnZigZag and impl.UnZigZag at any number.
-/
import Derived.Test.YtlhmailmgpocbaaDoorL1Draws
import Derived.Test.YtlhmailmgpocbaaDoorL1Gamma
import Derived.Test.YtlhmailmgpocbaaDoorL1GetVarint
import Derived.Test.YtlhmailmgpocbaaDoorL1SpecGet
namespace Go.Proofs.YtlhmailmgpocbaaDoor.L1
open Go.RowKit
set_option linter.unusedVariables false

set_option maxHeartbeats 1000000 in
theorem drawGammaBits_any (a : Option Addr) (n cap : Nat) (w : World) (h : Slb w w.heap.size a n) (hn : n ≤ 1048576) :
    Calls Tryd.prog 23 #[.slice a n cap] w fun e w' => ∃ x : Int, e = .returned (.int .i64 x) ∧ 0 ≤ x ∧ x ≤ 2000000 ∧ Below w.heap.size w w' := by
  have HC := hide (cur_new (cap := cap) h hn)
  clear h
  go_enter Tryd.func23, Tryd.ntmps23
  go_wp2_with fail
  refine (pick_any _ 0 _ _ HC.out (by omega) (by omega) (by omega)).mono ?_
  rintro e w1 ⟨x, rfl, hx0, hx1, hx2, hc1, hg1⟩
  have hx3 : x < 256 := hx2 (by omega)
  have H1 := hide hc1
  have G1 := hide hg1
  clear hc1 hg1 hx2 HC
  go_wp2_with fail
  refine (pick_any _ 2 _ _ H1.out (by omega) (by omega) (by omega)).mono ?_
  rintro e w2 ⟨y, rfl, hy0, hy1, hy2, hc2, hg2⟩
  have hy3 : y < 256 := hy2 (by omega)
  have hlt2 := hc2.lt
  have H2 := hide hc2
  have G2 := hide (grown_trans G1.out hg2)
  have hne2 : w2.heap.size ≠ w.heap.size := by omega
  have hp0 : 0 ≤ x * y := Int.mul_nonneg hx0 hy0
  have hp1 : x * y ≤ 65025 := by
    have h1 : x * y ≤ 255 * y := Int.mul_le_mul_of_nonneg_right (by omega) hy0
    omega
  have hbd : ∀ j, j < 11 → 0 ≤ [(0 : Int), 1, 2, 3, 4, 7, 8, 255, 1000000, 1000001, 1 + x * y].getD j 0 ∧ [(0 : Int), 1, 2, 3, 4, 7, 8, 255, 1000000, 1000001, 1 + x * y].getD j 0 ≤ 2000000 := by
    intro j hj
    have hall : ∀ z ∈ [(0 : Int), 1, 2, 3, 4, 7, 8, 255, 1000000, 1000001, 1 + x * y], 0 ≤ z ∧ z ≤ 2000000 := by
      intro z hz
      simp only [List.mem_cons, List.not_mem_nil, or_false] at hz
      omega
    refine hall _ ?_
    rw [List.getD, List.getElem?_eq_getElem (by simpa using hj)]
    simp
  have HBD := hide hbd
  clear hc2 hg2 hy2 hbd H1 G1
  go_wp2_with fail
  refine (among_any _ 4 w2.heap.size 11 11 [0, 1, 2, 3, 4, 7, 8, 255, 1000000, 1000001, 1 + x * y] _ (H2.out.alloc _) (by omega) rfl (by omega) (by omega) hne2 (lit_row w2 _ _ rfl)).mono ?_
  rintro e w3 ⟨j, hj, rfl, hc3, hg3⟩
  have hb := HBD.out j hj
  have B3 := hide (grown_to_below (grown_trans (grown_trans G2.out (grown_alloc _ _ _)) hg3))
  obtain ⟨z, hz⟩ : ∃ z, z = [(0 : Int), 1, 2, 3, 4, 7, 8, 255, 1000000, 1000001, 1 + x * y].getD j 0 := ⟨_, rfl⟩
  rw [← hz] at hb ⊢
  obtain ⟨hb1, hb2⟩ := hb
  clear hc3 hg3 hz
  go_wp2
  go_ret
  exact ⟨z, rfl, hb1, hb2, B3.out⟩

set_option maxHeartbeats 1000000 in
theorem drawUnZigZag_any (a : Option Addr) (n cap : Nat) (w : World) (h : Slb w w.heap.size a n) (hn : n ≤ 1048576) :
    Calls Tryd.prog 29 #[.slice a n cap] w fun e w' => ∃ x : Int, e = .returned (.int .i64 x) ∧ -1 ≤ x ∧ x ≤ 2000000000001 ∧ Below w.heap.size w w' := by
  have HC := hide (cur_new (cap := cap) h hn)
  clear h
  go_enter Tryd.func29, Tryd.ntmps29
  go_wp2_with fail
  refine (one_any _ 0 _ _ HC.out (by omega) (by omega) (by omega)).mono ?_
  rintro e w1 ⟨t, rfl, hc1, hg1⟩
  have hlt1 := hc1.lt
  have H1 := hide hc1
  have G1 := hide hg1
  have hne : w1.heap.size ≠ w.heap.size := by omega
  clear hc1 hg1 HC
  cases t with
  | true =>
    have hbd : ∀ j, j < 3 → -1 ≤ [(-1 : Int), 2000000000000, 2000000000001].getD j 0 ∧ [(-1 : Int), 2000000000000, 2000000000001].getD j 0 ≤ 2000000000001 := by decide
    have HBD := hide hbd
    clear hbd
    go_wp2_with fail
    refine (among_any _ 2 w1.heap.size 3 3 [-1, 2000000000000, 2000000000001] _ (H1.out.alloc _) (by omega) rfl (by omega) (by omega) hne (lit_row w1 _ _ rfl)).mono ?_
    rintro e w2 ⟨j, hj, rfl, hc2, hg2⟩
    have hb := HBD.out j hj
    have B2 := hide (grown_to_below (grown_trans (grown_trans G1.out (grown_alloc _ _ _)) hg2))
    obtain ⟨y, hy⟩ : ∃ y, y = [(-1 : Int), 2000000000000, 2000000000001].getD j 0 := ⟨_, rfl⟩
    rw [← hy] at hb ⊢
    obtain ⟨hb1, hb2⟩ := hb
    clear hc2 hg2 hy
    go_wp2
    go_ret
    exact ⟨y, rfl, hb1, hb2, B2.out⟩
  | false =>
    have hbd : ∀ j, j < 3 → 0 ≤ [(1 : Int), 257, 99991].getD j 0 ∧ [(1 : Int), 257, 99991].getD j 0 ≤ 99991 := by decide
    have HBD := hide hbd
    clear hbd
    go_wp2_with fail
    refine (pick_any _ 2 _ _ H1.out (by omega) (by omega) (by omega)).mono ?_
    rintro e w2 ⟨x, rfl, hx0, hx1, hx2, hc2, hg2⟩
    have hx3 : x < 256 := hx2 (by omega)
    have H2 := hide hc2
    have G2 := hide (grown_trans G1.out hg2)
    have hlt2 := hc2.lt
    have hne2 : w2.heap.size ≠ w.heap.size := by omega
    clear hc2 hg2 hx2
    go_wp2_with fail
    refine (among_any _ 4 w2.heap.size 3 3 [1, 257, 99991] _ (H2.out.alloc _) (by omega) rfl (by omega) (by omega) hne2 (lit_row w2 _ _ rfl)).mono ?_
    rintro e w3 ⟨j, hj, rfl, hc3, hg3⟩
    have hb := HBD.out j hj
    have B3 := hide (grown_to_below (grown_trans (grown_trans G2.out (grown_alloc _ _ _)) hg3))
    obtain ⟨y, hy⟩ : ∃ y, y = [(1 : Int), 257, 99991].getD j 0 := ⟨_, rfl⟩
    rw [← hy] at hb ⊢
    obtain ⟨hb1, hb2⟩ := hb
    have hp1 : 0 ≤ x * y := Int.mul_nonneg hx0 hb1
    have hp2 : x * y ≤ 256 * 99991 := by
      have h1 : x * y ≤ 256 * y := Int.mul_le_mul_of_nonneg_right (by omega) hb1
      omega
    clear hc3 hg3 hy
    go_wp2
    go_ret
    exact ⟨_, rfl, by omega, by omega, B3.out⟩

set_option maxHeartbeats 1000000 in
theorem drawReadGamma_any (a : Option Addr) (n cap : Nat) (w : World) (h : Slb w w.heap.size a n) (hn : n ≤ 1048576) :
    Calls Tryd.prog 26 #[.slice a n cap] w fun e w' => ∃ u : ByteArray, e = .returned (.string u) ∧ u.size ≤ 100 ∧ Below w.heap.size w w' := by
  have HC := hide (cur_new (cap := cap) h hn)
  clear h
  go_enter Tryd.func26, Tryd.ntmps26
  go_wp2_with fail
  refine (pick_any _ 0 _ _ HC.out (by omega) (by omega) (by omega)).mono ?_
  rintro e w1 ⟨x, rfl, hx0, hx1, hx2, hc1, hg1⟩
  have hx3 : x < 3 := hx2 (by omega)
  obtain ⟨k0, rfl⟩ : ∃ k : Nat, x = (k : Int) := ⟨x.toNat, by omega⟩
  have hk0 : k0 ≤ 2 := by omega
  have H1 := hide hc1
  have G1 := hide hg1
  clear hc1 hg1 hx2 HC
  go_wp2
  go_loopw [4, 5] (fun o i wr => ∃ (k : Nat) (u : ByteArray), k ≤ 2 ∧ u.size + 41 * k ≤ 82 ∧ i = .int .i64 (k : Int) ∧ o = .string u ∧ Hid (Cur wr w.heap.size (6 - 2 * k)) ∧ Hid ((w.alloc (Obj.cells #[.slice a n cap, .int .i64 0, .int .u64 0] 48)).grownBy wr (some w.heap.size))) (fun _ i _ => (intOf i).toNat)
  case atStart => exact ⟨k0, ⟨#[]⟩, hk0, by show 0 + 41 * k0 ≤ 82; omega, rfl, rfl, H1.out.mono (by omega), G1.out⟩
  case round =>
    obtain ⟨k, u, hk, hu, rfl, rfl, HCr, HGr⟩ := hrel
    by_cases hlt : 0 < k
    · have hltI : (0 : Int) < (k : Int) := by omega
      go_wp2_with fail
      refine (pick_any _ (6 - 2 * k) _ _ HCr.out (by omega) (by omega) (by omega)).mono ?_
      rintro e w2 ⟨i, rfl, hi0, hi1, hi2, hc2, hg2⟩
      have hi3 : i < 300 := hi2 (by omega)
      have H2 := hide hc2
      have G2 := hide (grown_trans HGr.out hg2)
      have hgl : (strOfNums (gbits (1 + i))).size ≤ 41 := by
        rw [strOfNums_size, gbits_len]
        have := (bl_len 20 (1 + i)).2
        omega
      have hbc := specBits_yes (1 + i) w2 (by omega) (by omega)
      obtain ⟨D, hD⟩ : ∃ D, D = strOfNums (gbits (1 + i)) := ⟨_, rfl⟩
      rw [← hD] at hgl hbc
      have HB := hide hbc
      have hsum : ¬ 9223372036854775807 < u.size + D.size := by omega
      clear hc2 hg2 hi2 HCr HGr hbc hD
      go_wp2_with fail
      refine (unhide HB).mono ?_
      rintro e w3 ⟨rfl, hb3⟩
      have H3 := hide (H2.out.below hb3)
      have G3 := hide (grown_trans G2.out (below_grown (r := some w.heap.size) hb3))
      clear hb3
      go_wp2
      go_roundw
      case rel => exact ⟨k - 1, _, by omega, by simp only [ByteArray.size_append]; omega, by go_num, rfl, H3.out.mono (by omega), G3.out⟩
      case measure => simp [intOf]; omega
    · have hltI : ¬ (0 : Int) < (k : Int) := by omega
      have hu82 : u.size ≤ 82 := by omega
      go_wp2_with fail
      refine (one_any _ 6 _ _ (HCr.out.mono (by omega)) (by omega) (by omega) (by omega)).mono ?_
      rintro e w2 ⟨t, rfl, hc2, hg2⟩
      have H2 := hide hc2
      have G2 := hide (grown_trans HGr.out hg2)
      clear hc2 hg2 HCr HGr
      cases t with
      | false =>
        go_wp2
        go_ret
        exact ⟨u, rfl, by omega, grown_to_below G2.out⟩
      | true =>
        go_wp2_with fail
        refine (spoilt_any _ 8 u _ _ H2.out (by omega) (by omega) (by decide) (by decide)).mono ?_
        rintro e w3 ⟨v, rfl, hvs, hc3, hg3⟩
        have G3 := hide (grown_trans G2.out hg3)
        clear hc3 hg3
        go_wp2
        go_ret
        exact ⟨v, rfl, by omega, grown_to_below G3.out⟩

set_option maxHeartbeats 400000 in
theorem unZigZag_neg (z : Int) (w : World) (h1 : z < 0) :
    Calls Tryd.prog 13 #[.int .i64 z] w fun e w' => e = .returned (.tuple #[.int .i64 0, .bool false]) ∧ w = w' := by
  go_enter Tryd.func13, Tryd.ntmps13
  go_wp2
  go_ret2
  exact ⟨rfl, rfl⟩
set_option maxHeartbeats 400000 in
theorem specUn_no (z : Int) (w : World) (h : ¬ (0 ≤ z ∧ z ≤ 2000000000000)) :
    Calls Tryd.prog 30 #[.int .i64 z] w fun e w' => e = .returned (.tuple #[.int .i64 0, .bool false]) ∧ w = w' := by
  by_cases h1 : 0 ≤ z
  · have h2 : ¬ z ≤ 2000000000000 := fun h2 => h ⟨h1, h2⟩
    clear h
    go_enter Tryd.func30, Tryd.ntmps30
    go_wp2
    go_ret2
    exact ⟨rfl, rfl⟩
  · clear h
    go_enter Tryd.func30, Tryd.ntmps30
    go_wp2
    go_ret2
    exact ⟨rfl, rfl⟩
set_option maxHeartbeats 400000 in
theorem specUn_yes (z : Int) (w : World) (h1 : 0 ≤ z) (h2 : z ≤ 2000000000000) :
    Calls Tryd.prog 30 #[.int .i64 z] w fun e w' => e = .returned (.tuple #[.int .i64 (zag z), .bool true]) ∧ w = w' := by
  have hz := fun w => l1Zag_any z w h1 (by omega)
  have HZ := hide hz
  clear hz
  go_enter Tryd.func30, Tryd.ntmps30
  go_wp2_with (first | (go_at_call 54; refine (unhide HZ _).mono ?_; rintro e w1 ⟨rfl, rfl⟩) | go_in)
  go_ret2
  exact ⟨rfl, rfl⟩
end Go.Proofs.YtlhmailmgpocbaaDoor.L1
