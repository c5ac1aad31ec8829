/-
  Contract: impl.startsOf tells the starts of entries, in new memory.
-/
import Derived.Test.YtdnmklcnlndmhbbL7RetS
namespace Go.Proofs.Ytdnmklcnlndmhbb.L7
open Go.RowKit L1
set_option linter.unusedVariables false

set_option maxRecDepth 100000 in
set_option maxHeartbeats 2000000 in
theorem startsOf_any (a : Option Addr) (l : List En) (n cap : Nat) (w : World) (hn : l.length = n) (hs : SlE w a l) (hn2 : n ≤ 1048576) :
    Calls Try.prog 47 #[.slice a n cap] w fun e w' => RetS w (sts l) e w' := by
  obtain ⟨i1, hi1, hy0, hy1, hy2⟩ := info_parts info_sta
  have HS := hide hs
  have HN := hide hn
  have HR : Hid (sts l = stsK l n) := by show sts l = _; unfold sts; rw [HN.out]
  clear hs hn
  go_enter Try.func47, Try.ntmps47
  go_wp2
  go_loopw [3, 8] (fun ot i wr => ∃ k : Nat, k ≤ n ∧ i = .int .i64 k ∧ wr.ownsRow w.heap.size 58 2 ot (stsK l k).length (flatS (stsK l k)) ∧ Below w.heap.size w wr) (fun _ i _ => n - (intOf i).toNat)
  case atStart => exact ⟨0, Nat.zero_le _, rfl, World.ownsRow_nil _ _ _ _, Below.refl _ _⟩
  case round =>
    obtain ⟨k, hk, rfl, hown, hbel⟩ := hrel
    obtain ⟨oa, ocap, rfl, _, _⟩ := own_formS hown
    by_cases hlt : k < n
    · obtain ⟨b, off, rfl, hc0, hd0⟩ := HS.out k (by rw [HN.out]; exact hlt)
      have hc := (hbel.cell (p := ⟨b, off + k * 2, none⟩) (blk_lt hc0)).trans hc0
      have hd := (hbel.cell (p := ⟨b, off + k * 2 + 1, none⟩) (blk_lt hd0)).trans hd0
      have hltI : (k : Int) < (n : Int) := by omega
      have hml : (stsK l k).length ≤ 1048576 := by have := stsK_len l k; omega
      have hyes := stsK_yes l k
      have hno := stsK_no l k
      have hprev : ∀ j, k = j + 1 → wr.cell? ⟨b, off + j * 2, none⟩ = some (.int .i64 (l.getD j eE).1) := fun j e => by
        obtain ⟨b', off', ha, hp, _⟩ := HS.out j (by rw [HN.out]; omega)
        simp only [Option.some.injEq, Addr.mk.injEq, and_true] at ha
        obtain ⟨rfl, rfl⟩ := ha
        exact (hbel.cell (p := ⟨b, off + j * 2, none⟩) (blk_lt hp)).trans hp
      obtain ⟨x, hx⟩ : ∃ x, x = (l.getD k eE).1 := ⟨_, rfl⟩
      obtain ⟨y, hy⟩ : ∃ y, y = (l.getD k eE).2 := ⟨_, rfl⟩
      rw [← hx] at hc hyes hno
      rw [← hy] at hd
      obtain ⟨ns, hns⟩ : ∃ ns, ns = stsK l k := ⟨_, rfl⟩
      rw [← hns] at hown hml hyes hno ⊢
      obtain ⟨m, hm⟩ : ∃ m, m = ns.length := ⟨_, rfl⟩
      rw [← hm] at hown hml ⊢
      have HM := hide hm
      have HROW := hide hown
      have hsz := hbel.size
      have B0 := hide hbel
      have HYES := hide hyes
      have HNO := hide hno
      have HPREV := hide hprev
      clear hc0 hd0 hx hy hns hown hbel hm hyes hno hprev
      cases k with
      | zero =>
        have HTK := hide (HYES.out (.inl rfl))
        simp only [Nat.zero_mul, Nat.add_zero] at hc hd
        go_wp2
        go_quiet (fail)
        go_wp2_with (first
          | (at_builtin; refine wpList_append_own _ rfl _ _ 36 rfl w.heap.size 58 i1 (.agg #[.int .i64 0, .int .i64 0]) 2 16 Try.underlying36 hi1 hy0 hy1 hy2 rfl (by decide) _ _ _ rfl (((own_drewN (HROW.out.alloc _) _)).alloc _) ⟨wr.heap.size + 1, 0, none⟩ 1 1 [.int .i64 x, .int .i64 0] rfl rfl (cell_two_newD _ _ _ _ _ _) (by intro u hu; simp at hu; rcases hu with rfl | rfl <;> rfl) (by unfold maxLen; omega) (by omega) (by simp; omega) ?_)
          | go_in)
        intro v6 w6 hown6 hgrow6 _
        have hb6 := B0.out.trans (((below_dN ((Below.refl _ _).alloc hsz _) _).alloc (by simp; omega) _) |>.grown hgrow6 (by simp; omega) (fun g hg => (HROW.out.lt g hg).1))
        have hown8 : w6.ownsRow w.heap.size 58 2 v6 (stsK l (0 + 1)).length (flatS (stsK l (0 + 1))) := by
          rw [HTK.out, flatS_append, List.length_append, ← HM.out]; simpa [flatS] using hown6
        have hown7 := hide hown8
        clear hown6 hgrow6 hown8
        go_wp2
        go_roundw
        case rel => exact ⟨0 + 1, by omega, by go_num, hown7.out, hb6⟩
        case measure => simp [intOf]; omega
      | succ j =>
        have hp := HPREV.out j rfl
        obtain ⟨px, hpx⟩ : ∃ px, px = (l.getD j eE).1 := ⟨_, rfl⟩
        rw [← hpx] at hp
        have hjI : (j : Int) < (n : Int) := by omega
        have hj0 : (0 : Int) ≤ (j : Int) := by omega
        have hwj : IntKind.i64.wrap (j : Int) = (j : Int) := by
          simp only [IntKind.wrap, IntKind.bits, IntKind.signed]
          simp
          omega
        have hjn : ((j : Int) + 1 == 0) = false := by simp; omega
        have hpa : ∀ ob, (wr.alloc ob).cell? ⟨b, off + j * 2, none⟩ = some (.int .i64 px) := fun ob => Go.Lib.cell?_alloc_some ob hp
        by_cases hne : px = x
        · have hne' : (x != px) = false := by simp [hne]
          have e := HNO.out (by rw [Nat.add_sub_cancel, ← hpx]; simp [hne])
          have HTK := hide e
          clear hne hpx e HPREV HYES HNO
          go_wp2
          go_quiet (fail)
          go_wp2
          go_roundw
          case rel => exact ⟨j + 1 + 1, by omega, by go_num, by rw [HTK.out, ← HM.out]; exact own_drewN (HROW.out.alloc _) _, below_dN (B0.out.alloc B0.out.size _) _⟩
          case measure => simp [intOf]; omega
        · have hne' : (x != px) = true := by simp; omega
          have e := HYES.out (.inr (by rw [Nat.add_sub_cancel, ← hpx]; exact hne))
          have HTK := hide e
          clear hne hpx e HPREV HYES HNO
          go_wp2
          go_quiet (fail)
          go_wp2_with (first
            | (at_builtin; refine wpList_append_own _ rfl _ _ 36 rfl w.heap.size 58 i1 (.agg #[.int .i64 0, .int .i64 0]) 2 16 Try.underlying36 hi1 hy0 hy1 hy2 rfl (by decide) _ _ _ rfl (((own_drewN (HROW.out.alloc _) _)).alloc _) ⟨wr.heap.size + 1, 0, none⟩ 1 1 [.int .i64 x, .int .i64 ((j : Int) + 1)] rfl rfl (cell_two_newD _ _ _ _ _ _) (by intro u hu; simp at hu; rcases hu with rfl | rfl <;> rfl) (by unfold maxLen; omega) (by omega) (by simp; omega) ?_)
            | go_in)
          intro v6 w6 hown6 hgrow6 _
          have hb6 := B0.out.trans (((below_dN ((Below.refl _ _).alloc hsz _) _).alloc (by simp; omega) _) |>.grown hgrow6 (by simp; omega) (fun g hg => (HROW.out.lt g hg).1))
          have hown8 : w6.ownsRow w.heap.size 58 2 v6 (stsK l (j + 1 + 1)).length (flatS (stsK l (j + 1 + 1))) := by
            rw [HTK.out, flatS_append, List.length_append, ← HM.out]; simpa [flatS] using hown6
          have hown7 := hide hown8
          clear hown6 hgrow6 hown8
          go_wp2
          go_roundw
          case rel => exact ⟨j + 1 + 1, by omega, by go_num, hown7.out, hb6⟩
          case measure => simp [intOf]; omega
    · obtain rfl : k = n := by omega
      have HO := hide hown
      have hltI : ¬ (k : Int) < (k : Int) := by omega
      clear hown
      go_wp2
      go_ret
      exact ⟨_, rfl, by rw [HR.out]; exact HO.out, hbel⟩
end Go.Proofs.Ytdnmklcnlndmhbb.L7
