/-
  Contracts: impl.recordStarts (where whole records begin, and where the last one ends), impl.thinned (every third place).
-/
import Derived.Test.YtdnmklcnlndmhazDoorL6Rec
import Derived.Test.YtdnmklcnlndmhazDoorL1Sl
namespace Go.Proofs.YtdnmklcnlndmhazDoor.L6
open Go.RowKit L1
set_option linter.unusedVariables false

set_option maxRecDepth 100000 in
set_option maxHeartbeats 2000000 in
theorem recordStarts_any (s : ByteArray) (w : World) (hs : s.size ≤ 1048576) (ht : Tab w) :
    Calls Tryd.prog 48 #[.string s] w fun e w' => ∃ v, e = .returned (.tuple #[v, .int .i64 (wh s : Nat)]) ∧ w'.ownsRow w.heap.size 3 1 v (cnt s) ((st s).map (Value.int .i64)) ∧ Below w.heap.size w w' := by
  obtain ⟨i0, hi, hz0, hz1, hz2⟩ := info_parts info_int
  have hcl := cnt_le s
  have HT := hide ht
  clear ht
  go_enter Tryd.func48, Tryd.ntmps48
  go_wp2
  go_loopw [4, 5] (fun o i wr => ∃ j : Nat, j ≤ cnt s ∧ i = .int .i64 (pl s 0 j : Nat) ∧ wr.ownsRow w.heap.size 3 1 o j ((stk s j).map (Value.int .i64)) ∧ Below w.heap.size w wr) (fun _ i _ => s.size - (intOf i).toNat)
  case atStart => exact ⟨0, by omega, rfl, World.ownsRow_nil _ _ _ _, Below.refl _ _⟩
  case round =>
    obtain ⟨j, hj, rfl, hown, hbel⟩ := hrel
    obtain ⟨b1, q1, rfl, _, _⟩ := own_form hown
    have hpl := pl_le s j
    by_cases hlt : j < cnt s
    · obtain ⟨c, n, hrc, hnx⟩ := cnt_rc s j hlt
      have hpl2 := pl_le s (j + 1)
      have hps := pl_lt s j hlt
      have hsk := stk_succ s j
      have C := hide (recordAt_some s (pl s 0 j) c n wr hrc hs (HT.out.below hbel))
      obtain ⟨t, htt⟩ : ∃ t, t = rtx s (pl s 0 j) := ⟨_, rfl⟩
      rw [← htt, show nx s (pl s 0 j) = pl s 0 (j + 1) from rfl] at C
      have HJ : Hid (pl s 0 (j + 1) = pl s 0 (j + 1)) := rfl
      obtain ⟨p, hp⟩ : ∃ p, p = pl s 0 j := ⟨_, rfl⟩
      obtain ⟨q, hq⟩ : ∃ q, q = pl s 0 (j + 1) := ⟨_, rfl⟩
      rw [← hp] at C hpl hps hsk
      rw [← hq] at C hpl2 hps
      rw [← hp]
      have HSK := hide hsk
      have HQ := hide hq
      have O := hide hown
      have B := hide hbel
      clear hrc hnx hsk hq hown hbel htt HJ
      have hp' := hide hp
      clear hp
      go_wp2_with fail
      refine C.out.mono ?_
      rintro e w1 ⟨rfl, rfl⟩
      go_wp2_with (first
        | (at_builtin; refine wpList_append_own _ rfl _ _ 49 rfl w.heap.size 3 i0 (.int .i64 0) 1 8 Tryd.underlying49 hi hz0 hz1 hz2 rfl (by decide) _ _ _ rfl (O.out.alloc _) ⟨wr.heap.size, 0, none⟩ 1 1 [.int .i64 (p : Int)] rfl rfl (cell_one_new _ _ _) (by intro u hu; simp at hu; subst hu; rfl) (by unfold maxLen; omega) (by omega) (by have := B.out.size; simp; omega) ?_)
        | go_in)
      intro v6 w6 h6 g6 _
      have hbase : w.heap.size ≤ (wr.alloc (.cells #[.int .i64 (p : Int)] 3)).heap.size := by have := B.out.size; simp; omega
      have O6 : w6.ownsRow w.heap.size 3 1 v6 (j + 1) ((stk s (j + 1)).map (Value.int .i64)) := by
        rw [HSK.out, List.map_append]
        exact h6
      have B6 := (B.out.alloc (Nat.le_trans B.out.size (Nat.le_refl _)) _).grown g6 hbase (fun k hk => (O.out.lt k hk).1)
      have HR := hide (And.intro O6 B6)
      obtain ⟨a6, c6, rfl, _, _⟩ := own_form O6
      clear h6 g6 O6 B6 hbase
      go_wp2
      go_roundw
      case rel => exact ⟨j + 1, by omega, by rw [HQ.out], HR.out⟩
      case measure => simp [intOf]; omega
    · obtain rfl : j = cnt s := by omega
      have hrc := cnt_no s
      have C := hide (recordAt_none s (pl s 0 (cnt s)) wr hrc hs (HT.out.below hbel))
      obtain ⟨p, hp⟩ : ∃ p, p = pl s 0 (cnt s) := ⟨_, rfl⟩
      rw [← hp] at C hpl
      rw [← hp]
      have E : Hid (wh s = p) := hp.symm
      have O := hide hown
      have B := hide hbel
      clear hrc hp hown hbel
      go_wp2_with fail
      refine C.out.mono ?_
      rintro e w1 ⟨rfl, rfl⟩
      go_wp2
      go_ret2
      exact ⟨_, by rw [E.out]; rfl, O.out, B.out⟩

set_option maxRecDepth 100000 in
set_option maxHeartbeats 2000000 in
theorem thinned_any (s : ByteArray) (a : Option Addr) (n cap : Nat) (w : World) (hn : cnt s = n) (hn2 : n ≤ 1048576) (hs : Sl w a (st s)) :
    Calls Tryd.prog 61 #[.slice a n cap] w fun e w' => ∃ v, e = .returned v ∧ w'.ownsRow w.heap.size 3 1 v (ix s).length ((ix s).map (Value.int .i64)) ∧ Below w.heap.size w w' := by
  obtain ⟨i0, hi, hz0, hz1, hz2⟩ := info_parts info_int
  have HS := hide hs
  have HN := hide hn
  clear hs hn
  go_enter Tryd.func61, Tryd.ntmps61
  go_wp2
  go_loopw [3, 4] (fun o i wr => ∃ j : Nat, j ≤ (n + 2) / 3 ∧ i = .int .i64 ((3 * j : Nat) : Int) ∧ wr.ownsRow w.heap.size 3 1 o j ((ixk s j).map (Value.int .i64)) ∧ Below w.heap.size w wr) (fun _ i _ => n + 3 - (intOf i).toNat)
  case atStart => exact ⟨0, by omega, rfl, World.ownsRow_nil _ _ _ _, Below.refl _ _⟩
  case round =>
    obtain ⟨j, hj, rfl, hown, hbel⟩ := hrel
    obtain ⟨b1, q1, rfl, _, _⟩ := own_form hown
    by_cases hlt : 3 * j < n
    · obtain ⟨b, off, rfl, hc0⟩ := HS.out (3 * j) (by rw [stk_len, HN.out]; exact hlt)
      have hc := (hbel.cell (p := ⟨b, off + 3 * j, none⟩) (blk_lt hc0)).trans hc0
      rw [stk_get s (cnt s) (3 * j) (by rw [HN.out]; exact hlt)] at hc
      have hsk := ixk_succ s j
      obtain ⟨p, hp⟩ : ∃ p : Int, p = (pl s 0 (3 * j) : Int) := ⟨_, rfl⟩
      rw [← hp] at hc hsk
      obtain ⟨d, hd⟩ : ∃ d, d = 3 * j := ⟨_, rfl⟩
      rw [← hd] at hc ⊢
      have hltI : (d : Int) < (n : Int) := by omega
      have hd0 : (0 : Int) ≤ (d : Int) := by omega
      have HSK := hide hsk
      have HD := hide hd
      have O := hide hown
      have B := hide hbel
      clear hsk hd hown hbel hp hc0
      go_wp2_with (first
        | (at_builtin; refine wpList_append_own _ rfl _ _ 49 rfl w.heap.size 3 i0 (.int .i64 0) 1 8 Tryd.underlying49 hi hz0 hz1 hz2 rfl (by decide) _ _ _ rfl (O.out.alloc _) ⟨wr.heap.size, 0, none⟩ 1 1 [.int .i64 p] rfl rfl (cell_one_new _ _ _) (by intro u hu; simp at hu; subst hu; rfl) (by unfold maxLen; omega) (by omega) (by have := B.out.size; simp; omega) ?_)
        | go_in)
      intro v6 w6 h6 g6 _
      have hbase : w.heap.size ≤ (wr.alloc (.cells #[.int .i64 p] 3)).heap.size := by have := B.out.size; simp; omega
      have O6 : w6.ownsRow w.heap.size 3 1 v6 (j + 1) ((ixk s (j + 1)).map (Value.int .i64)) := by
        rw [HSK.out, List.map_append]
        exact h6
      have B6 := (B.out.alloc (Nat.le_trans B.out.size (Nat.le_refl _)) _).grown g6 hbase (fun k hk => (O.out.lt k hk).1)
      have HR := hide (And.intro O6 B6)
      obtain ⟨a6, c6, rfl, _, _⟩ := own_form O6
      clear h6 g6 O6 B6 hbase
      go_wp2
      go_roundw
      case rel => exact ⟨j + 1, by have := HD.out; omega, by rw [show ((3 * (j + 1) : Nat) : Int) = (d : Int) + 3 by have := HD.out; omega], HR.out⟩
      case measure => simp [intOf]; omega
    · have hjj : j = (n + 2) / 3 := by omega
      obtain ⟨d, hd⟩ : ∃ d, d = 3 * j := ⟨_, rfl⟩
      rw [← hd]
      have hltI : ¬ (d : Int) < (n : Int) := by omega
      have E : ixk s j = ix s := by unfold ix; rw [HN.out, hjj]
      have E2 : (ix s).length = j := by rw [← E, ixk_len]
      have O := hide hown
      rw [E] at O
      have HE := hide E2
      clear E E2 hown hd hjj
      go_wp2
      go_ret
      exact ⟨_, rfl, by rw [HE.out]; exact O.out, hbel⟩
end Go.Proofs.YtdnmklcnlndmhazDoor.L6
