/-
  Contracts: spec.l1In, spec.l6Starts, spec.l6Index.
-/
import Derived.Test.YtdnmklcnlndmhazDoorL6Good
import Derived.Test.YtdnmklcnlndmhazDoorL1SpecGet
import Derived.OwnWalk
namespace Go.Proofs.YtdnmklcnlndmhazDoor.L6
open Go.RowKit L1
set_option linter.unusedVariables false

set_option maxRecDepth 100000 in
set_option maxHeartbeats 400000 in
theorem l1In_any (x lo hi : Int) (w : World) (b : Bool) (hb : b = true ↔ lo ≤ x ∧ x ≤ hi) :
    Calls Tryd.prog 27 #[.int .i64 x, .int .i64 lo, .int .i64 hi] w fun e w' => e = .returned (.bool b) ∧ w = w' := by
  by_cases h1 : lo ≤ x
  · by_cases h2 : x ≤ hi
    · obtain rfl : b = true := hb.2 ⟨h1, h2⟩
      clear hb
      go_enter Tryd.func27, Tryd.ntmps27
      go_wp2
      go_ret
      exact ⟨rfl, rfl⟩
    · obtain rfl : b = false := by
        cases b with
        | false => rfl
        | true => exact absurd (hb.1 rfl).2 h2
      clear hb
      go_enter Tryd.func27, Tryd.ntmps27
      go_wp2
      go_ret
      exact ⟨rfl, rfl⟩
  · obtain rfl : b = false := by
      cases b with
      | false => rfl
      | true => exact absurd (hb.1 rfl).1 h1
    clear hb
    go_enter Tryd.func27, Tryd.ntmps27
    go_wp2
    go_ret
    exact ⟨rfl, rfl⟩

set_option maxRecDepth 100000 in
set_option maxHeartbeats 2000000 in
theorem l6Starts_any (s : ByteArray) (w : World) (hs : s.size ≤ 1048576) :
    Calls Tryd.prog 51 #[.string s] w fun e w' => ∃ v, e = .returned (.tuple #[v, .int .i64 (wh s : Nat)]) ∧ w'.ownsRow w.heap.size 3 1 v (cnt s) ((st s).map (Value.int .i64)) ∧ Below w.heap.size w w' := by
  obtain ⟨i0, hi, hz0, hz1, hz2⟩ := info_parts info_int
  have hcl := cnt_le s
  go_enter Tryd.func51, Tryd.ntmps51
  go_wp2
  go_loopw [4, 5] (fun o i wr => ∃ j : Nat, j ≤ cnt s ∧ i = .int .i64 (pl s 0 j : Nat) ∧ wr.ownsRow w.heap.size 3 1 o j ((stk s j).map (Value.int .i64)) ∧ Below w.heap.size w wr) (fun _ i _ => s.size - (intOf i).toNat)
  case atStart => exact ⟨0, by omega, rfl, World.ownsRow_nil _ _ _ _, Below.refl _ _⟩
  case round =>
    obtain ⟨j, hj, rfl, hown, hbel⟩ := hrel
    obtain ⟨b1, q1, rfl, _, _⟩ := own_form hown
    have hpl := pl_le s j
    by_cases hlt : j < cnt s
    · obtain ⟨c, n, hrc, hnx⟩ := cnt_rc s j hlt
      have hpl2 := pl_le s (j + 1)
      have hps := pl_lt s j hlt
      have hsk := stk_succ s j
      obtain ⟨l, hg, hz, hc, hn, hle⟩ := rc_gv hrc
      have hps2 : pl s 0 j < s.size := by omega
      have C := hide (l1Get_any s (pl s 0 j) wr hps2 hs)
      rw [hg] at C
      simp only [lgRes, hz, ← hc] at C
      have CI := hide (fun w => l1In_any (n : Int) 0 20 w true (by simp; omega))
      obtain ⟨p, hp⟩ : ∃ p, p = pl s 0 j := ⟨_, rfl⟩
      obtain ⟨q, hq⟩ : ∃ q, q = pl s 0 (j + 1) := ⟨_, rfl⟩
      rw [← hp] at C hpl hps hsk hps2
      rw [← hq] at hpl2 hps hnx
      rw [← hp]
      have hpI : (p : Int) < (s.size : Int) := by omega
      have hc0 : ¬ (c : Int) < 0 := by omega
      have hn0 : ¬ (s.size : Int) - (c : Int) < (n : Int) := by omega
      have hqq : (c : Int) + (n : Int) = (q : Int) := by omega
      have HSK := hide hsk
      have HQ := hide hq
      have O := hide hown
      have B := hide hbel
      have hp' := hide hp
      clear hrc hnx hsk hq hown hbel hp hg hz hc hle
      go_wp2_with fail
      refine C.out.mono ?_
      rintro e w1 ⟨rfl, hb1⟩
      have O1 := hide (own_below O.out hb1)
      have B1 := hide (B.out.trans (hb1.mono B.out.size))
      clear hb1
      go_wp2_with fail
      refine (CI.out _).mono ?_
      rintro e w2 ⟨rfl, rfl⟩
      go_wp2_with (first
        | (at_builtin; refine wpList_append_own _ rfl _ _ 49 rfl w.heap.size 3 i0 (.int .i64 0) 1 8 Tryd.underlying49 hi hz0 hz1 hz2 rfl (by decide) _ _ _ rfl (O1.out.alloc _) ⟨w1.heap.size, 0, none⟩ 1 1 [.int .i64 (p : Int)] rfl rfl (cell_one_new _ _ _) (by intro u hu; simp at hu; subst hu; rfl) (by unfold maxLen; omega) (by omega) (by have := B1.out.size; simp; omega) ?_)
        | go_in)
      intro v6 w6 h6 g6 _
      have hbase : w.heap.size ≤ (w1.alloc (.cells #[.int .i64 (p : Int)] 3)).heap.size := by have := B1.out.size; simp; omega
      have O6 : w6.ownsRow w.heap.size 3 1 v6 (j + 1) ((stk s (j + 1)).map (Value.int .i64)) := by
        rw [HSK.out, List.map_append]
        exact h6
      have B6 := (B1.out.alloc (Nat.le_trans B1.out.size (Nat.le_refl _)) _).grown g6 hbase (fun k hk => (O1.out.lt k hk).1)
      have HR := hide (And.intro O6 B6)
      obtain ⟨a6, c6, rfl, _, _⟩ := own_form O6
      clear h6 g6 O6 B6 hbase
      go_wp2
      go_roundw
      case rel => exact ⟨j + 1, by omega, by rw [HQ.out], HR.out⟩
      case measure => simp [intOf]; omega
    · obtain rfl : j = cnt s := by omega
      have hrc := cnt_no s
      obtain ⟨p, hp⟩ : ∃ p, p = pl s 0 (cnt s) := ⟨_, rfl⟩
      rw [← hp] at hpl hrc
      rw [← hp]
      have E : Hid (wh s = p) := hp.symm
      have O := hide hown
      have B := hide hbel
      clear hp hown hbel
      by_cases hps2 : p < s.size
      · have hpI : (p : Int) < (s.size : Int) := by omega
        have C := hide (l1Get_any s p wr hps2 hs)
        cases hg : gv (bts s p) with
        | none =>
          rw [hg] at C
          simp only [lgRes] at C
          clear hg hrc
          go_wp2_with fail
          refine C.out.mono ?_
          rintro e w1 ⟨rfl, hb1⟩
          have O1 := hide (own_below O.out hb1)
          have B1 := hide (B.out.trans (hb1.mono B.out.size))
          clear hb1
          go_wp2
          go_ret2
          exact ⟨_, by rw [E.out]; rfl, O1.out, B1.out⟩
        | some l =>
          rw [hg] at C
          simp only [lgRes] at C
          have hf := gv_form (bts_mem s p) hg
          have hz := zag_lo (val l) (val_nonneg l) hf.2
          have hl := gv_some hg
          rw [bts_len] at hl
          have hno : ¬ (0 ≤ zag (val l) ∧ zag (val l) ≤ 20 ∧ zag (val l) ≤ (s.size : Int) - ((p + l.length : Nat) : Int)) := by
            intro hc
            unfold rc at hrc
            rw [hg] at hrc
            simp only [if_pos hc] at hrc
            cases hrc
          obtain ⟨z, hzz⟩ : ∃ z, z = zag (val l) := ⟨_, rfl⟩
          obtain ⟨e, hee⟩ : ∃ e, e = p + l.length := ⟨_, rfl⟩
          rw [← hzz] at C hz hno
          rw [← hee] at C hno
          have he : e ≤ s.size := by omega
          have he0 : ¬ (e : Int) < 0 := by omega
          clear hg hf hl hzz hee hrc
          by_cases h1 : 0 ≤ z ∧ z ≤ 20
          · have h3 : (s.size : Int) - (e : Int) < z := by omega
            have CI := hide (fun w => l1In_any z 0 20 w true (by simp; omega))
            clear hno h1
            go_wp2_with fail
            refine C.out.mono ?_
            rintro e w1 ⟨rfl, hb1⟩
            have O1 := hide (own_below O.out hb1)
            have B1 := hide (B.out.trans (hb1.mono B.out.size))
            clear hb1
            go_wp2_with fail
            refine (CI.out _).mono ?_
            rintro e w2 ⟨rfl, rfl⟩
            go_wp2
            go_ret2
            exact ⟨_, by rw [E.out]; rfl, O1.out, B1.out⟩
          · have CI := hide (fun w => l1In_any z 0 20 w false (by simp; omega))
            clear hno h1
            go_wp2_with fail
            refine C.out.mono ?_
            rintro e w1 ⟨rfl, hb1⟩
            have O1 := hide (own_below O.out hb1)
            have B1 := hide (B.out.trans (hb1.mono B.out.size))
            clear hb1
            go_wp2_with fail
            refine (CI.out _).mono ?_
            rintro e w2 ⟨rfl, rfl⟩
            go_wp2
            go_ret2
            exact ⟨_, by rw [E.out]; rfl, O1.out, B1.out⟩
      · have hpI : ¬ (p : Int) < (s.size : Int) := by omega
        clear hrc
        go_wp2
        go_ret2
        exact ⟨_, by rw [E.out]; rfl, O.out, B.out⟩

set_option maxRecDepth 100000 in
set_option maxHeartbeats 2000000 in
theorem l6Index_any (s : ByteArray) (a : Option Addr) (n cap : Nat) (w : World) (hn : cnt s = n) (hn2 : n ≤ 1048576) (hs : Sl w a (st s)) :
    Calls Tryd.prog 53 #[.slice a n cap] w fun e w' => ∃ v, e = .returned v ∧ w'.ownsRow w.heap.size 3 1 v (ix s).length ((ix s).map (Value.int .i64)) ∧ Below w.heap.size w w' := by
  obtain ⟨i0, hi, hz0, hz1, hz2⟩ := info_parts info_int
  have HS := hide hs
  have HN := hide hn
  clear hs hn
  go_enter Tryd.func53, Tryd.ntmps53
  go_wp2
  go_loopw [3, 8] (fun o i wr => ∃ j : Nat, j ≤ n ∧ i = .int .i64 j ∧ wr.ownsRow w.heap.size 3 1 o ((j + 2) / 3) ((ixk s ((j + 2) / 3)).map (Value.int .i64)) ∧ Below w.heap.size w wr) (fun _ i _ => n - (intOf i).toNat)
  case atStart => exact ⟨0, by omega, rfl, World.ownsRow_nil _ _ _ _, Below.refl _ _⟩
  case round =>
    obtain ⟨j, hj, rfl, hown, hbel⟩ := hrel
    obtain ⟨b1, q1, rfl, _, _⟩ := own_form hown
    by_cases hlt : j < n
    · obtain ⟨b, off, rfl, hc0⟩ := HS.out j (by rw [stk_len, HN.out]; exact hlt)
      have hc := (hbel.cell (p := ⟨b, off + j, none⟩) (blk_lt hc0)).trans hc0
      rw [stk_get s (cnt s) j (by rw [HN.out]; exact hlt)] at hc
      have hltI : (j : Int) < (n : Int) := by omega
      have hj0 : (0 : Int) ≤ (j : Int) := by omega
      by_cases h3 : j % 3 = 0
      · have hm : (j : Int).tmod 3 = 0 := by rw [Int.tmod_eq_emod_of_nonneg (by omega)]; omega
        have hsk := ixk_succ s (j / 3)
        have ej : 3 * (j / 3) = j := by omega
        rw [ej] at hsk
        have ek : (j + 2) / 3 = j / 3 := by omega
        have ek2 : (j + 1 + 2) / 3 = j / 3 + 1 := by omega
        rw [ek] at hown ⊢
        obtain ⟨k, hk⟩ : ∃ k, k = j / 3 := ⟨_, rfl⟩
        rw [← hk] at hown hsk ek2 ⊢
        obtain ⟨p, hp⟩ : ∃ p : Int, p = (pl s 0 j : Int) := ⟨_, rfl⟩
        rw [← hp] at hc hsk
        have HSK := hide hsk
        have HK := hide ek2
        have O := hide hown
        have B := hide hbel
        have hkn : k ≤ n := by omega
        clear hsk hown hbel hp hc0 ek ek2 ej hk
        go_wp2_with (first
          | (at_builtin; refine wpList_append_own _ rfl _ _ 49 rfl w.heap.size 3 i0 (.int .i64 0) 1 8 Tryd.underlying49 hi hz0 hz1 hz2 rfl (by decide) _ _ _ rfl (O.out.alloc _) ⟨wr.heap.size, 0, none⟩ 1 1 [.int .i64 p] rfl rfl (cell_one_new _ _ _) (by intro u hu; simp at hu; subst hu; rfl) (by unfold maxLen; omega) (by omega) (by have := B.out.size; simp; omega) ?_)
          | go_in)
        intro v6 w6 h6 g6 _
        have hbase : w.heap.size ≤ (wr.alloc (.cells #[.int .i64 p] 3)).heap.size := by have := B.out.size; simp; omega
        have O6 : w6.ownsRow w.heap.size 3 1 v6 (k + 1) ((ixk s (k + 1)).map (Value.int .i64)) := by
          rw [HSK.out, List.map_append]
          exact h6
        have B6 := (B.out.alloc (Nat.le_trans B.out.size (Nat.le_refl _)) _).grown g6 hbase (fun k hk => (O.out.lt k hk).1)
        have HR := hide (And.intro O6 B6)
        obtain ⟨a6, c6, rfl, _, _⟩ := own_form O6
        clear h6 g6 O6 B6 hbase
        go_wp2
        go_roundw
        case rel => exact ⟨j + 1, by omega, by go_num, by rw [HK.out]; exact HR.out⟩
        case measure => simp [intOf]; omega
      · have hm : ¬ (j : Int).tmod 3 = 0 := by rw [Int.tmod_eq_emod_of_nonneg (by omega)]; omega
        have ek2 : (j + 1 + 2) / 3 = (j + 2) / 3 := by omega
        obtain ⟨p, hp⟩ : ∃ p : Int, p = (pl s 0 j : Int) := ⟨_, rfl⟩
        rw [← hp] at hc
        obtain ⟨k, hk⟩ : ∃ k, k = (j + 2) / 3 := ⟨_, rfl⟩
        rw [← hk] at hown ek2 ⊢
        have HK := hide ek2
        have O := hide hown
        have B := hide hbel
        clear hown hbel hp hc0 ek2 hk
        go_wp2
        go_roundw
        case rel => exact ⟨j + 1, by omega, by go_num, by rw [HK.out]; exact ⟨O.out, B.out⟩⟩
        case measure => simp [intOf]; omega
    · obtain rfl : j = n := by omega
      have hltI : ¬ (j : Int) < (j : Int) := by omega
      have E : ixk s ((j + 2) / 3) = ix s := by unfold ix; rw [HN.out]
      have E2 : (ix s).length = (j + 2) / 3 := by rw [← E, ixk_len]
      rw [E, ← E2] at hown
      rw [← E2]
      have O := hide hown
      clear E E2 hown
      go_wp2
      go_ret
      exact ⟨_, rfl, O.out, hbel⟩
end Go.Proofs.YtdnmklcnlndmhazDoor.L6
