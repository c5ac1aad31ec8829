/-
  Contracts: spec.l6Records, spec.l6All.
  Contract: spec.ReadAt.
  Contract: impl.AllOf.
  Lists of bytes that came in, for the draws. Nothing of the program's text is proved here.
-/
import Derived.Test.YtbcljhafdpnjbabDoorBundle6
import Derived.Test.YtbcljhafdpnjbabDoorBundle7
import Derived.Test.YtbcljhafdpnjbabDoorBundle5
import Derived.Test.YtbcljhafdpnjbabDoorBundle8
namespace Go.Proofs.YtbcljhafdpnjbabDoor.L6
open Go.RowKit L1
set_option linter.unusedVariables false

theorem slice_rec6 (w : World) (s : ByteArray) (c n : Nat) (h : c + n ≤ s.size) :
    (Instr.slice 9 (.string s) (some (.int .i64 (c : Int))) (some (.int .i64 ((c : Int) + (n : Int)))) none).run Tryd.prog w = .ok (.string (s.extract c (c + n))) w := by
  have h := run_slice_string (P := Tryd.prog) w 9 s .i64 .i64 (c : Int) ((c : Int) + (n : Int)) Tryd.underlying9 (by omega) (by omega) (by omega)
  rw [h]
  congr 4

set_option maxRecDepth 100000 in
set_option maxHeartbeats 2000000 in
theorem l6Records_any (f : Int) (s : ByteArray) (a : Option Addr) (m q : Nat) (w : World) (hs : s.size ≤ 60) :
    Calls Tryd.prog 67 #[.agg #[.int .i64 f, .string s, .slice a m q]] w fun e w' => ∃ a' c', e = .returned (.slice a' (cnt s) c') ∧ w'.ownsRow w.heap.size 9 1 (.slice a' (cnt s) c') (cnt s) (mapT (rk s (cnt s))) ∧ Below w.heap.size w w' := by
  obtain ⟨i1, hi1, hy0, hy1, hy2⟩ := info_parts info_str6
  have C1 := hide (fun w => l6Starts_any s w (by omega))
  have hcl := cnt_le s
  obtain ⟨n, hn⟩ : ∃ n, n = cnt s := ⟨_, rfl⟩
  rw [← hn] at C1 hcl ⊢
  obtain ⟨kk, hkk⟩ : ∃ kk, kk = wh s := ⟨_, rfl⟩
  rw [← hkk] at C1
  have HN := hide hn
  clear hkk hn
  go_enter Tryd.func67, Tryd.ntmps67
  go_wp2_with fail
  refine (C1.out _).mono ?_
  rintro e w1 ⟨v1, rfl, ho1, hb1⟩
  obtain ⟨a1, q1, rfl, s1, _⟩ := own_form ho1
  have G1 : w1.heap[w.heap.size]? = some (.cells #[.int .i64 f, .string s, .slice a m q] 50 (0, 0)) := (hb1.block w.heap.size (by simp)).trans (blk_new _ _)
  obtain ⟨g0, g1, g2, _, _, _⟩ := blk3 G1
  have B1 := hide (((Below.refl w.heap.size w).alloc (Nat.le_refl _) (.cells #[.int .i64 f, .string s, .slice a m q] 50 (0, 0))).trans (hb1.mono (by simp)))
  have HS1 := hide s1
  have hw1 := B1.out.size
  clear ho1 hb1 G1 s1
  go_wp2
  go_loopw [3, 18] (fun v i wr => ∃ j : Nat, j ≤ n ∧ i = .int .i64 j ∧ wr.ownsRow w1.heap.size 9 1 v j (mapT (rk s j)) ∧ Below w1.heap.size w1 wr) (fun _ i _ => n - (intOf i).toNat)
  case atStart => exact ⟨0, by omega, rfl, World.ownsRow_nil _ _ _ _, Below.refl _ _⟩
  case round =>
    obtain ⟨j, hj, rfl, hown, hbel⟩ := hrel
    obtain ⟨b1, c1, rfl, _, _⟩ := own_formT hown
    by_cases hlt : j < n
    · obtain ⟨b, off, rfl, hc0⟩ := HS1.out j (by rw [stk_len, ← HN.out]; exact hlt)
      have hc := (hbel.cell (p := ⟨b, off + j, none⟩) (blk_lt hc0)).trans hc0
      rw [stk_get s (cnt s) j (by rw [← HN.out]; exact hlt)] at hc
      obtain ⟨c, z, hrc, hnx⟩ := cnt_rc s j (by rw [← HN.out]; exact hlt)
      have hrtx := rtx_some hrc
      obtain ⟨l, hg, hz, hcc, hzn, hle⟩ := rc_gv hrc
      have hps2 : pl s 0 j < s.size := by have := rc_lt hrc; omega
      have C := hide (l1Get_any s (pl s 0 j) wr hps2 (by omega))
      rw [hg] at C
      simp only [lgRes, hz, ← hcc] at C
      have hsk := rk_succ s j
      rw [hrtx] at hsk
      have q2 := fun w => slice_rec6 w s c z hle
      obtain ⟨p, hp⟩ : ∃ p, p = pl s 0 j := ⟨_, rfl⟩
      rw [← hp] at C hc
      obtain ⟨y, hy⟩ : ∃ y, y = s.extract c (c + z) := ⟨_, rfl⟩
      rw [← hy] at q2 hsk
      have hltI : (j : Int) < (n : Int) := by omega
      have k1 := (hbel.cell (p := ⟨w.heap.size, 1, none⟩) (blk_lt g1)).trans g1
      have HSK := hide hsk
      have O := hide hown
      have B := hide hbel
      clear hc0 hrc hnx hrtx hg hz hcc hsk hp hy hown hbel hps2
      go_wp2_with fail
      refine C.out.mono ?_
      rintro e w2 ⟨rfl, hb2⟩
      have k2 := (hb2.cell (p := ⟨w.heap.size, 1, none⟩) (blk_lt k1)).trans k1
      have O2 := hide (own_belowC O.out hb2)
      have B2 := hide (B.out.trans (hb2.mono B.out.size))
      clear hb2 k1
      go_wp2_with (first
        | (at_builtin; refine wpList_append_own _ rfl _ _ 32 rfl w1.heap.size 9 i1 (.string ByteArray.empty) 1 16 Tryd.underlying32 hi1 hy0 hy1 hy2 rfl (by decide) _ _ _ rfl (O2.out.alloc _) ⟨w2.heap.size, 0, none⟩ 1 1 [.string y] rfl rfl (cell_one_newT _ _ rfl _ _) (by intro u hu; simp at hu; subst hu; rfl) (by unfold maxLen; omega) (by omega) (by have := B2.out.size; simp; omega) ?_)
        | go_in)
      intro v6 w6 h6 g6 _
      have hbase : w1.heap.size ≤ (w2.alloc (.cells #[.string y] 9)).heap.size := by have := B2.out.size; simp; omega
      have O6 : w6.ownsRow w1.heap.size 9 1 v6 (j + 1) (mapT (rk s (j + 1))) := by
        rw [HSK.out]
        unfold mapT
        rw [List.map_append]
        exact h6
      have B6 := (B2.out.alloc (Nat.le_trans B2.out.size (Nat.le_refl _)) _).grown g6 hbase (fun k hk => (O2.out.lt k hk).1)
      have HR := hide (And.intro O6 B6)
      obtain ⟨a6, c6, rfl, _, _⟩ := own_formT O6
      clear h6 g6 O6 B6 hbase
      go_wp2
      go_roundw
      case rel => exact ⟨j + 1, by omega, by go_num, HR.out⟩
      case measure => simp [intOf]; omega
    · obtain rfl : j = n := by omega
      have hltI : ¬ (j : Int) < (j : Int) := by omega
      have O := hide hown
      clear hown
      go_wp2
      go_ret
      exact ⟨_, _, rfl, own_baseC O.out hw1, B1.out.trans (hbel.mono hw1)⟩

set_option maxRecDepth 100000 in
set_option maxHeartbeats 4000000 in
theorem l6All_any (a : Option Addr) (L : List Pc) (n cap : Nat) (B : Int) (w : World) (hn : L.length = n) (hs : SlC w a L) (hg : GoodG L B) :
    Calls Tryd.prog 44 #[.agg #[.slice a n cap, .int .i64 B]] w fun e w' => ∃ a' c', e = .returned (.slice a' (allG L B).length c') ∧ w'.ownsRow w.heap.size 9 1 (.slice a' (allG L B).length c') (allG L B).length (mapT (allG L B)) ∧ Below w.heap.size w w' := by
  obtain ⟨i1, hi1, hy0, hy1, hy2⟩ := info_parts info_str6
  have HS := hide hs
  have HN := hide hn
  have HG := hide hg
  have hn20 : n ≤ 20 := by have := hg.many; omega
  have hbd := hg.end0
  have HLE := hide (alk_len_le (L := L) (B := B) (fun j hj => good_cnt (hg.ps j hj).1))
  clear hs hn hg
  go_enter Tryd.func44, Tryd.ntmps44
  go_wp2
  go_loopw [3, 11] (fun v i wr => ∃ j : Nat, j ≤ n ∧ i = .int .i64 j ∧ wr.ownsRow (w.heap.size + 1) 9 1 v (alk L B j).length (mapT (alk L B j)) ∧ wr.cell? ⟨w.heap.size, 1, none⟩ = some (.int .i64 B) ∧ Below w.heap.size w wr) (fun _ i _ => n - (intOf i).toNat)
  case atStart => exact ⟨0, by omega, rfl, World.ownsRow_nil _ _ _ _, (blk2s (blk_new w (.cells #[.slice a n cap, .int .i64 B] 25 (0, 0)))).2, (Below.refl _ _).alloc (Nat.le_refl _) _⟩
  case round =>
    obtain ⟨j, hj, rfl, hown, kB, hbel⟩ := hrel
    obtain ⟨b1, c1, rfl, _, _⟩ := own_formT hown
    by_cases hlt : j < n
    · obtain ⟨b, off, rfl, ai, ci, hat⟩ := HS.out.below hbel j (by rw [HN.out]; exact hlt)
      have hok := HG.out.ps j (by rw [HN.out]; exact hlt)
      have hs60 := hok.1.1
      have hc60 := good_cnt hok.1
      have hf := hok.2.1
      have hgb := atg_bd L j (fun i hi => (HG.out.ps i (by rw [HN.out]; omega)).1)
      have hf0 := HG.out.f0
      have hf1 := HG.out.f1
      have hstep : alk L B (j + 1) = alk L B j ++ fl B (gc L j).f (gc L j).s (cnt (gc L j).s) := rfl
      have hlen := HLE.out j (by rw [HN.out]; exact hj)
      have d1 := hat.f
      have d2 := hat.s
      have d3 := hat.x
      obtain ⟨p, hp⟩ : ∃ p, p = gc L j := ⟨_, rfl⟩
      rw [show L.getD j eC = p from hp.symm] at d1 d2 d3
      rw [← hp] at hs60 hc60 hf hstep
      obtain ⟨f, s, x⟩ := p
      simp only at d1 d2 d3 hs60 hc60 hf hstep
      obtain ⟨m, hm⟩ : ∃ m, m = x.length := ⟨_, rfl⟩
      rw [← hm] at d3
      have hfb : 0 ≤ f ∧ f ≤ 102000 := by omega
      obtain ⟨A, hA⟩ : ∃ A, A = alk L B j := ⟨_, rfl⟩
      rw [← hA] at hown hstep hlen ⊢
      have C := hide (fun w => l6Records_any f s ai m ci w hs60)
      obtain ⟨k, hk⟩ : ∃ k, k = cnt s := ⟨_, rfl⟩
      rw [← hk] at C hc60 hstep
      have hltI : (j : Int) < (n : Int) := by omega
      have HST := hide hstep
      have O := hide hown
      have BB := hide hbel
      have hwB : w.heap.size < wr.heap.size := blk_lt kB
      obtain ⟨g, hgq⟩ : ∃ g, g = wr.heap.size := ⟨_, rfl⟩
      obtain ⟨N, hN⟩ : ∃ N, N = A.length := ⟨_, rfl⟩
      rw [← hN] at hlen ⊢
      have HNN := hide hN
      clear hat hok hf hgb hf0 hf1 hstep hp hm hA hk hown hbel hN
      go_wp2_with fail
      refine (C.out _).mono ?_
      rintro e w1 ⟨a2, c2, rfl, ho2, hb2⟩
      simp only [World.size_alloc] at ho2
      have hx2 : ∀ x, a2 = some x → g ≤ x.block ∧ x.block < w1.heap.size := fun x hx => by
        have := own_ltC ho2 x.block (by rw [hx]; rfl)
        omega
      have sl2 := own_slT ho2
      have G1 : w1.heap[wr.heap.size]? = some (.cells #[.int .i64 f, .string s, .slice ai m ci] 50 (0, 0)) := (hb2.block wr.heap.size (by simp)).trans (blk_new _ _)
      obtain ⟨g0, g1, g2, _, _, _⟩ := blk3 G1
      have hbb := ((Below.refl wr.heap.size wr).alloc (Nat.le_refl _) (.cells #[.int .i64 f, .string s, .slice ai m ci] 50 (0, 0))).trans (hb2.mono (by simp))
      have kB1 := (hbb.cell (p := ⟨w.heap.size, 1, none⟩) hwB).trans kB
      have hlt1 : g < w1.heap.size := by rw [hgq]; exact (Array.getElem?_eq_some_iff.1 G1).1
      have HS2 := hide sl2
      have HX2 := hide hx2
      have B1 := hide (BB.out.trans (hbb.mono BB.out.size))
      have R1 : Hid (Gro g w1.heap.size w.heap.size B w1 (.slice b1 N c1) A w1) := ⟨by rw [HNN.out]; exact own_belowC O.out hbb, fun q hq => .inl (by rw [hgq]; exact (own_ltC O.out q (by rw [← HNN.out]; exact hq)).2), fun _ _ _ => rfl, kB1, Nat.le_refl _, Below.refl _ _⟩
      rw [← hgq] at g0 hwB
      have HGQ := hide hgq
      clear ho2 hb2 G1 sl2 hbb kB hx2 kB1 g1 g2 hgq
      rw [← HGQ.out]
      go_wp2
      go_loopw [3, 18] (fun v i wr2 => ∃ t : Nat, t ≤ k ∧ i = .int .i64 t ∧ Gro g w1.heap.size w.heap.size B w1 v (A ++ fl B f s t) wr2) (fun _ i _ => k - (intOf i).toNat)
      case atStart => exact ⟨0, by omega, rfl, by rw [show fl B f s 0 = [] from rfl, List.append_nil]; exact R1.out⟩
      case round =>
        obtain ⟨t, ht, rfl, hgro⟩ := hrel
        obtain ⟨b3, c3, rfl, _, _⟩ := own_formT hgro.own
        have kB2 := hgro.cell
        have kf : wr.cell? ⟨g, 0, none⟩ = some (.int .i64 f) := by
          rw [← g0]
          unfold World.cell?
          simp only [hgro.kept g (Nat.le_refl _) hlt1]
        have hfll := fl_len B f s t
        by_cases hlt2 : t < k
        · obtain ⟨b4, o4, rfl, hc4⟩ := HS2.out t (by rw [rk_len]; exact hlt2)
          rw [show (rk s k).getD t e0 = rtx s (pl s 0 t) from rk_get s k t hlt2] at hc4
          have hc5 : wr.cell? ⟨b4, o4 + t, none⟩ = some (.string (rtx s (pl s 0 t))) := by
            have := HX2.out _ rfl
            rw [← hc4]
            unfold World.cell?
            simp only [hgro.kept b4 this.1 this.2]
          have hltI2 : (t : Int) < (k : Int) := by omega
          by_cases hB : B ≤ f + (t : Int)
          · have hfl := fl_yes (s := s) hB
            obtain ⟨y, hy⟩ : ∃ y, y = rtx s (pl s 0 t) := ⟨_, rfl⟩
            rw [← hy] at hc5 hfl
            have hE : A ++ fl B f s (t + 1) = (A ++ fl B f s t) ++ [y] := by rw [hfl, List.append_assoc]
            have HE := hide hE
            obtain ⟨D, hD⟩ : ∃ D, D = A ++ fl B f s t := ⟨_, rfl⟩
            rw [← hD] at hgro HE ⊢
            have hDl : D.length ≤ 1260 := by rw [hD, List.length_append]; have := HNN.out; omega
            obtain ⟨M, hM⟩ : ∃ M, M = D.length := ⟨_, rfl⟩
            have HG3 := hide hgro
            rw [← hM] at hDl ⊢
            have O3 := hide (show wr.ownsRow (w.heap.size + 1) 9 1 (.slice b3 M c3) M (mapT D) by rw [hM]; exact hgro.own)
            have hws : w.heap.size + 1 ≤ wr.heap.size := blk_lt kB2
            have HMM := hide hM
            clear hfl hy hE hD hM hgro hc4
            go_wp2_with (first
              | (at_builtin; refine wpList_append_own_at _ rfl _ _ 32 rfl (w.heap.size + 1) 9 i1 (.string ByteArray.empty) 1 16 Tryd.underlying32 hi1 hy0 hy1 hy2 rfl (by decide) _ _ _ rfl (O3.out.alloc _) ⟨wr.heap.size, 0, none⟩ 1 1 [.string y] rfl rfl (cell_one_newT _ _ rfl _ _) (by intro u hu; simp at hu; subst hu; rfl) (by unfold maxLen; omega) (by omega) (by simp; omega) ?_)
              | go_in)
            intro v6 w6 h6 g6 _ hat6
            have R6 := HG3.out.step (y := y) (Nat.le_refl _) (by omega) (by rw [← HMM.out]; exact h6) (by rw [← HMM.out]; exact g6) (by rw [← HMM.out]; simp only [World.size_alloc]; exact hat6)
            rw [← HE.out] at R6
            have HR6 := hide R6
            obtain ⟨a6, c6, e6, _, _⟩ := own_formT R6.own
            clear h6 g6 hat6 R6
            subst e6
            go_wp2
            go_roundw
            case rel => exact ⟨t + 1, by omega, by go_num, HR6.out⟩
            case measure => simp [intOf]; omega
          · have hfl := fl_no (s := s) hB
            obtain ⟨y, hy⟩ : ∃ y, y = rtx s (pl s 0 t) := ⟨_, rfl⟩
            rw [← hy] at hc5
            obtain ⟨D, hD⟩ : ∃ D, D = A ++ fl B f s t := ⟨_, rfl⟩
            have HE : Hid (A ++ fl B f s (t + 1) = D) := by show _ = D; rw [hfl, hD]
            rw [← hD] at hgro ⊢
            have HG3 := hide hgro
            clear hfl hy hD hgro hc4
            go_wp2
            go_roundw
            case rel => exact ⟨t + 1, by omega, by go_num, by rw [HE.out]; exact HG3.out⟩
            case measure => simp [intOf]; omega
        · obtain rfl : t = k := by omega
          have hltI2 : ¬ (t : Int) < (t : Int) := by omega
          rw [← HST.out] at hgro ⊢
          have HG3 := hide hgro
          clear hgro
          go_wp2
          go_roundw
          case rel => exact ⟨j + 1, by omega, by go_num, HG3.out.own, HG3.out.cell, B1.out.trans HG3.out.bel⟩
          case measure => simp [intOf]; omega
    · obtain rfl : j = n := by omega
      have hltI : ¬ (j : Int) < (j : Int) := by omega
      have O := hide hown
      rw [show alk L B j = allG L B by unfold allG; rw [HN.out]] at O ⊢
      clear hown
      go_wp2
      go_ret
      exact ⟨_, _, rfl, own_baseC O.out (by omega), hbel⟩

open Classical in
set_option maxRecDepth 100000 in
set_option maxHeartbeats 1000000 in
theorem specAllOf_any (a : Option Addr) (L : List Pc) (n cap : Nat) (B : Int) (w : World) (hn : L.length = n) (hm : n ≤ 9223372036854775807) (hs : SlC w a L) (hst : SzC L) (r : Option (List ByteArray)) (hr : r = allRes L B) :
    Calls Tryd.prog 11 #[.agg #[.slice a n cap, .int .i64 B]] w (RetT w r) := by
  obtain ⟨bk, hbk⟩ : ∃ bk : Bool, bk = true ↔ GoodG L B := ⟨decide (GoodG L B), by simp⟩
  have C1 := hide (fun wx (hb : Below w.heap.size w wx) => specGoodLog_any a L n cap B wx hn hm (hs.below hb) hst bk hbk)
  cases bk with
  | false =>
    have hrn : r = none := by rw [hr]; unfold allRes; rw [if_neg (fun h => absurd (hbk.2 h) (by simp))]
    subst hrn
    clear hr hs hn hst hbk
    go_enter Tryd.func11, Tryd.ntmps11
    go_wp2_with fail
    refine (C1.out _ ((Below.refl _ _).alloc (Nat.le_refl _) _)).mono ?_
    rintro e w1 ⟨rfl, hb1⟩
    have B1 := hide (((Below.refl w.heap.size w).alloc (Nat.le_refl _) (.cells #[.slice a n cap, .int .i64 B] 25 (0, 0))).trans (hb1.mono (by simp)))
    clear hb1
    go_wp2
    go_ret2
    exact retT_none B1.out
  | true =>
    have hg := hbk.1 rfl
    have hrn : r = some (allG L B) := by rw [hr]; unfold allRes; rw [if_pos hg]
    subst hrn
    have C2 := hide (fun wx (hb : Below w.heap.size w wx) => l6All_any a L n cap B wx hn (hs.below hb) hg)
    unfold RetT
    simp only [Option.getD_some, Option.isSome_some]
    obtain ⟨D, hD⟩ : ∃ D, D = allG L B := ⟨_, rfl⟩
    rw [← hD] at C2 ⊢
    obtain ⟨N, hN⟩ : ∃ N, N = D.length := ⟨_, rfl⟩
    rw [← hN] at C2 ⊢
    clear hr hs hn hst hbk hg hD hN
    go_enter Tryd.func11, Tryd.ntmps11
    go_wp2_with fail
    refine (C1.out _ ((Below.refl _ _).alloc (Nat.le_refl _) _)).mono ?_
    rintro e w1 ⟨rfl, hb1⟩
    have B1 := hide (((Below.refl w.heap.size w).alloc (Nat.le_refl _) (.cells #[.slice a n cap, .int .i64 B] 25 (0, 0))).trans (hb1.mono (by simp)))
    obtain ⟨k0, k1⟩ := blk2s ((hb1.block w.heap.size (by simp)).trans (blk_new _ _))
    clear hb1
    go_wp2_with fail
    refine (C2.out _ B1.out).mono ?_
    rintro e w2 ⟨a2, c2, rfl, ho2, hb2⟩
    have B2 := hide (B1.out.trans (hb2.mono B1.out.size))
    have O2 := hide (own_baseC ho2 B1.out.size)
    clear hb2 ho2
    go_wp2
    go_ret2
    exact ⟨_, rfl, O2.out, B2.out⟩
end Go.Proofs.YtbcljhafdpnjbabDoor.L6

namespace Go.Proofs.YtbcljhafdpnjbabDoor.L6
open Go.RowKit L1
set_option linter.unusedVariables false

open Classical in
set_option maxRecDepth 100000 in
set_option maxHeartbeats 4000000 in
theorem specReadAt_any (a : Option Addr) (L : List Pc) (n cap : Nat) (B o : Int) (w : World) (hn : L.length = n) (hm : n ≤ 9223372036854775807) (hs : SlC w a L) (hst : SzC L) (r : ByteArray) (ok : Bool) (hr : readRes L B o = if ok then some r else none) (hr0 : ok = false → r = ByteArray.empty) :
    Calls Tryd.prog 21 #[.agg #[.slice a n cap, .int .i64 B], .int .i64 o] w fun e w' => e = .returned (.tuple #[.string r, .bool ok]) ∧ Below w.heap.size w w' := by
  obtain ⟨bk, hbk⟩ : ∃ bk : Bool, bk = true ↔ GoodG L B := ⟨decide (GoodG L B), by simp⟩
  have C1 := hide (fun wx (hb : Below w.heap.size w wx) => specGoodLog_any a L n cap B wx hn hm (hs.below hb) hst bk hbk)
  have hno : ¬ (GoodG L B ∧ B ≤ o ∧ o < endg L) → ok = false ∧ r = ByteArray.empty := fun h => by
    unfold readRes at hr
    rw [if_neg h] at hr
    cases ok with
    | false => exact ⟨rfl, hr0 rfl⟩
    | true => simp at hr
  cases bk with
  | false =>
    obtain ⟨rfl, rfl⟩ := hno (fun h => absurd (hbk.2 h.1) (by simp))
    clear hr hs hn hst hbk hr0 hno
    go_enter Tryd.func21, Tryd.ntmps21
    go_wp2_with fail
    refine (C1.out _ ((Below.refl _ _).alloc (Nat.le_refl _) _)).mono ?_
    rintro e w1 ⟨rfl, hb1⟩
    have B1 := hide (((Below.refl w.heap.size w).alloc (Nat.le_refl _) (.cells #[.slice a n cap, .int .i64 B] 25 (0, 0))).trans (hb1.mono (by simp)))
    obtain ⟨k0, k1⟩ := blk2s ((hb1.block w.heap.size (by simp)).trans (blk_new _ _))
    clear hb1
    go_wp2
    go_ret2
    exact ⟨rfl, B1.out⟩
  | true =>
    have hg := hbk.1 rfl
    have hle := hg.last hn
    have hbd := hg.end0
    have C3 := hide (fun wx (hb : Below w.heap.size w wx) => l6End_good a L n cap B wx hn (hs.below hb) hg B)
    obtain ⟨E, hE⟩ : ∃ E, E = lastEnd L n := ⟨_, rfl⟩
    rw [← hE] at C3 hle
    by_cases h1 : o < B
    · obtain ⟨rfl, rfl⟩ := hno (fun h => by have := h.2.1; omega)
      clear hr hs hn hst hbk hr0 hno hg hle hbd C3 hE
      go_enter Tryd.func21, Tryd.ntmps21
      go_wp2_with fail
      refine (C1.out _ ((Below.refl _ _).alloc (Nat.le_refl _) _)).mono ?_
      rintro e w1 ⟨rfl, hb1⟩
      have B1 := hide (((Below.refl w.heap.size w).alloc (Nat.le_refl _) (.cells #[.slice a n cap, .int .i64 B] 25 (0, 0))).trans (hb1.mono (by simp)))
      obtain ⟨k0, k1⟩ := blk2s ((hb1.block w.heap.size (by simp)).trans (blk_new _ _))
      clear hb1
      go_wp2
      go_ret2
      exact ⟨rfl, B1.out⟩
    · by_cases h2 : E ≤ o
      · obtain ⟨rfl, rfl⟩ := hno (fun h => by have := h.2.2; omega)
        clear hr hs hn hst hbk hr0 hno hg hle hbd hE
        go_enter Tryd.func21, Tryd.ntmps21
        go_wp2_with fail
        refine (C1.out _ ((Below.refl _ _).alloc (Nat.le_refl _) _)).mono ?_
        rintro e w1 ⟨rfl, hb1⟩
        have B1 := hide (((Below.refl w.heap.size w).alloc (Nat.le_refl _) (.cells #[.slice a n cap, .int .i64 B] 25 (0, 0))).trans (hb1.mono (by simp)))
        obtain ⟨k0, k1⟩ := blk2s ((hb1.block w.heap.size (by simp)).trans (blk_new _ _))
        clear hb1
        go_wp2_with fail
        refine (C3.out _ B1.out).mono ?_
        rintro e w2 ⟨rfl, hb2⟩
        have B2 := hide (B1.out.trans (hb2.mono B1.out.size))
        have k0' := (hb2.cell (p := ⟨w.heap.size, 0, none⟩) (blk_lt k0)).trans k0
        have k1' := (hb2.cell (p := ⟨w.heap.size, 1, none⟩) (blk_lt k1)).trans k1
        clear hb2 k0 k1
        go_wp2
        go_ret2
        exact ⟨rfl, B2.out⟩
      · have hyes : GoodG L B ∧ B ≤ o ∧ o < endg L := ⟨hg, by omega, by omega⟩
        have hrr : ok = true ∧ r = rdAt L o := by
          unfold readRes at hr
          rw [if_pos hyes] at hr
          cases ok with
          | false => simp at hr
          | true => simp at hr; exact ⟨rfl, hr.symm⟩
        obtain ⟨rfl, rfl⟩ := hrr
        have hrd := hg.read hyes.2.1 hyes.2.2
        have hal := all_len hg
        obtain ⟨t, htt⟩ : ∃ t, t = (o - B).toNat := ⟨_, rfl⟩
        rw [← htt] at hrd
        have hof : o - B = (t : Int) := by omega
        have htl : t < (allG L B).length := by omega
        have hwr : IntKind.i64.wrap (o - B) = (t : Int) := by rw [hof]; exact wrap6 (by omega) (by omega)
        obtain ⟨y, hy⟩ : ∃ y, y = rdAt L o := ⟨_, rfl⟩
        rw [← hy] at hrd ⊢
        have C4 := hide (fun wx (hb : Below w.heap.size w wx) => (l6All_any a L n cap B wx hn (hs.below hb) hg).mono (R' := fun e w' => ∃ b5 o5 c5, e = .returned (.slice (some ⟨b5, o5, none⟩) (allG L B).length c5) ∧ w'.cell? ⟨b5, o5 + t, none⟩ = some (.string y) ∧ Below wx.heap.size wx w') (by
          rintro e w' ⟨a', c', rfl, ho, hb'⟩
          obtain ⟨b5, o5, rfl, hc⟩ := own_slT ho t htl
          rw [show (allG L B).getD t e0 = y from hrd] at hc
          exact ⟨b5, o5, c', rfl, hc, hb'⟩))
        obtain ⟨N, hN⟩ : ∃ N, N = (allG L B).length := ⟨_, rfl⟩
        rw [← hN] at C4 htl
        have htI : (t : Int) < (N : Int) := by omega
        have ht0 : (0 : Int) ≤ (t : Int) := by omega
        clear hr hs hn hst hbk hr0 hno hg hle hbd hE hyes hrd hal htt hof hy hN
        go_enter Tryd.func21, Tryd.ntmps21
        go_wp2_with fail
        refine (C1.out _ ((Below.refl _ _).alloc (Nat.le_refl _) _)).mono ?_
        rintro e w1 ⟨rfl, hb1⟩
        have B1 := hide (((Below.refl w.heap.size w).alloc (Nat.le_refl _) (.cells #[.slice a n cap, .int .i64 B] 25 (0, 0))).trans (hb1.mono (by simp)))
        obtain ⟨k0, k1⟩ := blk2s ((hb1.block w.heap.size (by simp)).trans (blk_new _ _))
        clear hb1
        go_wp2_with fail
        refine (C3.out _ B1.out).mono ?_
        rintro e w2 ⟨rfl, hb2⟩
        have B2 := hide (B1.out.trans (hb2.mono B1.out.size))
        have k0' := (hb2.cell (p := ⟨w.heap.size, 0, none⟩) (blk_lt k0)).trans k0
        have k1' := (hb2.cell (p := ⟨w.heap.size, 1, none⟩) (blk_lt k1)).trans k1
        clear hb2 k0 k1
        go_wp2
        have htI2 : (t : Int) < (N : Int) := by omega
        have ht02 : (0 : Int) ≤ (t : Int) := by omega
        go_region_with (go_at_call 44; refine (C4.out _ (B2.out.trans (((by first | exact Below.refl _ _ | exact (Below.refl _ _).drew) : Below w2.heap.size w2 _).mono B2.out.size))).mono ?_; rintro e w5 ⟨b5, o5, c5, rfl, hc5, hb5⟩; (have k9 := (hb5.cell (p := ⟨w.heap.size, 1, none⟩) (blk_lt k1')).trans k1'))
        all_goals (
          have B5 := hide (B2.out.trans ((((Below.refl w2.heap.size w2).drew).trans (hb5.mono (Nat.le_refl _))).mono B2.out.size))
          clear hb5
          go_wp2
          go_ret2
          exact ⟨rfl, B5.out⟩)
end Go.Proofs.YtbcljhafdpnjbabDoor.L6

namespace Go.Proofs.YtbcljhafdpnjbabDoor.L6
open Go.RowKit L1
set_option linter.unusedVariables false

open Classical in
set_option maxRecDepth 100000 in
set_option maxHeartbeats 4000000 in
theorem implAllOf_any (a : Option Addr) (L : List Pc) (n cap : Nat) (B : Int) (w : World) (hn : L.length = n) (hm : n ≤ 9223372036854775807) (hs : SlC w a L) (hst : TxC L) (ht : Tab w) (r : Option (List ByteArray)) (hr : r = allRes L B) :
    Calls Tryd.prog 10 #[.agg #[.slice a n cap, .int .i64 B]] w (RetT w r) := by
  obtain ⟨bk, hbk⟩ : ∃ bk : Bool, bk = true ↔ GoodG L B := ⟨decide (GoodG L B), by simp⟩
  have C1 := hide (fun wx (hb : Below w.heap.size w wx) => goodLog_any a L n cap B wx hn hm (hs.below hb) hst (ht.below hb) bk hbk)
  cases bk with
  | false =>
    have hrn : r = none := by rw [hr]; unfold allRes; rw [if_neg (fun h => absurd (hbk.2 h) (by simp))]
    subst hrn
    clear hr hs hn hst hbk ht
    go_enter Tryd.func10, Tryd.ntmps10
    go_wp2_with fail
    refine (C1.out _ ((Below.refl _ _).alloc (Nat.le_refl _) _)).mono ?_
    rintro e w1 ⟨rfl, hb1⟩
    have B1 := hide (((Below.refl w.heap.size w).alloc (Nat.le_refl _) (.cells #[.slice a n cap, .int .i64 B] 25 (0, 0))).trans (hb1.mono (by simp)))
    clear hb1
    go_wp2
    go_ret2
    exact retT_none B1.out
  | true =>
    have hg := hbk.1 rfl
    have hrn : r = some (allG L B) := by rw [hr]; unfold allRes; rw [if_pos hg]
    subst hrn
    unfold RetT
    simp only [Option.getD_some, Option.isSome_some]
    obtain ⟨i1, hi1, hy0, hy1, hy2⟩ := info_parts info_str6
    have HS := hide hs
    have HN := hide hn
    have HG := hide hg
    have HT := hide ht
    have hn20 : n ≤ 20 := by have := hg.many; omega
    have hbd := hg.end0
    have HLE := hide (alk_len_le (L := L) (B := B) (fun j hj => good_cnt (hg.ps j hj).1))
    clear hs hn hg hst hbk hr ht
    go_enter Tryd.func10, Tryd.ntmps10
    go_wp2_with fail
    refine (C1.out _ ((Below.refl _ _).alloc (Nat.le_refl _) _)).mono ?_
    rintro e w0 ⟨rfl, hb1⟩
    have B0 := hide (((Below.refl w.heap.size w).alloc (Nat.le_refl _) (.cells #[.slice a n cap, .int .i64 B] 25 (0, 0))).trans (hb1.mono (by simp)))
    obtain ⟨k0, k1⟩ := blk2 ((hb1.block w.heap.size (by simp)).trans (blk_new _ _))
    clear hb1
    go_wp2
    go_loopw [4, 20] (fun v i wr => ∃ j : Nat, j ≤ n ∧ i = .int .i64 j ∧ wr.ownsRow (w.heap.size + 1) 9 1 v (alk L B j).length (mapT (alk L B j)) ∧ wr.cell? ⟨w.heap.size, 1, none⟩ = some (.int .i64 B) ∧ Below w.heap.size w wr) (fun _ i _ => n - (intOf i).toNat)
    case atStart => exact ⟨0, by omega, rfl, World.ownsRow_nil _ _ _ _, k1, B0.out⟩
    case round =>
      obtain ⟨j, hj, rfl, hown, kB, hbel⟩ := hrel
      obtain ⟨b1, c1, rfl, _, _⟩ := own_formT hown
      by_cases hlt : j < n
      · obtain ⟨b, off, rfl, ai, ci, hat⟩ := HS.out.below hbel j (by rw [HN.out]; exact hlt)
        have hok := HG.out.ps j (by rw [HN.out]; exact hlt)
        have hs60 := hok.1.1
        have hc60 := good_cnt hok.1
        have hf := hok.2.1
        have hgb := atg_bd L j (fun i hi => (HG.out.ps i (by rw [HN.out]; omega)).1)
        have hf0 := HG.out.f0
        have hf1 := HG.out.f1
        have hstep : alk L B (j + 1) = alk L B j ++ fl B (gc L j).f (gc L j).s (cnt (gc L j).s) := rfl
        have hlen := HLE.out j (by rw [HN.out]; exact hj)
        have d1 := hat.f
        have d2 := hat.s
        have d3 := hat.x
        obtain ⟨p, hp⟩ : ∃ p, p = gc L j := ⟨_, rfl⟩
        rw [show L.getD j eC = p from hp.symm] at d1 d2 d3
        rw [← hp] at hs60 hc60 hf hstep
        obtain ⟨f, s, x⟩ := p
        simp only at d1 d2 d3 hs60 hc60 hf hstep
        obtain ⟨m, hm⟩ : ∃ m, m = x.length := ⟨_, rfl⟩
        rw [← hm] at d3
        have hfb : 0 ≤ f ∧ f ≤ 102000 := by omega
        obtain ⟨A, hA⟩ : ∃ A, A = alk L B j := ⟨_, rfl⟩
        rw [← hA] at hown hstep hlen ⊢
        have C := hide (fun wx (hb : Below w.heap.size w wx) => recordStarts_any s wx (by omega) (HT.out.below hb))
        have CR := hide (fun (t : Nat) (h : t < cnt s) wx (hb : Below w.heap.size w wx) => by
          obtain ⟨c, z, hrc, hnx⟩ := cnt_rc s t h
          have := recordAt_some s (pl s 0 t) c z wx hrc (by omega) (HT.out.below hb)
          exact this)
        obtain ⟨k, hk⟩ : ∃ k, k = cnt s := ⟨_, rfl⟩
        rw [← hk] at C hc60 hstep CR
        obtain ⟨kw, hkw⟩ : ∃ kw, kw = wh s := ⟨_, rfl⟩
        rw [← hkw] at C
        have hltI : (j : Int) < (n : Int) := by omega
        have HST := hide hstep
        have O := hide hown
        have BB := hide hbel
        have hwB : w.heap.size < wr.heap.size := blk_lt kB
        obtain ⟨g, hgq⟩ : ∃ g, g = wr.heap.size := ⟨_, rfl⟩
        obtain ⟨N, hN⟩ : ∃ N, N = A.length := ⟨_, rfl⟩
        rw [← hN] at hlen ⊢
        have HNN := hide hN
        have HKK := hide hk
        clear hat hok hf hgb hf0 hf1 hstep hp hm hA hk hown hbel hN hkw
        go_wp2_with fail
        refine (C.out _ (BB.out.alloc BB.out.size _)).mono ?_
        rintro e w1 ⟨v2, rfl, ho2, hb2⟩
        obtain ⟨a2, c2, rfl, sl2, _⟩ := own_form ho2
        simp only [World.size_alloc] at ho2
        have hx2 : ∀ x, a2 = some x → g ≤ x.block ∧ x.block < w1.heap.size := fun x hx => by
          have := own_ltC ho2 x.block (by rw [hx]; rfl)
          omega
        have G1 : w1.heap[wr.heap.size]? = some (.cells #[.int .i64 f, .string s, .slice ai m ci] 50 (0, 0)) := (hb2.block wr.heap.size (by simp)).trans (blk_new _ _)
        obtain ⟨g0, g1, g2, _, _, _⟩ := blk3 G1
        have hbb := ((Below.refl wr.heap.size wr).alloc (Nat.le_refl _) (.cells #[.int .i64 f, .string s, .slice ai m ci] 50 (0, 0))).trans (hb2.mono (by simp))
        have kB1 := (hbb.cell (p := ⟨w.heap.size, 1, none⟩) hwB).trans kB
        have hlt1 : g < w1.heap.size := by rw [hgq]; exact (Array.getElem?_eq_some_iff.1 G1).1
        have HS2 := hide sl2
        have HX2 := hide hx2
        have B1 := hide (BB.out.trans (hbb.mono BB.out.size))
        have R1 : Hid (Gro g w1.heap.size w.heap.size B w1 (.slice b1 N c1) A w1) := ⟨by rw [HNN.out]; exact own_belowC O.out hbb, fun q hq => .inl (by rw [hgq]; exact (own_ltC O.out q (by rw [← HNN.out]; exact hq)).2), fun _ _ _ => rfl, kB1, Nat.le_refl _, Below.refl _ _⟩
        rw [← hgq] at g0 g1 hwB
        have HGQ := hide hgq
        clear ho2 hb2 G1 sl2 hbb kB hx2 kB1 g2 hgq
        rw [← HGQ.out]
        go_wp2
        go_loopw [4, 32] (fun v i wr2 => ∃ t : Nat, t ≤ k ∧ i = .int .i64 t ∧ Gro g w1.heap.size w.heap.size B w1 v (A ++ fl B f s t) wr2) (fun _ i _ => k - (intOf i).toNat)
        case atStart => exact ⟨0, by omega, rfl, by rw [show fl B f s 0 = [] from rfl, List.append_nil]; exact R1.out⟩
        case round =>
          obtain ⟨t, ht, rfl, hgro⟩ := hrel
          obtain ⟨b3, c3, rfl, _, _⟩ := own_formT hgro.own
          have kB2 := hgro.cell
          have kf : wr.cell? ⟨g, 0, none⟩ = some (.int .i64 f) := by
            rw [← g0]
            unfold World.cell?
            simp only [hgro.kept g (Nat.le_refl _) hlt1]
          have ks : wr.cell? ⟨g, 1, none⟩ = some (.string s) := by
            rw [← g1]
            unfold World.cell?
            simp only [hgro.kept g (Nat.le_refl _) hlt1]
          have hfll := fl_len B f s t
          by_cases hlt2 : t < k
          · obtain ⟨b4, o4, rfl, hc4⟩ := HS2.out t (by rw [stk_len, ← HKK.out]; exact hlt2)
            rw [stk_get s (cnt s) t (by rw [← HKK.out]; exact hlt2)] at hc4
            have hc5 : wr.cell? ⟨b4, o4 + t, none⟩ = some (.int .i64 (pl s 0 t : Nat)) := by
              have := HX2.out _ rfl
              rw [← hc4]
              unfold World.cell?
              simp only [hgro.kept b4 this.1 this.2]
            have C3 := hide (CR.out t hlt2 wr (B1.out.trans hgro.bel))
            have hltI2 : (t : Int) < (k : Int) := by omega
            obtain ⟨x1, hx1⟩ : ∃ x1, x1 = pl s 0 t := ⟨_, rfl⟩
            by_cases hB : B ≤ f + (t : Int)
            · have hfl := fl_yes (s := s) hB
              rw [← hx1] at hc5 C3 hfl
              obtain ⟨y, hy⟩ : ∃ y, y = rtx s x1 := ⟨_, rfl⟩
              rw [← hy] at C3 hfl
              obtain ⟨x2, hx2⟩ : ∃ x2, x2 = nx s x1 := ⟨_, rfl⟩
              rw [← hx2] at C3
              have hE : A ++ fl B f s (t + 1) = (A ++ fl B f s t) ++ [y] := by rw [hfl, List.append_assoc]
              have HE := hide hE
              obtain ⟨D, hD⟩ : ∃ D, D = A ++ fl B f s t := ⟨_, rfl⟩
              rw [← hD] at hgro HE ⊢
              have hDl : D.length ≤ 1260 := by rw [hD, List.length_append]; have := HNN.out; omega
              obtain ⟨M, hM⟩ : ∃ M, M = D.length := ⟨_, rfl⟩
              have HG3 := hide hgro
              rw [← hM] at hDl ⊢
              have O3 := hide (show wr.ownsRow (w.heap.size + 1) 9 1 (.slice b3 M c3) M (mapT D) by rw [hM]; exact hgro.own)
              have hws : w.heap.size + 1 ≤ wr.heap.size := blk_lt kB2
              have HMM := hide hM
              clear hfl hy hE hD hM hgro hc4 hx1 hx2
              go_wp2_with fail
              refine C3.out.mono ?_
              rintro e w2 ⟨rfl, rfl⟩
              go_wp2_with (first
                | (at_builtin; refine wpList_append_own_at _ rfl _ _ 32 rfl (w.heap.size + 1) 9 i1 (.string ByteArray.empty) 1 16 Tryd.underlying32 hi1 hy0 hy1 hy2 rfl (by decide) _ _ _ rfl (O3.out.alloc _) ⟨wr.heap.size, 0, none⟩ 1 1 [.string y] rfl rfl (cell_one_newT _ _ rfl _ _) (by intro u hu; simp at hu; subst hu; rfl) (by unfold maxLen; omega) (by omega) (by simp; omega) ?_)
                | go_in)
              intro v6 w6 h6 g6 _ hat6
              have R6 := HG3.out.step (y := y) (Nat.le_refl _) (by omega) (by rw [← HMM.out]; exact h6) (by rw [← HMM.out]; exact g6) (by rw [← HMM.out]; simp only [World.size_alloc]; exact hat6)
              rw [← HE.out] at R6
              have HR6 := hide R6
              obtain ⟨a6, c6, e6, _, _⟩ := own_formT R6.own
              clear h6 g6 hat6 R6
              subst e6
              go_wp2
              go_roundw
              case rel => exact ⟨t + 1, by omega, by go_num, HR6.out⟩
              case measure => simp [intOf]; omega
            · have hfl := fl_no (s := s) hB
              rw [← hx1] at hc5 C3
              obtain ⟨y, hy⟩ : ∃ y, y = rtx s x1 := ⟨_, rfl⟩
              rw [← hy] at C3
              obtain ⟨x2, hx2⟩ : ∃ x2, x2 = nx s x1 := ⟨_, rfl⟩
              rw [← hx2] at C3
              obtain ⟨D, hD⟩ : ∃ D, D = A ++ fl B f s t := ⟨_, rfl⟩
              have HE : Hid (A ++ fl B f s (t + 1) = D) := by show _ = D; rw [hfl, hD]
              rw [← hD] at hgro ⊢
              have HG3 := hide hgro
              clear hfl hy hD hgro hc4 hx1 hx2
              go_wp2_with fail
              refine C3.out.mono ?_
              rintro e w2 ⟨rfl, rfl⟩
              go_wp2
              go_roundw
              case rel => exact ⟨t + 1, by omega, by go_num, by rw [HE.out]; exact HG3.out⟩
              case measure => simp [intOf]; omega
          · obtain rfl : t = k := by omega
            have hltI2 : ¬ (t : Int) < (t : Int) := by omega
            rw [← HST.out] at hgro ⊢
            have HG3 := hide hgro
            clear hgro
            go_wp2
            go_roundw
            case rel => exact ⟨j + 1, by omega, by go_num, HG3.out.own, HG3.out.cell, B1.out.trans HG3.out.bel⟩
            case measure => simp [intOf]; omega
      · obtain rfl : j = n := by omega
        have hltI : ¬ (j : Int) < (j : Int) := by omega
        have O := hide hown
        rw [show alk L B j = allG L B by unfold allG; rw [HN.out]] at O ⊢
        clear hown
        go_wp2
        go_ret2
        exact ⟨_, rfl, own_baseC O.out (by omega), hbel⟩
end Go.Proofs.YtbcljhafdpnjbabDoor.L6

namespace Go.Proofs.YtbcljhafdpnjbabDoor.L1
open Go.RowKit
set_option linter.unusedVariables false

theorem Slb.below {w w' : World} {a : Option Addr} {n : Nat} (h : Slb w w.heap.size a n) (hb : Below w.heap.size w w') : Slb w' w'.heap.size a n := fun i hi => by
  obtain ⟨bb, off, x, ha, hlt, hc, hx⟩ := h i hi
  exact ⟨bb, off, x, ha, by have := hb.size; omega, by rw [hb.cell (p := ⟨bb, off + i, none⟩) hlt]; exact hc, hx⟩
theorem sl_len {w : World} {k : IntKind} {a : Option Addr} {len cap : Nat} {zs : List Int} (h : IsRow k w a len cap zs) : len ≤ 9223372036854775807 := by
  rcases h with ⟨_, rfl, _⟩ | ⟨x, _, hl, hm, _⟩
  · omega
  · unfold maxLen at hm; omega
theorem slb_of_row {w : World} {a : Option Addr} {len cap : Nat} {zs : List Int} (h : IsRow .u8 w a len cap zs) : Slb w w.heap.size a len := by
  rcases h with ⟨rfl, rfl, rfl, rfl⟩ | ⟨x, rfl, hl, hm, hz, hc, hwf⟩
  · exact fun i hi => absurd hi (Nat.not_lt_zero _)
  · intro i hi
    have hi' : i < zs.length := by omega
    have h0 := hc i hi'
    obtain ⟨b, off, spot⟩ := x
    have hspot : spot = none := by
      have h00 := hc 0 (by omega)
      simpa [Addr.add] using World.cell?_spot h00
    subst hspot
    have e : (⟨b, off, none⟩ : Addr).add i = ⟨b, off + i, none⟩ := by unfold Addr.add; split <;> simp_all
    rw [e] at h0
    have hw := hwf (zs.getD i 0) (by rw [List.getD, List.getElem?_eq_getElem hi']; simp)
    have hb := bounds_u8 hw
    exact ⟨b, off, zs.getD i 0, rfl, blk_lt h0, h0, by omega, by omega⟩
end Go.Proofs.YtbcljhafdpnjbabDoor.L1
