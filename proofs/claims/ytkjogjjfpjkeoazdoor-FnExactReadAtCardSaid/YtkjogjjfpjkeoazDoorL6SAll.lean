/-
  Contracts: spec.l6Records, spec.l6All.
-/
import Derived.Test.YtkjogjjfpjkeoazDoorL6SEnd
import Derived.Test.YtkjogjjfpjkeoazDoorL6Gro
namespace Go.Proofs.YtkjogjjfpjkeoazDoor.L6
open Go.RowKit L1
set_option linter.unusedVariables false

theorem slice_rec6 (w : World) (s : ByteArray) (c n : Nat) (h : c + n ≤ s.size) :
    (Instr.slice 9 (.string s) (some (.int .i64 (c : Int))) (some (.int .i64 ((c : Int) + (n : Int)))) none).run Tryd.prog w = .ok (.string (s.extract c (c + n))) w := by
  have h := run_slice_string (P := Tryd.prog) w 9 s .i64 .i64 (c : Int) ((c : Int) + (n : Int)) Tryd.underlying9 (by omega) (by omega) (by omega)
  rw [h]
  congr 4

set_option maxRecDepth 100000 in
set_option maxHeartbeats 2000000 in
theorem l6Records_any (f : Int) (s : ByteArray) (a : Option Addr) (m q : Nat) (w : World) (hs : s.size ≤ 60) :
    Calls Tryd.prog 64 #[.agg #[.int .i64 f, .string s, .slice a m q]] w fun e w' => ∃ a' c', e = .returned (.slice a' (cnt s) c') ∧ w'.ownsRow w.heap.size 9 1 (.slice a' (cnt s) c') (cnt s) (mapT (rk s (cnt s))) ∧ Below w.heap.size w w' := by
  obtain ⟨i1, hi1, hy0, hy1, hy2⟩ := info_parts info_str6
  have C1 := hide (fun w => l6Starts_any s w (by omega))
  have hcl := cnt_le s
  obtain ⟨n, hn⟩ : ∃ n, n = cnt s := ⟨_, rfl⟩
  rw [← hn] at C1 hcl ⊢
  obtain ⟨kk, hkk⟩ : ∃ kk, kk = wh s := ⟨_, rfl⟩
  rw [← hkk] at C1
  have HN := hide hn
  clear hkk hn
  go_enter Tryd.func64, Tryd.ntmps64
  go_wp2_with fail
  refine (C1.out _).mono ?_
  rintro e w1 ⟨v1, rfl, ho1, hb1⟩
  obtain ⟨a1, q1, rfl, s1, _⟩ := own_form ho1
  have G1 : w1.heap[w.heap.size]? = some (.cells #[.int .i64 f, .string s, .slice a m q] 51 (0, 0)) := (hb1.block w.heap.size (by simp)).trans (blk_new _ _)
  obtain ⟨g0, g1, g2, _, _, _⟩ := blk3 G1
  have B1 := hide (((Below.refl w.heap.size w).alloc (Nat.le_refl _) (.cells #[.int .i64 f, .string s, .slice a m q] 51 (0, 0))).trans (hb1.mono (by simp)))
  have HS1 := hide s1
  have hw1 := B1.out.size
  clear ho1 hb1 G1 s1
  go_wp2
  go_loopw [3, 18] (fun v i wr => ∃ j : Nat, j ≤ n ∧ i = .int .i64 j ∧ wr.ownsRow w1.heap.size 9 1 v j (mapT (rk s j)) ∧ Below w1.heap.size w1 wr) (fun _ i _ => n - (intOf i).toNat)
  case atStart => exact ⟨0, by omega, rfl, World.ownsRow_nil _ _ _ _, Below.refl _ _⟩
  case round =>
    obtain ⟨j, hj, rfl, hown, hbel⟩ := hrel
    obtain ⟨b1, c1, rfl, _, _⟩ := own_formT hown
    by_cases hlt : j < n
    · obtain ⟨b, off, rfl, hc0⟩ := HS1.out j (by rw [stk_len, ← HN.out]; exact hlt)
      have hc := (hbel.cell (p := ⟨b, off + j, none⟩) (blk_lt hc0)).trans hc0
      rw [stk_get s (cnt s) j (by rw [← HN.out]; exact hlt)] at hc
      obtain ⟨c, z, hrc, hnx⟩ := cnt_rc s j (by rw [← HN.out]; exact hlt)
      have hrtx := rtx_some hrc
      obtain ⟨l, hg, hz, hcc, hzn, hle⟩ := rc_gv hrc
      have hps2 : pl s 0 j < s.size := by have := rc_lt hrc; omega
      have C := hide (l1Get_any s (pl s 0 j) wr hps2 (by omega))
      rw [hg] at C
      simp only [lgRes, hz, ← hcc] at C
      have hsk := rk_succ s j
      rw [hrtx] at hsk
      have q2 := fun w => slice_rec6 w s c z hle
      obtain ⟨p, hp⟩ : ∃ p, p = pl s 0 j := ⟨_, rfl⟩
      rw [← hp] at C hc
      obtain ⟨y, hy⟩ : ∃ y, y = s.extract c (c + z) := ⟨_, rfl⟩
      rw [← hy] at q2 hsk
      have hltI : (j : Int) < (n : Int) := by omega
      have k1 := (hbel.cell (p := ⟨w.heap.size, 1, none⟩) (blk_lt g1)).trans g1
      have HSK := hide hsk
      have O := hide hown
      have B := hide hbel
      clear hc0 hrc hnx hrtx hg hz hcc hsk hp hy hown hbel hps2
      go_wp2_with fail
      refine C.out.mono ?_
      rintro e w2 ⟨rfl, hb2⟩
      have k2 := (hb2.cell (p := ⟨w.heap.size, 1, none⟩) (blk_lt k1)).trans k1
      have O2 := hide (own_belowC O.out hb2)
      have B2 := hide (B.out.trans (hb2.mono B.out.size))
      clear hb2 k1
      go_wp2_with (first
        | (at_builtin; refine wpList_append_own _ rfl _ _ 42 rfl w1.heap.size 9 i1 (.string ByteArray.empty) 1 16 Tryd.underlying42 hi1 hy0 hy1 hy2 rfl (by decide) _ _ _ rfl (O2.out.alloc _) ⟨w2.heap.size, 0, none⟩ 1 1 [.string y] rfl rfl (cell_one_newT _ _ rfl _ _) (by intro u hu; simp at hu; subst hu; rfl) (by unfold maxLen; omega) (by omega) (by have := B2.out.size; simp; omega) ?_)
        | go_in)
      intro v6 w6 h6 g6 _
      have hbase : w1.heap.size ≤ (w2.alloc (.cells #[.string y] 9)).heap.size := by have := B2.out.size; simp; omega
      have O6 : w6.ownsRow w1.heap.size 9 1 v6 (j + 1) (mapT (rk s (j + 1))) := by
        rw [HSK.out]
        unfold mapT
        rw [List.map_append]
        exact h6
      have B6 := (B2.out.alloc (Nat.le_trans B2.out.size (Nat.le_refl _)) _).grown g6 hbase (fun k hk => (O2.out.lt k hk).1)
      have HR := hide (And.intro O6 B6)
      obtain ⟨a6, c6, rfl, _, _⟩ := own_formT O6
      clear h6 g6 O6 B6 hbase
      go_wp2
      go_roundw
      case rel => exact ⟨j + 1, by omega, by go_num, HR.out⟩
      case measure => simp [intOf]; omega
    · obtain rfl : j = n := by omega
      have hltI : ¬ (j : Int) < (j : Int) := by omega
      have O := hide hown
      clear hown
      go_wp2
      go_ret
      exact ⟨_, _, rfl, own_baseC O.out hw1, B1.out.trans (hbel.mono hw1)⟩

set_option maxRecDepth 100000 in
set_option maxHeartbeats 4000000 in
theorem l6All_any (a : Option Addr) (L : List Pc) (n cap : Nat) (B : Int) (w : World) (hn : L.length = n) (hs : SlC w a L) (hg : GoodG L B) :
    Calls Tryd.prog 43 #[.agg #[.slice a n cap, .int .i64 B]] w fun e w' => ∃ a' c', e = .returned (.slice a' (allG L B).length c') ∧ w'.ownsRow w.heap.size 9 1 (.slice a' (allG L B).length c') (allG L B).length (mapT (allG L B)) ∧ Below w.heap.size w w' := by
  obtain ⟨i1, hi1, hy0, hy1, hy2⟩ := info_parts info_str6
  have HS := hide hs
  have HN := hide hn
  have HG := hide hg
  have hn20 : n ≤ 20 := by have := hg.many; omega
  have hbd := hg.end0
  have HLE := hide (alk_len_le (L := L) (B := B) (fun j hj => good_cnt (hg.ps j hj).1))
  clear hs hn hg
  go_enter Tryd.func43, Tryd.ntmps43
  go_wp2
  go_loopw [3, 11] (fun v i wr => ∃ j : Nat, j ≤ n ∧ i = .int .i64 j ∧ wr.ownsRow (w.heap.size + 1) 9 1 v (alk L B j).length (mapT (alk L B j)) ∧ wr.cell? ⟨w.heap.size, 1, none⟩ = some (.int .i64 B) ∧ Below w.heap.size w wr) (fun _ i _ => n - (intOf i).toNat)
  case atStart => exact ⟨0, by omega, rfl, World.ownsRow_nil _ _ _ _, (blk2s (blk_new w (.cells #[.slice a n cap, .int .i64 B] 29 (0, 0)))).2, (Below.refl _ _).alloc (Nat.le_refl _) _⟩
  case round =>
    obtain ⟨j, hj, rfl, hown, kB, hbel⟩ := hrel
    obtain ⟨b1, c1, rfl, _, _⟩ := own_formT hown
    by_cases hlt : j < n
    · obtain ⟨b, off, rfl, ai, ci, hat⟩ := HS.out.below hbel j (by rw [HN.out]; exact hlt)
      have hok := HG.out.ps j (by rw [HN.out]; exact hlt)
      have hs60 := hok.1.1
      have hc60 := good_cnt hok.1
      have hf := hok.2.1
      have hgb := atg_bd L j (fun i hi => (HG.out.ps i (by rw [HN.out]; omega)).1)
      have hf0 := HG.out.f0
      have hf1 := HG.out.f1
      have hstep : alk L B (j + 1) = alk L B j ++ fl B (gc L j).f (gc L j).s (cnt (gc L j).s) := rfl
      have hlen := HLE.out j (by rw [HN.out]; exact hj)
      have d1 := hat.f
      have d2 := hat.s
      have d3 := hat.x
      obtain ⟨p, hp⟩ : ∃ p, p = gc L j := ⟨_, rfl⟩
      rw [show L.getD j eC = p from hp.symm] at d1 d2 d3
      rw [← hp] at hs60 hc60 hf hstep
      obtain ⟨f, s, x⟩ := p
      simp only at d1 d2 d3 hs60 hc60 hf hstep
      obtain ⟨m, hm⟩ : ∃ m, m = x.length := ⟨_, rfl⟩
      rw [← hm] at d3
      have hfb : 0 ≤ f ∧ f ≤ 102000 := by omega
      obtain ⟨A, hA⟩ : ∃ A, A = alk L B j := ⟨_, rfl⟩
      rw [← hA] at hown hstep hlen ⊢
      have C := hide (fun w => l6Records_any f s ai m ci w hs60)
      obtain ⟨k, hk⟩ : ∃ k, k = cnt s := ⟨_, rfl⟩
      rw [← hk] at C hc60 hstep
      have hltI : (j : Int) < (n : Int) := by omega
      have HST := hide hstep
      have O := hide hown
      have BB := hide hbel
      have hwB : w.heap.size < wr.heap.size := blk_lt kB
      obtain ⟨g, hgq⟩ : ∃ g, g = wr.heap.size := ⟨_, rfl⟩
      obtain ⟨N, hN⟩ : ∃ N, N = A.length := ⟨_, rfl⟩
      rw [← hN] at hlen ⊢
      have HNN := hide hN
      clear hat hok hf hgb hf0 hf1 hstep hp hm hA hk hown hbel hN
      go_wp2_with fail
      refine (C.out _).mono ?_
      rintro e w1 ⟨a2, c2, rfl, ho2, hb2⟩
      simp only [World.size_alloc] at ho2
      have hx2 : ∀ x, a2 = some x → g ≤ x.block ∧ x.block < w1.heap.size := fun x hx => by
        have := own_ltC ho2 x.block (by rw [hx]; rfl)
        omega
      have sl2 := own_slT ho2
      have G1 : w1.heap[wr.heap.size]? = some (.cells #[.int .i64 f, .string s, .slice ai m ci] 51 (0, 0)) := (hb2.block wr.heap.size (by simp)).trans (blk_new _ _)
      obtain ⟨g0, g1, g2, _, _, _⟩ := blk3 G1
      have hbb := ((Below.refl wr.heap.size wr).alloc (Nat.le_refl _) (.cells #[.int .i64 f, .string s, .slice ai m ci] 51 (0, 0))).trans (hb2.mono (by simp))
      have kB1 := (hbb.cell (p := ⟨w.heap.size, 1, none⟩) hwB).trans kB
      have hlt1 : g < w1.heap.size := by rw [hgq]; exact (Array.getElem?_eq_some_iff.1 G1).1
      have HS2 := hide sl2
      have HX2 := hide hx2
      have B1 := hide (BB.out.trans (hbb.mono BB.out.size))
      have R1 : Hid (Gro g w1.heap.size w.heap.size B w1 (.slice b1 N c1) A w1) := ⟨by rw [HNN.out]; exact own_belowC O.out hbb, fun q hq => .inl (by rw [hgq]; exact (own_ltC O.out q (by rw [← HNN.out]; exact hq)).2), fun _ _ _ => rfl, kB1, Nat.le_refl _, Below.refl _ _⟩
      rw [← hgq] at g0 hwB
      have HGQ := hide hgq
      clear ho2 hb2 G1 sl2 hbb kB hx2 kB1 g1 g2 hgq
      rw [← HGQ.out]
      go_wp2
      go_loopw [3, 18] (fun v i wr2 => ∃ t : Nat, t ≤ k ∧ i = .int .i64 t ∧ Gro g w1.heap.size w.heap.size B w1 v (A ++ fl B f s t) wr2) (fun _ i _ => k - (intOf i).toNat)
      case atStart => exact ⟨0, by omega, rfl, by rw [show fl B f s 0 = [] from rfl, List.append_nil]; exact R1.out⟩
      case round =>
        obtain ⟨t, ht, rfl, hgro⟩ := hrel
        obtain ⟨b3, c3, rfl, _, _⟩ := own_formT hgro.own
        have kB2 := hgro.cell
        have kf : wr.cell? ⟨g, 0, none⟩ = some (.int .i64 f) := by
          rw [← g0]
          unfold World.cell?
          simp only [hgro.kept g (Nat.le_refl _) hlt1]
        have hfll := fl_len B f s t
        by_cases hlt2 : t < k
        · obtain ⟨b4, o4, rfl, hc4⟩ := HS2.out t (by rw [rk_len]; exact hlt2)
          rw [show (rk s k).getD t e0 = rtx s (pl s 0 t) from rk_get s k t hlt2] at hc4
          have hc5 : wr.cell? ⟨b4, o4 + t, none⟩ = some (.string (rtx s (pl s 0 t))) := by
            have := HX2.out _ rfl
            rw [← hc4]
            unfold World.cell?
            simp only [hgro.kept b4 this.1 this.2]
          have hltI2 : (t : Int) < (k : Int) := by omega
          by_cases hB : B ≤ f + (t : Int)
          · have hfl := fl_yes (s := s) hB
            obtain ⟨y, hy⟩ : ∃ y, y = rtx s (pl s 0 t) := ⟨_, rfl⟩
            rw [← hy] at hc5 hfl
            have hE : A ++ fl B f s (t + 1) = (A ++ fl B f s t) ++ [y] := by rw [hfl, List.append_assoc]
            have HE := hide hE
            obtain ⟨D, hD⟩ : ∃ D, D = A ++ fl B f s t := ⟨_, rfl⟩
            rw [← hD] at hgro HE ⊢
            have hDl : D.length ≤ 1260 := by rw [hD, List.length_append]; have := HNN.out; omega
            obtain ⟨M, hM⟩ : ∃ M, M = D.length := ⟨_, rfl⟩
            have HG3 := hide hgro
            rw [← hM] at hDl ⊢
            have O3 := hide (show wr.ownsRow (w.heap.size + 1) 9 1 (.slice b3 M c3) M (mapT D) by rw [hM]; exact hgro.own)
            have hws : w.heap.size + 1 ≤ wr.heap.size := blk_lt kB2
            have HMM := hide hM
            clear hfl hy hE hD hM hgro hc4
            go_wp2_with (first
              | (at_builtin; refine wpList_append_own_at _ rfl _ _ 42 rfl (w.heap.size + 1) 9 i1 (.string ByteArray.empty) 1 16 Tryd.underlying42 hi1 hy0 hy1 hy2 rfl (by decide) _ _ _ rfl (O3.out.alloc _) ⟨wr.heap.size, 0, none⟩ 1 1 [.string y] rfl rfl (cell_one_newT _ _ rfl _ _) (by intro u hu; simp at hu; subst hu; rfl) (by unfold maxLen; omega) (by omega) (by simp; omega) ?_)
              | go_in)
            intro v6 w6 h6 g6 _ hat6
            have R6 := HG3.out.step (y := y) (Nat.le_refl _) (by omega) (by rw [← HMM.out]; exact h6) (by rw [← HMM.out]; exact g6) (by rw [← HMM.out]; simp only [World.size_alloc]; exact hat6)
            rw [← HE.out] at R6
            have HR6 := hide R6
            obtain ⟨a6, c6, e6, _, _⟩ := own_formT R6.own
            clear h6 g6 hat6 R6
            subst e6
            go_wp2
            go_roundw
            case rel => exact ⟨t + 1, by omega, by go_num, HR6.out⟩
            case measure => simp [intOf]; omega
          · have hfl := fl_no (s := s) hB
            obtain ⟨y, hy⟩ : ∃ y, y = rtx s (pl s 0 t) := ⟨_, rfl⟩
            rw [← hy] at hc5
            obtain ⟨D, hD⟩ : ∃ D, D = A ++ fl B f s t := ⟨_, rfl⟩
            have HE : Hid (A ++ fl B f s (t + 1) = D) := by show _ = D; rw [hfl, hD]
            rw [← hD] at hgro ⊢
            have HG3 := hide hgro
            clear hfl hy hD hgro hc4
            go_wp2
            go_roundw
            case rel => exact ⟨t + 1, by omega, by go_num, by rw [HE.out]; exact HG3.out⟩
            case measure => simp [intOf]; omega
        · obtain rfl : t = k := by omega
          have hltI2 : ¬ (t : Int) < (t : Int) := by omega
          rw [← HST.out] at hgro ⊢
          have HG3 := hide hgro
          clear hgro
          go_wp2
          go_roundw
          case rel => exact ⟨j + 1, by omega, by go_num, HG3.out.own, HG3.out.cell, B1.out.trans HG3.out.bel⟩
          case measure => simp [intOf]; omega
    · obtain rfl : j = n := by omega
      have hltI : ¬ (j : Int) < (j : Int) := by omega
      have O := hide hown
      rw [show alk L B j = allG L B by unfold allG; rw [HN.out]] at O ⊢
      clear hown
      go_wp2
      go_ret
      exact ⟨_, _, rfl, own_baseC O.out (by omega), hbel⟩

open Classical in
set_option maxRecDepth 100000 in
set_option maxHeartbeats 1000000 in
theorem specAllOf_any (a : Option Addr) (L : List Pc) (n cap : Nat) (B : Int) (w : World) (hn : L.length = n) (hm : n ≤ 9223372036854775807) (hs : SlC w a L) (hst : SzC L) (r : Option (List ByteArray)) (hr : r = allRes L B) :
    Calls Tryd.prog 21 #[.agg #[.slice a n cap, .int .i64 B]] w (RetT w r) := by
  obtain ⟨bk, hbk⟩ : ∃ bk : Bool, bk = true ↔ GoodG L B := ⟨decide (GoodG L B), by simp⟩
  have C1 := hide (fun wx (hb : Below w.heap.size w wx) => specGoodLog_any a L n cap B wx hn hm (hs.below hb) hst bk hbk)
  cases bk with
  | false =>
    have hrn : r = none := by rw [hr]; unfold allRes; rw [if_neg (fun h => absurd (hbk.2 h) (by simp))]
    subst hrn
    clear hr hs hn hst hbk
    go_enter Tryd.func21, Tryd.ntmps21
    go_wp2_with fail
    refine (C1.out _ ((Below.refl _ _).alloc (Nat.le_refl _) _)).mono ?_
    rintro e w1 ⟨rfl, hb1⟩
    have B1 := hide (((Below.refl w.heap.size w).alloc (Nat.le_refl _) (.cells #[.slice a n cap, .int .i64 B] 29 (0, 0))).trans (hb1.mono (by simp)))
    clear hb1
    go_wp2
    go_ret2
    exact retT_none B1.out
  | true =>
    have hg := hbk.1 rfl
    have hrn : r = some (allG L B) := by rw [hr]; unfold allRes; rw [if_pos hg]
    subst hrn
    have C2 := hide (fun wx (hb : Below w.heap.size w wx) => l6All_any a L n cap B wx hn (hs.below hb) hg)
    unfold RetT
    simp only [Option.getD_some, Option.isSome_some]
    obtain ⟨D, hD⟩ : ∃ D, D = allG L B := ⟨_, rfl⟩
    rw [← hD] at C2 ⊢
    obtain ⟨N, hN⟩ : ∃ N, N = D.length := ⟨_, rfl⟩
    rw [← hN] at C2 ⊢
    clear hr hs hn hst hbk hg hD hN
    go_enter Tryd.func21, Tryd.ntmps21
    go_wp2_with fail
    refine (C1.out _ ((Below.refl _ _).alloc (Nat.le_refl _) _)).mono ?_
    rintro e w1 ⟨rfl, hb1⟩
    have B1 := hide (((Below.refl w.heap.size w).alloc (Nat.le_refl _) (.cells #[.slice a n cap, .int .i64 B] 29 (0, 0))).trans (hb1.mono (by simp)))
    obtain ⟨k0, k1⟩ := blk2s ((hb1.block w.heap.size (by simp)).trans (blk_new _ _))
    clear hb1
    go_wp2_with fail
    refine (C2.out _ B1.out).mono ?_
    rintro e w2 ⟨a2, c2, rfl, ho2, hb2⟩
    have B2 := hide (B1.out.trans (hb2.mono B1.out.size))
    have O2 := hide (own_baseC ho2 B1.out.size)
    clear hb2 ho2
    go_wp2
    go_ret2
    exact ⟨_, rfl, O2.out, B2.out⟩
end Go.Proofs.YtkjogjjfpjkeoazDoor.L6
