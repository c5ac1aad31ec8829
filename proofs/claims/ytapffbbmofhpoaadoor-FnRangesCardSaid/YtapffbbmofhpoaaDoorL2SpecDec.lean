/-
  Contracts: spec.l2Decode, spec.DecodeChunk: the good samples with a text, in new memory, and true, where there are such; else no list and false.
-/
import Derived.Test.YtapffbbmofhpoaaDoorL2Rows
import Derived.Test.YtapffbbmofhpoaaDoorL2Keep
import Derived.Test.YtapffbbmofhpoaaDoorL2SpecEnc
import Derived.Test.YtapffbbmofhpoaaDoorL2DecMath
import Derived.Test.YtapffbbmofhpoaaDoorL1SpecReadAll
import Derived.Deep.AppendLies
namespace Go.Proofs.YtapffbbmofhpoaaDoor.L1
open Go.RowKit
set_option linter.unusedVariables false

theorem sm_bd2 {l : List Int} (h : ∀ j, j < l.length → -40000000000000 ≤ l.getD j 0 ∧ l.getD j 0 ≤ 40000000000000) : ∀ k : Nat, k ≤ l.length → -(40000000000000 * (k : Int)) ≤ (0 :: sm 0 l).getD k 0 ∧ (0 :: sm 0 l).getD k 0 ≤ 40000000000000 * (k : Int)
  | 0, _ => by simp
  | k + 1, hk => by
    have ih := sm_bd2 h k (by omega)
    have e := sm_get l 0 k (by omega)
    have b := h k (by omega)
    simp only [List.getD_cons_succ]
    rw [e]
    omega
theorem sm_bd80 {xs : List Int} {n : Nat} (hn : xs.length = n) (hn2 : n ≤ 40) (h : OkL xs) : ∀ k, k < n → -4000000000000000000 ≤ (sm 0 (sm 0 xs)).getD k 0 ∧ (sm 0 (sm 0 xs)).getD k 0 ≤ 4000000000000000000 := fun k hk => by
  have h1 : ∀ j, j < (sm 0 xs).length → -40000000000000 ≤ (sm 0 xs).getD j 0 ∧ (sm 0 xs).getD j 0 ≤ 40000000000000 := fun j hj => by
    rw [sm_len] at hj
    have := sm_bd h (j + 1) (by omega)
    rw [List.getD_cons_succ] at this
    omega
  have := sm_bd2 h1 (k + 1) (by rw [sm_len]; omega)
  rw [List.getD_cons_succ] at this
  omega
theorem str_bts (s : ByteArray) : strOfNums (bts s 0) = s := by
  apply ByteArray.ext
  simp [strOfNums, bts, Function.comp_def]

set_option maxRecDepth 100000 in
set_option maxHeartbeats 4000000 in
theorem l2Decode_good (s : ByteArray) (w : World) (hs : s.size ≤ 600) (m : Nat) (xs : List Int) (hm : m ≤ 40) (hr : xs.length = 2 * m) (hgall : gall (bts s 0) = some ((m : Int) :: xs)) (r : Option (List (Int × Int))) (hres : r = ofPairs xs) :
    Calls Tryd.prog 104 #[.string s] w fun e w' => RetS w r e w' := by
  have c1 := l1GetAll_any s w hs
  rw [hgall] at c1
  simp only [RetL, Option.isSome_some, Option.getD_some, List.length_cons, hr] at c1
  have hcg := cat_gall _ _ _ (Nat.le_refl _) (bts_mem s 0) hgall
  have hokx : OkL xs := okL_tail (okL_of_mem hcg.2)
  have hle := inter_ev m xs hr
  have hokev := okL_ev m hr hokx
  have S1 := hide (fun a cap w hs => l2Sums_any a (ev xs) m cap w hle.2.1 hs hm (sm_bd40 hle.2.1 hm hokev.1))
  have S2 := hide (fun a cap w hs => l2Sums_any a (sm 0 (ev xs)) m cap w (by rw [sm_len, hle.2.1]) hs hm (sm_bd80 hle.2.1 hm hokev.1))
  have S3 := hide (fun a cap w hs => l2Sums_any a (od xs) m cap w hle.2.2 hs hm (sm_bd40 hle.2.2 hm hokev.2))
  have henc : GoodS (unS (ev xs) (od xs)) → strOfNums (cat (nums (unS (ev xs) (od xs)))) = s := fun _ => by
    rw [nums_unS hle.2.1 hle.2.2, hle.1, hcg.1, str_bts]
  have HENC := hide henc
  have HLE := hide hle
  obtain ⟨i0, hi, hz0, hz1, hz2⟩ := info_parts info_int
  obtain ⟨i1, hi1, hy0, hy1, hy2⟩ := info_parts info_smpS
  have C1 := hide c1
  have HR := hide hr
  have HRES := hide hres
  have L0 := hide (fun w => l1In_yes (m : Int) 0 40 w (by omega) (by omega))
  clear c1 hr hres hle hokx hokev hcg hgall henc
  go_enter Tryd.func104, Tryd.ntmps104
  go_wp2_with fail
  refine C1.out.mono ?_
  rintro e B0 ⟨v, rfl, ho, hb1⟩
  obtain ⟨g, cap, rfl⟩ := ownsRow_succ' ho
  have hs1 := sl_of_own ho
  have hcell := hs1.at 0 (by simp)
  simp only [List.getD_cons_zero, Nat.add_zero] at hcell
  have HSR := hide hs1
  have HRL : Hid (((m : Int) :: xs).length = 2 * m + 1) := by show _ = _; rw [List.length_cons, HR.out]
  have B1 := hide hb1
  have hq0 : ((2 * (m : Int) + 1) == 0) = false := by simp; omega
  have hq1 : ((2 * (m : Int) + 1) != 1 + 2 * (m : Int)) = false := by simp; omega
  clear ho hs1 hb1
  go_wp2_with fail
  refine (L0.out _).mono ?_
  rintro e w1 ⟨rfl, rfl⟩
  go_wp2
  go_loopw [6, 7, 8] (fun ot ov i wr => ∃ (k j : Nat), k ≤ m ∧ j = 2 * k + 1 ∧ i = .int .i64 j ∧ Two B0.heap.size wr ot ov k ((ev xs).take k) ((od xs).take k) ∧ Below B0.heap.size B0 wr) (fun _ _ i _ => 2 * m + 1 - (intOf i).toNat)
  case atStart => exact ⟨0, 1, Nat.zero_le _, rfl, rfl, two_nil _ _, Below.refl _ _⟩
  case round =>
    obtain ⟨k, j, hk, hj, rfl, htwo, hbel⟩ := hrel
    obtain ⟨oa, ocap, qa, qcap, rfl, rfl, _, _⟩ := htwo.form
    by_cases hlt : k < m
    · obtain ⟨b, off, hab, hc0⟩ := HSR.out j (by rw [HRL.out]; omega)
      cases hab
      obtain ⟨b', off', hbo, hd0⟩ := HSR.out (j + 1) (by rw [HRL.out]; omega)
      cases hbo
      simp only [Nat.zero_add] at hc0 hd0
      have hev := ev_get m xs HR.out k hlt
      have he1 : ((m : Int) :: xs).getD j 0 = (ev xs).getD k 0 := by rw [hj]; exact hev.1.symm
      have he2 : ((m : Int) :: xs).getD (j + 1) 0 = (od xs).getD k 0 := by rw [hj]; exact hev.2.symm
      have hc : wr.cell? ⟨g, j, none⟩ = some (.int .i64 ((ev xs).getD k 0)) := by
        rw [hbel.cell (p := ⟨g, j, none⟩) (blk_lt hc0), hc0, he1]
      have hd : wr.cell? ⟨g, j + 1, none⟩ = some (.int .i64 ((od xs).getD k 0)) := by
        rw [hbel.cell (p := ⟨g, j + 1, none⟩) (blk_lt hd0), hd0, he2]
      have HDB := hide (blk_lt hd0)
      have hltI : (j : Int) < ((2 * m + 1 : Nat) : Int) := by omega
      have hltI1 : (j : Int) + 1 < ((2 * m + 1 : Nat) : Int) := by omega
      have hj0 : (0 : Int) ≤ (j : Int) := by omega
      have hj1 : (0 : Int) ≤ (j : Int) + 1 := by omega
      have hle := inter_ev m xs HR.out
      have ht1 := ltake_snoc (ev xs) k (by rw [hle.2.1]; exact hlt)
      have ht2 := ltake_snoc (od xs) k (by rw [hle.2.2]; exact hlt)
      obtain ⟨x, hx⟩ : ∃ x, x = (ev xs).getD k 0 := ⟨_, rfl⟩
      obtain ⟨y, hy⟩ : ∃ y, y = (od xs).getD k 0 := ⟨_, rfl⟩
      rw [← hx] at hc ht1
      rw [← hy] at hd ht2
      obtain ⟨ts, hts⟩ : ∃ ts, ts = (ev xs).take k := ⟨_, rfl⟩
      obtain ⟨vs, hvs⟩ : ∃ vs, vs = (od xs).take k := ⟨_, rfl⟩
      rw [← hts] at ht1 htwo
      rw [← hvs] at ht2 htwo
      have HT1 := hide ht1
      have HT2 := hide ht2
      have HJ := hide hj
      have hbs := hbel.size
      have HTW := hide htwo
      have HD := hide hd
      have hjm : j ≤ 100 := by omega
      clear hc0 hd0 hx hy ht1 ht2 htwo hts hvs he1 he2 hev hle hj hd
      go_wp2_with (first
        | (at_builtin; refine wpList_append_own_at _ rfl _ _ 32 rfl B0.heap.size 3 i0 (.int .i64 0) 1 8 Tryd.underlying32 hi hz0 hz1 hz2 rfl (by decide) _ _ _ rfl (HTW.out.1.alloc _) ⟨wr.heap.size, 0, none⟩ 1 1 [.int .i64 x] rfl rfl (cell_one_new _ _ _) (by intro u hu; simp at hu; subst hu; rfl) (by unfold maxLen; omega) (by omega) (by simp; omega) ?_)
        | go_in)
      intro v3 w3 hown3 hgrow3 _ hblk3
      have F3 := two_firstS HTW.out hgrow3 hown3 (by simpa using hblk3)
      obtain ⟨hb3, HF3⟩ := F3
      have hd3 : w3.cell? ⟨g, j + 1, none⟩ = some (.int .i64 y) := (hb3.cell (p := ⟨g, j + 1, none⟩) HDB.out).trans HD.out
      have hb3' := hbel.trans hb3
      have hs3 := hb3'.size
      clear hown3 hgrow3 hblk3 hb3
      obtain ⟨g3, c3, rfl⟩ := ownsRow_succ' HF3.out.1
      go_wp2_with (first
        | (at_builtin; refine wpList_append_own_at _ rfl _ _ 32 rfl B0.heap.size 3 i0 (.int .i64 0) 1 8 Tryd.underlying32 hi hz0 hz1 hz2 rfl (by decide) _ _ _ rfl (HF3.out.2.1.alloc _) ⟨w3.heap.size, 0, none⟩ 1 1 [.int .i64 y] rfl rfl (cell_one_new _ _ _) (by intro u hu; simp at hu; subst hu; rfl) (by unfold maxLen; omega) (by omega) (by simp; omega) ?_)
        | go_in)
      intro v4 w4 hown4 hgrow4 _ hblk4
      have F4 := hide (two_second HF3.out hgrow4 hown4 (by simpa using hblk4))
      have hb4 := hb3'.trans (below_app hs3 hgrow4 (fun g hg => (HF3.out.2.1.lt g hg).1))
      clear hown4 hgrow4 hblk4
      go_wp2
      go_roundw
      case rel => exact ⟨k + 1, j + 2, by omega, by rw [HJ.out]; omega, by go_num, by rw [HT1.out, HT2.out]; simpa using F4.out, hb4⟩
      case measure => have := HJ.out; simp [intOf]; omega
    · obtain rfl : m = k := by omega
      have hle := inter_ev m xs HR.out
      have e1 : (ev xs).take m = ev xs := List.take_of_length_le (by rw [hle.2.1]; omega)
      have e2 : (od xs).take m = od xs := List.take_of_length_le (by rw [hle.2.2]; omega)
      rw [e1, e2] at htwo
      have hltI : ¬ (j : Int) < ((2 * m + 1 : Nat) : Int) := by omega
      obtain ⟨ta, tc, va, vc, e3, e4, hst, hsv⟩ := htwo.form
      cases e3
      cases e4
      have HT := hide hst
      have HV := hide hsv
      clear e1 e2 htwo hst hsv hle hj
      go_wp2_with fail
      refine (S1.out _ _ _ HT.out).mono ?_
      rintro e w2 ⟨v2, rfl, ho2, hb2⟩
      obtain ⟨s1, k1, rfl, sl1, _⟩ := own_form ho2
      have V2 := hide (HV.out.below hb2)
      have T2 := hide sl1
      have B2 := hide (hbel.trans (hb2.mono hbel.size))
      clear ho2 sl1 hb2
      go_wp2_with fail
      refine (S2.out _ _ _ T2.out).mono ?_
      rintro e w3 ⟨v3, rfl, ho3, hb3⟩
      obtain ⟨s2, k2, rfl, sl2, _⟩ := own_form ho3
      have V3 := hide (V2.out.below hb3)
      have T3 := hide sl2
      have B3 := hide (B2.out.trans (hb3.mono B2.out.size))
      clear ho3 sl2 hb3
      go_wp2_with fail
      refine (S3.out _ _ _ V3.out).mono ?_
      rintro e w4 ⟨v4, rfl, ho4, hb4⟩
      obtain ⟨s3, k3, rfl, sl3, _⟩ := own_form ho4
      have T4 := hide (T3.out.below hb4)
      have V4 := hide sl3
      have B4 := hide (B3.out.trans (hb4.mono B3.out.size))
      clear ho4 sl3 hb4
      clear HT HV V2 T2 B2 T3 V3 B3 S1 S2 S3 hbel hltI
      obtain ⟨W2, hW2⟩ : ∃ W2, W2 = w4 := ⟨_, rfl⟩
      rw [← hW2] at T4 V4 B4 ⊢
      clear hW2
      go_wp2
      go_loopw [11, 70] (fun o i wr => ∃ k : Nat, k ≤ m ∧ i = .int .i64 k ∧ wr.ownsRow W2.heap.size 50 2 o k (flat2 ((unS (ev xs) (od xs)).take k)) ∧ Below W2.heap.size W2 wr) (fun _ i _ => m - (intOf i).toNat)
      case atStart => exact ⟨0, Nat.zero_le _, rfl, World.ownsRow_nil _ _ _ _, Below.refl _ _⟩
      case round =>
        obtain ⟨k, hk, rfl, hown, hbel2⟩ := hrel
        obtain ⟨oa, ocap, rfl, _, _⟩ := own_formS hown
        by_cases hlt : k < m
        · obtain ⟨bb, bo, rfl, hcx0⟩ := T4.out k (by rw [sm_len, sm_len, HLE.out.2.1]; exact hlt)
          obtain ⟨cb, co, rfl, hcy0⟩ := V4.out k (by rw [sm_len, HLE.out.2.2]; exact hlt)
          have hcx := (hbel2.cell (p := ⟨bb, bo + k, none⟩) (blk_lt hcx0)).trans hcx0
          have hcy := (hbel2.cell (p := ⟨cb, co + k, none⟩) (blk_lt hcy0)).trans hcy0
          have HBB := hide (blk_lt hcx0)
          have HCB := hide (blk_lt hcy0)
          have htk : (unS (ev xs) (od xs)).take (k + 1) = (unS (ev xs) (od xs)).take k ++ [((sm 0 (sm 0 (ev xs))).getD k 0, (sm 0 (od xs)).getD k 0)] := zip_take _ _ k (by rw [sm_len, sm_len, sm_len, HLE.out.2.1, HLE.out.2.2]) (by rw [sm_len, sm_len, HLE.out.2.1]; exact hlt)
          obtain ⟨x, hx⟩ : ∃ x, x = (sm 0 (sm 0 (ev xs))).getD k 0 := ⟨_, rfl⟩
          obtain ⟨y, hy⟩ : ∃ y, y = (sm 0 (od xs)).getD k 0 := ⟨_, rfl⟩
          rw [← hx] at hcx htk
          rw [← hy] at hcy htk
          obtain ⟨ns, hns⟩ : ∃ ns, ns = (unS (ev xs) (od xs)).take k := ⟨_, rfl⟩
          rw [← hns] at htk hown
          have HTK := hide htk
          have HROW := hide hown
          have hltI : (k : Int) < (m : Int) := by omega
          have hk0 : (0 : Int) ≤ (k : Int) := by omega
          have hsz2 := hbel2.size
          clear hcx0 hcy0 hx hy htk hns hown
          go_wp2
          refine wp_region_held_drew (S := (fun wx => wx.cell? ⟨bb, bo + k, none⟩ = some (.int .i64 x) ∧ wx.cell? ⟨cb, co + k, none⟩ = some (.int .i64 y) ∧ Below W2.heap.size W2 wx)) (by kernel_rfl) ⟨hcx, hcy, hbel2.drew⟩ (fun hHeld => ?_)
          refine wpAnyH_take (i := 0) (v := ?v1) rfl (by kernel_rfl) (by kernel_rfl) (by kernel_rfl) (fun _ _ _ h => h) (Or.inl ⟨by rfl, ?y1⟩) (by assumption) ?r1
          case y1 => (intro w hSw; (try dsimp only at hSw); go_simp; try (with_reducible rfl))
          simp only [List.getElem_toArray, List.getElem_cons_zero, Act.put, List.setIfInBounds_toArray, List.set_cons_zero, List.set_cons_succ]
          refine wpAnyH_take (i := 1) (v := ?v2) rfl (by kernel_rfl) (by kernel_rfl) (by kernel_rfl) (fun _ _ _ h => h) (Or.inl ⟨by rfl, ?y2⟩) (by assumption) ?r2
          case y2 => (intro w hSw; (try dsimp only at hSw); go_simp; try (with_reducible rfl))
          simp only [List.getElem_toArray, List.getElem_cons_succ, List.getElem_cons_zero, Act.put, List.setIfInBounds_toArray, List.set_cons_zero, List.set_cons_succ]
          refine wpAnyH_take (i := 2) (v := ?v3) rfl (by kernel_rfl) (by kernel_rfl) (by kernel_rfl) (fun _ _ _ h => h) (Or.inl ⟨by rfl, ?y3⟩) (by assumption) ?r3
          case y3 => (intro w hSw; (try dsimp only at hSw); go_simp; try (with_reducible rfl))
          simp only [List.getElem_toArray, List.getElem_cons_succ, List.getElem_cons_zero, Act.put, List.setIfInBounds_toArray, List.set_cons_zero, List.set_cons_succ]
          refine wpAnyH_take (i := 3) (v := ?v4) rfl (by kernel_rfl) (by kernel_rfl) (by kernel_rfl) (fun _ _ _ h => h) (Or.inl ⟨by rfl, ?y4⟩) (by assumption) ?r4
          case y4 => (intro w hSw; (try dsimp only at hSw); go_simp; try (with_reducible rfl))
          simp only [List.getElem_toArray, List.getElem_cons_succ, List.getElem_cons_zero, Act.put, List.setIfInBounds_toArray, List.set_cons_zero, List.set_cons_succ]
          refine wpAnyH_take (i := 4) (v := ?v5) rfl (by kernel_rfl) (by kernel_rfl) (by kernel_rfl) (fun _ _ _ h => h) (Or.inl ⟨by rfl, ?y5⟩) (by assumption) ?r5
          case y5 => (intro w hSw; (try dsimp only at hSw); go_simp; try (with_reducible rfl))
          simp only [List.getElem_toArray, List.getElem_cons_succ, List.getElem_cons_zero, Act.put, List.setIfInBounds_toArray, List.set_cons_zero, List.set_cons_succ]
          refine wpAnyH_take (i := 5) (v := ?v6) rfl (by kernel_rfl) (by kernel_rfl) (by kernel_rfl) (fun _ _ _ h => h) (Or.inl ⟨by rfl, ?y6⟩) (by assumption) ?r6
          case y6 => (intro w hSw; (try dsimp only at hSw); go_simp; try (with_reducible rfl))
          simp only [List.getElem_toArray, List.getElem_cons_succ, List.getElem_cons_zero, Act.put, List.setIfInBounds_toArray, List.set_cons_zero, List.set_cons_succ]
          refine wpAnyH_take (i := 6) (v := ?v7) rfl (by kernel_rfl) (by kernel_rfl) (by kernel_rfl) (fun _ _ _ h => h) (Or.inl ⟨by rfl, ?y7⟩) (by assumption) ?r7
          case y7 => (intro w hSw; (try dsimp only at hSw); go_simp; try (with_reducible rfl))
          simp only [List.getElem_toArray, List.getElem_cons_succ, List.getElem_cons_zero, Act.put, List.setIfInBounds_toArray, List.set_cons_zero, List.set_cons_succ]
          refine wpAnyH_take (i := 7) (v := ?v8) rfl (by kernel_rfl) (by kernel_rfl) (by kernel_rfl) (fun _ _ _ h => h) (Or.inl ⟨by rfl, ?y8⟩) (by assumption) ?r8
          case y8 => (intro w hSw; (try dsimp only at hSw); go_simp; try (with_reducible rfl))
          simp only [List.getElem_toArray, List.getElem_cons_succ, List.getElem_cons_zero, Act.put, List.setIfInBounds_toArray, List.set_cons_zero, List.set_cons_succ]
          refine wpAnyH_take (i := 8) (v := ?v9) rfl (by kernel_rfl) (by kernel_rfl) (by kernel_rfl) (fun _ _ _ h => h) (Or.inl ⟨by rfl, ?y9⟩) (by assumption) ?r9
          case y9 => (intro w hSw; (try dsimp only at hSw); go_simp; try (with_reducible rfl))
          simp only [List.getElem_toArray, List.getElem_cons_succ, List.getElem_cons_zero, Act.put, List.setIfInBounds_toArray, List.set_cons_zero, List.set_cons_succ]
          refine wpAnyH_take (i := 9) (v := ?v10) rfl (by kernel_rfl) (by kernel_rfl) (by kernel_rfl) (fun _ _ _ h => h) (Or.inl ⟨by rfl, ?y10⟩) (by assumption) ?r10
          case y10 => (intro w hSw; (try dsimp only at hSw); go_simp; try (with_reducible rfl))
          simp only [List.getElem_toArray, List.getElem_cons_succ, List.getElem_cons_zero, Act.put, List.setIfInBounds_toArray, List.set_cons_zero, List.set_cons_succ]
          refine wpAnyH_ready (rs := [10]) (by kernel_rfl) (by simp) ?_
          refine AllReadyH.cons rfl (fun K hK => ?_) AllReadyH.nil
          simp only [List.getElem_toArray, List.getElem_cons_succ, List.getElem_cons_zero]
          go_simp
          refine hK.out _ _ ?_ (fun hHeld => ?_)
          · exact keepA hHeld (show Below W2.heap.size wr.drew _ from (Below.refl _ wr.drew).alloc hbel2.size (.cells #[.int .i64 x, .int .i64 y] 50)) HBB.out HCB.out
          clear hK K
          try simp only [Act.put, List.setIfInBounds_toArray, List.set_cons_zero, List.set_cons_succ]
          refine wpAnyH_ready (rs := [11]) (by kernel_rfl) (by simp) ?_
          refine AllReadyH.cons rfl (fun K hK => ?_) AllReadyH.nil
          simp only [List.getElem_toArray, List.getElem_cons_succ, List.getElem_cons_zero]
          rw [if_pos (by rfl)]
          refine wp_append_lies _ (.tmp 73) (.tmp 83) 41 rfl W2.heap.size 50 i1 (.agg #[.int .i64 0, .int .i64 0]) 2 16 Tryd.underlying41 hi1 hy0 hy1 hy2 rfl (by decide) (.slice oa k ocap) k (flat2 ns) rfl (HROW.out.alloc (.cells #[.int .i64 x, .int .i64 y] 50)) ⟨wr.heap.size, 0, none⟩ 1 1 [.int .i64 x, .int .i64 y] rfl rfl ?_ ?_ (by decide) (by unfold maxLen; omega) (by omega) (Nat.le_trans hsz2 (by show wr.heap.size ≤ (wr.alloc _).heap.size; simp)) _ rfl ?_
          · exact fun j u h => cell_two_newS wr (.int .i64 x) (.int .i64 y) 50 j u h
          · intro u hu
            simp at hu
            rcases hu with rfl | rfl <;> rfl
          intro g4 c4 w6 hown6 hgrow6 _ _
          have hb6 : Below W2.heap.size (wr.alloc (.cells #[.int .i64 x, .int .i64 y] 50)).drew w6 := (Below.refl _ _).grown hgrow6 (Nat.le_trans hsz2 (by show wr.heap.size ≤ (wr.alloc _).heap.size; simp)) (fun g hg => (HROW.out.lt g hg).1)
          refine hK.out _ _ ?_ (fun hHeld => ?_)
          · exact keepA hHeld hb6 HBB.out HCB.out
          clear hK K hgrow6 hb6
          try simp only [Act.put, List.setIfInBounds_toArray, List.set_cons_zero, List.set_cons_succ]
          refine wpAnyH_take (i := 12) (v := ?v11) rfl (by kernel_rfl) (by kernel_rfl) (by kernel_rfl) (fun _ _ _ h => h) (Or.inl ⟨by rfl, ?y11⟩) (by assumption) ?r11
          case y11 => (intro w hSw; (try dsimp only at hSw); go_simp; try (with_reducible rfl))
          simp only [List.getElem_toArray, List.getElem_cons_succ, List.getElem_cons_zero, Act.put, List.setIfInBounds_toArray, List.set_cons_zero, List.set_cons_succ]
          refine wpAnyH_done (by kernel_rfl) ?_ _
          have HO6 : Hid (w6.ownsRow W2.heap.size 50 2 (.slice (some ⟨g4, 0, none⟩) (k + 1) c4) (k + 1) (flat2 ((unS (ev xs) (od xs)).take (k + 1)))) := by show World.ownsRow _ _ _ _ _ _ _; rw [HTK.out, flat2_append]; simpa [flat2] using hown6
          have HB6 := hide hHeld.2.2
          clear hown6 hHeld
          go_wp2
          go_roundw
          case rel => exact ⟨k + 1, by omega, by go_num, HO6.out, HB6.out⟩
          case measure => simp [intOf]; omega
        · obtain rfl : m = k := by omega
          have e1 : (unS (ev xs) (od xs)).take m = unS (ev xs) (od xs) := List.take_of_length_le (by rw [unS_len (by rw [HLE.out.2.1, HLE.out.2.2]), HLE.out.2.1]; omega)
          rw [e1] at hown
          obtain ⟨oa', ocap', eo, hsl, hlen⟩ := own_formS hown
          cases eo
          have hltI : ¬ (m : Int) < (m : Int) := by omega
          have HO := hide (own_baseS hown B4.out.size)
          have HSL := hide hsl
          have BW := hide (B4.out.trans (hbel2.mono B4.out.size))
          have HLN := hide hlen
          clear e1 hown hsl hlen
          by_cases hg : GoodS (unS (ev xs) (od xs))
          · have C9 := hide (specGood_any oa (unS (ev xs) (od xs)) m ocap wr HLN.out HSL.out (by omega) true (by simp [hg]))
            have c10 := fun w hs => l2Encode_any oa (unS (ev xs) (od xs)) m ocap w HLN.out hs hg
            simp only [HENC.out hg] at c10
            have C10 := hide c10
            have HRN : Hid (r = some (unS (ev xs) (od xs))) := by rw [show r = _ from HRES.out]; exact ofPairs_some hg
            clear hg c10
            go_wp2_with fail
            refine C9.out.mono ?_
            rintro e w9 ⟨rfl, hb9⟩
            have HO9 := hide (own_belowS HO.out hb9)
            have HS9 := hide (HSL.out.below hb9)
            have B9 := hide (BW.out.trans (hb9.mono BW.out.size))
            clear hb9
            go_wp2_with fail
            refine (C10.out _ HS9.out).mono ?_
            rintro e w10 ⟨rfl, hb10⟩
            have HO10 := hide (own_belowS HO9.out hb10)
            have B10 := hide (B9.out.trans (hb10.mono B9.out.size))
            clear hb10
            go_wp2
            go_ret2
            exact ⟨_, by rw [HRN.out]; rfl, by rw [HRN.out]; simp only [Option.getD_some]; rw [HLN.out]; exact own_baseS HO10.out B1.out.size, B1.out.trans (B10.out.mono B1.out.size)⟩
          · have C9 := hide (specGood_any oa (unS (ev xs) (od xs)) m ocap wr HLN.out HSL.out (by omega) false (by simp [hg]))
            have HRN : Hid (r = none) := by rw [show r = _ from HRES.out]; exact ofPairs_none hg
            clear hg
            go_wp2_with fail
            refine C9.out.mono ?_
            rintro e w9 ⟨rfl, hb9⟩
            have B9 := hide (BW.out.trans (hb9.mono BW.out.size))
            clear hb9
            go_wp2
            go_ret2
            exact ⟨_, by rw [HRN.out]; rfl, by rw [HRN.out]; exact World.ownsRow_nil _ _ _ _, B1.out.trans (B9.out.mono B1.out.size)⟩

theorem dcRes_all {t : List Int} {c : Int} {r : List Int} (h : gall t = some (c :: r)) : dcRes t = ofNums (c :: r) := by unfold dcRes; rw [h]; rfl
theorem ofNums_big {c : Int} {r : List Int} (h : ¬ (0 ≤ c ∧ c ≤ 40)) : ofNums (c :: r) = none := by
  simp only [ofNums]
  rw [if_neg]
  intro hh
  have := hh.1
  have := hh.2.1
  omega

set_option maxRecDepth 100000 in
set_option maxHeartbeats 1000000 in
theorem l2Decode_any (s : ByteArray) (w : World) (hs : s.size ≤ 600) :
    Calls Tryd.prog 104 #[.string s] w fun e w' => RetS w (dcRes (bts s 0)) e w' := by
  have c1 := l1GetAll_any s w hs
  cases hge : gall (bts s 0) with
  | none =>
    have er : dcRes (bts s 0) = none := by unfold dcRes; rw [hge]; rfl
    rw [er]
    rw [hge] at c1
    simp only [RetL, Option.isSome_none, Option.getD_none] at c1
    have C1 := hide c1
    clear c1 hge er
    go_enter Tryd.func104, Tryd.ntmps104
    go_wp2_with fail
    refine C1.out.mono ?_
    rintro e w1 ⟨v, rfl, ho, hb1⟩
    obtain ⟨va, vc, rfl, _, _⟩ := own_form ho
    clear ho
    go_wp2
    go_ret2
    exact ⟨_, rfl, World.ownsRow_nil _ _ _ _, hb1⟩
  | some ys =>
    cases ys with
    | nil =>
      have er : dcRes (bts s 0) = none := by unfold dcRes; rw [hge]; rfl
      rw [er]
      rw [hge] at c1
      simp only [RetL, Option.isSome_some, Option.getD_some] at c1
      have C1 := hide c1
      clear c1 hge er
      go_enter Tryd.func104, Tryd.ntmps104
      go_wp2_with fail
      refine C1.out.mono ?_
      rintro e w1 ⟨v, rfl, ho, hb1⟩
      obtain ⟨va, vc, rfl, _, _⟩ := own_form ho
      clear ho
      go_wp2
      go_ret2
      exact ⟨_, rfl, World.ownsRow_nil _ _ _ _, hb1⟩
    | cons c r =>
      rw [dcRes_all hge]
      have hcg := cat_gall _ _ _ (Nat.le_refl _) (bts_mem s 0) hge
      have hlr : r.length + 1 ≤ 600 := by
        have h1 := cat_ge (c :: r)
        rw [hcg.1, bts_len] at h1
        simp only [List.length_cons] at h1
        omega
      by_cases hc : 0 ≤ c ∧ c ≤ 40
      · by_cases heq : (r.length : Int) = 2 * c
        · obtain ⟨m, hm⟩ : ∃ m : Nat, c = (m : Int) := ⟨c.toNat, by omega⟩
          subst hm
          rw [ofNums_eq heq hc.2]
          exact l2Decode_good s w hs m r (by omega) (by omega) hge _ rfl
        · rw [ofNums_ne heq]
          rw [hge] at c1
          simp only [RetL, Option.isSome_some, Option.getD_some, List.length_cons] at c1
          have C1 := hide c1
          have L0 := hide (fun w => l1In_yes c 0 40 w hc.1 hc.2)
          have hN : (((r.length : Int) + 1) != 1 + 2 * c) = true := by simp; omega
          have hN0 : (((r.length : Int) + 1) == 0) = false := by simp; omega
          obtain ⟨hc1, hc2⟩ := hc
          clear c1 hge heq hcg
          go_enter Tryd.func104, Tryd.ntmps104
          go_wp2_with fail
          refine C1.out.mono ?_
          rintro e w1 ⟨v, rfl, ho, hb1⟩
          obtain ⟨g, cap, rfl⟩ := ownsRow_succ' ho
          have hs1 := sl_of_own ho
          have hcell := hs1.at 0 (by simp)
          simp only [List.getD_cons_zero, Nat.add_zero] at hcell
          clear ho hs1
          go_wp2_with fail
          refine (L0.out _).mono ?_
          rintro e w2 ⟨rfl, rfl⟩
          go_wp2
          go_ret2
          exact ⟨_, rfl, World.ownsRow_nil _ _ _ _, hb1⟩
      · rw [ofNums_big hc]
        rw [hge] at c1
        simp only [RetL, Option.isSome_some, Option.getD_some, List.length_cons] at c1
        have C1 := hide c1
        have L0 := hide (fun w => l1In_no c 0 40 w hc)
        have hN0 : (((r.length : Int) + 1) == 0) = false := by simp; omega
        clear c1 hge hcg hc
        go_enter Tryd.func104, Tryd.ntmps104
        go_wp2_with fail
        refine C1.out.mono ?_
        rintro e w1 ⟨v, rfl, ho, hb1⟩
        obtain ⟨g, cap, rfl⟩ := ownsRow_succ' ho
        have hs1 := sl_of_own ho
        have hcell := hs1.at 0 (by simp)
        simp only [List.getD_cons_zero, Nat.add_zero] at hcell
        clear ho hs1
        go_wp2_with fail
        refine (L0.out _).mono ?_
        rintro e w2 ⟨rfl, rfl⟩
        go_wp2
        go_ret2
        exact ⟨_, rfl, World.ownsRow_nil _ _ _ _, hb1⟩

set_option maxRecDepth 100000 in
set_option maxHeartbeats 400000 in
theorem specDecode_any (s : ByteArray) (w : World) (hs : s.size ≤ 1048576) :
    Calls Tryd.prog 44 #[.string s] w fun e w' => RetS w (dcRes (bts s 0)) e w' := by
  by_cases h600 : 600 < (s.size : Int)
  · rw [dcRes_long (bts_mem s 0) (by rw [bts_len]; omega)]
    go_enter Tryd.func44, Tryd.ntmps44
    go_wp2
    go_ret2
    exact ⟨_, rfl, World.ownsRow_nil _ _ _ _, Below.refl _ _⟩
  · have c1 := l2Decode_any s w (by omega)
    obtain ⟨R, hR⟩ : ∃ R, R = dcRes (bts s 0) := ⟨_, rfl⟩
    rw [← hR] at c1 ⊢
    have C1 := hide c1
    clear c1 hR
    go_enter Tryd.func44, Tryd.ntmps44
    go_wp2_with fail
    refine C1.out.mono ?_
    rintro e w1 ⟨v, rfl, ho, hb1⟩
    obtain ⟨va, vc, rfl, _, _⟩ := own_formS ho
    have HO := hide ho
    clear ho
    go_wp2
    go_ret2
    exact ⟨_, rfl, HO.out, hb1⟩
end Go.Proofs.YtapffbbmofhpoaaDoor.L1
