/-
  Contracts: spec.FillGaps.
-/
import Derived.Test.YticgejaaoamhmapL16FilM
import Derived.Test.YticgejaaoamhmapL16SSz
import Derived.Test.YticgejaaoamhmapL16Ctr
import Derived.Test.YticgejaaoamhmapL16Box
import Derived.Test.YticgejaaoamhmapL16Ret
import Derived.Test.YticgejaaoamhmapL16Row
namespace Go.Proofs.Yticgejaaoamhmap.L16
open Go.RowKit L1
set_option linter.unusedVariables false

theorem vat_of {l : List (Int × Int)} (h : Ctr l) {n k : Nat} {t : Int} (hn : l.length = n) (hk : k < n) (h1 : at_ l k ≤ t) (h2 : k + 1 < n → ¬ at_ l (k + 1) ≤ t) : vat l t = vl l k := by
  subst hn
  have := cnt_of h (t := t + 1) (c := k + 1) (by omega) (fun j hj => by
    by_cases e : j = k
    · subst e; omega
    · have := h.mono k j hk (by omega); omega) (fun hl => by have := h2 hl; omega)
  unfold vat
  rw [this, Nat.add_sub_cancel]
set_option maxRecDepth 100000 in
set_option maxHeartbeats 8000000 in
theorem sFillGaps_any (b off : Nat) (l : List (Int × Int)) (n cap : Nat) (s : Int) (w : World) (hn : l.length = n) (hs : Sl2 w (some ⟨b, off, none⟩) l) (hn2 : n ≤ 1048576) (hcap : n ≤ cap) (r : Option (List (Int × Int))) (hr : r = filR l s) :
    Calls Try.prog 22 #[.slice (some ⟨b, off, none⟩) n cap, .int .i64 s] w fun e w' => RetS16 w r e w' := by
  obtain ⟨c, hc⟩ : ∃ c : Bool, c = true ↔ Ctr l := by classical exact ⟨decide (Ctr l), by simp⟩
  have CO := hide (sCounterOk_any (some ⟨b, off, none⟩) l n cap w hn hs hn2 c hc)
  have HS := hide hs
  have HN := hide hn
  obtain ⟨z, hz⟩ : ∃ z : Bool, z = true ↔ 1 ≤ s ∧ s ≤ 1000000 := ⟨decide (1 ≤ s ∧ s ≤ 1000000), by simp⟩
  have CZ := hide (fun wx => l16Size_any s wx z hz)
  cases hq : c with
  | false =>
    have HR := hide (show r = none by rw [hr]; unfold filR; rw [if_neg (fun h => by have := hc.2 h.1.1; rw [hq] at this; cases this)])
    subst hq
    clear hc hz
    clear hr hs hn
    go_enter Try.func22, Try.ntmps22
    go_wp2_with fail
    refine CO.out.mono ?_
    rintro e w1 ⟨rfl, hb1⟩
    have B1 := hide hb1
    clear hb1
    go_wp2
    go_ret2
    exact retS_none HR.out B1.out
  | true =>
  have hct := hc.1 hq
  subst hq
  clear hc
  cases hq : z with
  | false =>
    have HR := hide (show r = none by rw [hr]; unfold filR; rw [if_neg (fun h => by have := hz.2 h.1.2; rw [hq] at this; cases this)])
    subst hq
    clear hz hct
    clear hr hs hn
    go_enter Try.func22, Try.ntmps22
    go_wp2_with fail
    refine CO.out.mono ?_
    rintro e w1 ⟨rfl, hb1⟩
    have B1 := hide hb1
    clear hb1
    go_wp2_with fail
    refine (CZ.out _).mono ?_
    rintro e w2 ⟨rfl, rfl⟩
    go_wp2
    go_ret2
    exact retS_none HR.out B1.out
  | true =>
  have hs1 := hz.1 hq
  subst hq
  clear hz
  have hok : FilOk l s := ⟨hct, hs1⟩
  by_cases h0 : n = 0
  · have HR := hide (show r = some [] by rw [hr]; unfold filR; have e : nfl l s = 0 := by unfold nfl; rw [if_pos (by omega)]
                                         rw [e, if_pos ⟨hok, by omega⟩]; rfl)
    subst h0
    clear hr hs hn hct hok
    go_enter Try.func22, Try.ntmps22
    go_wp2_with fail
    refine CO.out.mono ?_
    rintro e w1 ⟨rfl, hb1⟩
    have B1 := hide hb1
    clear hb1
    go_wp2_with fail
    refine (CZ.out _).mono ?_
    rintro e w2 ⟨rfl, rfl⟩
    go_wp2
    go_ret2
    exact ⟨.slice none 0 0, by rw [HR.out]; rfl, by rw [HR.out]; exact World.ownsRow_nil _ _ _ _, B1.out⟩
  have hn0 : ¬ (n : Int) = 0 := by omega
  have hnb : ((n : Int) == 0) = false := by simpa using hn0
  have h0n : 0 < n := by omega
  have h40 : n ≤ 40 := by have := hct.len; omega
  obtain ⟨b', off', e, hc0, _⟩ := sl2_at hs (k := 0) (by omega)
  cases e
  obtain ⟨b', off', e, hc1, _⟩ := sl2_at hs (k := n - 1) (by omega)
  cases e
  simp only [Nat.zero_mul, Nat.add_zero] at hc0
  have hx0 := hct.at_ (k := 0) (by omega)
  have hx1 := hct.at_ (k := n - 1) (by omega)
  obtain ⟨m1, m2, m3, m4⟩ := mul0_bd hx0 hs1
  have hM : mul0 (at_ l 0) s = flj l s 0 := (flj_zero l s).symm
  have hI := fun j => nfl_iff (l := l) (by omega) hs1.1 j
  rw [hn] at hI
  have hnf : nfl l s = if flj l s 0 ≤ at_ l (n - 1) then ((at_ l (n - 1) - flj l s 0) / s).toNat + 1 else 0 := by
    rw [← hM]; unfold nfl; rw [if_neg (by omega), hn]
  have HG : Hid (∀ j, at_ l 0 ≤ flj l s j) := fun j => by
    have : 0 ≤ (j : Int) * s := Int.mul_nonneg (by omega) (by omega)
    unfold flj; omega
  have HR1 : Hid (¬ nfl l s ≤ 40 → r = none) := fun h => by rw [hr]; unfold filR; rw [if_neg (fun h2 => h h2.2)]
  have HR2 : Hid (nfl l s ≤ 40 → r = some (filK l s (nfl l s))) := fun h => by rw [hr]; unfold filR; rw [if_pos ⟨hok, h⟩]
  obtain ⟨x0, hxx⟩ : ∃ x, x = at_ l 0 := ⟨_, rfl⟩
  obtain ⟨x1, hyy⟩ : ∃ x, x = at_ l (n - 1) := ⟨_, rfl⟩
  obtain ⟨M, hMM⟩ : ∃ x, x = flj l s 0 := ⟨_, rfl⟩
  unfold mul0 at hM m1 m2
  rw [← hxx] at hc0 hx0 HG hM m1 m2 m3 m4
  rw [← hyy] at hc1 hx1 hI hnf
  rw [← hMM] at hM hnf
  obtain ⟨q, hq⟩ : ∃ q, q = (x0 + s - 1) / s := ⟨_, rfl⟩
  rw [← hq] at hM m1 m2 m3 m4
  have hw1 : IntKind.i64.wrap (x0 + s) = x0 + s := wrap16 (by omega) (by omega)
  have hw2 : IntKind.i64.wrap (x0 + s - 1) = x0 + s - 1 := wrap16 (by omega) (by omega)
  have hq0 : (x0 + s - 1) / s = q := hq.symm
  have hwq : IntKind.i64.wrap (Int.tdiv (x0 + s - 1) s) = q := by rw [Int.tdiv_eq_ediv_of_nonneg (by omega), ← hq]; exact wrap16 (by omega) (by omega)
  have hwM : IntKind.i64.wrap (q * s) = M := by rw [hM]; exact wrap16 (by omega) (by omega)
  have hsz0 : ¬ s = 0 := by omega
  obtain ⟨t1, ht1⟩ : ∃ t, t = n - 1 := ⟨_, rfl⟩
  rw [← ht1] at hc1
  have hr1 : (n : Int) - 1 = (t1 : Int) := by omega
  have hrw2 : IntKind.i64.wrap (t1 : Int) = (t1 : Int) := wrap16 (by omega) (by omega)
  have htn : (t1 : Int) < (n : Int) := by omega
  have htnN : t1 < n := by omega
  rw [hM] at m1 m2
  have HC := hide hct
  have HI := hide hI
  have HNF := hide hnf
  have H0 := hide hc0
  have H1 := hide hc1
  have HMM := hide hMM
  have HX := hide hxx
  obtain ⟨i1, hi1, hy0, hy1, hy2⟩ := info_parts info_smp
  clear hr hs hn hct hok hI hnf hc0 hc1 hxx hyy hMM hM hq ht1 h0
  have HSET : ∀ w1 : World, Below w.heap.size w w1 → Hid (w1.cell? ⟨b, off, none⟩ = some (.int .i64 x0) ∧ w1.cell? ⟨b, off + t1 * 2, none⟩ = some (.int .i64 x1)) := fun w1 hb => ⟨(hb.cell (p := ⟨b, off, none⟩) (blk_lt H0.out)).trans H0.out, (hb.cell (p := ⟨b, off + t1 * 2, none⟩) (blk_lt H1.out)).trans H1.out⟩
  by_cases hMx : M ≤ x1
  · have hQ0 : 0 ≤ (x1 - M) / s := Int.ediv_nonneg (by omega) (by omega)
    have hQ1 : (x1 - M) / s ≤ x1 - M := Int.ediv_le_self _ (by omega)
    have hnf := HNF.out
    rw [if_pos hMx] at hnf
    obtain ⟨Q, hQ⟩ : ∃ Q, Q = (x1 - M) / s := ⟨_, rfl⟩
    rw [← hQ] at hQ0 hQ1 hnf
    have hQe : (x1 - M) / s = Q := hQ.symm
    have hwd : IntKind.i64.wrap (x1 - M) = x1 - M := wrap16 (by omega) (by omega)
    have hwQ : IntKind.i64.wrap (Int.tdiv (x1 - M) s) = Q := by rw [Int.tdiv_eq_ediv_of_nonneg (by omega), ← hQ]; exact wrap16 (by omega) (by omega)
    have hwQ1 : IntKind.i64.wrap (Q + 1) = Q + 1 := wrap16 (by omega) (by omega)
    by_cases hbig : 40 < Q + 1
    · have HR := hide (HR1.out (by omega))
      clear hQ hnf HR1 HR2
      go_enter Try.func22, Try.ntmps22
      go_wp2_with fail
      refine CO.out.mono ?_
      rintro e w1 ⟨rfl, hb1⟩
      have B1 := hide hb1
      have HS1 := hide (HS.out.below hb1)
      obtain ⟨hc0, hc1⟩ := (HSET w1 hb1).out
      clear hb1 HSET
      go_wp2_with fail
      refine (CZ.out _).mono ?_
      rintro e w2 ⟨rfl, hw21⟩
      obtain rfl := hw21.symm
      go_wp2
      go_ret2
      exact retS_none HR.out B1.out
    · have HN4 := hide (show nfl l s ≤ 40 by omega)
      have HR := hide (HR2.out HN4.out)
      clear hQ hnf HR1 HR2
      go_enter Try.func22, Try.ntmps22
      go_wp2_with fail
      refine CO.out.mono ?_
      rintro e w1 ⟨rfl, hb1⟩
      have B1 := hide hb1
      have HS1 := hide (HS.out.below hb1)
      obtain ⟨hc0, hc1⟩ := (HSET w1 hb1).out
      clear hb1 HSET
      go_wp2_with fail
      refine (CZ.out _).mono ?_
      rintro e w2 ⟨rfl, hw21⟩
      obtain rfl := hw21.symm
      go_upto_region 11 with fail
      clear hc0 hc1
      go_loopw [6, 8, 9] (fun tv ov kv wr => ∃ j k : Nat, j ≤ nfl l s ∧ tv = .int .i64 (flj l s j) ∧ k < n ∧ kv = .int .i64 (k : Int) ∧ at_ l k ≤ flj l s j ∧ Hid (wr.ownsRow w1.heap.size 42 2 ov j (flat (filK l s j))) ∧ Hid (Below w1.heap.size w1 wr)) (fun tv _ _ _ => (x1 + 1 - intOf tv).toNat)
      case atStart => exact ⟨0, 0, Nat.zero_le _, by rw [← HMM.out], h0n, rfl, by rw [← HX.out]; exact HG.out 0, World.ownsRow_nil _ _ _ _, Below.refl _ _⟩
      case round =>
        obtain ⟨j, ko, hj, rfl, hkno, rfl, hkto, HO, BW⟩ := hrel
        obtain ⟨oa, oc, rfl, _, _⟩ := own_form2 HO.out
        have hsu := flj_succ l s j
        have hge := HG.out j
        have hI := HI.out j
        have htf := filK_succ l s j
        have hIp := HI.out (j - 1)
        obtain ⟨t, ht⟩ : ∃ t, t = flj l s j := ⟨_, rfl⟩
        rw [← ht] at hsu hI hkto htf hge
        rw [← ht]
        have HSU := hide hsu
        have HI1 := hide hI
        have HTF := hide htf
        have hj40 : j ≤ 40 := Nat.le_trans hj HN4.out
        have hj2 := hj
        clear hsu hI htf hIp ht
        by_cases hlt : t ≤ x1
        · have h4 : j < 40 := by have h1 := HI1.out.2 hlt; have h2 := HN4.out; omega
          have HJ := hide hj
          clear hj hj2
          go_wp2
          go_loopw [9] (fun kv wr => ∃ k : Nat, k < n ∧ kv = .int .i64 (k : Int) ∧ at_ l k ≤ t ∧ Hid (wr.ownsRow w1.heap.size 42 2 (.slice oa j oc) j (flat (filK l s j))) ∧ Hid (Below w1.heap.size w1 wr)) (fun kv _ => n - (intOf kv).toNat)
          case atStart => exact ⟨ko, hkno, rfl, hkto, HO, BW⟩
          case round =>
            clear HO BW hkno hkto
            obtain ⟨k, hkn, rfl, hkt, HO, BW⟩ := hrel
            have hwk : IntKind.i64.wrap ((k : Int) + 1) = (k : Int) + 1 := wrap16 (by omega) (by omega)
            have hk10 : (0 : Int) ≤ (k : Int) + 1 := by omega
            by_cases hk1 : (k : Int) + 1 < (n : Int)
            · obtain ⟨b', off', e, hn0', _⟩ := sl2_at HS1.out (k := k + 1) (by rw [HN.out]; omega)
              cases e
              have hcn := (BW.out.cell (p := ⟨b, off + (k + 1) * 2, none⟩) (blk_lt hn0')).trans hn0'
              have hk1N : k + 1 < n := by omega
              obtain ⟨u, huu⟩ : ∃ u, u = at_ l (k + 1) := ⟨_, rfl⟩
              rw [← huu] at hcn
              have HU := hide huu
              clear hn0' huu
              by_cases hut : u ≤ t
              · go_wp2
                go_roundw
                case rel => exact ⟨k + 1, hk1N, by go_num, by rw [← HU.out]; exact hut, HO, BW⟩
                case measure => simp [intOf]; omega
              · have HV := hide (show vat l t = vl l k from vat_of HC.out HN.out hkn hkt (fun h => by rw [← HU.out]; exact hut))
                obtain ⟨b', off', e, _, hv0⟩ := sl2_at HS1.out (k := k) (by rw [HN.out]; exact hkn)
                cases e
                have hcv := (BW.out.cell (p := ⟨b, off + k * 2 + 1, none⟩) (blk_lt hv0)).trans hv0
                obtain ⟨y, hyy⟩ : ∃ y, y = vl l k := ⟨_, rfl⟩
                rw [← hyy] at hcv HV
                have HTK := hide (show filK l s (j + 1) = filK l s j ++ [(t, y)] by rw [HTF.out, HV.out])
                clear hv0 hyy
                have hkI : (k : Int) < (n : Int) := by omega
                have hsz := BW.out.size
                go_wp2_with (first
                  | (at_builtin; refine wpList_append_own _ rfl _ _ 24 rfl w1.heap.size 42 i1 (.agg #[.int .i64 0, .int .i64 0]) 2 16 Try.underlying24 hi1 hy0 hy1 hy2 rfl (by decide) _ _ _ rfl (HO.out.alloc _) ⟨wr.heap.size, 0, none⟩ 1 1 [.int .i64 t, .int .i64 y] rfl rfl (cell_two16 _ _ _ _) (by intro u hu; simp at hu; rcases hu with rfl | rfl <;> rfl) (by unfold maxLen; omega) (by omega) (by simp; omega) ?_)
                  | go_in)
                intro v6 w6 hown6 hgrow6 _
                have B6 := hide ((BW.out.alloc hsz (.cells #[.int .i64 t, .int .i64 y] 42)).grown hgrow6 (by simp; omega) (fun g hg => (HO.out.lt g hg).1))
                have O6 := hide (show w6.ownsRow w1.heap.size 42 2 v6 (j + 1) (flat (filK l s (j + 1))) from by rw [HTK.out, flat_append]; exact hown6)
                clear hown6 hgrow6
                obtain ⟨a6, c6, rfl, _, _⟩ := own_form2 O6.out
                have hws : IntKind.i64.wrap (t + s) = t + s := wrap16 (by omega) (by omega)
                have HNX := hide (show Value.int .i64 (t + s) = .int .i64 (flj l s (j + 1)) by rw [HSU.out])
                have HKN := hide (show at_ l k ≤ flj l s (j + 1) by rw [HSU.out]; omega)
                have HLJ := hide (show j + 1 ≤ nfl l s by have h1 := HI1.out.2 hlt; omega)
                go_wp2
                go_roundw
                case rel => exact ⟨j + 1, k, HLJ, HNX.out, hkn, rfl, HKN, O6, B6⟩
                case measure => simp [intOf]; omega
            · have HV := hide (show vat l t = vl l k from vat_of HC.out HN.out hkn hkt (fun h => absurd h (by omega)))
              obtain ⟨b', off', e, _, hv0⟩ := sl2_at HS1.out (k := k) (by rw [HN.out]; exact hkn)
              cases e
              have hcv := (BW.out.cell (p := ⟨b, off + k * 2 + 1, none⟩) (blk_lt hv0)).trans hv0
              obtain ⟨y, hyy⟩ : ∃ y, y = vl l k := ⟨_, rfl⟩
              rw [← hyy] at hcv HV
              have HTK := hide (show filK l s (j + 1) = filK l s j ++ [(t, y)] by rw [HTF.out, HV.out])
              clear hv0 hyy
              have hkI : (k : Int) < (n : Int) := by omega
              have hsz := BW.out.size
              go_wp2_with (first
                | (at_builtin; refine wpList_append_own _ rfl _ _ 24 rfl w1.heap.size 42 i1 (.agg #[.int .i64 0, .int .i64 0]) 2 16 Try.underlying24 hi1 hy0 hy1 hy2 rfl (by decide) _ _ _ rfl (HO.out.alloc _) ⟨wr.heap.size, 0, none⟩ 1 1 [.int .i64 t, .int .i64 y] rfl rfl (cell_two16 _ _ _ _) (by intro u hu; simp at hu; rcases hu with rfl | rfl <;> rfl) (by unfold maxLen; omega) (by omega) (by simp; omega) ?_)
                | go_in)
              intro v6 w6 hown6 hgrow6 _
              have B6 := hide ((BW.out.alloc hsz (.cells #[.int .i64 t, .int .i64 y] 42)).grown hgrow6 (by simp; omega) (fun g hg => (HO.out.lt g hg).1))
              have O6 := hide (show w6.ownsRow w1.heap.size 42 2 v6 (j + 1) (flat (filK l s (j + 1))) from by rw [HTK.out, flat_append]; exact hown6)
              clear hown6 hgrow6
              obtain ⟨a6, c6, rfl, _, _⟩ := own_form2 O6.out
              have hws : IntKind.i64.wrap (t + s) = t + s := wrap16 (by omega) (by omega)
              have HNX := hide (show Value.int .i64 (t + s) = .int .i64 (flj l s (j + 1)) by rw [HSU.out])
              have HKN := hide (show at_ l k ≤ flj l s (j + 1) by rw [HSU.out]; omega)
              have HLJ := hide (show j + 1 ≤ nfl l s by have h1 := HI1.out.2 hlt; omega)
              go_wp2
              go_roundw
              case rel => exact ⟨j + 1, k, HLJ, HNX.out, hkn, rfl, HKN, O6, B6⟩
              case measure => simp [intOf]; omega
        · have HE := hide (show nfl l s = j by have h1 := HI1.out; omega)
          have B3 := hide (B1.out.trans (BW.out.mono B1.out.size))
          have O3 := hide (own_baseS16 HO.out B1.out.size)
          go_wp2
          go_ret2
          exact ⟨_, by rw [HR.out]; rfl, by rw [HR.out]; simp only [Option.getD_some]; rw [HE.out, filK_len]; exact O3.out, B3.out⟩
  · have HN4 := hide (show nfl l s ≤ 40 by have hnf := HNF.out; rw [if_neg hMx] at hnf; omega)
    have HR := hide (HR2.out HN4.out)
    clear HR1 HR2
    go_enter Try.func22, Try.ntmps22
    go_wp2_with fail
    refine CO.out.mono ?_
    rintro e w1 ⟨rfl, hb1⟩
    have B1 := hide hb1
    have HS1 := hide (HS.out.below hb1)
    obtain ⟨hc0, hc1⟩ := (HSET w1 hb1).out
    clear hb1 HSET
    go_wp2_with fail
    refine (CZ.out _).mono ?_
    rintro e w2 ⟨rfl, hw21⟩
    obtain rfl := hw21.symm
    go_upto_region 11 with fail
    clear hc0 hc1
    go_loopw [6, 8, 9] (fun tv ov kv wr => ∃ j k : Nat, j ≤ nfl l s ∧ tv = .int .i64 (flj l s j) ∧ k < n ∧ kv = .int .i64 (k : Int) ∧ at_ l k ≤ flj l s j ∧ Hid (wr.ownsRow w1.heap.size 42 2 ov j (flat (filK l s j))) ∧ Hid (Below w1.heap.size w1 wr)) (fun tv _ _ _ => (x1 + 1 - intOf tv).toNat)
    case atStart => exact ⟨0, 0, Nat.zero_le _, by rw [← HMM.out], h0n, rfl, by rw [← HX.out]; exact HG.out 0, World.ownsRow_nil _ _ _ _, Below.refl _ _⟩
    case round =>
      obtain ⟨j, ko, hj, rfl, hkno, rfl, hkto, HO, BW⟩ := hrel
      obtain ⟨oa, oc, rfl, _, _⟩ := own_form2 HO.out
      have hsu := flj_succ l s j
      have hge := HG.out j
      have hI := HI.out j
      have htf := filK_succ l s j
      have hIp := HI.out (j - 1)
      obtain ⟨t, ht⟩ : ∃ t, t = flj l s j := ⟨_, rfl⟩
      rw [← ht] at hsu hI hkto htf hge
      rw [← ht]
      have HSU := hide hsu
      have HI1 := hide hI
      have HTF := hide htf
      have hj40 : j ≤ 40 := Nat.le_trans hj HN4.out
      have hj2 := hj
      clear hsu hI htf hIp ht
      by_cases hlt : t ≤ x1
      · have h4 : j < 40 := by have h1 := HI1.out.2 hlt; have h2 := HN4.out; omega
        have HJ := hide hj
        clear hj hj2
        go_wp2
        go_loopw [9] (fun kv wr => ∃ k : Nat, k < n ∧ kv = .int .i64 (k : Int) ∧ at_ l k ≤ t ∧ Hid (wr.ownsRow w1.heap.size 42 2 (.slice oa j oc) j (flat (filK l s j))) ∧ Hid (Below w1.heap.size w1 wr)) (fun kv _ => n - (intOf kv).toNat)
        case atStart => exact ⟨ko, hkno, rfl, hkto, HO, BW⟩
        case round =>
          clear HO BW hkno hkto
          obtain ⟨k, hkn, rfl, hkt, HO, BW⟩ := hrel
          have hwk : IntKind.i64.wrap ((k : Int) + 1) = (k : Int) + 1 := wrap16 (by omega) (by omega)
          have hk10 : (0 : Int) ≤ (k : Int) + 1 := by omega
          by_cases hk1 : (k : Int) + 1 < (n : Int)
          · obtain ⟨b', off', e, hn0', _⟩ := sl2_at HS1.out (k := k + 1) (by rw [HN.out]; omega)
            cases e
            have hcn := (BW.out.cell (p := ⟨b, off + (k + 1) * 2, none⟩) (blk_lt hn0')).trans hn0'
            have hk1N : k + 1 < n := by omega
            obtain ⟨u, huu⟩ : ∃ u, u = at_ l (k + 1) := ⟨_, rfl⟩
            rw [← huu] at hcn
            have HU := hide huu
            clear hn0' huu
            by_cases hut : u ≤ t
            · go_wp2
              go_roundw
              case rel => exact ⟨k + 1, hk1N, by go_num, by rw [← HU.out]; exact hut, HO, BW⟩
              case measure => simp [intOf]; omega
            · have HV := hide (show vat l t = vl l k from vat_of HC.out HN.out hkn hkt (fun h => by rw [← HU.out]; exact hut))
              obtain ⟨b', off', e, _, hv0⟩ := sl2_at HS1.out (k := k) (by rw [HN.out]; exact hkn)
              cases e
              have hcv := (BW.out.cell (p := ⟨b, off + k * 2 + 1, none⟩) (blk_lt hv0)).trans hv0
              obtain ⟨y, hyy⟩ : ∃ y, y = vl l k := ⟨_, rfl⟩
              rw [← hyy] at hcv HV
              have HTK := hide (show filK l s (j + 1) = filK l s j ++ [(t, y)] by rw [HTF.out, HV.out])
              clear hv0 hyy
              have hkI : (k : Int) < (n : Int) := by omega
              have hsz := BW.out.size
              go_wp2_with (first
                | (at_builtin; refine wpList_append_own _ rfl _ _ 24 rfl w1.heap.size 42 i1 (.agg #[.int .i64 0, .int .i64 0]) 2 16 Try.underlying24 hi1 hy0 hy1 hy2 rfl (by decide) _ _ _ rfl (HO.out.alloc _) ⟨wr.heap.size, 0, none⟩ 1 1 [.int .i64 t, .int .i64 y] rfl rfl (cell_two16 _ _ _ _) (by intro u hu; simp at hu; rcases hu with rfl | rfl <;> rfl) (by unfold maxLen; omega) (by omega) (by simp; omega) ?_)
                | go_in)
              intro v6 w6 hown6 hgrow6 _
              have B6 := hide ((BW.out.alloc hsz (.cells #[.int .i64 t, .int .i64 y] 42)).grown hgrow6 (by simp; omega) (fun g hg => (HO.out.lt g hg).1))
              have O6 := hide (show w6.ownsRow w1.heap.size 42 2 v6 (j + 1) (flat (filK l s (j + 1))) from by rw [HTK.out, flat_append]; exact hown6)
              clear hown6 hgrow6
              obtain ⟨a6, c6, rfl, _, _⟩ := own_form2 O6.out
              have hws : IntKind.i64.wrap (t + s) = t + s := wrap16 (by omega) (by omega)
              have HNX := hide (show Value.int .i64 (t + s) = .int .i64 (flj l s (j + 1)) by rw [HSU.out])
              have HKN := hide (show at_ l k ≤ flj l s (j + 1) by rw [HSU.out]; omega)
              have HLJ := hide (show j + 1 ≤ nfl l s by have h1 := HI1.out.2 hlt; omega)
              go_wp2
              go_roundw
              case rel => exact ⟨j + 1, k, HLJ, HNX.out, hkn, rfl, HKN, O6, B6⟩
              case measure => simp [intOf]; omega
          · have HV := hide (show vat l t = vl l k from vat_of HC.out HN.out hkn hkt (fun h => absurd h (by omega)))
            obtain ⟨b', off', e, _, hv0⟩ := sl2_at HS1.out (k := k) (by rw [HN.out]; exact hkn)
            cases e
            have hcv := (BW.out.cell (p := ⟨b, off + k * 2 + 1, none⟩) (blk_lt hv0)).trans hv0
            obtain ⟨y, hyy⟩ : ∃ y, y = vl l k := ⟨_, rfl⟩
            rw [← hyy] at hcv HV
            have HTK := hide (show filK l s (j + 1) = filK l s j ++ [(t, y)] by rw [HTF.out, HV.out])
            clear hv0 hyy
            have hkI : (k : Int) < (n : Int) := by omega
            have hsz := BW.out.size
            go_wp2_with (first
              | (at_builtin; refine wpList_append_own _ rfl _ _ 24 rfl w1.heap.size 42 i1 (.agg #[.int .i64 0, .int .i64 0]) 2 16 Try.underlying24 hi1 hy0 hy1 hy2 rfl (by decide) _ _ _ rfl (HO.out.alloc _) ⟨wr.heap.size, 0, none⟩ 1 1 [.int .i64 t, .int .i64 y] rfl rfl (cell_two16 _ _ _ _) (by intro u hu; simp at hu; rcases hu with rfl | rfl <;> rfl) (by unfold maxLen; omega) (by omega) (by simp; omega) ?_)
              | go_in)
            intro v6 w6 hown6 hgrow6 _
            have B6 := hide ((BW.out.alloc hsz (.cells #[.int .i64 t, .int .i64 y] 42)).grown hgrow6 (by simp; omega) (fun g hg => (HO.out.lt g hg).1))
            have O6 := hide (show w6.ownsRow w1.heap.size 42 2 v6 (j + 1) (flat (filK l s (j + 1))) from by rw [HTK.out, flat_append]; exact hown6)
            clear hown6 hgrow6
            obtain ⟨a6, c6, rfl, _, _⟩ := own_form2 O6.out
            have hws : IntKind.i64.wrap (t + s) = t + s := wrap16 (by omega) (by omega)
            have HNX := hide (show Value.int .i64 (t + s) = .int .i64 (flj l s (j + 1)) by rw [HSU.out])
            have HKN := hide (show at_ l k ≤ flj l s (j + 1) by rw [HSU.out]; omega)
            have HLJ := hide (show j + 1 ≤ nfl l s by have h1 := HI1.out.2 hlt; omega)
            go_wp2
            go_roundw
            case rel => exact ⟨j + 1, k, HLJ, HNX.out, hkn, rfl, HKN, O6, B6⟩
            case measure => simp [intOf]; omega
      · have HE := hide (show nfl l s = j by have h1 := HI1.out; omega)
        have B3 := hide (B1.out.trans (BW.out.mono B1.out.size))
        have O3 := hide (own_baseS16 HO.out B1.out.size)
        go_wp2
        go_ret2
        exact ⟨_, by rw [HR.out]; rfl, by rw [HR.out]; simp only [Option.getD_some]; rw [HE.out, filK_len]; exact O3.out, B3.out⟩
end Go.Proofs.Yticgejaaoamhmap.L16
