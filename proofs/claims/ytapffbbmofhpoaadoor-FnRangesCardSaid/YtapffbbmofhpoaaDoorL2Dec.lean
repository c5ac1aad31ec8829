/-
  Contract: impl.DecodeChunk: the good samples with a text, in new memory, and true, where there are such; else no list and false.
-/
import Derived.Test.YtapffbbmofhpoaaDoorL2Samples
import Derived.Test.YtapffbbmofhpoaaDoorL1GetEach
import Derived.Test.YtapffbbmofhpoaaDoorL2DecMath
namespace Go.Proofs.YtapffbbmofhpoaaDoor.L1
open Go.RowKit
set_option linter.unusedVariables false

theorem dcRes_ge {t : List Int} : dcRes t = (geRes 81 t).bind ofNums := by
  unfold dcRes geRes
  cases gall t with
  | none => rfl
  | some ys =>
    simp only [Option.bind_some]
    split
    · rfl
    · rename_i h
      cases ys with
      | nil => simp at h
      | cons c r =>
        simp only [ofNums, Option.bind_none]
        rw [if_neg]
        intro hh
        simp at h
        omega
theorem geRes_ok {M : Nat} {s : ByteArray} {ys : List Int} (h : geRes M (bts s 0) = some ys) : OkL ys ∧ ys.length ≤ M := by
  unfold geRes at h
  cases hg : gall (bts s 0) with
  | none => rw [hg] at h; simp at h
  | some zs =>
    rw [hg] at h
    simp only [Option.bind_some] at h
    split at h
    · rename_i hl
      simp at h
      subst h
      exact ⟨okL_of_mem (cat_gall _ _ _ (Nat.le_refl _) (bts_mem s 0) hg).2, hl⟩
    · simp at h

set_option maxRecDepth 100000 in
set_option maxHeartbeats 1000000 in
theorem decodeChunk_any (s : ByteArray) (w : World) (hs : s.size ≤ 1048576) (ht : Tab w) :
    Calls Tryd.prog 40 #[.string s] w fun e w' => RetS w (dcRes (bts s 0)) e w' := by
  have c1 := getEach_any 81 (by omega) s w hs ht
  rw [dcRes_ge]
  cases hge : geRes 81 (bts s 0) with
  | none =>
    rw [hge] at c1
    simp only [RetL, Option.isSome_none, Option.getD_none, Option.bind_none] at c1 ⊢
    have C1 := hide c1
    clear c1 hge ht
    go_enter Tryd.func40, Tryd.ntmps40
    go_wp2_with fail
    refine C1.out.mono ?_
    rintro e w1 ⟨v, rfl, ho, hb1⟩
    obtain ⟨va, vc, rfl, _, _⟩ := own_form ho
    clear ho
    go_wp2
    go_ret2
    exact ⟨_, rfl, World.ownsRow_nil _ _ _ _, hb1⟩
  | some ys =>
    obtain ⟨hok, hlen⟩ := geRes_ok hge
    rw [hge] at c1
    simp only [RetL, Option.isSome_some, Option.getD_some, Option.bind_some] at c1 ⊢
    cases ys with
    | nil =>
      have C1 := hide c1
      clear c1 hge ht hok
      go_enter Tryd.func40, Tryd.ntmps40
      go_wp2_with fail
      refine C1.out.mono ?_
      rintro e w1 ⟨v, rfl, ho, hb1⟩
      obtain ⟨va, vc, rfl, _, _⟩ := own_form ho
      clear ho
      go_wp2
      go_ret2
      exact ⟨_, rfl, World.ownsRow_nil _ _ _ _, hb1⟩
    | cons c r =>
      have hc := hok 0 (by simp)
      have hokr := okL_tail hok
      simp only [List.getD_cons_zero, List.length_cons] at hc hlen c1
      have C1 := hide c1
      obtain ⟨hc1, hc2⟩ := hc
      clear c1 hge ht hok
      by_cases heq : (r.length : Int) = 2 * c
      · rw [ofNums_eq heq (by omega)]
        obtain ⟨m, hm⟩ : ∃ m : Nat, c = (m : Int) := ⟨c.toNat, by omega⟩
        subst hm
        have hrl : r.length = 2 * m := by omega
        rw [hrl] at C1 hlen
        have hm40 : m ≤ 40 := by omega
        obtain ⟨R, hR⟩ : ∃ R, R = ofPairs r := ⟨_, rfl⟩
        rw [← hR]
        by_cases hm0 : m = 0
        · subst hm0
          have C2 := hide (fun a cap w => samplesOf_any a r 0 cap w hrl hm40 (fun i hi => by omega) hokr R hR)
          have hr0 : r = [] := List.eq_nil_of_length_eq_zero (by omega)
          subst hr0
          simp only [Nat.mul_zero, Nat.zero_add] at C1 C2
          clear heq hrl hokr hR hlen hm40
          go_enter Tryd.func40, Tryd.ntmps40
          go_wp2_with fail
          refine C1.out.mono ?_
          rintro e w1 ⟨v, rfl, ho, hb1⟩
          obtain ⟨g, cap, rfl⟩ := ownsRow_succ' (k := 0) ho
          have hs1 := sl_of_own ho
          have hcap : 1 ≤ cap := by
            rcases ho.2 with ⟨h, _⟩ | ⟨g', cap', cur, e, _, _, hle, _⟩
            · simp at h
            · cases e; exact hle
          have hcell := hs1.at 0 (by simp)
          simp only [List.getD_cons_zero, Nat.add_zero] at hcell
          have B1 := hide hb1
          have hcapI : (1 : Int) ≤ (cap : Int) := by omega
          clear ho hs1 hb1
          go_wp2_with fail
          all_goals
            refine (C2.out _ _ _).mono ?_
            rintro e w2 ⟨v2, rfl, ho2, hb2⟩
            obtain ⟨va, vc, rfl, _, _⟩ := own_formS ho2
            have HO2 := hide (own_base ho2 B1.out.size)
            have B2 := hide (B1.out.trans (hb2.mono B1.out.size))
            clear ho2 hb2
            go_wp2
            go_ret2
            exact ⟨_, rfl, HO2.out, B2.out⟩
        · have C2 := hide (fun a cap w hs => samplesOf_any a r m cap w hrl hm40 hs hokr R hR)
          have HRL := hide hrl
          have hm1 : 1 ≤ m := by omega
          clear heq hrl hokr hR
          go_enter Tryd.func40, Tryd.ntmps40
          go_wp2_with fail
          refine C1.out.mono ?_
          rintro e w1 ⟨v, rfl, ho, hb1⟩
          obtain ⟨g, cap, rfl⟩ := ownsRow_succ' ho
          have hs1 := sl_of_own ho
          have hcap : 2 * m + 1 ≤ cap := by
            rcases ho.2 with ⟨h, _⟩ | ⟨g', cap', cur, e, _, _, hle, _⟩
            · simp at h
            · cases e; exact hle
          have hcell := hs1.at 0 (by simp)
          simp only [List.getD_cons_zero, Nat.add_zero] at hcell
          have HS1 := hide hs1
          have B1 := hide hb1
          have hcapI : (2 * (m : Int) + 1) ≤ (cap : Int) := by omega
          have hq0 : ((2 * (m : Int) + 1) == 0) = false := by simp; omega
          have hq1 : ((2 * (m : Int) + 1) != 1 + 2 * (m : Int)) = false := by simp; omega
          have hcp0 : ¬ cap = 1 := by omega
          have hcp1 : ¬ cap - 1 = 0 := by omega
          clear ho hs1 hb1
          go_wp2_with fail
          refine (C2.out _ _ _ (sl_tail HS1.out)).mono ?_
          rintro e w2 ⟨v2, rfl, ho2, hb2⟩
          obtain ⟨va, vc, rfl, _, _⟩ := own_formS ho2
          have HO2 := hide (own_base ho2 B1.out.size)
          have B2 := hide (B1.out.trans (hb2.mono B1.out.size))
          clear ho2 hb2
          go_wp2
          go_ret2
          exact ⟨_, rfl, HO2.out, B2.out⟩
      · have hN : (((r.length : Int) + 1) != 1 + 2 * c) = true := by simp; omega
        have hN0 : (((r.length : Int) + 1) == 0) = false := by simp; omega
        rw [ofNums_ne heq]
        clear hokr heq
        go_enter Tryd.func40, Tryd.ntmps40
        go_wp2_with fail
        refine C1.out.mono ?_
        rintro e w1 ⟨v, rfl, ho, hb1⟩
        obtain ⟨g, cap, rfl⟩ := ownsRow_succ' ho
        have hs1 := sl_of_own ho
        have hcell := hs1.at 0 (by simp)
        simp only [List.getD_cons_zero, Nat.add_zero] at hcell
        clear ho hs1
        go_wp2
        go_ret2
        exact ⟨_, rfl, World.ownsRow_nil _ _ _ _, hb1⟩
end Go.Proofs.YtapffbbmofhpoaaDoor.L1
