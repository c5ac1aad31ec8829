/-
  Contract: spec.StampsOf.
-/
import Derived.Test.YtkfnejiiancmhahL11Stamp
import Derived.Test.YtkfnejiiancmhahL11SGood
import Derived.Test.YtkfnejiiancmhahL11Prior
namespace Go.Proofs.Ytkfnejiiancmhah.L11
open Go.RowKit L1 Own
set_option linter.unusedVariables false

set_option maxRecDepth 100000 in
set_option maxHeartbeats 4000000 in
theorem specStamps_any (N : Int) (a : Option Addr) (l : List (Int × Int)) (n cap : Nat) (w : World) (hn : l.length = n) (hs : Sl2 w a l) (hn2 : n ≤ 1048576) (hN : N ≤ 9223372036854775807) (r : Option (List Int)) (hr : r = stRes N l) :
    Calls Try.prog 26 #[.int .i64 N, .slice a n cap] w fun e w' => RetL w r e w' := by
  by_cases hg : GoodV N l
  case neg =>
    have C := hide (specGoodEvents_any N a l n cap w hn hs hn2 hN false (by simp [hg]))
    have HR : Hid (r = none) := by rw [hr]; unfold stRes; rw [if_neg hg]; rfl
    clear hr hg hs hn
    go_enter Try.func26, Try.ntmps26
    go_wp2_with fail
    refine C.out.mono ?_
    rintro e w1 ⟨rfl, hb1⟩
    have B1 := hide hb1
    clear hb1
    go_wp2
    go_ret2
    exact ⟨_, by rw [HR.out]; rfl, by rw [HR.out]; exact World.ownsRow_nil _ _ _ _, B1.out⟩
  have C := hide (specGoodEvents_any N a l n cap w hn hs hn2 hN true (by simp [hg]))
  have HR : Hid (r = some (stps l n)) := by rw [hr]; unfold stRes; rw [if_pos hg, hn]; rfl
  have h40 : n ≤ 40 := by have := hg.2.2.1; omega
  obtain ⟨i1, hi1, hy0, hy1, hy2⟩ := info_parts info_int
  have HG := hide hg
  have HS := hide hs
  have HN := hide hn
  clear hr hg hs hn hN
  go_enter Try.func26, Try.ntmps26
  go_wp2_with fail
  refine C.out.mono ?_
  rintro e w1 ⟨rfl, hb1⟩
  have B1 := hide hb1
  clear hb1 C
  go_wp2
  go_loopw [6, 17] (fun ot i wr => ∃ k : Nat, k ≤ n ∧ i = .int .i64 k ∧ wr.ownsRow w.heap.size 3 1 ot k ((stps l k).map (Value.int .i64)) ∧ Below w.heap.size w wr) (fun _ i _ => n - (intOf i).toNat)
  case atStart => exact ⟨0, Nat.zero_le _, rfl, World.ownsRow_nil _ _ _ _, B1.out⟩
  case round =>
    obtain ⟨k, hk, rfl, hown, hbel⟩ := hrel
    by_cases hlt : k < n
    · have hv := HG.out.2.2.2 k (by rw [HN.out]; exact hlt)
      have hsl := HS.out.below hbel
      obtain ⟨b, off, rfl, q1, q2⟩ := hsl k (by rw [HN.out]; exact hlt)
      clear q1 q2
      obtain ⟨hc, hd⟩ := hsl.two k (by rw [HN.out]; exact hlt)
      obtain ⟨x, hx⟩ : ∃ x, x = nd l k := ⟨_, rfl⟩
      rw [← hx] at hc
      obtain ⟨oa, ocap, rfl, hso, q1⟩ := own_form hown
      clear q1
      have hltI : (k : Int) < (n : Int) := by omega
      obtain ⟨y, hy⟩ : ∃ y, y = fr l k := ⟨_, rfl⟩
      rw [← hy] at hd
      obtain ⟨p, hp⟩ : ∃ p, p = pri l (nd l k) k := ⟨_, rfl⟩
      have CP := hide (fun w hs => prior_any b off l n cap k w HN.out hs hlt hn2 p hp)
      have hst := stp_eq l k hv.2.2.2.1
      rw [← hp, ← hy] at hst
      have hplt := pri_lt l (nd l k) k
      have hpge := pri_ge l (nd l k) k
      rw [← hp] at hplt hpge
      have HST := hide hst
      have HY := hide hy
      have HV := hide hv
      have HROW := hide hown
      have HSO := hide hso
      have HSL := hide hsl
      have B0 := hide hbel
      have hsz := hbel.size
      clear hy hx hv hown hso hsl hbel hst hp
      go_upto_region 8 with fail
      obtain ⟨W0, hW0⟩ : ∃ W0, wr.alloc (.cells #[.int .i64 x, .int .i64 y] 48) = W0 := ⟨_, rfl⟩
      have hbw : Below wr.heap.size wr W0 := by rw [← hW0]; exact (Below.refl _ _).alloc (Nat.le_refl _) _
      have e1 : W0.cell? ⟨wr.heap.size, 1, none⟩ = some (.int .i64 y) := by rw [← hW0]; simp
      rw [hW0]
      obtain ⟨eb, heb⟩ : ∃ eb, eb = wr.heap.size := ⟨_, rfl⟩
      rw [← heb] at e1 ⊢
      have HBW : Hid (Below wr.heap.size wr W0) := hbw
      have E1 := hide e1
      clear hW0 hbw heb e1
      go_wp2_with fail
      refine (CP.out _ (HSL.out.below HBW.out)).mono ?_
      rintro e w2 ⟨rfl, hb2⟩
      have hbw2 : Below wr.heap.size wr w2 := HBW.out.trans (hb2.mono HBW.out.size)
      have e1 : w2.cell? ⟨eb, 1, none⟩ = some (.int .i64 y) := (hb2.cell (p := ⟨eb, 1, none⟩) (blk_lt E1.out)).trans E1.out
      have HROW2 := hide (own_belowT HROW.out hbw2)
      have HSO2 := hide (HSO.out.below hbw2)
      have B2 := hide (B0.out.trans (hbw2.mono B0.out.size))
      have hsz2 := B2.out.size
      clear hb2 hbw2 HBW E1 CP HSL HROW HSO B0
      by_cases hp0 : p < 0
      · have hpb : ¬ 0 ≤ p := by omega
        have hL : stpO l p = 0 := by unfold stpO; rw [if_neg hpb]
        rw [hL] at HST
        obtain ⟨L0, hL0⟩ : ∃ L0 : Int, L0 = 0 := ⟨_, rfl⟩
        have HST0 := HST
        rw [← hL0] at HST
        subst hL0
        clear hL HST0 hp0
        by_cases hy1 : y < 0
        · have hyb : ¬ 0 ≤ y := by omega
          have hS : (0 : Int) + 1 = stp l k := by
            rw [HST.out]
            have : stpO l y = 0 := by unfold stpO; rw [if_neg hyb]
            rw [this]; omega
          have HSS := hide hS
          clear hy1 hS
          go_wp2_with (first
            | (at_builtin; refine wpList_append_own_at _ rfl _ _ 38 rfl w.heap.size 3 i1 (.int .i64 0) 1 8 Try.underlying38 hi1 hy0 hy1 hy2 rfl (by decide) _ _ _ rfl (HROW2.out.alloc _) ⟨w2.heap.size, 0, none⟩ 1 1 [.int .i64 ((0 : Int) + 1)] rfl rfl (cell_one11 _ _ rfl _ _) (by intro u hu; simp at hu; subst hu; rfl) (by unfold maxLen; omega) (by omega) (by simp; omega) ?_)
            | go_in)
          intro v6 w6 hown6 hgrow6 _ hat6
          have hb6 : Below w.heap.size w w6 := (B2.out.alloc B2.out.size _).grown hgrow6 (by simp; omega) (fun q hq => (HROW2.out.lt q hq).1)
          have hown7 : w6.ownsRow w.heap.size 3 1 v6 (k + 1) ((stps l (k + 1)).map (Value.int .i64)) := by
            rw [stps_succ, ← HSS.out]
            simpa using hown6
          have H7 := hide hown7
          clear hown6 hgrow6 hown7 hat6
          go_wp2
          go_roundw
          case rel => exact ⟨k + 1, by omega, by go_num, H7.out, hb6⟩
          case measure => simp [intOf]; omega
        · have hv4 := HV.out.2.2.2.1
          rw [← HY.out] at hv4
          obtain ⟨f, hf⟩ : ∃ f : Nat, y = (f : Int) := ⟨y.toNat, by omega⟩
          subst hf
          have hfk : f < k := by omega
          obtain ⟨ob, oo, hoe, hcf⟩ := HSO2.out f (by rw [stps_len]; exact hfk)
          subst hoe
          rw [stps_get l k f hfk] at hcf
          have hfb := stp_bd l f
          have hS : max (0 : Int) (stp l f) + 1 = stp l k := by
            rw [HST.out]
            have : stpO l (f : Int) = stp l f := by unfold stpO; rw [if_pos (by omega)]; rfl
            rw [this]
          obtain ⟨vf, hvf⟩ : ∃ vf, vf = stp l f := ⟨_, rfl⟩
          rw [← hvf] at hcf hfb hS
          have hfI : (f : Int) < (k : Int) := by omega
          have hf0 : (0 : Int) ≤ (f : Int) := by omega
          have hfb1 : vf ≤ 40 := by omega
          have hfb0 := hfb.1
          clear hy1 hvf hv4 hfb
          by_cases hgt : (0 : Int) < vf
          · have HSS : Hid (vf + 1 = stp l k) := by rw [← hS]; exact (show vf + 1 = max (0 : Int) vf + 1 by omega)
            clear hS
            go_wp2_with (first
              | (at_builtin; refine wpList_append_own_at _ rfl _ _ 38 rfl w.heap.size 3 i1 (.int .i64 0) 1 8 Try.underlying38 hi1 hy0 hy1 hy2 rfl (by decide) _ _ _ rfl (HROW2.out.alloc _) ⟨w2.heap.size, 0, none⟩ 1 1 [.int .i64 (vf + 1)] rfl rfl (cell_one11 _ _ rfl _ _) (by intro u hu; simp at hu; subst hu; rfl) (by unfold maxLen; omega) (by omega) (by simp; omega) ?_)
              | go_in)
            intro v6 w6 hown6 hgrow6 _ hat6
            have hb6 : Below w.heap.size w w6 := (B2.out.alloc B2.out.size _).grown hgrow6 (by simp; omega) (fun q hq => (HROW2.out.lt q hq).1)
            have hown7 : w6.ownsRow w.heap.size 3 1 v6 (k + 1) ((stps l (k + 1)).map (Value.int .i64)) := by
              rw [stps_succ, ← HSS.out]
              simpa using hown6
            have H7 := hide hown7
            clear hown6 hgrow6 hown7 hat6
            go_wp2
            go_roundw
            case rel => exact ⟨k + 1, by omega, by go_num, H7.out, hb6⟩
            case measure => simp [intOf]; omega
          · exact absurd hgt (by omega)
      · obtain ⟨pn, hpn⟩ : ∃ pn : Nat, p = (pn : Int) := ⟨p.toNat, by omega⟩
        subst hpn
        have hpk : pn < k := by omega
        obtain ⟨pb, po, hpe, hcp⟩ := HSO2.out pn (by rw [stps_len]; exact hpk)
        subst hpe
        rw [stps_get l k pn hpk] at hcp
        have hpI : (pn : Int) < (k : Int) := by omega
        have hpI0 : (0 : Int) ≤ (pn : Int) := by omega
        have hL : stpO l (pn : Int) = stp l pn := by unfold stpO; rw [if_pos (by omega)]; rfl
        rw [hL] at HST
        have hlb := stp_bd l pn
        obtain ⟨L0, hL0⟩ : ∃ L0, L0 = stp l pn := ⟨_, rfl⟩
        rw [← hL0] at HST hcp hlb
        have hlb0 : 0 ≤ L0 := by omega
        have hlb1 : L0 ≤ 40 := by omega
        clear hL hL0 hlb hp0
        by_cases hy1 : y < 0
        · have hyb : ¬ 0 ≤ y := by omega
          have hS : L0 + 1 = stp l k := by
            rw [HST.out]
            have : stpO l y = 0 := by unfold stpO; rw [if_neg hyb]
            rw [this]; omega
          have HSS := hide hS
          clear hy1 hS
          go_wp2_with (first
            | (at_builtin; refine wpList_append_own_at _ rfl _ _ 38 rfl w.heap.size 3 i1 (.int .i64 0) 1 8 Try.underlying38 hi1 hy0 hy1 hy2 rfl (by decide) _ _ _ rfl (HROW2.out.alloc _) ⟨w2.heap.size, 0, none⟩ 1 1 [.int .i64 (L0 + 1)] rfl rfl (cell_one11 _ _ rfl _ _) (by intro u hu; simp at hu; subst hu; rfl) (by unfold maxLen; omega) (by omega) (by simp; omega) ?_)
            | go_in)
          intro v6 w6 hown6 hgrow6 _ hat6
          have hb6 : Below w.heap.size w w6 := (B2.out.alloc B2.out.size _).grown hgrow6 (by simp; omega) (fun q hq => (HROW2.out.lt q hq).1)
          have hown7 : w6.ownsRow w.heap.size 3 1 v6 (k + 1) ((stps l (k + 1)).map (Value.int .i64)) := by
            rw [stps_succ, ← HSS.out]
            simpa using hown6
          have H7 := hide hown7
          clear hown6 hgrow6 hown7 hat6
          go_wp2
          go_roundw
          case rel => exact ⟨k + 1, by omega, by go_num, H7.out, hb6⟩
          case measure => simp [intOf]; omega
        · have hv4 := HV.out.2.2.2.1
          rw [← HY.out] at hv4
          obtain ⟨f, hf⟩ : ∃ f : Nat, y = (f : Int) := ⟨y.toNat, by omega⟩
          subst hf
          have hfk : f < k := by omega
          obtain ⟨ob, oo, hoe, hcf⟩ := HSO2.out f (by rw [stps_len]; exact hfk)
          simp only [Option.some.injEq, Addr.mk.injEq, and_true] at hoe
          obtain ⟨rfl, rfl⟩ := hoe
          rw [stps_get l k f hfk] at hcf
          have hfb := stp_bd l f
          have hS : max L0 (stp l f) + 1 = stp l k := by
            rw [HST.out]
            have : stpO l (f : Int) = stp l f := by unfold stpO; rw [if_pos (by omega)]; rfl
            rw [this]
          obtain ⟨vf, hvf⟩ : ∃ vf, vf = stp l f := ⟨_, rfl⟩
          rw [← hvf] at hcf hfb hS
          have hfI : (f : Int) < (k : Int) := by omega
          have hf0 : (0 : Int) ≤ (f : Int) := by omega
          have hfb1 : vf ≤ 40 := by omega
          have hfb0 := hfb.1
          clear hy1 hvf hv4 hfb
          by_cases hgt : L0 < vf
          · have HSS : Hid (vf + 1 = stp l k) := by rw [← hS]; exact (show vf + 1 = max L0 vf + 1 by omega)
            clear hS
            go_wp2_with (first
              | (at_builtin; refine wpList_append_own_at _ rfl _ _ 38 rfl w.heap.size 3 i1 (.int .i64 0) 1 8 Try.underlying38 hi1 hy0 hy1 hy2 rfl (by decide) _ _ _ rfl (HROW2.out.alloc _) ⟨w2.heap.size, 0, none⟩ 1 1 [.int .i64 (vf + 1)] rfl rfl (cell_one11 _ _ rfl _ _) (by intro u hu; simp at hu; subst hu; rfl) (by unfold maxLen; omega) (by omega) (by simp; omega) ?_)
              | go_in)
            intro v6 w6 hown6 hgrow6 _ hat6
            have hb6 : Below w.heap.size w w6 := (B2.out.alloc B2.out.size _).grown hgrow6 (by simp; omega) (fun q hq => (HROW2.out.lt q hq).1)
            have hown7 : w6.ownsRow w.heap.size 3 1 v6 (k + 1) ((stps l (k + 1)).map (Value.int .i64)) := by
              rw [stps_succ, ← HSS.out]
              simpa using hown6
            have H7 := hide hown7
            clear hown6 hgrow6 hown7 hat6
            go_wp2
            go_roundw
            case rel => exact ⟨k + 1, by omega, by go_num, H7.out, hb6⟩
            case measure => simp [intOf]; omega
          · have HSS : Hid (L0 + 1 = stp l k) := by rw [← hS]; exact (show L0 + 1 = max L0 vf + 1 by omega)
            clear hS
            go_wp2_with (first
              | (at_builtin; refine wpList_append_own_at _ rfl _ _ 38 rfl w.heap.size 3 i1 (.int .i64 0) 1 8 Try.underlying38 hi1 hy0 hy1 hy2 rfl (by decide) _ _ _ rfl (HROW2.out.alloc _) ⟨w2.heap.size, 0, none⟩ 1 1 [.int .i64 (L0 + 1)] rfl rfl (cell_one11 _ _ rfl _ _) (by intro u hu; simp at hu; subst hu; rfl) (by unfold maxLen; omega) (by omega) (by simp; omega) ?_)
              | go_in)
            intro v6 w6 hown6 hgrow6 _ hat6
            have hb6 : Below w.heap.size w w6 := (B2.out.alloc B2.out.size _).grown hgrow6 (by simp; omega) (fun q hq => (HROW2.out.lt q hq).1)
            have hown7 : w6.ownsRow w.heap.size 3 1 v6 (k + 1) ((stps l (k + 1)).map (Value.int .i64)) := by
              rw [stps_succ, ← HSS.out]
              simpa using hown6
            have H7 := hide hown7
            clear hown6 hgrow6 hown7 hat6
            go_wp2
            go_roundw
            case rel => exact ⟨k + 1, by omega, by go_num, H7.out, hb6⟩
            case measure => simp [intOf]; omega
    · have hltI : ¬ (k : Int) < (n : Int) := by omega
      obtain rfl : k = n := by omega
      have HO := hide hown
      have B9 := hide hbel
      clear hown hbel
      go_wp2
      go_ret2
      exact ⟨_, by rw [HR.out]; rfl, by rw [HR.out]; simp only [Option.getD_some, stps_len]; exact HO.out, B9.out⟩
end Go.Proofs.Ytkfnejiiancmhah.L11
