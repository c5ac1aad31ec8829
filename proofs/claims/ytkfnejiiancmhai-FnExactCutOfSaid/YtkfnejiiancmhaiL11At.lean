/-
  Contract: spec.l11At, the numbers of events among those of their nodes.
-/
import Derived.Test.YtkfnejiiancmhaiL11Good
import Derived.Test.YtkfnejiiancmhaiArr
import Derived.Test.YtkfnejiiancmhaiL11AtM
import Derived.Deep.DeepCutAuto
import Derived.Maps.AppendAt
namespace Go.Proofs.Ytkfnejiiancmhai.L11
open Go.RowKit L1 Own
set_option linter.unusedVariables false

set_option maxRecDepth 100000 in
set_option maxHeartbeats 4000000 in
theorem l11At_any (N : Nat) (a : Option Addr) (l : List (Int × Int)) (n cap : Nat) (w : World) (hn : l.length = n) (hs : Sl2 w a l) (hg : GoodV (N : Int) l) :
    Calls Try.prog 30 #[.int .i64 N, .slice a n cap] w fun e w' => ∃ v, e = .returned v ∧ w'.ownsRow w.heap.size 3 1 v n ((atL l n).map (Value.int .i64)) ∧ Below w.heap.size w w' := by
  have h40 : n ≤ 40 := by have := hg.2.2.1; omega
  have hN1 : 1 ≤ N := by have := hg.1; omega
  have hN5 : N ≤ 5 := by have := hg.2.1; omega
  have hNI : (0 : Int) ≤ (N : Int) := by omega
  obtain ⟨i1, hi1, hy0, hy1, hy2⟩ := info_parts info_int
  obtain ⟨w1, hmk, hown1, hg1⟩ := run_make_full (P := Try.prog) w w.heap.size 24 3 i1 (.int .i64 0) 1 Try.underlying24 hi1 hy0 hy1 .i64 .i64 N (by rw [hy2]; omega) (by unfold maxLen; omega) (Nat.le_refl _)
  rw [made_lA] at hown1
  have hb1 : Below w.heap.size w w1 := (Below.refl _ _).grown hg1 (Nat.le_refl _) (fun k hk => by cases hk)
  have A0 : Hid (Arr 3 N w1 w.heap.size w.heap.size (cntN l 0)) := hown1
  have HB1 := hide hb1
  have HG := hide hg
  have HS := hide hs
  have HN := hide hn
  clear hown1 hg1 hs hn hg hb1
  go_enter Try.func30, Try.ntmps30
  go_wp2
  obtain ⟨g, hge⟩ : ∃ g, g = w.heap.size := ⟨_, rfl⟩
  have HGE := hide hge
  have A1 : Hid (Arr 3 N w1 w.heap.size g (cntN l 0)) := by rw [hge]; exact A0
  rw [← hge]
  clear hge A0 hmk
  go_loopw [6, 13] (fun ot i wr => ∃ k : Nat, k ≤ n ∧ i = .int .i64 k ∧ Hid (wr.ownsRow (g + 1) 3 1 ot k ((atL l k).map (Value.int .i64))) ∧ Hid (Arr 3 N wr w.heap.size g (cntN l k)) ∧ Hid (Below w.heap.size w wr)) (fun _ i _ => n - (intOf i).toNat)
  case atStart => exact ⟨0, Nat.zero_le _, rfl, World.ownsRow_nil _ _ _ _, A1, HB1⟩
  case round =>
    obtain ⟨k, hk, rfl, HO, HA, HB⟩ := hrel
    obtain ⟨oa, ocap, hov, _, _⟩ := own_form HO.out
    subst hov
    by_cases hlt : k < n
    · have hv := HG.out.2.2.2 k (by rw [HN.out]; exact hlt)
      obtain ⟨xn, hx⟩ : ∃ xn : Nat, nd l k = (xn : Int) := ⟨(nd l k).toNat, by have := hv.1; omega⟩
      have hxN : xn < N := by have := hv.2.1; omega
      have hsl := HS.out.below HB.out
      obtain ⟨b, off, rfl, q1, q2⟩ := hsl k (by rw [HN.out]; exact hlt)
      clear q1 q2
      obtain ⟨hc, hd⟩ := hsl.two k (by rw [HN.out]; exact hlt)
      rw [hx] at hc
      obtain ⟨y, hy⟩ : ∃ y, y = fr l k := ⟨_, rfl⟩
      rw [← hy] at hd
      have hltI : (k : Int) < (n : Int) := by omega
      have hxI : (xn : Int) < (N : Int) := by omega
      have hx0 : (0 : Int) ≤ (xn : Int) := by omega
      have HX := hide hx
      clear hx hv hsl hy
      go_upto_region 6 with fail
      obtain ⟨W0, hW0⟩ : ∃ W0, wr.alloc (.cells #[.int .i64 xn, .int .i64 y] 58) = W0 := ⟨_, rfl⟩
      have hbw : Below wr.heap.size wr W0 := by rw [← hW0]; exact (Below.refl _ _).alloc (Nat.le_refl _) _
      have e0 : W0.cell? ⟨wr.heap.size, 0, none⟩ = some (.int .i64 xn) := by rw [← hW0]; simp
      have HA0 := hide (HA.out.below hbw)
      have BB0 := hide (HB.out.trans (hbw.mono HB.out.size))
      have HO0 := hide (own_belowT HO.out hbw)
      have hzw : wr.heap.size < W0.heap.size := by rw [← hW0]; simp
      rw [hW0]
      obtain ⟨eb, heb⟩ : ∃ eb, eb = wr.heap.size := ⟨_, rfl⟩
      rw [← heb] at e0 hzw ⊢
      have hgeb : g < eb := by rw [heb]; exact HA.out.lt
      clear hW0 hbw heb HA HO HB
      have hcx := HA0.out.cell xn hxN
      have hcf := HA0.out.frozenAt xn
      have hsu := cntN_succ l k xn HX.out
      have hb0 := cnt_nn l (xn : Int) k
      have hb1 := cnt_le l (xn : Int) k
      obtain ⟨m, hm⟩ : ∃ m, m = cntN l k xn := ⟨_, rfl⟩
      rw [← hm] at hcx hsu
      have hm0 : 0 ≤ m := by rw [hm]; exact hb0
      have hm1 : m ≤ 40 := by rw [hm]; unfold cntN; omega
      have hmc : m + 1 = cnt l (nd l k) (k + 1) := by
        have h1 := hsu xn
        rw [updI_self] at h1
        rw [h1, HX.out]; rfl
      have HMC := hide hmc
      have HSU := hide hsu
      clear hm hsu hb0 hb1 hmc
      go_upto_region 7 with fail
      obtain ⟨V, hV⟩ : ∃ V, W0.setCell ⟨g, xn, none⟩ (.int .i64 (m + 1)) = V := ⟨_, rfl⟩
      have HA2 : Hid (Arr 3 N V w.heap.size g (cntN l (k + 1))) := by
        rw [← hV]
        exact hide ((HA0.out.set xn (m + 1)).congr (fun i _ => HSU.out i))
      have HO2 : Hid (V.ownsRow (g + 1) 3 1 (.slice oa k ocap) k ((atL l k).map (Value.int .i64))) := by rw [← hV]; exact hide (own_setA HO0.out g xn _ (by omega))
      have B2 : Hid (Below w.heap.size w V) := by rw [← hV]; exact hide (BB0.out.setCell (p := ⟨g, xn, none⟩) (by show w.heap.size ≤ g; rw [HGE.out]; exact Nat.le_refl _) _)
      have e0v : V.cell? ⟨eb, 0, none⟩ = some (.int .i64 xn) := by
        rw [← hV]
        unfold World.cell?
        rw [Below.heap_setCell W0 ⟨g, xn, none⟩ _ eb (show eb ≠ g by omega)]
        exact e0
      have hcv : V.cell? ⟨g, xn, none⟩ = some (.int .i64 (m + 1)) := by
        have h1 := HA2.out.cell xn hxN
        rw [← HSU.out xn, updI_self] at h1
        exact h1
      rw [hV]
      have hgV := HA2.out.lt
      have hszV := B2.out.size
      clear hV e0 hcx hcf HA0 HO0 BB0
      go_wp2_with (first
        | (at_builtin; refine wpList_append_own_at _ rfl _ _ 24 rfl (g + 1) 3 i1 (.int .i64 0) 1 8 Try.underlying24 hi1 hy0 hy1 hy2 rfl (by decide) _ _ _ rfl (HO2.out.alloc _) ⟨V.heap.size, 0, none⟩ 1 1 [.int .i64 (m + 1)] rfl rfl (cell_oneA _ _ rfl _ _) (by intro u hu; simp at hu; subst hu; rfl) (by unfold maxLen; omega) (by omega) (by simp; omega) ?_)
        | go_in)
      intro v6 w6 hown6 hgrow6 _ _
      have hob : ∀ q, (Value.slice oa k ocap).ownBlock = some q → g + 1 ≤ q := fun q hq => (HO2.out.lt q hq).1
      have hwg : w.heap.size ≤ g := by rw [HGE.out]; exact Nat.le_refl _
      have hb6 : Below w.heap.size w w6 := (B2.out.alloc hszV _).grown hgrow6 (by simp; omega) (fun q hq => by have h1 := hob q hq; omega)
      have H6 : Hid (Arr 3 N w6 w.heap.size g (cntN l (k + 1))) := hide (arr_grownA (HA2.out.alloc _) hgrow6 (fun e => by have := hob g e; omega))
      have H7 : Hid (w6.ownsRow (g + 1) 3 1 v6 (k + 1) ((atL l (k + 1)).map (Value.int .i64))) := hide (by
        rw [atL_succ, ← HMC.out]
        simpa using hown6)
      have HB6 := hide hb6
      clear hown6 hgrow6 hb6 hob hwg
      go_wp2
      go_roundw
      case rel => exact ⟨k + 1, by omega, by go_num, H7, H6, HB6⟩
      case measure => simp [intOf]; omega
    · have hltI : ¬ (k : Int) < (n : Int) := by omega
      obtain rfl : k = n := by omega
      have HO9 := hide (own_baseT HO.out (show w.heap.size ≤ g + 1 by rw [HGE.out]; omega))
      clear HO HA
      go_wp2
      go_ret
      exact ⟨_, rfl, HO9.out, HB.out⟩
end Go.Proofs.Ytkfnejiiancmhai.L11
