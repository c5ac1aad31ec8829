/-
  Contract: spec.l11At, the numbers of events among those of their nodes.
  Plain mathematics of cuts of events. Nothing of Go stands here.
  Clocks as arrays; contracts: impl.joinClocks, isAtMost, isLess.
  Clocks of events in memory.
  Contract: impl.clocksOf.
  Contracts: impl.isAtMost, isLess.
  Contracts: impl.readClock, readClocks, clockList.
  Contracts: impl.clockList, readClocks.
-/
import Derived.Test.YtkfnejiiancmhadBundle1
import Derived.Deep.DeepCutAuto
import Derived.Maps.AppendAt
import Derived.RegionTactic
import Derived.BigRegion
import Derived.Deep.QuietTactic
import Derived.BigQuiet
import Derived.Deep.RegionHeld3
import Derived.Deep.RegionWith
import Derived.ChangeKeysEq
import Derived.Laws.StructEq
namespace Go.Proofs.Ytkfnejiiancmhad.L11
open Go.RowKit L1 Own
set_option linter.unusedVariables false

set_option maxRecDepth 100000 in
set_option maxHeartbeats 4000000 in
theorem l11At_any (N : Nat) (a : Option Addr) (l : List (Int × Int)) (n cap : Nat) (w : World) (hn : l.length = n) (hs : Sl2 w a l) (hg : GoodV (N : Int) l) :
    Calls Try.prog 88 #[.int .i64 N, .slice a n cap] w fun e w' => ∃ v, e = .returned v ∧ w'.ownsRow w.heap.size 3 1 v n ((atL l n).map (Value.int .i64)) ∧ Below w.heap.size w w' := by
  have h40 : n ≤ 40 := by have := hg.2.2.1; omega
  have hN1 : 1 ≤ N := by have := hg.1; omega
  have hN5 : N ≤ 5 := by have := hg.2.1; omega
  have hNI : (0 : Int) ≤ (N : Int) := by omega
  obtain ⟨i1, hi1, hy0, hy1, hy2⟩ := info_parts info_int
  obtain ⟨w1, hmk, hown1, hg1⟩ := run_make_full (P := Try.prog) w w.heap.size 27 3 i1 (.int .i64 0) 1 Try.underlying27 hi1 hy0 hy1 .i64 .i64 N (by rw [hy2]; omega) (by unfold maxLen; omega) (Nat.le_refl _)
  rw [made_lA] at hown1
  have hb1 : Below w.heap.size w w1 := (Below.refl _ _).grown hg1 (Nat.le_refl _) (fun k hk => by cases hk)
  have A0 : Hid (Arr 3 N w1 w.heap.size w.heap.size (cntN l 0)) := hown1
  have HB1 := hide hb1
  have HG := hide hg
  have HS := hide hs
  have HN := hide hn
  clear hown1 hg1 hs hn hg hb1
  go_enter Try.func88, Try.ntmps88
  go_wp2
  obtain ⟨g, hge⟩ : ∃ g, g = w.heap.size := ⟨_, rfl⟩
  have HGE := hide hge
  have A1 : Hid (Arr 3 N w1 w.heap.size g (cntN l 0)) := by rw [hge]; exact A0
  rw [← hge]
  clear hge A0 hmk
  go_loopw [6, 13] (fun ot i wr => ∃ k : Nat, k ≤ n ∧ i = .int .i64 k ∧ Hid (wr.ownsRow (g + 1) 3 1 ot k ((atL l k).map (Value.int .i64))) ∧ Hid (Arr 3 N wr w.heap.size g (cntN l k)) ∧ Hid (Below w.heap.size w wr)) (fun _ i _ => n - (intOf i).toNat)
  case atStart => exact ⟨0, Nat.zero_le _, rfl, World.ownsRow_nil _ _ _ _, A1, HB1⟩
  case round =>
    obtain ⟨k, hk, rfl, HO, HA, HB⟩ := hrel
    obtain ⟨oa, ocap, hov, _, _⟩ := own_form HO.out
    subst hov
    by_cases hlt : k < n
    · have hv := HG.out.2.2.2 k (by rw [HN.out]; exact hlt)
      obtain ⟨xn, hx⟩ : ∃ xn : Nat, nd l k = (xn : Int) := ⟨(nd l k).toNat, by have := hv.1; omega⟩
      have hxN : xn < N := by have := hv.2.1; omega
      have hsl := HS.out.below HB.out
      obtain ⟨b, off, rfl, q1, q2⟩ := hsl k (by rw [HN.out]; exact hlt)
      clear q1 q2
      obtain ⟨hc, hd⟩ := hsl.two k (by rw [HN.out]; exact hlt)
      rw [hx] at hc
      obtain ⟨y, hy⟩ : ∃ y, y = fr l k := ⟨_, rfl⟩
      rw [← hy] at hd
      have hltI : (k : Int) < (n : Int) := by omega
      have hxI : (xn : Int) < (N : Int) := by omega
      have hx0 : (0 : Int) ≤ (xn : Int) := by omega
      have HX := hide hx
      clear hx hv hsl hy
      go_upto_region 6 with fail
      obtain ⟨W0, hW0⟩ : ∃ W0, wr.alloc (.cells #[.int .i64 xn, .int .i64 y] 118) = W0 := ⟨_, rfl⟩
      have hbw : Below wr.heap.size wr W0 := by rw [← hW0]; exact (Below.refl _ _).alloc (Nat.le_refl _) _
      have e0 : W0.cell? ⟨wr.heap.size, 0, none⟩ = some (.int .i64 xn) := by rw [← hW0]; simp
      have HA0 := hide (HA.out.below hbw)
      have BB0 := hide (HB.out.trans (hbw.mono HB.out.size))
      have HO0 := hide (own_belowT HO.out hbw)
      have hzw : wr.heap.size < W0.heap.size := by rw [← hW0]; simp
      rw [hW0]
      obtain ⟨eb, heb⟩ : ∃ eb, eb = wr.heap.size := ⟨_, rfl⟩
      rw [← heb] at e0 hzw ⊢
      have hgeb : g < eb := by rw [heb]; exact HA.out.lt
      clear hW0 hbw heb HA HO HB
      have hcx := HA0.out.cell xn hxN
      have hcf := HA0.out.frozenAt xn
      have hsu := cntN_succ l k xn HX.out
      have hb0 := cnt_nn l (xn : Int) k
      have hb1 := cnt_le l (xn : Int) k
      obtain ⟨m, hm⟩ : ∃ m, m = cntN l k xn := ⟨_, rfl⟩
      rw [← hm] at hcx hsu
      have hm0 : 0 ≤ m := by rw [hm]; exact hb0
      have hm1 : m ≤ 40 := by rw [hm]; unfold cntN; omega
      have hmc : m + 1 = cnt l (nd l k) (k + 1) := by
        have h1 := hsu xn
        rw [updI_self] at h1
        rw [h1, HX.out]; rfl
      have HMC := hide hmc
      have HSU := hide hsu
      clear hm hsu hb0 hb1 hmc
      go_upto_region 7 with fail
      obtain ⟨V, hV⟩ : ∃ V, W0.setCell ⟨g, xn, none⟩ (.int .i64 (m + 1)) = V := ⟨_, rfl⟩
      have HA2 : Hid (Arr 3 N V w.heap.size g (cntN l (k + 1))) := by
        rw [← hV]
        exact hide ((HA0.out.set xn (m + 1)).congr (fun i _ => HSU.out i))
      have HO2 : Hid (V.ownsRow (g + 1) 3 1 (.slice oa k ocap) k ((atL l k).map (Value.int .i64))) := by rw [← hV]; exact hide (own_setA HO0.out g xn _ (by omega))
      have B2 : Hid (Below w.heap.size w V) := by rw [← hV]; exact hide (BB0.out.setCell (p := ⟨g, xn, none⟩) (by show w.heap.size ≤ g; rw [HGE.out]; exact Nat.le_refl _) _)
      have e0v : V.cell? ⟨eb, 0, none⟩ = some (.int .i64 xn) := by
        rw [← hV]
        unfold World.cell?
        rw [Below.heap_setCell W0 ⟨g, xn, none⟩ _ eb (show eb ≠ g by omega)]
        exact e0
      have hcv : V.cell? ⟨g, xn, none⟩ = some (.int .i64 (m + 1)) := by
        have h1 := HA2.out.cell xn hxN
        rw [← HSU.out xn, updI_self] at h1
        exact h1
      rw [hV]
      have hgV := HA2.out.lt
      have hszV := B2.out.size
      clear hV e0 hcx hcf HA0 HO0 BB0
      go_wp2_with (first
        | (at_builtin; refine wpList_append_own_at _ rfl _ _ 27 rfl (g + 1) 3 i1 (.int .i64 0) 1 8 Try.underlying27 hi1 hy0 hy1 hy2 rfl (by decide) _ _ _ rfl (HO2.out.alloc _) ⟨V.heap.size, 0, none⟩ 1 1 [.int .i64 (m + 1)] rfl rfl (cell_oneA _ _ rfl _ _) (by intro u hu; simp at hu; subst hu; rfl) (by unfold maxLen; omega) (by omega) (by simp; omega) ?_)
        | go_in)
      intro v6 w6 hown6 hgrow6 _ _
      have hob : ∀ q, (Value.slice oa k ocap).ownBlock = some q → g + 1 ≤ q := fun q hq => (HO2.out.lt q hq).1
      have hwg : w.heap.size ≤ g := by rw [HGE.out]; exact Nat.le_refl _
      have hb6 : Below w.heap.size w w6 := (B2.out.alloc hszV _).grown hgrow6 (by simp; omega) (fun q hq => by have h1 := hob q hq; omega)
      have H6 : Hid (Arr 3 N w6 w.heap.size g (cntN l (k + 1))) := hide (arr_grownA (HA2.out.alloc _) hgrow6 (fun e => by have := hob g e; omega))
      have H7 : Hid (w6.ownsRow (g + 1) 3 1 v6 (k + 1) ((atL l (k + 1)).map (Value.int .i64))) := hide (by
        rw [atL_succ, ← HMC.out]
        simpa using hown6)
      have HB6 := hide hb6
      clear hown6 hgrow6 hb6 hob hwg
      go_wp2
      go_roundw
      case rel => exact ⟨k + 1, by omega, by go_num, H7, H6, HB6⟩
      case measure => simp [intOf]; omega
    · have hltI : ¬ (k : Int) < (n : Int) := by omega
      obtain rfl : k = n := by omega
      have HO9 := hide (own_baseT HO.out (show w.heap.size ≤ g + 1 by rw [HGE.out]; omega))
      clear HO HA
      go_wp2
      go_ret
      exact ⟨_, rfl, HO9.out, HB.out⟩
end Go.Proofs.Ytkfnejiiancmhad.L11

namespace Go.Proofs.Ytkfnejiiancmhad.L11
set_option linter.unusedVariables false

/-- Of what each event of a cut heard of is in it. -/
def ClS (l : List Ev) (u : Int → Int) : Prop := ∀ k, k < l.length → cnt l (nd l k) (k + 1) ≤ u (nd l k) → 0 ≤ fr l k → cnt l (nd l (fr l k).toNat) ((fr l k).toNat + 1) ≤ u (nd l (fr l k).toNat)
/-- The clock of each event of a cut is in it. -/
def ClI (l : List Ev) (u : Int → Int) : Prop := ∀ k, k < l.length → clk l k (nd l k) ≤ u (nd l k) → ∀ i : Nat, i < 5 → clk l k (i : Int) ≤ u (i : Int)
theorem cl_iff {N : Int} {l : List Ev} (hg : GoodV N l) (u : Int → Int) (h0 : ∀ i : Nat, i < 5 → 0 ≤ u (i : Int)) : ClI l u ↔ ClS l u := by
  have h5 := hg.2.1
  constructor
  · intro h k hk hc hf
    have hv := hg.2.2.2 k hk
    have hfk : fr l k < k := hv.2.2.2.1
    have hf2 := hg.2.2.2 (fr l k).toNat (by omega)
    have h1 := h k hk (by rw [clk_own]; exact hc) (nd l (fr l k).toNat).toNat (by have := hf2.1; have := hf2.2.1; omega)
    have e : ((nd l (fr l k).toNat).toNat : Int) = nd l (fr l k).toNat := by have := hf2.1; omega
    rw [e] at h1
    have h2 : Par l (fr l k).toNat k := .inr ⟨by omega, by omega⟩
    have h3 := h2.le (nd l (fr l k).toNat)
    rw [clk_own] at h3
    omega
  · intro h k
    induction k using Nat.strongRecOn with
    | ind k ih =>
      intro hk hc i hi
      have hv := hg.2.2.2 k hk
      by_cases e : (i : Int) = nd l k
      · rw [e]; exact hc
      · rw [clk_two, if_neg e]
        have h1 : cP l k (i : Int) ≤ u (i : Int) := by
          unfold cP clkO
          split
          · rename_i hp
            have hpl := pri_lt l (nd l k) k
            have hpn := pri_nd l (nd l k) k hp
            obtain ⟨p, hpe⟩ : ∃ p : Nat, pri l (nd l k) k = (p : Int) := ⟨(pri l (nd l k) k).toNat, by omega⟩
            rw [hpe] at hpn hpl ⊢
            have hpn2 : nd l p = nd l k := hpn
            refine ih p (by omega) (by omega) ?_ i hi
            rw [clk_own, hpn2]
            rw [clk_own] at hc
            exact Int.le_trans (cnt_mono l _ (by omega)) hc
          · exact h0 i hi
        have h2 : cF l k (i : Int) ≤ u (i : Int) := by
          unfold cF
          split
          · rename_i hf
            refine ih _ (by omega) (by omega) ?_ i hi
            rw [clk_own]
            exact h k hk (by rw [← clk_own]; exact hc) hf.1
          · exact h0 i hi
        omega
theorem anc_cE {N : Int} {l : List Ev} (hg : GoodV N l) (a b : Nat) (ha : a < l.length) (hb : b < l.length) :
    ((∀ i : Nat, i < 5 → clk l a (i : Int) ≤ clk l b (i : Int)) ∧ ¬ ∀ i : Nat, i < 5 → clk l a (i : Int) = clk l b (i : Int)) ↔ Anc l a b := by
  have h5 := hg.2.1
  have hva := hg.2.2.2 a ha
  have hvb := hg.2.2.2 b hb
  constructor
  · rintro ⟨h1, h2⟩
    have h3 := h1 (nd l a).toNat (by have := hva.1; have := hva.2.1; omega)
    have e : ((nd l a).toNat : Int) = nd l a := by have := hva.1; omega
    rw [e, clk_own] at h3
    rcases anc_of l b a h3 with rfl | h
    · exact absurd (fun i _ => rfl) h2
    · exact h
  · intro h
    refine ⟨fun i _ => h.le i, fun h2 => ?_⟩
    have h3 := anc_own_lt h
    have h4 := h2 (nd l b).toNat (by have := hvb.1; have := hvb.2.1; omega)
    have e : ((nd l b).toNat : Int) = nd l b := by have := hvb.1; omega
    rw [e] at h4
    omega
end Go.Proofs.Ytkfnejiiancmhad.L11

namespace Go.Proofs.Ytkfnejiiancmhad.L11
open Go.RowKit L1 Own
set_option linter.unusedVariables false

/-- A clock as a value. -/
abbrev cv (E : Nat → Int) : Value := .agg #[.int .i64 (E 0), .int .i64 (E 1), .int .i64 (E 2), .int .i64 (E 3), .int .i64 (E 4)]
/-- A clock lies in a block. -/
abbrev Clk (w : World) (base g : Nat) (E : Nat → Int) : Prop := Arr 112 5 w base g E
theorem clk_new (w : World) (g base : Nat) (hg : w.heap.size = g) (hb : base ≤ g) (E : Nat → Int) : Clk (w.alloc (.cells #[.int .i64 (E 0), .int .i64 (E 1), .int .i64 (E 2), .int .i64 (E 3), .int .i64 (E 4)] 112)) base g E := arr_new _ 5 w g base hg hb (by omega) E _ rfl
theorem clk_zero (w : World) (g base : Nat) (hg : w.heap.size = g) (hb : base ≤ g) : Clk (w.alloc (.cells #[.int .i64 0, .int .i64 0, .int .i64 0, .int .i64 0, .int .i64 0] 112)) base g (fun _ => 0) := arr_new _ 5 w g base hg hb (by omega) _ _ rfl
/-- Three clocks in memory, and nothing older turned. -/
structure K3 (w wr : World) (A B C : Nat → Int) : Prop where
  a : Clk wr w.heap.size w.heap.size A
  b : Clk wr w.heap.size (w.heap.size + 1) B
  c : Clk wr w.heap.size (w.heap.size + 2) C
  bel : Below w.heap.size w wr
/-- Of two clocks the greater numbers, up to a place. -/
def jnK (E F : Nat → Int) (k : Nat) : Nat → Int := fun i => if i < k then max (E i) (F i) else E i
def jn (E F : Nat → Int) : Nat → Int := fun i => max (E i) (F i)
theorem jnK_self (E F : Nat → Int) (k : Nat) : jnK E F k k = E k := by simp [jnK]
theorem jnK_succ (E F : Nat → Int) (k i : Nat) : updI (jnK E F k) k (max (E k) (F k)) i = jnK E F (k + 1) i := by
  unfold updI jnK
  by_cases e : i = k
  · subst e; simp
  · rw [if_neg e]
    by_cases h : i < k
    · rw [if_pos h, if_pos (by omega)]
    · rw [if_neg h, if_neg (by omega)]
theorem jnK_all (E F : Nat → Int) (i : Nat) (h : i < 5) : jnK E F 5 i = jn E F i := by unfold jnK jn; rw [if_pos h]
set_option maxRecDepth 100000 in
set_option maxHeartbeats 4000000 in
theorem joinClocks_any (E F : Nat → Int) (w : World) :
    Calls Try.prog 93 #[cv E, cv F] w fun e w' => e = .returned (cv (jn E F)) ∧ Below w.heap.size w w' := by
  go_enter Try.func93, Try.ntmps93
  go_wp2
  obtain ⟨W, hW⟩ : ∃ W, W = ((w.alloc (.cells #[.int .i64 (E 0), .int .i64 (E 1), .int .i64 (E 2), .int .i64 (E 3), .int .i64 (E 4)] 112)).alloc (.cells #[.int .i64 (F 0), .int .i64 (F 1), .int .i64 (F 2), .int .i64 (F 3), .int .i64 (F 4)] 112)).alloc (.cells #[.int .i64 0, .int .i64 0, .int .i64 0, .int .i64 0, .int .i64 0] 112) := ⟨_, rfl⟩
  rw [← hW]
  have H0 : Hid (K3 w W (jnK E F 0) F (fun _ => 0)) := hide (by
    rw [hW]
    exact ⟨((clk_new w _ _ rfl (Nat.le_refl _) E).alloc _).alloc _, (clk_new _ _ _ (by simp) (by omega) F).alloc _, clk_zero _ _ _ (by simp) (by omega), (((Below.refl _ _).alloc (Nat.le_refl _) _).alloc (by simp) _).alloc (by simp; omega) _⟩)
  clear hW
  go_loopw [6] (fun i wr => ∃ k : Nat, k ≤ 5 ∧ i = .int .i64 k ∧ Hid (K3 w wr (jnK E F k) F (fun _ => 0))) (fun i _ => 5 - (intOf i).toNat)
  case atStart => exact ⟨0, by omega, rfl, H0⟩
  case round =>
    obtain ⟨k, hk, rfl, HS⟩ := hrel
    by_cases hlt : k < 5
    · have hltI : (k : Int) < 5 := by omega
      have hk0 : (0 : Int) ≤ (k : Int) := by omega
      have ca := HS.out.a.cell k hlt
      rw [jnK_self] at ca
      have fa := HS.out.a.frozenAt k
      have cb := HS.out.b.cell k hlt
      have hsu := jnK_succ E F k
      obtain ⟨x, hx⟩ : ∃ x, x = E k := ⟨_, rfl⟩
      obtain ⟨y, hy⟩ : ∃ y, y = F k := ⟨_, rfl⟩
      rw [← hx] at ca hsu
      rw [← hy] at cb hsu
      obtain ⟨mx, hmx, hmm⟩ : ∃ mx, (if x < y then y else x) = mx ∧ max x y = mx := ⟨_, rfl, by split <;> omega⟩
      rw [hmm] at hsu
      have HN : Hid (K3 w (wr.setCell ⟨w.heap.size, k, none⟩ (.int .i64 mx)).drew (jnK E F (k + 1)) F (fun _ => 0)) := hide
        ⟨((HS.out.a.set k mx).congr (fun i _ => hsu i)).drew, (HS.out.b.keep k _ (by omega)).drew, (HS.out.c.keep k _ (by omega)).drew, (HS.out.bel.setCell (p := ⟨w.heap.size, k, none⟩) (Nat.le_refl _) _).drew⟩
      clear hx hy hmm hsu HS
      go_wp2
      go_region
      go_wp2
      go_roundw
      case rel => exact ⟨k + 1, by omega, by go_num, HN⟩
      case measure => simp [intOf]; omega
    · obtain rfl : k = 5 := by omega
      have H5 : Hid (K3 w wr (jn E F) F (fun _ => 0)) := hide ⟨HS.out.a.congr (jnK_all E F), HS.out.b, HS.out.c, HS.out.bel⟩
      have e0 := H5.out.a.cell 0 (by omega)
      have r0 := H5.out.c.cell 0 (by omega)
      have f0 := H5.out.c.frozenAt 0
      have e1 := H5.out.a.cell 1 (by omega)
      have r1 := H5.out.c.cell 1 (by omega)
      have f1 := H5.out.c.frozenAt 1
      have e2 := H5.out.a.cell 2 (by omega)
      have r2 := H5.out.c.cell 2 (by omega)
      have f2 := H5.out.c.frozenAt 2
      have e3 := H5.out.a.cell 3 (by omega)
      have r3 := H5.out.c.cell 3 (by omega)
      have f3 := H5.out.c.frozenAt 3
      have e4 := H5.out.a.cell 4 (by omega)
      have r4 := H5.out.c.cell 4 (by omega)
      have f4 := H5.out.c.frozenAt 4
      have h55 : ((5 : Nat) : Int) = 5 := rfl
      rw [h55]
      clear h55
      go_wp2
      refine bodyPost_ret (v := cv (jn E F)) (by simp [results, Try.f93, go_sem, *]) rfl ⟨rfl, ?_⟩
      exact (((((H5.out.bel.setCell (p := ⟨w.heap.size + 2, 0, none⟩) (by simp only; omega) _).setCell (p := ⟨w.heap.size + 2, 1, none⟩) (by simp only; omega) _).setCell (p := ⟨w.heap.size + 2, 2, none⟩) (by simp only; omega) _).setCell (p := ⟨w.heap.size + 2, 3, none⟩) (by simp only; omega) _).setCell (p := ⟨w.heap.size + 2, 4, none⟩) (by simp only; omega) _)
end Go.Proofs.Ytkfnejiiancmhad.L11

namespace Go.Proofs.Ytkfnejiiancmhad.L11
open Go.RowKit L1 Own
set_option linter.unusedVariables false

/-- The clock of an event, by places. -/
def cE (l : List Ev) (k : Nat) : Nat → Int := fun i => clk l k (i : Int)
/-- The cells of clocks, one behind the other. -/
def flat5 (G : Nat → Nat → Int) : Nat → List Value
  | 0 => []
  | k + 1 => flat5 G k ++ lA 5 (G k)
theorem flat5_len (G : Nat → Nat → Int) : ∀ k, (flat5 G k).length = k * 5
  | 0 => rfl
  | k + 1 => by simp [flat5, flat5_len G k, lA]; omega
theorem flat5_get (G : Nat → Nat → Int) : ∀ (k j i : Nat), j < k → i < 5 → (flat5 G k)[j * 5 + i]? = some (.int .i64 (G j i))
  | 0, j, i, h, _ => by omega
  | k + 1, j, i, h, hi => by
    unfold flat5
    by_cases e : j = k
    · subst e
      rw [List.getElem?_append_right (by rw [flat5_len]; omega), flat5_len, show j * 5 + i - j * 5 = i by omega]
      exact lA_get 5 _ i hi
    · rw [List.getElem?_append_left (by rw [flat5_len]; omega)]
      exact flat5_get G k j i (by omega) hi
/-- The last clock of each node, one behind the other. -/
def LE (l : List Ev) (k : Nat) : Nat → Int := fun q => clkO l (pri l ((q / 5 : Nat) : Int) k) ((q % 5 : Nat) : Int)
theorem LE_at (l : List Ev) (k x i : Nat) (h : i < 5) : LE l k (x * 5 + i) = clkO l (pri l (x : Int) k) (i : Int) := by
  unfold LE
  rw [show (x * 5 + i) / 5 = x by omega, show (x * 5 + i) % 5 = i by omega]
theorem LE_succ (l : List Ev) (k x : Nat) (hx : nd l k = (x : Int)) (q : Nat) (hq : q < 25) :
    updI (updI (updI (updI (updI (LE l k) (x * 5) (cE l k 0)) (x * 5 + 1) (cE l k 1)) (x * 5 + 2) (cE l k 2)) (x * 5 + 3) (cE l k 3)) (x * 5 + 4) (cE l k 4) q = LE l (k + 1) q := by
  have hq5 : q = q / 5 * 5 + q % 5 := by omega
  obtain ⟨y, hy⟩ : ∃ y, y = q / 5 := ⟨_, rfl⟩
  obtain ⟨i, hi⟩ : ∃ i, i = q % 5 := ⟨_, rfl⟩
  have hi5 : i < 5 := by omega
  rw [← hy, ← hi] at hq5
  subst hq5
  rw [LE_at l (k + 1) y i hi5]
  have hu : pri l (y : Int) (k + 1) = if nd l k = (y : Int) then (k : Int) else pri l (y : Int) k := rfl
  rw [hu]
  unfold updI
  by_cases e : y = x
  · subst e
    rw [if_pos hx]
    have hk : clkO l (k : Int) (i : Int) = cE l k i := by unfold clkO cE; rw [if_pos (by omega)]; rfl
    rw [hk]
    match i, hi5 with
    | 0, _ => simp
    | 1, _ => simp
    | 2, _ => simp
    | 3, _ => simp
    | 4, _ => simp
  · rw [if_neg (show ¬ nd l k = (y : Int) by rw [hx]; omega), if_neg (by omega), if_neg (by omega), if_neg (by omega), if_neg (by omega), if_neg (by omega)]
    exact LE_at l k y i hi5
theorem clkO_bd (l : List Ev) (i : Int) (k : Nat) (hik : i < (k : Int)) (x : Int) : 0 ≤ clkO l i x ∧ clkO l i x ≤ (k : Int) := by
  refine ⟨clkO_nn l i x, ?_⟩
  unfold clkO
  split
  · have h1 := clk_le l i.toNat x
    have h2 := cnt_le l x (i.toNat + 1)
    omega
  · omega
theorem own_setNe {w : World} {base n c : Nat} {t : TypeId} {v : Value} {xs : List Value} (h : w.ownsRow base t c v n xs) (g i : Nat) (u : Value) (hg : v.ownBlock ≠ some g) : (w.setCell ⟨g, i, none⟩ u).ownsRow base t c v n xs := by
  refine ⟨h.1, ?_⟩
  rcases h.2 with h0 | ⟨q, cap, cur, hv, hb, hh, rest⟩
  · exact .inl h0
  · have hqg : q ≠ g := fun e => hg (by rw [hv, e]; rfl)
    exact .inr ⟨q, cap, cur, hv, hb, by rw [Below.heap_setCell w ⟨g, i, none⟩ u q hqg]; exact hh, rest⟩
theorem arr_grown2 {w w' : World} {t : TypeId} {n base g : Nat} {E : Nat → Int} {r : Option Nat} (h : Arr t n w base g E) (hg : w.grownBy w' r) (hne : r ≠ some g) : Arr t n w' base g E :=
  World.ownsRow.kept h hg (.inr (fun e => hne e.symm))
theorem info_clk : (Try.prog.info? 112).map (fun i => (i.zero, i.size, i.bytes)) = some (some (.agg #[.int .i64 0, .int .i64 0, .int .i64 0, .int .i64 0, .int .i64 0]), 5, 40) := by kernel_rfl
theorem cell_five (w : World) (g : Nat) (hg : w.heap.size = g) (E : Nat → Int) (t : TypeId) : ∀ j u, (lA 5 E)[j]? = some u → (w.alloc (.cells #[.int .i64 (E 0), .int .i64 (E 1), .int .i64 (E 2), .int .i64 (E 3), .int .i64 (E 4)] t)).cell? ((⟨g, 0, none⟩ : Addr).add j) = some u := by
  intro j u h
  have hj : j < 5 := by
    by_cases h2 : j < 5
    · exact h2
    · rw [List.getElem?_eq_none (by simp [lA]; omega)] at h; cases h
  rw [addr_add]
  have hA := arr_new t 5 w g 0 hg (Nat.zero_le _) (by omega) E #[.int .i64 (E 0), .int .i64 (E 1), .int .i64 (E 2), .int .i64 (E 3), .int .i64 (E 4)] rfl
  rw [lA_get 5 E j hj] at h
  cases h
  exact hA.cell j hj
/-- What is in memory while clocks are made: the last ones, the ones that are told, the event's own box. -/
structure KC (w V : World) (g : Nat) (v : Value) (l : List Ev) (k : Nat) : Prop where
  L : Arr 144 25 V w.heap.size g (LE l k)
  O : V.ownsRow (g + 1) 112 5 v k (flat5 (cE l) k)
  bel : Below w.heap.size w V
theorem KC.below {w V V' : World} {g k : Nat} {v : Value} {l : List Ev} (h : KC w V g v l k) (hb : Below V.heap.size V V') : KC w V' g v l k :=
  ⟨h.L.below hb, own_belowT h.O hb, h.bel.trans (hb.mono h.bel.size)⟩
theorem KC.set {w V : World} {g k q : Nat} {v : Value} {l : List Ev} (h : KC w V g v l k) (i : Nat) (u : Value) (hq : w.heap.size ≤ q) (h1 : g ≠ q) (h2 : v.ownBlock ≠ some q) : KC w (V.setCell ⟨q, i, none⟩ u) g v l k :=
  ⟨h.L.keep i u h1, own_setNe h.O q i u h2, h.bel.setCell (p := ⟨q, i, none⟩) hq u⟩
theorem KC.drew {w V : World} {g k : Nat} {v : Value} {l : List Ev} (h : KC w V g v l k) : KC w V.drew g v l k := ⟨h.L.drew, h.O, h.bel.drew⟩
theorem cell_set5 {V : World} {eb cb : Nat} {x : Value} (h : V.cell? ⟨eb, 0, none⟩ = some x) (hne : eb ≠ cb) (u0 u1 u2 u3 u4 : Value) : (((((V.setCell ⟨cb, 0, none⟩ u0).setCell ⟨cb, 1, none⟩ u1).setCell ⟨cb, 2, none⟩ u2).setCell ⟨cb, 3, none⟩ u3).setCell ⟨cb, 4, none⟩ u4).cell? ⟨eb, 0, none⟩ = some x := by
  unfold World.cell?
  rw [Below.heap_setCell _ ⟨cb, 4, none⟩ _ eb hne, Below.heap_setCell _ ⟨cb, 3, none⟩ _ eb hne, Below.heap_setCell _ ⟨cb, 2, none⟩ _ eb hne, Below.heap_setCell _ ⟨cb, 1, none⟩ _ eb hne, Below.heap_setCell _ ⟨cb, 0, none⟩ _ eb hne]
  exact h
theorem arr_set5 {t : TypeId} {V : World} {base q : Nat} {C : Nat → Int} (h : Arr t 5 V base q C) (E : Nat → Int) : Arr t 5 (((((V.setCell ⟨q, 0, none⟩ (.int .i64 (E 0))).setCell ⟨q, 1, none⟩ (.int .i64 (E 1))).setCell ⟨q, 2, none⟩ (.int .i64 (E 2))).setCell ⟨q, 3, none⟩ (.int .i64 (E 3))).setCell ⟨q, 4, none⟩ (.int .i64 (E 4))) base q E :=
  (((((h.set 0 (E 0)).set 1 (E 1)).set 2 (E 2)).set 3 (E 3)).set 4 (E 4)).congr (fun i hi => by
    match i, hi with
    | 0, _ => simp [updI]
    | 1, _ => simp [updI]
    | 2, _ => simp [updI]
    | 3, _ => simp [updI]
    | 4, _ => simp [updI])
theorem KC.set5 {w V : World} {g k q : Nat} {v : Value} {l : List Ev} (h : KC w V g v l k) (u0 u1 u2 u3 u4 : Value) (hq : w.heap.size ≤ q) (h1 : g ≠ q) (h2 : v.ownBlock ≠ some q) : KC w (((((V.setCell ⟨q, 0, none⟩ u0).setCell ⟨q, 1, none⟩ u1).setCell ⟨q, 2, none⟩ u2).setCell ⟨q, 3, none⟩ u3).setCell ⟨q, 4, none⟩ u4) g v l k :=
  ((((h.set 0 u0 hq h1 h2).set 1 u1 hq h1 h2).set 2 u2 hq h1 h2).set 3 u3 hq h1 h2).set 4 u4 hq h1 h2
theorem own_setLt {w : World} {base n c : Nat} {t : TypeId} {v : Value} {xs : List Value} (h : w.ownsRow base t c v n xs) (g i : Nat) (u : Value) (hg : g < base) : (w.setCell ⟨g, i, none⟩ u).ownsRow base t c v n xs :=
  own_setNe h g i u (fun e => by have := (h.lt g e).1; omega)
end Go.Proofs.Ytkfnejiiancmhad.L11

namespace Go.Proofs.Ytkfnejiiancmhad.L11
open Go.RowKit L1 Own
set_option linter.unusedVariables false

set_option maxRecDepth 100000 in
set_option maxHeartbeats 8000000 in
theorem clocksOf_any (N : Int) (a : Option Addr) (l : List (Int × Int)) (n cap : Nat) (w : World) (hn : l.length = n) (hs : Sl2 w a l) (hg : GoodV N l) :
    Calls Try.prog 75 #[.slice a n cap] w fun e w' => ∃ v, e = .returned v ∧ w'.ownsRow w.heap.size 112 5 v n (flat5 (cE l) n) ∧ Below w.heap.size w w' := by
  have h40 : n ≤ 40 := by have := hg.2.2.1; omega
  obtain ⟨i1, hi1, hy0, hy1, hy2⟩ := info_parts info_clk
  have HG := hide hg
  have HS := hide hs
  have HN := hide hn
  clear hg hs hn
  go_enter Try.func75, Try.ntmps75
  go_upto_region 3 with fail
  obtain ⟨W, hW⟩ : ∃ W, w.alloc (.cells #[.int .i64 0, .int .i64 0, .int .i64 0, .int .i64 0, .int .i64 0, .int .i64 0, .int .i64 0, .int .i64 0, .int .i64 0, .int .i64 0, .int .i64 0, .int .i64 0, .int .i64 0, .int .i64 0, .int .i64 0, .int .i64 0, .int .i64 0, .int .i64 0, .int .i64 0, .int .i64 0, .int .i64 0, .int .i64 0, .int .i64 0, .int .i64 0, .int .i64 0] 144) = W := ⟨_, rfl⟩
  have A0 : Hid (Arr 144 25 W w.heap.size w.heap.size (LE l 0)) := by
    rw [← hW]
    refine hide (arr_new _ 25 w _ _ rfl (Nat.le_refl _) (by omega) _ _ ?_)
    show lA 25 (fun _ => 0) = _
    exact lA_congr 25 _ _ (fun i _ => rfl)
  have B2 : Hid (Below w.heap.size w W) := by rw [← hW]; exact hide ((Below.refl _ _).alloc (Nat.le_refl _) _)
  rw [hW]
  obtain ⟨g, hg⟩ : ∃ g, g = w.heap.size := ⟨_, rfl⟩
  have HGE := hide hg
  have A1 : Hid (Arr 144 25 W w.heap.size g (LE l 0)) := by rw [hg]; exact A0
  rw [← hg]
  clear hW hg A0
  go_wp2
  go_loopw [3, 10] (fun ot i wr => ∃ k : Nat, k ≤ n ∧ i = .int .i64 k ∧ Hid (KC w wr g ot l k)) (fun _ i _ => n - (intOf i).toNat)
  case atStart => exact ⟨0, Nat.zero_le _, rfl, ⟨A1.out, World.ownsRow_nil _ _ _ _, B2.out⟩⟩
  case round =>
    obtain ⟨k, hk, rfl, HKC⟩ := hrel
    have HWG : Hid (w.heap.size ≤ g) := by rw [HGE.out]; exact Nat.le_refl _
    obtain ⟨oa, ocap, hov⟩ : ∃ oa ocap, u3 = .slice oa k ocap := by
      rcases HKC.out.O.2 with ⟨hv, h0⟩ | ⟨q, cap, cur, hv, _⟩
      · subst h0; exact ⟨none, 0, hv⟩
      · exact ⟨_, cap, hv⟩
    subst hov
    by_cases hlt : k < n
    · have hv := HG.out.2.2.2 k (by rw [HN.out]; exact hlt)
      have hN5 := HG.out.2.1
      obtain ⟨xn, hx⟩ : ∃ xn : Nat, nd l k = (xn : Int) := ⟨(nd l k).toNat, by have := hv.1; omega⟩
      have hx5 : xn < 5 := by have := hv.2.1; omega
      have hsl := HS.out.below HKC.out.bel
      obtain ⟨b, off, rfl, q1, q2⟩ := hsl k (by rw [HN.out]; exact hlt)
      clear q1 q2
      obtain ⟨hc, hd⟩ := hsl.two k (by rw [HN.out]; exact hlt)
      rw [hx] at hc
      have hltI : (k : Int) < (n : Int) := by omega
      have hxI : (xn : Int) < 5 := by omega
      have hx0 : (0 : Int) ≤ (xn : Int) := by omega
      obtain ⟨y, hy⟩ : ∃ y, y = fr l k := ⟨_, rfl⟩
      rw [← hy] at hd
      have HY := hide hy
      have HX := hide hx
      have HV := hide hv
      clear hy hx hv hsl
      go_upto_region 6 with fail
      obtain ⟨W0, hW0⟩ : ∃ W0, wr.alloc (.cells #[.int .i64 xn, .int .i64 y] 118) = W0 := ⟨_, rfl⟩
      have hbw : Below wr.heap.size wr W0 := by rw [← hW0]; exact (Below.refl _ _).alloc (Nat.le_refl _) _
      have e0 : W0.cell? ⟨wr.heap.size, 0, none⟩ = some (.int .i64 xn) := by rw [← hW0]; simp
      have e1 : W0.cell? ⟨wr.heap.size, 1, none⟩ = some (.int .i64 y) := by rw [← hW0]; simp
      have HK0 := hide (HKC.out.below hbw)
      have hgw := HKC.out.L.lt
      have hob : ∀ q, (Value.slice oa k ocap).ownBlock = some q → q < wr.heap.size := fun q hq => (HKC.out.O.lt q hq).2
      have hzw : wr.heap.size < W0.heap.size := by rw [← hW0]; simp
      rw [hW0]
      obtain ⟨eb, heb⟩ : ∃ eb, eb = wr.heap.size := ⟨_, rfl⟩
      rw [← heb] at e0 e1 hgw hob hzw ⊢
      clear hW0 hbw heb HKC
      have l0 := HK0.out.L.cell (xn * 5 + 0) (by omega)
      rw [LE_at l k xn 0 (by omega)] at l0
      have l1 := HK0.out.L.cell (xn * 5 + 1) (by omega)
      rw [LE_at l k xn 1 (by omega)] at l1
      have l2 := HK0.out.L.cell (xn * 5 + 2) (by omega)
      rw [LE_at l k xn 2 (by omega)] at l2
      have l3 := HK0.out.L.cell (xn * 5 + 3) (by omega)
      rw [LE_at l k xn 3 (by omega)] at l3
      have l4 := HK0.out.L.cell (xn * 5 + 4) (by omega)
      rw [LE_at l k xn 4 (by omega)] at l4
      rw [Nat.add_zero] at l0
      obtain ⟨P, hP⟩ : ∃ P : Nat → Int, P = fun i : Nat => clkO l (pri l (xn : Int) k) (i : Int) := ⟨_, rfl⟩
      have hPi : ∀ i : Nat, clkO l (pri l (xn : Int) k) (i : Int) = P i := fun i => by rw [hP]
      rw [hPi] at l0 l1 l2 l3 l4
      have hPb : ∀ i : Nat, 0 ≤ P i ∧ P i ≤ (k : Int) := fun i => by rw [← hPi]; exact clkO_bd l _ k (pri_lt l _ k) _
      have hcl : ∀ i : Nat, clk l k (i : Int) = max (P i) (clkO l y (i : Int)) + if (i : Int) = (xn : Int) then 1 else 0 := fun i => by
        rw [clk_eq l k _ HV.out.2.2.2.1, HX.out, hPi, HY.out]
      have HPB := hide hPb
      have HCL := hide hcl
      clear hP hPi hPb hcl
      go_upto_region 7 with fail
      obtain ⟨V, hV⟩ : ∃ V, W0.alloc (.cells #[.int .i64 (P 0), .int .i64 (P 1), .int .i64 (P 2), .int .i64 (P 3), .int .i64 (P 4)] 112) = V := ⟨_, rfl⟩
      have hbv : Below W0.heap.size W0 V := by rw [← hV]; exact (Below.refl _ _).alloc (Nat.le_refl _) _
      have HC : Hid (Clk V w.heap.size W0.heap.size P) := by rw [← hV]; exact hide (clk_new W0 _ _ rfl HK0.out.bel.size P)
      have HKC := hide (HK0.out.below hbv)
      have E0 : Hid (V.cell? ⟨eb, 0, none⟩ = some (.int .i64 xn)) := hide ((hbv.cell (p := ⟨eb, 0, none⟩) (blk_lt e0)).trans e0)
      have e1v : V.cell? ⟨eb, 1, none⟩ = some (.int .i64 y) := (hbv.cell (p := ⟨eb, 1, none⟩) (blk_lt e1)).trans e1
      have hwz := HK0.out.bel.size
      rw [hV]
      obtain ⟨cb, hcb⟩ : ∃ cb, cb = W0.heap.size := ⟨_, rfl⟩
      rw [← hcb] at HC hzw hwz ⊢
      have HCB : Hid (w.heap.size ≤ cb ∧ g ≠ cb ∧ (Value.slice oa k ocap).ownBlock ≠ some cb) := hide ⟨hwz, by omega, fun e => by have := hob cb e; omega⟩
      have HEC : Hid (eb ≠ cb) := hide (by omega)
      clear hV hbv hcb e0 e1 l0 l1 l2 l3 l4 HK0 hgw hob hzw hwz
      by_cases hy1 : y = -1
      · have hyb : (y != -1) = false := by simp [hy1]
        obtain ⟨M, hMP⟩ : ∃ M : Nat → Int, M = P := ⟨_, rfl⟩
        rw [← hMP] at HC
        have HMB : Hid (∀ i, i < 5 → 0 ≤ M i ∧ M i ≤ (k : Int)) := hide (fun i _ => by rw [hMP]; exact HPB.out i)
        have HM : Hid (∀ i : Nat, i < 5 → (M i + if i = xn then 1 else 0) = cE l k i) := hide (fun i _ => by
          have h1 := HCL.out i
          have h2 := HPB.out i
          unfold cE
          rw [h1, hMP, hy1]
          have h3 : clkO l (-1) (i : Int) = 0 := rfl
          rw [h3]
          by_cases e : i = xn
          · rw [if_pos e, if_pos (by omega)]; omega
          · rw [if_neg e, if_neg (by omega)]; omega)
        clear hy1 hMP HCL HPB
        have hcx := HC.out.cell xn hx5
        have hcf := HC.out.frozenAt xn
        have hMb := HMB.out xn hx5
        obtain ⟨mx, hmx⟩ : ∃ mx, mx = M xn := ⟨_, rfl⟩
        rw [← hmx] at hcx hMb
        have hmb0 := hMb.1
        have hmb1 : mx ≤ 40 := by omega
        have HMX := hide hmx
        have e0 := E0.out
        clear hmx hMb
        go_upto_region 10 with fail
        obtain ⟨V4, hV4⟩ : ∃ V4, V.setCell ⟨cb, xn, none⟩ (.int .i64 (mx + 1)) = V4 := ⟨_, rfl⟩
        have HC4 : Hid (Clk V4 w.heap.size cb (cE l k)) := by
          rw [← hV4]
          refine hide ((HC.out.set xn (mx + 1)).congr (fun i hi => ?_))
          have := HM.out i hi
          unfold updI
          by_cases e : i = xn
          · subst e; rw [if_pos rfl]; rw [if_pos rfl] at this; rw [HMX.out]; exact this
          · rw [if_neg e]; rw [if_neg e] at this; omega
        have HK4 : Hid (KC w V4 g (Value.slice oa k ocap) l k) := by rw [← hV4]; exact hide (HKC.out.set xn _ HCB.out.1 HCB.out.2.1 HCB.out.2.2)
        have E04 : Hid (V4.cell? ⟨eb, 0, none⟩ = some (.int .i64 xn)) := by
          rw [← hV4]
          exact hide (by unfold World.cell?; rw [Below.heap_setCell V ⟨cb, xn, none⟩ _ eb HEC.out]; exact E0.out)
        rw [hV4]
        clear hV4 hcx hcf e0 HC HKC E0 hmb0 hmb1
        have e0 := E04.out
        have c0 := HC4.out.cell 0 (by omega)
        have l0 := HK4.out.L.cell (xn * 5 + 0) (by omega)
        have lf0 := HK4.out.L.frozenAt (xn * 5 + 0)
        have c1 := HC4.out.cell 1 (by omega)
        have l1 := HK4.out.L.cell (xn * 5 + 1) (by omega)
        have lf1 := HK4.out.L.frozenAt (xn * 5 + 1)
        have c2 := HC4.out.cell 2 (by omega)
        have l2 := HK4.out.L.cell (xn * 5 + 2) (by omega)
        have lf2 := HK4.out.L.frozenAt (xn * 5 + 2)
        have c3 := HC4.out.cell 3 (by omega)
        have l3 := HK4.out.L.cell (xn * 5 + 3) (by omega)
        have lf3 := HK4.out.L.frozenAt (xn * 5 + 3)
        have c4 := HC4.out.cell 4 (by omega)
        have l4 := HK4.out.L.cell (xn * 5 + 4) (by omega)
        have lf4 := HK4.out.L.frozenAt (xn * 5 + 4)
        rw [Nat.add_zero] at l0 lf0
        go_upto_region 11 with fail
        obtain ⟨V5, hV5⟩ : ∃ V5, (((((V4.setCell ⟨g, xn * 5, none⟩ (.int .i64 (cE l k 0))).setCell ⟨g, xn * 5 + 1, none⟩ (.int .i64 (cE l k 1))).setCell ⟨g, xn * 5 + 2, none⟩ (.int .i64 (cE l k 2))).setCell ⟨g, xn * 5 + 3, none⟩ (.int .i64 (cE l k 3))).setCell ⟨g, xn * 5 + 4, none⟩ (.int .i64 (cE l k 4))) = V5 := ⟨_, rfl⟩
        have HL5 : Hid (Arr 144 25 V5 w.heap.size g (LE l (k + 1))) := by
          rw [← hV5]
          exact hide ((((((HK4.out.L.set (xn * 5) _).set (xn * 5 + 1) _).set (xn * 5 + 2) _).set (xn * 5 + 3) _).set (xn * 5 + 4) _).congr (fun q hq => LE_succ l k xn HX.out q hq))
        have HO5 : Hid (V5.ownsRow (g + 1) 112 5 (Value.slice oa k ocap) k (flat5 (cE l) k)) := by
          rw [← hV5]
          exact hide (own_setLt (own_setLt (own_setLt (own_setLt (own_setLt HK4.out.O g _ _ (by omega)) g _ _ (by omega)) g _ _ (by omega)) g _ _ (by omega)) g _ _ (by omega))
        have HC5 : Hid (Clk V5 w.heap.size cb (cE l k)) := by
          rw [← hV5]
          exact hide (((((HC4.out.keep _ _ (Ne.symm HCB.out.2.1)).keep _ _ (Ne.symm HCB.out.2.1)).keep _ _ (Ne.symm HCB.out.2.1)).keep _ _ (Ne.symm HCB.out.2.1)).keep _ _ (Ne.symm HCB.out.2.1))
        have B5 : Hid (Below w.heap.size w V5) := by
          rw [← hV5]
          exact hide (((((HK4.out.bel.setCell (p := ⟨g, xn * 5, none⟩) HWG.out _).setCell (p := ⟨g, xn * 5 + 1, none⟩) HWG.out _).setCell (p := ⟨g, xn * 5 + 2, none⟩) HWG.out _).setCell (p := ⟨g, xn * 5 + 3, none⟩) HWG.out _).setCell (p := ⟨g, xn * 5 + 4, none⟩) HWG.out _)
        rw [hV5]
        clear hV5 e0 E04 HK4 HC4 c0 c1 c2 c3 c4 l0 l1 l2 l3 l4 lf0 lf1 lf2 lf3 lf4
        have hgV := HL5.out.lt
        have hsz5 := B5.out.size
        have c0 := HC5.out.cell 0 (by omega)
        have c1 := HC5.out.cell 1 (by omega)
        have c2 := HC5.out.cell 2 (by omega)
        have c3 := HC5.out.cell 3 (by omega)
        have c4 := HC5.out.cell 4 (by omega)
        go_wp2_with (first
          | (at_builtin; refine wpList_append_own_at _ rfl _ _ 108 rfl (g + 1) 112 i1 (.agg #[.int .i64 0, .int .i64 0, .int .i64 0, .int .i64 0, .int .i64 0]) 5 40 Try.underlying108 hi1 hy0 hy1 hy2 rfl (by decide) _ _ _ rfl (HO5.out.alloc _) ⟨V5.heap.size, 0, none⟩ 1 1 (lA 5 (cE l k)) rfl (by simp [lA]) (cell_five _ _ rfl _ _) (by intro u hu; simp [lA] at hu; obtain ⟨q, _, rfl⟩ := hu; rfl) (by unfold maxLen; omega) (by omega) (by simp; omega) ?_)
          | go_in)
        intro v6 w6 hown6 hgrow6 _ hat6
        have hob : ∀ q, (Value.slice oa k ocap).ownBlock = some q → g + 1 ≤ q := fun q hq => (HO5.out.lt q hq).1
        have hb6 : Below w.heap.size w w6 := (B5.out.alloc hsz5 _).grown hgrow6 (by simp; omega) (fun q hq => by have h1 := hob q hq; have h2 := HWG.out; omega)
        have harr6 : Arr 144 25 w6 w.heap.size g (LE l (k + 1)) := arr_grown2 (HL5.out.alloc _) hgrow6 (fun e => by have := hob g e; omega)
        have H7 : Hid (KC w w6 g v6 l (k + 1)) := hide ⟨harr6, hown6, hb6⟩
        clear hown6 hgrow6 harr6 hat6 hb6
        go_wp2
        go_roundw
        case rel => exact ⟨k + 1, by omega, by go_num, H7⟩
        case measure => simp [intOf]; omega
      · have hyb : (y != -1) = true := by simp [hy1]
        have hv4 := HV.out.2.2.2.1
        have hv3 := HV.out.2.2.1
        rw [← HY.out] at hv3 hv4
        obtain ⟨f, hf⟩ : ∃ f : Nat, y = (f : Int) := ⟨y.toNat, by omega⟩
        subst hf
        have hfk : f < k := by omega
        have hfI : (f : Int) < (k : Int) := by omega
        have hf0 : (0 : Int) ≤ (f : Int) := by omega
        obtain ⟨oq, hoa⟩ : ∃ q, oa = some ⟨q, 0, none⟩ := by
          rcases HKC.out.O.2 with ⟨hv, h0⟩ | ⟨q, cap, cur, hv, _⟩
          · omega
          · exact ⟨q, by simp at hv; exact hv.1⟩
        subst hoa
        have o0 := HKC.out.O.cells (g := oq) rfl (f * 5 + 0) _ (flat5_get (cE l) k f 0 hfk (by omega))
        have o1 := HKC.out.O.cells (g := oq) rfl (f * 5 + 1) _ (flat5_get (cE l) k f 1 hfk (by omega))
        have o2 := HKC.out.O.cells (g := oq) rfl (f * 5 + 2) _ (flat5_get (cE l) k f 2 hfk (by omega))
        have o3 := HKC.out.O.cells (g := oq) rfl (f * 5 + 3) _ (flat5_get (cE l) k f 3 hfk (by omega))
        have o4 := HKC.out.O.cells (g := oq) rfl (f * 5 + 4) _ (flat5_get (cE l) k f 4 hfk (by omega))
        rw [addr_add] at o0 o1 o2 o3 o4
        simp only [Nat.add_zero] at o0 o1 o2 o3 o4
        have p0 := HC.out.cell 0 (by omega)
        have p1 := HC.out.cell 1 (by omega)
        have p2 := HC.out.cell 2 (by omega)
        have p3 := HC.out.cell 3 (by omega)
        have p4 := HC.out.cell 4 (by omega)
        have CJ : Hid (∀ wx, Below V.heap.size V wx → Calls Try.prog 93 #[cv P, cv (cE l f)] wx fun e w' => e = .returned (cv (jn P (cE l f))) ∧ (w'.cell? ⟨cb, 0, none⟩ = some (.int .i64 (P 0)) ∧ w'.frozen? ⟨cb, 0, none⟩ = false ∧ w'.cell? ⟨cb, 1, none⟩ = some (.int .i64 (P 1)) ∧ w'.frozen? ⟨cb, 1, none⟩ = false ∧ w'.cell? ⟨cb, 2, none⟩ = some (.int .i64 (P 2)) ∧ w'.frozen? ⟨cb, 2, none⟩ = false ∧ w'.cell? ⟨cb, 3, none⟩ = some (.int .i64 (P 3)) ∧ w'.frozen? ⟨cb, 3, none⟩ = false ∧ w'.cell? ⟨cb, 4, none⟩ = some (.int .i64 (P 4)) ∧ w'.frozen? ⟨cb, 4, none⟩ = false) ∧ Below V.heap.size V w') := hide (fun wx hb => (joinClocks_any P (cE l f) wx).mono (fun e w' h => by
          have hb2 : Below V.heap.size V w' := hb.trans (h.2.mono hb.size)
          have hC2 := HC.out.below hb2
          exact ⟨h.1, ⟨hC2.cell 0 (by omega), hC2.frozenAt 0, hC2.cell 1 (by omega), hC2.frozenAt 1, hC2.cell 2 (by omega), hC2.frozenAt 2, hC2.cell 3 (by omega), hC2.frozenAt 3, hC2.cell 4 (by omega), hC2.frozenAt 4⟩, hb2⟩))
        obtain ⟨M, hMJ⟩ : ∃ M : Nat → Int, M = jn P (cE l f) := ⟨_, rfl⟩
        have hfe : ∀ i : Nat, clkO l (f : Int) (i : Int) = cE l f i := fun i => by unfold clkO cE; rw [if_pos (by omega)]; rfl
        have HMB : Hid (∀ i, i < 5 → 0 ≤ M i ∧ M i ≤ (k : Int)) := hide (fun i _ => by
          have h1 := HPB.out i
          have h2 := clkO_bd l (f : Int) k (by omega) (i : Int)
          rw [hfe] at h2
          rw [hMJ]; unfold jn; omega)
        have HM : Hid (∀ i : Nat, i < 5 → (M i + if i = xn then 1 else 0) = cE l k i) := hide (fun i _ => by
          have h1 := HCL.out i
          rw [hfe] at h1
          show _ = clk l k (i : Int)
          rw [h1, hMJ]
          unfold jn
          by_cases e : i = xn
          · rw [if_pos e, if_pos (by omega)]
          · rw [if_neg e, if_neg (by omega)])
        rw [← hMJ] at CJ
        clear hy1 HCL HPB hv3 hv4 hfe hMJ
        go_upto_region 8 with fail
        go_cut [7] from 18 to 27 (fun t wx => t = .pointer (some ⟨cb, 0, none⟩) ∧ ∃ v2, Below V.heap.size V v2 ∧ (wx = (((((v2.setCell ⟨cb, 0, none⟩ (.int .i64 (M 0))).setCell ⟨cb, 1, none⟩ (.int .i64 (M 1))).setCell ⟨cb, 2, none⟩ (.int .i64 (M 2))).setCell ⟨cb, 3, none⟩ (.int .i64 (M 3))).setCell ⟨cb, 4, none⟩ (.int .i64 (M 4))) ∨ wx = ((((((v2.setCell ⟨cb, 0, none⟩ (.int .i64 (M 0))).setCell ⟨cb, 1, none⟩ (.int .i64 (M 1))).setCell ⟨cb, 2, none⟩ (.int .i64 (M 2))).setCell ⟨cb, 3, none⟩ (.int .i64 (M 3))).setCell ⟨cb, 4, none⟩ (.int .i64 (M 4)))).drew))
        case first =>
          go_region_with (go_at_call 93; refine (CJ.out _ ?_).mono ?_; (first | exact Below.refl _ _ | exact (Below.refl _ _).drew | exact ((Below.refl _ _).drew).drew); rintro e w2 ⟨rfl, ⟨a0, b0, a1, b1, a2, b2, a3, b3, a4, b4⟩, hb2⟩)
          all_goals
            go_wp2
            go_meet
            first
              | exact ⟨rfl, w2, hb2, .inl rfl⟩
              | exact ⟨rfl, w2, hb2, .inr rfl⟩
        case rest =>
          obtain ⟨rfl, v2, hb2, hwx⟩ := hcut
          have hk3 := (HKC.out.below hb2).set5 (.int .i64 (M 0)) (.int .i64 (M 1)) (.int .i64 (M 2)) (.int .i64 (M 3)) (.int .i64 (M 4)) HCB.out.1 HCB.out.2.1 HCB.out.2.2
          have hc3 := arr_set5 (HC.out.below hb2) M
          have h1 : v2.cell? ⟨eb, 0, none⟩ = some (.int .i64 xn) := (hb2.cell (p := ⟨eb, 0, none⟩) (blk_lt E0.out)).trans E0.out
          have he3 := cell_set5 h1 HEC.out (.int .i64 (M 0)) (.int .i64 (M 1)) (.int .i64 (M 2)) (.int .i64 (M 3)) (.int .i64 (M 4))
          obtain ⟨U, hU⟩ : ∃ U, U = (((((v2.setCell ⟨cb, 0, none⟩ (.int .i64 (M 0))).setCell ⟨cb, 1, none⟩ (.int .i64 (M 1))).setCell ⟨cb, 2, none⟩ (.int .i64 (M 2))).setCell ⟨cb, 3, none⟩ (.int .i64 (M 3))).setCell ⟨cb, 4, none⟩ (.int .i64 (M 4))) := ⟨_, rfl⟩
          rw [← hU] at hk3 hc3 he3 hwx
          have HK3 : Hid (KC w wc g (.slice (some ⟨oq, 0, none⟩) k ocap) l k) := by
            rcases hwx with h | h
            · rw [h]; exact hide hk3
            · rw [h]; exact hide hk3.drew
          have HC3 : Hid (Clk wc w.heap.size cb M) := by
            rcases hwx with h | h
            · rw [h]; exact hide hc3
            · rw [h]; exact hide hc3.drew
          have E03 : Hid (wc.cell? ⟨eb, 0, none⟩ = some (.int .i64 xn)) := by
            rcases hwx with h | h
            · rw [h]; exact hide he3
            · rw [h]; exact hide he3
          clear hk3 hc3 he3 hwx hU h1 U
          clear hb2 v2 E0 HC HKC CJ o0 o1 o2 o3 o4 p0 p1 p2 p3 p4 e1v
          obtain ⟨V', hV'⟩ : ∃ V', V' = wc := ⟨_, rfl⟩
          rw [← hV'] at HK3 HC3 E03 ⊢
          clear hV'
          have hcx := HC3.out.cell xn hx5
          have hcf := HC3.out.frozenAt xn
          have hMb := HMB.out xn hx5
          obtain ⟨mx, hmx⟩ : ∃ mx, mx = M xn := ⟨_, rfl⟩
          rw [← hmx] at hcx hMb
          have hmb0 := hMb.1
          have hmb1 : mx ≤ 40 := by omega
          have HMX := hide hmx
          have e0 := E03.out
          clear hmx hMb
          go_upto_region 10 with fail
          obtain ⟨V4, hV4⟩ : ∃ V4, V'.setCell ⟨cb, xn, none⟩ (.int .i64 (mx + 1)) = V4 := ⟨_, rfl⟩
          have HC4 : Hid (Clk V4 w.heap.size cb (cE l k)) := by
            rw [← hV4]
            refine hide ((HC3.out.set xn (mx + 1)).congr (fun i hi => ?_))
            have := HM.out i hi
            unfold updI
            by_cases e : i = xn
            · subst e; rw [if_pos rfl]; rw [if_pos rfl] at this; rw [HMX.out]; exact this
            · rw [if_neg e]; rw [if_neg e] at this; omega
          have HK4 : Hid (KC w V4 g (Value.slice (some ⟨oq, 0, none⟩) k ocap) l k) := by rw [← hV4]; exact hide (HK3.out.set xn _ HCB.out.1 HCB.out.2.1 HCB.out.2.2)
          have E04 : Hid (V4.cell? ⟨eb, 0, none⟩ = some (.int .i64 xn)) := by
            rw [← hV4]
            exact hide (by unfold World.cell?; rw [Below.heap_setCell V' ⟨cb, xn, none⟩ _ eb HEC.out]; exact E03.out)
          rw [hV4]
          clear hV4 hcx hcf e0 HC3 HK3 E03 hmb0 hmb1
          have e0 := E04.out
          have c0 := HC4.out.cell 0 (by omega)
          have l0 := HK4.out.L.cell (xn * 5 + 0) (by omega)
          have lf0 := HK4.out.L.frozenAt (xn * 5 + 0)
          have c1 := HC4.out.cell 1 (by omega)
          have l1 := HK4.out.L.cell (xn * 5 + 1) (by omega)
          have lf1 := HK4.out.L.frozenAt (xn * 5 + 1)
          have c2 := HC4.out.cell 2 (by omega)
          have l2 := HK4.out.L.cell (xn * 5 + 2) (by omega)
          have lf2 := HK4.out.L.frozenAt (xn * 5 + 2)
          have c3 := HC4.out.cell 3 (by omega)
          have l3 := HK4.out.L.cell (xn * 5 + 3) (by omega)
          have lf3 := HK4.out.L.frozenAt (xn * 5 + 3)
          have c4 := HC4.out.cell 4 (by omega)
          have l4 := HK4.out.L.cell (xn * 5 + 4) (by omega)
          have lf4 := HK4.out.L.frozenAt (xn * 5 + 4)
          rw [Nat.add_zero] at l0 lf0
          go_upto_region 11 with fail
          obtain ⟨V5, hV5⟩ : ∃ V5, (((((V4.setCell ⟨g, xn * 5, none⟩ (.int .i64 (cE l k 0))).setCell ⟨g, xn * 5 + 1, none⟩ (.int .i64 (cE l k 1))).setCell ⟨g, xn * 5 + 2, none⟩ (.int .i64 (cE l k 2))).setCell ⟨g, xn * 5 + 3, none⟩ (.int .i64 (cE l k 3))).setCell ⟨g, xn * 5 + 4, none⟩ (.int .i64 (cE l k 4))) = V5 := ⟨_, rfl⟩
          have HL5 : Hid (Arr 144 25 V5 w.heap.size g (LE l (k + 1))) := by
            rw [← hV5]
            exact hide ((((((HK4.out.L.set (xn * 5) _).set (xn * 5 + 1) _).set (xn * 5 + 2) _).set (xn * 5 + 3) _).set (xn * 5 + 4) _).congr (fun q hq => LE_succ l k xn HX.out q hq))
          have HO5 : Hid (V5.ownsRow (g + 1) 112 5 (Value.slice (some ⟨oq, 0, none⟩) k ocap) k (flat5 (cE l) k)) := by
            rw [← hV5]
            exact hide (own_setLt (own_setLt (own_setLt (own_setLt (own_setLt HK4.out.O g _ _ (by omega)) g _ _ (by omega)) g _ _ (by omega)) g _ _ (by omega)) g _ _ (by omega))
          have HC5 : Hid (Clk V5 w.heap.size cb (cE l k)) := by
            rw [← hV5]
            exact hide (((((HC4.out.keep _ _ (Ne.symm HCB.out.2.1)).keep _ _ (Ne.symm HCB.out.2.1)).keep _ _ (Ne.symm HCB.out.2.1)).keep _ _ (Ne.symm HCB.out.2.1)).keep _ _ (Ne.symm HCB.out.2.1))
          have B5 : Hid (Below w.heap.size w V5) := by
            rw [← hV5]
            exact hide (((((HK4.out.bel.setCell (p := ⟨g, xn * 5, none⟩) HWG.out _).setCell (p := ⟨g, xn * 5 + 1, none⟩) HWG.out _).setCell (p := ⟨g, xn * 5 + 2, none⟩) HWG.out _).setCell (p := ⟨g, xn * 5 + 3, none⟩) HWG.out _).setCell (p := ⟨g, xn * 5 + 4, none⟩) HWG.out _)
          rw [hV5]
          clear hV5 e0 E04 HK4 HC4 c0 c1 c2 c3 c4 l0 l1 l2 l3 l4 lf0 lf1 lf2 lf3 lf4
          have hgV := HL5.out.lt
          have hsz5 := B5.out.size
          have c0 := HC5.out.cell 0 (by omega)
          have c1 := HC5.out.cell 1 (by omega)
          have c2 := HC5.out.cell 2 (by omega)
          have c3 := HC5.out.cell 3 (by omega)
          have c4 := HC5.out.cell 4 (by omega)
          go_wp2_with (first
            | (at_builtin; refine wpList_append_own_at _ rfl _ _ 108 rfl (g + 1) 112 i1 (.agg #[.int .i64 0, .int .i64 0, .int .i64 0, .int .i64 0, .int .i64 0]) 5 40 Try.underlying108 hi1 hy0 hy1 hy2 rfl (by decide) _ _ _ rfl (HO5.out.alloc _) ⟨V5.heap.size, 0, none⟩ 1 1 (lA 5 (cE l k)) rfl (by simp [lA]) (cell_five _ _ rfl _ _) (by intro u hu; simp [lA] at hu; obtain ⟨q, _, rfl⟩ := hu; rfl) (by unfold maxLen; omega) (by omega) (by simp; omega) ?_)
            | go_in)
          intro v6 w6 hown6 hgrow6 _ hat6
          have hob : ∀ q, (Value.slice (some ⟨oq, 0, none⟩) k ocap).ownBlock = some q → g + 1 ≤ q := fun q hq => (HO5.out.lt q hq).1
          have hb6 : Below w.heap.size w w6 := (B5.out.alloc hsz5 _).grown hgrow6 (by simp; omega) (fun q hq => by have h1 := hob q hq; have h2 := HWG.out; omega)
          have harr6 : Arr 144 25 w6 w.heap.size g (LE l (k + 1)) := arr_grown2 (HL5.out.alloc _) hgrow6 (fun e => by have := hob g e; omega)
          have H7 : Hid (KC w w6 g v6 l (k + 1)) := hide ⟨harr6, hown6, hb6⟩
          clear hown6 hgrow6 harr6 hat6 hb6
          go_wp2
          go_roundw
          case rel => exact ⟨k + 1, by omega, by go_num, H7⟩
          case measure => simp [intOf]; omega
    · have hltI : ¬ (k : Int) < (n : Int) := by omega
      obtain rfl : k = n := by omega
      have HO := hide (own_baseT HKC.out.O (show w.heap.size ≤ g + 1 by have := HWG.out; omega))
      have B9 := hide HKC.out.bel
      clear HKC
      go_wp2
      go_ret
      exact ⟨_, rfl, HO.out, B9.out⟩
end Go.Proofs.Ytkfnejiiancmhad.L11

namespace Go.Proofs.Ytkfnejiiancmhad.L11
open Go.RowKit L1 Own
set_option linter.unusedVariables false

theorem info_int11 : (Try.prog.info? 3).map (fun i => (i.zero, i.size, i.bytes)) = some (some (.int .i64 0), 1, 8) := by kernel_rfl
theorem cells_int11 : Try.prog.cellsOf 3 = 1 := by kernel_rfl
set_option maxRecDepth 100000 in
theorem eq_clk (E F : Nat → Int) (b : Bool) (hb : b = true ↔ ∀ i, i < 5 → E i = F i) (w : World) : (Op.equalIn 10000 112 (cv E) (cv F)).run Try.prog w = .ok b w := by
  obtain ⟨i1, hi1, _, _, _⟩ := info_parts info_int11
  rw [Go.run_equalIn_array w 9999 _ _ Try.underlying112 hi1, cells_int11, show List.range 5 = [0, 1, 2, 3, 4] from rfl]
  have hall : (∀ i, i < 5 → E i = F i) ↔ E 0 = F 0 ∧ E 1 = F 1 ∧ E 2 = F 2 ∧ E 3 = F 3 ∧ E 4 = F 4 := by
    constructor
    · intro h; exact ⟨h 0 (by omega), h 1 (by omega), h 2 (by omega), h 3 (by omega), h 4 (by omega)⟩
    · rintro ⟨h0, h1, h2, h3, h4⟩ i hi
      match i, hi with
      | 0, _ => exact h0
      | 1, _ => exact h1
      | 2, _ => exact h2
      | 3, _ => exact h3
      | 4, _ => exact h4
  rw [hall] at hb
  have s0 : ∀ (a b : Int) (w : World), (Op.equalIn 9999 3 (.int .i64 a) (.int .i64 b)).run Try.prog w = .ok (a == b) w := fun a b w => run_equalIn_int w 9998 3 .i64 .i64 a b Try.underlying3
  have hp : ∀ (G : Nat → Int) (k : Nat) (hk : k < 5) (w : World), (part 3 #[.int .i64 (G 0), .int .i64 (G 1), .int .i64 (G 2), .int .i64 (G 3), .int .i64 (G 4)] (k * 1)).run Try.prog w = .ok (.int .i64 (G k)) w := fun G k hk w => by
    match k, hk with
    | 0, _ => simp [go_sem]
    | 1, _ => simp [go_sem]
    | 2, _ => simp [go_sem]
    | 3, _ => simp [go_sem]
    | 4, _ => simp [go_sem]
  simp only [Op.eqItems, Sem.run_bind, hp E 0 (by omega), hp E 1 (by omega), hp E 2 (by omega), hp E 3 (by omega), hp E 4 (by omega), hp F 0 (by omega), hp F 1 (by omega), hp F 2 (by omega), hp F 3 (by omega), hp F 4 (by omega), Result.andThen_ok, s0, Sem.run_ite, Sem.run_pure]
  cases b with
  | true =>
    obtain ⟨h0, h1, h2, h3, h4⟩ := hb.1 rfl
    simp [h0, h1, h2, h3, h4]
  | false =>
    have hno : ¬ (E 0 = F 0 ∧ E 1 = F 1 ∧ E 2 = F 2 ∧ E 3 = F 3 ∧ E 4 = F 4) := fun h => by have := hb.2 h; cases this
    by_cases h0 : E 0 = F 0
    · by_cases h1 : E 1 = F 1
      · by_cases h2 : E 2 = F 2
        · by_cases h3 : E 3 = F 3
          · by_cases h4 : E 4 = F 4
            · exact absurd ⟨h0, h1, h2, h3, h4⟩ hno
            · simp [h0, h1, h2, h3, h4]
          · simp [h0, h1, h2, h3]
        · simp [h0, h1, h2]
      · simp [h0, h1]
    · simp [h0]
set_option maxRecDepth 100000 in
set_option maxHeartbeats 4000000 in
theorem isAtMost_any (E F : Nat → Int) (w : World) (b : Bool) (hb : b = true ↔ ∀ i, i < 5 → E i ≤ F i) :
    Calls Try.prog 90 #[cv E, cv F] w fun e w' => e = .returned (.bool b) ∧ Below w.heap.size w w' := by
  have heq := eq_clk (jn E F) F b (hb.trans ⟨fun h i hi => by have := h i hi; unfold jn; omega, fun h i hi => by have := h i hi; unfold jn at this; omega⟩)
  have CJ := hide (joinClocks_any E F)
  clear hb
  go_enter Try.func90, Try.ntmps90
  go_wp2
  obtain ⟨W, hW⟩ : ∃ W, W = ((w.alloc (.cells #[.int .i64 (E 0), .int .i64 (E 1), .int .i64 (E 2), .int .i64 (E 3), .int .i64 (E 4)] 112)).alloc (.cells #[.int .i64 (F 0), .int .i64 (F 1), .int .i64 (F 2), .int .i64 (F 3), .int .i64 (F 4)] 112)) := ⟨_, rfl⟩
  rw [← hW]
  have hA : Clk W w.heap.size w.heap.size E := by rw [hW]; exact (clk_new w _ _ rfl (Nat.le_refl _) E).alloc _
  have hB : Clk W w.heap.size (w.heap.size + 1) F := by rw [hW]; exact clk_new _ _ _ (by simp) (by omega) F
  have hbel : Below w.heap.size w W := by rw [hW]; exact ((Below.refl _ _).alloc (Nat.le_refl _) _).alloc (by simp) _
  have gE0 := hA.cell 0 (by omega)
  have gE1 := hA.cell 1 (by omega)
  have gE2 := hA.cell 2 (by omega)
  have gE3 := hA.cell 3 (by omega)
  have gE4 := hA.cell 4 (by omega)
  have gF0 := hB.cell 0 (by omega)
  have gF1 := hB.cell 1 (by omega)
  have gF2 := hB.cell 2 (by omega)
  have gF3 := hB.cell 3 (by omega)
  have gF4 := hB.cell 4 (by omega)
  clear hW hA hB
  refine wp_region_held_drew (S := (fun wx => wx.cell? ⟨w.heap.size, 0, none⟩ = some (.int .i64 (E 0)) ∧ wx.cell? ⟨w.heap.size, 1, none⟩ = some (.int .i64 (E 1)) ∧ wx.cell? ⟨w.heap.size, 2, none⟩ = some (.int .i64 (E 2)) ∧ wx.cell? ⟨w.heap.size, 3, none⟩ = some (.int .i64 (E 3)) ∧ wx.cell? ⟨w.heap.size, 4, none⟩ = some (.int .i64 (E 4)) ∧ wx.cell? ⟨w.heap.size + 1, 0, none⟩ = some (.int .i64 (F 0)) ∧ wx.cell? ⟨w.heap.size + 1, 1, none⟩ = some (.int .i64 (F 1)) ∧ wx.cell? ⟨w.heap.size + 1, 2, none⟩ = some (.int .i64 (F 2)) ∧ wx.cell? ⟨w.heap.size + 1, 3, none⟩ = some (.int .i64 (F 3)) ∧ wx.cell? ⟨w.heap.size + 1, 4, none⟩ = some (.int .i64 (F 4)) ∧ Below w.heap.size w wx)) (by kernel_rfl) ⟨gE0, gE1, gE2, gE3, gE4, gF0, gF1, gF2, gF3, gF4, hbel.drew⟩ (fun hHeld => ?_)
  refine wpAnyH_take (i := 0) (v := ?v1) rfl (by kernel_rfl) (by kernel_rfl) (by kernel_rfl) (fun _ _ _ h => h) (Or.inl ⟨by rfl, ?y1⟩) (by assumption) ?r1
  case y1 => (intro w hSw; (try dsimp only at hSw); go_simp; try (with_reducible rfl))
  simp only [List.getElem_toArray, List.getElem_cons_zero, Act.put, List.setIfInBounds_toArray, List.set_cons_zero, List.set_cons_succ]
  refine wpAnyH_take (i := 1) (v := ?v2) rfl (by kernel_rfl) (by kernel_rfl) (by kernel_rfl) (fun _ _ _ h => h) (Or.inl ⟨by rfl, ?y2⟩) (by assumption) ?r2
  case y2 => (intro w hSw; (try dsimp only at hSw); go_simp; try (with_reducible rfl))
  simp only [List.getElem_toArray, List.getElem_cons_succ, List.getElem_cons_zero, Act.put, List.setIfInBounds_toArray, List.set_cons_zero, List.set_cons_succ]
  refine wpAnyH_take (i := 3) (v := ?v3) rfl (by kernel_rfl) (by kernel_rfl) (by kernel_rfl) (fun _ _ _ h => h) (Or.inl ⟨by rfl, ?y3⟩) (by assumption) ?r3
  case y3 => (intro w hSw; (try dsimp only at hSw); go_simp; try (with_reducible rfl))
  simp only [List.getElem_toArray, List.getElem_cons_succ, List.getElem_cons_zero, Act.put, List.setIfInBounds_toArray, List.set_cons_zero, List.set_cons_succ]
  refine wpAnyH_ready (rs := [2]) (by kernel_rfl) (by simp) ?_
  refine AllReadyH.cons rfl (fun K hK => ?_) AllReadyH.nil
  simp only [List.getElem_toArray, List.getElem_cons_succ, List.getElem_cons_zero]
  go_simp
  go_at_call 93
  refine (CJ.out _).mono ?_
  rintro e w1 ⟨rfl, hb1⟩
  dsimp only
  refine hK.out _ _ ?_ (fun hHeld => ?_)
  · exact ⟨(hb1.cell (p := ⟨w.heap.size, 0, none⟩) (blk_lt hHeld.1)).trans hHeld.1, (hb1.cell (p := ⟨w.heap.size, 1, none⟩) (blk_lt hHeld.2.1)).trans hHeld.2.1, (hb1.cell (p := ⟨w.heap.size, 2, none⟩) (blk_lt hHeld.2.2.1)).trans hHeld.2.2.1, (hb1.cell (p := ⟨w.heap.size, 3, none⟩) (blk_lt hHeld.2.2.2.1)).trans hHeld.2.2.2.1, (hb1.cell (p := ⟨w.heap.size, 4, none⟩) (blk_lt hHeld.2.2.2.2.1)).trans hHeld.2.2.2.2.1, (hb1.cell (p := ⟨w.heap.size + 1, 0, none⟩) (blk_lt hHeld.2.2.2.2.2.1)).trans hHeld.2.2.2.2.2.1, (hb1.cell (p := ⟨w.heap.size + 1, 1, none⟩) (blk_lt hHeld.2.2.2.2.2.2.1)).trans hHeld.2.2.2.2.2.2.1, (hb1.cell (p := ⟨w.heap.size + 1, 2, none⟩) (blk_lt hHeld.2.2.2.2.2.2.2.1)).trans hHeld.2.2.2.2.2.2.2.1, (hb1.cell (p := ⟨w.heap.size + 1, 3, none⟩) (blk_lt hHeld.2.2.2.2.2.2.2.2.1)).trans hHeld.2.2.2.2.2.2.2.2.1, (hb1.cell (p := ⟨w.heap.size + 1, 4, none⟩) (blk_lt hHeld.2.2.2.2.2.2.2.2.2.1)).trans hHeld.2.2.2.2.2.2.2.2.2.1, hHeld.2.2.2.2.2.2.2.2.2.2.trans (hb1.mono hHeld.2.2.2.2.2.2.2.2.2.2.size)⟩
  clear hK K
  try simp only [Act.put, List.setIfInBounds_toArray, List.set_cons_zero, List.set_cons_succ]
  refine wpAnyH_take (i := 4) (v := ?v4) rfl (by kernel_rfl) (by kernel_rfl) (by kernel_rfl) (fun _ _ _ h => h) (Or.inl ⟨by rfl, ?y4⟩) (by assumption) ?r4
  case y4 => (intro w hSw; (try dsimp only at hSw); go_simp; try (with_reducible rfl))
  simp only [List.getElem_toArray, List.getElem_cons_succ, List.getElem_cons_zero, Act.put, List.setIfInBounds_toArray, List.set_cons_zero, List.set_cons_succ]
  refine wpAnyH_take (i := 5) (v := ?v5) rfl (by kernel_rfl) (by kernel_rfl) (by kernel_rfl) (fun _ _ _ h => h) (Or.inl ⟨by rfl, ?y5⟩) (by assumption) ?r5
  case y5 => (intro w hSw; (try dsimp only at hSw); go_simp; try (with_reducible rfl))
  simp only [List.getElem_toArray, List.getElem_cons_succ, List.getElem_cons_zero, Act.put, List.setIfInBounds_toArray, List.set_cons_zero, List.set_cons_succ]
  refine wpAnyH_done (by kernel_rfl) ?_ _
  go_wp2
  go_ret
  exact ⟨rfl, hHeld.2.2.2.2.2.2.2.2.2.2⟩
set_option maxRecDepth 100000 in
set_option maxHeartbeats 4000000 in
theorem isLess_any (E F : Nat → Int) (w : World) (b : Bool) (hb : b = true ↔ (∀ i, i < 5 → E i ≤ F i) ∧ ¬ ∀ i, i < 5 → E i = F i) :
    Calls Try.prog 76 #[cv E, cv F] w fun e w' => e = .returned (.bool b) ∧ Below w.heap.size w w' := by
  by_cases he : ∀ i, i < 5 → E i = F i
  · have heq := eq_clk E F true (by simpa using he)
    have HB : Hid (b = false) := by
      cases b with
      | false => rfl
      | true => exact absurd he (hb.1 rfl).2
    clear hb he
    go_enter Try.func76, Try.ntmps76
    go_wp2
    go_ret
    exact ⟨by rw [HB.out]; rfl, ((Below.refl _ _).alloc (Nat.le_refl _) _).alloc (by simp) _⟩
  · have heq := eq_clk E F false (by simpa using he)
    have C := hide (fun w => isAtMost_any E F w b (hb.trans ⟨fun h => h.1, fun h => ⟨h, he⟩⟩))
    clear hb he
    go_enter Try.func76, Try.ntmps76
    go_wp2_with fail
    refine (C.out _).mono ?_
    rintro e w1 ⟨rfl, hb1⟩
    have B1 := hide hb1
    clear hb1
    go_wp2
    go_ret
    exact ⟨rfl, ((((Below.refl _ _).alloc (Nat.le_refl _) _).alloc (by simp) _).trans (B1.out.mono (by simp; omega)))⟩
end Go.Proofs.Ytkfnejiiancmhad.L11

namespace Go.Proofs.Ytkfnejiiancmhad.L11
open Go.RowKit L1 Own
set_option linter.unusedVariables false

/-- A list of numbers that may be a clock. -/
def OkC (l : List Int) : Prop := 1 ≤ l.length ∧ l.length ≤ 5 ∧ ∀ j, j < l.length → 0 ≤ l.getD j 0 ∧ l.getD j 0 ≤ 40
/-- The clock of a list. -/
def fnL (l : List Int) : Nat → Int := fun i => l.getD i 0
def rdK (l : List Int) (k : Nat) : Nat → Int := fun i => if i < k then l.getD i 0 else 0
theorem rdK_succ (l : List Int) (k i : Nat) : updI (rdK l k) k (l.getD k 0) i = rdK l (k + 1) i := by
  unfold updI rdK
  by_cases e : i = k
  · subst e; simp
  · rw [if_neg e]
    by_cases h : i < k
    · rw [if_pos h, if_pos (by omega)]
    · rw [if_neg h, if_neg (by omega)]
theorem rdK_all (l : List Int) (i : Nat) : rdK l l.length i = fnL l i := by
  unfold rdK fnL
  by_cases h : i < l.length
  · rw [if_pos h]
  · rw [if_neg h]; simp [List.getD, List.getElem?_eq_none (show l.length ≤ i by omega)]
/-- Two clocks in memory, and nothing older turned. -/
structure K2 (w wr : World) (A B : Nat → Int) : Prop where
  a : Clk wr w.heap.size w.heap.size A
  b : Clk wr w.heap.size (w.heap.size + 1) B
  bel : Below w.heap.size w wr
set_option maxRecDepth 100000 in
set_option maxHeartbeats 4000000 in
theorem readClock_no (a : Option Addr) (l : List Int) (n cap : Nat) (w : World) (hn : l.length = n) (hs : Sl w a l) (hn2 : n ≤ 1048576) (hb : ¬ OkC l) :
    Calls Try.prog 89 #[.slice a n cap] w fun e w' => e = .returned (.tuple #[cv (fun _ => 0), .bool false]) ∧ Below w.heap.size w w' := by
  have HB := hide hb
  clear hb
  by_cases h1 : (n : Int) < 1
  · clear hs hn HB
    go_enter Try.func89, Try.ntmps89
    go_upto_region 2 with fail
    obtain ⟨W, hW⟩ : ∃ W, (w.alloc (.cells #[.int .i64 0, .int .i64 0, .int .i64 0, .int .i64 0, .int .i64 0] 112)).alloc (.cells #[.int .i64 0, .int .i64 0, .int .i64 0, .int .i64 0, .int .i64 0] 112) = W := ⟨_, rfl⟩
    have H0 : Hid (K2 w W (fun _ => 0) (fun _ => 0)) := by
      rw [← hW]
      exact hide ⟨(clk_zero w _ _ rfl (Nat.le_refl _)).alloc _, clk_zero _ _ _ (by simp) (by omega), ((Below.refl _ _).alloc (Nat.le_refl _) _).alloc (by simp) _⟩
    rw [hW]
    clear hW
    have r0 := H0.out.a.cell 0 (by omega)
    have f0 := H0.out.a.frozenAt 0
    have r1 := H0.out.a.cell 1 (by omega)
    have f1 := H0.out.a.frozenAt 1
    have r2 := H0.out.a.cell 2 (by omega)
    have f2 := H0.out.a.frozenAt 2
    have r3 := H0.out.a.cell 3 (by omega)
    have f3 := H0.out.a.frozenAt 3
    have r4 := H0.out.a.cell 4 (by omega)
    have f4 := H0.out.a.frozenAt 4
    go_wp2
    refine bodyPost_ret (v := .tuple #[cv (fun _ => 0), .bool false]) (by simp [results, Try.f89, go_sem, *]) rfl ⟨rfl, ?_⟩
    exact (((((H0.out.bel.setCell (p := ⟨w.heap.size, 0, none⟩) (by simp only; omega) _).setCell (p := ⟨w.heap.size, 1, none⟩) (by simp only; omega) _).setCell (p := ⟨w.heap.size, 2, none⟩) (by simp only; omega) _).setCell (p := ⟨w.heap.size, 3, none⟩) (by simp only; omega) _).setCell (p := ⟨w.heap.size, 4, none⟩) (by simp only; omega) _)
  by_cases h5 : 5 < (n : Int)
  · clear hs hn HB
    go_enter Try.func89, Try.ntmps89
    go_upto_region 2 with fail
    obtain ⟨W, hW⟩ : ∃ W, (w.alloc (.cells #[.int .i64 0, .int .i64 0, .int .i64 0, .int .i64 0, .int .i64 0] 112)).alloc (.cells #[.int .i64 0, .int .i64 0, .int .i64 0, .int .i64 0, .int .i64 0] 112) = W := ⟨_, rfl⟩
    have H0 : Hid (K2 w W (fun _ => 0) (fun _ => 0)) := by
      rw [← hW]
      exact hide ⟨(clk_zero w _ _ rfl (Nat.le_refl _)).alloc _, clk_zero _ _ _ (by simp) (by omega), ((Below.refl _ _).alloc (Nat.le_refl _) _).alloc (by simp) _⟩
    rw [hW]
    clear hW
    have r0 := H0.out.a.cell 0 (by omega)
    have f0 := H0.out.a.frozenAt 0
    have r1 := H0.out.a.cell 1 (by omega)
    have f1 := H0.out.a.frozenAt 1
    have r2 := H0.out.a.cell 2 (by omega)
    have f2 := H0.out.a.frozenAt 2
    have r3 := H0.out.a.cell 3 (by omega)
    have f3 := H0.out.a.frozenAt 3
    have r4 := H0.out.a.cell 4 (by omega)
    have f4 := H0.out.a.frozenAt 4
    go_wp2
    refine bodyPost_ret (v := .tuple #[cv (fun _ => 0), .bool false]) (by simp [results, Try.f89, go_sem, *]) rfl ⟨rfl, ?_⟩
    exact (((((H0.out.bel.setCell (p := ⟨w.heap.size, 0, none⟩) (by simp only; omega) _).setCell (p := ⟨w.heap.size, 1, none⟩) (by simp only; omega) _).setCell (p := ⟨w.heap.size, 2, none⟩) (by simp only; omega) _).setCell (p := ⟨w.heap.size, 3, none⟩) (by simp only; omega) _).setCell (p := ⟨w.heap.size, 4, none⟩) (by simp only; omega) _)
  have HS := hide hs
  have HN := hide hn
  clear hs hn
  go_enter Try.func89, Try.ntmps89
  go_upto_region 2 with fail
  obtain ⟨W, hW⟩ : ∃ W, (w.alloc (.cells #[.int .i64 0, .int .i64 0, .int .i64 0, .int .i64 0, .int .i64 0] 112)).alloc (.cells #[.int .i64 0, .int .i64 0, .int .i64 0, .int .i64 0, .int .i64 0] 112) = W := ⟨_, rfl⟩
  have H0 : Hid (K2 w W (fun _ => 0) (fun _ => 0)) := by
    rw [← hW]
    exact hide ⟨(clk_zero w _ _ rfl (Nat.le_refl _)).alloc _, clk_zero _ _ _ (by simp) (by omega), ((Below.refl _ _).alloc (Nat.le_refl _) _).alloc (by simp) _⟩
  rw [hW]
  clear hW
  go_wp2
  go_loopw [18] (fun i wr => ∃ k : Nat, k ≤ n ∧ i = .int .i64 k ∧ Hid (∀ j, j < k → 0 ≤ l.getD j 0 ∧ l.getD j 0 ≤ 40) ∧ Hid (K2 w wr (fun _ => 0) (rdK l k))) (fun i _ => n - (intOf i).toNat)
  case atStart => exact ⟨0, Nat.zero_le _, rfl, fun j hj => absurd hj (Nat.not_lt_zero _), H0⟩
  case round =>
    obtain ⟨k, hk, rfl, HJ, HS2⟩ := hrel
    by_cases hlt : k < n
    · obtain ⟨b, off, rfl, hc0⟩ := HS.out k (by rw [HN.out]; exact hlt)
      have hc := (HS2.out.bel.cell (p := ⟨b, off + k, none⟩) (blk_lt hc0)).trans hc0
      have hltI : (k : Int) < (n : Int) := by omega
      have hk5 : (k : Int) < 5 := by omega
      have hk0 : (0 : Int) ≤ (k : Int) := by omega
      obtain ⟨x, hx⟩ : ∃ x, x = l.getD k 0 := ⟨_, rfl⟩
      rw [← hx] at hc
      have HX := hide hx
      clear hc0 hx
      by_cases hx0 : x < 0
      · clear HX
        have r0 := HS2.out.a.cell 0 (by omega)
        have f0 := HS2.out.a.frozenAt 0
        have r1 := HS2.out.a.cell 1 (by omega)
        have f1 := HS2.out.a.frozenAt 1
        have r2 := HS2.out.a.cell 2 (by omega)
        have f2 := HS2.out.a.frozenAt 2
        have r3 := HS2.out.a.cell 3 (by omega)
        have f3 := HS2.out.a.frozenAt 3
        have r4 := HS2.out.a.cell 4 (by omega)
        have f4 := HS2.out.a.frozenAt 4
        go_wp2
        refine bodyPost_ret (v := .tuple #[cv (fun _ => 0), .bool false]) (by simp [results, Try.f89, go_sem, *]) rfl ⟨rfl, ?_⟩
        exact (((((HS2.out.bel.setCell (p := ⟨w.heap.size, 0, none⟩) (by simp only; omega) _).setCell (p := ⟨w.heap.size, 1, none⟩) (by simp only; omega) _).setCell (p := ⟨w.heap.size, 2, none⟩) (by simp only; omega) _).setCell (p := ⟨w.heap.size, 3, none⟩) (by simp only; omega) _).setCell (p := ⟨w.heap.size, 4, none⟩) (by simp only; omega) _)
      · by_cases hx1 : 40 < x
        · clear HX
          have r0 := HS2.out.a.cell 0 (by omega)
          have f0 := HS2.out.a.frozenAt 0
          have r1 := HS2.out.a.cell 1 (by omega)
          have f1 := HS2.out.a.frozenAt 1
          have r2 := HS2.out.a.cell 2 (by omega)
          have f2 := HS2.out.a.frozenAt 2
          have r3 := HS2.out.a.cell 3 (by omega)
          have f3 := HS2.out.a.frozenAt 3
          have r4 := HS2.out.a.cell 4 (by omega)
          have f4 := HS2.out.a.frozenAt 4
          go_wp2
          refine bodyPost_ret (v := .tuple #[cv (fun _ => 0), .bool false]) (by simp [results, Try.f89, go_sem, *]) rfl ⟨rfl, ?_⟩
          exact (((((HS2.out.bel.setCell (p := ⟨w.heap.size, 0, none⟩) (by simp only; omega) _).setCell (p := ⟨w.heap.size, 1, none⟩) (by simp only; omega) _).setCell (p := ⟨w.heap.size, 2, none⟩) (by simp only; omega) _).setCell (p := ⟨w.heap.size, 3, none⟩) (by simp only; omega) _).setCell (p := ⟨w.heap.size, 4, none⟩) (by simp only; omega) _)
        · have HK : Hid (∀ j, j < k + 1 → 0 ≤ l.getD j 0 ∧ l.getD j 0 ≤ 40) := fun j hj => by
            by_cases e : j = k
            · subst e; rw [← HX.out]; omega
            · exact HJ.out j (by omega)
          have cb := HS2.out.b.cell k (by omega)
          have fb := HS2.out.b.frozenAt k
          have HN2 : Hid (K2 w (wr.setCell ⟨w.heap.size + 1, k, none⟩ (.int .i64 x)) (fun _ => 0) (rdK l (k + 1))) := hide
            ⟨HS2.out.a.keep k _ (by omega), (HS2.out.b.set k x).congr (fun i _ => by rw [HX.out]; exact rdK_succ l k i), HS2.out.bel.setCell (p := ⟨w.heap.size + 1, k, none⟩) (by simp only; omega) _⟩
          go_wp2
          go_roundw
          case rel => exact ⟨k + 1, by omega, by go_num, HK.out, HN2⟩
          case measure => simp [intOf]; omega
    · exact absurd ⟨by rw [HN.out]; omega, by rw [HN.out]; omega, fun j hj => HJ.out j (by rw [HN.out] at hj; omega)⟩ HB.out
set_option maxRecDepth 100000 in
set_option maxHeartbeats 4000000 in
theorem readClock_yes (a : Option Addr) (l : List Int) (n cap : Nat) (w : World) (hn : l.length = n) (hs : Sl w a l) (hb : OkC l) :
    Calls Try.prog 89 #[.slice a n cap] w fun e w' => e = .returned (.tuple #[cv (fnL l), .bool true]) ∧ Below w.heap.size w w' := by
  have h1 : ¬ (n : Int) < 1 := by have := hb.1; omega
  have h5 : ¬ 5 < (n : Int) := by have := hb.2.1; omega
  have HB := hide hb
  have HS := hide hs
  have HN := hide hn
  clear hs hn hb
  go_enter Try.func89, Try.ntmps89
  go_upto_region 2 with fail
  obtain ⟨W, hW⟩ : ∃ W, (w.alloc (.cells #[.int .i64 0, .int .i64 0, .int .i64 0, .int .i64 0, .int .i64 0] 112)).alloc (.cells #[.int .i64 0, .int .i64 0, .int .i64 0, .int .i64 0, .int .i64 0] 112) = W := ⟨_, rfl⟩
  have H0 : Hid (K2 w W (fun _ => 0) (fun _ => 0)) := by
    rw [← hW]
    exact hide ⟨(clk_zero w _ _ rfl (Nat.le_refl _)).alloc _, clk_zero _ _ _ (by simp) (by omega), ((Below.refl _ _).alloc (Nat.le_refl _) _).alloc (by simp) _⟩
  rw [hW]
  clear hW
  go_wp2
  go_loopw [18] (fun i wr => ∃ k : Nat, k ≤ n ∧ i = .int .i64 k ∧ Hid (K2 w wr (fun _ => 0) (rdK l k))) (fun i _ => n - (intOf i).toNat)
  case atStart => exact ⟨0, Nat.zero_le _, rfl, H0⟩
  case round =>
    obtain ⟨k, hk, rfl, HS2⟩ := hrel
    by_cases hlt : k < n
    · obtain ⟨b, off, rfl, hc0⟩ := HS.out k (by rw [HN.out]; exact hlt)
      have hc := (HS2.out.bel.cell (p := ⟨b, off + k, none⟩) (blk_lt hc0)).trans hc0
      have hltI : (k : Int) < (n : Int) := by omega
      have hk5 : (k : Int) < 5 := by omega
      have hk0 : (0 : Int) ≤ (k : Int) := by omega
      have hxb := HB.out.2.2 k (by rw [HN.out]; exact hlt)
      obtain ⟨x, hx⟩ : ∃ x, x = l.getD k 0 := ⟨_, rfl⟩
      rw [← hx] at hc hxb
      have HX := hide hx
      have hx0 : ¬ x < 0 := by omega
      have hx1 : ¬ 40 < x := by omega
      clear hc0 hx hxb
      have cb := HS2.out.b.cell k (by omega)
      have fb := HS2.out.b.frozenAt k
      have HN2 : Hid (K2 w (wr.setCell ⟨w.heap.size + 1, k, none⟩ (.int .i64 x)) (fun _ => 0) (rdK l (k + 1))) := hide
        ⟨HS2.out.a.keep k _ (by omega), (HS2.out.b.set k x).congr (fun i _ => by rw [HX.out]; exact rdK_succ l k i), HS2.out.bel.setCell (p := ⟨w.heap.size + 1, k, none⟩) (by simp only; omega) _⟩
      go_wp2
      go_roundw
      case rel => exact ⟨k + 1, by omega, by go_num, HN2⟩
      case measure => simp [intOf]; omega
    · obtain rfl : k = n := by omega
      have hltI : ¬ (k : Int) < (k : Int) := by omega
      have H5 : Hid (K2 w wr (fun _ => 0) (fnL l)) := hide ⟨HS2.out.a, HS2.out.b.congr (fun i _ => by rw [← rdK_all, HN.out]), HS2.out.bel⟩
      clear HS2
      have e0 := H5.out.b.cell 0 (by omega)
      have r0 := H5.out.a.cell 0 (by omega)
      have f0 := H5.out.a.frozenAt 0
      have e1 := H5.out.b.cell 1 (by omega)
      have r1 := H5.out.a.cell 1 (by omega)
      have f1 := H5.out.a.frozenAt 1
      have e2 := H5.out.b.cell 2 (by omega)
      have r2 := H5.out.a.cell 2 (by omega)
      have f2 := H5.out.a.frozenAt 2
      have e3 := H5.out.b.cell 3 (by omega)
      have r3 := H5.out.a.cell 3 (by omega)
      have f3 := H5.out.a.frozenAt 3
      have e4 := H5.out.b.cell 4 (by omega)
      have r4 := H5.out.a.cell 4 (by omega)
      have f4 := H5.out.a.frozenAt 4
      go_wp2
      refine bodyPost_ret (v := .tuple #[cv (fnL l), .bool true]) (by simp [results, Try.f89, go_sem, *]) rfl ⟨rfl, ?_⟩
      exact (((((H5.out.bel.setCell (p := ⟨w.heap.size, 0, none⟩) (by simp only; omega) _).setCell (p := ⟨w.heap.size, 1, none⟩) (by simp only; omega) _).setCell (p := ⟨w.heap.size, 2, none⟩) (by simp only; omega) _).setCell (p := ⟨w.heap.size, 3, none⟩) (by simp only; omega) _).setCell (p := ⟨w.heap.size, 4, none⟩) (by simp only; omega) _)
end Go.Proofs.Ytkfnejiiancmhad.L11

namespace Go.Proofs.Ytkfnejiiancmhad.L11
open Go.RowKit L1 Own
set_option linter.unusedVariables false

/-- The first numbers of a clock. -/
def clL (E : Nat → Int) (N : Nat) : List Int := (List.range N).map E
theorem clL_len (E : Nat → Int) (N : Nat) : (clL E N).length = N := by simp [clL]
theorem clL_lA (E : Nat → Int) (N : Nat) : (clL E N).map (Value.int .i64) = lA N E := by simp [clL, lA]
theorem addr_add11 (g j : Nat) : (⟨g, 0, none⟩ : Addr).add j = ⟨g, j, none⟩ := by rw [addr_add]
set_option maxRecDepth 100000 in
set_option maxHeartbeats 4000000 in
theorem clockList_any (E : Nat → Int) (N : Nat) (h1 : 1 ≤ N) (h5 : N ≤ 5) (w : World) :
    Calls Try.prog 80 #[cv E, .int .i64 N] w fun e w' => ∃ v, e = .returned v ∧ w'.ownsRow w.heap.size 3 1 v N ((clL E N).map (Value.int .i64)) ∧ Below w.heap.size w w' := by
  obtain ⟨i1, hi1, hy0, hy1, hy2⟩ := info_parts info_int
  have h1I : (1 : Int) ≤ (N : Int) := by omega
  have h5I : (N : Int) ≤ 5 := by omega
  go_enter Try.func80, Try.ntmps80
  go_upto_region 1 with fail
  obtain ⟨W, hW⟩ : ∃ W, w.alloc (.cells #[.int .i64 (E 0), .int .i64 (E 1), .int .i64 (E 2), .int .i64 (E 3), .int .i64 (E 4)] 112) = W := ⟨_, rfl⟩
  have HC : Hid (Clk W w.heap.size w.heap.size E) := by rw [← hW]; exact hide (clk_new w _ _ rfl (Nat.le_refl _) E)
  have HB : Hid (Below w.heap.size w W) := by rw [← hW]; exact hide ((Below.refl _ _).alloc (Nat.le_refl _) _)
  rw [hW]
  clear hW
  have hsz := HB.out.size
  have hnews : ∀ j u, ((clL E N).map (Value.int .i64))[j]? = some u → W.cell? ((⟨w.heap.size, 0, none⟩ : Addr).add j) = some u := fun j u h => by
    rw [clL_lA] at h
    have hj : j < N := by
      by_cases h2 : j < N
      · exact h2
      · rw [List.getElem?_eq_none (by simp [lA]; omega)] at h; cases h
    rw [lA_get N E j hj] at h
    cases h
    rw [addr_add11]
    exact HC.out.cell j (by omega)
  have HNW := hide hnews
  clear hnews
  go_wp2_with (first
    | (at_builtin; refine wpList_append_own_at _ rfl _ _ 27 rfl w.heap.size 3 i1 (.int .i64 0) 1 8 Try.underlying27 hi1 hy0 hy1 hy2 rfl (by decide) _ _ _ rfl (World.ownsRow_nil _ _ _ _) ⟨w.heap.size, 0, none⟩ N 5 ((clL E N).map (Value.int .i64)) rfl (by simp [clL_len]) HNW.out (by intro u hu; simp at hu; obtain ⟨q, _, rfl⟩ := hu; rfl) (by unfold maxLen; omega) (by omega) hsz ?_)
    | go_in)
  intro v6 w6 hown6 hgrow6 _ _
  have hb6 : Below w.heap.size w w6 := HB.out.grown hgrow6 hsz (fun g hg => by cases hg)
  have HO := hide hown6
  clear hown6 hgrow6
  go_wp2
  go_ret
  exact ⟨v6, rfl, by simpa using HO.out, hb6⟩
theorem readClock_any (a : Option Addr) (l : List Int) (n cap : Nat) (w : World) (hn : l.length = n) (hs : Sl w a l) (hn2 : n ≤ 1048576) (b : Bool) (hb : b = true ↔ OkC l) (X : Nat → Int) (hX : X = if b then fnL l else fun _ => 0) :
    Calls Try.prog 89 #[.slice a n cap] w fun e w' => e = .returned (.tuple #[cv X, .bool b]) ∧ Below w.heap.size w w' := by
  cases b with
  | true => subst hX; exact readClock_yes a l n cap w hn hs (hb.1 rfl)
  | false => subst hX; exact readClock_no a l n cap w hn hs hn2 (fun h => by have := hb.2 h; cases this)
set_option maxRecDepth 100000 in
set_option maxHeartbeats 4000000 in
theorem readClocks_any (a b : Option Addr) (l m : List Int) (n k ca cb : Nat) (w : World) (hn : l.length = n) (hk : m.length = k) (ha : Sl w a l) (hb : Sl w b m) (hn2 : n ≤ 1048576) (hk2 : k ≤ 1048576)
    (ba : Bool) (hba : ba = true ↔ OkC l) (X : Nat → Int) (hX : X = if ba then fnL l else fun _ => 0) (bb : Bool) (hbb : bb = true ↔ OkC m) (Y : Nat → Int) (hY : Y = if bb then fnL m else fun _ => 0) (c : Bool) (hc : c = true ↔ (OkC l ∧ OkC m) ∧ n = k) :
    Calls Try.prog 84 #[.slice a n ca, .slice b k cb] w fun e w' => e = .returned (.tuple #[cv X, cv Y, .bool c]) ∧ Below w.heap.size w w' := by
  have CA := hide (fun w hs => readClock_any a l n ca w hn hs hn2 ba hba X hX)
  have CB := hide (fun w hs => readClock_any b m k cb w hk hs hk2 bb hbb Y hY)
  have HA := hide ha
  have HBB := hide hb
  have hc2 : c = true ↔ (ba = true ∧ bb = true) ∧ n = k := by rw [hba, hbb]; exact hc
  have HC := hide hc2
  clear hn hk ha hb hba hbb hX hY hc hc2
  cases ba with
  | false =>
    obtain rfl : c = false := by cases c with
      | false => rfl
      | true => exact absurd (HC.out.1 rfl).1.1 (by simp)
    clear HC
    go_enter Try.func84, Try.ntmps84
    go_upto_region 1 with fail
    obtain ⟨W, hW⟩ : ∃ W, (w.alloc (.cells #[.int .i64 0, .int .i64 0, .int .i64 0, .int .i64 0, .int .i64 0] 112)).alloc (.cells #[.int .i64 0, .int .i64 0, .int .i64 0, .int .i64 0, .int .i64 0] 112) = W := ⟨_, rfl⟩
    have H0 : Hid (K2 w W (fun _ => 0) (fun _ => 0)) := by
      rw [← hW]
      exact hide ⟨(clk_zero w _ _ rfl (Nat.le_refl _)).alloc _, clk_zero _ _ _ (by simp) (by omega), ((Below.refl _ _).alloc (Nat.le_refl _) _).alloc (by simp) _⟩
    rw [hW]
    clear hW
    go_wp2_with fail
    refine (CA.out _ (HA.out.below H0.out.bel)).mono ?_
    rintro e w1 ⟨rfl, hb1⟩
    have H1 : Hid (K2 w w1 (fun _ => 0) (fun _ => 0)) := hide ⟨H0.out.a.below hb1, H0.out.b.below hb1, H0.out.bel.trans (hb1.mono H0.out.bel.size)⟩
    clear hb1 H0
    go_upto_region 2 with fail
    obtain ⟨W1, hW1⟩ : ∃ W1, w1.alloc (.cells #[.int .i64 (X 0), .int .i64 (X 1), .int .i64 (X 2), .int .i64 (X 3), .int .i64 (X 4)] 112) = W1 := ⟨_, rfl⟩
    have hbw1 : Below w1.heap.size w1 W1 := by rw [← hW1]; exact (Below.refl _ _).alloc (Nat.le_refl _) _
    have HX1 : Hid (Clk W1 w.heap.size w1.heap.size X) := by rw [← hW1]; exact hide (clk_new w1 _ _ rfl H1.out.bel.size X)
    have H2 : Hid (K2 w W1 (fun _ => 0) (fun _ => 0)) := hide ⟨H1.out.a.below hbw1, H1.out.b.below hbw1, H1.out.bel.trans (hbw1.mono H1.out.bel.size)⟩
    rw [hW1]
    obtain ⟨gx, hgx⟩ : ∃ gx, gx = w1.heap.size := ⟨_, rfl⟩
    rw [← hgx] at HX1 ⊢
    have hgx1 : w.heap.size + 1 < gx := by rw [hgx]; exact H1.out.b.lt
    clear hW1 hbw1 H1 hgx
    go_wp2_with fail
    refine (CB.out _ (HBB.out.below H2.out.bel)).mono ?_
    rintro e w2 ⟨rfl, hb2⟩
    have H3 : Hid (K2 w w2 (fun _ => 0) (fun _ => 0)) := hide ⟨H2.out.a.below hb2, H2.out.b.below hb2, H2.out.bel.trans (hb2.mono H2.out.bel.size)⟩
    have HX2 := hide (HX1.out.below hb2)
    clear hb2 H2 HX1
    go_upto_region 3 with fail
    obtain ⟨W2, hW2⟩ : ∃ W2, w2.alloc (.cells #[.int .i64 (Y 0), .int .i64 (Y 1), .int .i64 (Y 2), .int .i64 (Y 3), .int .i64 (Y 4)] 112) = W2 := ⟨_, rfl⟩
    have hbw2 : Below w2.heap.size w2 W2 := by rw [← hW2]; exact (Below.refl _ _).alloc (Nat.le_refl _) _
    have HY3 : Hid (Clk W2 w.heap.size w2.heap.size Y) := by rw [← hW2]; exact hide (clk_new w2 _ _ rfl H3.out.bel.size Y)
    have H4 : Hid (K2 w W2 (fun _ => 0) (fun _ => 0)) := hide ⟨H3.out.a.below hbw2, H3.out.b.below hbw2, H3.out.bel.trans (hbw2.mono H3.out.bel.size)⟩
    have HX3 := hide (HX2.out.below hbw2)
    rw [hW2]
    obtain ⟨gy, hgy⟩ : ∃ gy, gy = w2.heap.size := ⟨_, rfl⟩
    rw [← hgy] at HY3 ⊢
    have hgy1 : w.heap.size + 1 < gy := by rw [hgy]; exact H3.out.b.lt
    clear hW2 hbw2 H3 HX2 hgy
    have x0 := HX3.out.cell 0 (by omega)
    have y0 := HY3.out.cell 0 (by omega)
    have r0 := H4.out.a.cell 0 (by omega)
    have f0 := H4.out.a.frozenAt 0
    have q0 := H4.out.b.cell 0 (by omega)
    have p0 := H4.out.b.frozenAt 0
    have x1 := HX3.out.cell 1 (by omega)
    have y1 := HY3.out.cell 1 (by omega)
    have r1 := H4.out.a.cell 1 (by omega)
    have f1 := H4.out.a.frozenAt 1
    have q1 := H4.out.b.cell 1 (by omega)
    have p1 := H4.out.b.frozenAt 1
    have x2 := HX3.out.cell 2 (by omega)
    have y2 := HY3.out.cell 2 (by omega)
    have r2 := H4.out.a.cell 2 (by omega)
    have f2 := H4.out.a.frozenAt 2
    have q2 := H4.out.b.cell 2 (by omega)
    have p2 := H4.out.b.frozenAt 2
    have x3 := HX3.out.cell 3 (by omega)
    have y3 := HY3.out.cell 3 (by omega)
    have r3 := H4.out.a.cell 3 (by omega)
    have f3 := H4.out.a.frozenAt 3
    have q3 := H4.out.b.cell 3 (by omega)
    have p3 := H4.out.b.frozenAt 3
    have x4 := HX3.out.cell 4 (by omega)
    have y4 := HY3.out.cell 4 (by omega)
    have r4 := H4.out.a.cell 4 (by omega)
    have f4 := H4.out.a.frozenAt 4
    have q4 := H4.out.b.cell 4 (by omega)
    have p4 := H4.out.b.frozenAt 4
    have hne1 : ¬ gx = w.heap.size := by omega
    have hne2 : ¬ gy = w.heap.size := by omega
    have hne3 : ¬ gx = w.heap.size + 1 := by omega
    have hne4 : ¬ gy = w.heap.size + 1 := by omega
    clear hgx1 hgy1 HX3 HY3
    go_region
    go_wp2
    refine bodyPost_ret (v := .tuple #[cv X, cv Y, .bool false]) (by simp [results, Try.f84, go_sem, *]) rfl ⟨rfl, ?_⟩
    exact ((((((((((H4.out.bel.setCell (p := ⟨w.heap.size, 0, none⟩) (by simp only; omega) _).setCell (p := ⟨w.heap.size, 1, none⟩) (by simp only; omega) _).setCell (p := ⟨w.heap.size, 2, none⟩) (by simp only; omega) _).setCell (p := ⟨w.heap.size, 3, none⟩) (by simp only; omega) _).setCell (p := ⟨w.heap.size, 4, none⟩) (by simp only; omega) _).setCell (p := ⟨w.heap.size + 1, 0, none⟩) (by simp only; omega) _).setCell (p := ⟨w.heap.size + 1, 1, none⟩) (by simp only; omega) _).setCell (p := ⟨w.heap.size + 1, 2, none⟩) (by simp only; omega) _).setCell (p := ⟨w.heap.size + 1, 3, none⟩) (by simp only; omega) _).setCell (p := ⟨w.heap.size + 1, 4, none⟩) (by simp only; omega) _).drew
  | true =>
    cases bb with
    | false =>
      obtain rfl : c = false := by cases c with
        | false => rfl
        | true => exact absurd (HC.out.1 rfl).1.2 (by simp)
      clear HC
      go_enter Try.func84, Try.ntmps84
      go_upto_region 1 with fail
      obtain ⟨W, hW⟩ : ∃ W, (w.alloc (.cells #[.int .i64 0, .int .i64 0, .int .i64 0, .int .i64 0, .int .i64 0] 112)).alloc (.cells #[.int .i64 0, .int .i64 0, .int .i64 0, .int .i64 0, .int .i64 0] 112) = W := ⟨_, rfl⟩
      have H0 : Hid (K2 w W (fun _ => 0) (fun _ => 0)) := by
        rw [← hW]
        exact hide ⟨(clk_zero w _ _ rfl (Nat.le_refl _)).alloc _, clk_zero _ _ _ (by simp) (by omega), ((Below.refl _ _).alloc (Nat.le_refl _) _).alloc (by simp) _⟩
      rw [hW]
      clear hW
      go_wp2_with fail
      refine (CA.out _ (HA.out.below H0.out.bel)).mono ?_
      rintro e w1 ⟨rfl, hb1⟩
      have H1 : Hid (K2 w w1 (fun _ => 0) (fun _ => 0)) := hide ⟨H0.out.a.below hb1, H0.out.b.below hb1, H0.out.bel.trans (hb1.mono H0.out.bel.size)⟩
      clear hb1 H0
      go_upto_region 2 with fail
      obtain ⟨W1, hW1⟩ : ∃ W1, w1.alloc (.cells #[.int .i64 (X 0), .int .i64 (X 1), .int .i64 (X 2), .int .i64 (X 3), .int .i64 (X 4)] 112) = W1 := ⟨_, rfl⟩
      have hbw1 : Below w1.heap.size w1 W1 := by rw [← hW1]; exact (Below.refl _ _).alloc (Nat.le_refl _) _
      have HX1 : Hid (Clk W1 w.heap.size w1.heap.size X) := by rw [← hW1]; exact hide (clk_new w1 _ _ rfl H1.out.bel.size X)
      have H2 : Hid (K2 w W1 (fun _ => 0) (fun _ => 0)) := hide ⟨H1.out.a.below hbw1, H1.out.b.below hbw1, H1.out.bel.trans (hbw1.mono H1.out.bel.size)⟩
      rw [hW1]
      obtain ⟨gx, hgx⟩ : ∃ gx, gx = w1.heap.size := ⟨_, rfl⟩
      rw [← hgx] at HX1 ⊢
      have hgx1 : w.heap.size + 1 < gx := by rw [hgx]; exact H1.out.b.lt
      clear hW1 hbw1 H1 hgx
      go_wp2_with fail
      refine (CB.out _ (HBB.out.below H2.out.bel)).mono ?_
      rintro e w2 ⟨rfl, hb2⟩
      have H3 : Hid (K2 w w2 (fun _ => 0) (fun _ => 0)) := hide ⟨H2.out.a.below hb2, H2.out.b.below hb2, H2.out.bel.trans (hb2.mono H2.out.bel.size)⟩
      have HX2 := hide (HX1.out.below hb2)
      clear hb2 H2 HX1
      go_upto_region 3 with fail
      obtain ⟨W2, hW2⟩ : ∃ W2, w2.alloc (.cells #[.int .i64 (Y 0), .int .i64 (Y 1), .int .i64 (Y 2), .int .i64 (Y 3), .int .i64 (Y 4)] 112) = W2 := ⟨_, rfl⟩
      have hbw2 : Below w2.heap.size w2 W2 := by rw [← hW2]; exact (Below.refl _ _).alloc (Nat.le_refl _) _
      have HY3 : Hid (Clk W2 w.heap.size w2.heap.size Y) := by rw [← hW2]; exact hide (clk_new w2 _ _ rfl H3.out.bel.size Y)
      have H4 : Hid (K2 w W2 (fun _ => 0) (fun _ => 0)) := hide ⟨H3.out.a.below hbw2, H3.out.b.below hbw2, H3.out.bel.trans (hbw2.mono H3.out.bel.size)⟩
      have HX3 := hide (HX2.out.below hbw2)
      rw [hW2]
      obtain ⟨gy, hgy⟩ : ∃ gy, gy = w2.heap.size := ⟨_, rfl⟩
      rw [← hgy] at HY3 ⊢
      have hgy1 : w.heap.size + 1 < gy := by rw [hgy]; exact H3.out.b.lt
      clear hW2 hbw2 H3 HX2 hgy
      have x0 := HX3.out.cell 0 (by omega)
      have y0 := HY3.out.cell 0 (by omega)
      have r0 := H4.out.a.cell 0 (by omega)
      have f0 := H4.out.a.frozenAt 0
      have q0 := H4.out.b.cell 0 (by omega)
      have p0 := H4.out.b.frozenAt 0
      have x1 := HX3.out.cell 1 (by omega)
      have y1 := HY3.out.cell 1 (by omega)
      have r1 := H4.out.a.cell 1 (by omega)
      have f1 := H4.out.a.frozenAt 1
      have q1 := H4.out.b.cell 1 (by omega)
      have p1 := H4.out.b.frozenAt 1
      have x2 := HX3.out.cell 2 (by omega)
      have y2 := HY3.out.cell 2 (by omega)
      have r2 := H4.out.a.cell 2 (by omega)
      have f2 := H4.out.a.frozenAt 2
      have q2 := H4.out.b.cell 2 (by omega)
      have p2 := H4.out.b.frozenAt 2
      have x3 := HX3.out.cell 3 (by omega)
      have y3 := HY3.out.cell 3 (by omega)
      have r3 := H4.out.a.cell 3 (by omega)
      have f3 := H4.out.a.frozenAt 3
      have q3 := H4.out.b.cell 3 (by omega)
      have p3 := H4.out.b.frozenAt 3
      have x4 := HX3.out.cell 4 (by omega)
      have y4 := HY3.out.cell 4 (by omega)
      have r4 := H4.out.a.cell 4 (by omega)
      have f4 := H4.out.a.frozenAt 4
      have q4 := H4.out.b.cell 4 (by omega)
      have p4 := H4.out.b.frozenAt 4
      have hne1 : ¬ gx = w.heap.size := by omega
      have hne2 : ¬ gy = w.heap.size := by omega
      have hne3 : ¬ gx = w.heap.size + 1 := by omega
      have hne4 : ¬ gy = w.heap.size + 1 := by omega
      clear hgx1 hgy1 HX3 HY3
      go_region
      go_wp2
      refine bodyPost_ret (v := .tuple #[cv X, cv Y, .bool false]) (by simp [results, Try.f84, go_sem, *]) rfl ⟨rfl, ?_⟩
      exact ((((((((((H4.out.bel.setCell (p := ⟨w.heap.size, 0, none⟩) (by simp only; omega) _).setCell (p := ⟨w.heap.size, 1, none⟩) (by simp only; omega) _).setCell (p := ⟨w.heap.size, 2, none⟩) (by simp only; omega) _).setCell (p := ⟨w.heap.size, 3, none⟩) (by simp only; omega) _).setCell (p := ⟨w.heap.size, 4, none⟩) (by simp only; omega) _).setCell (p := ⟨w.heap.size + 1, 0, none⟩) (by simp only; omega) _).setCell (p := ⟨w.heap.size + 1, 1, none⟩) (by simp only; omega) _).setCell (p := ⟨w.heap.size + 1, 2, none⟩) (by simp only; omega) _).setCell (p := ⟨w.heap.size + 1, 3, none⟩) (by simp only; omega) _).setCell (p := ⟨w.heap.size + 1, 4, none⟩) (by simp only; omega) _).drew
    | true =>
      by_cases hnk : n = k
      · obtain rfl : c = true := HC.out.2 ⟨⟨rfl, rfl⟩, hnk⟩
        subst hnk
        clear HC
        go_enter Try.func84, Try.ntmps84
        go_upto_region 1 with fail
        obtain ⟨W, hW⟩ : ∃ W, (w.alloc (.cells #[.int .i64 0, .int .i64 0, .int .i64 0, .int .i64 0, .int .i64 0] 112)).alloc (.cells #[.int .i64 0, .int .i64 0, .int .i64 0, .int .i64 0, .int .i64 0] 112) = W := ⟨_, rfl⟩
        have H0 : Hid (K2 w W (fun _ => 0) (fun _ => 0)) := by
          rw [← hW]
          exact hide ⟨(clk_zero w _ _ rfl (Nat.le_refl _)).alloc _, clk_zero _ _ _ (by simp) (by omega), ((Below.refl _ _).alloc (Nat.le_refl _) _).alloc (by simp) _⟩
        rw [hW]
        clear hW
        go_wp2_with fail
        refine (CA.out _ (HA.out.below H0.out.bel)).mono ?_
        rintro e w1 ⟨rfl, hb1⟩
        have H1 : Hid (K2 w w1 (fun _ => 0) (fun _ => 0)) := hide ⟨H0.out.a.below hb1, H0.out.b.below hb1, H0.out.bel.trans (hb1.mono H0.out.bel.size)⟩
        clear hb1 H0
        go_upto_region 2 with fail
        obtain ⟨W1, hW1⟩ : ∃ W1, w1.alloc (.cells #[.int .i64 (X 0), .int .i64 (X 1), .int .i64 (X 2), .int .i64 (X 3), .int .i64 (X 4)] 112) = W1 := ⟨_, rfl⟩
        have hbw1 : Below w1.heap.size w1 W1 := by rw [← hW1]; exact (Below.refl _ _).alloc (Nat.le_refl _) _
        have HX1 : Hid (Clk W1 w.heap.size w1.heap.size X) := by rw [← hW1]; exact hide (clk_new w1 _ _ rfl H1.out.bel.size X)
        have H2 : Hid (K2 w W1 (fun _ => 0) (fun _ => 0)) := hide ⟨H1.out.a.below hbw1, H1.out.b.below hbw1, H1.out.bel.trans (hbw1.mono H1.out.bel.size)⟩
        rw [hW1]
        obtain ⟨gx, hgx⟩ : ∃ gx, gx = w1.heap.size := ⟨_, rfl⟩
        rw [← hgx] at HX1 ⊢
        have hgx1 : w.heap.size + 1 < gx := by rw [hgx]; exact H1.out.b.lt
        clear hW1 hbw1 H1 hgx
        go_wp2_with fail
        refine (CB.out _ (HBB.out.below H2.out.bel)).mono ?_
        rintro e w2 ⟨rfl, hb2⟩
        have H3 : Hid (K2 w w2 (fun _ => 0) (fun _ => 0)) := hide ⟨H2.out.a.below hb2, H2.out.b.below hb2, H2.out.bel.trans (hb2.mono H2.out.bel.size)⟩
        have HX2 := hide (HX1.out.below hb2)
        clear hb2 H2 HX1
        go_upto_region 3 with fail
        obtain ⟨W2, hW2⟩ : ∃ W2, w2.alloc (.cells #[.int .i64 (Y 0), .int .i64 (Y 1), .int .i64 (Y 2), .int .i64 (Y 3), .int .i64 (Y 4)] 112) = W2 := ⟨_, rfl⟩
        have hbw2 : Below w2.heap.size w2 W2 := by rw [← hW2]; exact (Below.refl _ _).alloc (Nat.le_refl _) _
        have HY3 : Hid (Clk W2 w.heap.size w2.heap.size Y) := by rw [← hW2]; exact hide (clk_new w2 _ _ rfl H3.out.bel.size Y)
        have H4 : Hid (K2 w W2 (fun _ => 0) (fun _ => 0)) := hide ⟨H3.out.a.below hbw2, H3.out.b.below hbw2, H3.out.bel.trans (hbw2.mono H3.out.bel.size)⟩
        have HX3 := hide (HX2.out.below hbw2)
        rw [hW2]
        obtain ⟨gy, hgy⟩ : ∃ gy, gy = w2.heap.size := ⟨_, rfl⟩
        rw [← hgy] at HY3 ⊢
        have hgy1 : w.heap.size + 1 < gy := by rw [hgy]; exact H3.out.b.lt
        clear hW2 hbw2 H3 HX2 hgy
        have x0 := HX3.out.cell 0 (by omega)
        have y0 := HY3.out.cell 0 (by omega)
        have r0 := H4.out.a.cell 0 (by omega)
        have f0 := H4.out.a.frozenAt 0
        have q0 := H4.out.b.cell 0 (by omega)
        have p0 := H4.out.b.frozenAt 0
        have x1 := HX3.out.cell 1 (by omega)
        have y1 := HY3.out.cell 1 (by omega)
        have r1 := H4.out.a.cell 1 (by omega)
        have f1 := H4.out.a.frozenAt 1
        have q1 := H4.out.b.cell 1 (by omega)
        have p1 := H4.out.b.frozenAt 1
        have x2 := HX3.out.cell 2 (by omega)
        have y2 := HY3.out.cell 2 (by omega)
        have r2 := H4.out.a.cell 2 (by omega)
        have f2 := H4.out.a.frozenAt 2
        have q2 := H4.out.b.cell 2 (by omega)
        have p2 := H4.out.b.frozenAt 2
        have x3 := HX3.out.cell 3 (by omega)
        have y3 := HY3.out.cell 3 (by omega)
        have r3 := H4.out.a.cell 3 (by omega)
        have f3 := H4.out.a.frozenAt 3
        have q3 := H4.out.b.cell 3 (by omega)
        have p3 := H4.out.b.frozenAt 3
        have x4 := HX3.out.cell 4 (by omega)
        have y4 := HY3.out.cell 4 (by omega)
        have r4 := H4.out.a.cell 4 (by omega)
        have f4 := H4.out.a.frozenAt 4
        have q4 := H4.out.b.cell 4 (by omega)
        have p4 := H4.out.b.frozenAt 4
        have hne1 : ¬ gx = w.heap.size := by omega
        have hne2 : ¬ gy = w.heap.size := by omega
        have hne3 : ¬ gx = w.heap.size + 1 := by omega
        have hne4 : ¬ gy = w.heap.size + 1 := by omega
        clear hgx1 hgy1 HX3 HY3
        go_region
        go_wp2
        refine bodyPost_ret (v := .tuple #[cv X, cv Y, .bool true]) (by simp [results, Try.f84, go_sem, *]) rfl ⟨rfl, ?_⟩
        exact ((((((((((H4.out.bel.setCell (p := ⟨w.heap.size, 0, none⟩) (by simp only; omega) _).setCell (p := ⟨w.heap.size, 1, none⟩) (by simp only; omega) _).setCell (p := ⟨w.heap.size, 2, none⟩) (by simp only; omega) _).setCell (p := ⟨w.heap.size, 3, none⟩) (by simp only; omega) _).setCell (p := ⟨w.heap.size, 4, none⟩) (by simp only; omega) _).setCell (p := ⟨w.heap.size + 1, 0, none⟩) (by simp only; omega) _).setCell (p := ⟨w.heap.size + 1, 1, none⟩) (by simp only; omega) _).setCell (p := ⟨w.heap.size + 1, 2, none⟩) (by simp only; omega) _).setCell (p := ⟨w.heap.size + 1, 3, none⟩) (by simp only; omega) _).setCell (p := ⟨w.heap.size + 1, 4, none⟩) (by simp only; omega) _).drew
      · obtain rfl : c = false := by cases c with
          | false => rfl
          | true => exact absurd (HC.out.1 rfl).2 hnk
        have hnkI : ((n : Int) == (k : Int)) = false := by simp; omega
        clear HC hnk
        go_enter Try.func84, Try.ntmps84
        go_upto_region 1 with fail
        obtain ⟨W, hW⟩ : ∃ W, (w.alloc (.cells #[.int .i64 0, .int .i64 0, .int .i64 0, .int .i64 0, .int .i64 0] 112)).alloc (.cells #[.int .i64 0, .int .i64 0, .int .i64 0, .int .i64 0, .int .i64 0] 112) = W := ⟨_, rfl⟩
        have H0 : Hid (K2 w W (fun _ => 0) (fun _ => 0)) := by
          rw [← hW]
          exact hide ⟨(clk_zero w _ _ rfl (Nat.le_refl _)).alloc _, clk_zero _ _ _ (by simp) (by omega), ((Below.refl _ _).alloc (Nat.le_refl _) _).alloc (by simp) _⟩
        rw [hW]
        clear hW
        go_wp2_with fail
        refine (CA.out _ (HA.out.below H0.out.bel)).mono ?_
        rintro e w1 ⟨rfl, hb1⟩
        have H1 : Hid (K2 w w1 (fun _ => 0) (fun _ => 0)) := hide ⟨H0.out.a.below hb1, H0.out.b.below hb1, H0.out.bel.trans (hb1.mono H0.out.bel.size)⟩
        clear hb1 H0
        go_upto_region 2 with fail
        obtain ⟨W1, hW1⟩ : ∃ W1, w1.alloc (.cells #[.int .i64 (X 0), .int .i64 (X 1), .int .i64 (X 2), .int .i64 (X 3), .int .i64 (X 4)] 112) = W1 := ⟨_, rfl⟩
        have hbw1 : Below w1.heap.size w1 W1 := by rw [← hW1]; exact (Below.refl _ _).alloc (Nat.le_refl _) _
        have HX1 : Hid (Clk W1 w.heap.size w1.heap.size X) := by rw [← hW1]; exact hide (clk_new w1 _ _ rfl H1.out.bel.size X)
        have H2 : Hid (K2 w W1 (fun _ => 0) (fun _ => 0)) := hide ⟨H1.out.a.below hbw1, H1.out.b.below hbw1, H1.out.bel.trans (hbw1.mono H1.out.bel.size)⟩
        rw [hW1]
        obtain ⟨gx, hgx⟩ : ∃ gx, gx = w1.heap.size := ⟨_, rfl⟩
        rw [← hgx] at HX1 ⊢
        have hgx1 : w.heap.size + 1 < gx := by rw [hgx]; exact H1.out.b.lt
        clear hW1 hbw1 H1 hgx
        go_wp2_with fail
        refine (CB.out _ (HBB.out.below H2.out.bel)).mono ?_
        rintro e w2 ⟨rfl, hb2⟩
        have H3 : Hid (K2 w w2 (fun _ => 0) (fun _ => 0)) := hide ⟨H2.out.a.below hb2, H2.out.b.below hb2, H2.out.bel.trans (hb2.mono H2.out.bel.size)⟩
        have HX2 := hide (HX1.out.below hb2)
        clear hb2 H2 HX1
        go_upto_region 3 with fail
        obtain ⟨W2, hW2⟩ : ∃ W2, w2.alloc (.cells #[.int .i64 (Y 0), .int .i64 (Y 1), .int .i64 (Y 2), .int .i64 (Y 3), .int .i64 (Y 4)] 112) = W2 := ⟨_, rfl⟩
        have hbw2 : Below w2.heap.size w2 W2 := by rw [← hW2]; exact (Below.refl _ _).alloc (Nat.le_refl _) _
        have HY3 : Hid (Clk W2 w.heap.size w2.heap.size Y) := by rw [← hW2]; exact hide (clk_new w2 _ _ rfl H3.out.bel.size Y)
        have H4 : Hid (K2 w W2 (fun _ => 0) (fun _ => 0)) := hide ⟨H3.out.a.below hbw2, H3.out.b.below hbw2, H3.out.bel.trans (hbw2.mono H3.out.bel.size)⟩
        have HX3 := hide (HX2.out.below hbw2)
        rw [hW2]
        obtain ⟨gy, hgy⟩ : ∃ gy, gy = w2.heap.size := ⟨_, rfl⟩
        rw [← hgy] at HY3 ⊢
        have hgy1 : w.heap.size + 1 < gy := by rw [hgy]; exact H3.out.b.lt
        clear hW2 hbw2 H3 HX2 hgy
        have x0 := HX3.out.cell 0 (by omega)
        have y0 := HY3.out.cell 0 (by omega)
        have r0 := H4.out.a.cell 0 (by omega)
        have f0 := H4.out.a.frozenAt 0
        have q0 := H4.out.b.cell 0 (by omega)
        have p0 := H4.out.b.frozenAt 0
        have x1 := HX3.out.cell 1 (by omega)
        have y1 := HY3.out.cell 1 (by omega)
        have r1 := H4.out.a.cell 1 (by omega)
        have f1 := H4.out.a.frozenAt 1
        have q1 := H4.out.b.cell 1 (by omega)
        have p1 := H4.out.b.frozenAt 1
        have x2 := HX3.out.cell 2 (by omega)
        have y2 := HY3.out.cell 2 (by omega)
        have r2 := H4.out.a.cell 2 (by omega)
        have f2 := H4.out.a.frozenAt 2
        have q2 := H4.out.b.cell 2 (by omega)
        have p2 := H4.out.b.frozenAt 2
        have x3 := HX3.out.cell 3 (by omega)
        have y3 := HY3.out.cell 3 (by omega)
        have r3 := H4.out.a.cell 3 (by omega)
        have f3 := H4.out.a.frozenAt 3
        have q3 := H4.out.b.cell 3 (by omega)
        have p3 := H4.out.b.frozenAt 3
        have x4 := HX3.out.cell 4 (by omega)
        have y4 := HY3.out.cell 4 (by omega)
        have r4 := H4.out.a.cell 4 (by omega)
        have f4 := H4.out.a.frozenAt 4
        have q4 := H4.out.b.cell 4 (by omega)
        have p4 := H4.out.b.frozenAt 4
        have hne1 : ¬ gx = w.heap.size := by omega
        have hne2 : ¬ gy = w.heap.size := by omega
        have hne3 : ¬ gx = w.heap.size + 1 := by omega
        have hne4 : ¬ gy = w.heap.size + 1 := by omega
        clear hgx1 hgy1 HX3 HY3
        go_region
        go_wp2
        refine bodyPost_ret (v := .tuple #[cv X, cv Y, .bool false]) (by simp [results, Try.f84, go_sem, *]) rfl ⟨rfl, ?_⟩
        exact ((((((((((H4.out.bel.setCell (p := ⟨w.heap.size, 0, none⟩) (by simp only; omega) _).setCell (p := ⟨w.heap.size, 1, none⟩) (by simp only; omega) _).setCell (p := ⟨w.heap.size, 2, none⟩) (by simp only; omega) _).setCell (p := ⟨w.heap.size, 3, none⟩) (by simp only; omega) _).setCell (p := ⟨w.heap.size, 4, none⟩) (by simp only; omega) _).setCell (p := ⟨w.heap.size + 1, 0, none⟩) (by simp only; omega) _).setCell (p := ⟨w.heap.size + 1, 1, none⟩) (by simp only; omega) _).setCell (p := ⟨w.heap.size + 1, 2, none⟩) (by simp only; omega) _).setCell (p := ⟨w.heap.size + 1, 3, none⟩) (by simp only; omega) _).setCell (p := ⟨w.heap.size + 1, 4, none⟩) (by simp only; omega) _).drew
end Go.Proofs.Ytkfnejiiancmhad.L11
