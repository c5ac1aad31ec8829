/-
  Contract: impl.ClocksOf.
  Stamps of events in memory; contract: impl.StampsOf.
  Contract: spec.StampsOf.
  Lists that may be clocks. Nothing of the program's text is proved here.
  Contract: impl.LessClock.
  Contract: spec.l1All.
  Contract: spec.l11Clock.
  Contract: spec.l1Same.
-/
import Derived.Test.YtkfnejiiancmhadBundle4
import Derived.Test.YtkfnejiiancmhadBundle1
import Derived.Test.YtkfnejiiancmhadBundle3
import Derived.Deep.DeepCutAuto
import Derived.Maps.AppendAt
import Derived.Test.YtkfnejiiancmhadBundle2
import Derived.Deep.QuietTactic
import Derived.BigQuiet
namespace Go.Proofs.Ytkfnejiiancmhad.L11
open Go.RowKit L1 Own
set_option linter.unusedVariables false

theorem own_twoC {w : World} {B1 B2 n1 n2 : Nat} {v : Value} {g cap : Nat} {xs ys : List Value} (h1 : w.ownsRow B1 27 1 v n1 xs) (h2 : w.ownsRow B2 112 5 (.slice (some ⟨g, 0, none⟩) n2 cap) n2 ys) : (Value.slice (some ⟨g, 0, none⟩) n2 cap).ownBlock ≠ v.ownBlock := fun e => by
  rcases h1.2 with ⟨hv, _⟩ | ⟨q, cap1, cur, hv, _, hh, _⟩
  · rw [hv] at e; cases e
  · rw [hv] at e
    have e2 : g = q := by simpa [Value.ownBlock] using e
    rcases h2.2 with ⟨hv2, _⟩ | ⟨q2, cap2, cur2, hv2, _, hh2, _⟩
    · cases hv2
    · simp at hv2
      rw [← hv2.1, e2, hh] at hh2
      simp at hh2
set_option maxRecDepth 100000 in
set_option maxHeartbeats 4000000 in
theorem clocksOfI_any (N : Int) (a : Option Addr) (l : List (Int × Int)) (n cap : Nat) (w : World) (hn : l.length = n) (hs : Sl2 w a l) (hn2 : n ≤ 1048576) (b : Bool) (hb : b = true ↔ GoodV N l) (m : Nat) (hm : m = if b then n else 0) :
    Calls Try.prog 33 #[.int .i64 N, .slice a n cap] w fun e w' => RetS w b m N.toNat (cE l) e w' := by
  cases b with
  | false =>
    have CG := hide (fun w hs => goodEvents_any N a l n cap w hn hs hn2 false (by simpa using hb))
    have hm0 : m = 0 := hm
    subst hm0
    have HS := hide hs
    clear hb hm hs hn
    go_enter Try.func33, Try.ntmps33
    go_wp2_with fail
    refine (CG.out _ HS.out).mono ?_
    rintro e w1 ⟨rfl, hb1⟩
    have B1 := hide hb1
    clear hb1
    go_wp2
    go_ret2
    exact ⟨_, rfl, SW.nil _ _ _ _ _, B1.out⟩
  | true =>
    have hg := hb.1 rfl
    have CG := hide (fun w hs => goodEvents_any N a l n cap w hn hs hn2 true (by simp [hg]))
    have hmn : m = n := hm
    subst hmn
    obtain ⟨Nn, hNn⟩ : ∃ Nn : Nat, N = (Nn : Int) := ⟨N.toNat, by have := hg.1; omega⟩
    subst hNn
    have hNt : (Nn : Int).toNat = Nn := rfl
    rw [hNt]
    have h40 : m ≤ 40 := by have := hg.2.2.1; omega
    have CC := hide (fun w hs => clocksOf_any (Nn : Int) a l m cap w hn hs hg)
    have CLL := hide (fun E w => clockList_any E Nn (by have := hg.1; omega) (by have := hg.2.1; omega) w)
    obtain ⟨j1, hj1, hz0, hz1, hz2⟩ := info_parts info_sl11
    have HN1 : Hid (1 ≤ Nn) := hide (by have := hg.1; omega)
    have HS := hide hs
    clear hb hm hs hg hNt
    go_enter Try.func33, Try.ntmps33
    go_wp2_with fail
    refine (CG.out _ HS.out).mono ?_
    rintro e w1 ⟨rfl, hb1⟩
    have B1 := hide hb1
    clear hb1
    go_wp2_with fail
    refine (CC.out _ (HS.out.below B1.out)).mono ?_
    rintro e w2 ⟨v, rfl, ho, hb2⟩
    have B2 := hide (B1.out.trans (hb2.mono B1.out.size))
    obtain ⟨oa, ocap, rfl⟩ : ∃ oa ocap, v = .slice oa m ocap := by
      rcases ho.2 with ⟨hv, h0⟩ | ⟨q, cap, cur, hv, _⟩
      · subst h0; exact ⟨none, 0, hv⟩
      · exact ⟨_, cap, hv⟩
    have HO := hide ho
    clear ho hb2 CC CG B1
    go_wp2
    go_loopw [6, 16] (fun ot i wr => ∃ k : Nat, k ≤ m ∧ i = .int .i64 k ∧ Hid (SW wr w.heap.size wr.heap.size ot k Nn (cE l)) ∧ Hid (Below w.heap.size w wr) ∧ Hid (w2.ownsRow w1.heap.size 112 5 (.slice oa m ocap) m (flat5 (cE l) m) → wr.ownsRow w1.heap.size 112 5 (.slice oa m ocap) m (flat5 (cE l) m))) (fun _ i _ => m - (intOf i).toNat)
    case atStart => exact ⟨0, Nat.zero_le _, rfl, SW.nil _ _ _ _ _, B2, fun h => h⟩
    case round =>
      obtain ⟨k, hk, rfl, HW, HB, HKO⟩ := hrel
      obtain ⟨bs, cs, hV⟩ := HW.out
      obtain ⟨ta, tcap, hot⟩ := hV.form
      subst hot
      by_cases hlt : k < m
      · obtain ⟨oq, hoa⟩ : ∃ q, oa = some ⟨q, 0, none⟩ := by
          rcases HO.out.2 with ⟨hv, h0⟩ | ⟨q, cap, cur, hv, _⟩
          · omega
          · exact ⟨q, by simp at hv; exact hv.1⟩
        subst hoa
        have hO := HKO.out HO.out
        have o0 := hO.cells (g := oq) rfl (k * 5 + 0) _ (flat5_get (cE l) m k 0 hlt (by omega))
        have o1 := hO.cells (g := oq) rfl (k * 5 + 1) _ (flat5_get (cE l) m k 1 hlt (by omega))
        have o2 := hO.cells (g := oq) rfl (k * 5 + 2) _ (flat5_get (cE l) m k 2 hlt (by omega))
        have o3 := hO.cells (g := oq) rfl (k * 5 + 3) _ (flat5_get (cE l) m k 3 hlt (by omega))
        have o4 := hO.cells (g := oq) rfl (k * 5 + 4) _ (flat5_get (cE l) m k 4 hlt (by omega))
        rw [addr_add] at o0 o1 o2 o3 o4
        simp only [Nat.add_zero] at o0 o1 o2 o3 o4
        obtain ⟨E, hE⟩ : ∃ E : Nat → Int, E = cE l k := ⟨_, rfl⟩
        rw [← hE] at o0 o1 o2 o3 o4
        have HE := hide hE
        have hltI : (k : Int) < (m : Int) := by omega
        have HV := hide hV
        have HOw := hide hO
        have hwr := HB.out.size
        clear hV hO hE HW HKO
        go_upto_region 7 with fail
        obtain ⟨W0, hW0⟩ : ∃ W0, wr.alloc (.cells #[.int .i64 (E 0), .int .i64 (E 1), .int .i64 (E 2), .int .i64 (E 3), .int .i64 (E 4)] 112) = W0 := ⟨_, rfl⟩
        have hbw : Below wr.heap.size wr W0 := by rw [← hW0]; exact (Below.refl _ _).alloc (Nat.le_refl _) _
        have hA : Clk W0 w.heap.size wr.heap.size E := by rw [← hW0]; exact clk_new wr _ _ rfl hwr E
        have HV0 := hide (HV.out.below hbw)
        have HO0 := hide (own_belowT HOw.out hbw)
        have HB0 := hide (HB.out.trans (hbw.mono HB.out.size))
        have hz0w : wr.heap.size ≤ W0.heap.size := hbw.size
        rw [hW0]
        obtain ⟨eb, heb⟩ : ∃ eb, eb = wr.heap.size := ⟨_, rfl⟩
        rw [← heb] at hA HV0 hz0w ⊢
        have a0 := hA.cell 0 (by omega)
        have a1 := hA.cell 1 (by omega)
        have a2 := hA.cell 2 (by omega)
        have a3 := hA.cell 3 (by omega)
        have a4 := hA.cell 4 (by omega)
        clear hW0 hbw hA heb HV HOw HB o0 o1 o2 o3 o4
        go_wp2_with fail
        refine (CLL.out E _).mono ?_
        rintro e V5 ⟨v5, rfl, ho5, hb5⟩
        obtain ⟨cq, cc, rfl⟩ : ∃ cq cc, v5 = .slice (some ⟨cq, 0, none⟩) Nn cc := by
          rcases ho5.2 with ⟨_, h0⟩ | ⟨q, cap, cur, hv, _⟩
          · have := HN1.out; omega
          · exact ⟨q, cap, hv⟩
        have HV5 := hide (HV0.out.below hb5)
        have HO5 := hide (own_belowT HO0.out hb5)
        have B5 := hide (HB0.out.trans (hb5.mono HB0.out.size))
        have HCQ : Hid (eb ≤ cq) := hide (Nat.le_trans hz0w (ho5.lt cq rfl).1)
        have HR5 : Hid (V5.ownsRow w.heap.size 3 1 (.slice (some ⟨cq, 0, none⟩) Nn cc) Nn (lA Nn (cE l k))) := hide (by
          have h1 := own_baseT ho5 HB0.out.size
          rw [clL_lA, HE.out] at h1
          exact h1)
        have hsz5 := B5.out.size
        clear ho5 hb5 HV0 HO0 HB0 hz0w a0 a1 a2 a3 a4
        go_wp2_with (first
          | (at_builtin; refine wpList_append_own_at _ rfl _ _ 68 rfl w.heap.size 27 j1 (.slice none 0 0) 1 24 Try.underlying68 hj1 hz0 hz1 hz2 rfl (by decide) _ _ _ rfl (HV5.out.out.alloc _) ⟨V5.heap.size, 0, none⟩ 1 1 [.slice (some ⟨cq, 0, none⟩) Nn cc] rfl rfl (cell_sl11 _ _ rfl _ _) (by intro u hu; simp at hu; subst hu; rfl) (by unfold maxLen; omega) (by omega) (by simp; omega) ?_)
          | go_in)
        intro v6 w6 hown6 hgrow6 _ _
        have H7 : Hid (SW w6 w.heap.size w6.heap.size v6 (k + 1) Nn (cE l)) := hide (sv_push HV5.out cq cc HCQ.out HR5.out ((Below.refl _ _).alloc (Nat.le_refl _) _) hown6 hgrow6)
        have B7 : Hid (Below w.heap.size w w6) := hide ((B5.out.alloc B5.out.size _).grown hgrow6 (by simp; omega) (fun q hq => (HV5.out.out.lt q hq).1))
        have HKQ : Hid (w6.ownsRow w1.heap.size 112 5 (.slice (some ⟨oq, 0, none⟩) m ocap) m (flat5 (cE l) m)) := hide ((own_belowT HO5.out ((Below.refl _ _).alloc (Nat.le_refl _) _)).kept hgrow6 (.inr (own_twoC HV5.out.out HO5.out)))
        clear hown6 hgrow6
        have HK7 : Hid (w2.ownsRow w1.heap.size 112 5 (.slice (some ⟨oq, 0, none⟩) m ocap) m (flat5 (cE l) m) → w6.ownsRow w1.heap.size 112 5 (.slice (some ⟨oq, 0, none⟩) m ocap) m (flat5 (cE l) m)) := hide (fun _ => HKQ.out)
        go_wp2
        go_roundw
        case rel => exact ⟨k + 1, by omega, by go_num, H7, B7, HK7⟩
        case measure => simp [intOf]; omega
      · have hltI : ¬ (k : Int) < (m : Int) := by omega
        obtain rfl : k = m := by omega
        have H9 := hide (show SW wr w.heap.size wr.heap.size _ k Nn (cE l) from ⟨bs, cs, hV⟩)
        clear hV HW HKO
        go_wp2
        go_ret2
        exact ⟨_, rfl, H9.out, HB.out⟩
end Go.Proofs.Ytkfnejiiancmhad.L11

namespace Go.Proofs.Ytkfnejiiancmhad.L11
open Go.RowKit L1 Own
set_option linter.unusedVariables false

/-- The stamps of the first events. -/
def stps (l : List Ev) (k : Nat) : List Int := (List.range k).map (stp l)
theorem stps_len (l : List Ev) (k : Nat) : (stps l k).length = k := by simp [stps]
theorem stps_succ (l : List Ev) (k : Nat) : stps l (k + 1) = stps l k ++ [stp l k] := by simp [stps, List.range_succ]
theorem stps_get (l : List Ev) (k i : Nat) (h : i < k) : (stps l k).getD i 0 = stp l i := by simp [stps, List.getD, h]
open Classical in
/-- What StampsOf tells. -/
noncomputable def stRes (N : Int) (l : List Ev) : Option (List Int) := if GoodV N l then some (stps l l.length) else none
theorem cell_one11 (w : World) (g : Nat) (hg : w.heap.size = g) (p : Value) (t : TypeId) : ∀ j u, [p][j]? = some u → (w.alloc (.cells #[p] t)).cell? ((⟨g, 0, none⟩ : Addr).add j) = some u := by
  subst hg
  intro j u h
  rw [addr_add]
  match j, h with
  | 0, h => simp at h; subst h; simp
  | j + 1, h => simp at h
theorem own_set11 {w : World} {base n c : Nat} {t : TypeId} {v : Value} {xs : List Value} (h : w.ownsRow base t c v n xs) (g i : Nat) (u : Value) (hg : g < base) : (w.setCell ⟨g, i, none⟩ u).ownsRow base t c v n xs := by
  refine ⟨h.1, ?_⟩
  rcases h.2 with h0 | ⟨q, cap, cur, hv, hb, hh, rest⟩
  · exact .inl h0
  · exact .inr ⟨q, cap, cur, hv, hb, by rw [Below.heap_setCell w ⟨g, i, none⟩ u q (show q ≠ g by omega)]; exact hh, rest⟩
/-- The last stamp at each node. -/
def lstS (l : List Ev) (k : Nat) (i : Nat) : Int := stpO l (pri l (i : Int) k)
theorem lstS_bd (l : List Ev) (k i : Nat) : 0 ≤ lstS l k i ∧ lstS l k i ≤ (k : Int) := by
  have h1 := stpO_bd l (pri l (i : Int) k)
  have h2 := pri_lt l (i : Int) k
  unfold lstS
  omega
theorem lstS_succ (l : List Ev) (k xn : Nat) (hx : nd l k = (xn : Int)) (i : Nat) : updI (lstS l k) xn (stp l k) i = lstS l (k + 1) i := by
  unfold updI lstS
  show _ = stpO l (if nd l k = (i : Int) then (k : Int) else pri l (i : Int) k)
  by_cases e : i = xn
  · subst e
    rw [if_pos rfl, if_pos hx]
    unfold stpO
    rw [if_pos (by omega)]
    rfl
  · rw [if_neg e, if_neg (by omega)]
theorem arr_grown {w w' : World} {t : TypeId} {n base g : Nat} {E : Nat → Int} {r : Option Nat} (h : Arr t n w base g E) (hg : w.grownBy w' r) (hne : r ≠ some g) : Arr t n w' base g E :=
  World.ownsRow.kept h hg (.inr (fun e => hne e.symm))
set_option maxRecDepth 100000 in
set_option maxHeartbeats 4000000 in
theorem stampsOf_any (N : Int) (a : Option Addr) (l : List (Int × Int)) (n cap : Nat) (w : World) (hn : l.length = n) (hs : Sl2 w a l) (hn2 : n ≤ 1048576) (r : Option (List Int)) (hr : r = stRes N l) :
    Calls Try.prog 35 #[.int .i64 N, .slice a n cap] w fun e w' => RetL w r e w' := by
  by_cases hg : GoodV N l
  case neg =>
    have C := hide (goodEvents_any N a l n cap w hn hs hn2 false (by simp [hg]))
    have HR : Hid (r = none) := by rw [hr]; unfold stRes; rw [if_neg hg]; rfl
    clear hr hg hs hn
    go_enter Try.func35, Try.ntmps35
    go_wp2_with fail
    refine C.out.mono ?_
    rintro e w1 ⟨rfl, hb1⟩
    have B1 := hide hb1
    clear hb1
    go_wp2
    go_ret2
    exact ⟨_, by rw [HR.out]; rfl, by rw [HR.out]; exact World.ownsRow_nil _ _ _ _, B1.out⟩
  have C := hide (goodEvents_any N a l n cap w hn hs hn2 true (by simp [hg]))
  have HR : Hid (r = some (stps l n)) := by rw [hr]; unfold stRes; rw [if_pos hg, hn]; rfl
  have h40 : n ≤ 40 := by have := hg.2.2.1; omega
  obtain ⟨i1, hi1, hy0, hy1, hy2⟩ := info_parts info_int
  have HG := hide hg
  have HS := hide hs
  have HN := hide hn
  clear hr hg hs hn
  go_enter Try.func35, Try.ntmps35
  go_wp2_with fail
  refine C.out.mono ?_
  rintro e w1 ⟨rfl, hb1⟩
  have B1 := hide hb1
  have HS1 := hide (HS.out.below hb1)
  clear hb1 C
  go_upto_region 5 with fail
  obtain ⟨W, hW⟩ : ∃ W, w1.alloc (.cells #[.int .i64 0, .int .i64 0, .int .i64 0, .int .i64 0, .int .i64 0] 111) = W := ⟨_, rfl⟩
  have A0 : Hid (Arr 111 5 W w.heap.size w1.heap.size (lstS l 0)) := by rw [← hW]; exact hide (arr_new _ 5 w1 _ _ rfl B1.out.size (by omega) _ _ rfl)
  have B2 : Hid (Below w.heap.size w W) := by rw [← hW]; exact hide (B1.out.alloc B1.out.size _)
  have HS2 : Hid (Sl2 W a l) := by rw [← hW]; exact hide (HS1.out.below ((Below.refl _ _).alloc (Nat.le_refl _) _))
  have hzW : W.heap.size = w1.heap.size + 1 := by rw [← hW]; simp
  have HZW := hide hzW
  rw [hW]
  obtain ⟨g, hg⟩ : ∃ g, g = w1.heap.size := ⟨_, rfl⟩
  rw [← hg] at A0 HZW ⊢
  have hwg : w.heap.size ≤ g := by have := B1.out.size; omega
  have HWG := hide hwg
  clear hW hzW HS1 B1 hg hwg
  go_wp2
  go_loopw [6, 17] (fun ot i wr => ∃ k : Nat, k ≤ n ∧ i = .int .i64 k ∧ wr.ownsRow (g + 1) 3 1 ot k ((stps l k).map (Value.int .i64)) ∧ Arr 111 5 wr w.heap.size g (lstS l k) ∧ Below w.heap.size w wr) (fun _ i _ => n - (intOf i).toNat)
  case atStart => exact ⟨0, Nat.zero_le _, rfl, World.ownsRow_nil _ _ _ _, A0.out, B2.out⟩
  case round =>
    obtain ⟨k, hk, rfl, hown, harr, hbel⟩ := hrel
    have hsl := HS.out.below hbel
    have hgw := harr.lt
    by_cases hlt : k < n
    · have hv := HG.out.2.2.2 k (by rw [HN.out]; exact hlt)
      have hN5 := HG.out.2.1
      obtain ⟨xn, hx⟩ : ∃ xn : Nat, nd l k = (xn : Int) := ⟨(nd l k).toNat, by have := hv.1; omega⟩
      have hx5 : xn < 5 := by have := hv.2.1; omega
      obtain ⟨b, off, rfl, q1, q2⟩ := hsl k (by rw [HN.out]; exact hlt)
      clear q1 q2
      obtain ⟨hc, hd⟩ := hsl.two k (by rw [HN.out]; exact hlt)
      rw [hx] at hc
      obtain ⟨oa, ocap, rfl, hso, q1⟩ := own_form hown
      clear q1
      have hltI : (k : Int) < (n : Int) := by omega
      have hxI : (xn : Int) < 5 := by omega
      have hx0 : (0 : Int) ≤ (xn : Int) := by omega
      obtain ⟨y, hy⟩ : ∃ y, y = fr l k := ⟨_, rfl⟩
      rw [← hy] at hd
      have HY := hide hy
      have HX := hide hx
      have HV := hide hv
      have HROW := hide hown
      have HARR := hide harr
      have HSO := hide hso
      have HSL := hide hsl
      have B0 := hide hbel
      have hsz := hbel.size
      have HGW := hide hgw
      clear hy hx hv hown harr hso hsl hbel hgw
      go_upto_region 8 with fail
      obtain ⟨W0, hW0⟩ : ∃ W0, wr.alloc (.cells #[.int .i64 xn, .int .i64 y] 118) = W0 := ⟨_, rfl⟩
      have hbw : Below wr.heap.size wr W0 := by rw [← hW0]; exact (Below.refl _ _).alloc (Nat.le_refl _) _
      have e0 : W0.cell? ⟨wr.heap.size, 0, none⟩ = some (.int .i64 xn) := by rw [← hW0]; simp
      have e1 : W0.cell? ⟨wr.heap.size, 1, none⟩ = some (.int .i64 y) := by rw [← hW0]; simp
      have HARR0 := hide (HARR.out.below hbw)
      have HROW0 := hide (own_belowT HROW.out hbw)
      have HSL0 := hide (HSL.out.below hbw)
      have HSO0 := hide (HSO.out.below hbw)
      have B00 := hide (B0.out.trans (hbw.mono B0.out.size))
      have HGW0 : Hid (g < W0.heap.size) := hide (Nat.lt_of_lt_of_le HGW.out hbw.size)
      rw [hW0]
      have hl0 := HARR0.out.cell xn hx5
      have hlf := HARR0.out.frozenAt xn
      have hlb := lstS_bd l k xn
      have hst := stp_eq l k HV.out.2.2.2.1
      have hsP : stpO l (pri l (nd l k) k) = lstS l k xn := by unfold lstS; rw [HX.out]
      rw [hsP, ← HY.out] at hst
      have hsu : lstS l k xn = lstS l k xn := rfl
      obtain ⟨L0, hL0⟩ : ∃ L0, L0 = lstS l k xn := ⟨_, rfl⟩
      rw [← hL0] at hl0 hlb hst
      have HST := hide hst
      have hlb0 := hlb.1
      have hlb1 : L0 ≤ 40 := by omega
      obtain ⟨eb, heb⟩ : ∃ eb, eb = wr.heap.size := ⟨_, rfl⟩
      rw [← heb] at e0 e1 ⊢
      clear hW0 hbw hsP hsu hL0 hlb hst heb HARR HROW HSL HSO B0 HGW
      by_cases hy1 : y = -1
      · have hyb : (y != -1) = false := by simp [hy1]
        have hS : L0 + 1 = stp l k := by
          rw [HST.out, hy1]
          have : stpO l (-1) = 0 := rfl
          rw [this]; omega
        have HSS := hide hS
        clear hy1 hS
        go_upto_region 13 with fail
        obtain ⟨W1, hW1⟩ : ∃ W1, W0.setCell ⟨g, xn, none⟩ (.int .i64 (L0 + 1)) = W1 := ⟨_, rfl⟩
        have HARR1 : Hid (Arr 111 5 W1 w.heap.size g (lstS l (k + 1))) := by
          rw [← hW1, HSS.out]
          exact hide ((HARR0.out.set xn (stp l k)).congr (fun i _ => lstS_succ l k xn HX.out i))
        have HROW1 : Hid (W1.ownsRow (g + 1) 3 1 (.slice oa k ocap) k ((stps l k).map (Value.int .i64))) := by rw [← hW1]; exact hide (own_set11 HROW0.out g xn _ (by omega))
        have B11 : Hid (Below w.heap.size w W1) := by rw [← hW1]; exact hide (B00.out.setCell (p := ⟨g, xn, none⟩) HWG.out _)
        have hlow : ∀ q : Nat, q ≠ g → W1.heap[q]? = W0.heap[q]? := fun q hq => by rw [← hW1]; exact Below.heap_setCell W0 ⟨g, xn, none⟩ _ q hq
        have hz1 : W1.heap.size = W0.heap.size := by rw [← hW1]; simp
        rw [hW1]
        have HLOW := hide hlow
        have HZ1 := hide hz1
        clear hW1 hlow hz1 hl0 hlf e0 e1
        go_wp2_with (first
          | (at_builtin; refine wpList_append_own_at _ rfl _ _ 27 rfl (g + 1) 3 i1 (.int .i64 0) 1 8 Try.underlying27 hi1 hy0 hy1 hy2 rfl (by decide) _ _ _ rfl (HROW1.out.alloc _) ⟨W1.heap.size, 0, none⟩ 1 1 [.int .i64 (L0 + 1)] rfl rfl (cell_one11 _ _ rfl _ _) (by intro u hu; simp at hu; subst hu; rfl) (by unfold maxLen; omega) (by omega) (by simp; have h1 := HZ1.out; have h2 := HGW0.out; omega) ?_)
          | go_in)
        intro v6 w6 hown6 hgrow6 _ hat6
        have hob : ∀ q, (Value.slice oa k ocap).ownBlock = some q → g + 1 ≤ q := fun q hq => (HROW1.out.lt q hq).1
        have hb6 : Below w.heap.size w w6 := (B11.out.alloc B11.out.size _).grown hgrow6 (by simp; have := B11.out.size; omega) (fun q hq => by have h1 := hob q hq; have h2 := HWG.out; omega)
        have harr6 : Arr 111 5 w6 w.heap.size g (lstS l (k + 1)) := arr_grown (HARR1.out.alloc _) hgrow6 (fun e => by have := hob g e; omega)
        have hown7 : w6.ownsRow (g + 1) 3 1 v6 (k + 1) ((stps l (k + 1)).map (Value.int .i64)) := by
          rw [stps_succ, ← HSS.out]
          simpa using hown6
        have H7 := hide hown7
        have HA6 := hide harr6
        clear hown6 hgrow6 hown7 harr6 hat6
        go_wp2
        go_roundw
        case rel => exact ⟨k + 1, by omega, by go_num, H7.out, HA6.out, hb6⟩
        case measure => simp [intOf]; omega
      · have hyb : (y != -1) = true := by simp [hy1]
        have hv4 := HV.out.2.2.2.1
        have hv3 := HV.out.2.2.1
        rw [← HY.out] at hv3 hv4
        obtain ⟨f, hf⟩ : ∃ f : Nat, y = (f : Int) := ⟨y.toNat, by omega⟩
        subst hf
        have hfk : f < k := by omega
        obtain ⟨ob, oo, rfl, hcf⟩ := HSO0.out f (by rw [stps_len]; exact hfk)
        rw [stps_get l k f hfk] at hcf
        have hfb := stp_bd l f
        have hS : max L0 (stp l f) + 1 = stp l k := by
          rw [HST.out]
          have : stpO l (f : Int) = stp l f := by unfold stpO; rw [if_pos (by omega)]; rfl
          rw [this]
        obtain ⟨vf, hvf⟩ : ∃ vf, vf = stp l f := ⟨_, rfl⟩
        rw [← hvf] at hcf hfb hS
        have hfI : (f : Int) < (k : Int) := by omega
        have hf0 : (0 : Int) ≤ (f : Int) := by omega
        have hfb1 : vf ≤ 40 := by omega
        have hfb0 := hfb.1
        obtain ⟨mx, hmx, hmm⟩ : ∃ mx, (if L0 < vf then vf else L0) = mx ∧ max L0 vf = mx := ⟨_, rfl, by split <;> omega⟩
        rw [hmm] at hS
        have hm0 : 0 ≤ mx := by omega
        have hm1 : mx ≤ 40 := by omega
        have HSS := hide hS
        clear hy1 hS hvf hv3 hv4 hfb hmm
        go_upto_region 13 with fail
        obtain ⟨W1, hW1⟩ : ∃ W1, W0.setCell ⟨g, xn, none⟩ (.int .i64 (mx + 1)) = W1 := ⟨_, rfl⟩
        have HARR1 : Hid (Arr 111 5 W1 w.heap.size g (lstS l (k + 1))) := by
          rw [← hW1, HSS.out]
          exact hide ((HARR0.out.set xn (stp l k)).congr (fun i _ => lstS_succ l k xn HX.out i))
        have HROW1 : Hid (W1.ownsRow (g + 1) 3 1 (.slice (some ⟨ob, oo, none⟩) k ocap) k ((stps l k).map (Value.int .i64))) := by rw [← hW1]; exact hide (own_set11 HROW0.out g xn _ (by omega))
        have B11 : Hid (Below w.heap.size w W1) := by rw [← hW1]; exact hide (B00.out.setCell (p := ⟨g, xn, none⟩) HWG.out _)
        have hlow : ∀ q : Nat, q ≠ g → W1.heap[q]? = W0.heap[q]? := fun q hq => by rw [← hW1]; exact Below.heap_setCell W0 ⟨g, xn, none⟩ _ q hq
        have hz1 : W1.heap.size = W0.heap.size := by rw [← hW1]; simp
        rw [hW1]
        have HLOW := hide hlow
        have HZ1 := hide hz1
        clear hW1 hlow hz1 hl0 hlf e0 e1
        go_wp2_with (first
          | (at_builtin; refine wpList_append_own_at _ rfl _ _ 27 rfl (g + 1) 3 i1 (.int .i64 0) 1 8 Try.underlying27 hi1 hy0 hy1 hy2 rfl (by decide) _ _ _ rfl (HROW1.out.alloc _) ⟨W1.heap.size, 0, none⟩ 1 1 [.int .i64 (mx + 1)] rfl rfl (cell_one11 _ _ rfl _ _) (by intro u hu; simp at hu; subst hu; rfl) (by unfold maxLen; omega) (by omega) (by simp; have h1 := HZ1.out; have h2 := HGW0.out; omega) ?_)
          | go_in)
        intro v6 w6 hown6 hgrow6 _ hat6
        have hob : ∀ q, (Value.slice (some ⟨ob, oo, none⟩) k ocap).ownBlock = some q → g + 1 ≤ q := fun q hq => (HROW1.out.lt q hq).1
        have hb6 : Below w.heap.size w w6 := (B11.out.alloc B11.out.size _).grown hgrow6 (by simp; have := B11.out.size; omega) (fun q hq => by have h1 := hob q hq; have h2 := HWG.out; omega)
        have harr6 : Arr 111 5 w6 w.heap.size g (lstS l (k + 1)) := arr_grown (HARR1.out.alloc _) hgrow6 (fun e => by have := hob g e; omega)
        have hown7 : w6.ownsRow (g + 1) 3 1 v6 (k + 1) ((stps l (k + 1)).map (Value.int .i64)) := by
          rw [stps_succ, ← HSS.out]
          simpa using hown6
        have H7 := hide hown7
        have HA6 := hide harr6
        clear hown6 hgrow6 hown7 harr6 hat6
        go_wp2
        go_roundw
        case rel => exact ⟨k + 1, by omega, by go_num, H7.out, HA6.out, hb6⟩
        case measure => simp [intOf]; omega
    · have hltI : ¬ (k : Int) < (n : Int) := by omega
      obtain rfl : k = n := by omega
      have HO := hide (own_baseT hown (show w.heap.size ≤ g + 1 by have := HWG.out; omega))
      have B9 := hide hbel
      clear hown harr hsl hbel
      go_wp2
      go_ret2
      exact ⟨_, by rw [HR.out]; rfl, by rw [HR.out]; simp only [Option.getD_some, stps_len]; exact HO.out, B9.out⟩
end Go.Proofs.Ytkfnejiiancmhad.L11

namespace Go.Proofs.Ytkfnejiiancmhad.L11
open Go.RowKit L1 Own
set_option linter.unusedVariables false

set_option maxRecDepth 100000 in
set_option maxHeartbeats 4000000 in
theorem specStamps_any (N : Int) (a : Option Addr) (l : List (Int × Int)) (n cap : Nat) (w : World) (hn : l.length = n) (hs : Sl2 w a l) (hn2 : n ≤ 1048576) (hN : N ≤ 9223372036854775807) (r : Option (List Int)) (hr : r = stRes N l) :
    Calls Try.prog 36 #[.int .i64 N, .slice a n cap] w fun e w' => RetL w r e w' := by
  by_cases hg : GoodV N l
  case neg =>
    have C := hide (specGoodEvents_any N a l n cap w hn hs hn2 hN false (by simp [hg]))
    have HR : Hid (r = none) := by rw [hr]; unfold stRes; rw [if_neg hg]; rfl
    clear hr hg hs hn
    go_enter Try.func36, Try.ntmps36
    go_wp2_with fail
    refine C.out.mono ?_
    rintro e w1 ⟨rfl, hb1⟩
    have B1 := hide hb1
    clear hb1
    go_wp2
    go_ret2
    exact ⟨_, by rw [HR.out]; rfl, by rw [HR.out]; exact World.ownsRow_nil _ _ _ _, B1.out⟩
  have C := hide (specGoodEvents_any N a l n cap w hn hs hn2 hN true (by simp [hg]))
  have HR : Hid (r = some (stps l n)) := by rw [hr]; unfold stRes; rw [if_pos hg, hn]; rfl
  have h40 : n ≤ 40 := by have := hg.2.2.1; omega
  obtain ⟨i1, hi1, hy0, hy1, hy2⟩ := info_parts info_int
  have HG := hide hg
  have HS := hide hs
  have HN := hide hn
  clear hr hg hs hn hN
  go_enter Try.func36, Try.ntmps36
  go_wp2_with fail
  refine C.out.mono ?_
  rintro e w1 ⟨rfl, hb1⟩
  have B1 := hide hb1
  clear hb1 C
  go_wp2
  go_loopw [6, 17] (fun ot i wr => ∃ k : Nat, k ≤ n ∧ i = .int .i64 k ∧ wr.ownsRow w.heap.size 3 1 ot k ((stps l k).map (Value.int .i64)) ∧ Below w.heap.size w wr) (fun _ i _ => n - (intOf i).toNat)
  case atStart => exact ⟨0, Nat.zero_le _, rfl, World.ownsRow_nil _ _ _ _, B1.out⟩
  case round =>
    obtain ⟨k, hk, rfl, hown, hbel⟩ := hrel
    by_cases hlt : k < n
    · have hv := HG.out.2.2.2 k (by rw [HN.out]; exact hlt)
      have hsl := HS.out.below hbel
      obtain ⟨b, off, rfl, q1, q2⟩ := hsl k (by rw [HN.out]; exact hlt)
      clear q1 q2
      obtain ⟨hc, hd⟩ := hsl.two k (by rw [HN.out]; exact hlt)
      obtain ⟨x, hx⟩ : ∃ x, x = nd l k := ⟨_, rfl⟩
      rw [← hx] at hc
      obtain ⟨oa, ocap, rfl, hso, q1⟩ := own_form hown
      clear q1
      have hltI : (k : Int) < (n : Int) := by omega
      obtain ⟨y, hy⟩ : ∃ y, y = fr l k := ⟨_, rfl⟩
      rw [← hy] at hd
      obtain ⟨p, hp⟩ : ∃ p, p = pri l (nd l k) k := ⟨_, rfl⟩
      have CP := hide (fun w hs => prior_any b off l n cap k w HN.out hs hlt hn2 p hp)
      have hst := stp_eq l k hv.2.2.2.1
      rw [← hp, ← hy] at hst
      have hplt := pri_lt l (nd l k) k
      have hpge := pri_ge l (nd l k) k
      rw [← hp] at hplt hpge
      have HST := hide hst
      have HY := hide hy
      have HV := hide hv
      have HROW := hide hown
      have HSO := hide hso
      have HSL := hide hsl
      have B0 := hide hbel
      have hsz := hbel.size
      clear hy hx hv hown hso hsl hbel hst hp
      go_upto_region 8 with fail
      obtain ⟨W0, hW0⟩ : ∃ W0, wr.alloc (.cells #[.int .i64 x, .int .i64 y] 118) = W0 := ⟨_, rfl⟩
      have hbw : Below wr.heap.size wr W0 := by rw [← hW0]; exact (Below.refl _ _).alloc (Nat.le_refl _) _
      have e1 : W0.cell? ⟨wr.heap.size, 1, none⟩ = some (.int .i64 y) := by rw [← hW0]; simp
      rw [hW0]
      obtain ⟨eb, heb⟩ : ∃ eb, eb = wr.heap.size := ⟨_, rfl⟩
      rw [← heb] at e1 ⊢
      have HBW : Hid (Below wr.heap.size wr W0) := hbw
      have E1 := hide e1
      clear hW0 hbw heb e1
      go_wp2_with fail
      refine (CP.out _ (HSL.out.below HBW.out)).mono ?_
      rintro e w2 ⟨rfl, hb2⟩
      have hbw2 : Below wr.heap.size wr w2 := HBW.out.trans (hb2.mono HBW.out.size)
      have e1 : w2.cell? ⟨eb, 1, none⟩ = some (.int .i64 y) := (hb2.cell (p := ⟨eb, 1, none⟩) (blk_lt E1.out)).trans E1.out
      have HROW2 := hide (own_belowT HROW.out hbw2)
      have HSO2 := hide (HSO.out.below hbw2)
      have B2 := hide (B0.out.trans (hbw2.mono B0.out.size))
      have hsz2 := B2.out.size
      clear hb2 hbw2 HBW E1 CP HSL HROW HSO B0
      by_cases hp0 : p < 0
      · have hpb : ¬ 0 ≤ p := by omega
        have hL : stpO l p = 0 := by unfold stpO; rw [if_neg hpb]
        rw [hL] at HST
        obtain ⟨L0, hL0⟩ : ∃ L0 : Int, L0 = 0 := ⟨_, rfl⟩
        have HST0 := HST
        rw [← hL0] at HST
        subst hL0
        clear hL HST0 hp0
        by_cases hy1 : y < 0
        · have hyb : ¬ 0 ≤ y := by omega
          have hS : (0 : Int) + 1 = stp l k := by
            rw [HST.out]
            have : stpO l y = 0 := by unfold stpO; rw [if_neg hyb]
            rw [this]; omega
          have HSS := hide hS
          clear hy1 hS
          go_wp2_with (first
            | (at_builtin; refine wpList_append_own_at _ rfl _ _ 27 rfl w.heap.size 3 i1 (.int .i64 0) 1 8 Try.underlying27 hi1 hy0 hy1 hy2 rfl (by decide) _ _ _ rfl (HROW2.out.alloc _) ⟨w2.heap.size, 0, none⟩ 1 1 [.int .i64 ((0 : Int) + 1)] rfl rfl (cell_one11 _ _ rfl _ _) (by intro u hu; simp at hu; subst hu; rfl) (by unfold maxLen; omega) (by omega) (by simp; omega) ?_)
            | go_in)
          intro v6 w6 hown6 hgrow6 _ hat6
          have hb6 : Below w.heap.size w w6 := (B2.out.alloc B2.out.size _).grown hgrow6 (by simp; omega) (fun q hq => (HROW2.out.lt q hq).1)
          have hown7 : w6.ownsRow w.heap.size 3 1 v6 (k + 1) ((stps l (k + 1)).map (Value.int .i64)) := by
            rw [stps_succ, ← HSS.out]
            simpa using hown6
          have H7 := hide hown7
          clear hown6 hgrow6 hown7 hat6
          go_wp2
          go_roundw
          case rel => exact ⟨k + 1, by omega, by go_num, H7.out, hb6⟩
          case measure => simp [intOf]; omega
        · have hv4 := HV.out.2.2.2.1
          rw [← HY.out] at hv4
          obtain ⟨f, hf⟩ : ∃ f : Nat, y = (f : Int) := ⟨y.toNat, by omega⟩
          subst hf
          have hfk : f < k := by omega
          obtain ⟨ob, oo, hoe, hcf⟩ := HSO2.out f (by rw [stps_len]; exact hfk)
          subst hoe
          rw [stps_get l k f hfk] at hcf
          have hfb := stp_bd l f
          have hS : max (0 : Int) (stp l f) + 1 = stp l k := by
            rw [HST.out]
            have : stpO l (f : Int) = stp l f := by unfold stpO; rw [if_pos (by omega)]; rfl
            rw [this]
          obtain ⟨vf, hvf⟩ : ∃ vf, vf = stp l f := ⟨_, rfl⟩
          rw [← hvf] at hcf hfb hS
          have hfI : (f : Int) < (k : Int) := by omega
          have hf0 : (0 : Int) ≤ (f : Int) := by omega
          have hfb1 : vf ≤ 40 := by omega
          have hfb0 := hfb.1
          clear hy1 hvf hv4 hfb
          by_cases hgt : (0 : Int) < vf
          · have HSS : Hid (vf + 1 = stp l k) := by rw [← hS]; exact (show vf + 1 = max (0 : Int) vf + 1 by omega)
            clear hS
            go_wp2_with (first
              | (at_builtin; refine wpList_append_own_at _ rfl _ _ 27 rfl w.heap.size 3 i1 (.int .i64 0) 1 8 Try.underlying27 hi1 hy0 hy1 hy2 rfl (by decide) _ _ _ rfl (HROW2.out.alloc _) ⟨w2.heap.size, 0, none⟩ 1 1 [.int .i64 (vf + 1)] rfl rfl (cell_one11 _ _ rfl _ _) (by intro u hu; simp at hu; subst hu; rfl) (by unfold maxLen; omega) (by omega) (by simp; omega) ?_)
              | go_in)
            intro v6 w6 hown6 hgrow6 _ hat6
            have hb6 : Below w.heap.size w w6 := (B2.out.alloc B2.out.size _).grown hgrow6 (by simp; omega) (fun q hq => (HROW2.out.lt q hq).1)
            have hown7 : w6.ownsRow w.heap.size 3 1 v6 (k + 1) ((stps l (k + 1)).map (Value.int .i64)) := by
              rw [stps_succ, ← HSS.out]
              simpa using hown6
            have H7 := hide hown7
            clear hown6 hgrow6 hown7 hat6
            go_wp2
            go_roundw
            case rel => exact ⟨k + 1, by omega, by go_num, H7.out, hb6⟩
            case measure => simp [intOf]; omega
          · exact absurd hgt (by omega)
      · obtain ⟨pn, hpn⟩ : ∃ pn : Nat, p = (pn : Int) := ⟨p.toNat, by omega⟩
        subst hpn
        have hpk : pn < k := by omega
        obtain ⟨pb, po, hpe, hcp⟩ := HSO2.out pn (by rw [stps_len]; exact hpk)
        subst hpe
        rw [stps_get l k pn hpk] at hcp
        have hpI : (pn : Int) < (k : Int) := by omega
        have hpI0 : (0 : Int) ≤ (pn : Int) := by omega
        have hL : stpO l (pn : Int) = stp l pn := by unfold stpO; rw [if_pos (by omega)]; rfl
        rw [hL] at HST
        have hlb := stp_bd l pn
        obtain ⟨L0, hL0⟩ : ∃ L0, L0 = stp l pn := ⟨_, rfl⟩
        rw [← hL0] at HST hcp hlb
        have hlb0 : 0 ≤ L0 := by omega
        have hlb1 : L0 ≤ 40 := by omega
        clear hL hL0 hlb hp0
        by_cases hy1 : y < 0
        · have hyb : ¬ 0 ≤ y := by omega
          have hS : L0 + 1 = stp l k := by
            rw [HST.out]
            have : stpO l y = 0 := by unfold stpO; rw [if_neg hyb]
            rw [this]; omega
          have HSS := hide hS
          clear hy1 hS
          go_wp2_with (first
            | (at_builtin; refine wpList_append_own_at _ rfl _ _ 27 rfl w.heap.size 3 i1 (.int .i64 0) 1 8 Try.underlying27 hi1 hy0 hy1 hy2 rfl (by decide) _ _ _ rfl (HROW2.out.alloc _) ⟨w2.heap.size, 0, none⟩ 1 1 [.int .i64 (L0 + 1)] rfl rfl (cell_one11 _ _ rfl _ _) (by intro u hu; simp at hu; subst hu; rfl) (by unfold maxLen; omega) (by omega) (by simp; omega) ?_)
            | go_in)
          intro v6 w6 hown6 hgrow6 _ hat6
          have hb6 : Below w.heap.size w w6 := (B2.out.alloc B2.out.size _).grown hgrow6 (by simp; omega) (fun q hq => (HROW2.out.lt q hq).1)
          have hown7 : w6.ownsRow w.heap.size 3 1 v6 (k + 1) ((stps l (k + 1)).map (Value.int .i64)) := by
            rw [stps_succ, ← HSS.out]
            simpa using hown6
          have H7 := hide hown7
          clear hown6 hgrow6 hown7 hat6
          go_wp2
          go_roundw
          case rel => exact ⟨k + 1, by omega, by go_num, H7.out, hb6⟩
          case measure => simp [intOf]; omega
        · have hv4 := HV.out.2.2.2.1
          rw [← HY.out] at hv4
          obtain ⟨f, hf⟩ : ∃ f : Nat, y = (f : Int) := ⟨y.toNat, by omega⟩
          subst hf
          have hfk : f < k := by omega
          obtain ⟨ob, oo, hoe, hcf⟩ := HSO2.out f (by rw [stps_len]; exact hfk)
          simp only [Option.some.injEq, Addr.mk.injEq, and_true] at hoe
          obtain ⟨rfl, rfl⟩ := hoe
          rw [stps_get l k f hfk] at hcf
          have hfb := stp_bd l f
          have hS : max L0 (stp l f) + 1 = stp l k := by
            rw [HST.out]
            have : stpO l (f : Int) = stp l f := by unfold stpO; rw [if_pos (by omega)]; rfl
            rw [this]
          obtain ⟨vf, hvf⟩ : ∃ vf, vf = stp l f := ⟨_, rfl⟩
          rw [← hvf] at hcf hfb hS
          have hfI : (f : Int) < (k : Int) := by omega
          have hf0 : (0 : Int) ≤ (f : Int) := by omega
          have hfb1 : vf ≤ 40 := by omega
          have hfb0 := hfb.1
          clear hy1 hvf hv4 hfb
          by_cases hgt : L0 < vf
          · have HSS : Hid (vf + 1 = stp l k) := by rw [← hS]; exact (show vf + 1 = max L0 vf + 1 by omega)
            clear hS
            go_wp2_with (first
              | (at_builtin; refine wpList_append_own_at _ rfl _ _ 27 rfl w.heap.size 3 i1 (.int .i64 0) 1 8 Try.underlying27 hi1 hy0 hy1 hy2 rfl (by decide) _ _ _ rfl (HROW2.out.alloc _) ⟨w2.heap.size, 0, none⟩ 1 1 [.int .i64 (vf + 1)] rfl rfl (cell_one11 _ _ rfl _ _) (by intro u hu; simp at hu; subst hu; rfl) (by unfold maxLen; omega) (by omega) (by simp; omega) ?_)
              | go_in)
            intro v6 w6 hown6 hgrow6 _ hat6
            have hb6 : Below w.heap.size w w6 := (B2.out.alloc B2.out.size _).grown hgrow6 (by simp; omega) (fun q hq => (HROW2.out.lt q hq).1)
            have hown7 : w6.ownsRow w.heap.size 3 1 v6 (k + 1) ((stps l (k + 1)).map (Value.int .i64)) := by
              rw [stps_succ, ← HSS.out]
              simpa using hown6
            have H7 := hide hown7
            clear hown6 hgrow6 hown7 hat6
            go_wp2
            go_roundw
            case rel => exact ⟨k + 1, by omega, by go_num, H7.out, hb6⟩
            case measure => simp [intOf]; omega
          · have HSS : Hid (L0 + 1 = stp l k) := by rw [← hS]; exact (show L0 + 1 = max L0 vf + 1 by omega)
            clear hS
            go_wp2_with (first
              | (at_builtin; refine wpList_append_own_at _ rfl _ _ 27 rfl w.heap.size 3 i1 (.int .i64 0) 1 8 Try.underlying27 hi1 hy0 hy1 hy2 rfl (by decide) _ _ _ rfl (HROW2.out.alloc _) ⟨w2.heap.size, 0, none⟩ 1 1 [.int .i64 (L0 + 1)] rfl rfl (cell_one11 _ _ rfl _ _) (by intro u hu; simp at hu; subst hu; rfl) (by unfold maxLen; omega) (by omega) (by simp; omega) ?_)
              | go_in)
            intro v6 w6 hown6 hgrow6 _ hat6
            have hb6 : Below w.heap.size w w6 := (B2.out.alloc B2.out.size _).grown hgrow6 (by simp; omega) (fun q hq => (HROW2.out.lt q hq).1)
            have hown7 : w6.ownsRow w.heap.size 3 1 v6 (k + 1) ((stps l (k + 1)).map (Value.int .i64)) := by
              rw [stps_succ, ← HSS.out]
              simpa using hown6
            have H7 := hide hown7
            clear hown6 hgrow6 hown7 hat6
            go_wp2
            go_roundw
            case rel => exact ⟨k + 1, by omega, by go_num, H7.out, hb6⟩
            case measure => simp [intOf]; omega
    · have hltI : ¬ (k : Int) < (n : Int) := by omega
      obtain rfl : k = n := by omega
      have HO := hide hown
      have B9 := hide hbel
      clear hown hbel
      go_wp2
      go_ret2
      exact ⟨_, by rw [HR.out]; rfl, by rw [HR.out]; simp only [Option.getD_some, stps_len]; exact HO.out, B9.out⟩
end Go.Proofs.Ytkfnejiiancmhad.L11

namespace Go.Proofs.Ytkfnejiiancmhad.L11
open Go.RowKit L1 Own
set_option linter.unusedVariables false

theorem own_baseJ {w : World} {b c n size : Nat} {e : TypeId} {v : Value} {xs : List Value} (h : w.ownsRow c e size v n xs) (hbc : b ≤ c) : w.ownsRow b e size v n xs := by
  refine ⟨h.1, ?_⟩
  rcases h.2 with h0 | ⟨g, cap, cur, hv, hg, r⟩
  · exact .inl h0
  · exact .inr ⟨g, cap, cur, hv, Nat.le_trans hbc hg, r⟩
/-- One clock is less than another. -/
def LsC (l m : List Int) : Prop := (∀ i, i < 5 → fnL l i ≤ fnL m i) ∧ ¬ ∀ i, i < 5 → fnL l i = fnL m i
/-- Two lists that may be clocks of the same nodes. -/
def TwoC (l m : List Int) : Prop := (OkC l ∧ OkC m) ∧ l.length = m.length
end Go.Proofs.Ytkfnejiiancmhad.L11

namespace Go.Proofs.Ytkfnejiiancmhad.L11
open Go.RowKit L1 Own
set_option linter.unusedVariables false

set_option maxRecDepth 100000 in
set_option maxHeartbeats 4000000 in
theorem lessClock_any (a b : Option Addr) (l m : List Int) (n k ca cb : Nat) (w : World) (hn : l.length = n) (hk : m.length = k) (ha : Sl w a l) (hb : Sl w b m) (hn2 : n ≤ 1048576) (hk2 : k ≤ 1048576)
    (c r : Bool) (hc : c = true ↔ TwoC l m) (hr : r = true ↔ TwoC l m ∧ LsC l m) :
    Calls Try.prog 40 #[.slice a n ca, .slice b k cb] w fun e w' => e = .returned (.tuple #[.bool r, .bool c]) ∧ Below w.heap.size w w' := by
  have hc2 : c = true ↔ (OkC l ∧ OkC m) ∧ n = k := by rw [hc, ← hn, ← hk]; rfl
  cases c with
  | true =>
    have h0 := hc.1 rfl
    have C := hide (fun w ha hb => readClocks_any a b l m n k ca cb w hn hk ha hb hn2 hk2 true (by simp [h0.1.1]) (fnL l) rfl true (by simp [h0.1.2]) (fnL m) rfl true hc2)
    have CL := hide (fun w => isLess_any (fnL l) (fnL m) w r (hr.trans ⟨fun h => h.2, fun h => ⟨h0, h⟩⟩))
    have HA := hide ha
    have HB := hide hb
    clear hn hk ha hb hc hr hc2 h0
    go_enter Try.func40, Try.ntmps40
    go_wp2_with fail
    refine (C.out _ HA.out HB.out).mono ?_
    rintro e w1 ⟨rfl, hb1⟩
    have B1 := hide hb1
    clear hb1
    go_wp2_with fail
    refine (CL.out _).mono ?_
    rintro e w2 ⟨rfl, hb2⟩
    have B2 := hide hb2
    clear hb2
    go_wp2
    go_ret2
    have b3 := (B1.out.alloc B1.out.size (.cells #[.int .i64 (fnL l 0), .int .i64 (fnL l 1), .int .i64 (fnL l 2), .int .i64 (fnL l 3), .int .i64 (fnL l 4)] 112)).alloc (by simp; have := B1.out.size; omega) (.cells #[.int .i64 (fnL m 0), .int .i64 (fnL m 1), .int .i64 (fnL m 2), .int .i64 (fnL m 3), .int .i64 (fnL m 4)] 112)
    exact ⟨rfl, b3.trans (B2.out.mono (b3.size))⟩
  | false =>
    obtain rfl : r = false := by cases r with
      | false => rfl
      | true => exact absurd (hc.2 (hr.1 rfl).1) (by simp)
    obtain ⟨ba, hba⟩ : ∃ ba : Bool, ba = true ↔ OkC l := by
      by_cases h : OkC l
      · exact ⟨true, by simp [h]⟩
      · exact ⟨false, by simp [h]⟩
    obtain ⟨bb, hbb⟩ : ∃ bb : Bool, bb = true ↔ OkC m := by
      by_cases h : OkC m
      · exact ⟨true, by simp [h]⟩
      · exact ⟨false, by simp [h]⟩
    obtain ⟨X, hX⟩ : ∃ X : Nat → Int, X = if ba then fnL l else fun _ => 0 := ⟨_, rfl⟩
    obtain ⟨Y, hY⟩ : ∃ Y : Nat → Int, Y = if bb then fnL m else fun _ => 0 := ⟨_, rfl⟩
    have C := hide (fun w ha hb => readClocks_any a b l m n k ca cb w hn hk ha hb hn2 hk2 ba hba X hX bb hbb Y hY false hc2)
    have HA := hide ha
    have HB := hide hb
    clear hn hk ha hb hc hr hc2 hba hbb hX hY
    go_enter Try.func40, Try.ntmps40
    go_wp2_with fail
    refine (C.out _ HA.out HB.out).mono ?_
    rintro e w1 ⟨rfl, hb1⟩
    have B1 := hide hb1
    clear hb1
    go_wp2
    go_ret2
    exact ⟨rfl, (B1.out.alloc B1.out.size _).alloc (by simp; have := B1.out.size; omega) _⟩
end Go.Proofs.Ytkfnejiiancmhad.L11

namespace Go.Proofs.Ytkfnejiiancmhad.Own
open Go.RowKit L1
set_option linter.unusedVariables false

set_option maxRecDepth 100000 in
set_option maxHeartbeats 1000000 in
theorem l1All_any (a : Option Addr) (xs : List Int) (n cap : Nat) (lo hi : Int) (w : World) (hn : xs.length = n) (hs : Sl w a xs) (hn2 : n ≤ 1048576) (bb : Bool) (hbb : bb = true ↔ ∀ j, j < n → lo ≤ xs.getD j 0 ∧ xs.getD j 0 ≤ hi) :
    Calls Try.prog 110 #[.slice a n cap, .int .i64 lo, .int .i64 hi] w fun e w' => e = .returned (.bool bb) ∧ w = w' := by
  have HS := hide hs
  have HN := hide hn
  have HBB := hide hbb
  clear hs hn hbb
  go_enter Try.func110, Try.ntmps110
  go_wp2
  go_loop [11] (fun i => ∃ k : Nat, k ≤ n ∧ i = .int .i64 k ∧ Hid (∀ j, j < k → lo ≤ xs.getD j 0 ∧ xs.getD j 0 ≤ hi)) (fun i => n - (intOf i).toNat)
  case atStart => exact ⟨0, Nat.zero_le _, rfl, fun j hj => absurd hj (Nat.not_lt_zero _)⟩
  case round =>
    obtain ⟨k, hk, rfl, HJ⟩ := hrel
    by_cases hlt : k < n
    · obtain ⟨b, off, rfl, hc⟩ := HS.out k (by rw [HN.out]; exact hlt)
      have hltI : (k : Int) < (n : Int) := by omega
      obtain ⟨x, hx⟩ : ∃ x, x = xs.getD k 0 := ⟨_, rfl⟩
      rw [← hx] at hc
      have HX := hide hx.symm
      clear hx
      by_cases hle : lo ≤ x ∧ x ≤ hi
      · have C := hide (fun w => l1In_any x lo hi w true (by simp [hle]))
        have HLE := hide hle
        clear hle
        go_wp2_with fail
        refine (C.out _).mono ?_
        rintro e w1 ⟨rfl, rfl⟩
        go_wp2
        go_round
        case rel =>
          refine ⟨k + 1, by omega, by go_num, ?_⟩
          intro j hj
          by_cases e : j = k
          · subst e; rw [HX.out]; exact HLE.out
          · exact HJ.out j (by omega)
        case measure => simp [intOf]; omega
      · have C := hide (fun w => l1In_any x lo hi w false (by simp only [Bool.false_eq_true, false_iff]; exact hle))
        have HM : Hid (bb = false) := hide (bool_noT HBB.out (fun h => hle (by have := h k hlt; rw [HX.out] at this; exact this)))
        clear hle
        go_wp2_with fail
        refine (C.out _).mono ?_
        rintro e w1 ⟨rfl, rfl⟩
        go_wp2
        go_ret
        exact ⟨by rw [HM.out]; rfl, rfl⟩
    · have hltI : ¬ (k : Int) < (n : Int) := by omega
      have HM := hide (HBB.out.2 (fun j hj => HJ.out j (by omega)))
      go_wp2
      go_ret
      exact ⟨by rw [HM.out]; rfl, rfl⟩

end Go.Proofs.Ytkfnejiiancmhad.Own

namespace Go.Proofs.Ytkfnejiiancmhad.L11
open Go.RowKit L1 Own
set_option linter.unusedVariables false

set_option maxRecDepth 100000 in
set_option maxHeartbeats 4000000 in
theorem l11Clock_any (a : Option Addr) (l : List Int) (n cap : Nat) (w : World) (hn : l.length = n) (hs : Sl w a l) (hn2 : n ≤ 1048576) (b : Bool) (hb : b = true ↔ OkC l) :
    Calls Try.prog 87 #[.slice a n cap] w fun e w' => e = .returned (.bool b) ∧ w = w' := by
  by_cases h : 1 ≤ (n : Int) ∧ (n : Int) ≤ 5
  · have C1 := hide (fun w => l1In_any (n : Int) 1 5 w true (by simp; omega))
    have C2 := hide (l1All_any a l n cap 0 40 w hn hs hn2 b (hb.trans ⟨fun h j hj => h.2.2 j (by omega), fun h2 => ⟨by omega, by omega, fun j hj => h2 j (by omega)⟩⟩))
    clear hb hs hn h
    go_enter Try.func87, Try.ntmps87
    go_wp2_with fail
    refine (C1.out _).mono ?_
    rintro e w1 ⟨rfl, rfl⟩
    go_wp2_with fail
    refine C2.out.mono ?_
    rintro e w1 ⟨rfl, rfl⟩
    go_wp2
    go_ret
    exact ⟨rfl, rfl⟩
  · have C1 := hide (fun w => l1In_any (n : Int) 1 5 w false (by simp; omega))
    have E : Hid (b = false) := by
      cases b with
      | false => rfl
      | true => have h1 := (hb.1 rfl).1; have h2 := (hb.1 rfl).2.1; omega
    clear hb hs hn h
    go_enter Try.func87, Try.ntmps87
    go_wp2_with fail
    refine (C1.out _).mono ?_
    rintro e w1 ⟨rfl, rfl⟩
    go_wp2
    go_ret
    exact ⟨by rw [E.out]; rfl, rfl⟩
end Go.Proofs.Ytkfnejiiancmhad.L11

namespace Go.Proofs.Ytkfnejiiancmhad.Own
open Go.RowKit L1
set_option linter.unusedVariables false

theorem below_drewM {N : Nat} {w w' : World} (h : Below N w w') : ∀ q, Below N w (w'.drewN q)
  | 0 => h
  | q + 1 => (below_drewM h q).drew
set_option maxRecDepth 100000 in
set_option maxHeartbeats 1000000 in
theorem l1Same_any (a b : Option Addr) (xs ys : List Int) (n m c1 c2 : Nat) (w : World) (hn : xs.length = n) (hm : ys.length = m) (ha : Sl w a xs) (hb : Sl w b ys) (hn2 : n ≤ 9223372036854775807) (hm2 : m ≤ 9223372036854775807) (bb : Bool) (hbb : bb = true ↔ xs = ys) :
    Calls Try.prog 69 #[.slice a n c1, .slice b m c2] w fun e w' => e = .returned (.bool bb) ∧ Below w.heap.size w w' := by
  have HA := hide ha
  have HB := hide hb
  have HN := hide hn
  have HM := hide hm
  have HBB := hide hbb
  clear ha hb hn hm hbb
  by_cases hnm : n = m
  · subst hnm
    go_enter Try.func69, Try.ntmps69
    go_wp2
    go_loopw [13] (fun i wr => ∃ k : Nat, k ≤ n ∧ i = .int .i64 k ∧ Hid (∀ j, j < k → xs.getD j 0 = ys.getD j 0) ∧ Below w.heap.size w wr) (fun i _ => n - (intOf i).toNat)
    case atStart => exact ⟨0, Nat.zero_le _, rfl, fun j hj => absurd hj (Nat.not_lt_zero _), Below.refl _ _⟩
    case round =>
      obtain ⟨k, hk, rfl, HK, hbel⟩ := hrel
      by_cases hlt : k < n
      · obtain ⟨b1, o1, rfl, h1⟩ := HA.out k (by rw [HN.out]; exact hlt)
        obtain ⟨b2, o2, rfl, h2⟩ := HB.out k (by rw [HM.out]; exact hlt)
        have g1 := (hbel.cell (p := ⟨b1, o1 + k, none⟩) (blk_lt h1)).trans h1
        have g2 := (hbel.cell (p := ⟨b2, o2 + k, none⟩) (blk_lt h2)).trans h2
        obtain ⟨x, hx⟩ : ∃ x, x = xs.getD k 0 := ⟨_, rfl⟩
        obtain ⟨y, hy⟩ : ∃ y, y = ys.getD k 0 := ⟨_, rfl⟩
        rw [← hx] at g1
        rw [← hy] at g2
        have hltI : (k : Int) < (n : Int) := by omega
        clear h1 h2
        by_cases hxy : x = y
        · have HK2 : Hid (∀ j, j < k + 1 → xs.getD j 0 = ys.getD j 0) := fun j hj => by
            by_cases e : j = k
            · subst e; rw [← hx, ← hy, hxy]
            · exact HK.out j (by omega)
          clear hx hy
          subst hxy
          go_wp2
          go_quiet (fail)
          go_wp2
          go_roundw
          case rel => exact ⟨k + 1, by omega, by go_num, HK2.out, below_drewM hbel _⟩
          case measure => simp [intOf]; omega
        · have hE : bb = false := by
            cases bb with
            | false => rfl
            | true =>
              have := HBB.out.1 rfl
              exact absurd (by rw [hx, hy, this]) hxy
          subst hE
          clear hx hy
          go_wp2
          go_quiet (fail)
          go_wp2
          go_ret
          exact ⟨rfl, below_drewM hbel _⟩
      · obtain rfl : k = n := by omega
        have hltI : ¬ (k : Int) < (k : Int) := by omega
        have hE : bb = true := HBB.out.2 (list_same HM.out HN.out (fun j hj => HK.out j hj))
        subst hE
        go_wp2
        go_ret
        exact ⟨rfl, hbel⟩
  · have hE : bb = false := by
      cases bb with
      | false => rfl
      | true =>
        have := HBB.out.1 rfl
        have h1 := HN.out
        rw [this, HM.out] at h1
        exact absurd h1.symm hnm
    subst hE
    have hI : ¬ (n : Int) = (m : Int) := by omega
    go_enter Try.func69, Try.ntmps69
    go_wp2
    go_ret
    exact ⟨rfl, Below.refl _ _⟩

end Go.Proofs.Ytkfnejiiancmhad.Own
