/-
  Contract: impl.ClocksOf.
-/
import Derived.Test.YtkfnejiiancmhahL11SSP
namespace Go.Proofs.Ytkfnejiiancmhah.L11
open Go.RowKit L1 Own
set_option linter.unusedVariables false

theorem own_twoC {w : World} {B1 B2 n1 n2 : Nat} {v : Value} {g cap : Nat} {xs ys : List Value} (h1 : w.ownsRow B1 38 1 v n1 xs) (h2 : w.ownsRow B2 59 5 (.slice (some ⟨g, 0, none⟩) n2 cap) n2 ys) : (Value.slice (some ⟨g, 0, none⟩) n2 cap).ownBlock ≠ v.ownBlock := fun e => by
  rcases h1.2 with ⟨hv, _⟩ | ⟨q, cap1, cur, hv, _, hh, _⟩
  · rw [hv] at e; cases e
  · rw [hv] at e
    have e2 : g = q := by simpa [Value.ownBlock] using e
    rcases h2.2 with ⟨hv2, _⟩ | ⟨q2, cap2, cur2, hv2, _, hh2, _⟩
    · cases hv2
    · simp at hv2
      rw [← hv2.1, e2, hh] at hh2
      simp at hh2
set_option maxRecDepth 100000 in
set_option maxHeartbeats 4000000 in
theorem clocksOfI_any (N : Int) (a : Option Addr) (l : List (Int × Int)) (n cap : Nat) (w : World) (hn : l.length = n) (hs : Sl2 w a l) (hn2 : n ≤ 1048576) (b : Bool) (hb : b = true ↔ GoodV N l) (m : Nat) (hm : m = if b then n else 0) :
    Calls Try.prog 15 #[.int .i64 N, .slice a n cap] w fun e w' => RetS w b m N.toNat (cE l) e w' := by
  cases b with
  | false =>
    have CG := hide (fun w hs => goodEvents_any N a l n cap w hn hs hn2 false (by simpa using hb))
    have hm0 : m = 0 := hm
    subst hm0
    have HS := hide hs
    clear hb hm hs hn
    go_enter Try.func15, Try.ntmps15
    go_wp2_with fail
    refine (CG.out _ HS.out).mono ?_
    rintro e w1 ⟨rfl, hb1⟩
    have B1 := hide hb1
    clear hb1
    go_wp2
    go_ret2
    exact ⟨_, rfl, SW.nil _ _ _ _ _, B1.out⟩
  | true =>
    have hg := hb.1 rfl
    have CG := hide (fun w hs => goodEvents_any N a l n cap w hn hs hn2 true (by simp [hg]))
    have hmn : m = n := hm
    subst hmn
    obtain ⟨Nn, hNn⟩ : ∃ Nn : Nat, N = (Nn : Int) := ⟨N.toNat, by have := hg.1; omega⟩
    subst hNn
    have hNt : (Nn : Int).toNat = Nn := rfl
    rw [hNt]
    have h40 : m ≤ 40 := by have := hg.2.2.1; omega
    have CC := hide (fun w hs => clocksOf_any (Nn : Int) a l m cap w hn hs hg)
    have CLL := hide (fun E w => clockList_any E Nn (by have := hg.1; omega) (by have := hg.2.1; omega) w)
    obtain ⟨j1, hj1, hz0, hz1, hz2⟩ := info_parts info_sl11
    have HN1 : Hid (1 ≤ Nn) := hide (by have := hg.1; omega)
    have HS := hide hs
    clear hb hm hs hg hNt
    go_enter Try.func15, Try.ntmps15
    go_wp2_with fail
    refine (CG.out _ HS.out).mono ?_
    rintro e w1 ⟨rfl, hb1⟩
    have B1 := hide hb1
    clear hb1
    go_wp2_with fail
    refine (CC.out _ (HS.out.below B1.out)).mono ?_
    rintro e w2 ⟨v, rfl, ho, hb2⟩
    have B2 := hide (B1.out.trans (hb2.mono B1.out.size))
    obtain ⟨oa, ocap, rfl⟩ : ∃ oa ocap, v = .slice oa m ocap := by
      rcases ho.2 with ⟨hv, h0⟩ | ⟨q, cap, cur, hv, _⟩
      · subst h0; exact ⟨none, 0, hv⟩
      · exact ⟨_, cap, hv⟩
    have HO := hide ho
    clear ho hb2 CC CG B1
    go_wp2
    go_loopw [6, 16] (fun ot i wr => ∃ k : Nat, k ≤ m ∧ i = .int .i64 k ∧ Hid (SW wr w.heap.size wr.heap.size ot k Nn (cE l)) ∧ Hid (Below w.heap.size w wr) ∧ Hid (w2.ownsRow w1.heap.size 59 5 (.slice oa m ocap) m (flat5 (cE l) m) → wr.ownsRow w1.heap.size 59 5 (.slice oa m ocap) m (flat5 (cE l) m))) (fun _ i _ => m - (intOf i).toNat)
    case atStart => exact ⟨0, Nat.zero_le _, rfl, SW.nil _ _ _ _ _, B2, fun h => h⟩
    case round =>
      obtain ⟨k, hk, rfl, HW, HB, HKO⟩ := hrel
      obtain ⟨bs, cs, hV⟩ := HW.out
      obtain ⟨ta, tcap, hot⟩ := hV.form
      subst hot
      by_cases hlt : k < m
      · obtain ⟨oq, hoa⟩ : ∃ q, oa = some ⟨q, 0, none⟩ := by
          rcases HO.out.2 with ⟨hv, h0⟩ | ⟨q, cap, cur, hv, _⟩
          · omega
          · exact ⟨q, by simp at hv; exact hv.1⟩
        subst hoa
        have hO := HKO.out HO.out
        have o0 := hO.cells (g := oq) rfl (k * 5 + 0) _ (flat5_get (cE l) m k 0 hlt (by omega))
        have o1 := hO.cells (g := oq) rfl (k * 5 + 1) _ (flat5_get (cE l) m k 1 hlt (by omega))
        have o2 := hO.cells (g := oq) rfl (k * 5 + 2) _ (flat5_get (cE l) m k 2 hlt (by omega))
        have o3 := hO.cells (g := oq) rfl (k * 5 + 3) _ (flat5_get (cE l) m k 3 hlt (by omega))
        have o4 := hO.cells (g := oq) rfl (k * 5 + 4) _ (flat5_get (cE l) m k 4 hlt (by omega))
        rw [addr_add] at o0 o1 o2 o3 o4
        simp only [Nat.add_zero] at o0 o1 o2 o3 o4
        obtain ⟨E, hE⟩ : ∃ E : Nat → Int, E = cE l k := ⟨_, rfl⟩
        rw [← hE] at o0 o1 o2 o3 o4
        have HE := hide hE
        have hltI : (k : Int) < (m : Int) := by omega
        have HV := hide hV
        have HOw := hide hO
        have hwr := HB.out.size
        clear hV hO hE HW HKO
        go_upto_region 7 with fail
        obtain ⟨W0, hW0⟩ : ∃ W0, wr.alloc (.cells #[.int .i64 (E 0), .int .i64 (E 1), .int .i64 (E 2), .int .i64 (E 3), .int .i64 (E 4)] 59) = W0 := ⟨_, rfl⟩
        have hbw : Below wr.heap.size wr W0 := by rw [← hW0]; exact (Below.refl _ _).alloc (Nat.le_refl _) _
        have hA : Clk W0 w.heap.size wr.heap.size E := by rw [← hW0]; exact clk_new wr _ _ rfl hwr E
        have HV0 := hide (HV.out.below hbw)
        have HO0 := hide (own_belowT HOw.out hbw)
        have HB0 := hide (HB.out.trans (hbw.mono HB.out.size))
        have hz0w : wr.heap.size ≤ W0.heap.size := hbw.size
        rw [hW0]
        obtain ⟨eb, heb⟩ : ∃ eb, eb = wr.heap.size := ⟨_, rfl⟩
        rw [← heb] at hA HV0 hz0w ⊢
        have a0 := hA.cell 0 (by omega)
        have a1 := hA.cell 1 (by omega)
        have a2 := hA.cell 2 (by omega)
        have a3 := hA.cell 3 (by omega)
        have a4 := hA.cell 4 (by omega)
        clear hW0 hbw hA heb HV HOw HB o0 o1 o2 o3 o4
        go_wp2_with fail
        refine (CLL.out E _).mono ?_
        rintro e V5 ⟨v5, rfl, ho5, hb5⟩
        obtain ⟨cq, cc, rfl⟩ : ∃ cq cc, v5 = .slice (some ⟨cq, 0, none⟩) Nn cc := by
          rcases ho5.2 with ⟨_, h0⟩ | ⟨q, cap, cur, hv, _⟩
          · have := HN1.out; omega
          · exact ⟨q, cap, hv⟩
        have HV5 := hide (HV0.out.below hb5)
        have HO5 := hide (own_belowT HO0.out hb5)
        have B5 := hide (HB0.out.trans (hb5.mono HB0.out.size))
        have HCQ : Hid (eb ≤ cq) := hide (Nat.le_trans hz0w (ho5.lt cq rfl).1)
        have HR5 : Hid (V5.ownsRow w.heap.size 3 1 (.slice (some ⟨cq, 0, none⟩) Nn cc) Nn (lA Nn (cE l k))) := hide (by
          have h1 := own_baseT ho5 HB0.out.size
          rw [clL_lA, HE.out] at h1
          exact h1)
        have hsz5 := B5.out.size
        clear ho5 hb5 HV0 HO0 HB0 hz0w a0 a1 a2 a3 a4
        go_wp2_with (first
          | (at_builtin; refine wpList_append_own_at _ rfl _ _ 29 rfl w.heap.size 38 j1 (.slice none 0 0) 1 24 Try.underlying29 hj1 hz0 hz1 hz2 rfl (by decide) _ _ _ rfl (HV5.out.out.alloc _) ⟨V5.heap.size, 0, none⟩ 1 1 [.slice (some ⟨cq, 0, none⟩) Nn cc] rfl rfl (cell_sl11 _ _ rfl _ _) (by intro u hu; simp at hu; subst hu; rfl) (by unfold maxLen; omega) (by omega) (by simp; omega) ?_)
          | go_in)
        intro v6 w6 hown6 hgrow6 _ _
        have H7 : Hid (SW w6 w.heap.size w6.heap.size v6 (k + 1) Nn (cE l)) := hide (sv_push HV5.out cq cc HCQ.out HR5.out ((Below.refl _ _).alloc (Nat.le_refl _) _) hown6 hgrow6)
        have B7 : Hid (Below w.heap.size w w6) := hide ((B5.out.alloc B5.out.size _).grown hgrow6 (by simp; omega) (fun q hq => (HV5.out.out.lt q hq).1))
        have HKQ : Hid (w6.ownsRow w1.heap.size 59 5 (.slice (some ⟨oq, 0, none⟩) m ocap) m (flat5 (cE l) m)) := hide ((own_belowT HO5.out ((Below.refl _ _).alloc (Nat.le_refl _) _)).kept hgrow6 (.inr (own_twoC HV5.out.out HO5.out)))
        clear hown6 hgrow6
        have HK7 : Hid (w2.ownsRow w1.heap.size 59 5 (.slice (some ⟨oq, 0, none⟩) m ocap) m (flat5 (cE l) m) → w6.ownsRow w1.heap.size 59 5 (.slice (some ⟨oq, 0, none⟩) m ocap) m (flat5 (cE l) m)) := hide (fun _ => HKQ.out)
        go_wp2
        go_roundw
        case rel => exact ⟨k + 1, by omega, by go_num, H7, B7, HK7⟩
        case measure => simp [intOf]; omega
      · have hltI : ¬ (k : Int) < (m : Int) := by omega
        obtain rfl : k = m := by omega
        have H9 := hide (show SW wr w.heap.size wr.heap.size _ k Nn (cE l) from ⟨bs, cs, hV⟩)
        clear hV HW HKO
        go_wp2
        go_ret2
        exact ⟨_, rfl, H9.out, HB.out⟩
end Go.Proofs.Ytkfnejiiancmhah.L11
