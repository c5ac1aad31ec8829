/-
  A list more behind lists of lists. Nothing of the program's text is proved here but closed facts on its types.
  Contract: impl.ClocksOf.
  Plain facts on clocks as lists. Nothing of the program's text is proved here.
  Plain facts on cuts as lists. Nothing of the program's text is proved here.
  Contract of the laws' own helper sameInts: it says that two lists of ints alike are alike.
  Contracts of the specification's cursor (spec.l1Cur), from which the laws draw: next, pick, one, among. They say that a call returns, in which range its answer lies, and that it turns nothing but the cursor itself.
  Texts as lists of bytes. Nothing of the program's text is proved here.
  Helpers of the draws: a cursor that is new, rows that stay where one block is written into. Nothing of the program's text is proved here.
-/
import Derived.Test.YtkfnejiiancmhadBundle5
import Derived.Test.YtkfnejiiancmhadBundle2
import Derived.Test.YtkfnejiiancmhadBundle3
import Derived.Test.YtkfnejiiancmhadBundle4
import Derived.Deep.QuietTactic
import Derived.BigQuiet
import Derived.Test.YtkfnejiiancmhadBundle1
import Derived.Lib.Builder
namespace Go.Proofs.Ytkfnejiiancmhad.L11
open Go.RowKit L1 Own
set_option linter.unusedVariables false

theorem info_sl11 : (Try.prog.info? 27).map (fun i => (i.zero, i.size, i.bytes)) = some (some (.slice none 0 0), 1, 24) := by kernel_rfl
theorem sv_push {w W w6 : World} {B T : Nat} {ot v6 : Value} {k N : Nat} {bs cs : Nat → Nat} {G : Nat → Nat → Int} (h : SV w B T ot k N bs cs G) (q c : Nat) (hq : T ≤ q) (hr : w.ownsRow B 3 1 (.slice (some ⟨q, 0, none⟩) N c) N (lA N (G k))) (hW : Below w.heap.size w W)
    (h6 : w6.ownsRow B 27 1 v6 (k + 1) (lS k N bs cs ++ [.slice (some ⟨q, 0, none⟩) N c])) (hg : W.grownBy w6 ot.ownBlock) : SW w6 B w6.heap.size v6 (k + 1) N G := by
  have hqo : ot.ownBlock ≠ some q := fun e => by have := h.top q e; omega
  have hkeep : ∀ r, r < w.heap.size → ot.ownBlock ≠ some r → w6.heap[r]? = w.heap[r]? := fun r h1 h2 => (hg.block r (Nat.lt_of_lt_of_le h1 hW.size) (Ne.symm h2)).trans (hW.block r h1)
  have hrow : ∀ i, i < k + 1 → w6.ownsRow B 3 1 (.slice (some ⟨if i = k then q else bs i, 0, none⟩) N (if i = k then c else cs i)) N (lA N (G i)) := fun i hi => by
    by_cases e : i = k
    · subst e
      rw [if_pos rfl, if_pos rfl]
      exact own_blkS hr (fun r hr2 => by
        have h5 : q = r := by simpa [Value.ownBlock] using hr2
        rw [← h5]
        exact hkeep q ((hr.lt q rfl).2) hqo)
    · rw [if_neg e, if_neg e]
      exact own_blkS (h.row i (by omega)) (fun r hr2 => by
        have h5 : bs i = r := by simpa [Value.ownBlock] using hr2
        rw [← h5]
        exact hkeep (bs i) (((h.row i (by omega)).lt (bs i) rfl).2) (h.two i (by omega)))
  refine ⟨fun i => if i = k then q else bs i, fun i => if i = k then c else cs i, ?_, fun r hr => (h6.lt r hr).2, hrow, fun i hi => ((hrow i hi).lt _ rfl).2, fun i j hi hj e => ?_⟩
  · rw [lS_succ, if_pos rfl, if_pos rfl]
    have e2 : lS k N (fun i => if i = k then q else bs i) (fun i => if i = k then c else cs i) = lS k N bs cs := lS_congr k N _ _ _ _ (fun i hi => by
      have : i ≠ k := by omega
      simp [this])
    rw [e2]
    exact h6
  · (try dsimp only at e)
    by_cases hik : i = k
    · by_cases hjk : j = k
      · omega
      · rw [if_pos hik, if_neg hjk] at e
        have := h.rtop j (by omega)
        omega
    · by_cases hjk : j = k
      · rw [if_neg hik, if_pos hjk] at e
        have := h.rtop i (by omega)
        omega
      · rw [if_neg hik, if_neg hjk] at e
        exact h.inj i j (by omega) (by omega) e
theorem cell_sl11 (w : World) (g : Nat) (hg : w.heap.size = g) (p : Value) (t : TypeId) : ∀ j u, [p][j]? = some u → (w.alloc (.cells #[p] t)).cell? ((⟨g, 0, none⟩ : Addr).add j) = some u := by
  subst hg
  intro j u h
  rw [addr_add]
  match j, h with
  | 0, h => simp at h; subst h; simp
  | j + 1, h => simp at h
theorem lS_one (k N : Nat) (bs cs : Nat → Nat) : ∀ u ∈ [Value.slice (some ⟨k, 0, none⟩) N k], u.oneCell' = true := by intro u hu; simp at hu; subst hu; rfl
/-- What ClocksOf hands back. -/
def RetS (w : World) (b : Bool) (n N : Nat) (G : Nat → Nat → Int) (e : Ending) (w' : World) : Prop :=
  ∃ v, e = .returned (.tuple #[v, .bool b]) ∧ SW w' w.heap.size w'.heap.size v n N G ∧ Below w.heap.size w w'
end Go.Proofs.Ytkfnejiiancmhad.L11

namespace Go.Proofs.Ytkfnejiiancmhad.L11
open Go.RowKit L1 Own
set_option linter.unusedVariables false

theorem own_twoC {w : World} {B1 B2 n1 n2 : Nat} {v : Value} {g cap : Nat} {xs ys : List Value} (h1 : w.ownsRow B1 27 1 v n1 xs) (h2 : w.ownsRow B2 112 5 (.slice (some ⟨g, 0, none⟩) n2 cap) n2 ys) : (Value.slice (some ⟨g, 0, none⟩) n2 cap).ownBlock ≠ v.ownBlock := fun e => by
  rcases h1.2 with ⟨hv, _⟩ | ⟨q, cap1, cur, hv, _, hh, _⟩
  · rw [hv] at e; cases e
  · rw [hv] at e
    have e2 : g = q := by simpa [Value.ownBlock] using e
    rcases h2.2 with ⟨hv2, _⟩ | ⟨q2, cap2, cur2, hv2, _, hh2, _⟩
    · cases hv2
    · simp at hv2
      rw [← hv2.1, e2, hh] at hh2
      simp at hh2
set_option maxRecDepth 100000 in
set_option maxHeartbeats 4000000 in
theorem clocksOfI_any (N : Int) (a : Option Addr) (l : List (Int × Int)) (n cap : Nat) (w : World) (hn : l.length = n) (hs : Sl2 w a l) (hn2 : n ≤ 1048576) (b : Bool) (hb : b = true ↔ GoodV N l) (m : Nat) (hm : m = if b then n else 0) :
    Calls Try.prog 33 #[.int .i64 N, .slice a n cap] w fun e w' => RetS w b m N.toNat (cE l) e w' := by
  cases b with
  | false =>
    have CG := hide (fun w hs => goodEvents_any N a l n cap w hn hs hn2 false (by simpa using hb))
    have hm0 : m = 0 := hm
    subst hm0
    have HS := hide hs
    clear hb hm hs hn
    go_enter Try.func33, Try.ntmps33
    go_wp2_with fail
    refine (CG.out _ HS.out).mono ?_
    rintro e w1 ⟨rfl, hb1⟩
    have B1 := hide hb1
    clear hb1
    go_wp2
    go_ret2
    exact ⟨_, rfl, SW.nil _ _ _ _ _, B1.out⟩
  | true =>
    have hg := hb.1 rfl
    have CG := hide (fun w hs => goodEvents_any N a l n cap w hn hs hn2 true (by simp [hg]))
    have hmn : m = n := hm
    subst hmn
    obtain ⟨Nn, hNn⟩ : ∃ Nn : Nat, N = (Nn : Int) := ⟨N.toNat, by have := hg.1; omega⟩
    subst hNn
    have hNt : (Nn : Int).toNat = Nn := rfl
    rw [hNt]
    have h40 : m ≤ 40 := by have := hg.2.2.1; omega
    have CC := hide (fun w hs => clocksOf_any (Nn : Int) a l m cap w hn hs hg)
    have CLL := hide (fun E w => clockList_any E Nn (by have := hg.1; omega) (by have := hg.2.1; omega) w)
    obtain ⟨j1, hj1, hz0, hz1, hz2⟩ := info_parts info_sl11
    have HN1 : Hid (1 ≤ Nn) := hide (by have := hg.1; omega)
    have HS := hide hs
    clear hb hm hs hg hNt
    go_enter Try.func33, Try.ntmps33
    go_wp2_with fail
    refine (CG.out _ HS.out).mono ?_
    rintro e w1 ⟨rfl, hb1⟩
    have B1 := hide hb1
    clear hb1
    go_wp2_with fail
    refine (CC.out _ (HS.out.below B1.out)).mono ?_
    rintro e w2 ⟨v, rfl, ho, hb2⟩
    have B2 := hide (B1.out.trans (hb2.mono B1.out.size))
    obtain ⟨oa, ocap, rfl⟩ : ∃ oa ocap, v = .slice oa m ocap := by
      rcases ho.2 with ⟨hv, h0⟩ | ⟨q, cap, cur, hv, _⟩
      · subst h0; exact ⟨none, 0, hv⟩
      · exact ⟨_, cap, hv⟩
    have HO := hide ho
    clear ho hb2 CC CG B1
    go_wp2
    go_loopw [6, 16] (fun ot i wr => ∃ k : Nat, k ≤ m ∧ i = .int .i64 k ∧ Hid (SW wr w.heap.size wr.heap.size ot k Nn (cE l)) ∧ Hid (Below w.heap.size w wr) ∧ Hid (w2.ownsRow w1.heap.size 112 5 (.slice oa m ocap) m (flat5 (cE l) m) → wr.ownsRow w1.heap.size 112 5 (.slice oa m ocap) m (flat5 (cE l) m))) (fun _ i _ => m - (intOf i).toNat)
    case atStart => exact ⟨0, Nat.zero_le _, rfl, SW.nil _ _ _ _ _, B2, fun h => h⟩
    case round =>
      obtain ⟨k, hk, rfl, HW, HB, HKO⟩ := hrel
      obtain ⟨bs, cs, hV⟩ := HW.out
      obtain ⟨ta, tcap, hot⟩ := hV.form
      subst hot
      by_cases hlt : k < m
      · obtain ⟨oq, hoa⟩ : ∃ q, oa = some ⟨q, 0, none⟩ := by
          rcases HO.out.2 with ⟨hv, h0⟩ | ⟨q, cap, cur, hv, _⟩
          · omega
          · exact ⟨q, by simp at hv; exact hv.1⟩
        subst hoa
        have hO := HKO.out HO.out
        have o0 := hO.cells (g := oq) rfl (k * 5 + 0) _ (flat5_get (cE l) m k 0 hlt (by omega))
        have o1 := hO.cells (g := oq) rfl (k * 5 + 1) _ (flat5_get (cE l) m k 1 hlt (by omega))
        have o2 := hO.cells (g := oq) rfl (k * 5 + 2) _ (flat5_get (cE l) m k 2 hlt (by omega))
        have o3 := hO.cells (g := oq) rfl (k * 5 + 3) _ (flat5_get (cE l) m k 3 hlt (by omega))
        have o4 := hO.cells (g := oq) rfl (k * 5 + 4) _ (flat5_get (cE l) m k 4 hlt (by omega))
        rw [addr_add] at o0 o1 o2 o3 o4
        simp only [Nat.add_zero] at o0 o1 o2 o3 o4
        obtain ⟨E, hE⟩ : ∃ E : Nat → Int, E = cE l k := ⟨_, rfl⟩
        rw [← hE] at o0 o1 o2 o3 o4
        have HE := hide hE
        have hltI : (k : Int) < (m : Int) := by omega
        have HV := hide hV
        have HOw := hide hO
        have hwr := HB.out.size
        clear hV hO hE HW HKO
        go_upto_region 7 with fail
        obtain ⟨W0, hW0⟩ : ∃ W0, wr.alloc (.cells #[.int .i64 (E 0), .int .i64 (E 1), .int .i64 (E 2), .int .i64 (E 3), .int .i64 (E 4)] 112) = W0 := ⟨_, rfl⟩
        have hbw : Below wr.heap.size wr W0 := by rw [← hW0]; exact (Below.refl _ _).alloc (Nat.le_refl _) _
        have hA : Clk W0 w.heap.size wr.heap.size E := by rw [← hW0]; exact clk_new wr _ _ rfl hwr E
        have HV0 := hide (HV.out.below hbw)
        have HO0 := hide (own_belowT HOw.out hbw)
        have HB0 := hide (HB.out.trans (hbw.mono HB.out.size))
        have hz0w : wr.heap.size ≤ W0.heap.size := hbw.size
        rw [hW0]
        obtain ⟨eb, heb⟩ : ∃ eb, eb = wr.heap.size := ⟨_, rfl⟩
        rw [← heb] at hA HV0 hz0w ⊢
        have a0 := hA.cell 0 (by omega)
        have a1 := hA.cell 1 (by omega)
        have a2 := hA.cell 2 (by omega)
        have a3 := hA.cell 3 (by omega)
        have a4 := hA.cell 4 (by omega)
        clear hW0 hbw hA heb HV HOw HB o0 o1 o2 o3 o4
        go_wp2_with fail
        refine (CLL.out E _).mono ?_
        rintro e V5 ⟨v5, rfl, ho5, hb5⟩
        obtain ⟨cq, cc, rfl⟩ : ∃ cq cc, v5 = .slice (some ⟨cq, 0, none⟩) Nn cc := by
          rcases ho5.2 with ⟨_, h0⟩ | ⟨q, cap, cur, hv, _⟩
          · have := HN1.out; omega
          · exact ⟨q, cap, hv⟩
        have HV5 := hide (HV0.out.below hb5)
        have HO5 := hide (own_belowT HO0.out hb5)
        have B5 := hide (HB0.out.trans (hb5.mono HB0.out.size))
        have HCQ : Hid (eb ≤ cq) := hide (Nat.le_trans hz0w (ho5.lt cq rfl).1)
        have HR5 : Hid (V5.ownsRow w.heap.size 3 1 (.slice (some ⟨cq, 0, none⟩) Nn cc) Nn (lA Nn (cE l k))) := hide (by
          have h1 := own_baseT ho5 HB0.out.size
          rw [clL_lA, HE.out] at h1
          exact h1)
        have hsz5 := B5.out.size
        clear ho5 hb5 HV0 HO0 HB0 hz0w a0 a1 a2 a3 a4
        go_wp2_with (first
          | (at_builtin; refine wpList_append_own_at _ rfl _ _ 68 rfl w.heap.size 27 j1 (.slice none 0 0) 1 24 Try.underlying68 hj1 hz0 hz1 hz2 rfl (by decide) _ _ _ rfl (HV5.out.out.alloc _) ⟨V5.heap.size, 0, none⟩ 1 1 [.slice (some ⟨cq, 0, none⟩) Nn cc] rfl rfl (cell_sl11 _ _ rfl _ _) (by intro u hu; simp at hu; subst hu; rfl) (by unfold maxLen; omega) (by omega) (by simp; omega) ?_)
          | go_in)
        intro v6 w6 hown6 hgrow6 _ _
        have H7 : Hid (SW w6 w.heap.size w6.heap.size v6 (k + 1) Nn (cE l)) := hide (sv_push HV5.out cq cc HCQ.out HR5.out ((Below.refl _ _).alloc (Nat.le_refl _) _) hown6 hgrow6)
        have B7 : Hid (Below w.heap.size w w6) := hide ((B5.out.alloc B5.out.size _).grown hgrow6 (by simp; omega) (fun q hq => (HV5.out.out.lt q hq).1))
        have HKQ : Hid (w6.ownsRow w1.heap.size 112 5 (.slice (some ⟨oq, 0, none⟩) m ocap) m (flat5 (cE l) m)) := hide ((own_belowT HO5.out ((Below.refl _ _).alloc (Nat.le_refl _) _)).kept hgrow6 (.inr (own_twoC HV5.out.out HO5.out)))
        clear hown6 hgrow6
        have HK7 : Hid (w2.ownsRow w1.heap.size 112 5 (.slice (some ⟨oq, 0, none⟩) m ocap) m (flat5 (cE l) m) → w6.ownsRow w1.heap.size 112 5 (.slice (some ⟨oq, 0, none⟩) m ocap) m (flat5 (cE l) m)) := hide (fun _ => HKQ.out)
        go_wp2
        go_roundw
        case rel => exact ⟨k + 1, by omega, by go_num, H7, B7, HK7⟩
        case measure => simp [intOf]; omega
      · have hltI : ¬ (k : Int) < (m : Int) := by omega
        obtain rfl : k = m := by omega
        have H9 := hide (show SW wr w.heap.size wr.heap.size _ k Nn (cE l) from ⟨bs, cs, hV⟩)
        clear hV HW HKO
        go_wp2
        go_ret2
        exact ⟨_, rfl, H9.out, HB.out⟩
end Go.Proofs.Ytkfnejiiancmhad.L11

namespace Go.Proofs.Ytkfnejiiancmhad.L11
open Go.RowKit L1 Own
set_option linter.unusedVariables false

theorem cnt_none {N : Int} {l : List Ev} (hg : GoodV N l) (i : Int) (hi : N ≤ i) : ∀ m, m ≤ l.length → cnt l i m = 0
  | 0, _ => rfl
  | m + 1, h => by
    have h1 := cnt_none hg i hi m (by omega)
    have h2 := (hg.2.2.2 m (by omega)).2.1
    show cnt l i m + _ = 0
    rw [h1, if_neg (by omega)]; rfl
theorem clk_none {N : Int} {l : List Ev} (hg : GoodV N l) (k : Nat) (hk : k < l.length) (i : Int) (hi : N ≤ i) : clk l k i = 0 := by
  have h1 := clk_le l k i
  have h2 := clk_nn l k i
  rw [cnt_none hg i hi (k + 1) (by omega)] at h1
  omega
theorem fnL_cE {Nn : Nat} {l : List Ev} (hg : GoodV (Nn : Int) l) (k : Nat) (hk : k < l.length) (i : Nat) : fnL (clL (cE l k) Nn) i = cE l k i := by
  unfold fnL
  by_cases h : i < Nn
  · simp [clL, List.getD, h]
  · rw [List.getD, List.getElem?_eq_none (by simp [clL]; omega)]
    exact (clk_none hg k hk (i : Int) (by omega)).symm
theorem okC_clk {Nn : Nat} {l : List Ev} (hg : GoodV (Nn : Int) l) (k : Nat) (hk : k < l.length) : OkC (clL (cE l k) Nn) := by
  have h1 := hg.1
  have h2 := hg.2.1
  refine ⟨by rw [clL_len]; omega, by rw [clL_len]; omega, fun j hj => ?_⟩
  have e : (clL (cE l k) Nn).getD j 0 = cE l k j := fnL_cE hg k hk j
  rw [e]
  have h3 := clk_le l k (j : Int)
  have h4 := cnt_le l (j : Int) (k + 1)
  have h5 := hg.2.2.1
  have h6 := clk_nn l k (j : Int)
  show 0 ≤ clk l k (j : Int) ∧ clk l k (j : Int) ≤ 40
  omega
theorem two_clk {Nn : Nat} {l : List Ev} (hg : GoodV (Nn : Int) l) (a b : Nat) (ha : a < l.length) (hb : b < l.length) : TwoC (clL (cE l a) Nn) (clL (cE l b) Nn) :=
  ⟨⟨okC_clk hg a ha, okC_clk hg b hb⟩, by rw [clL_len, clL_len]⟩
theorem ls_clk {Nn : Nat} {l : List Ev} (hg : GoodV (Nn : Int) l) (a b : Nat) (ha : a < l.length) (hb : b < l.length) : LsC (clL (cE l a) Nn) (clL (cE l b) Nn) ↔ Anc l a b := by
  rw [← anc_cE hg a b ha hb]
  unfold LsC
  simp only [fnL_cE hg a ha, fnL_cE hg b hb]
  rfl
end Go.Proofs.Ytkfnejiiancmhad.L11

namespace Go.Proofs.Ytkfnejiiancmhad.L11
open Go.RowKit L1 Own
set_option linter.unusedVariables false

theorem cut_gen {Nn : Nat} {l : List Ev} (hg : GoodV (Nn : Int) l) (E : Nat → Int) (hE : ∀ i : Nat, i < Nn → 0 ≤ E i ∧ E i ≤ cnt l (i : Int) l.length)
    (hc : ∀ k, k < l.length → clk l k (nd l k) ≤ E (nd l k).toNat → ∀ i : Nat, i < Nn → clk l k (i : Int) ≤ E i) : CutOk (Nn : Int) l (clL E Nn) ∧ ClS l (uI (clL E Nn)) := by
  have hget : ∀ i : Nat, i < Nn → (clL E Nn).getD i 0 = E i := fun i hi => by simp [clL, List.getD, hi]
  have hcut : CutOk (Nn : Int) l (clL E Nn) := ⟨⟨hg, by rw [clL_len]⟩, fun i hi => by
    rw [clL_len] at hi
    rw [hget i hi]
    exact hE i hi⟩
  refine ⟨hcut, (cl_iff hg _ (uI_nn hcut)).1 (fun k hk h i hi => ?_)⟩
  have hv := hg.2.2.2 k hk
  have hu : uI (clL E Nn) (nd l k) = E (nd l k).toNat := by
    unfold uI
    exact hget _ (by have := hv.1; have := hv.2.1; omega)
  rw [hu] at h
  by_cases h2 : i < Nn
  · have h3 : uI (clL E Nn) (i : Int) = E i := by unfold uI; exact hget i h2
    rw [h3]
    exact hc k hk h i h2
  · rw [clk_none hg k hk (i : Int) (by omega)]
    exact uI_nn hcut i hi
theorem cE_bd {l : List Ev} (K : Nat) (hK : K < l.length) (i : Nat) : 0 ≤ cE l K i ∧ cE l K i ≤ cnt l (i : Int) l.length :=
  ⟨clk_nn l K (i : Int), Int.le_trans (clk_le l K (i : Int)) (cnt_mono l (i : Int) (by omega))⟩
theorem cE_cl {Nn : Nat} {l : List Ev} (hg : GoodV (Nn : Int) l) (K k : Nat) (hk : k < l.length) (h : clk l k (nd l k) ≤ cE l K (nd l k).toNat) (i : Nat) : clk l k (i : Int) ≤ cE l K i := by
  have hv := hg.2.2.2 k hk
  have e : ((nd l k).toNat : Int) = nd l k := by have := hv.1; omega
  have h1 : clk l k (nd l k) ≤ clk l K (nd l k) := by
    have : cE l K (nd l k).toNat = clk l K (nd l k) := by unfold cE; rw [e]
    rw [this] at h; exact h
  rw [clk_own] at h1
  rcases anc_of l K k h1 with rfl | ha
  · exact Int.le_refl _
  · exact ha.le _
theorem cut_clk {Nn : Nat} {l : List Ev} (hg : GoodV (Nn : Int) l) (K : Nat) (hK : K < l.length) : CutOk (Nn : Int) l (clL (cE l K) Nn) ∧ ClS l (uI (clL (cE l K) Nn)) :=
  cut_gen hg _ (fun i _ => cE_bd K hK i) (fun k hk h i _ => cE_cl hg K k hk h i)
theorem cut_join {Nn : Nat} {l : List Ev} (hg : GoodV (Nn : Int) l) (K M : Nat) (hK : K < l.length) (hM : M < l.length) : CutOk (Nn : Int) l (clL (jn (fnL (clL (cE l K) Nn)) (fnL (clL (cE l M) Nn))) Nn) ∧ ClS l (uI (clL (jn (fnL (clL (cE l K) Nn)) (fnL (clL (cE l M) Nn))) Nn)) := by
  have e : ∀ i : Nat, jn (fnL (clL (cE l K) Nn)) (fnL (clL (cE l M) Nn)) i = max (cE l K i) (cE l M i) := fun i => by
    unfold jn
    rw [fnL_cE hg K hK, fnL_cE hg M hM]
  refine cut_gen hg _ (fun i _ => ?_) (fun k hk h i _ => ?_)
  · rw [e]
    have h1 := cE_bd K hK i
    have h2 := cE_bd M hM i
    omega
  · rw [e] at h ⊢
    by_cases h3 : clk l k (nd l k) ≤ cE l K (nd l k).toNat
    · have := cE_cl hg K k hk h3 i; omega
    · have := cE_cl hg M k hk (by omega) i; omega
end Go.Proofs.Ytkfnejiiancmhad.L11

namespace Go.Proofs.Ytkfnejiiancmhad.L4
open Go.RowKit L1
set_option linter.unusedVariables false

set_option maxRecDepth 100000 in
set_option maxHeartbeats 1000000 in
theorem sameInts_any (a b : Option Addr) (xs : List Int) (n c1 c2 : Nat) (w : World) (hn : xs.length = n) (ha : Sl w a xs) (hb : Sl w b xs) (hn2 : n ≤ 1048576) :
    Calls Try.prog 38 #[.slice a n c1, .slice b n c2] w fun e w' => e = .returned (.bool true) ∧ Below w.heap.size w w' := by
  have HA := hide ha
  have HB := hide hb
  have HN := hide hn
  clear ha hb hn
  go_enter Try.func38, Try.ntmps38
  go_wp2
  go_loopw [13] (fun i wr => ∃ k : Nat, k ≤ n ∧ i = .int .i64 k ∧ Below w.heap.size w wr) (fun i _ => n - (intOf i).toNat)
  case atStart => exact ⟨0, Nat.zero_le _, rfl, Below.refl _ _⟩
  case round =>
    obtain ⟨k, hk, rfl, hbel⟩ := hrel
    by_cases hlt : k < n
    · obtain ⟨b1, o1, rfl, h1⟩ := HA.out k (by rw [HN.out]; exact hlt)
      obtain ⟨b2, o2, rfl, h2⟩ := HB.out k (by rw [HN.out]; exact hlt)
      have g1 := (hbel.cell (p := ⟨b1, o1 + k, none⟩) (blk_lt h1)).trans h1
      have g2 := (hbel.cell (p := ⟨b2, o2 + k, none⟩) (blk_lt h2)).trans h2
      obtain ⟨x, hx⟩ : ∃ x, x = xs.getD k 0 := ⟨_, rfl⟩
      rw [← hx] at g1 g2
      have hltI : (k : Int) < (n : Int) := by omega
      have hk0 : (0 : Int) ≤ (k : Int) := by omega
      clear h1 h2 hx
      go_wp2
      go_quiet (fail)
      go_wp2
      go_roundw
      case rel => exact ⟨k + 1, by omega, by go_num, below_drewN hbel _⟩
      case measure => simp [intOf]; omega
    · have hltI : ¬ (k : Int) < (n : Int) := by omega
      go_wp2
      go_ret
      exact ⟨rfl, hbel⟩
end Go.Proofs.Ytkfnejiiancmhad.L4

namespace Go.Proofs.Ytkfnejiiancmhad.L1
open Go.RowKit
set_option linter.unusedVariables false

/-- A list of bytes lies in memory, in a block below b. -/
def Slb (w : World) (b : Nat) (a : Option Addr) (n : Nat) : Prop :=
  ∀ i, i < n → ∃ bb off x, a = some ⟨bb, off, none⟩ ∧ bb < b ∧ w.cell? ⟨bb, off + i, none⟩ = some (.int .u8 x) ∧ 0 ≤ x ∧ x < 256
/-- A cursor lies in block b; it stands at most at N. -/
def Cur (w : World) (b N : Nat) : Prop :=
  ∃ (a : Option Addr) (n cap p : Nat) (sd : Int), w.heap[b]? = some (.cells #[.slice a n cap, .int .i64 (p : Int), .int .u64 sd] 89 (0, 0)) ∧ p ≤ N ∧ n ≤ 1048576 ∧ Slb w b a n
theorem Cur.mono {w : World} {b N M : Nat} (h : Cur w b N) (hm : N ≤ M) : Cur w b M := by
  obtain ⟨a, n, cap, p, sd, h1, h2, h3, h4⟩ := h
  exact ⟨a, n, cap, p, sd, h1, by omega, h3, h4⟩
theorem Cur.lt {w : World} {b N : Nat} (h : Cur w b N) : b < w.heap.size := by
  obtain ⟨a, n, cap, p, sd, h1, _⟩ := h
  exact (Array.getElem?_eq_some_iff.1 h1).1
/-- A cursor stays one where its own block and all below it are as they were. -/
theorem Cur.kept {w w' : World} {b N : Nat} (h : Cur w b N) (hb : ∀ k, k ≤ b → w'.heap[k]? = w.heap[k]?) : Cur w' b N := by
  obtain ⟨a, n, cap, p, sd, h1, h2, h3, h4⟩ := h
  refine ⟨a, n, cap, p, sd, by rw [hb b (Nat.le_refl _)]; exact h1, h2, h3, fun i hi => ?_⟩
  obtain ⟨bb, off, x, ha, hlt, hc, hx⟩ := h4 i hi
  exact ⟨bb, off, x, ha, hlt, by rw [World.cell?_of_block (w := w) (hb bb (by omega))]; exact hc, hx⟩
theorem Cur.below {w w' : World} {b N : Nat} (h : Cur w b N) (hb : Below w.heap.size w w') : Cur w' b N :=
  h.kept fun k hk => hb.block k (by have := h.lt; omega)
/-- Only block b has turned; nothing new was laid, or something. -/
theorem grown_trans {a b c : World} {r : Option Nat} (h : a.grownBy b r) (k : b.grownBy c r) : a.grownBy c r :=
  ⟨k.os.trans h.os, k.tape.trans h.tape, k.output.trans h.output, Nat.le_trans h.size k.size, fun i hi hn => (k.block i (Nat.lt_of_lt_of_le hi h.size) hn).trans (h.block i hi hn)⟩
theorem grown_below {a b : World} {r : Nat} (h : a.grownBy b (some r)) : Below r a b ∨ a.heap.size < r := by
  by_cases hr : r ≤ a.heap.size
  · exact .inl ⟨h.os, h.tape, h.output, h.size, fun k hk => h.block k (by omega) (by simp; omega)⟩
  · exact .inr (by omega)
theorem below_grown {a b : World} {r : Option Nat} (h : Below a.heap.size a b) : a.grownBy b r :=
  ⟨h.os, h.tape, h.output, h.size, fun k hk _ => h.block k hk⟩
theorem and255_bd (y : Int) : 0 ≤ wrap64 (bits .and .u64 y 255) ∧ wrap64 (bits .and .u64 y 255) ≤ 255 := by
  have h : bits .and .u64 y 255 = IntKind.u64.wrap ((BitVec.ofInt 64 y &&& BitVec.ofInt 64 255).toNat : Nat) := rfl
  have h2 : (BitVec.ofInt 64 y &&& BitVec.ofInt 64 255).toNat ≤ 255 := by
    rw [BitVec.toNat_and]
    exact Nat.and_le_right
  rw [h, IntKind.wrap_u64]
  generalize (BitVec.ofInt 64 y &&& BitVec.ofInt 64 255).toNat = m at h2
  unfold wrap64
  omega

theorem cur_step {w W' : World} {b N n cap p : Nat} {a : Option Addr} {sd s' : Int} (hbk : w.heap[b]? = some (.cells #[.slice a n cap, .int .i64 (p : Int), .int .u64 sd] 89 (0, 0))) (hp : p ≤ N) (hn : n ≤ 1048576) (hs : Slb w b a n)
    (hh : W'.heap = ((w.setCell ⟨b, 1, none⟩ (.int .i64 ((p : Int) + 1))).setCell ⟨b, 2, none⟩ (.int .u64 s')).heap) (ho : W'.os = w.os) (ht : W'.tape = w.tape) (hu : W'.output = w.output) :
    Cur W' b (N + 1) ∧ w.grownBy W' (some b) := by
  have h1 := heap_setCell_same w b 1 _ _ (.int .i64 ((p : Int) + 1)) hbk
  have h2 := heap_setCell_same _ b 2 _ _ (.int .u64 s') h1
  have hoth : ∀ k, k ≠ b → W'.heap[k]? = w.heap[k]? := fun k hk => by
    rw [hh, Below.heap_setCell _ _ _ _ (by simpa using hk), Below.heap_setCell _ _ _ _ (by simpa using hk)]
  refine ⟨⟨a, n, cap, p + 1, s', by rw [hh, h2]; rfl, by omega, hn, fun i hi => ?_⟩, ⟨ho, ht, hu, by rw [hh]; simp [World.setCell], fun k _ hk => hoth k (fun e => hk (by rw [e]))⟩⟩
  obtain ⟨bb, off, x, ha, hlt, hc, hx⟩ := hs i hi
  exact ⟨bb, off, x, ha, hlt, by rw [World.cell?_of_block (w := w) (hoth bb (by omega))]; exact hc, hx⟩

set_option maxRecDepth 100000 in
set_option maxHeartbeats 1000000 in
theorem next_any (b N : Nat) (w : World) (h : Cur w b N) (hN : N ≤ 1000000000000) :
    Calls Try.prog 96 #[.pointer (some ⟨b, 0, none⟩)] w fun e w' => ∃ x : Int, e = .returned (.int .i64 x) ∧ 0 ≤ x ∧ x ≤ 255 ∧ Cur w' b (N + 1) ∧ w.grownBy w' (some b) := by
  obtain ⟨a, n, cap, p, sd, hbk, hp, hn, hs⟩ := h
  have c0 : w.cell? ⟨b, 0, none⟩ = some (.slice a n cap) := Lib.cell_of_heap hbk 0
  have c1 : w.cell? ⟨b, 1, none⟩ = some (.int .i64 (p : Int)) := Lib.cell_of_heap hbk 1
  have c2 : w.cell? ⟨b, 2, none⟩ = some (.int .u64 sd) := Lib.cell_of_heap hbk 2
  have f1 := Lib.frozen_of_heap hbk 1
  have f2 := Lib.frozen_of_heap hbk 2
  have HB := hide hbk
  have HS := hide hs
  clear hbk hs
  by_cases hlt : p < n
  · obtain ⟨bb, off, x, rfl, hbb, hc, hx0, hx1⟩ := HS.out p hlt
    have hltI : (p : Int) < (n : Int) := by omega
    have hltJ : (p : Int) + 1 ≤ (n : Int) := by omega
    go_enter Try.func96, Try.ntmps96
    go_wp2
    go_quiet (fail)
    go_wp2
    go_quiet (fail)
    go_wp2
    go_quiet (fail)
    go_wp2
    go_ret
    exact ⟨x, rfl, hx0, by omega, cur_step HB.out hp hn HS.out rfl rfl rfl rfl⟩
  · have hltI : ¬ (p : Int) < (n : Int) := by omega
    have hltJ : ¬ (p : Int) + 1 ≤ (n : Int) := by omega
    go_enter Try.func96, Try.ntmps96
    go_wp2
    go_quiet (fail)
    go_wp2
    go_quiet (fail)
    go_wp2
    go_ret
    exact ⟨_, rfl, (and255_bd _).1, (and255_bd _).2, cur_step HB.out hp hn HS.out rfl rfl rfl rfl⟩

theorem emod_le_self (a n : Int) (ha : 0 ≤ a) (hn : 0 < n) : a % n ≤ a := by
  have h1 := Int.mul_ediv_add_emod a n
  have h2 : 0 ≤ n * (a / n) := Int.mul_nonneg (by omega) (Int.ediv_nonneg ha (by omega))
  omega

set_option maxRecDepth 100000 in
set_option maxHeartbeats 1000000 in
theorem pick_any (b N : Nat) (n : Int) (w : World) (h : Cur w b N) (hN : N ≤ 1000000000) (hn1 : -1000000000000 ≤ n) (hn2 : n ≤ 1000000000000) :
    Calls Try.prog 53 #[.pointer (some ⟨b, 0, none⟩), .int .i64 n] w fun e w' => ∃ x : Int, e = .returned (.int .i64 x) ∧ 0 ≤ x ∧ x ≤ 65535 ∧ (1 ≤ n → x < n) ∧ Cur w' b (N + 2) ∧ w.grownBy w' (some b) := by
  have HC := hide h
  clear h
  by_cases h1 : n ≤ 1
  · go_enter Try.func53, Try.ntmps53
    go_wp2
    go_ret
    exact ⟨0, rfl, by omega, by omega, by omega, HC.out.mono (by omega), ⟨rfl, rfl, rfl, Nat.le_refl _, fun _ _ _ => rfl⟩⟩
  · have h0 : 0 < n := by omega
    by_cases h200 : 200 < n
    · go_enter Try.func53, Try.ntmps53
      go_wp2_with fail
      refine (next_any b N _ HC.out (by omega)).mono ?_
      rintro e w1 ⟨x, rfl, hx0, hx1, hc1, hg1⟩
      have H1 := hide hc1
      have G1 := hide hg1
      clear hc1 hg1
      go_wp2_with fail
      refine (next_any b (N + 1) _ H1.out (by omega)).mono ?_
      rintro e w2 ⟨y, rfl, hy0, hy1, hc2, hg2⟩
      have H2 := hide hc2
      have G2 := hide (grown_trans G1.out hg2)
      have hm0 : 0 ≤ (x * 256 + y) % n := Int.emod_nonneg _ (by omega)
      have hm1 : (x * 256 + y) % n < n := Int.emod_lt_of_pos _ h0
      have hm2 : (x * 256 + y) % n ≤ x * 256 + y := emod_le_self _ _ (by omega) h0
      clear hc2 hg2
      go_wp2
      go_ret
      exact ⟨_, rfl, hm0, by omega, fun _ => hm1, H2.out, G2.out⟩
    · go_enter Try.func53, Try.ntmps53
      go_wp2_with fail
      refine (next_any b N _ HC.out (by omega)).mono ?_
      rintro e w1 ⟨x, rfl, hx0, hx1, hc1, hg1⟩
      have H1 := hide hc1
      have G1 := hide hg1
      have hm0 : 0 ≤ x % n := Int.emod_nonneg _ (by omega)
      have hm1 : x % n < n := Int.emod_lt_of_pos _ h0
      have hm2 : x % n ≤ x := emod_le_self _ _ (by omega) h0
      clear hc1 hg1
      go_wp2
      go_ret
      exact ⟨_, rfl, hm0, by omega, fun _ => hm1, H1.out.mono (by omega), G1.out⟩

set_option maxRecDepth 100000 in
set_option maxHeartbeats 400000 in
theorem one_any (b N : Nat) (n : Int) (w : World) (h : Cur w b N) (hN : N ≤ 1000000000) (hn1 : -1000000000000 ≤ n) (hn2 : n ≤ 1000000000000) :
    Calls Try.prog 86 #[.pointer (some ⟨b, 0, none⟩), .int .i64 n] w fun e w' => ∃ t : Bool, e = .returned (.bool t) ∧ Cur w' b (N + 2) ∧ w.grownBy w' (some b) := by
  have HC := hide h
  clear h
  go_enter Try.func86, Try.ntmps86
  go_wp2_with fail
  refine (pick_any b N _ _ HC.out hN hn1 hn2).mono ?_
  rintro e w1 ⟨x, rfl, hx0, hx1, _, hc1, hg1⟩
  have H1 := hide hc1
  have G1 := hide hg1
  clear hc1 hg1
  go_wp2
  go_ret
  exact ⟨_, rfl, H1.out, G1.out⟩

theorem lit_row (w : World) (cs : Array Value) (xs : List Int) (h : cs.toList = xs.map (Value.int .i64)) : Sl (w.alloc (.cells cs 3)) (some ⟨w.heap.size, 0, none⟩) xs := fun i hi => by
  refine ⟨w.heap.size, 0, rfl, ?_⟩
  have hb : (w.alloc (.cells cs 3)).heap[w.heap.size]? = some (.cells cs 3 (0, 0)) := by show (w.heap.push _)[w.heap.size]? = _; simp
  rw [Lib.cell_of_heap hb, Nat.zero_add, ← Array.getElem?_toList, h, List.getElem?_map, List.getElem?_eq_getElem hi]
  simp [List.getD, List.getElem?_eq_getElem hi]
theorem grown_alloc (w : World) (o : Obj) (b : Nat) : w.grownBy (w.alloc o) (some b) := World.grownBy_alloc w o (some b)
theorem Cur.alloc {w : World} {b N : Nat} (h : Cur w b N) (o : Obj) : Cur (w.alloc o) b N :=
  h.below ((Below.refl _ _).alloc (Nat.le_refl _) _)

end Go.Proofs.Ytkfnejiiancmhad.L1

namespace Go.Proofs.Ytkfnejiiancmhad.L1
open Go.RowKit
set_option linter.unusedVariables false

/-- A text's bytes from a place on. -/
def bts (s : ByteArray) (a : Nat) : List Int := (s.data.toList.drop a).map fun c => (c.toNat : Int)
theorem bts_len (s : ByteArray) (a : Nat) : (bts s a).length = s.size - a := by simp [bts]
theorem bts_get (s : ByteArray) (a k : Nat) (h : a + k < s.size) : (bts s a).getD k 0 = ((s[a + k]'h).toNat : Int) := by
  have h2 : a + k < s.data.toList.length := by simpa using h
  simp only [bts, List.getD, List.getElem?_map, List.getElem?_drop, List.getElem?_eq_getElem h2, Option.map_some, Option.getD_some]
  rfl
theorem bts_byte (s : ByteArray) (a k : Nat) : 0 ≤ (bts s a).getD k 0 ∧ (bts s a).getD k 0 < 256 := by
  by_cases h : a + k < s.size
  · rw [bts_get s a k h]
    have := (s[a + k]'h).toNat_lt
    omega
  · simp only [List.getD, List.getElem?_eq_none (show (bts s a).length ≤ k by rw [bts_len]; omega)]
    simp

/-- The text of digits that stand in a text is that piece of it. -/
theorem str_piece (s : ByteArray) (a j : Nat) (h : a + j ≤ s.size) : strOfNums ((bts s a).take j) = s.extract a (a + j) := by
  apply ByteArray.ext
  apply Array.toList_inj.1
  simp only [strOfNums, bts, ByteArray.data_extract, Array.toList_extract]
  rw [← List.map_take, List.map_map]
  have e : (fun n : Int => UInt8.ofNat n.toNat) ∘ (fun c : UInt8 => (c.toNat : Int)) = id := by
    funext c
    simp
  rw [e]
  simp
theorem str_inj : ∀ {l m : List Int}, (∀ x ∈ l, 0 ≤ x ∧ x < 256) → (∀ x ∈ m, 0 ≤ x ∧ x < 256) → strOfNums l = strOfNums m → l = m := by
  intro l m hl hm h
  have h2 : l.map (fun n : Int => UInt8.ofNat n.toNat) = m.map (fun n : Int => UInt8.ofNat n.toNat) := by
    have := congrArg (fun b => b.data.toList) h
    simpa [strOfNums] using this
  clear h
  induction l generalizing m with
  | nil => cases m with
    | nil => rfl
    | cons y m => simp at h2
  | cons x l ih =>
    cases m with
    | nil => simp at h2
    | cons y m =>
      simp only [List.map_cons, List.cons.injEq] at h2
      have hx := hl x (by simp)
      have hy := hm y (by simp)
      have e : x = y := by
        have := congrArg UInt8.toNat h2.1
        simp only [UInt8.toNat_ofNat'] at this
        omega
      rw [e, ih (fun u hu => hl u (by simp [hu])) (fun u hu => hm u (by simp [hu])) h2.2]
theorem toList_inj {A B : ByteArray} (h : A.toList = B.toList) : A = B := by
  rw [ByteArray.toList_eq, ByteArray.toList_eq] at h
  exact ByteArray.ext (Array.toList_inj.1 h)
theorem bts_mem (s : ByteArray) (a : Nat) : ∀ x ∈ bts s a, 0 ≤ x ∧ x < 256 := by
  intro x hx
  simp only [bts, List.mem_map] at hx
  obtain ⟨c, _, rfl⟩ := hx
  have := c.toNat_lt
  omega
end Go.Proofs.Ytkfnejiiancmhad.L1

namespace Go.Proofs.Ytkfnejiiancmhad.L4
open Go.RowKit L1
set_option linter.unusedVariables false

theorem cur_new {w : World} {a : Option Addr} {n cap : Nat} (h : Slb w w.heap.size a n) (hn : n ≤ 1048576) : Cur (w.alloc (Obj.cells #[.slice a n cap, .int .i64 0, .int .u64 0] 89)) w.heap.size 0 := by
  refine ⟨a, n, cap, 0, 0, by show (w.heap.push _)[w.heap.size]? = _; simp, Nat.le_refl _, hn, fun i hi => ?_⟩
  obtain ⟨bb, off, x, ha, hlt, hc, hx⟩ := h i hi
  exact ⟨bb, off, x, ha, hlt, by rw [World.cell?_of_block (w := w) (Below.heap_alloc _ _ _ hlt)]; exact hc, hx⟩
theorem grown_to_below {w w' : World} {o : Obj} (h : (w.alloc o).grownBy w' (some w.heap.size)) : Below w.heap.size w w' := by
  have h1 : Below w.heap.size (w.alloc o) w' := ⟨h.os, h.tape, h.output, h.size, fun k hk => h.block k (by simp; omega) (by simp; omega)⟩
  exact ((Below.refl _ _).alloc (Nat.le_refl _) _).trans h1
theorem Slb.below {w w' : World} {a : Option Addr} {n : Nat} (h : Slb w w.heap.size a n) (hb : Below w.heap.size w w') : Slb w' w'.heap.size a n := fun i hi => by
  obtain ⟨bb, off, x, ha, hlt, hc, hx⟩ := h i hi
  exact ⟨bb, off, x, ha, by have := hb.size; omega, by rw [hb.cell (p := ⟨bb, off + i, none⟩) hlt]; exact hc, hx⟩
theorem sl_len {w : World} {k : IntKind} {a : Option Addr} {len cap : Nat} {zs : List Int} (h : IsRow k w a len cap zs) : len ≤ 9223372036854775807 := by
  rcases h with ⟨_, rfl, _⟩ | ⟨x, _, hl, hm, _⟩
  · omega
  · unfold maxLen at hm; omega
theorem slb_of_row {w : World} {a : Option Addr} {len cap : Nat} {zs : List Int} (h : IsRow .u8 w a len cap zs) : Slb w w.heap.size a len := by
  rcases h with ⟨rfl, rfl, rfl, rfl⟩ | ⟨x, rfl, hl, hm, hz, hc, hwf⟩
  · exact fun i hi => absurd hi (Nat.not_lt_zero _)
  · intro i hi
    have hi' : i < zs.length := by omega
    have h0 := hc i hi'
    obtain ⟨b, off, spot⟩ := x
    have hspot : spot = none := by
      have h00 := hc 0 (by omega)
      simpa [Addr.add] using World.cell?_spot h00
    subst hspot
    have e : (⟨b, off, none⟩ : Addr).add i = ⟨b, off + i, none⟩ := by unfold Addr.add; split <;> simp_all
    rw [e] at h0
    have hw := hwf (zs.getD i 0) (by rw [List.getD, List.getElem?_eq_getElem hi']; simp)
    have hb := bounds_u8 hw
    exact ⟨b, off, zs.getD i 0, rfl, blk_lt h0, h0, by omega, by omega⟩


theorem own_grown4 {w w' : World} {base n b c : Nat} {t : TypeId} {v : Value} {ys : List Value} (h : w.ownsRow base t c v n ys) (hg : w.grownBy w' (some b)) (hb : b < base) : w'.ownsRow base t c v n ys := by
  refine ⟨h.1, ?_⟩
  rcases h.2 with h0 | ⟨g, cap, cur, rfl, hbg, hgg, r⟩
  · exact .inl h0
  · exact .inr ⟨g, cap, cur, rfl, hbg, by rw [hg.block g (Array.getElem?_eq_some_iff.1 hgg).1 (fun e => by cases e; omega)]; exact hgg, r⟩
theorem grown_low {a b c : World} {r : Option Nat} (h : a.grownBy b r) (k : Below a.heap.size b c) : a.grownBy c r :=
  ⟨k.os.trans h.os, k.tape.trans h.tape, k.output.trans h.output, Nat.le_trans h.size k.size, fun i hi hn => (k.block i hi).trans (h.block i hi hn)⟩
/-- Some ints that the caller owns. -/
def OwnP (w : World) (B : Nat) (v : Value) (m : Nat) : Prop := ∃ xs : List Int, xs.length ≤ m ∧ w.ownsRow B 3 1 v xs.length (xs.map (Value.int .i64))
theorem OwnP.grown {w w' : World} {B b m : Nat} {v : Value} (h : OwnP w B v m) (hg : w.grownBy w' (some b)) (hb : b < B) : OwnP w' B v m := by
  obtain ⟨xs, hl, ho⟩ := h
  exact ⟨xs, hl, own_grown4 ho hg hb⟩
theorem OwnP.base {w : World} {B B' m : Nat} {v : Value} (h : OwnP w B v m) (hB : B' ≤ B) : OwnP w B' v m := by
  obtain ⟨xs, hl, ho⟩ := h
  exact ⟨xs, hl, own_baseT ho hB⟩

end Go.Proofs.Ytkfnejiiancmhad.L4
