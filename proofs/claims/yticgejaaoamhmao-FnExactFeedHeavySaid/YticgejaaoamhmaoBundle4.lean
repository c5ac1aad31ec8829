/-
  Contract: spec.l12Sum.
  Contract: spec.GoodHeavy.
  What AddHeavy answers. Nothing of the program's text is proved here.
  A Heavy of the call's own in a box at an address, and the stores into it: cells one by one, and some in a row.
  What becomes of a Heavy in place, when one is taken from each; clear.
  What one more name leaves of a good Heavy is good, while not too many were told. Nothing of the program's text is proved here.
  Contracts: impl.NewHeavy, spec.NewHeavy.
  What a new Heavy comes to that is told names. Nothing of the program's text is proved here.
-/
import Derived.Test.YticgejaaoamhmaoBundle2
import Derived.Deep.DeepCutAuto
import Derived.Test.YticgejaaoamhmaoBundle3
import Derived.Deep.QuietTactic
import Derived.BigQuiet
import Derived.Laws.IdiomCopy
import Derived.Lib.SliceRun
import Derived.Test.YticgejaaoamhmaoBundle1
import Derived.Deep.RegionHeld3
namespace Go.Proofs.Yticgejaaoamhmao.L15H
open Go.RowKit L1 Own Str
set_option linter.unusedVariables false

def SmL (l : List Int) : Prop := l.length ≤ 50 ∧ ∀ j, j < l.length → 0 ≤ l.getD j 0 ∧ l.getD j 0 ≤ 100000
theorem below_drewH {N : Nat} {w w' : World} (h : Below N w w') : ∀ q, Below N w (w'.drewN q)
  | 0 => h
  | q + 1 => (below_drewH h q).drew
theorem calls_symmH {P : Program} {f : FuncId} {args : Array Value} {w : World} {v : Value} (h : Calls P f args w fun e w' => e = .returned v ∧ w = w') : Calls P f args w fun e w' => e = .returned v ∧ w' = w := h.mono fun _ _ ⟨a, b⟩ => ⟨a, b.symm⟩
set_option maxRecDepth 100000 in
set_option maxHeartbeats 4000000 in
theorem l12Sum_h (a : Option Addr) (l : List Int) (n cap : Nat) (w : World) (hn : l.length = n) (hs : Sl w a l) (hl : SmL l) (r : Int) (hr : r = sm l n) :
    Calls Try.prog 64 #[.slice a n cap] w fun e w' => e = .returned (.int .i64 r) ∧ w = w' := by
  have HS := hide hs
  have HN := hide hn
  have HR := hide hr
  have HL := hide hl
  have n50 : n ≤ 50 := by have := hl.1; omega
  clear hs hn hr hl
  go_enter Try.func64, Try.ntmps64
  go_wp2
  go_loop [3, 8] (fun s t => ∃ k : Nat, k ≤ n ∧ t = .int .i64 k ∧ s = .int .i64 (sm l k)) (fun _ t => n - (intOf t).toNat)
  case atStart => exact ⟨0, Nat.zero_le _, rfl, rfl⟩
  case round =>
    obtain ⟨k, hk, rfl, rfl⟩ := hrel
    by_cases hlt : k < n
    · obtain ⟨b, off, rfl, hc⟩ := HS.out k (by rw [HN.out]; exact hlt)
      have hltI : (k : Int) < (n : Int) := by omega
      have h1 := sm_bd k (fun j hj => HL.out.2 j (by rw [HN.out]; omega))
      have h2 := HL.out.2 k (by rw [HN.out]; exact hlt)
      have hs : sm l (k + 1) = sm l k + l.getD k 0 := rfl
      obtain ⟨x, hx⟩ : ∃ x, x = l.getD k 0 := ⟨_, rfl⟩
      obtain ⟨y, hy⟩ : ∃ y, y = sm l k := ⟨_, rfl⟩
      rw [← hx] at hc h2 hs
      rw [← hy] at h1 hs ⊢
      have HSS := hide hs
      clear hx hy hs
      go_wp2
      go_round
      case rel => exact ⟨k + 1, by omega, by go_num, by rw [HSS.out]⟩
      case measure => simp [intOf]; omega
    · obtain rfl : k = n := by omega
      have hltI : ¬ (k : Int) < (k : Int) := by omega
      obtain ⟨y, hy⟩ : ∃ y, y = sm l k := ⟨_, rfl⟩
      rw [← hy] at HR ⊢
      clear hy
      go_wp2
      go_ret
      exact ⟨by rw [HR.out]; rfl, rfl⟩
end Go.Proofs.Yticgejaaoamhmao.L15H

namespace Go.Proofs.Yticgejaaoamhmao.L15H
open Go.RowKit L1 Own Str
set_option linter.unusedVariables false

set_option maxRecDepth 100000 in
set_option maxHeartbeats 8000000 in
theorem sGoodHeavy_any (a : Option Addr) (n c : Nat) (b : Option Addr) (m d : Nat) (G T : Int) (h : Hv) (w : World) (hf : HF w a b n m h) (hg : h.g = G) (ht : h.t = T) (hn2 : n ≤ 1048576) (hm2 : m ≤ 1048576) (htx : ∀ i, i < h.nm.length → (h.nm.getD i e0).size ≤ 1048576) (bb : Bool) (hbb : bb = true ↔ GoodHv h n m) :
    Calls Try.prog 34 #[.agg #[.slice a n c, .slice b m d, .int .i64 G, .int .i64 T]] w fun e w' => e = .returned (.bool bb) ∧ Below w.heap.size w w' := by
  have BX := (Below.refl w.heap.size w).alloc (Nat.le_refl _) (hvO (.slice a n c) (.slice b m d) G T)
  have g0 := L8.blk_new w (hvO (.slice a n c) (.slice b m d) G T)
  obtain ⟨W0, hW0⟩ : ∃ W0, W0 = w.alloc (hvO (.slice a n c) (.slice b m d) G T) := ⟨_, rfl⟩
  rw [← hW0] at BX g0
  obtain ⟨k0, k1, k2, k3⟩ := blk4 g0
  have HW := hide hW0
  have B0 := hide BX
  have G0 := hide g0
  have F0 := hide (hf.below BX)
  have HBB := hide hbb
  have HTX := hide htx
  have HG := hide hg
  have HT := hide ht
  clear hf hbb htx hg ht BX g0 hW0
  obtain ⟨b1, hb1⟩ := dec_exH (1 ≤ (n : Int) ∧ (n : Int) ≤ 6)
  have C1 := hide (fun wx => l1In_any (n : Int) 1 6 wx b1 hb1)
  by_cases c1 : 1 ≤ (n : Int) ∧ (n : Int) ≤ 6
  rotate_left
  · obtain rfl : b1 = false := bool_noG hb1 c1
    obtain rfl : bb = false := bool_noG HBB.out (fun g => c1 ⟨by have := g.n1; omega, by have := g.n6; omega⟩)
    go_enter Try.func34, Try.ntmps34
    go_upto_region 1 with fail
    rw [← HW.out]
    go_wp2_with fail
    refine (C1.out _).mono ?_
    rintro e w1 ⟨rfl, rfl⟩
    go_wp2
    go_ret
    exact ⟨rfl, B0.out⟩
  obtain rfl : b1 = true := hb1.2 c1
  clear hb1
  by_cases c2 : m = n
  rotate_left
  · have hd : ((m : Int) != (n : Int)) = true := by simp; omega
    obtain rfl : bb = false := bool_noG HBB.out (fun g => c2 g.m)
    go_enter Try.func34, Try.ntmps34
    go_upto_region 1 with fail
    rw [← HW.out]
    go_wp2_with fail
    refine (C1.out _).mono ?_
    rintro e w1 ⟨rfl, rfl⟩
    go_wp2
    go_ret
    exact ⟨rfl, B0.out⟩
  subst c2
  obtain ⟨b3, hb3⟩ := dec_exH (0 ≤ G ∧ G ≤ 100000)
  have C3 := hide (fun wx => l1In_any G 0 100000 wx b3 hb3)
  by_cases c3 : 0 ≤ G ∧ G ≤ 100000
  rotate_left
  · obtain rfl : b3 = false := bool_noG hb3 c3
    clear hb3
    obtain rfl : bb = false := bool_noG HBB.out (fun g => c3 (by have h1 := g.g0; have h2 := g.g1; rw [HG.out] at h1 h2; exact ⟨h1, h2⟩))
    go_enter Try.func34, Try.ntmps34
    go_upto_region 1 with fail
    rw [← HW.out]
    go_wp2_with fail
    refine (C1.out _).mono ?_
    rintro e w1 ⟨rfl, rfl⟩
    go_wp2_with fail
    refine (C3.out _).mono ?_
    rintro e w2 ⟨rfl, rfl⟩
    go_wp2
    go_ret
    exact ⟨rfl, B0.out⟩
  obtain rfl : b3 = true := hb3.2 c3
  clear hb3
  obtain ⟨b4, hb4⟩ := dec_exH (0 ≤ T ∧ T ≤ 1000000)
  have C4 := hide (fun wx => l1In_any T 0 1000000 wx b4 hb4)
  by_cases c4 : 0 ≤ T ∧ T ≤ 1000000
  rotate_left
  · obtain rfl : b4 = false := bool_noG hb4 c4
    clear hb4
    obtain rfl : bb = false := bool_noG HBB.out (fun g => c4 (by have h1 := g.t0; have h2 := g.t1; rw [HT.out] at h1 h2; exact ⟨h1, h2⟩))
    go_enter Try.func34, Try.ntmps34
    go_upto_region 1 with fail
    rw [← HW.out]
    go_wp2_with fail
    refine (C1.out _).mono ?_
    rintro e w1 ⟨rfl, rfl⟩
    go_wp2_with fail
    refine (C3.out _).mono ?_
    rintro e w2 ⟨rfl, rfl⟩
    go_wp2_with fail
    refine (C4.out _).mono ?_
    rintro e w3 ⟨rfl, rfl⟩
    go_wp2
    go_ret
    exact ⟨rfl, B0.out⟩
  obtain rfl : b4 = true := hb4.2 c4
  clear hb4
  have hmb := mul_bd c3.1 c3.2 (n := m) (by omega)
  go_enter Try.func34, Try.ntmps34
  go_upto_region 1 with fail
  rw [← HW.out]
  go_wp2_with fail
  refine (C1.out _).mono ?_
  rintro e w1 ⟨rfl, rfl⟩
  go_wp2_with fail
  refine (C3.out _).mono ?_
  rintro e w2 ⟨rfl, rfl⟩
  go_wp2_with fail
  refine (C4.out _).mono ?_
  rintro e w3 ⟨rfl, rfl⟩
  go_wp2
  go_loop [34] (fun t => ∃ k : Nat, k ≤ m ∧ t = .int .i64 k ∧ Hid (∀ j, j < k → PlOk h j)) (fun t => m - (intOf t).toNat)
  case atStart => exact ⟨0, Nat.zero_le _, rfl, fun j hj => absurd hj (Nat.not_lt_zero _)⟩
  case round =>
    obtain ⟨k, hk, rfl, HJ⟩ := hrel
    by_cases hlt : k < m
    · have hltI : (k : Int) < (m : Int) := by omega
      have hk0 : (0 : Int) ≤ (k : Int) := by omega
      obtain ⟨ba, oa, rfl, hc⟩ := F0.out.sN k (by rw [F0.out.ln]; exact hlt)
      obtain ⟨bc, oc, rfl, hd⟩ := F0.out.sC k (by rw [F0.out.lc]; exact hlt)
      have hsz : (na h k).size ≤ 1048576 := HTX.out k (by rw [F0.out.ln]; exact hlt)
      obtain ⟨x, hx⟩ : ∃ x, x = na h k := ⟨_, rfl⟩
      obtain ⟨y, hy⟩ : ∃ y, y = ca h k := ⟨_, rfl⟩
      rw [show h.nm.getD k e0 = x from hx.symm] at hc
      rw [show h.ct.getD k 0 = y from hy.symm] at hd
      rw [← hx] at hsz
      have HX := hide hx
      have HY := hide hy
      clear hx hy
      have bad : ¬ PlOk h k → Hid (bb = false) := fun q => hide (bool_noG HBB.out (fun g => q (g.p k hlt)))
      by_cases hxe : x = e0
      · have hnw : ¬ L3.Word false (na h k) := fun q => word_ne q (by rw [← HX.out]; exact hxe)
        subst hxe
        by_cases hy0 : y = 0
        · have P : Hid (PlOk h k) := hide (.inl ⟨HX.out.symm, by rw [← HY.out]; exact hy0⟩)
          subst hy0
          clear bad hnw
          go_wp2
          go_round
          case rel => exact ⟨k + 1, by omega, by go_num, fun j hj => by
            by_cases e : j = k
            · subst e; exact P.out
            · exact HJ.out j (by omega)⟩
          case measure => simp [intOf]; omega
        · have hy2 : (y != 0) = true := by simp [hy0]
          have EB := bad (fun q => by
            rcases q with ⟨_, h0⟩ | ⟨⟨h1, _⟩, _⟩
            · exact hy0 (by rw [HY.out]; exact h0)
            · exact hnw h1)
          clear bad hnw
          go_wp2
          go_ret
          exact ⟨by rw [EB.out]; rfl, B0.out⟩
      · have hxl := ne_list hxe
        obtain ⟨bw, hbw⟩ := dec_exH (L3.Word false x)
        have CW := hide (fun wx => L3.l3Name_any x false wx (by omega) bw hbw)
        by_cases hw : L3.Word false x
        rotate_left
        · obtain rfl : bw = false := bool_noG hbw hw
          have EB := bad (fun q => by
            rcases q with ⟨h0, _⟩ | ⟨⟨h1, _⟩, _⟩
            · exact hxe (by rw [HX.out]; exact h0)
            · exact hw (by rw [HX.out]; exact h1))
          clear bad hbw
          go_wp2_with fail
          refine (CW.out _).mono ?_
          rintro e w5 ⟨rfl, rfl⟩
          go_wp2
          go_ret
          exact ⟨by rw [EB.out]; rfl, B0.out⟩
        obtain rfl : bw = true := hbw.2 hw
        clear hbw
        obtain ⟨by1, hby⟩ := dec_exH (1 ≤ y ∧ y ≤ 100000)
        have CY := hide (fun wx => l1In_any y 1 100000 wx by1 hby)
        by_cases hyy : 1 ≤ y ∧ y ≤ 100000
        rotate_left
        · obtain rfl : by1 = false := bool_noG hby hyy
          have EB := bad (fun q => by
            rcases q with ⟨h0, _⟩ | ⟨⟨_, h1⟩, _⟩
            · exact hxe (by rw [HX.out]; exact h0)
            · exact hyy (by rw [HY.out]; exact h1))
          clear bad hby
          go_wp2_with fail
          refine (CW.out _).mono ?_
          rintro e w5 ⟨rfl, rfl⟩
          go_wp2_with fail
          refine (CY.out _).mono ?_
          rintro e w6 ⟨rfl, rfl⟩
          go_wp2
          go_ret
          exact ⟨by rw [EB.out]; rfl, B0.out⟩
        obtain rfl : by1 = true := hby.2 hyy
        clear hby
        have HWY : Hid (L3.Word false (na h k) ∧ 1 ≤ ca h k ∧ ca h k ≤ 100000) := hide (by rw [← HX.out, ← HY.out]; exact ⟨hw, hyy⟩)
        cases k with
        | zero =>
          have P : Hid (PlOk h 0) := hide (.inr ⟨HWY.out, fun q => absurd q (Nat.lt_irrefl _)⟩)
          have h00 : ¬ ((0 : Nat) : Int) > 0 := by omega
          rw [Nat.add_zero] at hc hd
          clear bad
          go_wp2_with fail
          refine (CW.out _).mono ?_
          rintro e w5 ⟨rfl, rfl⟩
          go_wp2_with fail
          refine (CY.out _).mono ?_
          rintro e w6 ⟨rfl, rfl⟩
          go_wp2
          go_round
          case rel => exact ⟨0 + 1, by omega, by go_num, fun j hj => by
            obtain rfl : j = 0 := by omega
            exact P.out⟩
          case measure => simp [intOf]; omega
        | succ q =>
          obtain ⟨b2, o2, e2, hp⟩ := F0.out.sN q (by rw [F0.out.ln]; omega)
          obtain ⟨rfl, rfl⟩ : ba = b2 ∧ oa = o2 := by cases e2; exact ⟨rfl, rfl⟩
          obtain ⟨p, hpp⟩ : ∃ p, p = na h q := ⟨_, rfl⟩
          rw [show h.nm.getD q e0 = p from hpp.symm] at hp
          have HP := hide hpp
          have hqI : (q : Int) < (m : Int) := by omega
          have hq0 : (0 : Int) ≤ (q : Int) := by omega
          have hqp : ((q : Int) + 1) > 0 := by omega
          have hqm : (q : Int) + 1 - 1 = (q : Int) := by omega
          clear hpp e2
          by_cases hpe : p = e0
          · have EB := bad (fun qq => by
              rcases qq with ⟨h0, _⟩ | ⟨_, h1⟩
              · exact hxe (by rw [HX.out]; exact h0)
              · exact (h1 (by omega)).1 (by rw [Nat.add_sub_cancel, ← HP.out]; exact hpe))
            subst hpe
            clear bad
            go_wp2_with fail
            refine (CW.out _).mono ?_
            rintro e w5 ⟨rfl, rfl⟩
            go_wp2_with fail
            refine (CY.out _).mono ?_
            rintro e w6 ⟨rfl, rfl⟩
            go_wp2
            go_ret
            exact ⟨by rw [EB.out]; rfl, B0.out⟩
          · have hpl := ne_list hpe
            by_cases hah : L3.Ahead p x
            · have P : Hid (PlOk h (q + 1)) := hide (.inr ⟨HWY.out, fun _ => by rw [Nat.add_sub_cancel, ← HP.out, ← HX.out]; exact ⟨hpe, hah⟩⟩)
              have hlt3 : Op.bytesLess p.toList x.toList = true := hah
              clear bad
              go_wp2_with fail
              refine (CW.out _).mono ?_
              rintro e w5 ⟨rfl, rfl⟩
              go_wp2_with fail
              refine (CY.out _).mono ?_
              rintro e w6 ⟨rfl, rfl⟩
              go_wp2
              go_round
              case rel => exact ⟨q + 1 + 1, by omega, by go_num, fun j hj => by
                by_cases e : j = q + 1
                · subst e; exact P.out
                · exact HJ.out j (by omega)⟩
              case measure => simp [intOf]; omega
            · have EB := bad (fun qq => by
                rcases qq with ⟨h0, _⟩ | ⟨_, h1⟩
                · exact hxe (by rw [HX.out]; exact h0)
                · exact hah (by have := (h1 (by omega)).2; rw [Nat.add_sub_cancel, ← HP.out, ← HX.out] at this; exact this))
              have hlt3 : Op.bytesLess p.toList x.toList = false := by
                cases e : Op.bytesLess p.toList x.toList with
                | false => rfl
                | true => exact absurd e hah
              clear bad
              go_wp2_with fail
              refine (CW.out _).mono ?_
              rintro e w5 ⟨rfl, rfl⟩
              go_wp2_with fail
              refine (CY.out _).mono ?_
              rintro e w6 ⟨rfl, rfl⟩
              go_wp2
              go_ret
              exact ⟨by rw [EB.out]; rfl, B0.out⟩
    · obtain rfl : k = m := by omega
      have hltI : ¬ (k : Int) < (k : Int) := by omega
      have hsl : SmL h.ct := ⟨by rw [F0.out.lc]; omega, fun j hj => (HJ.out j (by rw [F0.out.lc] at hj; exact hj)).ct⟩
      obtain ⟨y, hy⟩ : ∃ y, y = sm h.ct k := ⟨_, rfl⟩
      have hyb := sm_bd (l := h.ct) k (fun j hj => (HJ.out j hj).ct)
      rw [← hy] at hyb
      have CS := hide (fun q => calls_symmH (l12Sum_h b h.ct k d (W0.drewN q) F0.out.lc (F0.out.sC.below (below_drewH (Below.refl _ W0) q)) hsl y hy))
      obtain ⟨p, hp⟩ : ∃ p, p = G * ((k : Int) + 1) := ⟨_, rfl⟩
      have hpb := hmb
      rw [← hp] at hpb
      have hp2 : G * ((k : Int) + 1) = p := hp.symm
      have EBB : Hid (bb = (T == y + p)) := hide (by
        by_cases e : T = y + p
        · rw [show (T == y + p) = true by simp [e]]
          exact HBB.out.2 ⟨by omega, by omega, rfl, by rw [HG.out]; exact c3.1, by rw [HG.out]; exact c3.2, HJ.out, by rw [HT.out, HG.out, ← hp, ← hy]; exact e, by rw [HT.out]; exact c4.2⟩
        · rw [show (T == y + p) = false by simp [e]]
          exact bool_noG HBB.out (fun g => e (by have := g.t; rw [HT.out, HG.out, ← hp, ← hy] at this; exact this)))
      clear hy hp hmb
      go_upto_region 13 with fail
      go_quiet (first | (go_at_call 64; refine Calls.quiet_of_same (CS.out _)) | fail)
      go_wp2
      go_ret
      exact ⟨by rw [EBB.out]; rfl, below_drewH B0.out _⟩
end Go.Proofs.Yticgejaaoamhmao.L15H

namespace Go.Proofs.Yticgejaaoamhmao.L15H
open Go.RowKit L1 Own Str
set_option linter.unusedVariables false

/-- What AddHeavy answers. -/
structure IsAddR (h : Hv) (n m : Nat) (s : ByteArray) (ok : Bool) (L : Hv) : Prop where
  bad : ¬ (GoodHv h n m ∧ L3.Word false s) → ok = false ∧ L = e0H
  good : ∀ tk p, GoodHv h n m → L3.Word false s → IsTk h.nm n tk → IsAt h.nm tk s p → (ok = true ↔ GoodHv (addH h n tk p s) n n) ∧ L = if ok then addH h n tk p s else e0H
theorem getD_le {l : List ByteArray} (h : ∀ i, i < l.length → (l.getD i e0).size ≤ 1048576) (i : Nat) : (l.getD i e0).size ≤ 1048576 := by
  by_cases hi : i < l.length
  · exact h i hi
  · rw [show l.getD i e0 = e0 by simp [List.getD, List.getElem?_eq_none (show l.length ≤ i by omega)]]
    decide
theorem lfN_sz {h : Hv} (hx : ∀ i, i < h.nm.length → (h.nm.getD i e0).size ≤ 1048576) : ∀ k, ∀ x ∈ lfN h k, x.size ≤ 1048576
  | 0, x, hm => by simp [lfN] at hm
  | k + 1, x, hm => by
    unfold lfN at hm
    split at hm
    · rw [List.mem_append] at hm
      rcases hm with hm | hm
      · exact lfN_sz hx k x hm
      · simp at hm
        subst hm
        exact getD_le hx k
    · exact lfN_sz hx k x hm
theorem getD_mem {l : List ByteArray} (h : ∀ x ∈ l, x.size ≤ 1048576) (i : Nat) (hi : i < l.length) : (l.getD i e0).size ≤ 1048576 := by
  simp only [List.getD, List.getElem?_eq_getElem hi, Option.getD_some]
  exact h _ (List.getElem_mem hi)
theorem addH_sz {h : Hv} {n tk p : Nat} {s : ByteArray} (hs : s.size ≤ 1048576) (hx : ∀ i, i < h.nm.length → (h.nm.getD i e0).size ≤ 1048576) : ∀ i, i < (addH h n tk p s).nm.length → ((addH h n tk p s).nm.getD i e0).size ≤ 1048576 := by
  unfold addH
  split
  · exact hx
  · split
    · intro i hi
      simp only [putH, putL_len] at hi ⊢
      rw [putL_at _ _ _ _ _ hi]
      split
      · exact hx i hi
      · split
        · exact hs
        · exact getD_le hx (i - 1)
    · intro i hi
      refine getD_mem (fun x hm => ?_) i hi
      rw [show (lessH (upH h) n).nm = lfN (upH h) n ++ List.replicate (n - (lfC (upH h) n).length) e0 from rfl, List.mem_append] at hm
      rcases hm with hm | hm
      · exact lfN_sz (h := upH h) hx n x hm
      · rw [List.eq_of_mem_replicate hm]
        decide
theorem tk_uniq {l : List ByteArray} {n i k : Nat} (h1 : IsTk l n i) (h2 : IsTk l n k) : i = k := by
  rcases Nat.lt_trichotomy i k with h | h | h
  · exact absurd (h1.emp (Nat.lt_of_lt_of_le h h2.le)) (h2.ne i h)
  · exact h
  · exact absurd (h2.emp (Nat.lt_of_lt_of_le h h1.le)) (h1.ne k h)
theorem addR_ex (h : Hv) (n m : Nat) (s : ByteArray) : ∃ ok L, IsAddR h n m s ok L := by
  classical
  by_cases hg : GoodHv h n m ∧ L3.Word false s
  · obtain ⟨tk, hk⟩ := tk_ex h.nm n
    obtain ⟨p, hp⟩ := at_ex s tk (hg.1.rise hk)
    refine ⟨decide (GoodHv (addH h n tk p s) n n), if decide (GoodHv (addH h n tk p s) n n) = true then addH h n tk p s else e0H, fun q => absurd hg q, fun tk' p' _ _ hk' hp' => ?_⟩
    have e1 : tk' = tk := tk_uniq hk' hk
    subst e1
    have e2 : p' = p := at_uniq hp' hp
    subst e2
    exact ⟨by simp, rfl⟩
  · exact ⟨false, e0H, fun _ => ⟨rfl, rfl⟩, fun _ _ h1 h2 => absurd ⟨h1, h2⟩ hg⟩
end Go.Proofs.Yticgejaaoamhmao.L15H

namespace Go.Proofs.Yticgejaaoamhmao.L15H
open Go.RowKit L1 Own Str
set_option linter.unusedVariables false

/-- Some put into a list from a place on. -/
def putAt {α : Type} (l : List α) (o : Nat) : List α → List α
  | [] => l
  | v :: vs => putAt (l.set o v) (o + 1) vs
theorem putAt_len {α : Type} : ∀ (cs l : List α) (o : Nat), (putAt l o cs).length = l.length
  | [], l, o => rfl
  | v :: vs, l, o => by rw [putAt, putAt_len vs]; simp
theorem putAt_at {α : Type} (d : α) : ∀ (cs l : List α) (o j : Nat), o + cs.length ≤ l.length → (putAt l o cs).getD j d = if o ≤ j ∧ j < o + cs.length then cs.getD (j - o) d else l.getD j d
  | [], l, o, j, h => by
    rw [if_neg (by simp only [List.length_nil]; omega)]
    rfl
  | v :: vs, l, o, j, h => by
    simp only [List.length_cons] at h
    rw [putAt, putAt_at d vs (l.set o v) (o + 1) j (by simp; omega), getD_setX d l o j v (by omega)]
    by_cases e : j = o
    · subst e
      rw [if_neg (by omega), if_pos rfl, if_pos (by simp)]
      simp
    · rw [if_neg e]
      by_cases h1 : o + 1 ≤ j ∧ j < o + 1 + vs.length
      · rw [if_pos h1, if_pos (by simp; omega), show j - o = (j - (o + 1)) + 1 by omega]
        simp
      · rw [if_neg h1, if_neg (by simp; omega)]
structure BxH (w x : World) (zb base gN cN gC cC n : Nat) (G T : Int) (L1 : List ByteArray) (L2 : List Int) : Prop where
  X : x.heap[zb]? = some (hvO (.slice (some ⟨gN, 0, none⟩) n cN) (.slice (some ⟨gC, 0, none⟩) n cC) G T)
  N : x.ownsRow base 9 1 (.slice (some ⟨gN, 0, none⟩) n cN) n (mapS L1)
  C : x.ownsRow base 3 1 (.slice (some ⟨gC, 0, none⟩) n cC) n (ints L2)
  nN : gN ≠ zb
  nC : gC ≠ zb
  bz : base ≤ zb
  S : w.heap.size ≤ x.heap.size
  B : Below base w x
section
variable {w x y : World} {zb base gN cN gC cC n : Nat} {G T : Int} {L1 : List ByteArray} {L2 : List Int}
theorem BxH.bN (k : BxH w x zb base gN cN gC cC n G T L1 L2) : base ≤ gN := own_ge k.N gN rfl
theorem BxH.bC (k : BxH w x zb base gN cN gC cC n G T L1 L2) : base ≤ gC := own_ge k.C gC rfl
theorem BxH.two (k : BxH w x zb base gN cN gC cC n G T L1 L2) : gN ≠ gC := fun e => L8.own_two k.N k.C st_int gN rfl (by rw [e]; rfl)
theorem BxH.lenN (k : BxH w x zb base gN cN gC cC n G T L1 L2) : L1.length = n := by have := k.N.1; simpa [mapS] using this
theorem BxH.lenC (k : BxH w x zb base gN cN gC cC n G T L1 L2) : L2.length = n := by have := k.C.1; simpa using this
theorem BxH.atN (k : BxH w x zb base gN cN gC cC n G T L1 L2) (i : Nat) (hi : i < n) : x.cell? ⟨gN, i, none⟩ = some (.string (L1.getD i e0)) ∧ x.frozen? ⟨gN, i, none⟩ = false := by
  obtain ⟨g, e, _, _, _, h⟩ := own_cellH k.N (by omega)
  injection e with e1
  injection e1 with e2
  subst e2
  have hl := k.lenN
  refine ⟨?_, (h i hi).1⟩
  rw [(h i hi).2]
  simp [mapS, List.getD, List.getElem?_eq_getElem (show i < L1.length by omega)]
theorem BxH.atC (k : BxH w x zb base gN cN gC cC n G T L1 L2) (i : Nat) (hi : i < n) : x.cell? ⟨gC, i, none⟩ = some (.int .i64 (L2.getD i 0)) ∧ x.frozen? ⟨gC, i, none⟩ = false := by
  obtain ⟨g, e, _, _, _, h⟩ := own_cellH k.C (by omega)
  injection e with e1
  injection e1 with e2
  subst e2
  have hl := k.lenC
  refine ⟨?_, (h i hi).1⟩
  rw [(h i hi).2]
  simp [List.getD, List.getElem?_eq_getElem (show i < L2.length by omega)]
theorem BxH.capN (k : BxH w x zb base gN cN gC cC n G T L1 L2) : n ≤ cN := by
  obtain ⟨_, _, e, h⟩ := own_capH k.N
  injection e with _ _ e3
  omega
theorem BxH.capC (k : BxH w x zb base gN cN gC cC n G T L1 L2) : n ≤ cC := by
  obtain ⟨_, _, e, h⟩ := own_capH k.C
  injection e with _ _ e3
  omega
theorem BxH.setN (k : BxH w x zb base gN cN gC cC n G T L1 L2) (i : Nat) (s : ByteArray) : BxH w (x.setCell ⟨gN, i, none⟩ (.string s)) zb base gN cN gC cC n G T (L1.set i s) L2 := by
  have h2 := k.two
  refine ⟨?_, ?_, own_neH k.C _ _ (fun g hg => by cases hg; exact h2.symm), k.nN, k.nC, k.bz, ?_, k.B.setCell k.bN _⟩
  · rw [Below.heap_setCell _ _ _ _ (show zb ≠ gN from k.nN.symm)]; exact k.X
  · have := (k.N.stored i (.string s)).1
    rw [show (mapS L1).set i (.string s) = mapS (L1.set i s) by simp [mapS, List.map_set]] at this
    exact this
  · rw [World.size_setCell]; exact k.S
theorem BxH.setC (k : BxH w x zb base gN cN gC cC n G T L1 L2) (i : Nat) (z : Int) : BxH w (x.setCell ⟨gC, i, none⟩ (.int .i64 z)) zb base gN cN gC cC n G T L1 (L2.set i z) := by
  have h2 := k.two
  refine ⟨?_, own_neH k.N _ _ (fun g hg => by cases hg; exact h2), ?_, k.nN, k.nC, k.bz, ?_, k.B.setCell k.bC _⟩
  · rw [Below.heap_setCell _ _ _ _ (show zb ≠ gC from k.nC.symm)]; exact k.X
  · have := (k.C.stored i (.int .i64 z)).1
    rw [show (ints L2).set i (.int .i64 z) = ints (L2.set i z) by simp [List.map_set]] at this
    exact this
  · rw [World.size_setCell]; exact k.S
theorem BxH.setG (k : BxH w x zb base gN cN gC cC n G T L1 L2) (z : Int) : BxH w (x.setCell ⟨zb, 2, none⟩ (.int .i64 z)) zb base gN cN gC cC n z T L1 L2 := by
  refine ⟨heap_boxO k.X 2 _, own_neH k.N _ _ (fun g hg => by cases hg; exact k.nN), own_neH k.C _ _ (fun g hg => by cases hg; exact k.nC), k.nN, k.nC, k.bz, ?_, k.B.setCell k.bz _⟩
  rw [World.size_setCell]; exact k.S
theorem BxH.drew (k : BxH w x zb base gN cN gC cC n G T L1 L2) : BxH w x.drew zb base gN cN gC cC n G T L1 L2 := ⟨k.X, k.N, k.C, k.nN, k.nC, k.bz, k.S, k.B.drew⟩
end
theorem BxH.setsN {w : World} {zb base gN cN gC cC n : Nat} {G T : Int} {L2 : List Int} : ∀ (cs : List ByteArray) (o : Nat) {x : World} {L1 : List ByteArray}, BxH w x zb base gN cN gC cC n G T L1 L2 → BxH w (x.setCells gN o (mapS cs)) zb base gN cN gC cC n G T (putAt L1 o cs) L2
  | [], o, x, L1, k => k
  | v :: vs, o, x, L1, k => BxH.setsN vs (o + 1) (k.setN o v)
theorem BxH.setsC {w : World} {zb base gN cN gC cC n : Nat} {G T : Int} {L1 : List ByteArray} : ∀ (cs : List Int) (o : Nat) {x : World} {L2 : List Int}, BxH w x zb base gN cN gC cC n G T L1 L2 → BxH w (x.setCells gC o (ints cs)) zb base gN cN gC cC n G T L1 (putAt L2 o cs)
  | [], o, x, L2, k => k
  | v :: vs, o, x, L2, k => BxH.setsC vs (o + 1) (k.setC o v)
theorem oper_copy_run {w : World} {o : Oper} {a : Act} {K : Act → World → Prop} {Q : Exit → Act → World → Prop} (d s : Operand) (t : TypeId)
    (ho : o.op = .call { callee := .builtin .copy, args := #[d, s], argTypes := #[t, t] }) (v u : Value) (hd : a.eval d = v) (hs : a.eval s = u) {v' : Value} {w' : World}
    (hr : (Builtin.copy_ #[t, t] o.type #[v, u]).run Try.prog w = .ok v' w') (h : K (a.put o.dst v') w') : Oper.wp Try.prog o a w K Q := by
  unfold Oper.wp execOp
  simp only [ho, resolve, invoke, builtin, Sem.run_bind, Sem.run_pure, Result.andThen_ok, List.map_toArray, List.map_cons, List.map_nil, hd, hs, hr]
  exact h
theorem apT_one {t e : TypeId} {z : Value} {bytes : Nat} (k : ApT t e z bytes) : (Try.prog.info? e).map (·.size) = some 1 := by
  obtain ⟨i, hi, _, h1, _⟩ := k.hi
  rw [hi]
  simp [h1]
/-- The part from p to tk copied, in one row of the call's own, one place on. -/
theorem BxH.copyN {w x : World} {zb base gN cN gC cC n : Nat} {G T : Int} {L1 : List ByteArray} {L2 : List Int} (k : BxH w x zb base gN cN gC cC n G T L1 L2) (p tk c1 c2 : Nat) (hp : p ≤ tk) (ht : tk < n) (ty : TypeId) :
    (Builtin.copy_ #[22, 22] ty #[.slice (some ⟨gN, p + 1, none⟩) (tk - p) c1, .slice (some ⟨gN, p, none⟩) (tk - p) c2]).run Try.prog x = .ok (goInt ((tk - p : Nat) : Int)) (x.setCells gN (p + 1) (mapS ((L1.drop p).take (tk - p)))) := by
  have hl := k.lenN
  have hl2 : (mapS ((L1.drop p).take (tk - p))).length = tk - p := by simp [mapS]; omega
  have := run_copy_cells (P := Try.prog) x 22 22 ty 9 gN (p + 1) (tk - p) c1 ⟨gN, p, none⟩ (tk - p) c2 (mapS ((L1.drop p).take (tk - p))) apT_str.ht (apT_one apT_str) (by rw [hl2]; simp) (fun j v hj => by
      rw [add_atA]
      have hj2 : j < tk - p := by
        by_cases q : j < tk - p
        · exact q
        · rw [List.getElem?_eq_none (by rw [hl2]; omega)] at hj; cases hj
      rw [(k.atN (p + j) (by omega)).1, ← hj]
      simp [mapS, List.getD, List.getElem?_drop, hj2, List.getElem?_eq_getElem (show p + j < L1.length by omega)]) (fun j hj => by rw [hl2] at hj; rw [(k.atN (p + 1 + j) (by omega)).1]; rfl) (fun j hj => by rw [hl2] at hj; exact (k.atN (p + 1 + j) (by omega)).2) (onesS_H _)
  rw [hl2] at this
  exact this
theorem BxH.copyC {w x : World} {zb base gN cN gC cC n : Nat} {G T : Int} {L1 : List ByteArray} {L2 : List Int} (k : BxH w x zb base gN cN gC cC n G T L1 L2) (p tk c1 c2 : Nat) (hp : p ≤ tk) (ht : tk < n) (ty : TypeId) :
    (Builtin.copy_ #[23, 23] ty #[.slice (some ⟨gC, p + 1, none⟩) (tk - p) c1, .slice (some ⟨gC, p, none⟩) (tk - p) c2]).run Try.prog x = .ok (goInt ((tk - p : Nat) : Int)) (x.setCells gC (p + 1) (ints ((L2.drop p).take (tk - p)))) := by
  have hl := k.lenC
  have hl2 : (ints ((L2.drop p).take (tk - p))).length = tk - p := by simp; omega
  have := run_copy_cells (P := Try.prog) x 23 23 ty 3 gC (p + 1) (tk - p) c1 ⟨gC, p, none⟩ (tk - p) c2 (ints ((L2.drop p).take (tk - p))) apT_int.ht (apT_one apT_int) (by rw [hl2]; simp) (fun j v hj => by
      rw [add_atA]
      have hj2 : j < tk - p := by
        by_cases q : j < tk - p
        · exact q
        · rw [List.getElem?_eq_none (by rw [hl2]; omega)] at hj; cases hj
      rw [(k.atC (p + j) (by omega)).1, ← hj]
      simp [List.getD, List.getElem?_drop, hj2, List.getElem?_eq_getElem (show p + j < L2.length by omega)]) (fun j hj => by rw [hl2] at hj; rw [(k.atC (p + 1 + j) (by omega)).1]; rfl) (fun j hj => by rw [hl2] at hj; exact (k.atC (p + 1 + j) (by omega)).2) (onesI_H _)
  rw [hl2] at this
  exact this
/-- The part from p to tk moved on by one. -/
theorem putAt_moved {α : Type} (d : α) (l : List α) (p tk : Nat) (hp : p ≤ tk) (ht : tk < l.length) (he : ∀ j, tk ≤ j → j < l.length → l.getD j d = d) : Sh d l (putAt l (p + 1) ((l.drop p).take (tk - p))) p := by
  have hl : ((l.drop p).take (tk - p)).length = tk - p := by simp; omega
  have hat := fun j => putAt_at d ((l.drop p).take (tk - p)) l (p + 1) j (by rw [hl]; omega)
  rw [hl] at hat
  refine moved_sh (tk := tk) (putAt_len _ _ _) hp ht (fun j hj => ?_) (fun j h1 h2 => ?_) (fun j h1 h2 => ?_) he
  · rw [hat, if_neg (by omega)]
  · rw [hat, if_pos (by omega)]
    simp only [List.getD, List.getElem?_take, List.getElem?_drop]
    rw [if_pos (by omega), show p + (j - (p + 1)) = j - 1 by omega]
  · rw [hat, if_neg (by omega)]
end Go.Proofs.Yticgejaaoamhmao.L15H

namespace Go.Proofs.Yticgejaaoamhmao.L15H
open Go.RowKit L1 Own Str
set_option linter.unusedVariables false

/-- Who is left of the first k, moved up in place. -/
structure Lf (h : Hv) (k : Nat) (R1 : List ByteArray) (R2 : List Int) : Prop where
  l1 : R1.length = h.nm.length
  l2 : R2.length = h.ct.length
  a1 : ∀ j, j < h.nm.length → R1.getD j e0 = if j < (lfC h k).length then (lfN h k).getD j e0 else h.nm.getD j e0
  a2 : ∀ j, j < h.ct.length → R2.getD j 0 = if j < (lfC h k).length then (lfC h k).getD j 0 else h.ct.getD j 0
theorem lf_start (h : Hv) : Lf h 0 h.nm h.ct := ⟨rfl, rfl, fun j hj => by rw [if_neg (by simp [lfC])], fun j hj => by rw [if_neg (by simp [lfC])]⟩
theorem Lf.no {h : Hv} {k : Nat} {R1 : List ByteArray} {R2 : List Int} (f : Lf h k R1 R2) (hc : ¬ 1 < ca h k) : Lf h (k + 1) R1 R2 := by
  have e1 : lfN h (k + 1) = lfN h k := by simp only [lfN]; rw [if_neg hc]
  have e2 : lfC h (k + 1) = lfC h k := by simp only [lfC]; rw [if_neg hc]
  exact ⟨f.l1, f.l2, by rw [e1, e2]; exact f.a1, by rw [e2]; exact f.a2⟩
theorem getD_app {α : Type} (d : α) (l : List α) (x : α) (j : Nat) : (l ++ [x]).getD j d = if j < l.length then l.getD j d else if j = l.length then x else d := by
  by_cases h1 : j < l.length
  · rw [if_pos h1]
    simp [List.getD, List.getElem?_append_left h1]
  · rw [if_neg h1]
    by_cases h2 : j = l.length
    · subst h2
      simp [List.getD]
    · rw [if_neg h2]
      simp [List.getD, List.getElem?_eq_none (show (l ++ [x]).length ≤ j by simp; omega)]
theorem Lf.yes {h : Hv} {k : Nat} {R1 : List ByteArray} {R2 : List Int} (f : Lf h k R1 R2) (hk : k < h.nm.length) (hk2 : k < h.ct.length) (hc : 1 < ca h k) : Lf h (k + 1) (R1.set (lfC h k).length (na h k)) (R2.set (lfC h k).length (ca h k - 1)) := by
  have hl := lf_len h k
  have e1 : lfN h (k + 1) = lfN h k ++ [na h k] := by simp only [lfN]; rw [if_pos hc]
  have e2 : lfC h (k + 1) = lfC h k ++ [ca h k - 1] := by simp only [lfC]; rw [if_pos hc]
  have e3 : (lfC h k ++ [ca h k - 1]).length = (lfC h k).length + 1 := by simp
  refine ⟨by simp [f.l1], by simp [f.l2], fun j hj => ?_, fun j hj => ?_⟩
  · rw [e1, e2, e3, getD_setX e0 R1 _ j _ (by rw [f.l1]; omega), getD_app, hl.1, f.a1 j hj]
    by_cases h1 : j = (lfC h k).length
    · rw [if_pos h1, if_pos (by omega), if_neg (by omega), if_pos h1]
    · rw [if_neg h1]
      by_cases h2 : j < (lfC h k).length
      · rw [if_pos h2, if_pos (by omega), if_pos h2]
      · rw [if_neg h2, if_neg (by omega)]
  · rw [e2, e3, getD_setX 0 R2 _ j _ (by rw [f.l2]; omega), getD_app, f.a2 j hj]
    by_cases h1 : j = (lfC h k).length
    · rw [if_pos h1, if_pos (by omega), if_neg (by omega), if_pos h1]
    · rw [if_neg h1]
      by_cases h2 : j < (lfC h k).length
      · rw [if_pos h2, if_pos (by omega), if_pos h2]
      · rw [if_neg h2, if_neg (by omega)]
theorem getD_fill {α : Type} (d : α) (l : List α) (q j : Nat) : (l ++ List.replicate q d).getD j d = l.getD j d := by
  by_cases h1 : j < l.length
  · simp [List.getD, List.getElem?_append_left h1]
  · simp only [List.getD, List.getElem?_append_right (Nat.le_of_not_lt h1), List.getElem?_eq_none (Nat.le_of_not_lt h1), List.getElem?_replicate]
    split <;> rfl
theorem Lf.end1 {h : Hv} {n : Nat} {R1 : List ByteArray} {R2 : List Int} (f : Lf h n R1 R2) (hn : h.nm.length = n) : putAt R1 (lfC h n).length (List.replicate (n - (lfC h n).length) e0) = lfN h n ++ List.replicate (n - (lfC h n).length) e0 := by
  have hl := lf_len h n
  refine ext_getD e0 (by rw [putAt_len, f.l1]; simp; omega) (fun j hj => ?_)
  have hj2 : j < n := by simp at hj; omega
  rw [putAt_at e0 _ _ _ _ (by rw [f.l1]; simp; omega), getD_fill]
  simp only [List.length_replicate]
  by_cases h1 : j < (lfC h n).length
  · rw [if_neg (by omega), f.a1 j (by omega), if_pos h1]
  · rw [if_pos (by omega)]
    simp only [List.getD, List.getElem?_replicate]
    rw [if_pos (by omega), List.getElem?_eq_none (by omega)]
    rfl
theorem Lf.end2 {h : Hv} {n : Nat} {R1 : List ByteArray} {R2 : List Int} (f : Lf h n R1 R2) (hn : h.ct.length = n) : putAt R2 (lfC h n).length (List.replicate (n - (lfC h n).length) 0) = lfC h n ++ List.replicate (n - (lfC h n).length) 0 := by
  have hl := lf_len h n
  refine ext_getD 0 (by rw [putAt_len, f.l2]; simp; omega) (fun j hj => ?_)
  have hj2 : j < n := by simp at hj; omega
  rw [putAt_at 0 _ _ _ _ (by rw [f.l2]; simp; omega), getD_fill]
  simp only [List.length_replicate]
  by_cases h1 : j < (lfC h n).length
  · rw [if_neg (by omega), f.a2 j (by omega), if_pos h1]
  · rw [if_pos (by omega)]
    simp only [List.getD, List.getElem?_replicate]
    rw [if_pos (by omega), List.getElem?_eq_none (by omega)]
    rfl
theorem wpList_clear_run {w : World} {ops : Array Oper} {rest : List Oper} {o : Oper} {a : Act} {Q : Exit → Act → World → Prop} (hgd : o.guard = none) (d : Operand) (t : TypeId)
    (ho : o.op = .call { callee := .builtin .clear, args := #[d], argTypes := #[t] }) (v : Value) (hd : a.eval d = v) {v' : Value} {w' : World}
    (hr : (Builtin.clear_ #[t] o.type #[v]).run Try.prog w = .ok v' w') (h : wpList Try.prog ops Q rest (a.put o.dst v') w') : wpList Try.prog ops Q (o :: rest) a w :=
  wpList_plain hgd fun K hK => by
    unfold Oper.wp execOp
    simp only [ho, resolve, invoke, builtin, Sem.run_bind, Sem.run_pure, Result.andThen_ok, List.map_toArray, List.map_cons, List.map_nil, hd, hr]
    exact hK _ _ h
theorem BxH.clearN {w x : World} {zb base gN cN gC cC n : Nat} {G T : Int} {L1 : List ByteArray} {L2 : List Int} (k : BxH w x zb base gN cN gC cC n G T L1 L2) (q : Nat) (hq : q ≤ n) (ty : TypeId) :
    (Builtin.clear_ #[22] ty #[.slice (if cN = q then some ⟨gN, 0, none⟩ else some ⟨gN, q, none⟩) (n - q) (cN - q)]).run Try.prog x = .ok (.tuple #[]) (x.setCells gN q (mapS (List.replicate (n - q) e0))) := by
  have hc := k.capN
  obtain ⟨i0, hi, hz0, hz1, hz2⟩ := info_parts info_strS
  have hv : ∀ w, (zeroValue 9).run Try.prog w = .ok (.string ByteArray.empty) w := fun w => by simp [zeroValue, typeInfo, hi, hz0]
  by_cases e : q = n
  · subst e
    rw [Nat.sub_self]
    cases (if cN = q then (some ⟨gN, 0, none⟩ : Option Addr) else some ⟨gN, q, none⟩) <;> simp [Builtin.clear_, run_underlying apT_str.ht, World.setCells, mapS]
  · rw [if_neg (by omega)]
    have := Lib.run_clear_slice (P := Try.prog) x 22 9 ty (.string ByteArray.empty) apT_str.ht hv rfl rfl gN q (n - q) (cN - q) (by omega) (fun j hj => by rw [(k.atN (q + j) (by omega)).1]; rfl) (fun j hj => (k.atN (q + j) (by omega)).2)
    rw [show (mapS (List.replicate (n - q) e0)) = List.replicate (n - q) (.string ByteArray.empty) by simp [mapS]]
    exact this
theorem BxH.clearC {w x : World} {zb base gN cN gC cC n : Nat} {G T : Int} {L1 : List ByteArray} {L2 : List Int} (k : BxH w x zb base gN cN gC cC n G T L1 L2) (q : Nat) (hq : q ≤ n) (ty : TypeId) :
    (Builtin.clear_ #[23] ty #[.slice (if cC = q then some ⟨gC, 0, none⟩ else some ⟨gC, q, none⟩) (n - q) (cC - q)]).run Try.prog x = .ok (.tuple #[]) (x.setCells gC q (ints (List.replicate (n - q) 0))) := by
  have hc := k.capC
  obtain ⟨i0, hi, hz0, hz1, hz2⟩ := info_parts info_int
  have hv : ∀ w, (zeroValue 3).run Try.prog w = .ok (.int .i64 0) w := fun w => by simp [zeroValue, typeInfo, hi, hz0]
  by_cases e : q = n
  · subst e
    rw [Nat.sub_self]
    cases (if cC = q then (some ⟨gC, 0, none⟩ : Option Addr) else some ⟨gC, q, none⟩) <;> simp [Builtin.clear_, run_underlying apT_int.ht, World.setCells]
  · rw [if_neg (by omega)]
    have := Lib.run_clear_slice (P := Try.prog) x 23 3 ty (.int .i64 0) apT_int.ht hv rfl rfl gC q (n - q) (cC - q) (by omega) (fun j hj => by rw [(k.atC (q + j) (by omega)).1]; rfl) (fun j hj => (k.atC (q + j) (by omega)).2)
    rw [show (ints (List.replicate (n - q) 0)) = List.replicate (n - q) (.int .i64 0) by simp]
    exact this
theorem BxH.clearN3 {w x : World} {zb base gN cN gC cC n : Nat} {G T : Int} {L1 : List ByteArray} {L2 : List Int} (k : BxH w x zb base gN cN gC cC n G T L1 L2) (q : Nat) (hq : q ≤ n) (da : Option Addr) (cp : Nat) (ty : TypeId) (hda : q < n → da = some ⟨gN, q, none⟩ ∧ cp = cN - q) :
    (Builtin.clear_ #[22] ty #[.slice da (n - q) cp]).run Try.prog x = .ok (.tuple #[]) (x.setCells gN q (mapS (List.replicate (n - q) e0))) := by
  by_cases e : q = n
  · subst e
    rw [Nat.sub_self]
    cases da <;> simp [Builtin.clear_, run_underlying apT_str.ht, World.setCells, mapS]
  · obtain ⟨rfl, rfl⟩ := hda (by omega)
    have h1 := k.capN
    have := k.clearN q hq ty
    rw [if_neg (by omega)] at this
    exact this
theorem BxH.clearC3 {w x : World} {zb base gN cN gC cC n : Nat} {G T : Int} {L1 : List ByteArray} {L2 : List Int} (k : BxH w x zb base gN cN gC cC n G T L1 L2) (q : Nat) (hq : q ≤ n) (da : Option Addr) (cp : Nat) (ty : TypeId) (hda : q < n → da = some ⟨gC, q, none⟩ ∧ cp = cC - q) :
    (Builtin.clear_ #[23] ty #[.slice da (n - q) cp]).run Try.prog x = .ok (.tuple #[]) (x.setCells gC q (ints (List.replicate (n - q) 0))) := by
  by_cases e : q = n
  · subst e
    rw [Nat.sub_self]
    cases da <;> simp [Builtin.clear_, run_underlying apT_int.ht, World.setCells]
  · obtain ⟨rfl, rfl⟩ := hda (by omega)
    have h1 := k.capC
    have := k.clearC q hq ty
    rw [if_neg (by omega)] at this
    exact this
theorem clear0 {t e : TypeId} {z : Value} {bytes : Nat} (k : ApT t e z bytes) (da : Option Addr) (cp : Nat) (w : World) : ∀ ty, (Builtin.clear_ #[t] ty #[.slice da 0 cp]).run Try.prog w = .ok (.tuple #[]) w := fun ty => by
  cases da <;> simp [Builtin.clear_, run_underlying k.ht]
end Go.Proofs.Yticgejaaoamhmao.L15H

namespace Go.Proofs.Yticgejaaoamhmao.L15H
open Go.RowKit L1 Own Str
set_option linter.unusedVariables false

theorem ahead_ofH {a b : ByteArray} (h1 : ¬ L3.Ahead a b) (h2 : a ≠ b) : L3.Ahead b a := by
  by_cases h : L3.Ahead b a
  · exact h
  · exact absurd (ptr_eq.1 (L3.bl_tri _ _ (by unfold L3.Ahead at h1; simpa using h1) (by unfold L3.Ahead at h; simpa using h))) h2
theorem sm_congr {l m : List Int} : ∀ k, (∀ j, j < k → m.getD j 0 = l.getD j 0) → sm m k = sm l k
  | 0, _ => rfl
  | k + 1, h => by
    show sm m k + m.getD k 0 = sm l k + l.getD k 0
    rw [sm_congr k (fun j hj => h j (by omega)), h k (by omega)]
theorem sm_set (l : List Int) (p : Nat) (x : Int) (hp : p < l.length) : ∀ k, sm (l.set p x) k = sm l k + (if p < k then x - l.getD p 0 else 0)
  | 0 => by simp [sm]
  | k + 1 => by
    show sm (l.set p x) k + (l.set p x).getD k 0 = sm l k + l.getD k 0 + _
    rw [sm_set l p x hp k, getD_setX 0 l p k x hp]
    by_cases e : k = p
    · subst e
      rw [if_pos rfl, if_neg (Nat.lt_irrefl _), if_pos (by omega)]
      omega
    · rw [if_neg e]
      by_cases h : p < k
      · rw [if_pos h, if_pos (by omega)]; omega
      · rw [if_neg h, if_neg (by omega)]; omega
theorem sm_putL (l : List Int) (p : Nat) (x : Int) : ∀ k, p ≤ k → k < l.length → sm (putL l p x) (k + 1) = sm l k + x
  | 0, hp, hk => by
    obtain rfl : p = 0 := by omega
    show 0 + (putL l 0 x).getD 0 0 = 0 + x
    rw [putL_at l 0 x 0 0 hk, if_neg (Nat.lt_irrefl _), if_pos rfl]
  | k + 1, hp, hk => by
    show sm (putL l p x) (k + 1) + (putL l p x).getD (k + 1) 0 = sm l k + l.getD k 0 + x
    by_cases e : p = k + 1
    · subst e
      rw [putL_at l (k + 1) x 0 (k + 1) hk, if_neg (Nat.lt_irrefl _), if_pos rfl]
      rw [sm_congr (l := l) (k + 1) (fun j hj => by rw [putL_at l (k + 1) x 0 j (by omega), if_pos hj])]
      rfl
    · rw [sm_putL l p x k (by omega) (by omega), putL_at l p x 0 (k + 1) hk, if_neg (by omega), if_neg (by omega), Nat.add_sub_cancel]
      omega
theorem sm_get {l : List Int} : ∀ k, (∀ j, j < k → 0 ≤ l.getD j 0) → ∀ i, i < k → l.getD i 0 ≤ sm l k
  | 0, _, i, hi => absurd hi (Nat.not_lt_zero _)
  | k + 1, h, i, hi => by
    have h0 : ∀ k, (∀ j, j < k → 0 ≤ l.getD j 0) → 0 ≤ sm l k := fun k => by
      induction k with
      | zero => intro _; simp [sm]
      | succ k ih => intro h; have h1 := ih (fun j hj => h j (by omega)); have h2 := h k (by omega); simp only [sm]; omega
    simp only [sm]
    by_cases e : i = k
    · subst e
      have := h0 i (fun j hj => h j (by omega))
      omega
    · have h1 := sm_get k (fun j hj => h j (by omega)) i (by omega)
      have h2 := h k (by omega)
      omega
theorem GoodHv.sum {h : Hv} {n m : Nat} (k : GoodHv h n m) : 0 ≤ sm h.ct n ∧ sm h.ct n ≤ h.t ∧ h.g ≤ h.t ∧ ∀ i, i < n → ca h i ≤ h.t := by
  have h1 := (sm_bd (l := h.ct) n (fun j hj => (k.p j hj).ct)).1
  have h2 := mul_bd k.g0 k.g1 k.n6
  have h3 := k.t
  have h4 : h.g * 1 ≤ h.g * ((n : Int) + 1) := Int.mul_le_mul_of_nonneg_left (by omega) k.g0
  have h5 := sm_get (l := h.ct) n (fun j hj => (k.p j hj).ct.1)
  refine ⟨h1, by omega, by omega, fun i hi => ?_⟩
  have := h5 i hi
  show h.ct.getD i 0 ≤ h.t
  omega
/-- A name that is there told once more. -/
theorem inc_good {h : Hv} {n p : Nat} (g : GoodHv h n n) (hc : h.ct.length = n) (ht : h.t ≤ 99999) (hp : p < n) (hs : na h p ≠ e0) : GoodHv (incH (upH h) p) n n := by
  have hq := g.sum
  have hset : ∀ j, ca (incH (upH h) p) j = if j = p then ca h p + 1 else ca h j := fun j => getD_setX 0 h.ct p j _ (by rw [hc]; exact hp)
  refine ⟨g.n1, g.n6, rfl, g.g0, g.g1, fun i hi => ?_, ?_, ?_⟩
  · unfold PlOk
    rw [hset i]
    by_cases e : i = p
    · subst e
      rw [if_pos rfl]
      rcases g.p i hi with h1 | ⟨⟨h1, h2, h3⟩, h4⟩
      · exact absurd h1.1 hs
      · exact .inr ⟨⟨h1, by omega, by have := hq.2.2.2 i hi; omega⟩, h4⟩
    · rw [if_neg e]
      exact g.p i hi
  · show h.t + 1 = sm (h.ct.set p (ca h p + 1)) n + h.g * ((n : Int) + 1)
    rw [sm_set h.ct p _ (by rw [hc]; exact hp) n, if_pos hp]
    have := g.t
    show h.t + 1 = sm h.ct n + (h.ct.getD p 0 + 1 - h.ct.getD p 0) + h.g * ((n : Int) + 1)
    omega
  · show h.t + 1 ≤ 1000000
    omega
/-- A name that takes a place. -/
theorem put_good {h : Hv} {n tk p : Nat} {s : ByteArray} (g : GoodHv h n n) (hl : h.nm.length = n) (hc : h.ct.length = n) (ht : h.t ≤ 99999) (hw : L3.Word false s) (hk : IsTk h.nm n tk) (hp : IsAt h.nm tk s p) (hno : ¬ (p < tk ∧ na h p = s)) (htk : tk < n) : GoodHv (putH (upH h) p s) n n := by
  have hpt := hp.le
  have tl := g.tail hk
  have hn : ∀ j, j < n → na (putH (upH h) p s) j = if j < p then na h j else if j = p then s else na h (j - 1) := fun j hj => putL_at h.nm p s e0 j (by rw [hl]; exact hj)
  have hm : ∀ j, j < n → ca (putH (upH h) p s) j = if j < p then ca h j else if j = p then 1 else ca h (j - 1) := fun j hj => putL_at h.ct p 1 0 j (by rw [hc]; exact hj)
  refine ⟨g.n1, g.n6, rfl, g.g0, g.g1, fun i hi => ?_, ?_, ?_⟩
  · unfold PlOk
    rw [hn i hi, hm i hi]
    by_cases h1 : i < p
    · rw [if_pos h1, if_pos h1, hn (i - 1) (by omega), if_pos (by omega)]
      exact g.p i hi
    · rw [if_neg h1, if_neg h1]
      by_cases e : i = p
      · rw [if_pos e, if_pos e]
        refine .inr ⟨⟨hw, by omega, by omega⟩, fun h0 => ?_⟩
        rw [hn (i - 1) (by omega), if_pos (by omega)]
        exact ⟨hk.ne (i - 1) (by omega), hp.lo (i - 1) (by omega)⟩
      · rw [if_neg e, if_neg e]
        rcases g.p (i - 1) (by omega) with q | ⟨q1, q2⟩
        · exact .inl q
        · refine .inr ⟨q1, fun h0 => ?_⟩
          have hit : i - 1 < tk := by
            rcases Nat.lt_or_ge (i - 1) tk with q | q
            · exact q
            · exact absurd (tl (i - 1) q (by omega)).1 (word_ne q1.1)
          rw [hn (i - 1) (by omega)]
          by_cases e2 : i - 1 = p
          · rw [if_neg (by omega), if_pos e2]
            refine ⟨word_ne hw, ?_⟩
            rw [e2] at hit ⊢
            exact ahead_ofH (hp.hi p (Nat.le_refl _) hit) (fun q => hno ⟨hit, q⟩)
          · rw [if_neg (by omega), if_neg e2]
            have := q2 (by omega)
            rw [show i - 1 - 1 = i - 1 - 1 from rfl] at this
            exact this
  · show h.t + 1 = sm (putL h.ct p 1) n + h.g * ((n : Int) + 1)
    have h1 := sm_putL h.ct p 1 (n - 1) (by omega) (by have := g.n1; omega)
    rw [show n - 1 + 1 = n by have := g.n1; omega] at h1
    have h2 : sm h.ct n = sm h.ct (n - 1) + ca h (n - 1) := by
      have : sm h.ct (n - 1 + 1) = sm h.ct (n - 1) + ca h (n - 1) := rfl
      rwa [show n - 1 + 1 = n by have := g.n1; omega] at this
    have h3 := (tl (n - 1) (by omega) (by have := g.n1; omega)).2
    have := g.t
    rw [h1]
    omega
  · show h.t + 1 ≤ 1000000
    omega
theorem sm_snoc (l : List Int) (x : Int) : sm (l ++ [x]) (l.length + 1) = sm l l.length + x := by
  show sm (l ++ [x]) l.length + (l ++ [x]).getD l.length 0 = _
  rw [getD_app 0 l x l.length, if_neg (Nat.lt_irrefl _), if_pos rfl, sm_congr (l := l) l.length (fun j hj => by rw [getD_app 0 l x j, if_pos hj])]
theorem sm_fill (l : List Int) (q : Nat) : ∀ k, l.length ≤ k → sm (l ++ List.replicate q 0) k = sm l l.length
  | 0, h => by
    have e : l.length = 0 := by omega
    rw [e]; rfl
  | k + 1, h => by
    by_cases e : l.length = k + 1
    · rw [← e]
      exact sm_congr l.length (fun j hj => getD_fill 0 l q j)
    · show sm (l ++ List.replicate q 0) k + (l ++ List.replicate q 0).getD k 0 = sm l l.length
      rw [sm_fill l q k (by omega), getD_fill 0 l q k, show l.getD k 0 = 0 by simp [List.getD, List.getElem?_eq_none (show l.length ≤ k by omega)]]
      omega
/-- Who is left of the first k. -/
structure LfI (h : Hv) (k : Nat) : Prop where
  row : ∀ i, i < (lfC h k).length → (L3.Word false ((lfN h k).getD i e0) ∧ 1 ≤ (lfC h k).getD i 0 ∧ (lfC h k).getD i 0 ≤ 100000) ∧ (0 < i → L3.Ahead ((lfN h k).getD (i - 1) e0) ((lfN h k).getD i e0))
  lst : 0 < (lfC h k).length → ∃ j, j < k ∧ (lfN h k).getD ((lfC h k).length - 1) e0 = na h j
  sum : sm (lfC h k) (lfC h k).length = sm h.ct k - (k : Int)
theorem lfI_all {h : Hv} {n : Nat} (g : GoodHv h n n) (hf : ∀ j, j < n → na h j ≠ e0) (hr : Rise h.nm n) : ∀ k, k ≤ n → LfI h k
  | 0, _ => ⟨fun i hi => by simp [lfC] at hi, fun h0 => by simp [lfC] at h0, by simp [lfC, sm]⟩
  | k + 1, hk => by
    have ih := lfI_all g hf hr k (by omega)
    have hp : L3.Word false (na h k) ∧ 1 ≤ ca h k ∧ ca h k ≤ 100000 := by
      rcases g.p k (by omega) with q | q
      · exact absurd q.1 (hf k (by omega))
      · exact q.1
    have hs : sm h.ct (k + 1) = sm h.ct k + ca h k := rfl
    have hl := (lf_len h k).1
    by_cases h1 : 1 < ca h k
    · have eN : lfN h (k + 1) = lfN h k ++ [na h k] := by show (if 1 < ca h k then lfN h k ++ [na h k] else lfN h k) = _; rw [if_pos h1]
      have eC : lfC h (k + 1) = lfC h k ++ [ca h k - 1] := by show (if 1 < ca h k then lfC h k ++ [ca h k - 1] else lfC h k) = _; rw [if_pos h1]
      have gN : ∀ i, (lfN h k ++ [na h k]).getD i e0 = if i < (lfC h k).length then (lfN h k).getD i e0 else if i = (lfC h k).length then na h k else e0 := fun i => by rw [getD_app, hl]
      refine ⟨fun i hi => ?_, fun _ => ⟨k, by omega, ?_⟩, ?_⟩
      · rw [eC, List.length_append] at hi
        rw [eN, eC, gN i, getD_app 0 (lfC h k) _ i]
        by_cases e : i < (lfC h k).length
        · rw [if_pos e, if_pos e]
          refine ⟨(ih.row i e).1, fun h0 => ?_⟩
          rw [gN (i - 1), if_pos (by omega)]
          exact (ih.row i e).2 h0
        · have e2 : i = (lfC h k).length := by simp at hi; omega
          rw [if_neg e, if_neg e, if_pos e2, if_pos e2]
          refine ⟨⟨hp.1, by omega, by omega⟩, fun h0 => ?_⟩
          rw [gN (i - 1), if_pos (by omega)]
          obtain ⟨j, hj, hje⟩ := ih.lst (by omega)
          rw [e2, hje]
          exact hr j k hj (by omega)
      · rw [eC, eN, List.length_append, show (lfC h k).length + [ca h k - 1].length - 1 = (lfC h k).length by simp, gN, if_neg (Nat.lt_irrefl _), if_pos rfl]
      · rw [eC, List.length_append, show (lfC h k).length + [ca h k - 1].length = (lfC h k).length + 1 by simp, sm_snoc, ih.sum, hs]
        omega
    · have eN : lfN h (k + 1) = lfN h k := by rw [lfN, if_neg h1]
      have eC : lfC h (k + 1) = lfC h k := by rw [lfC, if_neg h1]
      refine ⟨fun i hi => ?_, fun h0 => ?_, ?_⟩
      · rw [eC] at hi
        rw [eN, eC]
        exact ih.row i hi
      · rw [eC] at h0
        rw [eN, eC]
        obtain ⟨j, hj, hje⟩ := ih.lst h0
        exact ⟨j, by omega, hje⟩
      · rw [eC, ih.sum, hs]
        omega
theorem lf_up (h : Hv) : ∀ k, lfN (upH h) k = lfN h k ∧ lfC (upH h) k = lfC h k
  | 0 => ⟨rfl, rfl⟩
  | k + 1 => by
    have ih := lf_up h k
    constructor
    · show (if 1 < ca h k then lfN (upH h) k ++ [na h k] else lfN (upH h) k) = (if 1 < ca h k then lfN h k ++ [na h k] else lfN h k)
      rw [ih.1]
    · show (if 1 < ca h k then lfC (upH h) k ++ [ca h k - 1] else lfC (upH h) k) = (if 1 < ca h k then lfC h k ++ [ca h k - 1] else lfC h k)
      rw [ih.2]
/-- One taken from each. -/
theorem less_good {h : Hv} {n : Nat} (g : GoodHv h n n) (ht : h.t ≤ 99999) (hk : IsTk h.nm n n) : GoodHv (lessH (upH h) n) n n := by
  have I := lfI_all g (fun j hj => hk.ne j hj) (g.rise hk) n (Nat.le_refl _)
  have hq := g.sum
  have hl := (lf_len h n).1
  have hle := (lf_len h n).2
  have hN : ∀ i, na (lessH (upH h) n) i = (lfN h n).getD i e0 := fun i => by
    show (lfN (upH h) n ++ List.replicate (n - (lfC (upH h) n).length) e0).getD i e0 = _
    rw [(lf_up h n).1]
    exact getD_fill e0 (lfN h n) _ i
  have hC : ∀ i, ca (lessH (upH h) n) i = (lfC h n).getD i 0 := fun i => by
    show (lfC (upH h) n ++ List.replicate (n - (lfC (upH h) n).length) 0).getD i 0 = _
    rw [(lf_up h n).2]
    exact getD_fill 0 (lfC h n) _ i
  refine ⟨g.n1, g.n6, rfl, by show 0 ≤ h.g + 1; have := g.g0; omega, by show h.g + 1 ≤ 100000; omega, fun i hi => ?_, ?_, ?_⟩
  · unfold PlOk
    rw [hN i, hC i, hN (i - 1)]
    by_cases e : i < (lfC h n).length
    · refine .inr ⟨(I.row i e).1, fun h0 => ⟨word_ne (I.row (i - 1) (by omega)).1.1, (I.row i e).2 h0⟩⟩
    · exact .inl ⟨by simp [List.getD, List.getElem?_eq_none (show (lfN h n).length ≤ i by omega)], by simp [List.getD, List.getElem?_eq_none (show (lfC h n).length ≤ i by omega)]⟩
  · show h.t + 1 = sm (lfC (upH h) n ++ List.replicate (n - (lfC (upH h) n).length) 0) n + (h.g + 1) * ((n : Int) + 1)
    rw [(lf_up h n).2, sm_fill _ _ n hle, I.sum, Int.add_mul, Int.one_mul]
    have := g.t
    omega
  · show h.t + 1 ≤ 1000000
    omega
/-- What one more name leaves is good. -/
theorem addH_good {h : Hv} {n tk p : Nat} {s : ByteArray} (g : GoodHv h n n) (hl : h.nm.length = n) (hc : h.ct.length = n) (ht : h.t ≤ 99999) (hw : L3.Word false s) (hk : IsTk h.nm n tk) (hp : IsAt h.nm tk s p) : GoodHv (addH h n tk p s) n n ∧ (addH h n tk p s).t = h.t + 1 := by
  have h1 := hk.le
  unfold addH
  split
  · next q => exact ⟨inc_good g hc ht (by omega) (by rw [q.2]; exact word_ne hw), rfl⟩
  · next q =>
    split
    · next q2 => exact ⟨put_good g hl hc ht hw hk hp q q2, rfl⟩
    · next q2 =>
      obtain rfl : tk = n := by omega
      exact ⟨less_good g ht hk, rfl⟩
/-- A new Heavy is good. -/
theorem new_good {n : Nat} (h1 : 1 ≤ n) (h6 : n ≤ 6) : GoodHv ⟨List.replicate n e0, List.replicate n 0, 0, 0⟩ n n := by
  have hz : ∀ k, sm (List.replicate n 0) k = 0 := fun k => by
    induction k with
    | zero => rfl
    | succ k ih =>
      show sm (List.replicate n 0) k + (List.replicate n (0 : Int)).getD k 0 = 0
      rw [ih]
      by_cases h : k < n <;> simp [List.getD, h]
  refine ⟨h1, h6, rfl, Int.le_refl _, by simp, fun i hi => .inl ⟨?_, ?_⟩, ?_, by simp⟩
  · show (List.replicate n e0).getD i e0 = e0
    simp [List.getD, hi]
  · show (List.replicate n (0 : Int)).getD i 0 = 0
    simp [List.getD, hi]
  · show (0 : Int) = sm (List.replicate n 0) n + 0 * ((n : Int) + 1)
    rw [hz]; simp
end Go.Proofs.Yticgejaaoamhmao.L15H

namespace Go.Proofs.Yticgejaaoamhmao.L15H
open Go.RowKit L1 Own Str
set_option linter.unusedVariables false

/-- A new Heavy. -/
def newH (x : Int) (ok : Bool) : Hv := if ok then ⟨List.replicate x.toNat e0, List.replicate x.toNat 0, 0, 0⟩ else e0H
theorem newH_len (x : Int) (ok : Bool) (hok : ok = true ↔ 1 ≤ x ∧ x ≤ 6) : (newH x ok).nm.length ≤ 6 ∧ (newH x ok).ct.length ≤ 6 := by
  cases ok with
  | false => simp [newH, e0H]
  | true =>
    obtain ⟨h1, h6⟩ := hok.1 rfl
    simp [newH]
    omega
theorem bool_noH {b : Bool} {p : Prop} (h : b = true ↔ p) (hp : ¬ p) : b = false := by
  cases b with
  | true => exact absurd (h.1 rfl) hp
  | false => rfl
theorem own_madeH {w : World} {base g n : Nat} {z : Value} {t : TypeId} (hz : z.cells = #[z]) (h : w.heap[g]? = some (.cells (madeCells z.cells (n * 1)) t (0, 0))) (hb : base ≤ g) (hn : n ≤ maxLen) : w.ownsRow base t 1 (.slice (some ⟨g, 0, none⟩) n n) n (List.replicate n z) := by
  have e : (madeCells z.cells (n * 1)).toList = List.replicate n z := by
    rw [hz, Nat.mul_one, toList_madeCells_one]
  have e2 : (madeCells z.cells (n * 1)).size = n * 1 := size_madeCells _ _
  exact ⟨by simp, .inr ⟨g, n, _, rfl, hb, h, Nat.le_refl _, hn, e2, by rw [e]; simp⟩⟩
theorem mk_names (n : Nat) (h : n ≤ 6) : ∃ OA : Obj, (∀ w : World, (w.alloc OA).ownsRow w.heap.size 9 1 (.slice (some ⟨w.heap.size, 0, none⟩) n n) n (mapS (List.replicate n e0))) ∧ ∀ w, (Instr.makeSlice 22 (.int .i64 (n : Int)) (.int .i64 (n : Int))).run Try.prog w = .ok (.slice (some ⟨w.heap.size, 0, none⟩) n n) (w.alloc OA) := by
  obtain ⟨i0, hi, hz0, hz1, hz2⟩ := info_parts info_strS
  refine ⟨.cells (madeCells (Value.string ByteArray.empty).cells (n * 1)) 9 (0, 0), fun w => ?_, fun w => ?_⟩
  · have := own_madeH (w := w.alloc (.cells (madeCells (Value.string ByteArray.empty).cells (n * 1)) 9 (0, 0))) (base := w.heap.size) (g := w.heap.size) (n := n) (z := .string ByteArray.empty) (t := 9) rfl (L8.blk_new w _) (Nat.le_refl _) (by unfold maxLen; omega)
    simpa [mapS] using this
  · have hr := run_make (P := Try.prog) w 22 9 i0 (.string ByteArray.empty) Try.underlying22 hi hz0 .i64 .i64 (n : Int) (n : Int) (by omega) (Int.le_refl _) (by rw [hz2]; omega) (by omega)
    simp only [Int.toNat_natCast, hz1] at hr
    exact hr
theorem mk_counts (n : Nat) (h : n ≤ 6) : ∃ OA : Obj, (∀ w : World, (w.alloc OA).ownsRow w.heap.size 3 1 (.slice (some ⟨w.heap.size, 0, none⟩) n n) n (ints (List.replicate n 0))) ∧ ∀ w, (Instr.makeSlice 23 (.int .i64 (n : Int)) (.int .i64 (n : Int))).run Try.prog w = .ok (.slice (some ⟨w.heap.size, 0, none⟩) n n) (w.alloc OA) := by
  obtain ⟨i0, hi, hz0, hz1, hz2⟩ := info_parts info_int
  refine ⟨.cells (madeCells (Value.int .i64 0).cells (n * 1)) 3 (0, 0), fun w => ?_, fun w => ?_⟩
  · have := own_madeH (w := w.alloc (.cells (madeCells (Value.int .i64 0).cells (n * 1)) 3 (0, 0))) (base := w.heap.size) (g := w.heap.size) (n := n) (z := .int .i64 0) (t := 3) rfl (L8.blk_new w _) (Nat.le_refl _) (by unfold maxLen; omega)
    simpa [ints] using this
  · have hr := run_make (P := Try.prog) w 23 3 i0 (.int .i64 0) Try.underlying23 hi hz0 .i64 .i64 (n : Int) (n : Int) (by omega) (Int.le_refl _) (by rw [hz2]; omega) (by omega)
    simp only [Int.toNat_natCast, hz1] at hr
    exact hr
set_option maxRecDepth 100000 in
set_option maxHeartbeats 400000 in
theorem isPlaceCount_any (n : Int) (w : World) (b : Bool) (hb : b = true ↔ 1 ≤ n ∧ n ≤ 6) :
    Calls Try.prog 66 #[.int .i64 n] w fun e w' => e = .returned (.bool b) ∧ w = w' := by
  by_cases h1 : n ≥ 1
  · by_cases h2 : n ≤ 6
    · obtain rfl : b = true := hb.2 ⟨h1, h2⟩
      clear hb
      go_enter Try.func66, Try.ntmps66
      go_wp2
      go_ret
      exact ⟨rfl, rfl⟩
    · obtain rfl : b = false := bool_noH hb (fun h => h2 h.2)
      clear hb
      go_enter Try.func66, Try.ntmps66
      go_wp2
      go_ret
      exact ⟨rfl, rfl⟩
  · obtain rfl : b = false := bool_noH hb (fun h => h1 h.1)
    clear hb
    go_enter Try.func66, Try.ntmps66
    go_wp2
    go_ret
    exact ⟨rfl, rfl⟩
set_option maxRecDepth 100000 in
set_option maxHeartbeats 4000000 in
theorem specNewHeavy_any (x : Int) (w : World) (ok : Bool) (hok : ok = true ↔ 1 ≤ x ∧ x ≤ 6) (h : Hv) (hh : h = newH x ok) :
    Calls Try.prog 51 #[.int .i64 x] w fun e w' => ∃ v u, e = .returned (.tuple #[hvV v u h.g h.t, .bool ok]) ∧ RH w w' v u h := by
  have C := hide (fun w => l1In_any x 1 6 w ok hok)
  cases ok with
  | false =>
    obtain rfl : h = e0H := hh
    have HB := hide (rh_nil ((Below.refl w.heap.size w).alloc (Nat.le_refl _) (hvO (.slice none 0 0) (.slice none 0 0) 0 0)))
    clear hok
    go_enter Try.func51, Try.ntmps51
    go_wp2_with fail
    refine (C.out _).mono ?_
    rintro e w1 ⟨rfl, rfl⟩
    go_wp2
    refine bodyPost_ret (v := .tuple #[hvV (.slice none 0 0) (.slice none 0 0) 0 0, .bool false]) (by simp [results, Try.f51, go_sem]) rfl ⟨_, _, rfl, HB.out⟩
  | true =>
  obtain ⟨h1, h6⟩ := hok.1 rfl
  obtain ⟨n, rfl⟩ : ∃ n : Nat, x = (n : Int) := ⟨x.toNat, by omega⟩
  obtain rfl : h = ⟨List.replicate n e0, List.replicate n 0, 0, 0⟩ := by rw [hh]; simp [newH]
  clear hok hh
  obtain ⟨OA, hOA, HMA⟩ := mk_names n (by omega)
  obtain ⟨OB, hOB, HMB⟩ := mk_counts n (by omega)
  have HOA := hide hOA
  have HOB := hide hOB
  clear hOA hOB
  have BX := (Below.refl w.heap.size w).alloc (Nat.le_refl _) (hvO (.slice none 0 0) (.slice none 0 0) 0 0)
  have g0 := L8.blk_new w (hvO (.slice none 0 0) (.slice none 0 0) 0 0)
  have ez : (w.alloc (hvO (.slice none 0 0) (.slice none 0 0) 0 0)).heap.size = w.heap.size + 1 := by simp
  obtain ⟨W0, hW0⟩ : ∃ W0, W0 = w.alloc (hvO (.slice none 0 0) (.slice none 0 0) 0 0) := ⟨_, rfl⟩
  rw [← hW0] at BX g0 ez
  have HW := hide hW0
  have BQ := hide BX
  have ZP := hide g0
  have EZ := hide ez
  clear hW0 BX g0 ez
  go_enter Try.func51, Try.ntmps51
  go_wp2_with fail
  refine (C.out _).mono ?_
  rintro e w1 ⟨rfl, rfl⟩
  go_upto_region 3 with fail
  rw [show w.alloc (.cells #[.slice none 0 0, .slice none 0 0, .int .i64 0, .int .i64 0] 27) = W0 from HW.out.symm]
  refine wp_region_held_drew (S := fun _ => True) (by kernel_rfl) trivial (fun hHeld => ?_)
  refine wpAnyH_take (i := 0) (v := ?v1) rfl (by kernel_rfl) (by kernel_rfl) (by kernel_rfl) (fun _ _ _ h => h) (Or.inl ⟨by rfl, ?y1⟩) (by assumption) ?r1
  case y1 => (intro w hSw; (try dsimp only at hSw); go_simp; try (with_reducible rfl))
  simp only [List.getElem_toArray, List.getElem_cons_zero, Act.put, List.setIfInBounds_toArray, List.set_cons_zero, List.set_cons_succ]
  refine wpAnyH_take (i := 2) (v := ?v2) rfl (by kernel_rfl) (by kernel_rfl) (by kernel_rfl) (fun _ _ _ h => h) (Or.inl ⟨by rfl, ?y2⟩) (by assumption) ?r2
  case y2 => (intro w hSw; (try dsimp only at hSw); go_simp; try (with_reducible rfl))
  simp only [List.getElem_toArray, List.getElem_cons_succ, List.getElem_cons_zero, Act.put, List.setIfInBounds_toArray, List.set_cons_zero, List.set_cons_succ]
  refine wpAnyH_ready (rs := [1, 3]) (by kernel_rfl) (by simp) ?_
  refine AllReadyH.cons rfl (fun K hK => ?_) (AllReadyH.cons rfl (fun K hK => ?_) AllReadyH.nil)
  · simp only [List.getElem_toArray, List.getElem_cons_succ, List.getElem_cons_zero]
    go_simp
    obtain ⟨wa, hwa⟩ : ∃ x, (W0.alloc OA).drew = x := ⟨_, rfl⟩
    have Ewa := hide (show Below W0.heap.size W0 wa by rw [← hwa]; exact ((Below.refl _ _).alloc (Nat.le_refl _) _).drew)
    have ON := hide (show wa.ownsRow W0.heap.size 9 1 (.slice (some ⟨W0.heap.size, 0, none⟩) n n) n (mapS (List.replicate n e0)) by rw [← hwa]; exact HOA.out W0)
    rw [hwa]
    refine hK.out _ _ ?_ (fun hHeld => ?_)
    · trivial
    clear hK K hwa
    try simp only [Act.put, List.setIfInBounds_toArray, List.set_cons_zero, List.set_cons_succ]
    refine wpAnyH_ready (rs := [3]) (by kernel_rfl) (by simp) ?_
    refine AllReadyH.cons rfl (fun K hK => ?_) AllReadyH.nil
    simp only [List.getElem_toArray, List.getElem_cons_succ, List.getElem_cons_zero]
    go_simp
    obtain ⟨wb, hwb⟩ : ∃ x, wa.alloc OB = x := ⟨_, rfl⟩
    have Ewb := hide (show Below wa.heap.size wa wb by rw [← hwb]; exact ((Below.refl _ _).alloc (Nat.le_refl _) _))
    have OC := hide (show wb.ownsRow wa.heap.size 3 1 (.slice (some ⟨wa.heap.size, 0, none⟩) n n) n (ints (List.replicate n 0)) by rw [← hwb]; exact HOB.out wa)
    rw [hwb]
    refine hK.out _ _ ?_ (fun hHeld => ?_)
    · trivial
    clear hK K hwb
    try simp only [Act.put, List.setIfInBounds_toArray, List.set_cons_zero, List.set_cons_succ]
    have EE := hide (show Below W0.heap.size W0 wb from Ewa.out.trans (Ewb.out.mono Ewa.out.size))
    have OO := hide (OwH.mk (w := wb) (base := w.heap.size + 1) (h := (⟨List.replicate n e0, List.replicate n 0, 0, 0⟩ : Hv)) (n := n) (m := n) (own_baseS (own_belO ON.out Ewb.out) (by have := EZ.out; omega)) (own_baseS OC.out (by have h1 := EZ.out; have h2 := Ewa.out.size; omega)))
    refine wpAnyH_take (i := 4) (v := ?v3) rfl (by kernel_rfl) (by kernel_rfl) (by kernel_rfl) (fun _ _ _ h => h) (Or.inl ⟨by rfl, ?y3⟩) (by assumption) ?r3
    case y3 => (intro w hSw; (try dsimp only at hSw); go_simp; try (with_reducible rfl))
    simp only [List.getElem_toArray, List.getElem_cons_succ, List.getElem_cons_zero, Act.put, List.setIfInBounds_toArray, List.set_cons_zero, List.set_cons_succ]
    refine wpAnyH_ready (rs := [5]) (by kernel_rfl) (by simp) ?_
    refine AllReadyH.cons rfl (fun K hK => ?_) AllReadyH.nil
    simp only [List.getElem_toArray, List.getElem_cons_succ, List.getElem_cons_zero]
    have R2 := blk_kept ZP.out (show Below W0.heap.size W0 wb from EE.out)
    obtain ⟨y0, y1, y2, y3⟩ := blk4 R2
    obtain ⟨f0, f1, f2, f3⟩ := frz4 R2
    have R3 := hide (set4 (a' := (.slice (some ⟨W0.heap.size, 0, none⟩) n n)) (b' := (.slice (some ⟨wa.heap.size, 0, none⟩) n n)) (c' := .int .i64 0) (d' := .int .i64 0) R2)
    have O9 := hide (OO.out.setC4 w.heap.size (by have := EZ.out; omega) (.slice (some ⟨W0.heap.size, 0, none⟩) n n) (.slice (some ⟨wa.heap.size, 0, none⟩) n n) (.int .i64 0) (.int .i64 0))
    have B9 := hide (below4 (BQ.out.trans (EE.out.mono BQ.out.size)) w.heap.size (Nat.le_refl _) (.slice (some ⟨W0.heap.size, 0, none⟩) n n) (.slice (some ⟨wa.heap.size, 0, none⟩) n n) (.int .i64 0) (.int .i64 0))
    clear R2
    go_simp
    refine hK.out _ _ ?_ (fun hHeld => ?_)
    · trivial
    clear hK K y0 y1 y2 y3 f0 f1 f2 f3
    try simp only [Act.put, List.setIfInBounds_toArray, List.set_cons_zero, List.set_cons_succ]
    refine wpAnyH_take (i := 6) (v := ?v4) rfl (by kernel_rfl) (by kernel_rfl) (by kernel_rfl) (fun _ _ _ h => h) (Or.inl ⟨by rfl, ?y4⟩) (by assumption) ?r4
    case y4 => (intro w hSw; (try dsimp only at hSw); go_simp; try (with_reducible rfl))
    simp only [List.getElem_toArray, List.getElem_cons_succ, List.getElem_cons_zero, Act.put, List.setIfInBounds_toArray, List.set_cons_zero, List.set_cons_succ]
    refine wpAnyH_done (by kernel_rfl) ?_ _
    clear hHeld
    obtain ⟨d0, d1, d2, d3⟩ := blk4 R3.out
    go_wp2
    refine bodyPost_ret (v := .tuple #[hvV (.slice (some ⟨W0.heap.size, 0, none⟩) n n) (.slice (some ⟨wa.heap.size, 0, none⟩) n n) 0 0, .bool true]) (by simp [results, Try.f51, go_sem, d0, d1, d2, d3]) rfl ⟨_, _, rfl, ⟨?_, B9.out⟩⟩
    rw [show (⟨List.replicate n e0, List.replicate n 0, 0, 0⟩ : Hv).nm.length = n by simp, show (⟨List.replicate n e0, List.replicate n 0, 0, 0⟩ : Hv).ct.length = n by simp]
    exact O9.out.toBase (by omega)
  · simp only [List.getElem_toArray, List.getElem_cons_succ, List.getElem_cons_zero]
    go_simp
    obtain ⟨wa, hwa⟩ : ∃ x, (W0.alloc OB).drew = x := ⟨_, rfl⟩
    have Ewa := hide (show Below W0.heap.size W0 wa by rw [← hwa]; exact ((Below.refl _ _).alloc (Nat.le_refl _) _).drew)
    have OC := hide (show wa.ownsRow W0.heap.size 3 1 (.slice (some ⟨W0.heap.size, 0, none⟩) n n) n (ints (List.replicate n 0)) by rw [← hwa]; exact HOB.out W0)
    rw [hwa]
    refine hK.out _ _ ?_ (fun hHeld => ?_)
    · trivial
    clear hK K hwa
    try simp only [Act.put, List.setIfInBounds_toArray, List.set_cons_zero, List.set_cons_succ]
    refine wpAnyH_ready (rs := [1]) (by kernel_rfl) (by simp) ?_
    refine AllReadyH.cons rfl (fun K hK => ?_) AllReadyH.nil
    simp only [List.getElem_toArray, List.getElem_cons_succ, List.getElem_cons_zero]
    go_simp
    obtain ⟨wb, hwb⟩ : ∃ x, wa.alloc OA = x := ⟨_, rfl⟩
    have Ewb := hide (show Below wa.heap.size wa wb by rw [← hwb]; exact ((Below.refl _ _).alloc (Nat.le_refl _) _))
    have ON := hide (show wb.ownsRow wa.heap.size 9 1 (.slice (some ⟨wa.heap.size, 0, none⟩) n n) n (mapS (List.replicate n e0)) by rw [← hwb]; exact HOA.out wa)
    rw [hwb]
    refine hK.out _ _ ?_ (fun hHeld => ?_)
    · trivial
    clear hK K hwb
    try simp only [Act.put, List.setIfInBounds_toArray, List.set_cons_zero, List.set_cons_succ]
    have EE := hide (show Below W0.heap.size W0 wb from Ewa.out.trans (Ewb.out.mono Ewa.out.size))
    have OO := hide (OwH.mk (w := wb) (base := w.heap.size + 1) (h := (⟨List.replicate n e0, List.replicate n 0, 0, 0⟩ : Hv)) (n := n) (m := n) (own_baseS ON.out (by have h1 := EZ.out; have h2 := Ewa.out.size; omega)) (own_baseS (own_belO OC.out Ewb.out) (by have := EZ.out; omega)))
    refine wpAnyH_take (i := 4) (v := ?v5) rfl (by kernel_rfl) (by kernel_rfl) (by kernel_rfl) (fun _ _ _ h => h) (Or.inl ⟨by rfl, ?y5⟩) (by assumption) ?r5
    case y5 => (intro w hSw; (try dsimp only at hSw); go_simp; try (with_reducible rfl))
    simp only [List.getElem_toArray, List.getElem_cons_succ, List.getElem_cons_zero, Act.put, List.setIfInBounds_toArray, List.set_cons_zero, List.set_cons_succ]
    refine wpAnyH_ready (rs := [5]) (by kernel_rfl) (by simp) ?_
    refine AllReadyH.cons rfl (fun K hK => ?_) AllReadyH.nil
    simp only [List.getElem_toArray, List.getElem_cons_succ, List.getElem_cons_zero]
    have R2 := blk_kept ZP.out (show Below W0.heap.size W0 wb from EE.out)
    obtain ⟨y0, y1, y2, y3⟩ := blk4 R2
    obtain ⟨f0, f1, f2, f3⟩ := frz4 R2
    have R3 := hide (set4 (a' := (.slice (some ⟨wa.heap.size, 0, none⟩) n n)) (b' := (.slice (some ⟨W0.heap.size, 0, none⟩) n n)) (c' := .int .i64 0) (d' := .int .i64 0) R2)
    have O9 := hide (OO.out.setC4 w.heap.size (by have := EZ.out; omega) (.slice (some ⟨wa.heap.size, 0, none⟩) n n) (.slice (some ⟨W0.heap.size, 0, none⟩) n n) (.int .i64 0) (.int .i64 0))
    have B9 := hide (below4 (BQ.out.trans (EE.out.mono BQ.out.size)) w.heap.size (Nat.le_refl _) (.slice (some ⟨wa.heap.size, 0, none⟩) n n) (.slice (some ⟨W0.heap.size, 0, none⟩) n n) (.int .i64 0) (.int .i64 0))
    clear R2
    go_simp
    refine hK.out _ _ ?_ (fun hHeld => ?_)
    · trivial
    clear hK K y0 y1 y2 y3 f0 f1 f2 f3
    try simp only [Act.put, List.setIfInBounds_toArray, List.set_cons_zero, List.set_cons_succ]
    refine wpAnyH_take (i := 6) (v := ?v6) rfl (by kernel_rfl) (by kernel_rfl) (by kernel_rfl) (fun _ _ _ h => h) (Or.inl ⟨by rfl, ?y6⟩) (by assumption) ?r6
    case y6 => (intro w hSw; (try dsimp only at hSw); go_simp; try (with_reducible rfl))
    simp only [List.getElem_toArray, List.getElem_cons_succ, List.getElem_cons_zero, Act.put, List.setIfInBounds_toArray, List.set_cons_zero, List.set_cons_succ]
    refine wpAnyH_done (by kernel_rfl) ?_ _
    clear hHeld
    obtain ⟨d0, d1, d2, d3⟩ := blk4 R3.out
    go_wp2
    refine bodyPost_ret (v := .tuple #[hvV (.slice (some ⟨wa.heap.size, 0, none⟩) n n) (.slice (some ⟨W0.heap.size, 0, none⟩) n n) 0 0, .bool true]) (by simp [results, Try.f51, go_sem, d0, d1, d2, d3]) rfl ⟨_, _, rfl, ⟨?_, B9.out⟩⟩
    rw [show (⟨List.replicate n e0, List.replicate n 0, 0, 0⟩ : Hv).nm.length = n by simp, show (⟨List.replicate n e0, List.replicate n 0, 0, 0⟩ : Hv).ct.length = n by simp]
    exact O9.out.toBase (by omega)
set_option maxRecDepth 100000 in
set_option maxHeartbeats 4000000 in
theorem implNewHeavy_any (x : Int) (w : World) (ok : Bool) (hok : ok = true ↔ 1 ≤ x ∧ x ≤ 6) (h : Hv) (hh : h = newH x ok) :
    Calls Try.prog 52 #[.int .i64 x] w fun e w' => ∃ v u, e = .returned (.tuple #[hvV v u h.g h.t, .bool ok]) ∧ RH w w' v u h := by
  have C := hide (fun w => isPlaceCount_any x w ok hok)
  cases ok with
  | false =>
    obtain rfl : h = e0H := hh
    have HB := hide (rh_nil ((Below.refl w.heap.size w).alloc (Nat.le_refl _) (hvO (.slice none 0 0) (.slice none 0 0) 0 0)))
    clear hok
    go_enter Try.func52, Try.ntmps52
    go_wp2_with fail
    refine (C.out _).mono ?_
    rintro e w1 ⟨rfl, rfl⟩
    go_wp2
    refine bodyPost_ret (v := .tuple #[hvV (.slice none 0 0) (.slice none 0 0) 0 0, .bool false]) (by simp [results, Try.f52, go_sem]) rfl ⟨_, _, rfl, HB.out⟩
  | true =>
  obtain ⟨h1, h6⟩ := hok.1 rfl
  obtain ⟨n, rfl⟩ : ∃ n : Nat, x = (n : Int) := ⟨x.toNat, by omega⟩
  obtain rfl : h = ⟨List.replicate n e0, List.replicate n 0, 0, 0⟩ := by rw [hh]; simp [newH]
  clear hok hh
  obtain ⟨OA, hOA, HMA⟩ := mk_names n (by omega)
  obtain ⟨OB, hOB, HMB⟩ := mk_counts n (by omega)
  have HOA := hide hOA
  have HOB := hide hOB
  clear hOA hOB
  have BX := (Below.refl w.heap.size w).alloc (Nat.le_refl _) (hvO (.slice none 0 0) (.slice none 0 0) 0 0)
  have g0 := L8.blk_new w (hvO (.slice none 0 0) (.slice none 0 0) 0 0)
  have ez : (w.alloc (hvO (.slice none 0 0) (.slice none 0 0) 0 0)).heap.size = w.heap.size + 1 := by simp
  obtain ⟨W0, hW0⟩ : ∃ W0, W0 = w.alloc (hvO (.slice none 0 0) (.slice none 0 0) 0 0) := ⟨_, rfl⟩
  rw [← hW0] at BX g0 ez
  have HW := hide hW0
  have BQ := hide BX
  have ZP := hide g0
  have EZ := hide ez
  clear hW0 BX g0 ez
  go_enter Try.func52, Try.ntmps52
  go_wp2_with fail
  refine (C.out _).mono ?_
  rintro e w1 ⟨rfl, rfl⟩
  go_upto_region 3 with fail
  rw [show w.alloc (.cells #[.slice none 0 0, .slice none 0 0, .int .i64 0, .int .i64 0] 27) = W0 from HW.out.symm]
  refine wp_region_held_drew (S := fun _ => True) (by kernel_rfl) trivial (fun hHeld => ?_)
  refine wpAnyH_take (i := 0) (v := ?v7) rfl (by kernel_rfl) (by kernel_rfl) (by kernel_rfl) (fun _ _ _ h => h) (Or.inl ⟨by rfl, ?y7⟩) (by assumption) ?r7
  case y7 => (intro w hSw; (try dsimp only at hSw); go_simp; try (with_reducible rfl))
  simp only [List.getElem_toArray, List.getElem_cons_zero, Act.put, List.setIfInBounds_toArray, List.set_cons_zero, List.set_cons_succ]
  refine wpAnyH_take (i := 2) (v := ?v8) rfl (by kernel_rfl) (by kernel_rfl) (by kernel_rfl) (fun _ _ _ h => h) (Or.inl ⟨by rfl, ?y8⟩) (by assumption) ?r8
  case y8 => (intro w hSw; (try dsimp only at hSw); go_simp; try (with_reducible rfl))
  simp only [List.getElem_toArray, List.getElem_cons_succ, List.getElem_cons_zero, Act.put, List.setIfInBounds_toArray, List.set_cons_zero, List.set_cons_succ]
  refine wpAnyH_ready (rs := [1, 3]) (by kernel_rfl) (by simp) ?_
  refine AllReadyH.cons rfl (fun K hK => ?_) (AllReadyH.cons rfl (fun K hK => ?_) AllReadyH.nil)
  · simp only [List.getElem_toArray, List.getElem_cons_succ, List.getElem_cons_zero]
    go_simp
    obtain ⟨wa, hwa⟩ : ∃ x, (W0.alloc OA).drew = x := ⟨_, rfl⟩
    have Ewa := hide (show Below W0.heap.size W0 wa by rw [← hwa]; exact ((Below.refl _ _).alloc (Nat.le_refl _) _).drew)
    have ON := hide (show wa.ownsRow W0.heap.size 9 1 (.slice (some ⟨W0.heap.size, 0, none⟩) n n) n (mapS (List.replicate n e0)) by rw [← hwa]; exact HOA.out W0)
    rw [hwa]
    refine hK.out _ _ ?_ (fun hHeld => ?_)
    · trivial
    clear hK K hwa
    try simp only [Act.put, List.setIfInBounds_toArray, List.set_cons_zero, List.set_cons_succ]
    refine wpAnyH_ready (rs := [3]) (by kernel_rfl) (by simp) ?_
    refine AllReadyH.cons rfl (fun K hK => ?_) AllReadyH.nil
    simp only [List.getElem_toArray, List.getElem_cons_succ, List.getElem_cons_zero]
    go_simp
    obtain ⟨wb, hwb⟩ : ∃ x, wa.alloc OB = x := ⟨_, rfl⟩
    have Ewb := hide (show Below wa.heap.size wa wb by rw [← hwb]; exact ((Below.refl _ _).alloc (Nat.le_refl _) _))
    have OC := hide (show wb.ownsRow wa.heap.size 3 1 (.slice (some ⟨wa.heap.size, 0, none⟩) n n) n (ints (List.replicate n 0)) by rw [← hwb]; exact HOB.out wa)
    rw [hwb]
    refine hK.out _ _ ?_ (fun hHeld => ?_)
    · trivial
    clear hK K hwb
    try simp only [Act.put, List.setIfInBounds_toArray, List.set_cons_zero, List.set_cons_succ]
    have EE := hide (show Below W0.heap.size W0 wb from Ewa.out.trans (Ewb.out.mono Ewa.out.size))
    have OO := hide (OwH.mk (w := wb) (base := w.heap.size + 1) (h := (⟨List.replicate n e0, List.replicate n 0, 0, 0⟩ : Hv)) (n := n) (m := n) (own_baseS (own_belO ON.out Ewb.out) (by have := EZ.out; omega)) (own_baseS OC.out (by have h1 := EZ.out; have h2 := Ewa.out.size; omega)))
    refine wpAnyH_take (i := 4) (v := ?v9) rfl (by kernel_rfl) (by kernel_rfl) (by kernel_rfl) (fun _ _ _ h => h) (Or.inl ⟨by rfl, ?y9⟩) (by assumption) ?r9
    case y9 => (intro w hSw; (try dsimp only at hSw); go_simp; try (with_reducible rfl))
    simp only [List.getElem_toArray, List.getElem_cons_succ, List.getElem_cons_zero, Act.put, List.setIfInBounds_toArray, List.set_cons_zero, List.set_cons_succ]
    refine wpAnyH_ready (rs := [5]) (by kernel_rfl) (by simp) ?_
    refine AllReadyH.cons rfl (fun K hK => ?_) AllReadyH.nil
    simp only [List.getElem_toArray, List.getElem_cons_succ, List.getElem_cons_zero]
    have R2 := blk_kept ZP.out (show Below W0.heap.size W0 wb from EE.out)
    obtain ⟨y0, y1, y2, y3⟩ := blk4 R2
    obtain ⟨f0, f1, f2, f3⟩ := frz4 R2
    have R3 := hide (set4 (a' := (.slice (some ⟨W0.heap.size, 0, none⟩) n n)) (b' := (.slice (some ⟨wa.heap.size, 0, none⟩) n n)) (c' := .int .i64 0) (d' := .int .i64 0) R2)
    have O9 := hide (OO.out.setC4 w.heap.size (by have := EZ.out; omega) (.slice (some ⟨W0.heap.size, 0, none⟩) n n) (.slice (some ⟨wa.heap.size, 0, none⟩) n n) (.int .i64 0) (.int .i64 0))
    have B9 := hide (below4 (BQ.out.trans (EE.out.mono BQ.out.size)) w.heap.size (Nat.le_refl _) (.slice (some ⟨W0.heap.size, 0, none⟩) n n) (.slice (some ⟨wa.heap.size, 0, none⟩) n n) (.int .i64 0) (.int .i64 0))
    clear R2
    go_simp
    refine hK.out _ _ ?_ (fun hHeld => ?_)
    · trivial
    clear hK K y0 y1 y2 y3 f0 f1 f2 f3
    try simp only [Act.put, List.setIfInBounds_toArray, List.set_cons_zero, List.set_cons_succ]
    refine wpAnyH_take (i := 6) (v := ?v10) rfl (by kernel_rfl) (by kernel_rfl) (by kernel_rfl) (fun _ _ _ h => h) (Or.inl ⟨by rfl, ?y10⟩) (by assumption) ?r10
    case y10 => (intro w hSw; (try dsimp only at hSw); go_simp; try (with_reducible rfl))
    simp only [List.getElem_toArray, List.getElem_cons_succ, List.getElem_cons_zero, Act.put, List.setIfInBounds_toArray, List.set_cons_zero, List.set_cons_succ]
    refine wpAnyH_done (by kernel_rfl) ?_ _
    clear hHeld
    obtain ⟨d0, d1, d2, d3⟩ := blk4 R3.out
    go_wp2
    refine bodyPost_ret (v := .tuple #[hvV (.slice (some ⟨W0.heap.size, 0, none⟩) n n) (.slice (some ⟨wa.heap.size, 0, none⟩) n n) 0 0, .bool true]) (by simp [results, Try.f52, go_sem, d0, d1, d2, d3]) rfl ⟨_, _, rfl, ⟨?_, B9.out⟩⟩
    rw [show (⟨List.replicate n e0, List.replicate n 0, 0, 0⟩ : Hv).nm.length = n by simp, show (⟨List.replicate n e0, List.replicate n 0, 0, 0⟩ : Hv).ct.length = n by simp]
    exact O9.out.toBase (by omega)
  · simp only [List.getElem_toArray, List.getElem_cons_succ, List.getElem_cons_zero]
    go_simp
    obtain ⟨wa, hwa⟩ : ∃ x, (W0.alloc OB).drew = x := ⟨_, rfl⟩
    have Ewa := hide (show Below W0.heap.size W0 wa by rw [← hwa]; exact ((Below.refl _ _).alloc (Nat.le_refl _) _).drew)
    have OC := hide (show wa.ownsRow W0.heap.size 3 1 (.slice (some ⟨W0.heap.size, 0, none⟩) n n) n (ints (List.replicate n 0)) by rw [← hwa]; exact HOB.out W0)
    rw [hwa]
    refine hK.out _ _ ?_ (fun hHeld => ?_)
    · trivial
    clear hK K hwa
    try simp only [Act.put, List.setIfInBounds_toArray, List.set_cons_zero, List.set_cons_succ]
    refine wpAnyH_ready (rs := [1]) (by kernel_rfl) (by simp) ?_
    refine AllReadyH.cons rfl (fun K hK => ?_) AllReadyH.nil
    simp only [List.getElem_toArray, List.getElem_cons_succ, List.getElem_cons_zero]
    go_simp
    obtain ⟨wb, hwb⟩ : ∃ x, wa.alloc OA = x := ⟨_, rfl⟩
    have Ewb := hide (show Below wa.heap.size wa wb by rw [← hwb]; exact ((Below.refl _ _).alloc (Nat.le_refl _) _))
    have ON := hide (show wb.ownsRow wa.heap.size 9 1 (.slice (some ⟨wa.heap.size, 0, none⟩) n n) n (mapS (List.replicate n e0)) by rw [← hwb]; exact HOA.out wa)
    rw [hwb]
    refine hK.out _ _ ?_ (fun hHeld => ?_)
    · trivial
    clear hK K hwb
    try simp only [Act.put, List.setIfInBounds_toArray, List.set_cons_zero, List.set_cons_succ]
    have EE := hide (show Below W0.heap.size W0 wb from Ewa.out.trans (Ewb.out.mono Ewa.out.size))
    have OO := hide (OwH.mk (w := wb) (base := w.heap.size + 1) (h := (⟨List.replicate n e0, List.replicate n 0, 0, 0⟩ : Hv)) (n := n) (m := n) (own_baseS ON.out (by have h1 := EZ.out; have h2 := Ewa.out.size; omega)) (own_baseS (own_belO OC.out Ewb.out) (by have := EZ.out; omega)))
    refine wpAnyH_take (i := 4) (v := ?v11) rfl (by kernel_rfl) (by kernel_rfl) (by kernel_rfl) (fun _ _ _ h => h) (Or.inl ⟨by rfl, ?y11⟩) (by assumption) ?r11
    case y11 => (intro w hSw; (try dsimp only at hSw); go_simp; try (with_reducible rfl))
    simp only [List.getElem_toArray, List.getElem_cons_succ, List.getElem_cons_zero, Act.put, List.setIfInBounds_toArray, List.set_cons_zero, List.set_cons_succ]
    refine wpAnyH_ready (rs := [5]) (by kernel_rfl) (by simp) ?_
    refine AllReadyH.cons rfl (fun K hK => ?_) AllReadyH.nil
    simp only [List.getElem_toArray, List.getElem_cons_succ, List.getElem_cons_zero]
    have R2 := blk_kept ZP.out (show Below W0.heap.size W0 wb from EE.out)
    obtain ⟨y0, y1, y2, y3⟩ := blk4 R2
    obtain ⟨f0, f1, f2, f3⟩ := frz4 R2
    have R3 := hide (set4 (a' := (.slice (some ⟨wa.heap.size, 0, none⟩) n n)) (b' := (.slice (some ⟨W0.heap.size, 0, none⟩) n n)) (c' := .int .i64 0) (d' := .int .i64 0) R2)
    have O9 := hide (OO.out.setC4 w.heap.size (by have := EZ.out; omega) (.slice (some ⟨wa.heap.size, 0, none⟩) n n) (.slice (some ⟨W0.heap.size, 0, none⟩) n n) (.int .i64 0) (.int .i64 0))
    have B9 := hide (below4 (BQ.out.trans (EE.out.mono BQ.out.size)) w.heap.size (Nat.le_refl _) (.slice (some ⟨wa.heap.size, 0, none⟩) n n) (.slice (some ⟨W0.heap.size, 0, none⟩) n n) (.int .i64 0) (.int .i64 0))
    clear R2
    go_simp
    refine hK.out _ _ ?_ (fun hHeld => ?_)
    · trivial
    clear hK K y0 y1 y2 y3 f0 f1 f2 f3
    try simp only [Act.put, List.setIfInBounds_toArray, List.set_cons_zero, List.set_cons_succ]
    refine wpAnyH_take (i := 6) (v := ?v12) rfl (by kernel_rfl) (by kernel_rfl) (by kernel_rfl) (fun _ _ _ h => h) (Or.inl ⟨by rfl, ?y12⟩) (by assumption) ?r12
    case y12 => (intro w hSw; (try dsimp only at hSw); go_simp; try (with_reducible rfl))
    simp only [List.getElem_toArray, List.getElem_cons_succ, List.getElem_cons_zero, Act.put, List.setIfInBounds_toArray, List.set_cons_zero, List.set_cons_succ]
    refine wpAnyH_done (by kernel_rfl) ?_ _
    clear hHeld
    obtain ⟨d0, d1, d2, d3⟩ := blk4 R3.out
    go_wp2
    refine bodyPost_ret (v := .tuple #[hvV (.slice (some ⟨wa.heap.size, 0, none⟩) n n) (.slice (some ⟨W0.heap.size, 0, none⟩) n n) 0 0, .bool true]) (by simp [results, Try.f52, go_sem, d0, d1, d2, d3]) rfl ⟨_, _, rfl, ⟨?_, B9.out⟩⟩
    rw [show (⟨List.replicate n e0, List.replicate n 0, 0, 0⟩ : Hv).nm.length = n by simp, show (⟨List.replicate n e0, List.replicate n 0, 0, 0⟩ : Hv).ct.length = n by simp]
    exact O9.out.toBase (by omega)
end Go.Proofs.Yticgejaaoamhmao.L15H

namespace Go.Proofs.Yticgejaaoamhmao.L15H
open Go.RowKit L1 Own Str
set_option linter.unusedVariables false

/-- The first k names told to a new Heavy of n places. -/
inductive Fed (n : Nat) (l : List ByteArray) : Nat → Hv → Prop
  | zero : Fed n l 0 ⟨List.replicate n e0, List.replicate n 0, 0, 0⟩
  | step {k : Nat} {h : Hv} {tk p : Nat} (f : Fed n l k h) (hw : L3.Word false (l.getD k e0)) (hk : IsTk h.nm n tk) (hp : IsAt h.nm tk (l.getD k e0) p) : Fed n l (k + 1) (addH h n tk p (l.getD k e0))
theorem Fed.det {n : Nat} {l : List ByteArray} {k : Nat} {h1 h2 : Hv} (f1 : Fed n l k h1) (f2 : Fed n l k h2) : h1 = h2 := by
  induction f1 generalizing h2 with
  | zero => cases f2; rfl
  | step f hw hk hp ih =>
    cases f2 with
    | step f' hw' hk' hp' =>
      obtain rfl := ih f'
      obtain rfl := tk_uniq hk hk'
      obtain rfl := at_uniq hp hp'
      rfl
theorem Fed.good {n : Nat} {l : List ByteArray} {k : Nat} {h : Hv} (h1 : 1 ≤ n) (h6 : n ≤ 6) (f : Fed n l k h) : k ≤ 300 → GoodHv h n n ∧ h.nm.length = n ∧ h.ct.length = n ∧ h.t = (k : Int) := by
  induction f with
  | zero => exact fun _ => ⟨new_good h1 h6, by simp, by simp, rfl⟩
  | @step k0 h0 tk0 p0 f hw hk hp ih =>
    intro hk3
    obtain ⟨g, e1, e2, e3⟩ := ih (by omega)
    have a := addH_good g e1 e2 (by omega) hw hk hp
    have b := addH_len (n := n) (m := n) (tk := tk0) (p := p0) (s := l.getD k0 e0) e1 e2
    exact ⟨a.1, b.1, b.2, by rw [a.2, e3]; omega⟩
theorem good_sz {h : Hv} {n : Nat} (g : GoodHv h n n) (hl : h.nm.length = n) : ∀ i, i < h.nm.length → (h.nm.getD i e0).size ≤ 1048576 := fun i hi => by
  rcases g.p i (by omega) with q | q
  · rw [show h.nm.getD i e0 = e0 from q.1]; decide
  · exact Nat.le_trans (show (na h i).size ≤ 8 from q.1.1.1.2) (by omega)
/-- What FeedHeavy answers. -/
structure IsFed (x : Int) (l : List ByteArray) (ok : Bool) (L : Hv) : Prop where
  iff : ok = true ↔ (1 ≤ x ∧ x ≤ 6) ∧ l.length ≤ 200 ∧ ∀ i, i < l.length → L3.Word false (l.getD i e0)
  yes : ok = true → Fed x.toNat l l.length L
  no : ok = false → L = e0H
theorem fed_all {n : Nat} {l : List ByteArray} (h1 : 1 ≤ n) (h6 : n ≤ 6) (h2 : l.length ≤ 200) (hw : ∀ i, i < l.length → L3.Word false (l.getD i e0)) : ∀ k, k ≤ l.length → ∃ h, Fed n l k h
  | 0, _ => ⟨_, Fed.zero⟩
  | k + 1, hk => by
    obtain ⟨h, f⟩ := fed_all h1 h6 h2 hw k (by omega)
    obtain ⟨tk, htk⟩ := tk_ex h.nm n
    obtain ⟨p, hp⟩ := at_ex (l.getD k e0) tk ((f.good h1 h6 (by omega)).1.rise htk)
    exact ⟨_, Fed.step f (hw k (by omega)) htk hp⟩
theorem fed_ex (x : Int) (l : List ByteArray) : ∃ ok L, IsFed x l ok L := by
  classical
  by_cases h : (1 ≤ x ∧ x ≤ 6) ∧ l.length ≤ 200 ∧ ∀ i, i < l.length → L3.Word false (l.getD i e0)
  · obtain ⟨L, f⟩ := fed_all (n := x.toNat) (by omega) (by omega) h.2.1 h.2.2 l.length (Nat.le_refl _)
    exact ⟨true, L, ⟨fun _ => h, fun _ => rfl⟩, fun _ => f, fun q => by cases q⟩
  · exact ⟨false, e0H, ⟨fun q => (by cases q), fun q => absurd q h⟩, fun q => (by cases q), fun _ => rfl⟩
theorem fed_len {x : Int} {l : List ByteArray} {ok : Bool} {L : Hv} (hr : IsFed x l ok L) : L.nm.length ≤ 6 ∧ L.ct.length ≤ 6 := by
  cases ok with
  | false => rw [hr.no rfl]; simp [e0H]
  | true =>
    have h := hr.iff.1 rfl
    have g := (hr.yes rfl).good (by omega) (by omega) (by omega)
    rw [g.2.1, g.2.2.1]
    omega
theorem own_boxneH {w : World} {base b n c : Nat} {t t2 : TypeId} {v : Value} {ys : List Value} {cs : Array Value} (h : w.ownsRow base t c v n ys) (hb : w.heap[b]? = some (.cells cs t2 (0, 0))) (hne : t2 ≠ t) : ∀ g, v.ownBlock = some g → g ≠ b := fun g hg e => by
  subst e
  rcases h.2 with ⟨hv, _⟩ | ⟨g2, cap, cur, hv, _, hg2, _⟩
  · rw [hv] at hg; cases hg
  · rw [hv] at hg
    cases hg
    rw [hg2] at hb
    injection hb with hb
    injection hb with _ hb2
    exact hne hb2.symm
theorem fed_words {n : Nat} {l : List ByteArray} {k : Nat} {h : Hv} (f : Fed n l k h) : ∀ i, i < k → L3.Word false (l.getD i e0) := by
  induction f with
  | zero => exact fun i hi => absurd hi (Nat.not_lt_zero _)
  | @step k0 h0 tk0 p0 f hw hk hp ih =>
    intro i hi
    by_cases e : i = k0
    · subst e; exact hw
    · exact ih i (by omega)
end Go.Proofs.Yticgejaaoamhmao.L15H
