/-
  Contract: spec.l12Sum.
  Contract: spec.GoodHeavy.
  What AddHeavy answers. Nothing of the program's text is proved here.
  A Heavy of the call's own in a box at an address, and the stores into it: cells one by one, and some in a row.
  Contract: impl.takePlace.
  What becomes of a Heavy in place, when one is taken from each; clear.
  Contract: impl.takeOneOff.
  Contracts: slices.Clone of texts, of ints, at least one.
-/
import Derived.Test.YticgejaaoamhmaoBundle2
import Derived.Deep.DeepCutAuto
import Derived.Test.YticgejaaoamhmaoBundle3
import Derived.Deep.QuietTactic
import Derived.BigQuiet
import Derived.Laws.IdiomCopy
import Derived.Deep.RegionHeld3
import Derived.Lib.SliceRun
namespace Go.Proofs.Yticgejaaoamhmao.L15H
open Go.RowKit L1 Own Str
set_option linter.unusedVariables false

def SmL (l : List Int) : Prop := l.length ≤ 50 ∧ ∀ j, j < l.length → 0 ≤ l.getD j 0 ∧ l.getD j 0 ≤ 100000
theorem below_drewH {N : Nat} {w w' : World} (h : Below N w w') : ∀ q, Below N w (w'.drewN q)
  | 0 => h
  | q + 1 => (below_drewH h q).drew
theorem calls_symmH {P : Program} {f : FuncId} {args : Array Value} {w : World} {v : Value} (h : Calls P f args w fun e w' => e = .returned v ∧ w = w') : Calls P f args w fun e w' => e = .returned v ∧ w' = w := h.mono fun _ _ ⟨a, b⟩ => ⟨a, b.symm⟩
set_option maxRecDepth 100000 in
set_option maxHeartbeats 4000000 in
theorem l12Sum_h (a : Option Addr) (l : List Int) (n cap : Nat) (w : World) (hn : l.length = n) (hs : Sl w a l) (hl : SmL l) (r : Int) (hr : r = sm l n) :
    Calls Try.prog 64 #[.slice a n cap] w fun e w' => e = .returned (.int .i64 r) ∧ w = w' := by
  have HS := hide hs
  have HN := hide hn
  have HR := hide hr
  have HL := hide hl
  have n50 : n ≤ 50 := by have := hl.1; omega
  clear hs hn hr hl
  go_enter Try.func64, Try.ntmps64
  go_wp2
  go_loop [3, 8] (fun s t => ∃ k : Nat, k ≤ n ∧ t = .int .i64 k ∧ s = .int .i64 (sm l k)) (fun _ t => n - (intOf t).toNat)
  case atStart => exact ⟨0, Nat.zero_le _, rfl, rfl⟩
  case round =>
    obtain ⟨k, hk, rfl, rfl⟩ := hrel
    by_cases hlt : k < n
    · obtain ⟨b, off, rfl, hc⟩ := HS.out k (by rw [HN.out]; exact hlt)
      have hltI : (k : Int) < (n : Int) := by omega
      have h1 := sm_bd k (fun j hj => HL.out.2 j (by rw [HN.out]; omega))
      have h2 := HL.out.2 k (by rw [HN.out]; exact hlt)
      have hs : sm l (k + 1) = sm l k + l.getD k 0 := rfl
      obtain ⟨x, hx⟩ : ∃ x, x = l.getD k 0 := ⟨_, rfl⟩
      obtain ⟨y, hy⟩ : ∃ y, y = sm l k := ⟨_, rfl⟩
      rw [← hx] at hc h2 hs
      rw [← hy] at h1 hs ⊢
      have HSS := hide hs
      clear hx hy hs
      go_wp2
      go_round
      case rel => exact ⟨k + 1, by omega, by go_num, by rw [HSS.out]⟩
      case measure => simp [intOf]; omega
    · obtain rfl : k = n := by omega
      have hltI : ¬ (k : Int) < (k : Int) := by omega
      obtain ⟨y, hy⟩ : ∃ y, y = sm l k := ⟨_, rfl⟩
      rw [← hy] at HR ⊢
      clear hy
      go_wp2
      go_ret
      exact ⟨by rw [HR.out]; rfl, rfl⟩
end Go.Proofs.Yticgejaaoamhmao.L15H

namespace Go.Proofs.Yticgejaaoamhmao.L15H
open Go.RowKit L1 Own Str
set_option linter.unusedVariables false

set_option maxRecDepth 100000 in
set_option maxHeartbeats 8000000 in
theorem sGoodHeavy_any (a : Option Addr) (n c : Nat) (b : Option Addr) (m d : Nat) (G T : Int) (h : Hv) (w : World) (hf : HF w a b n m h) (hg : h.g = G) (ht : h.t = T) (hn2 : n ≤ 1048576) (hm2 : m ≤ 1048576) (htx : ∀ i, i < h.nm.length → (h.nm.getD i e0).size ≤ 1048576) (bb : Bool) (hbb : bb = true ↔ GoodHv h n m) :
    Calls Try.prog 34 #[.agg #[.slice a n c, .slice b m d, .int .i64 G, .int .i64 T]] w fun e w' => e = .returned (.bool bb) ∧ Below w.heap.size w w' := by
  have BX := (Below.refl w.heap.size w).alloc (Nat.le_refl _) (hvO (.slice a n c) (.slice b m d) G T)
  have g0 := L8.blk_new w (hvO (.slice a n c) (.slice b m d) G T)
  obtain ⟨W0, hW0⟩ : ∃ W0, W0 = w.alloc (hvO (.slice a n c) (.slice b m d) G T) := ⟨_, rfl⟩
  rw [← hW0] at BX g0
  obtain ⟨k0, k1, k2, k3⟩ := blk4 g0
  have HW := hide hW0
  have B0 := hide BX
  have G0 := hide g0
  have F0 := hide (hf.below BX)
  have HBB := hide hbb
  have HTX := hide htx
  have HG := hide hg
  have HT := hide ht
  clear hf hbb htx hg ht BX g0 hW0
  obtain ⟨b1, hb1⟩ := dec_exH (1 ≤ (n : Int) ∧ (n : Int) ≤ 6)
  have C1 := hide (fun wx => l1In_any (n : Int) 1 6 wx b1 hb1)
  by_cases c1 : 1 ≤ (n : Int) ∧ (n : Int) ≤ 6
  rotate_left
  · obtain rfl : b1 = false := bool_noG hb1 c1
    obtain rfl : bb = false := bool_noG HBB.out (fun g => c1 ⟨by have := g.n1; omega, by have := g.n6; omega⟩)
    go_enter Try.func34, Try.ntmps34
    go_upto_region 1 with fail
    rw [← HW.out]
    go_wp2_with fail
    refine (C1.out _).mono ?_
    rintro e w1 ⟨rfl, rfl⟩
    go_wp2
    go_ret
    exact ⟨rfl, B0.out⟩
  obtain rfl : b1 = true := hb1.2 c1
  clear hb1
  by_cases c2 : m = n
  rotate_left
  · have hd : ((m : Int) != (n : Int)) = true := by simp; omega
    obtain rfl : bb = false := bool_noG HBB.out (fun g => c2 g.m)
    go_enter Try.func34, Try.ntmps34
    go_upto_region 1 with fail
    rw [← HW.out]
    go_wp2_with fail
    refine (C1.out _).mono ?_
    rintro e w1 ⟨rfl, rfl⟩
    go_wp2
    go_ret
    exact ⟨rfl, B0.out⟩
  subst c2
  obtain ⟨b3, hb3⟩ := dec_exH (0 ≤ G ∧ G ≤ 100000)
  have C3 := hide (fun wx => l1In_any G 0 100000 wx b3 hb3)
  by_cases c3 : 0 ≤ G ∧ G ≤ 100000
  rotate_left
  · obtain rfl : b3 = false := bool_noG hb3 c3
    clear hb3
    obtain rfl : bb = false := bool_noG HBB.out (fun g => c3 (by have h1 := g.g0; have h2 := g.g1; rw [HG.out] at h1 h2; exact ⟨h1, h2⟩))
    go_enter Try.func34, Try.ntmps34
    go_upto_region 1 with fail
    rw [← HW.out]
    go_wp2_with fail
    refine (C1.out _).mono ?_
    rintro e w1 ⟨rfl, rfl⟩
    go_wp2_with fail
    refine (C3.out _).mono ?_
    rintro e w2 ⟨rfl, rfl⟩
    go_wp2
    go_ret
    exact ⟨rfl, B0.out⟩
  obtain rfl : b3 = true := hb3.2 c3
  clear hb3
  obtain ⟨b4, hb4⟩ := dec_exH (0 ≤ T ∧ T ≤ 1000000)
  have C4 := hide (fun wx => l1In_any T 0 1000000 wx b4 hb4)
  by_cases c4 : 0 ≤ T ∧ T ≤ 1000000
  rotate_left
  · obtain rfl : b4 = false := bool_noG hb4 c4
    clear hb4
    obtain rfl : bb = false := bool_noG HBB.out (fun g => c4 (by have h1 := g.t0; have h2 := g.t1; rw [HT.out] at h1 h2; exact ⟨h1, h2⟩))
    go_enter Try.func34, Try.ntmps34
    go_upto_region 1 with fail
    rw [← HW.out]
    go_wp2_with fail
    refine (C1.out _).mono ?_
    rintro e w1 ⟨rfl, rfl⟩
    go_wp2_with fail
    refine (C3.out _).mono ?_
    rintro e w2 ⟨rfl, rfl⟩
    go_wp2_with fail
    refine (C4.out _).mono ?_
    rintro e w3 ⟨rfl, rfl⟩
    go_wp2
    go_ret
    exact ⟨rfl, B0.out⟩
  obtain rfl : b4 = true := hb4.2 c4
  clear hb4
  have hmb := mul_bd c3.1 c3.2 (n := m) (by omega)
  go_enter Try.func34, Try.ntmps34
  go_upto_region 1 with fail
  rw [← HW.out]
  go_wp2_with fail
  refine (C1.out _).mono ?_
  rintro e w1 ⟨rfl, rfl⟩
  go_wp2_with fail
  refine (C3.out _).mono ?_
  rintro e w2 ⟨rfl, rfl⟩
  go_wp2_with fail
  refine (C4.out _).mono ?_
  rintro e w3 ⟨rfl, rfl⟩
  go_wp2
  go_loop [34] (fun t => ∃ k : Nat, k ≤ m ∧ t = .int .i64 k ∧ Hid (∀ j, j < k → PlOk h j)) (fun t => m - (intOf t).toNat)
  case atStart => exact ⟨0, Nat.zero_le _, rfl, fun j hj => absurd hj (Nat.not_lt_zero _)⟩
  case round =>
    obtain ⟨k, hk, rfl, HJ⟩ := hrel
    by_cases hlt : k < m
    · have hltI : (k : Int) < (m : Int) := by omega
      have hk0 : (0 : Int) ≤ (k : Int) := by omega
      obtain ⟨ba, oa, rfl, hc⟩ := F0.out.sN k (by rw [F0.out.ln]; exact hlt)
      obtain ⟨bc, oc, rfl, hd⟩ := F0.out.sC k (by rw [F0.out.lc]; exact hlt)
      have hsz : (na h k).size ≤ 1048576 := HTX.out k (by rw [F0.out.ln]; exact hlt)
      obtain ⟨x, hx⟩ : ∃ x, x = na h k := ⟨_, rfl⟩
      obtain ⟨y, hy⟩ : ∃ y, y = ca h k := ⟨_, rfl⟩
      rw [show h.nm.getD k e0 = x from hx.symm] at hc
      rw [show h.ct.getD k 0 = y from hy.symm] at hd
      rw [← hx] at hsz
      have HX := hide hx
      have HY := hide hy
      clear hx hy
      have bad : ¬ PlOk h k → Hid (bb = false) := fun q => hide (bool_noG HBB.out (fun g => q (g.p k hlt)))
      by_cases hxe : x = e0
      · have hnw : ¬ L3.Word false (na h k) := fun q => word_ne q (by rw [← HX.out]; exact hxe)
        subst hxe
        by_cases hy0 : y = 0
        · have P : Hid (PlOk h k) := hide (.inl ⟨HX.out.symm, by rw [← HY.out]; exact hy0⟩)
          subst hy0
          clear bad hnw
          go_wp2
          go_round
          case rel => exact ⟨k + 1, by omega, by go_num, fun j hj => by
            by_cases e : j = k
            · subst e; exact P.out
            · exact HJ.out j (by omega)⟩
          case measure => simp [intOf]; omega
        · have hy2 : (y != 0) = true := by simp [hy0]
          have EB := bad (fun q => by
            rcases q with ⟨_, h0⟩ | ⟨⟨h1, _⟩, _⟩
            · exact hy0 (by rw [HY.out]; exact h0)
            · exact hnw h1)
          clear bad hnw
          go_wp2
          go_ret
          exact ⟨by rw [EB.out]; rfl, B0.out⟩
      · have hxl := ne_list hxe
        obtain ⟨bw, hbw⟩ := dec_exH (L3.Word false x)
        have CW := hide (fun wx => L3.l3Name_any x false wx (by omega) bw hbw)
        by_cases hw : L3.Word false x
        rotate_left
        · obtain rfl : bw = false := bool_noG hbw hw
          have EB := bad (fun q => by
            rcases q with ⟨h0, _⟩ | ⟨⟨h1, _⟩, _⟩
            · exact hxe (by rw [HX.out]; exact h0)
            · exact hw (by rw [HX.out]; exact h1))
          clear bad hbw
          go_wp2_with fail
          refine (CW.out _).mono ?_
          rintro e w5 ⟨rfl, rfl⟩
          go_wp2
          go_ret
          exact ⟨by rw [EB.out]; rfl, B0.out⟩
        obtain rfl : bw = true := hbw.2 hw
        clear hbw
        obtain ⟨by1, hby⟩ := dec_exH (1 ≤ y ∧ y ≤ 100000)
        have CY := hide (fun wx => l1In_any y 1 100000 wx by1 hby)
        by_cases hyy : 1 ≤ y ∧ y ≤ 100000
        rotate_left
        · obtain rfl : by1 = false := bool_noG hby hyy
          have EB := bad (fun q => by
            rcases q with ⟨h0, _⟩ | ⟨⟨_, h1⟩, _⟩
            · exact hxe (by rw [HX.out]; exact h0)
            · exact hyy (by rw [HY.out]; exact h1))
          clear bad hby
          go_wp2_with fail
          refine (CW.out _).mono ?_
          rintro e w5 ⟨rfl, rfl⟩
          go_wp2_with fail
          refine (CY.out _).mono ?_
          rintro e w6 ⟨rfl, rfl⟩
          go_wp2
          go_ret
          exact ⟨by rw [EB.out]; rfl, B0.out⟩
        obtain rfl : by1 = true := hby.2 hyy
        clear hby
        have HWY : Hid (L3.Word false (na h k) ∧ 1 ≤ ca h k ∧ ca h k ≤ 100000) := hide (by rw [← HX.out, ← HY.out]; exact ⟨hw, hyy⟩)
        cases k with
        | zero =>
          have P : Hid (PlOk h 0) := hide (.inr ⟨HWY.out, fun q => absurd q (Nat.lt_irrefl _)⟩)
          have h00 : ¬ ((0 : Nat) : Int) > 0 := by omega
          rw [Nat.add_zero] at hc hd
          clear bad
          go_wp2_with fail
          refine (CW.out _).mono ?_
          rintro e w5 ⟨rfl, rfl⟩
          go_wp2_with fail
          refine (CY.out _).mono ?_
          rintro e w6 ⟨rfl, rfl⟩
          go_wp2
          go_round
          case rel => exact ⟨0 + 1, by omega, by go_num, fun j hj => by
            obtain rfl : j = 0 := by omega
            exact P.out⟩
          case measure => simp [intOf]; omega
        | succ q =>
          obtain ⟨b2, o2, e2, hp⟩ := F0.out.sN q (by rw [F0.out.ln]; omega)
          obtain ⟨rfl, rfl⟩ : ba = b2 ∧ oa = o2 := by cases e2; exact ⟨rfl, rfl⟩
          obtain ⟨p, hpp⟩ : ∃ p, p = na h q := ⟨_, rfl⟩
          rw [show h.nm.getD q e0 = p from hpp.symm] at hp
          have HP := hide hpp
          have hqI : (q : Int) < (m : Int) := by omega
          have hq0 : (0 : Int) ≤ (q : Int) := by omega
          have hqp : ((q : Int) + 1) > 0 := by omega
          have hqm : (q : Int) + 1 - 1 = (q : Int) := by omega
          clear hpp e2
          by_cases hpe : p = e0
          · have EB := bad (fun qq => by
              rcases qq with ⟨h0, _⟩ | ⟨_, h1⟩
              · exact hxe (by rw [HX.out]; exact h0)
              · exact (h1 (by omega)).1 (by rw [Nat.add_sub_cancel, ← HP.out]; exact hpe))
            subst hpe
            clear bad
            go_wp2_with fail
            refine (CW.out _).mono ?_
            rintro e w5 ⟨rfl, rfl⟩
            go_wp2_with fail
            refine (CY.out _).mono ?_
            rintro e w6 ⟨rfl, rfl⟩
            go_wp2
            go_ret
            exact ⟨by rw [EB.out]; rfl, B0.out⟩
          · have hpl := ne_list hpe
            by_cases hah : L3.Ahead p x
            · have P : Hid (PlOk h (q + 1)) := hide (.inr ⟨HWY.out, fun _ => by rw [Nat.add_sub_cancel, ← HP.out, ← HX.out]; exact ⟨hpe, hah⟩⟩)
              have hlt3 : Op.bytesLess p.toList x.toList = true := hah
              clear bad
              go_wp2_with fail
              refine (CW.out _).mono ?_
              rintro e w5 ⟨rfl, rfl⟩
              go_wp2_with fail
              refine (CY.out _).mono ?_
              rintro e w6 ⟨rfl, rfl⟩
              go_wp2
              go_round
              case rel => exact ⟨q + 1 + 1, by omega, by go_num, fun j hj => by
                by_cases e : j = q + 1
                · subst e; exact P.out
                · exact HJ.out j (by omega)⟩
              case measure => simp [intOf]; omega
            · have EB := bad (fun qq => by
                rcases qq with ⟨h0, _⟩ | ⟨_, h1⟩
                · exact hxe (by rw [HX.out]; exact h0)
                · exact hah (by have := (h1 (by omega)).2; rw [Nat.add_sub_cancel, ← HP.out, ← HX.out] at this; exact this))
              have hlt3 : Op.bytesLess p.toList x.toList = false := by
                cases e : Op.bytesLess p.toList x.toList with
                | false => rfl
                | true => exact absurd e hah
              clear bad
              go_wp2_with fail
              refine (CW.out _).mono ?_
              rintro e w5 ⟨rfl, rfl⟩
              go_wp2_with fail
              refine (CY.out _).mono ?_
              rintro e w6 ⟨rfl, rfl⟩
              go_wp2
              go_ret
              exact ⟨by rw [EB.out]; rfl, B0.out⟩
    · obtain rfl : k = m := by omega
      have hltI : ¬ (k : Int) < (k : Int) := by omega
      have hsl : SmL h.ct := ⟨by rw [F0.out.lc]; omega, fun j hj => (HJ.out j (by rw [F0.out.lc] at hj; exact hj)).ct⟩
      obtain ⟨y, hy⟩ : ∃ y, y = sm h.ct k := ⟨_, rfl⟩
      have hyb := sm_bd (l := h.ct) k (fun j hj => (HJ.out j hj).ct)
      rw [← hy] at hyb
      have CS := hide (fun q => calls_symmH (l12Sum_h b h.ct k d (W0.drewN q) F0.out.lc (F0.out.sC.below (below_drewH (Below.refl _ W0) q)) hsl y hy))
      obtain ⟨p, hp⟩ : ∃ p, p = G * ((k : Int) + 1) := ⟨_, rfl⟩
      have hpb := hmb
      rw [← hp] at hpb
      have hp2 : G * ((k : Int) + 1) = p := hp.symm
      have EBB : Hid (bb = (T == y + p)) := hide (by
        by_cases e : T = y + p
        · rw [show (T == y + p) = true by simp [e]]
          exact HBB.out.2 ⟨by omega, by omega, rfl, by rw [HG.out]; exact c3.1, by rw [HG.out]; exact c3.2, HJ.out, by rw [HT.out, HG.out, ← hp, ← hy]; exact e, by rw [HT.out]; exact c4.2⟩
        · rw [show (T == y + p) = false by simp [e]]
          exact bool_noG HBB.out (fun g => e (by have := g.t; rw [HT.out, HG.out, ← hp, ← hy] at this; exact this)))
      clear hy hp hmb
      go_upto_region 13 with fail
      go_quiet (first | (go_at_call 64; refine Calls.quiet_of_same (CS.out _)) | fail)
      go_wp2
      go_ret
      exact ⟨by rw [EBB.out]; rfl, below_drewH B0.out _⟩
end Go.Proofs.Yticgejaaoamhmao.L15H

namespace Go.Proofs.Yticgejaaoamhmao.L15H
open Go.RowKit L1 Own Str
set_option linter.unusedVariables false

/-- What AddHeavy answers. -/
structure IsAddR (h : Hv) (n m : Nat) (s : ByteArray) (ok : Bool) (L : Hv) : Prop where
  bad : ¬ (GoodHv h n m ∧ L3.Word false s) → ok = false ∧ L = e0H
  good : ∀ tk p, GoodHv h n m → L3.Word false s → IsTk h.nm n tk → IsAt h.nm tk s p → (ok = true ↔ GoodHv (addH h n tk p s) n n) ∧ L = if ok then addH h n tk p s else e0H
theorem getD_le {l : List ByteArray} (h : ∀ i, i < l.length → (l.getD i e0).size ≤ 1048576) (i : Nat) : (l.getD i e0).size ≤ 1048576 := by
  by_cases hi : i < l.length
  · exact h i hi
  · rw [show l.getD i e0 = e0 by simp [List.getD, List.getElem?_eq_none (show l.length ≤ i by omega)]]
    decide
theorem lfN_sz {h : Hv} (hx : ∀ i, i < h.nm.length → (h.nm.getD i e0).size ≤ 1048576) : ∀ k, ∀ x ∈ lfN h k, x.size ≤ 1048576
  | 0, x, hm => by simp [lfN] at hm
  | k + 1, x, hm => by
    unfold lfN at hm
    split at hm
    · rw [List.mem_append] at hm
      rcases hm with hm | hm
      · exact lfN_sz hx k x hm
      · simp at hm
        subst hm
        exact getD_le hx k
    · exact lfN_sz hx k x hm
theorem getD_mem {l : List ByteArray} (h : ∀ x ∈ l, x.size ≤ 1048576) (i : Nat) (hi : i < l.length) : (l.getD i e0).size ≤ 1048576 := by
  simp only [List.getD, List.getElem?_eq_getElem hi, Option.getD_some]
  exact h _ (List.getElem_mem hi)
theorem addH_sz {h : Hv} {n tk p : Nat} {s : ByteArray} (hs : s.size ≤ 1048576) (hx : ∀ i, i < h.nm.length → (h.nm.getD i e0).size ≤ 1048576) : ∀ i, i < (addH h n tk p s).nm.length → ((addH h n tk p s).nm.getD i e0).size ≤ 1048576 := by
  unfold addH
  split
  · exact hx
  · split
    · intro i hi
      simp only [putH, putL_len] at hi ⊢
      rw [putL_at _ _ _ _ _ hi]
      split
      · exact hx i hi
      · split
        · exact hs
        · exact getD_le hx (i - 1)
    · intro i hi
      refine getD_mem (fun x hm => ?_) i hi
      rw [show (lessH (upH h) n).nm = lfN (upH h) n ++ List.replicate (n - (lfC (upH h) n).length) e0 from rfl, List.mem_append] at hm
      rcases hm with hm | hm
      · exact lfN_sz (h := upH h) hx n x hm
      · rw [List.eq_of_mem_replicate hm]
        decide
theorem tk_uniq {l : List ByteArray} {n i k : Nat} (h1 : IsTk l n i) (h2 : IsTk l n k) : i = k := by
  rcases Nat.lt_trichotomy i k with h | h | h
  · exact absurd (h1.emp (Nat.lt_of_lt_of_le h h2.le)) (h2.ne i h)
  · exact h
  · exact absurd (h2.emp (Nat.lt_of_lt_of_le h h1.le)) (h1.ne k h)
theorem addR_ex (h : Hv) (n m : Nat) (s : ByteArray) : ∃ ok L, IsAddR h n m s ok L := by
  classical
  by_cases hg : GoodHv h n m ∧ L3.Word false s
  · obtain ⟨tk, hk⟩ := tk_ex h.nm n
    obtain ⟨p, hp⟩ := at_ex s tk (hg.1.rise hk)
    refine ⟨decide (GoodHv (addH h n tk p s) n n), if decide (GoodHv (addH h n tk p s) n n) = true then addH h n tk p s else e0H, fun q => absurd hg q, fun tk' p' _ _ hk' hp' => ?_⟩
    have e1 : tk' = tk := tk_uniq hk' hk
    subst e1
    have e2 : p' = p := at_uniq hp' hp
    subst e2
    exact ⟨by simp, rfl⟩
  · exact ⟨false, e0H, fun _ => ⟨rfl, rfl⟩, fun _ _ h1 h2 => absurd ⟨h1, h2⟩ hg⟩
end Go.Proofs.Yticgejaaoamhmao.L15H

namespace Go.Proofs.Yticgejaaoamhmao.L15H
open Go.RowKit L1 Own Str
set_option linter.unusedVariables false

/-- Some put into a list from a place on. -/
def putAt {α : Type} (l : List α) (o : Nat) : List α → List α
  | [] => l
  | v :: vs => putAt (l.set o v) (o + 1) vs
theorem putAt_len {α : Type} : ∀ (cs l : List α) (o : Nat), (putAt l o cs).length = l.length
  | [], l, o => rfl
  | v :: vs, l, o => by rw [putAt, putAt_len vs]; simp
theorem putAt_at {α : Type} (d : α) : ∀ (cs l : List α) (o j : Nat), o + cs.length ≤ l.length → (putAt l o cs).getD j d = if o ≤ j ∧ j < o + cs.length then cs.getD (j - o) d else l.getD j d
  | [], l, o, j, h => by
    rw [if_neg (by simp only [List.length_nil]; omega)]
    rfl
  | v :: vs, l, o, j, h => by
    simp only [List.length_cons] at h
    rw [putAt, putAt_at d vs (l.set o v) (o + 1) j (by simp; omega), getD_setX d l o j v (by omega)]
    by_cases e : j = o
    · subst e
      rw [if_neg (by omega), if_pos rfl, if_pos (by simp)]
      simp
    · rw [if_neg e]
      by_cases h1 : o + 1 ≤ j ∧ j < o + 1 + vs.length
      · rw [if_pos h1, if_pos (by simp; omega), show j - o = (j - (o + 1)) + 1 by omega]
        simp
      · rw [if_neg h1, if_neg (by simp; omega)]
structure BxH (w x : World) (zb base gN cN gC cC n : Nat) (G T : Int) (L1 : List ByteArray) (L2 : List Int) : Prop where
  X : x.heap[zb]? = some (hvO (.slice (some ⟨gN, 0, none⟩) n cN) (.slice (some ⟨gC, 0, none⟩) n cC) G T)
  N : x.ownsRow base 9 1 (.slice (some ⟨gN, 0, none⟩) n cN) n (mapS L1)
  C : x.ownsRow base 3 1 (.slice (some ⟨gC, 0, none⟩) n cC) n (ints L2)
  nN : gN ≠ zb
  nC : gC ≠ zb
  bz : base ≤ zb
  S : w.heap.size ≤ x.heap.size
  B : Below base w x
section
variable {w x y : World} {zb base gN cN gC cC n : Nat} {G T : Int} {L1 : List ByteArray} {L2 : List Int}
theorem BxH.bN (k : BxH w x zb base gN cN gC cC n G T L1 L2) : base ≤ gN := own_ge k.N gN rfl
theorem BxH.bC (k : BxH w x zb base gN cN gC cC n G T L1 L2) : base ≤ gC := own_ge k.C gC rfl
theorem BxH.two (k : BxH w x zb base gN cN gC cC n G T L1 L2) : gN ≠ gC := fun e => L8.own_two k.N k.C st_int gN rfl (by rw [e]; rfl)
theorem BxH.lenN (k : BxH w x zb base gN cN gC cC n G T L1 L2) : L1.length = n := by have := k.N.1; simpa [mapS] using this
theorem BxH.lenC (k : BxH w x zb base gN cN gC cC n G T L1 L2) : L2.length = n := by have := k.C.1; simpa using this
theorem BxH.atN (k : BxH w x zb base gN cN gC cC n G T L1 L2) (i : Nat) (hi : i < n) : x.cell? ⟨gN, i, none⟩ = some (.string (L1.getD i e0)) ∧ x.frozen? ⟨gN, i, none⟩ = false := by
  obtain ⟨g, e, _, _, _, h⟩ := own_cellH k.N (by omega)
  injection e with e1
  injection e1 with e2
  subst e2
  have hl := k.lenN
  refine ⟨?_, (h i hi).1⟩
  rw [(h i hi).2]
  simp [mapS, List.getD, List.getElem?_eq_getElem (show i < L1.length by omega)]
theorem BxH.atC (k : BxH w x zb base gN cN gC cC n G T L1 L2) (i : Nat) (hi : i < n) : x.cell? ⟨gC, i, none⟩ = some (.int .i64 (L2.getD i 0)) ∧ x.frozen? ⟨gC, i, none⟩ = false := by
  obtain ⟨g, e, _, _, _, h⟩ := own_cellH k.C (by omega)
  injection e with e1
  injection e1 with e2
  subst e2
  have hl := k.lenC
  refine ⟨?_, (h i hi).1⟩
  rw [(h i hi).2]
  simp [List.getD, List.getElem?_eq_getElem (show i < L2.length by omega)]
theorem BxH.capN (k : BxH w x zb base gN cN gC cC n G T L1 L2) : n ≤ cN := by
  obtain ⟨_, _, e, h⟩ := own_capH k.N
  injection e with _ _ e3
  omega
theorem BxH.capC (k : BxH w x zb base gN cN gC cC n G T L1 L2) : n ≤ cC := by
  obtain ⟨_, _, e, h⟩ := own_capH k.C
  injection e with _ _ e3
  omega
theorem BxH.setN (k : BxH w x zb base gN cN gC cC n G T L1 L2) (i : Nat) (s : ByteArray) : BxH w (x.setCell ⟨gN, i, none⟩ (.string s)) zb base gN cN gC cC n G T (L1.set i s) L2 := by
  have h2 := k.two
  refine ⟨?_, ?_, own_neH k.C _ _ (fun g hg => by cases hg; exact h2.symm), k.nN, k.nC, k.bz, ?_, k.B.setCell k.bN _⟩
  · rw [Below.heap_setCell _ _ _ _ (show zb ≠ gN from k.nN.symm)]; exact k.X
  · have := (k.N.stored i (.string s)).1
    rw [show (mapS L1).set i (.string s) = mapS (L1.set i s) by simp [mapS, List.map_set]] at this
    exact this
  · rw [World.size_setCell]; exact k.S
theorem BxH.setC (k : BxH w x zb base gN cN gC cC n G T L1 L2) (i : Nat) (z : Int) : BxH w (x.setCell ⟨gC, i, none⟩ (.int .i64 z)) zb base gN cN gC cC n G T L1 (L2.set i z) := by
  have h2 := k.two
  refine ⟨?_, own_neH k.N _ _ (fun g hg => by cases hg; exact h2), ?_, k.nN, k.nC, k.bz, ?_, k.B.setCell k.bC _⟩
  · rw [Below.heap_setCell _ _ _ _ (show zb ≠ gC from k.nC.symm)]; exact k.X
  · have := (k.C.stored i (.int .i64 z)).1
    rw [show (ints L2).set i (.int .i64 z) = ints (L2.set i z) by simp [List.map_set]] at this
    exact this
  · rw [World.size_setCell]; exact k.S
theorem BxH.setG (k : BxH w x zb base gN cN gC cC n G T L1 L2) (z : Int) : BxH w (x.setCell ⟨zb, 2, none⟩ (.int .i64 z)) zb base gN cN gC cC n z T L1 L2 := by
  refine ⟨heap_boxO k.X 2 _, own_neH k.N _ _ (fun g hg => by cases hg; exact k.nN), own_neH k.C _ _ (fun g hg => by cases hg; exact k.nC), k.nN, k.nC, k.bz, ?_, k.B.setCell k.bz _⟩
  rw [World.size_setCell]; exact k.S
theorem BxH.drew (k : BxH w x zb base gN cN gC cC n G T L1 L2) : BxH w x.drew zb base gN cN gC cC n G T L1 L2 := ⟨k.X, k.N, k.C, k.nN, k.nC, k.bz, k.S, k.B.drew⟩
end
theorem BxH.setsN {w : World} {zb base gN cN gC cC n : Nat} {G T : Int} {L2 : List Int} : ∀ (cs : List ByteArray) (o : Nat) {x : World} {L1 : List ByteArray}, BxH w x zb base gN cN gC cC n G T L1 L2 → BxH w (x.setCells gN o (mapS cs)) zb base gN cN gC cC n G T (putAt L1 o cs) L2
  | [], o, x, L1, k => k
  | v :: vs, o, x, L1, k => BxH.setsN vs (o + 1) (k.setN o v)
theorem BxH.setsC {w : World} {zb base gN cN gC cC n : Nat} {G T : Int} {L1 : List ByteArray} : ∀ (cs : List Int) (o : Nat) {x : World} {L2 : List Int}, BxH w x zb base gN cN gC cC n G T L1 L2 → BxH w (x.setCells gC o (ints cs)) zb base gN cN gC cC n G T L1 (putAt L2 o cs)
  | [], o, x, L2, k => k
  | v :: vs, o, x, L2, k => BxH.setsC vs (o + 1) (k.setC o v)
theorem oper_copy_run {w : World} {o : Oper} {a : Act} {K : Act → World → Prop} {Q : Exit → Act → World → Prop} (d s : Operand) (t : TypeId)
    (ho : o.op = .call { callee := .builtin .copy, args := #[d, s], argTypes := #[t, t] }) (v u : Value) (hd : a.eval d = v) (hs : a.eval s = u) {v' : Value} {w' : World}
    (hr : (Builtin.copy_ #[t, t] o.type #[v, u]).run Try.prog w = .ok v' w') (h : K (a.put o.dst v') w') : Oper.wp Try.prog o a w K Q := by
  unfold Oper.wp execOp
  simp only [ho, resolve, invoke, builtin, Sem.run_bind, Sem.run_pure, Result.andThen_ok, List.map_toArray, List.map_cons, List.map_nil, hd, hs, hr]
  exact h
theorem apT_one {t e : TypeId} {z : Value} {bytes : Nat} (k : ApT t e z bytes) : (Try.prog.info? e).map (·.size) = some 1 := by
  obtain ⟨i, hi, _, h1, _⟩ := k.hi
  rw [hi]
  simp [h1]
/-- The part from p to tk copied, in one row of the call's own, one place on. -/
theorem BxH.copyN {w x : World} {zb base gN cN gC cC n : Nat} {G T : Int} {L1 : List ByteArray} {L2 : List Int} (k : BxH w x zb base gN cN gC cC n G T L1 L2) (p tk c1 c2 : Nat) (hp : p ≤ tk) (ht : tk < n) (ty : TypeId) :
    (Builtin.copy_ #[22, 22] ty #[.slice (some ⟨gN, p + 1, none⟩) (tk - p) c1, .slice (some ⟨gN, p, none⟩) (tk - p) c2]).run Try.prog x = .ok (goInt ((tk - p : Nat) : Int)) (x.setCells gN (p + 1) (mapS ((L1.drop p).take (tk - p)))) := by
  have hl := k.lenN
  have hl2 : (mapS ((L1.drop p).take (tk - p))).length = tk - p := by simp [mapS]; omega
  have := run_copy_cells (P := Try.prog) x 22 22 ty 9 gN (p + 1) (tk - p) c1 ⟨gN, p, none⟩ (tk - p) c2 (mapS ((L1.drop p).take (tk - p))) apT_str.ht (apT_one apT_str) (by rw [hl2]; simp) (fun j v hj => by
      rw [add_atA]
      have hj2 : j < tk - p := by
        by_cases q : j < tk - p
        · exact q
        · rw [List.getElem?_eq_none (by rw [hl2]; omega)] at hj; cases hj
      rw [(k.atN (p + j) (by omega)).1, ← hj]
      simp [mapS, List.getD, List.getElem?_drop, hj2, List.getElem?_eq_getElem (show p + j < L1.length by omega)]) (fun j hj => by rw [hl2] at hj; rw [(k.atN (p + 1 + j) (by omega)).1]; rfl) (fun j hj => by rw [hl2] at hj; exact (k.atN (p + 1 + j) (by omega)).2) (onesS_H _)
  rw [hl2] at this
  exact this
theorem BxH.copyC {w x : World} {zb base gN cN gC cC n : Nat} {G T : Int} {L1 : List ByteArray} {L2 : List Int} (k : BxH w x zb base gN cN gC cC n G T L1 L2) (p tk c1 c2 : Nat) (hp : p ≤ tk) (ht : tk < n) (ty : TypeId) :
    (Builtin.copy_ #[23, 23] ty #[.slice (some ⟨gC, p + 1, none⟩) (tk - p) c1, .slice (some ⟨gC, p, none⟩) (tk - p) c2]).run Try.prog x = .ok (goInt ((tk - p : Nat) : Int)) (x.setCells gC (p + 1) (ints ((L2.drop p).take (tk - p)))) := by
  have hl := k.lenC
  have hl2 : (ints ((L2.drop p).take (tk - p))).length = tk - p := by simp; omega
  have := run_copy_cells (P := Try.prog) x 23 23 ty 3 gC (p + 1) (tk - p) c1 ⟨gC, p, none⟩ (tk - p) c2 (ints ((L2.drop p).take (tk - p))) apT_int.ht (apT_one apT_int) (by rw [hl2]; simp) (fun j v hj => by
      rw [add_atA]
      have hj2 : j < tk - p := by
        by_cases q : j < tk - p
        · exact q
        · rw [List.getElem?_eq_none (by rw [hl2]; omega)] at hj; cases hj
      rw [(k.atC (p + j) (by omega)).1, ← hj]
      simp [List.getD, List.getElem?_drop, hj2, List.getElem?_eq_getElem (show p + j < L2.length by omega)]) (fun j hj => by rw [hl2] at hj; rw [(k.atC (p + 1 + j) (by omega)).1]; rfl) (fun j hj => by rw [hl2] at hj; exact (k.atC (p + 1 + j) (by omega)).2) (onesI_H _)
  rw [hl2] at this
  exact this
/-- The part from p to tk moved on by one. -/
theorem putAt_moved {α : Type} (d : α) (l : List α) (p tk : Nat) (hp : p ≤ tk) (ht : tk < l.length) (he : ∀ j, tk ≤ j → j < l.length → l.getD j d = d) : Sh d l (putAt l (p + 1) ((l.drop p).take (tk - p))) p := by
  have hl : ((l.drop p).take (tk - p)).length = tk - p := by simp; omega
  have hat := fun j => putAt_at d ((l.drop p).take (tk - p)) l (p + 1) j (by rw [hl]; omega)
  rw [hl] at hat
  refine moved_sh (tk := tk) (putAt_len _ _ _) hp ht (fun j hj => ?_) (fun j h1 h2 => ?_) (fun j h1 h2 => ?_) he
  · rw [hat, if_neg (by omega)]
  · rw [hat, if_pos (by omega)]
    simp only [List.getD, List.getElem?_take, List.getElem?_drop]
    rw [if_pos (by omega), show p + (j - (p + 1)) = j - 1 by omega]
  · rw [hat, if_neg (by omega)]
end Go.Proofs.Yticgejaaoamhmao.L15H

namespace Go.Proofs.Yticgejaaoamhmao.L15H
open Go.RowKit L1 Own Str
set_option linter.unusedVariables false

theorem BxH.copyN2 {w x : World} {zb base gN cN gC cC n : Nat} {G T : Int} {L1 : List ByteArray} {L2 : List Int} (k : BxH w x zb base gN cN gC cC n G T L1 L2) (p tk P1 T1 : Nat) (hP : P1 = p + 1) (hT : T1 = tk + 1) (hp : p ≤ tk) (ht : tk < n) (ty : TypeId) :
    (Builtin.copy_ #[22, 22] ty #[.slice (if cN = P1 then some ⟨gN, 0, none⟩ else some ⟨gN, P1, none⟩) (T1 - P1) (cN - P1), .slice (if cN = p then some ⟨gN, 0, none⟩ else some ⟨gN, p, none⟩) (tk - p) (cN - p)]).run Try.prog x = .ok (goInt ((tk - p : Nat) : Int)) (x.setCells gN (p + 1) (mapS ((L1.drop p).take (tk - p)))) := by
  have hc := k.capN
  subst hP
  subst hT
  rw [if_neg (show ¬ cN = p by omega), show tk + 1 - (p + 1) = tk - p by omega]
  by_cases e : p = tk
  · subst e
    simp only [Nat.sub_self, List.take_zero]
    exact run_copy_none (P := Try.prog) x 22 22 ty 9 _ _ 0 _ 0 _ apT_str.ht (apT_one apT_str) rfl
  · rw [if_neg (by omega)]
    exact k.copyN p tk _ _ hp ht ty
theorem BxH.copyC2 {w x : World} {zb base gN cN gC cC n : Nat} {G T : Int} {L1 : List ByteArray} {L2 : List Int} (k : BxH w x zb base gN cN gC cC n G T L1 L2) (p tk P1 T1 : Nat) (hP : P1 = p + 1) (hT : T1 = tk + 1) (hp : p ≤ tk) (ht : tk < n) (ty : TypeId) :
    (Builtin.copy_ #[23, 23] ty #[.slice (if cC = P1 then some ⟨gC, 0, none⟩ else some ⟨gC, P1, none⟩) (T1 - P1) (cC - P1), .slice (if cC = p then some ⟨gC, 0, none⟩ else some ⟨gC, p, none⟩) (tk - p) (cC - p)]).run Try.prog x = .ok (goInt ((tk - p : Nat) : Int)) (x.setCells gC (p + 1) (ints ((L2.drop p).take (tk - p)))) := by
  have hc := k.capC
  subst hP
  subst hT
  rw [if_neg (show ¬ cC = p by omega), show tk + 1 - (p + 1) = tk - p by omega]
  by_cases e : p = tk
  · subst e
    simp only [Nat.sub_self, List.take_zero]
    exact run_copy_none (P := Try.prog) x 23 23 ty 3 _ _ 0 _ 0 _ apT_int.ht (apT_one apT_int) rfl
  · rw [if_neg (by omega)]
    exact k.copyC p tk _ _ hp ht ty
set_option maxRecDepth 100000 in
set_option maxHeartbeats 4000000 in
theorem takePlace_any (zb base gN cN gC cC n : Nat) (G T : Int) (L1 : List ByteArray) (L2 : List Int) (w x : World) (p tk : Nat) (s : ByteArray) (k : BxH w x zb base gN cN gC cC n G T L1 L2) (hn6 : n ≤ 100000) (hp : p ≤ tk) (ht : tk < n) (h1 : ∀ j, tk ≤ j → j < n → L1.getD j e0 = e0) (h2 : ∀ j, tk ≤ j → j < n → L2.getD j 0 = 0) :
    Calls Try.prog 45 #[.pointer (some ⟨zb, 0, none⟩), .int .i64 (p : Int), .int .i64 (tk : Int), .string s] x fun e x' => e = .returned (.tuple #[]) ∧ BxH w x' zb base gN cN gC cC n G T (putL L1 p s) (putL L2 p 1) := by
  have K0 := hide k
  have hcN := k.capN
  have hcC := k.capC
  obtain ⟨P1, hP⟩ : ∃ P1, P1 = p + 1 := ⟨_, rfl⟩
  obtain ⟨T1, hT⟩ : ∃ T1, T1 = tk + 1 := ⟨_, rfl⟩
  have hp1 : (p : Int) + 1 = (P1 : Int) := by omega
  have ht1 : (tk : Int) + 1 = (T1 : Int) := by omega
  have a1 : (0 : Int) ≤ (P1 : Int) := by omega
  have a2 : (P1 : Int) ≤ (T1 : Int) := by omega
  have a3 : (T1 : Int) ≤ (cN : Int) := by omega
  have a4 : (T1 : Int) ≤ (cC : Int) := by omega
  have a5 : (0 : Int) ≤ (p : Int) := by omega
  have a6 : (p : Int) ≤ (tk : Int) := by omega
  have a7 : (tk : Int) ≤ (cN : Int) := by omega
  have a8 : (tk : Int) ≤ (cC : Int) := by omega
  have wp1 := wrapH (P1 : Int) (by omega) (by omega)
  have wt1 := wrapH (T1 : Int) (by omega) (by omega)
  have wp2 := wrapH ((p : Int) + 1) (by omega) (by omega)
  have wt2 := wrapH ((tk : Int) + 1) (by omega) (by omega)
  have HPT := hide (And.intro hP hT)
  have H12 := hide (And.intro h1 h2)
  clear k h1 h2 hP hT
  go_enter Try.func45, Try.ntmps45
  go_upto_region 0 with fail
  refine wp_region_held_drew (S := fun wx => wx.cell? ⟨zb, 0, none⟩ = some (.slice (some ⟨gN, 0, none⟩) n cN)) (by kernel_rfl) (blk4 K0.out.X).1 (fun hHeld => ?_)
  refine wpAnyH_take (i := 0) (v := ?v1) rfl (by kernel_rfl) (by kernel_rfl) (by kernel_rfl) (fun _ _ _ h => h) (Or.inl ⟨by rfl, ?y1⟩) (by assumption) ?r1
  case y1 => (intro w hSw; (try dsimp only at hSw); go_simp; try (with_reducible rfl))
  simp only [List.getElem_toArray, List.getElem_cons_zero, Act.put, List.setIfInBounds_toArray, List.set_cons_zero, List.set_cons_succ]
  refine wpAnyH_take (i := 1) (v := ?v2) rfl (by kernel_rfl) (by kernel_rfl) (by kernel_rfl) (fun _ _ _ h => h) (Or.inl ⟨by rfl, ?y2⟩) (by assumption) ?r2
  case y2 => (intro w hSw; (try dsimp only at hSw); go_simp; try (with_reducible rfl))
  simp only [List.getElem_toArray, List.getElem_cons_succ, List.getElem_cons_zero, Act.put, List.setIfInBounds_toArray, List.set_cons_zero, List.set_cons_succ]
  refine wpAnyH_take (i := 2) (v := ?v3) rfl (by kernel_rfl) (by kernel_rfl) (by kernel_rfl) (fun _ _ _ h => h) (Or.inl ⟨by rfl, ?y3⟩) (by assumption) ?r3
  case y3 => (intro w hSw; (try dsimp only at hSw); go_simp; try (with_reducible rfl))
  simp only [List.getElem_toArray, List.getElem_cons_succ, List.getElem_cons_zero, Act.put, List.setIfInBounds_toArray, List.set_cons_zero, List.set_cons_succ]
  refine wpAnyH_take (i := 3) (v := ?v4) rfl (by kernel_rfl) (by kernel_rfl) (by kernel_rfl) (fun _ _ _ h => h) (Or.inl ⟨by rfl, ?y4⟩) (by assumption) ?r4
  case y4 => (intro w hSw; (try dsimp only at hSw); go_simp; try (with_reducible rfl))
  simp only [List.getElem_toArray, List.getElem_cons_succ, List.getElem_cons_zero, Act.put, List.setIfInBounds_toArray, List.set_cons_zero, List.set_cons_succ]
  refine wpAnyH_take (i := 4) (v := ?v5) rfl (by kernel_rfl) (by kernel_rfl) (by kernel_rfl) (fun _ _ _ h => h) (Or.inl ⟨by rfl, ?y5⟩) (by assumption) ?r5
  case y5 => (intro w hSw; (try dsimp only at hSw); go_simp; try (with_reducible rfl))
  simp only [List.getElem_toArray, List.getElem_cons_succ, List.getElem_cons_zero, Act.put, List.setIfInBounds_toArray, List.set_cons_zero, List.set_cons_succ]
  refine wpAnyH_take (i := 5) (v := ?v6) rfl (by kernel_rfl) (by kernel_rfl) (by kernel_rfl) (fun _ _ _ h => h) (Or.inl ⟨by rfl, ?y6⟩) (by assumption) ?r6
  case y6 => (intro w hSw; (try dsimp only at hSw); go_simp; try (with_reducible rfl))
  simp only [List.getElem_toArray, List.getElem_cons_succ, List.getElem_cons_zero, Act.put, List.setIfInBounds_toArray, List.set_cons_zero, List.set_cons_succ]
  refine wpAnyH_take (i := 6) (v := ?v7) rfl (by kernel_rfl) (by kernel_rfl) (by kernel_rfl) (fun _ _ _ h => h) (Or.inl ⟨by rfl, ?y7⟩) (by assumption) ?r7
  case y7 => (intro w hSw; (try dsimp only at hSw); go_simp; try (with_reducible rfl))
  simp only [List.getElem_toArray, List.getElem_cons_succ, List.getElem_cons_zero, Act.put, List.setIfInBounds_toArray, List.set_cons_zero, List.set_cons_succ]
  refine wpAnyH_take (i := 7) (v := ?v8) rfl (by kernel_rfl) (by kernel_rfl) (by kernel_rfl) (fun _ _ _ h => h) (Or.inl ⟨by rfl, ?y8⟩) (by assumption) ?r8
  case y8 => (intro w hSw; (try dsimp only at hSw); go_simp; try (with_reducible rfl))
  simp only [List.getElem_toArray, List.getElem_cons_succ, List.getElem_cons_zero, Act.put, List.setIfInBounds_toArray, List.set_cons_zero, List.set_cons_succ]
  refine wpAnyH_take (i := 8) (v := ?v9) rfl (by kernel_rfl) (by kernel_rfl) (by kernel_rfl) (fun _ _ _ h => h) (Or.inl ⟨by rfl, ?y9⟩) (by assumption) ?r9
  case y9 => (intro w hSw; (try dsimp only at hSw); go_simp; try (with_reducible rfl))
  simp only [List.getElem_toArray, List.getElem_cons_succ, List.getElem_cons_zero, Act.put, List.setIfInBounds_toArray, List.set_cons_zero, List.set_cons_succ]
  refine wpAnyH_take (i := 9) (v := ?v10) rfl (by kernel_rfl) (by kernel_rfl) (by kernel_rfl) (fun _ _ _ h => h) (Or.inl ⟨by rfl, ?y10⟩) (by assumption) ?r10
  case y10 => (intro w hSw; (try dsimp only at hSw); go_simp; try (with_reducible rfl))
  simp only [List.getElem_toArray, List.getElem_cons_succ, List.getElem_cons_zero, Act.put, List.setIfInBounds_toArray, List.set_cons_zero, List.set_cons_succ]
  refine wpAnyH_take (i := 10) (v := ?v11) rfl (by kernel_rfl) (by kernel_rfl) (by kernel_rfl) (fun _ _ _ h => h) (Or.inl ⟨by rfl, ?y11⟩) (by assumption) ?r11
  case y11 => (intro w hSw; (try dsimp only at hSw); go_simp; try (with_reducible rfl))
  simp only [List.getElem_toArray, List.getElem_cons_succ, List.getElem_cons_zero, Act.put, List.setIfInBounds_toArray, List.set_cons_zero, List.set_cons_succ]
  refine wpAnyH_take (i := 11) (v := ?v12) rfl (by kernel_rfl) (by kernel_rfl) (by kernel_rfl) (fun _ _ _ h => h) (Or.inl ⟨by rfl, ?y12⟩) (by assumption) ?r12
  case y12 => (intro w hSw; (try dsimp only at hSw); go_simp; try (with_reducible rfl))
  simp only [List.getElem_toArray, List.getElem_cons_succ, List.getElem_cons_zero, Act.put, List.setIfInBounds_toArray, List.set_cons_zero, List.set_cons_succ]
  refine wpAnyH_take (i := 12) (v := ?v13) rfl (by kernel_rfl) (by kernel_rfl) (by kernel_rfl) (fun _ _ _ h => h) (Or.inl ⟨by rfl, ?y13⟩) (by assumption) ?r13
  case y13 => (intro w hSw; (try dsimp only at hSw); go_simp; try (with_reducible rfl))
  simp only [List.getElem_toArray, List.getElem_cons_succ, List.getElem_cons_zero, Act.put, List.setIfInBounds_toArray, List.set_cons_zero, List.set_cons_succ]
  refine wpAnyH_take (i := 13) (v := ?v14) rfl (by kernel_rfl) (by kernel_rfl) (by kernel_rfl) (fun _ _ _ h => h) (Or.inl ⟨by rfl, ?y14⟩) (by assumption) ?r14
  case y14 => (intro w hSw; (try dsimp only at hSw); go_simp; try (with_reducible rfl))
  simp only [List.getElem_toArray, List.getElem_cons_succ, List.getElem_cons_zero, Act.put, List.setIfInBounds_toArray, List.set_cons_zero, List.set_cons_succ]
  refine wpAnyH_take (i := 14) (v := ?v15) rfl (by kernel_rfl) (by kernel_rfl) (by kernel_rfl) (fun _ _ _ h => h) (Or.inl ⟨by rfl, ?y15⟩) (by assumption) ?r15
  case y15 => (intro w hSw; (try dsimp only at hSw); go_simp; try (with_reducible rfl))
  simp only [List.getElem_toArray, List.getElem_cons_succ, List.getElem_cons_zero, Act.put, List.setIfInBounds_toArray, List.set_cons_zero, List.set_cons_succ]
  refine wpAnyH_take (i := 15) (v := ?v16) rfl (by kernel_rfl) (by kernel_rfl) (by kernel_rfl) (fun _ _ _ h => h) (Or.inl ⟨by rfl, ?y16⟩) (by assumption) ?r16
  case y16 => (intro w hSw; (try dsimp only at hSw); go_simp; try (with_reducible rfl))
  simp only [List.getElem_toArray, List.getElem_cons_succ, List.getElem_cons_zero, Act.put, List.setIfInBounds_toArray, List.set_cons_zero, List.set_cons_succ]
  refine wpAnyH_ready (rs := [16]) (by kernel_rfl) (by simp) ?_
  refine AllReadyH.cons rfl (fun K hK => ?_) AllReadyH.nil
  simp only [List.getElem_toArray, List.getElem_cons_succ, List.getElem_cons_zero]
  rw [if_pos (show Region.wanted _ _ = true from rfl)]
  refine oper_copy_run _ _ 22 rfl _ _ rfl rfl (K0.out.drew.copyN2 p tk P1 T1 HPT.out.1 HPT.out.2 hp ht _) ?_
  obtain ⟨w1, hw1⟩ : ∃ y, y = x.drew.setCells gN (p + 1) (mapS ((L1.drop p).take (tk - p))) := ⟨_, rfl⟩
  have Kw1 := hide (show BxH w w1 zb base gN cN gC cC n G T (putAt L1 (p + 1) ((L1.drop p).take (tk - p))) L2 by rw [hw1]; exact K0.out.drew.setsN _ _)
  try rw [← hw1]
  refine hK.out _ _ ?_ (fun hHeld => ?_)
  · exact (blk4 Kw1.out.X).1
  clear hK K hw1
  try simp only [Act.put, List.setIfInBounds_toArray, List.set_cons_zero, List.set_cons_succ]
  refine wpAnyH_done (by kernel_rfl) ?_ _
  clear hHeld
  generalize (if cN = P1 then (some ⟨gN, 0, none⟩ : Option Addr) else some ⟨gN, P1, none⟩) = dN
  generalize (if cN = p then (some ⟨gN, 0, none⟩ : Option Addr) else some ⟨gN, p, none⟩) = sN
  obtain ⟨Q1, hQ1⟩ : ∃ Q1, Q1 = putAt L1 (p + 1) ((L1.drop p).take (tk - p)) := ⟨_, rfl⟩
  rw [← hQ1] at Kw1
  have HQ1 := hide hQ1
  clear hQ1
  go_upto_region 1 with fail
  refine wp_region_held_drew (S := fun wx => wx.cell? ⟨zb, 1, none⟩ = some (.slice (some ⟨gC, 0, none⟩) n cC)) (by kernel_rfl) (blk4 Kw1.out.X).2.1 (fun hHeld => ?_)
  refine wpAnyH_take (i := 0) (v := ?v17) rfl (by kernel_rfl) (by kernel_rfl) (by kernel_rfl) (fun _ _ _ h => h) (Or.inl ⟨by rfl, ?y17⟩) (by assumption) ?r17
  case y17 => (intro w hSw; (try dsimp only at hSw); go_simp; try (with_reducible rfl))
  simp only [List.getElem_toArray, List.getElem_cons_zero, Act.put, List.setIfInBounds_toArray, List.set_cons_zero, List.set_cons_succ]
  refine wpAnyH_take (i := 1) (v := ?v18) rfl (by kernel_rfl) (by kernel_rfl) (by kernel_rfl) (fun _ _ _ h => h) (Or.inl ⟨by rfl, ?y18⟩) (by assumption) ?r18
  case y18 => (intro w hSw; (try dsimp only at hSw); go_simp; try (with_reducible rfl))
  simp only [List.getElem_toArray, List.getElem_cons_succ, List.getElem_cons_zero, Act.put, List.setIfInBounds_toArray, List.set_cons_zero, List.set_cons_succ]
  refine wpAnyH_take (i := 2) (v := ?v19) rfl (by kernel_rfl) (by kernel_rfl) (by kernel_rfl) (fun _ _ _ h => h) (Or.inl ⟨by rfl, ?y19⟩) (by assumption) ?r19
  case y19 => (intro w hSw; (try dsimp only at hSw); go_simp; try (with_reducible rfl))
  simp only [List.getElem_toArray, List.getElem_cons_succ, List.getElem_cons_zero, Act.put, List.setIfInBounds_toArray, List.set_cons_zero, List.set_cons_succ]
  refine wpAnyH_take (i := 3) (v := ?v20) rfl (by kernel_rfl) (by kernel_rfl) (by kernel_rfl) (fun _ _ _ h => h) (Or.inl ⟨by rfl, ?y20⟩) (by assumption) ?r20
  case y20 => (intro w hSw; (try dsimp only at hSw); go_simp; try (with_reducible rfl))
  simp only [List.getElem_toArray, List.getElem_cons_succ, List.getElem_cons_zero, Act.put, List.setIfInBounds_toArray, List.set_cons_zero, List.set_cons_succ]
  refine wpAnyH_take (i := 4) (v := ?v21) rfl (by kernel_rfl) (by kernel_rfl) (by kernel_rfl) (fun _ _ _ h => h) (Or.inl ⟨by rfl, ?y21⟩) (by assumption) ?r21
  case y21 => (intro w hSw; (try dsimp only at hSw); go_simp; try (with_reducible rfl))
  simp only [List.getElem_toArray, List.getElem_cons_succ, List.getElem_cons_zero, Act.put, List.setIfInBounds_toArray, List.set_cons_zero, List.set_cons_succ]
  refine wpAnyH_take (i := 5) (v := ?v22) rfl (by kernel_rfl) (by kernel_rfl) (by kernel_rfl) (fun _ _ _ h => h) (Or.inl ⟨by rfl, ?y22⟩) (by assumption) ?r22
  case y22 => (intro w hSw; (try dsimp only at hSw); go_simp; try (with_reducible rfl))
  simp only [List.getElem_toArray, List.getElem_cons_succ, List.getElem_cons_zero, Act.put, List.setIfInBounds_toArray, List.set_cons_zero, List.set_cons_succ]
  refine wpAnyH_take (i := 6) (v := ?v23) rfl (by kernel_rfl) (by kernel_rfl) (by kernel_rfl) (fun _ _ _ h => h) (Or.inl ⟨by rfl, ?y23⟩) (by assumption) ?r23
  case y23 => (intro w hSw; (try dsimp only at hSw); go_simp; try (with_reducible rfl))
  simp only [List.getElem_toArray, List.getElem_cons_succ, List.getElem_cons_zero, Act.put, List.setIfInBounds_toArray, List.set_cons_zero, List.set_cons_succ]
  refine wpAnyH_take (i := 7) (v := ?v24) rfl (by kernel_rfl) (by kernel_rfl) (by kernel_rfl) (fun _ _ _ h => h) (Or.inl ⟨by rfl, ?y24⟩) (by assumption) ?r24
  case y24 => (intro w hSw; (try dsimp only at hSw); go_simp; try (with_reducible rfl))
  simp only [List.getElem_toArray, List.getElem_cons_succ, List.getElem_cons_zero, Act.put, List.setIfInBounds_toArray, List.set_cons_zero, List.set_cons_succ]
  refine wpAnyH_take (i := 8) (v := ?v25) rfl (by kernel_rfl) (by kernel_rfl) (by kernel_rfl) (fun _ _ _ h => h) (Or.inl ⟨by rfl, ?y25⟩) (by assumption) ?r25
  case y25 => (intro w hSw; (try dsimp only at hSw); go_simp; try (with_reducible rfl))
  simp only [List.getElem_toArray, List.getElem_cons_succ, List.getElem_cons_zero, Act.put, List.setIfInBounds_toArray, List.set_cons_zero, List.set_cons_succ]
  refine wpAnyH_take (i := 9) (v := ?v26) rfl (by kernel_rfl) (by kernel_rfl) (by kernel_rfl) (fun _ _ _ h => h) (Or.inl ⟨by rfl, ?y26⟩) (by assumption) ?r26
  case y26 => (intro w hSw; (try dsimp only at hSw); go_simp; try (with_reducible rfl))
  simp only [List.getElem_toArray, List.getElem_cons_succ, List.getElem_cons_zero, Act.put, List.setIfInBounds_toArray, List.set_cons_zero, List.set_cons_succ]
  refine wpAnyH_take (i := 10) (v := ?v27) rfl (by kernel_rfl) (by kernel_rfl) (by kernel_rfl) (fun _ _ _ h => h) (Or.inl ⟨by rfl, ?y27⟩) (by assumption) ?r27
  case y27 => (intro w hSw; (try dsimp only at hSw); go_simp; try (with_reducible rfl))
  simp only [List.getElem_toArray, List.getElem_cons_succ, List.getElem_cons_zero, Act.put, List.setIfInBounds_toArray, List.set_cons_zero, List.set_cons_succ]
  refine wpAnyH_take (i := 11) (v := ?v28) rfl (by kernel_rfl) (by kernel_rfl) (by kernel_rfl) (fun _ _ _ h => h) (Or.inl ⟨by rfl, ?y28⟩) (by assumption) ?r28
  case y28 => (intro w hSw; (try dsimp only at hSw); go_simp; try (with_reducible rfl))
  simp only [List.getElem_toArray, List.getElem_cons_succ, List.getElem_cons_zero, Act.put, List.setIfInBounds_toArray, List.set_cons_zero, List.set_cons_succ]
  refine wpAnyH_take (i := 12) (v := ?v29) rfl (by kernel_rfl) (by kernel_rfl) (by kernel_rfl) (fun _ _ _ h => h) (Or.inl ⟨by rfl, ?y29⟩) (by assumption) ?r29
  case y29 => (intro w hSw; (try dsimp only at hSw); go_simp; try (with_reducible rfl))
  simp only [List.getElem_toArray, List.getElem_cons_succ, List.getElem_cons_zero, Act.put, List.setIfInBounds_toArray, List.set_cons_zero, List.set_cons_succ]
  refine wpAnyH_take (i := 13) (v := ?v30) rfl (by kernel_rfl) (by kernel_rfl) (by kernel_rfl) (fun _ _ _ h => h) (Or.inl ⟨by rfl, ?y30⟩) (by assumption) ?r30
  case y30 => (intro w hSw; (try dsimp only at hSw); go_simp; try (with_reducible rfl))
  simp only [List.getElem_toArray, List.getElem_cons_succ, List.getElem_cons_zero, Act.put, List.setIfInBounds_toArray, List.set_cons_zero, List.set_cons_succ]
  refine wpAnyH_take (i := 14) (v := ?v31) rfl (by kernel_rfl) (by kernel_rfl) (by kernel_rfl) (fun _ _ _ h => h) (Or.inl ⟨by rfl, ?y31⟩) (by assumption) ?r31
  case y31 => (intro w hSw; (try dsimp only at hSw); go_simp; try (with_reducible rfl))
  simp only [List.getElem_toArray, List.getElem_cons_succ, List.getElem_cons_zero, Act.put, List.setIfInBounds_toArray, List.set_cons_zero, List.set_cons_succ]
  refine wpAnyH_take (i := 15) (v := ?v32) rfl (by kernel_rfl) (by kernel_rfl) (by kernel_rfl) (fun _ _ _ h => h) (Or.inl ⟨by rfl, ?y32⟩) (by assumption) ?r32
  case y32 => (intro w hSw; (try dsimp only at hSw); go_simp; try (with_reducible rfl))
  simp only [List.getElem_toArray, List.getElem_cons_succ, List.getElem_cons_zero, Act.put, List.setIfInBounds_toArray, List.set_cons_zero, List.set_cons_succ]
  refine wpAnyH_ready (rs := [16]) (by kernel_rfl) (by simp) ?_
  refine AllReadyH.cons rfl (fun K hK => ?_) AllReadyH.nil
  simp only [List.getElem_toArray, List.getElem_cons_succ, List.getElem_cons_zero]
  rw [if_pos (show Region.wanted _ _ = true from rfl)]
  refine oper_copy_run _ _ 23 rfl _ _ rfl rfl (Kw1.out.drew.copyC2 p tk P1 T1 HPT.out.1 HPT.out.2 hp ht _) ?_
  obtain ⟨w2, hw2⟩ : ∃ y, y = w1.drew.setCells gC (p + 1) (ints ((L2.drop p).take (tk - p))) := ⟨_, rfl⟩
  have Kw2 := hide (show BxH w w2 zb base gN cN gC cC n G T Q1 (putAt L2 (p + 1) ((L2.drop p).take (tk - p))) by rw [hw2]; exact Kw1.out.drew.setsC _ _)
  try rw [← hw2]
  refine hK.out _ _ ?_ (fun hHeld => ?_)
  · exact (blk4 Kw2.out.X).2.1
  clear hK K hw2
  try simp only [Act.put, List.setIfInBounds_toArray, List.set_cons_zero, List.set_cons_succ]
  refine wpAnyH_done (by kernel_rfl) ?_ _
  clear hHeld
  generalize (if cC = P1 then (some ⟨gC, 0, none⟩ : Option Addr) else some ⟨gC, P1, none⟩) = dC
  generalize (if cC = p then (some ⟨gC, 0, none⟩ : Option Addr) else some ⟨gC, p, none⟩) = sC
  obtain ⟨Q2, hQ2⟩ : ∃ Q2, Q2 = putAt L2 (p + 1) ((L2.drop p).take (tk - p)) := ⟨_, rfl⟩
  rw [← hQ2] at Kw2
  have HQ2 := hide hQ2
  clear hQ2
  have hpn : (p : Int) < (n : Int) := by omega
  go_upto_region 2 with fail
  refine wp_region_held_drew (S := fun wx => wx.cell? ⟨zb, 0, none⟩ = some (.slice (some ⟨gN, 0, none⟩) n cN) ∧ wx.cell? ⟨zb, 1, none⟩ = some (.slice (some ⟨gC, 0, none⟩) n cC)) (by kernel_rfl) ⟨(blk4 Kw2.out.X).1, (blk4 Kw2.out.X).2.1⟩ (fun hHeld => ?_)
  refine wpAnyH_take (i := 0) (v := ?v33) rfl (by kernel_rfl) (by kernel_rfl) (by kernel_rfl) (fun _ _ _ h => h) (Or.inl ⟨by rfl, ?y33⟩) (by assumption) ?r33
  case y33 => (intro w hSw; (try dsimp only at hSw); go_simp; try (with_reducible rfl))
  simp only [List.getElem_toArray, List.getElem_cons_zero, Act.put, List.setIfInBounds_toArray, List.set_cons_zero, List.set_cons_succ]
  refine wpAnyH_take (i := 1) (v := ?v34) rfl (by kernel_rfl) (by kernel_rfl) (by kernel_rfl) (fun _ _ _ h => h) (Or.inl ⟨by rfl, ?y34⟩) (by assumption) ?r34
  case y34 => (intro w hSw; (try dsimp only at hSw); go_simp; try (with_reducible rfl))
  simp only [List.getElem_toArray, List.getElem_cons_succ, List.getElem_cons_zero, Act.put, List.setIfInBounds_toArray, List.set_cons_zero, List.set_cons_succ]
  refine wpAnyH_take (i := 2) (v := ?v35) rfl (by kernel_rfl) (by kernel_rfl) (by kernel_rfl) (fun _ _ _ h => h) (Or.inl ⟨by rfl, ?y35⟩) (by assumption) ?r35
  case y35 => (intro w hSw; (try dsimp only at hSw); go_simp; try (with_reducible rfl))
  simp only [List.getElem_toArray, List.getElem_cons_succ, List.getElem_cons_zero, Act.put, List.setIfInBounds_toArray, List.set_cons_zero, List.set_cons_succ]
  refine wpAnyH_take (i := 3) (v := ?v36) rfl (by kernel_rfl) (by kernel_rfl) (by kernel_rfl) (fun _ _ _ h => h) (Or.inl ⟨by rfl, ?y36⟩) (by assumption) ?r36
  case y36 => (intro w hSw; (try dsimp only at hSw); go_simp; try (with_reducible rfl))
  simp only [List.getElem_toArray, List.getElem_cons_succ, List.getElem_cons_zero, Act.put, List.setIfInBounds_toArray, List.set_cons_zero, List.set_cons_succ]
  refine wpAnyH_take (i := 4) (v := ?v37) rfl (by kernel_rfl) (by kernel_rfl) (by kernel_rfl) (fun _ _ _ h => h) (Or.inl ⟨by rfl, ?y37⟩) (by assumption) ?r37
  case y37 => (intro w hSw; (try dsimp only at hSw); go_simp; try (with_reducible rfl))
  simp only [List.getElem_toArray, List.getElem_cons_succ, List.getElem_cons_zero, Act.put, List.setIfInBounds_toArray, List.set_cons_zero, List.set_cons_succ]
  refine wpAnyH_take (i := 5) (v := ?v38) rfl (by kernel_rfl) (by kernel_rfl) (by kernel_rfl) (fun _ _ _ h => h) (Or.inl ⟨by rfl, ?y38⟩) (by assumption) ?r38
  case y38 => (intro w hSw; (try dsimp only at hSw); go_simp; try (with_reducible rfl))
  simp only [List.getElem_toArray, List.getElem_cons_succ, List.getElem_cons_zero, Act.put, List.setIfInBounds_toArray, List.set_cons_zero, List.set_cons_succ]
  refine wpAnyH_take (i := 6) (v := ?v39) rfl (by kernel_rfl) (by kernel_rfl) (by kernel_rfl) (fun _ _ _ h => h) (Or.inl ⟨by rfl, ?y39⟩) (by assumption) ?r39
  case y39 => (intro w hSw; (try dsimp only at hSw); go_simp; try (with_reducible rfl))
  simp only [List.getElem_toArray, List.getElem_cons_succ, List.getElem_cons_zero, Act.put, List.setIfInBounds_toArray, List.set_cons_zero, List.set_cons_succ]
  refine wpAnyH_take (i := 7) (v := ?v40) rfl (by kernel_rfl) (by kernel_rfl) (by kernel_rfl) (fun _ _ _ h => h) (Or.inl ⟨by rfl, ?y40⟩) (by assumption) ?r40
  case y40 => (intro w hSw; (try dsimp only at hSw); go_simp; try (with_reducible rfl))
  simp only [List.getElem_toArray, List.getElem_cons_succ, List.getElem_cons_zero, Act.put, List.setIfInBounds_toArray, List.set_cons_zero, List.set_cons_succ]
  refine wpAnyH_take (i := 8) (v := ?v41) rfl (by kernel_rfl) (by kernel_rfl) (by kernel_rfl) (fun _ _ _ h => h) (Or.inl ⟨by rfl, ?y41⟩) (by assumption) ?r41
  case y41 => (intro w hSw; (try dsimp only at hSw); go_simp; try (with_reducible rfl))
  simp only [List.getElem_toArray, List.getElem_cons_succ, List.getElem_cons_zero, Act.put, List.setIfInBounds_toArray, List.set_cons_zero, List.set_cons_succ]
  refine wpAnyH_take (i := 9) (v := ?v42) rfl (by kernel_rfl) (by kernel_rfl) (by kernel_rfl) (fun _ _ _ h => h) (Or.inl ⟨by rfl, ?y42⟩) (by assumption) ?r42
  case y42 => (intro w hSw; (try dsimp only at hSw); go_simp; try (with_reducible rfl))
  simp only [List.getElem_toArray, List.getElem_cons_succ, List.getElem_cons_zero, Act.put, List.setIfInBounds_toArray, List.set_cons_zero, List.set_cons_succ]
  refine wpAnyH_take (i := 10) (v := ?v43) rfl (by kernel_rfl) (by kernel_rfl) (by kernel_rfl) (fun _ _ _ h => h) (Or.inl ⟨by rfl, ?y43⟩) (by assumption) ?r43
  case y43 => (intro w hSw; (try dsimp only at hSw); go_simp; try (with_reducible rfl))
  simp only [List.getElem_toArray, List.getElem_cons_succ, List.getElem_cons_zero, Act.put, List.setIfInBounds_toArray, List.set_cons_zero, List.set_cons_succ]
  refine wpAnyH_take (i := 11) (v := ?v44) rfl (by kernel_rfl) (by kernel_rfl) (by kernel_rfl) (fun _ _ _ h => h) (Or.inl ⟨by rfl, ?y44⟩) (by assumption) ?r44
  case y44 => (intro w hSw; (try dsimp only at hSw); go_simp; try (with_reducible rfl))
  simp only [List.getElem_toArray, List.getElem_cons_succ, List.getElem_cons_zero, Act.put, List.setIfInBounds_toArray, List.set_cons_zero, List.set_cons_succ]
  refine wpAnyH_ready (rs := [12]) (by kernel_rfl) (by simp) ?_
  refine AllReadyH.cons rfl (fun K hK => ?_) AllReadyH.nil
  simp only [List.getElem_toArray, List.getElem_cons_succ, List.getElem_cons_zero]
  obtain ⟨c1, f1⟩ := Kw2.out.atN p (by omega)
  go_simp
  obtain ⟨w3, hw3⟩ : ∃ y, y = (w2.setCell ⟨gN, p, none⟩ (.string s)).drew := ⟨_, rfl⟩
  have K3 := hide (show BxH w w3 zb base gN cN gC cC n G T (Q1.set p s) Q2 by rw [hw3]; exact (Kw2.out.setN p s).drew)
  try rw [← hw3]
  refine hK.out _ _ ?_ (fun hHeld => ?_)
  · exact ⟨(blk4 K3.out.X).1, (blk4 K3.out.X).2.1⟩
  clear hK K hw3 c1 f1
  try simp only [Act.put, List.setIfInBounds_toArray, List.set_cons_zero, List.set_cons_succ]
  refine wpAnyH_take (i := 13) (v := ?v45) rfl (by kernel_rfl) (by kernel_rfl) (by kernel_rfl) (fun _ _ _ h => h) (Or.inl ⟨by rfl, ?y45⟩) (by assumption) ?r45
  case y45 => (intro w hSw; (try dsimp only at hSw); go_simp; try (with_reducible rfl))
  simp only [List.getElem_toArray, List.getElem_cons_succ, List.getElem_cons_zero, Act.put, List.setIfInBounds_toArray, List.set_cons_zero, List.set_cons_succ]
  refine wpAnyH_ready (rs := [14]) (by kernel_rfl) (by simp) ?_
  refine AllReadyH.cons rfl (fun K hK => ?_) AllReadyH.nil
  simp only [List.getElem_toArray, List.getElem_cons_succ, List.getElem_cons_zero]
  obtain ⟨c1, f1⟩ := K3.out.atC p (by omega)
  go_simp
  obtain ⟨w4, hw4⟩ : ∃ y, y = w3.setCell ⟨gC, p, none⟩ (.int .i64 1) := ⟨_, rfl⟩
  have K4 := hide (show BxH w w4 zb base gN cN gC cC n G T (Q1.set p s) (Q2.set p 1) by rw [hw4]; exact K3.out.setC p 1)
  try rw [← hw4]
  refine hK.out _ _ ?_ (fun hHeld => ?_)
  · exact ⟨(blk4 K4.out.X).1, (blk4 K4.out.X).2.1⟩
  clear hK K hw4 c1 f1
  try simp only [Act.put, List.setIfInBounds_toArray, List.set_cons_zero, List.set_cons_succ]
  refine wpAnyH_done (by kernel_rfl) ?_ _
  clear hHeld
  have hl1 := K0.out.lenN
  have hl2 := K0.out.lenC
  have S1 := (putAt_moved e0 L1 p tk hp (by omega) (fun j h1 h2 => H12.out.1 j h1 (by omega))).put (s := s) (by omega)
  have S2 := (putAt_moved 0 L2 p tk hp (by omega) (fun j h1 h2 => H12.out.2 j h1 (by omega))).put (s := 1) (by omega)
  have KE := hide (show BxH w w4 zb base gN cN gC cC n G T (putL L1 p s) (putL L2 p 1) by rw [← S1, ← S2, ← HQ1.out, ← HQ2.out]; exact K4.out)
  clear S1 S2
  go_wp2
  go_end0
  exact ⟨rfl, KE.out⟩
end Go.Proofs.Yticgejaaoamhmao.L15H

namespace Go.Proofs.Yticgejaaoamhmao.L15H
open Go.RowKit L1 Own Str
set_option linter.unusedVariables false

/-- Who is left of the first k, moved up in place. -/
structure Lf (h : Hv) (k : Nat) (R1 : List ByteArray) (R2 : List Int) : Prop where
  l1 : R1.length = h.nm.length
  l2 : R2.length = h.ct.length
  a1 : ∀ j, j < h.nm.length → R1.getD j e0 = if j < (lfC h k).length then (lfN h k).getD j e0 else h.nm.getD j e0
  a2 : ∀ j, j < h.ct.length → R2.getD j 0 = if j < (lfC h k).length then (lfC h k).getD j 0 else h.ct.getD j 0
theorem lf_start (h : Hv) : Lf h 0 h.nm h.ct := ⟨rfl, rfl, fun j hj => by rw [if_neg (by simp [lfC])], fun j hj => by rw [if_neg (by simp [lfC])]⟩
theorem Lf.no {h : Hv} {k : Nat} {R1 : List ByteArray} {R2 : List Int} (f : Lf h k R1 R2) (hc : ¬ 1 < ca h k) : Lf h (k + 1) R1 R2 := by
  have e1 : lfN h (k + 1) = lfN h k := by simp only [lfN]; rw [if_neg hc]
  have e2 : lfC h (k + 1) = lfC h k := by simp only [lfC]; rw [if_neg hc]
  exact ⟨f.l1, f.l2, by rw [e1, e2]; exact f.a1, by rw [e2]; exact f.a2⟩
theorem getD_app {α : Type} (d : α) (l : List α) (x : α) (j : Nat) : (l ++ [x]).getD j d = if j < l.length then l.getD j d else if j = l.length then x else d := by
  by_cases h1 : j < l.length
  · rw [if_pos h1]
    simp [List.getD, List.getElem?_append_left h1]
  · rw [if_neg h1]
    by_cases h2 : j = l.length
    · subst h2
      simp [List.getD]
    · rw [if_neg h2]
      simp [List.getD, List.getElem?_eq_none (show (l ++ [x]).length ≤ j by simp; omega)]
theorem Lf.yes {h : Hv} {k : Nat} {R1 : List ByteArray} {R2 : List Int} (f : Lf h k R1 R2) (hk : k < h.nm.length) (hk2 : k < h.ct.length) (hc : 1 < ca h k) : Lf h (k + 1) (R1.set (lfC h k).length (na h k)) (R2.set (lfC h k).length (ca h k - 1)) := by
  have hl := lf_len h k
  have e1 : lfN h (k + 1) = lfN h k ++ [na h k] := by simp only [lfN]; rw [if_pos hc]
  have e2 : lfC h (k + 1) = lfC h k ++ [ca h k - 1] := by simp only [lfC]; rw [if_pos hc]
  have e3 : (lfC h k ++ [ca h k - 1]).length = (lfC h k).length + 1 := by simp
  refine ⟨by simp [f.l1], by simp [f.l2], fun j hj => ?_, fun j hj => ?_⟩
  · rw [e1, e2, e3, getD_setX e0 R1 _ j _ (by rw [f.l1]; omega), getD_app, hl.1, f.a1 j hj]
    by_cases h1 : j = (lfC h k).length
    · rw [if_pos h1, if_pos (by omega), if_neg (by omega), if_pos h1]
    · rw [if_neg h1]
      by_cases h2 : j < (lfC h k).length
      · rw [if_pos h2, if_pos (by omega), if_pos h2]
      · rw [if_neg h2, if_neg (by omega)]
  · rw [e2, e3, getD_setX 0 R2 _ j _ (by rw [f.l2]; omega), getD_app, f.a2 j hj]
    by_cases h1 : j = (lfC h k).length
    · rw [if_pos h1, if_pos (by omega), if_neg (by omega), if_pos h1]
    · rw [if_neg h1]
      by_cases h2 : j < (lfC h k).length
      · rw [if_pos h2, if_pos (by omega), if_pos h2]
      · rw [if_neg h2, if_neg (by omega)]
theorem getD_fill {α : Type} (d : α) (l : List α) (q j : Nat) : (l ++ List.replicate q d).getD j d = l.getD j d := by
  by_cases h1 : j < l.length
  · simp [List.getD, List.getElem?_append_left h1]
  · simp only [List.getD, List.getElem?_append_right (Nat.le_of_not_lt h1), List.getElem?_eq_none (Nat.le_of_not_lt h1), List.getElem?_replicate]
    split <;> rfl
theorem Lf.end1 {h : Hv} {n : Nat} {R1 : List ByteArray} {R2 : List Int} (f : Lf h n R1 R2) (hn : h.nm.length = n) : putAt R1 (lfC h n).length (List.replicate (n - (lfC h n).length) e0) = lfN h n ++ List.replicate (n - (lfC h n).length) e0 := by
  have hl := lf_len h n
  refine ext_getD e0 (by rw [putAt_len, f.l1]; simp; omega) (fun j hj => ?_)
  have hj2 : j < n := by simp at hj; omega
  rw [putAt_at e0 _ _ _ _ (by rw [f.l1]; simp; omega), getD_fill]
  simp only [List.length_replicate]
  by_cases h1 : j < (lfC h n).length
  · rw [if_neg (by omega), f.a1 j (by omega), if_pos h1]
  · rw [if_pos (by omega)]
    simp only [List.getD, List.getElem?_replicate]
    rw [if_pos (by omega), List.getElem?_eq_none (by omega)]
    rfl
theorem Lf.end2 {h : Hv} {n : Nat} {R1 : List ByteArray} {R2 : List Int} (f : Lf h n R1 R2) (hn : h.ct.length = n) : putAt R2 (lfC h n).length (List.replicate (n - (lfC h n).length) 0) = lfC h n ++ List.replicate (n - (lfC h n).length) 0 := by
  have hl := lf_len h n
  refine ext_getD 0 (by rw [putAt_len, f.l2]; simp; omega) (fun j hj => ?_)
  have hj2 : j < n := by simp at hj; omega
  rw [putAt_at 0 _ _ _ _ (by rw [f.l2]; simp; omega), getD_fill]
  simp only [List.length_replicate]
  by_cases h1 : j < (lfC h n).length
  · rw [if_neg (by omega), f.a2 j (by omega), if_pos h1]
  · rw [if_pos (by omega)]
    simp only [List.getD, List.getElem?_replicate]
    rw [if_pos (by omega), List.getElem?_eq_none (by omega)]
    rfl
theorem wpList_clear_run {w : World} {ops : Array Oper} {rest : List Oper} {o : Oper} {a : Act} {Q : Exit → Act → World → Prop} (hgd : o.guard = none) (d : Operand) (t : TypeId)
    (ho : o.op = .call { callee := .builtin .clear, args := #[d], argTypes := #[t] }) (v : Value) (hd : a.eval d = v) {v' : Value} {w' : World}
    (hr : (Builtin.clear_ #[t] o.type #[v]).run Try.prog w = .ok v' w') (h : wpList Try.prog ops Q rest (a.put o.dst v') w') : wpList Try.prog ops Q (o :: rest) a w :=
  wpList_plain hgd fun K hK => by
    unfold Oper.wp execOp
    simp only [ho, resolve, invoke, builtin, Sem.run_bind, Sem.run_pure, Result.andThen_ok, List.map_toArray, List.map_cons, List.map_nil, hd, hr]
    exact hK _ _ h
theorem BxH.clearN {w x : World} {zb base gN cN gC cC n : Nat} {G T : Int} {L1 : List ByteArray} {L2 : List Int} (k : BxH w x zb base gN cN gC cC n G T L1 L2) (q : Nat) (hq : q ≤ n) (ty : TypeId) :
    (Builtin.clear_ #[22] ty #[.slice (if cN = q then some ⟨gN, 0, none⟩ else some ⟨gN, q, none⟩) (n - q) (cN - q)]).run Try.prog x = .ok (.tuple #[]) (x.setCells gN q (mapS (List.replicate (n - q) e0))) := by
  have hc := k.capN
  obtain ⟨i0, hi, hz0, hz1, hz2⟩ := info_parts info_strS
  have hv : ∀ w, (zeroValue 9).run Try.prog w = .ok (.string ByteArray.empty) w := fun w => by simp [zeroValue, typeInfo, hi, hz0]
  by_cases e : q = n
  · subst e
    rw [Nat.sub_self]
    cases (if cN = q then (some ⟨gN, 0, none⟩ : Option Addr) else some ⟨gN, q, none⟩) <;> simp [Builtin.clear_, run_underlying apT_str.ht, World.setCells, mapS]
  · rw [if_neg (by omega)]
    have := Lib.run_clear_slice (P := Try.prog) x 22 9 ty (.string ByteArray.empty) apT_str.ht hv rfl rfl gN q (n - q) (cN - q) (by omega) (fun j hj => by rw [(k.atN (q + j) (by omega)).1]; rfl) (fun j hj => (k.atN (q + j) (by omega)).2)
    rw [show (mapS (List.replicate (n - q) e0)) = List.replicate (n - q) (.string ByteArray.empty) by simp [mapS]]
    exact this
theorem BxH.clearC {w x : World} {zb base gN cN gC cC n : Nat} {G T : Int} {L1 : List ByteArray} {L2 : List Int} (k : BxH w x zb base gN cN gC cC n G T L1 L2) (q : Nat) (hq : q ≤ n) (ty : TypeId) :
    (Builtin.clear_ #[23] ty #[.slice (if cC = q then some ⟨gC, 0, none⟩ else some ⟨gC, q, none⟩) (n - q) (cC - q)]).run Try.prog x = .ok (.tuple #[]) (x.setCells gC q (ints (List.replicate (n - q) 0))) := by
  have hc := k.capC
  obtain ⟨i0, hi, hz0, hz1, hz2⟩ := info_parts info_int
  have hv : ∀ w, (zeroValue 3).run Try.prog w = .ok (.int .i64 0) w := fun w => by simp [zeroValue, typeInfo, hi, hz0]
  by_cases e : q = n
  · subst e
    rw [Nat.sub_self]
    cases (if cC = q then (some ⟨gC, 0, none⟩ : Option Addr) else some ⟨gC, q, none⟩) <;> simp [Builtin.clear_, run_underlying apT_int.ht, World.setCells]
  · rw [if_neg (by omega)]
    have := Lib.run_clear_slice (P := Try.prog) x 23 3 ty (.int .i64 0) apT_int.ht hv rfl rfl gC q (n - q) (cC - q) (by omega) (fun j hj => by rw [(k.atC (q + j) (by omega)).1]; rfl) (fun j hj => (k.atC (q + j) (by omega)).2)
    rw [show (ints (List.replicate (n - q) 0)) = List.replicate (n - q) (.int .i64 0) by simp]
    exact this
theorem BxH.clearN3 {w x : World} {zb base gN cN gC cC n : Nat} {G T : Int} {L1 : List ByteArray} {L2 : List Int} (k : BxH w x zb base gN cN gC cC n G T L1 L2) (q : Nat) (hq : q ≤ n) (da : Option Addr) (cp : Nat) (ty : TypeId) (hda : q < n → da = some ⟨gN, q, none⟩ ∧ cp = cN - q) :
    (Builtin.clear_ #[22] ty #[.slice da (n - q) cp]).run Try.prog x = .ok (.tuple #[]) (x.setCells gN q (mapS (List.replicate (n - q) e0))) := by
  by_cases e : q = n
  · subst e
    rw [Nat.sub_self]
    cases da <;> simp [Builtin.clear_, run_underlying apT_str.ht, World.setCells, mapS]
  · obtain ⟨rfl, rfl⟩ := hda (by omega)
    have h1 := k.capN
    have := k.clearN q hq ty
    rw [if_neg (by omega)] at this
    exact this
theorem BxH.clearC3 {w x : World} {zb base gN cN gC cC n : Nat} {G T : Int} {L1 : List ByteArray} {L2 : List Int} (k : BxH w x zb base gN cN gC cC n G T L1 L2) (q : Nat) (hq : q ≤ n) (da : Option Addr) (cp : Nat) (ty : TypeId) (hda : q < n → da = some ⟨gC, q, none⟩ ∧ cp = cC - q) :
    (Builtin.clear_ #[23] ty #[.slice da (n - q) cp]).run Try.prog x = .ok (.tuple #[]) (x.setCells gC q (ints (List.replicate (n - q) 0))) := by
  by_cases e : q = n
  · subst e
    rw [Nat.sub_self]
    cases da <;> simp [Builtin.clear_, run_underlying apT_int.ht, World.setCells]
  · obtain ⟨rfl, rfl⟩ := hda (by omega)
    have h1 := k.capC
    have := k.clearC q hq ty
    rw [if_neg (by omega)] at this
    exact this
theorem clear0 {t e : TypeId} {z : Value} {bytes : Nat} (k : ApT t e z bytes) (da : Option Addr) (cp : Nat) (w : World) : ∀ ty, (Builtin.clear_ #[t] ty #[.slice da 0 cp]).run Try.prog w = .ok (.tuple #[]) w := fun ty => by
  cases da <;> simp [Builtin.clear_, run_underlying k.ht]
end Go.Proofs.Yticgejaaoamhmao.L15H

namespace Go.Proofs.Yticgejaaoamhmao.L15H
open Go.RowKit L1 Own Str
set_option linter.unusedVariables false

set_option maxRecDepth 100000 in
set_option maxHeartbeats 8000000 in
theorem takeOneOff_any (zb base gN cN gC cC n : Nat) (G T : Int) (h : Hv) (w x : World) (k : BxH w x zb base gN cN gC cC n G T h.nm h.ct) (hn6 : n ≤ 100000) (hG : 0 ≤ G ∧ G ≤ 1000000) (hct : ∀ i, i < n → 0 ≤ ca h i ∧ ca h i ≤ 1000000) :
    Calls Try.prog 46 #[.pointer (some ⟨zb, 0, none⟩)] x fun e x' => e = .returned (.tuple #[]) ∧ BxH w x' zb base gN cN gC cC n (G + 1) T (lfN h n ++ List.replicate (n - (lfC h n).length) e0) (lfC h n ++ List.replicate (n - (lfC h n).length) 0) := by
  have K0 := hide k
  have HCT := hide hct
  have hcN := k.capN
  have hcC := k.capC
  have LN := hide k.lenN
  have LC := hide k.lenC
  obtain ⟨p0, p1, p2, p3⟩ := blk4 k.X
  clear k hct
  go_enter Try.func46, Try.ntmps46
  go_wp2
  clear p0 p1 p2 p3
  go_loopw [2, 10] (fun lv iv wr => ∃ (k : Nat) (R1 : List ByteArray) (R2 : List Int), k ≤ n ∧ lv = .int .i64 ((lfC h k).length : Int) ∧ iv = .int .i64 k ∧ Hid (Lf h k R1 R2) ∧ Hid (BxH w wr zb base gN cN gC cC n G T R1 R2)) (fun lv iv _ => n - (intOf iv).toNat)
  case atStart => exact ⟨0, _, _, Nat.zero_le _, rfl, rfl, lf_start h, K0.out⟩
  case round =>
    obtain ⟨k, R1, R2, hk, rfl, rfl, F, KB⟩ := hrel
    have hlf := (lf_len h k).2
    obtain ⟨q, hq⟩ : ∃ q, q = (lfC h k).length := ⟨_, rfl⟩
    rw [← hq] at hlf
    have HQ := hide hq
    rw [← hq]
    clear hq
    by_cases hlt : k < n
    · have hltI : (k : Int) < (n : Int) := by omega
      have hk0 : (0 : Int) ≤ (k : Int) := by omega
      have hqn : (q : Int) < (n : Int) := by omega
      have hq0 : (0 : Int) ≤ (q : Int) := by omega
      obtain ⟨hcN1, _⟩ := KB.out.atN k hlt
      obtain ⟨hcC1, _⟩ := KB.out.atC k hlt
      obtain ⟨s, hs⟩ : ∃ s, s = na h k := ⟨_, rfl⟩
      obtain ⟨z, hz⟩ : ∃ z, z = ca h k := ⟨_, rfl⟩
      rw [show R1.getD k e0 = s by rw [F.out.a1 k (by have := LN.out; omega), if_neg (by rw [← HQ.out]; omega), hs]] at hcN1
      rw [show R2.getD k 0 = z by rw [F.out.a2 k (by have := LC.out; omega), if_neg (by rw [← HQ.out]; omega), hz]] at hcC1
      have hzb := HCT.out k hlt
      rw [← hz] at hzb
      have HS := hide hs
      have HZ := hide hz
      clear hs hz
      have hwz := wrapH (z - 1) (by omega) (by omega)
      obtain ⟨p0, p1, p2, p3⟩ := blk4 KB.out.X
      by_cases hc : 1 < z
      · have hcg : z > 1 := hc
        have FN := hide (F.out.yes (by have := LN.out; omega) (by have := LC.out; omega) (show 1 < ca h k by rw [← HZ.out]; exact hc))
        rw [← HQ.out, ← HS.out, ← HZ.out] at FN
        have HQ2 := hide (show ((lfC h (k + 1)).length : Int) = (q : Int) + 1 by
          have e2 : lfC h (k + 1) = lfC h k ++ [ca h k - 1] := by simp only [lfC]; rw [if_pos (show 1 < ca h k by rw [← HZ.out]; exact hc)]
          rw [e2, HQ.out]
          simp)
        go_upto_region 5 with fail
        clear hcN1 p2 p3
        refine wp_region_held_drew (S := fun wx => wx.cell? ⟨zb, 0, none⟩ = some (.slice (some ⟨gN, 0, none⟩) n cN) ∧ wx.cell? ⟨zb, 1, none⟩ = some (.slice (some ⟨gC, 0, none⟩) n cC)) (by kernel_rfl) ⟨p0, p1⟩ (fun hHeld => ?_)
        refine wpAnyH_take (i := 0) (v := ?v1) rfl (by kernel_rfl) (by kernel_rfl) (by kernel_rfl) (fun _ _ _ h => h) (Or.inl ⟨by rfl, ?y1⟩) (by assumption) ?r1
        case y1 => (intro w hSw; (try dsimp only at hSw); go_simp; try (with_reducible rfl))
        simp only [List.getElem_toArray, List.getElem_cons_zero, Act.put, List.setIfInBounds_toArray, List.set_cons_zero, List.set_cons_succ]
        refine wpAnyH_take (i := 1) (v := ?v2) rfl (by kernel_rfl) (by kernel_rfl) (by kernel_rfl) (fun _ _ _ h => h) (Or.inl ⟨by rfl, ?y2⟩) (by assumption) ?r2
        case y2 => (intro w hSw; (try dsimp only at hSw); go_simp; try (with_reducible rfl))
        simp only [List.getElem_toArray, List.getElem_cons_succ, List.getElem_cons_zero, Act.put, List.setIfInBounds_toArray, List.set_cons_zero, List.set_cons_succ]
        refine wpAnyH_take (i := 2) (v := ?v3) rfl (by kernel_rfl) (by kernel_rfl) (by kernel_rfl) (fun _ _ _ h => h) (Or.inl ⟨by rfl, ?y3⟩) (by assumption) ?r3
        case y3 => (intro w hSw; (try dsimp only at hSw); go_simp; try (with_reducible rfl))
        simp only [List.getElem_toArray, List.getElem_cons_succ, List.getElem_cons_zero, Act.put, List.setIfInBounds_toArray, List.set_cons_zero, List.set_cons_succ]
        refine wpAnyH_take (i := 3) (v := ?v4) rfl (by kernel_rfl) (by kernel_rfl) (by kernel_rfl) (fun _ _ _ h => h) (Or.inl ⟨by rfl, ?y4⟩) (by assumption) ?r4
        case y4 => (intro w hSw; (try dsimp only at hSw); go_simp; try (with_reducible rfl))
        simp only [List.getElem_toArray, List.getElem_cons_succ, List.getElem_cons_zero, Act.put, List.setIfInBounds_toArray, List.set_cons_zero, List.set_cons_succ]
        refine wpAnyH_take (i := 4) (v := ?v5) rfl (by kernel_rfl) (by kernel_rfl) (by kernel_rfl) (fun _ _ _ h => h) (Or.inl ⟨by rfl, ?y5⟩) (by assumption) ?r5
        case y5 => (intro w hSw; (try dsimp only at hSw); go_simp; try (with_reducible rfl))
        simp only [List.getElem_toArray, List.getElem_cons_succ, List.getElem_cons_zero, Act.put, List.setIfInBounds_toArray, List.set_cons_zero, List.set_cons_succ]
        refine wpAnyH_take (i := 5) (v := ?v6) rfl (by kernel_rfl) (by kernel_rfl) (by kernel_rfl) (fun _ _ _ h => h) (Or.inl ⟨by rfl, ?y6⟩) (by assumption) ?r6
        case y6 => (intro w hSw; (try dsimp only at hSw); go_simp; try (with_reducible rfl))
        simp only [List.getElem_toArray, List.getElem_cons_succ, List.getElem_cons_zero, Act.put, List.setIfInBounds_toArray, List.set_cons_zero, List.set_cons_succ]
        refine wpAnyH_take (i := 6) (v := ?v7) rfl (by kernel_rfl) (by kernel_rfl) (by kernel_rfl) (fun _ _ _ h => h) (Or.inl ⟨by rfl, ?y7⟩) (by assumption) ?r7
        case y7 => (intro w hSw; (try dsimp only at hSw); go_simp; try (with_reducible rfl))
        simp only [List.getElem_toArray, List.getElem_cons_succ, List.getElem_cons_zero, Act.put, List.setIfInBounds_toArray, List.set_cons_zero, List.set_cons_succ]
        refine wpAnyH_take (i := 7) (v := ?v8) rfl (by kernel_rfl) (by kernel_rfl) (by kernel_rfl) (fun _ _ _ h => h) (Or.inl ⟨by rfl, ?y8⟩) (by assumption) ?r8
        case y8 => (intro w hSw; (try dsimp only at hSw); go_simp; try (with_reducible rfl))
        simp only [List.getElem_toArray, List.getElem_cons_succ, List.getElem_cons_zero, Act.put, List.setIfInBounds_toArray, List.set_cons_zero, List.set_cons_succ]
        refine wpAnyH_take (i := 8) (v := ?v9) rfl (by kernel_rfl) (by kernel_rfl) (by kernel_rfl) (fun _ _ _ h => h) (Or.inl ⟨by rfl, ?y9⟩) (by assumption) ?r9
        case y9 => (intro w hSw; (try dsimp only at hSw); go_simp; try (with_reducible rfl))
        simp only [List.getElem_toArray, List.getElem_cons_succ, List.getElem_cons_zero, Act.put, List.setIfInBounds_toArray, List.set_cons_zero, List.set_cons_succ]
        refine wpAnyH_take (i := 9) (v := ?v10) rfl (by kernel_rfl) (by kernel_rfl) (by kernel_rfl) (fun _ _ _ h => h) (Or.inl ⟨by rfl, ?y10⟩) (by assumption) ?r10
        case y10 => (intro w hSw; (try dsimp only at hSw); go_simp; try (with_reducible rfl))
        simp only [List.getElem_toArray, List.getElem_cons_succ, List.getElem_cons_zero, Act.put, List.setIfInBounds_toArray, List.set_cons_zero, List.set_cons_succ]
        refine wpAnyH_take (i := 10) (v := ?v11) rfl (by kernel_rfl) (by kernel_rfl) (by kernel_rfl) (fun _ _ _ h => h) (Or.inl ⟨by rfl, ?y11⟩) (by assumption) ?r11
        case y11 => (intro w hSw; (try dsimp only at hSw); go_simp; try (with_reducible rfl))
        simp only [List.getElem_toArray, List.getElem_cons_succ, List.getElem_cons_zero, Act.put, List.setIfInBounds_toArray, List.set_cons_zero, List.set_cons_succ]
        refine wpAnyH_take (i := 11) (v := ?v12) rfl (by kernel_rfl) (by kernel_rfl) (by kernel_rfl) (fun _ _ _ h => h) (Or.inl ⟨by rfl, ?y12⟩) (by assumption) ?r12
        case y12 => (intro w hSw; (try dsimp only at hSw); go_simp; try (with_reducible rfl))
        simp only [List.getElem_toArray, List.getElem_cons_succ, List.getElem_cons_zero, Act.put, List.setIfInBounds_toArray, List.set_cons_zero, List.set_cons_succ]
        refine wpAnyH_take (i := 12) (v := ?v13) rfl (by kernel_rfl) (by kernel_rfl) (by kernel_rfl) (fun _ _ _ h => h) (Or.inl ⟨by rfl, ?y13⟩) (by assumption) ?r13
        case y13 => (intro w hSw; (try dsimp only at hSw); go_simp; try (with_reducible rfl))
        simp only [List.getElem_toArray, List.getElem_cons_succ, List.getElem_cons_zero, Act.put, List.setIfInBounds_toArray, List.set_cons_zero, List.set_cons_succ]
        refine wpAnyH_take (i := 13) (v := ?v14) rfl (by kernel_rfl) (by kernel_rfl) (by kernel_rfl) (fun _ _ _ h => h) (Or.inl ⟨by rfl, ?y14⟩) (by assumption) ?r14
        case y14 => (intro w hSw; (try dsimp only at hSw); go_simp; try (with_reducible rfl))
        simp only [List.getElem_toArray, List.getElem_cons_succ, List.getElem_cons_zero, Act.put, List.setIfInBounds_toArray, List.set_cons_zero, List.set_cons_succ]
        refine wpAnyH_take (i := 14) (v := ?v15) rfl (by kernel_rfl) (by kernel_rfl) (by kernel_rfl) (fun _ _ _ h => h) (Or.inl ⟨by rfl, ?y15⟩) (by assumption) ?r15
        case y15 => (intro w hSw; (try dsimp only at hSw); go_simp; try (with_reducible rfl))
        simp only [List.getElem_toArray, List.getElem_cons_succ, List.getElem_cons_zero, Act.put, List.setIfInBounds_toArray, List.set_cons_zero, List.set_cons_succ]
        refine wpAnyH_take (i := 15) (v := ?v16) rfl (by kernel_rfl) (by kernel_rfl) (by kernel_rfl) (fun _ _ _ h => h) (Or.inl ⟨by rfl, ?y16⟩) (by assumption) ?r16
        case y16 => (intro w hSw; (try dsimp only at hSw); go_simp; try (with_reducible rfl))
        simp only [List.getElem_toArray, List.getElem_cons_succ, List.getElem_cons_zero, Act.put, List.setIfInBounds_toArray, List.set_cons_zero, List.set_cons_succ]
        refine wpAnyH_take (i := 16) (v := ?v17) rfl (by kernel_rfl) (by kernel_rfl) (by kernel_rfl) (fun _ _ _ h => h) (Or.inl ⟨by rfl, ?y17⟩) (by assumption) ?r17
        case y17 => (intro w hSw; (try dsimp only at hSw); go_simp; try (with_reducible rfl))
        simp only [List.getElem_toArray, List.getElem_cons_succ, List.getElem_cons_zero, Act.put, List.setIfInBounds_toArray, List.set_cons_zero, List.set_cons_succ]
        refine wpAnyH_ready (rs := [17]) (by kernel_rfl) (by simp) ?_
        refine AllReadyH.cons rfl (fun K hK => ?_) AllReadyH.nil
        simp only [List.getElem_toArray, List.getElem_cons_succ, List.getElem_cons_zero]
        go_simp
        refine hK.out _ _ ?_ (fun hHeld => ?_)
        · exact ⟨p0, p1⟩
        clear hK K
        try simp only [Act.put, List.setIfInBounds_toArray, List.set_cons_zero, List.set_cons_succ]
        refine wpAnyH_take (i := 18) (v := ?v18) rfl (by kernel_rfl) (by kernel_rfl) (by kernel_rfl) (fun _ _ _ h => h) (Or.inl ⟨by rfl, ?y18⟩) (by assumption) ?r18
        case y18 => (intro w hSw; (try dsimp only at hSw); go_simp; try (with_reducible rfl))
        simp only [List.getElem_toArray, List.getElem_cons_succ, List.getElem_cons_zero, Act.put, List.setIfInBounds_toArray, List.set_cons_zero, List.set_cons_succ]
        refine wpAnyH_take (i := 19) (v := ?v19) rfl (by kernel_rfl) (by kernel_rfl) (by kernel_rfl) (fun _ _ _ h => h) (Or.inl ⟨by rfl, ?y19⟩) (by assumption) ?r19
        case y19 => (intro w hSw; (try dsimp only at hSw); go_simp; try (with_reducible rfl))
        simp only [List.getElem_toArray, List.getElem_cons_succ, List.getElem_cons_zero, Act.put, List.setIfInBounds_toArray, List.set_cons_zero, List.set_cons_succ]
        refine wpAnyH_ready (rs := [20]) (by kernel_rfl) (by simp) ?_
        refine AllReadyH.cons rfl (fun K hK => ?_) AllReadyH.nil
        simp only [List.getElem_toArray, List.getElem_cons_succ, List.getElem_cons_zero]
        obtain ⟨c1, f1⟩ := KB.out.atN q (by omega)
        go_simp
        obtain ⟨w3, hw3⟩ : ∃ y, y = (wr.setCell ⟨gN, q, none⟩ (.string s)).drew := ⟨_, rfl⟩
        have K3 := hide (show BxH w w3 zb base gN cN gC cC n G T (R1.set q s) R2 by rw [hw3]; exact (KB.out.setN q s).drew)
        try rw [← hw3]
        refine hK.out _ _ ?_ (fun hHeld => ?_)
        · exact ⟨(blk4 K3.out.X).1, (blk4 K3.out.X).2.1⟩
        clear hK K hw3 c1 f1
        try simp only [Act.put, List.setIfInBounds_toArray, List.set_cons_zero, List.set_cons_succ]
        refine wpAnyH_take (i := 21) (v := ?v20) rfl (by kernel_rfl) (by kernel_rfl) (by kernel_rfl) (fun _ _ _ h => h) (Or.inl ⟨by rfl, ?y20⟩) (by assumption) ?r20
        case y20 => (intro w hSw; (try dsimp only at hSw); go_simp; try (with_reducible rfl))
        simp only [List.getElem_toArray, List.getElem_cons_succ, List.getElem_cons_zero, Act.put, List.setIfInBounds_toArray, List.set_cons_zero, List.set_cons_succ]
        refine wpAnyH_ready (rs := [22]) (by kernel_rfl) (by simp) ?_
        refine AllReadyH.cons rfl (fun K hK => ?_) AllReadyH.nil
        simp only [List.getElem_toArray, List.getElem_cons_succ, List.getElem_cons_zero]
        obtain ⟨c1, f1⟩ := K3.out.atC q (by omega)
        go_simp
        obtain ⟨w4, hw4⟩ : ∃ y, y = w3.setCell ⟨gC, q, none⟩ (.int .i64 (z - 1)) := ⟨_, rfl⟩
        have K4 := hide (show BxH w w4 zb base gN cN gC cC n G T (R1.set q s) (R2.set q (z - 1)) by rw [hw4]; exact K3.out.setC q (z - 1))
        try rw [← hw4]
        refine hK.out _ _ ?_ (fun hHeld => ?_)
        · exact ⟨(blk4 K4.out.X).1, (blk4 K4.out.X).2.1⟩
        clear hK K hw4 c1 f1
        try simp only [Act.put, List.setIfInBounds_toArray, List.set_cons_zero, List.set_cons_succ]
        refine wpAnyH_done (by kernel_rfl) ?_ _
        clear hHeld p0 p1 hcC1
        go_wp2
        go_roundw
        case rel => exact ⟨k + 1, _, _, by omega, by rw [HQ2.out], by go_num, FN.out, K4.out⟩
        case measure => simp [intOf]; omega
      · have hcg : ¬ z > 1 := hc
        have FN := hide (F.out.no (show ¬ 1 < ca h k by rw [← HZ.out]; exact hc))
        have HQ2 := hide (show (lfC h (k + 1)).length = q by
          have e2 : lfC h (k + 1) = lfC h k := by simp only [lfC]; rw [if_neg (show ¬ 1 < ca h k by rw [← HZ.out]; exact hc)]
          rw [e2, HQ.out])
        go_wp2
        go_roundw
        case rel => exact ⟨k + 1, _, _, by omega, by rw [HQ2.out], by go_num, FN.out, KB.out⟩
        case measure => simp [intOf]; omega
    · obtain rfl : k = n := by omega
      have hltI : ¬ (k : Int) < (k : Int) := by omega
      have hq0 : (0 : Int) ≤ (q : Int) := by omega
      have hqc : (q : Int) ≤ (cN : Int) := by omega
      have hqd : (q : Int) ≤ (cC : Int) := by omega
      have hqk : (q : Int) ≤ (k : Int) := by omega
      have E1 := hide (F.out.end1 LN.out)
      have E2 := hide (F.out.end2 LC.out)
      rw [← HQ.out] at E1 E2
      rcases Nat.eq_or_lt_of_le (show q ≤ cN by omega) with hcN2 | hcN2
      · rcases Nat.eq_or_lt_of_le (show q ≤ cC by omega) with hcC2 | hcC2
        · subst hcN2
          subst hcC2
          obtain ⟨p0, p1, p2, p3⟩ := blk4 KB.out.X
          have hrN := clear0 apT_str (some ⟨gN, 0, none⟩) 0 wr
          have K5 := hide (show BxH w wr zb base gN q gC q k G T (lfN h k ++ List.replicate (k - q) e0) R2 by have e := E1.out; have kk := KB.out; rw [show k - q = 0 by omega] at e ⊢; (try rw [show k - q = 0 by omega] at kk); rw [← e]; exact kk)
          go_upto_region 9 with fail
          clear p0 p1 p2 p3 hrN
          obtain ⟨p0, p1, p2, p3⟩ := blk4 K5.out.X
          have hrC := clear0 apT_int (some ⟨gC, 0, none⟩) 0 wr
          have K6 := hide (show BxH w wr zb base gN q gC q k G T (lfN h k ++ List.replicate (k - q) e0) (lfC h k ++ List.replicate (k - q) 0) by have e := E2.out; have kk := K5.out; rw [show k - q = 0 by omega] at e ⊢; (try rw [show k - q = 0 by omega] at kk); rw [← e]; exact kk)
          go_upto_region 10 with fail
          clear p0 p1 p2 p3 hrC
          obtain ⟨p0, p1, p2, p3⟩ := blk4 K6.out.X
          obtain ⟨f0, f1, f2, f3⟩ := frz4 K6.out.X
          have K7 := hide (K6.out.setG (G + 1))
          go_wp2
          go_end0
          exact ⟨rfl, by rw [← HQ.out]; exact K7.out⟩
        · subst hcN2
          have hcC3 : ¬ cC = q := by omega
          obtain ⟨p0, p1, p2, p3⟩ := blk4 KB.out.X
          have hrN := clear0 apT_str (some ⟨gN, 0, none⟩) 0 wr
          have K5 := hide (show BxH w wr zb base gN q gC cC k G T (lfN h k ++ List.replicate (k - q) e0) R2 by have e := E1.out; have kk := KB.out; rw [show k - q = 0 by omega] at e ⊢; (try rw [show k - q = 0 by omega] at kk); rw [← e]; exact kk)
          go_upto_region 9 with fail
          clear p0 p1 p2 p3 hrN
          obtain ⟨p0, p1, p2, p3⟩ := blk4 K5.out.X
          have hrC := clear0 apT_int (some ⟨gC, q, none⟩) (cC - q) wr
          have K6 := hide (show BxH w wr zb base gN q gC cC k G T (lfN h k ++ List.replicate (k - q) e0) (lfC h k ++ List.replicate (k - q) 0) by have e := E2.out; have kk := K5.out; rw [show k - q = 0 by omega] at e ⊢; (try rw [show k - q = 0 by omega] at kk); rw [← e]; exact kk)
          go_upto_region 10 with fail
          clear p0 p1 p2 p3 hrC
          obtain ⟨p0, p1, p2, p3⟩ := blk4 K6.out.X
          obtain ⟨f0, f1, f2, f3⟩ := frz4 K6.out.X
          have K7 := hide (K6.out.setG (G + 1))
          go_wp2
          go_end0
          exact ⟨rfl, by rw [← HQ.out]; exact K7.out⟩
      · have hcN3 : ¬ cN = q := by omega
        rcases Nat.eq_or_lt_of_le (show q ≤ cC by omega) with hcC2 | hcC2
        · subst hcC2
          obtain ⟨p0, p1, p2, p3⟩ := blk4 KB.out.X
          have hrN := clear0 apT_str (some ⟨gN, q, none⟩) (cN - q) wr
          have K5 := hide (show BxH w wr zb base gN cN gC q k G T (lfN h k ++ List.replicate (k - q) e0) R2 by have e := E1.out; have kk := KB.out; rw [show k - q = 0 by omega] at e ⊢; (try rw [show k - q = 0 by omega] at kk); rw [← e]; exact kk)
          go_upto_region 9 with fail
          clear p0 p1 p2 p3 hrN
          obtain ⟨p0, p1, p2, p3⟩ := blk4 K5.out.X
          have hrC := clear0 apT_int (some ⟨gC, 0, none⟩) 0 wr
          have K6 := hide (show BxH w wr zb base gN cN gC q k G T (lfN h k ++ List.replicate (k - q) e0) (lfC h k ++ List.replicate (k - q) 0) by have e := E2.out; have kk := K5.out; rw [show k - q = 0 by omega] at e ⊢; (try rw [show k - q = 0 by omega] at kk); rw [← e]; exact kk)
          go_upto_region 10 with fail
          clear p0 p1 p2 p3 hrC
          obtain ⟨p0, p1, p2, p3⟩ := blk4 K6.out.X
          obtain ⟨f0, f1, f2, f3⟩ := frz4 K6.out.X
          have K7 := hide (K6.out.setG (G + 1))
          go_wp2
          go_end0
          exact ⟨rfl, by rw [← HQ.out]; exact K7.out⟩
        · have hcC3 : ¬ cC = q := by omega
          obtain ⟨p0, p1, p2, p3⟩ := blk4 KB.out.X
          obtain ⟨w5, hw5⟩ : ∃ y, y = wr.setCells gN q (mapS (List.replicate (k - q) e0)) := ⟨_, rfl⟩
          have hrN : ∀ ty, (Builtin.clear_ #[22] ty #[.slice (some ⟨gN, q, none⟩) (k - q) (cN - q)]).run Try.prog wr = .ok (.tuple #[]) w5 := fun ty => by rw [hw5]; exact KB.out.clearN3 q hlf _ _ ty (fun _ => ⟨rfl, rfl⟩)
          have K5 := hide (show BxH w w5 zb base gN cN gC cC k G T (lfN h k ++ List.replicate (k - q) e0) R2 by rw [hw5, ← E1.out]; exact KB.out.setsN _ _)
          clear hw5
          go_upto_region 9 with fail
          clear p0 p1 p2 p3 hrN
          obtain ⟨p0, p1, p2, p3⟩ := blk4 K5.out.X
          obtain ⟨w6, hw6⟩ : ∃ y, y = w5.setCells gC q (ints (List.replicate (k - q) 0)) := ⟨_, rfl⟩
          have hrC : ∀ ty, (Builtin.clear_ #[23] ty #[.slice (some ⟨gC, q, none⟩) (k - q) (cC - q)]).run Try.prog w5 = .ok (.tuple #[]) w6 := fun ty => by rw [hw6]; exact K5.out.clearC3 q hlf _ _ ty (fun _ => ⟨rfl, rfl⟩)
          have K6 := hide (show BxH w w6 zb base gN cN gC cC k G T (lfN h k ++ List.replicate (k - q) e0) (lfC h k ++ List.replicate (k - q) 0) by rw [hw6, ← E2.out]; exact K5.out.setsC _ _)
          clear hw6
          go_upto_region 10 with fail
          clear p0 p1 p2 p3 hrC
          obtain ⟨p0, p1, p2, p3⟩ := blk4 K6.out.X
          obtain ⟨f0, f1, f2, f3⟩ := frz4 K6.out.X
          have K7 := hide (K6.out.setG (G + 1))
          go_wp2
          go_end0
          exact ⟨rfl, by rw [← HQ.out]; exact K7.out⟩
end Go.Proofs.Yticgejaaoamhmao.L15H

namespace Go.Proofs.Yticgejaaoamhmao.L15H
open Go.RowKit L1 Own Str
set_option linter.unusedVariables false

set_option maxRecDepth 100000 in
set_option maxHeartbeats 1000000 in
theorem cloneS_any (a : Option Addr) (l : List ByteArray) (n cap : Nat) (w : World) (hn : l.length = n) (h0 : 0 < n) (hm : n ≤ 1048576) (hs : SlS w a l) :
    Calls Try.prog 41 #[.slice a n cap] w fun e w' => ∃ a' c', e = .returned (.slice a' n c') ∧ w'.ownsRow w.heap.size 9 1 (.slice a' n c') n (mapS l) ∧ Below w.heap.size w w' := by
  obtain ⟨b, off, rfl, _⟩ := hs 0 (by omega)
  have hnil : ∀ w, (binOp .eql 22 (.slice (some ⟨b, off, none⟩) n cap) (.slice none 0 0)).run Try.prog w = .ok (.bool false) w := fun w => Lib.run_eql_slice_nil w _ _ _ _ _ _ _ Try.underlying22
  have E1 := hide ((Below.refl w.heap.size w).alloc (Nat.le_refl _) (.cells #[] 9))
  have HS := hide hs
  have HN := hide hn
  clear hs hn
  go_enter Try.func41, Try.ntmps41
  go_wp2_with (first
    | (at_builtin; refine wpList_append_H apT_str rfl _ _ rfl w.heap.size (.slice (some ⟨w.heap.size, 0, none⟩) 0 0) 0 [] rfl (own_emptyH w 9 _ (Nat.le_refl _)) (some ⟨b, off, none⟩) n cap rfl (mapS l) (by simp [mapS]; exact HN.out) (cellsS_H (HS.out.below E1.out) HN.out) (onesS_H _) (by omega) (by simp) ?_)
    | go_in)
  intro v3 w3 ho3 hg3 _
  have hb3 : Below w.heap.size w w3 := E1.out.grown hg3 (by simp) (fun q hq => by cases hq; exact Nat.le_refl _)
  try simp only [List.nil_append, Nat.zero_add] at ho3
  obtain ⟨a3, c3, rfl, _⟩ := own_capH ho3
  have O3 := hide ho3
  have B3 := hide hb3
  clear ho3 hg3 hb3
  go_wp2
  go_ret
  exact ⟨_, _, rfl, O3.out, B3.out⟩
set_option maxRecDepth 100000 in
set_option maxHeartbeats 1000000 in
theorem cloneI_any (a : Option Addr) (l : List Int) (n cap : Nat) (w : World) (hn : l.length = n) (h0 : 0 < n) (hm : n ≤ 1048576) (hs : Sl w a l) :
    Calls Try.prog 42 #[.slice a n cap] w fun e w' => ∃ a' c', e = .returned (.slice a' n c') ∧ w'.ownsRow w.heap.size 3 1 (.slice a' n c') n (ints l) ∧ Below w.heap.size w w' := by
  obtain ⟨b, off, rfl, _⟩ := hs 0 (by omega)
  have hnil : ∀ w, (binOp .eql 23 (.slice (some ⟨b, off, none⟩) n cap) (.slice none 0 0)).run Try.prog w = .ok (.bool false) w := fun w => Lib.run_eql_slice_nil w _ _ _ _ _ _ _ Try.underlying23
  have E1 := hide ((Below.refl w.heap.size w).alloc (Nat.le_refl _) (.cells #[] 3))
  have HS := hide hs
  have HN := hide hn
  clear hs hn
  go_enter Try.func42, Try.ntmps42
  go_wp2_with (first
    | (at_builtin; refine wpList_append_H apT_int rfl _ _ rfl w.heap.size (.slice (some ⟨w.heap.size, 0, none⟩) 0 0) 0 [] rfl (own_emptyH w 3 _ (Nat.le_refl _)) (some ⟨b, off, none⟩) n cap rfl (ints l) (by simp; exact HN.out) (cellsI_H (HS.out.below E1.out) HN.out) (onesI_H _) (by omega) (by simp) ?_)
    | go_in)
  intro v3 w3 ho3 hg3 _
  have hb3 : Below w.heap.size w w3 := E1.out.grown hg3 (by simp) (fun q hq => by cases hq; exact Nat.le_refl _)
  try simp only [List.nil_append, Nat.zero_add] at ho3
  obtain ⟨a3, c3, rfl, _⟩ := own_capH ho3
  have O3 := hide ho3
  have B3 := hide hb3
  clear ho3 hg3 hb3
  go_wp2
  go_ret
  exact ⟨_, _, rfl, O3.out, B3.out⟩
end Go.Proofs.Yticgejaaoamhmao.L15H
