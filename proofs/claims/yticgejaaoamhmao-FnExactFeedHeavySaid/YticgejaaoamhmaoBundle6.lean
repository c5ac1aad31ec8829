/-
  Contract: spec.FeedHeavy.
  Contract of the laws' own helper szStringS.
  Contract of the laws' own helper toStringS.
  Contract of the laws' own helper eqStringS: two lists alike are alike.
  A row of bytes as a text. Nothing of the program's text is proved here but closed facts on its types.
  Contract of the laws' own helper markText: the same text of a number each time.
  What markStringS writes.
  Contract of the laws' own helper markStringS.
-/
import Derived.Test.YticgejaaoamhmaoBundle4
import Derived.Test.YticgejaaoamhmaoBundle3
import Derived.Deep.DeepCutAuto
import Derived.Test.YticgejaaoamhmaoBundle1
import Derived.Deep.QuietTactic
import Derived.BigQuiet
namespace Go.Proofs.Yticgejaaoamhmao.L15H
open Go.RowKit L1 Own Str
set_option linter.unusedVariables false

set_option maxRecDepth 100000 in
set_option maxHeartbeats 8000000 in
theorem sFeedHeavy_any (x : Int) (a : Option Addr) (l : List ByteArray) (n c : Nat) (w : World) (hn : l.length = n) (hs : SlS w a l) (hn2 : n ≤ 1048576) (htx : ∀ i, i < l.length → (l.getD i e0).size ≤ 9223372036854775807) (ok : Bool) (L : Hv) (hr : IsFed x l ok L) :
    Calls Try.prog 19 #[.int .i64 x, .slice a n c] w fun e w' => ∃ v u, e = .returned (.tuple #[hvV v u L.g L.t, .bool ok]) ∧ RH w w' v u L := by
  obtain ⟨okn, hokn⟩ : ∃ b : Bool, b = true ↔ 1 ≤ x ∧ x ≤ 6 := ⟨decide (1 ≤ x ∧ x ≤ 6), by simp⟩
  obtain ⟨hN, hhN⟩ : ∃ h, h = newH x okn := ⟨_, rfl⟩
  have BX := (Below.refl w.heap.size w).alloc (Nat.le_refl _) (hvO (.slice none 0 0) (.slice none 0 0) 0 0)
  have g0 := L8.blk_new w (hvO (.slice none 0 0) (.slice none 0 0) 0 0)
  have ez : (w.alloc (hvO (.slice none 0 0) (.slice none 0 0) 0 0)).heap.size = w.heap.size + 1 := by simp
  obtain ⟨W0, hW0⟩ : ∃ W0, W0 = w.alloc (hvO (.slice none 0 0) (.slice none 0 0) 0 0) := ⟨_, rfl⟩
  rw [← hW0] at BX g0 ez
  have HW := hide hW0
  have BQ := hide BX
  have G0 := hide g0
  have EZ := hide ez
  have HS0 := hide (hs.below BX)
  have HN := hide hn
  have HTX := hide htx
  have CN := hide (specNewHeavy_any x W0 okn hokn hN hhN)
  have HR := hide hr
  have HHN := hide hhN
  have HOK := hide hokn
  clear BX g0 ez hW0 hs hn htx hr hhN hokn
  go_enter Try.func19, Try.ntmps19
  go_upto_region 1 with fail
  rw [← HW.out]
  go_wp2_with fail
  refine CN.out.mono ?_
  rintro e w1 ⟨v1, u1, rfl, hrh⟩
  obtain ⟨ho1, hb1⟩ := hrh
  obtain ⟨aN1, cN1, aC1, cC1, rfl, rfl, hf1⟩ := ho1.form
  have eA := (Below.refl w1.heap.size w1).alloc (Nat.le_refl _) (hvO (.slice aN1 hN.nm.length cN1) (.slice aC1 hN.ct.length cC1) hN.g hN.t)
  have X1 := hide (L8.blk_new w1 (hvO (.slice aN1 hN.nm.length cN1) (.slice aC1 hN.ct.length cC1) hN.g hN.t))
  have O1 := hide (ho1.below eA)
  have B1 := hide (hb1.trans (eA.mono hb1.size))
  have S1 := hide hb1.size
  clear ho1 hb1 hf1 eA
  go_upto_region 2 with fail
  obtain ⟨W1, hW1⟩ : ∃ W1, W1 = w1.alloc (hvO (.slice aN1 hN.nm.length cN1) (.slice aC1 hN.ct.length cC1) hN.g hN.t) := ⟨_, rfl⟩
  obtain ⟨zb, hzb⟩ : ∃ z, z = w1.heap.size := ⟨_, rfl⟩
  rw [← hW1] at X1 O1 B1
  rw [← hzb] at X1 S1
  rw [← hW1, ← hzb]
  clear hW1 hzb
  have B2 := hide (BQ.out.trans (B1.out.mono BQ.out.size))
  have Z2 := hide (blk_kept G0.out B1.out)
  cases hq : okn with
  | false =>
    have hf : ok = false := by
      cases hok : ok with
      | false => rfl
      | true => have h1 := (HR.out.iff.1 hok).1; have h2 := HOK.out.2 h1; rw [hq] at h2; cases h2
    subst hf
    have HL0 := hide (HR.out.no rfl)
    subst hq
    obtain ⟨y0, y1, y2, y3⟩ := blk4 Z2.out
    obtain ⟨f0, f1, f2, f3⟩ := frz4 Z2.out
    have R9 := hide (set4 (a' := (.slice none 0 0)) (b' := (.slice none 0 0)) (c' := .int .i64 0) (d' := .int .i64 0) Z2.out)
    have B9 := hide (below4 B2.out w.heap.size (Nat.le_refl _) (.slice none 0 0) (.slice none 0 0) (.int .i64 0) (.int .i64 0))
    go_wp2
    clear y0 y1 y2 y3 f0 f1 f2 f3
    obtain ⟨d0, d1, d2, d3⟩ := blk4 R9.out
    refine bodyPost_ret (v := .tuple #[hvV (.slice none 0 0) (.slice none 0 0) 0 0, .bool false]) (by simp [results, Try.f19, go_sem, d0, d1, d2, d3]) rfl ⟨_, _, by rw [HL0.out]; rfl, ?_⟩
    rw [HL0.out]
    exact rh_nil B9.out
  | true =>
  have hx := HOK.out.1 hq
  subst hq
  by_cases h200 : (200 : Int) < (n : Int)
  · have hf : ok = false := by
      cases hok : ok with
      | false => rfl
      | true => have h1 := (HR.out.iff.1 hok).2.1; rw [HN.out] at h1; omega
    subst hf
    have HL0 := hide (HR.out.no rfl)
    obtain ⟨y0, y1, y2, y3⟩ := blk4 Z2.out
    obtain ⟨f0, f1, f2, f3⟩ := frz4 Z2.out
    have R9 := hide (set4 (a' := (.slice none 0 0)) (b' := (.slice none 0 0)) (c' := .int .i64 0) (d' := .int .i64 0) Z2.out)
    have B9 := hide (below4 B2.out w.heap.size (Nat.le_refl _) (.slice none 0 0) (.slice none 0 0) (.int .i64 0) (.int .i64 0))
    go_wp2
    clear y0 y1 y2 y3 f0 f1 f2 f3
    obtain ⟨d0, d1, d2, d3⟩ := blk4 R9.out
    refine bodyPost_ret (v := .tuple #[hvV (.slice none 0 0) (.slice none 0 0) 0 0, .bool false]) (by simp [results, Try.f19, go_sem, d0, d1, d2, d3]) rfl ⟨_, _, by rw [HL0.out]; rfl, ?_⟩
    rw [HL0.out]
    exact rh_nil B9.out
  obtain ⟨m, hm⟩ : ∃ m, m = x.toNat := ⟨_, rfl⟩
  have hm1 : 1 ≤ m ∧ m ≤ 6 := by omega
  have HM := hide hm
  have HE : Hid (hN = ⟨List.replicate m e0, List.replicate m 0, 0, 0⟩) := hide (by rw [HHN.out, hm]; rfl)
  have hl1 : hN.nm.length = m := by rw [HE.out]; simp
  have hl2 : hN.ct.length = m := by rw [HE.out]; simp
  rw [hl1, hl2] at X1 O1
  have hzlt := (Array.getElem?_eq_some_iff.1 X1.out).1
  have BZ := hide (show W0.heap.size ≤ zb from S1.out)
  have HF0 : Hid (Fed m l 0 hN) := hide (by rw [HE.out]; exact Fed.zero)
  have RL : Hid (∃ (aN aC : Option Addr) (cN cC : Nat), W1.heap[zb]? = some (hvO (.slice aN m cN) (.slice aC m cC) hN.g hN.t) ∧ OwH W1 W0.heap.size (.slice aN m cN) (.slice aC m cC) m m hN) := hide ⟨_, _, _, _, X1.out, O1.out⟩
  clear hm hl1 hl2 X1 O1 S1 hzlt
  go_upto_region 5 with fail
  go_loopw [25] (fun i wr => ∃ (k : Nat) (h : Hv), k ≤ n ∧ i = .int .i64 (k : Int) ∧ Hid (Fed m l k h) ∧ Hid (∃ (aN aC : Option Addr) (cN cC : Nat), wr.heap[zb]? = some (hvO (.slice aN m cN) (.slice aC m cC) h.g h.t) ∧ OwH wr W0.heap.size (.slice aN m cN) (.slice aC m cC) m m h) ∧ Hid (Below W0.heap.size W0 wr)) (fun i _ => n - (intOf i).toNat)
  case atStart => exact ⟨0, hN, Nat.zero_le _, rfl, HF0, RL, B1⟩
  case round =>
    clear RL HF0 B1 B2 Z2
    obtain ⟨k, h, hk, rfl, HFD, HB, BW⟩ := hrel
    obtain ⟨aN, aC, cN, cC, hx6, ho⟩ := HB.out
    have X := hide hx6
    have O := hide ho
    clear HB hx6 ho
    have hgd := HFD.out.good hm1.1 hm1.2 (by omega)
    have HG := hide hgd
    have hzl := (Array.getElem?_eq_some_iff.1 X.out).1
    have hbw := BW.out.size
    clear hgd
    by_cases hlt : k < n
    · have hltI : (k : Int) < (n : Int) := by omega
      obtain ⟨b, off, rfl, hc0⟩ := HS0.out k (by rw [HN.out]; exact hlt)
      have hc := (BW.out.cell (p := ⟨b, off + k, none⟩) (blk_lt hc0)).trans hc0
      obtain ⟨s, hse⟩ : ∃ s, s = l.getD k e0 := ⟨_, rfl⟩
      have hsz : s.size ≤ 9223372036854775807 := by rw [hse]; exact HTX.out k (by rw [HN.out]; exact hlt)
      rw [← hse] at hc
      have HSE := hide hse
      clear hse hc0
      obtain ⟨bw, hbwd⟩ := dec_exH (L3.Word false s)
      have CW := hide (fun wx => L3.l3Name_any s false wx hsz bw hbwd)
      have HBW := hide hbwd
      clear hbwd
      cases hq3 : bw with
      | true =>
        have hwd := HBW.out.1 hq3
        subst hq3
        obtain ⟨tk, hk2⟩ := tk_ex h.nm m
        obtain ⟨p, hp⟩ := at_ex s tk (HG.out.1.rise hk2)
        obtain ⟨L2, e2⟩ : ∃ h', h' = addH h m tk p s := ⟨_, rfl⟩
        have CA := hide (fun wx (ho : OwH wx W0.heap.size (.slice aN m cN) (.slice aC m cC) m m h) hbs => l15Add_anyO W0.heap.size aN m cN aC cC h.g h.t h s tk p wx ho hbs rfl rfl HG.out.1 hk2 hp (word_ne hwd) (by rw [HG.out.2.2.2]; omega) L2 e2)
        have HF2 : Hid (Fed m l (k + 1) L2) := hide (by rw [e2, HSE.out]; exact Fed.step HFD.out (by rw [← HSE.out]; exact hwd) hk2 (by rw [← HSE.out]; exact hp))
        clear e2 hk2 hp
        go_wp2_with fail
        refine (CW.out _).mono ?_
        rintro e w2 ⟨rfl, hw2⟩
        obtain rfl := hw2.symm
        obtain ⟨k0, k1, k2, k3⟩ := blk4 X.out
        go_wp2_with fail
        refine (CA.out _ O.out hbw).mono ?_
        rintro e w3 ⟨v3, u3, rfl, ho3, hb3, hkp⟩
        have X3 := hide ((hkp zb hzl (fun e => own_boxneH O.out.oN X.out hv_str zb e rfl) (fun e => own_boxneH O.out.oC X.out hv_int zb e rfl)).trans X.out)
        have B3 := hide (BW.out.trans hb3)
        have O3 := hide ho3
        obtain ⟨aN3, cN3, aC3, cC3, rfl, rfl, _⟩ := ho3.form
        clear ho3 hb3 k0 k1 k2 k3 hkp
        obtain ⟨y0, y1, y2, y3⟩ := blk4 X3.out
        obtain ⟨f0, f1, f2, f3⟩ := frz4 X3.out
        have R4 := hide (set4 (a' := (.slice aN3 m cN3)) (b' := (.slice aC3 m cC3)) (c' := .int .i64 L2.g) (d' := .int .i64 L2.t) X3.out)
        have B4 := hide (below4 B3.out zb BZ.out (.slice aN3 m cN3) (.slice aC3 m cC3) (.int .i64 L2.g) (.int .i64 L2.t))
        have O4 := hide (show OwH ((((w3.setCell ⟨zb, 0, none⟩ (.slice aN3 m cN3)).setCell ⟨zb, 1, none⟩ (.slice aC3 m cC3)).setCell ⟨zb, 2, none⟩ (.int .i64 L2.g)).setCell ⟨zb, 3, none⟩ (.int .i64 L2.t)) W0.heap.size (.slice aN3 m cN3) (.slice aC3 m cC3) m m L2 from ⟨own_put4 O3.out.oN zb (own_boxneH O3.out.oN X3.out hv_str) _ _ _ _, own_put4 O3.out.oC zb (own_boxneH O3.out.oC X3.out hv_int) _ _ _ _⟩)
        have HB2 : Hid (∃ (aN aC : Option Addr) (cN cC : Nat), ((((w3.setCell ⟨zb, 0, none⟩ (.slice aN3 m cN3)).setCell ⟨zb, 1, none⟩ (.slice aC3 m cC3)).setCell ⟨zb, 2, none⟩ (.int .i64 L2.g)).setCell ⟨zb, 3, none⟩ (.int .i64 L2.t)).heap[zb]? = some (hvO (.slice aN m cN) (.slice aC m cC) L2.g L2.t) ∧ OwH ((((w3.setCell ⟨zb, 0, none⟩ (.slice aN3 m cN3)).setCell ⟨zb, 1, none⟩ (.slice aC3 m cC3)).setCell ⟨zb, 2, none⟩ (.int .i64 L2.g)).setCell ⟨zb, 3, none⟩ (.int .i64 L2.t)) W0.heap.size (.slice aN m cN) (.slice aC m cC) m m L2) := hide ⟨_, _, _, _, R4.out, O4.out⟩
        clear hwd
        go_wp2
        go_roundw
        case rel => exact ⟨k + 1, L2, by omega, by go_num, HF2, HB2, B4⟩
        case measure => simp [intOf]; omega
      | false =>
        have hwd : ¬ L3.Word false s := fun q => by have := HBW.out.2 q; rw [hq3] at this; cases this
        subst hq3
        have Z4 := hide (blk_kept G0.out BW.out)
        have BB4 := hide (BQ.out.trans (BW.out.mono BQ.out.size))
        go_wp2_with fail
        refine (CW.out _).mono ?_
        rintro e w2 ⟨rfl, hw2⟩
        obtain rfl := hw2.symm
        have hf : ok = false := by
          cases hok : ok with
          | false => rfl
          | true => exact absurd (by have := (HR.out.iff.1 hok).2.2 k (by rw [HN.out]; exact hlt); rw [← HSE.out] at this; exact this) hwd
        subst hf
        have HL0 := hide (HR.out.no rfl)
        obtain ⟨y0, y1, y2, y3⟩ := blk4 Z4.out
        obtain ⟨f0, f1, f2, f3⟩ := frz4 Z4.out
        have R9 := hide (set4 (a' := (.slice none 0 0)) (b' := (.slice none 0 0)) (c' := .int .i64 0) (d' := .int .i64 0) Z4.out)
        have B9 := hide (below4 BB4.out w.heap.size (Nat.le_refl _) (.slice none 0 0) (.slice none 0 0) (.int .i64 0) (.int .i64 0))
        go_wp2
        clear y0 y1 y2 y3 f0 f1 f2 f3
        obtain ⟨d0, d1, d2, d3⟩ := blk4 R9.out
        refine bodyPost_ret (v := .tuple #[hvV (.slice none 0 0) (.slice none 0 0) 0 0, .bool false]) (by simp [results, Try.f19, go_sem, d0, d1, d2, d3]) rfl ⟨_, _, by rw [HL0.out]; rfl, ?_⟩
        rw [HL0.out]
        exact rh_nil B9.out
    · have hltI : ¬ (k : Int) < (n : Int) := by omega
      obtain rfl : k = n := by omega
      have hall : ok = true := by
        refine HR.out.iff.2 ⟨hx, by rw [HN.out]; omega, fun i hi => ?_⟩
        exact fed_words HFD.out i (by rw [← HN.out]; exact hi)
      subst hall
      have HLE := hide (show h = L from HFD.out.det (by have := HR.out.yes rfl; rw [HN.out, ← HM.out] at this; exact this))
      have Z4 := hide (blk_kept G0.out BW.out)
      have BB4 := hide (BQ.out.trans (BW.out.mono BQ.out.size))
      obtain ⟨k0, k1, k2, k3⟩ := blk4 X.out
      obtain ⟨y0, y1, y2, y3⟩ := blk4 Z4.out
      obtain ⟨f0, f1, f2, f3⟩ := frz4 Z4.out
      have R9 := hide (set4 (a' := (.slice aN m cN)) (b' := (.slice aC m cC)) (c' := .int .i64 h.g) (d' := .int .i64 h.t) Z4.out)
      have B9 := hide (below4 BB4.out w.heap.size (Nat.le_refl _) (.slice aN m cN) (.slice aC m cC) (.int .i64 h.g) (.int .i64 h.t))
      have O9 := hide (O.out.setC4 w.heap.size (by have := EZ.out; omega) (.slice aN m cN) (.slice aC m cC) (.int .i64 h.g) (.int .i64 h.t))
      have SE := hide (show w.heap.size ≤ W0.heap.size by have := EZ.out; omega)
      go_wp2
      clear y0 y1 y2 y3 f0 f1 f2 f3 k0 k1 k2 k3
      obtain ⟨d0, d1, d2, d3⟩ := blk4 R9.out
      refine bodyPost_ret (v := .tuple #[hvV (.slice aN m cN) (.slice aC m cC) h.g h.t, .bool true]) (by simp [results, Try.f19, go_sem, d0, d1, d2, d3]) rfl ⟨_, _, by rw [← HLE.out], ?_, B9.out⟩
      rw [← HLE.out, HG.out.2.1, HG.out.2.2.1]
      exact O9.out.toBase SE.out
end Go.Proofs.Yticgejaaoamhmao.L15H

namespace Go.Proofs.Yticgejaaoamhmao.Str
open Go.RowKit L1
set_option linter.unusedVariables false

set_option maxRecDepth 100000 in
set_option maxHeartbeats 1000000 in
theorem szStringS_any (a : Option Addr) (l : List ByteArray) (n cap : Nat) (L : Int) (w : World) (hn : l.length = n) (hm : n ≤ 9223372036854775807) (hs : SlS w a l) (hst : TxS l) (h0 : 0 ≤ L) (h1 : L ≤ 1048576) (r : Int) (hr : r = if (wtS l : Int) ≤ L then L - (wtS l : Int) else -1) :
    Calls Try.prog 18 #[.slice a n cap, .int .i64 L] w fun e w' => e = .returned (.int .i64 r) ∧ Below w.heap.size w w' := by
  have HR := hide hr
  have HS := hide hs
  have HN := hide hn
  have HST := hide hst
  clear hr hs hn hst
  have HW : Hid (wtS l = n + szsS l) := by show wtS l = n + szsS l; unfold wtS; rw [HN.out]
  by_cases ha : L - (n : Int) < 0
  · go_enter Try.func18, Try.ntmps18
    go_wp2
    go_ret
    exact ⟨by rw [HR.out, HW.out, if_neg (by omega)]; rfl, Below.refl _ _⟩
  · go_enter Try.func18, Try.ntmps18
    go_wp2
    go_loopw [1, 5] (fun t i wr => ∃ k : Nat, k ≤ n ∧ i = .int .i64 k ∧ t = .int .i64 (L - (n : Int) - (szsS (l.take k) : Int)) ∧ Hid ((szsS (l.take k) : Int) ≤ L - (n : Int)) ∧ Below w.heap.size w wr) (fun _ i _ => n - (intOf i).toNat)
    case atStart => exact ⟨0, Nat.zero_le _, rfl, by simp [szsS], by show (szsS (l.take 0) : Int) ≤ L - (n : Int); simp [szsS]; omega, Below.refl _ _⟩
    case round =>
      obtain ⟨k, hk, rfl, rfl, HK, hbel⟩ := hrel
      by_cases hlt : k < n
      · obtain ⟨b, off, rfl, hc0⟩ := HS.out k (by rw [HN.out]; exact hlt)
        have hc := (hbel.cell (p := ⟨b, off + k, none⟩) (blk_lt hc0)).trans hc0
        have hltI : (k : Int) < (n : Int) := by omega
        have hsx := HST.out k (by rw [HN.out]; exact hlt)
        have htk := szsS_take l k (by rw [HN.out]; exact hlt)
        have hle := szsS_le l (k + 1)
        obtain ⟨y, hy⟩ : ∃ y, y = l.getD k e0 := ⟨_, rfl⟩
        rw [← hy] at hc hsx htk
        obtain ⟨c, hcc⟩ : ∃ c, c = L - (n : Int) - (szsS (l.take k) : Int) := ⟨_, rfl⟩
        have hc0 : 0 ≤ c := by have := HK.out; omega
        have hc1 : c ≤ 1048576 := by omega
        rw [← hcc]
        have HC := hide hcc
        have HTK := hide htk
        have HLE := hide hle
        have B0 := hide hbel
        clear hy hcc htk hle hbel
        by_cases hfit : (y.size : Int) ≤ c
        · have hd0 : ¬ c - (y.size : Int) < 0 := by omega
          go_wp2
          go_roundw
          case rel => exact ⟨k + 1, by omega, by go_num, by rw [HC.out, HTK.out]; go_num, by show (szsS (l.take (k + 1)) : Int) ≤ L - (n : Int); have := HC.out; have := HTK.out; omega, B0.out⟩
          case measure => simp [intOf]; omega
        · have hd0 : c - (y.size : Int) < 0 := by omega
          have E : Hid (r = -1) := by show r = -1; have := HC.out; have := HTK.out; have := HLE.out; rw [HR.out, HW.out, if_neg (by omega)]
          go_wp2
          go_ret
          exact ⟨by rw [E.out]; rfl, B0.out⟩
      · obtain rfl : k = n := by omega
        have hltI : ¬ (k : Int) < (k : Int) := by omega
        have e1 : l.take k = l := List.take_of_length_le (by rw [HN.out]; exact Nat.le_refl _)
        rw [e1] at HK ⊢
        have E : Hid (r = L - (k : Int) - (szsS l : Int)) := by show r = _; have := HK.out; rw [HR.out, HW.out, if_pos (by omega)]; omega
        clear e1
        go_wp2
        go_ret
        exact ⟨by rw [E.out]; rfl, hbel⟩
end Go.Proofs.Yticgejaaoamhmao.Str

namespace Go.Proofs.Yticgejaaoamhmao.Str
open Go.RowKit L1
set_option linter.unusedVariables false

/-- One round of the copy. -/
theorem copy_roundS {w wr : World} {xs ys : List ByteArray} {m k : Nat} {y : ByteArray} (hx : xs.getD k e0 = y) (hlt : k < m) (hm : xs.length = m) (hl : ys.length = m) (HX : ∀ j, j < k → ys.getD j e0 = xs.getD j e0)
    (hown : wr.ownsRow w.heap.size 9 1 (.slice (some ⟨w.heap.size, 0, none⟩) m m) m (mapS ys)) (hb : Below w.heap.size w wr) :
    ∃ (k' : Nat) (ys' : List ByteArray), k' ≤ m ∧ Value.int .i64 ((k : Int) + 1) = .int .i64 k' ∧ ys'.length = m ∧ Hid (∀ j, j < k' → ys'.getD j e0 = xs.getD j e0) ∧
      (wr.setCell ⟨w.heap.size, k, none⟩ (.string y)).ownsRow w.heap.size 9 1 (.slice (some ⟨w.heap.size, 0, none⟩) m m) m (mapS ys') ∧ Below w.heap.size w (wr.setCell ⟨w.heap.size, k, none⟩ (.string y)) := by
  have hst := hown.stored k (.string y)
  have hb2 := hb.setCell (p := ⟨w.heap.size, k, none⟩) (Nat.le_refl _) (.string y)
  refine ⟨k + 1, ys.set k y, by omega, by simp, by simpa using hl, ?_, by rw [mapS_set]; exact hst.1, hb2⟩
  intro j hj
  by_cases e : j = k
  · subst e
    rw [hx]
    simp [List.getD, hl, hlt]
  · rw [← HX j (by omega)]
    simp [List.getD, Ne.symm e]

set_option maxRecDepth 100000 in
set_option maxHeartbeats 1000000 in
theorem toStringS_any (a : Option Addr) (xs : List ByteArray) (n cap : Nat) (w : World) (hn : xs.length = n) (hs : SlS w a xs) (hn2 : n ≤ 1048576) :
    Calls Try.prog 20 #[.slice a n cap] w fun e w' => e = .returned (.slice (some ⟨w.heap.size, 0, none⟩) n n) ∧
      w'.ownsRow w.heap.size 9 1 (.slice (some ⟨w.heap.size, 0, none⟩) n n) n (mapS xs) ∧ Below w.heap.size w w' := by
  obtain ⟨i0, hi, hz0, hz1, hz2⟩ := info_parts info_strS
  obtain ⟨w1, hmk, hown1, hg1⟩ := run_make_full (P := Try.prog) w w.heap.size 22 9 i0 (.string ByteArray.empty) 1 Try.underlying22 hi hz0 hz1 .i64 .i64 n (by rw [hz2]; omega) (by unfold maxLen; omega) (Nat.le_refl _)
  rw [made_S] at hown1
  have hb1 : Below w.heap.size w w1 := (Below.refl _ _).grown hg1 (Nat.le_refl _) (fun k hk => by cases hk)
  have HO := hide hown1
  have HS := hide hs
  have HN := hide hn
  clear hown1 hg1 hs hn
  go_enter Try.func20, Try.ntmps20
  go_wp2
  go_loopw [4] (fun i wr => ∃ (k : Nat) (ys : List ByteArray), k ≤ n ∧ i = .int .i64 k ∧ ys.length = n ∧ Hid (∀ j, j < k → ys.getD j e0 = xs.getD j e0) ∧
      wr.ownsRow w.heap.size 9 1 (.slice (some ⟨w.heap.size, 0, none⟩) n n) n (mapS ys) ∧ Below w.heap.size w wr) (fun i _ => n - (intOf i).toNat)
  case atStart => exact ⟨0, List.replicate n e0, Nat.zero_le _, rfl, by simp, fun j hj => absurd hj (Nat.not_lt_zero _), HO, hb1⟩
  case round =>
    obtain ⟨k, ys, hk, rfl, hyl, HX, hown, hbel⟩ := hrel
    have HL := hide hyl
    clear hyl
    by_cases hlt : k < n
    · obtain ⟨b, off, rfl, hc0⟩ := HS.out k (by rw [HN.out]; exact hlt)
      have hc := (hbel.cell (p := ⟨b, off + k, none⟩) (blk_lt hc0)).trans hc0
      have hltI : (k : Int) < (n : Int) := by omega
      obtain ⟨y, hy⟩ : ∃ y, y = xs.getD k e0 := ⟨_, rfl⟩
      rw [← hy] at hc
      have HXY := hide hy.symm
      have hl0 : k < (mapS ys).length := by rw [mapS_len, HL.out]; omega
      have hcl := hown.cellAt k (by have := HL.out; omega)
      have hfr := hown.frozenAt k
      obtain ⟨v, hv⟩ : ∃ v, wr.cell? ⟨w.heap.size, k, none⟩ = some v := ⟨_, hcl.trans (List.getElem?_eq_getElem hl0)⟩
      have R := hide (copy_roundS HXY.out hlt HN.out HL.out HX.out hown hbel)
      clear hcl hl0 hown hbel hc0 hy
      go_wp2
      go_roundw
      case rel => exact R.out
      case measure => simp [intOf]; omega
    · have e : ys = xs := list_sameS HN.out HL.out (fun j hj => HX.out j (by omega))
      subst e
      have hltI : ¬ (k : Int) < (n : Int) := by omega
      go_wp2
      go_ret
      exact ⟨rfl, hown, hbel⟩
end Go.Proofs.Yticgejaaoamhmao.Str

namespace Go.Proofs.Yticgejaaoamhmao.Str
open Go.RowKit L1
set_option linter.unusedVariables false

theorem below_drewNS {N : Nat} {w w' : World} (h : Below N w w') : ∀ q, Below N w (w'.drewN q)
  | 0 => h
  | q + 1 => (below_drewNS h q).drew
set_option maxRecDepth 100000 in
set_option maxHeartbeats 2000000 in
theorem eqStringS_same (a b : Option Addr) (xs : List ByteArray) (n c1 c2 : Nat) (w : World) (hn : xs.length = n) (ha : SlS w a xs) (hb : SlS w b xs) (hn2 : n ≤ 1048576) :
    Calls Try.prog 22 #[.slice a n c1, .slice b n c2] w fun e w' => e = .returned (.bool true) ∧ Below w.heap.size w w' := by
  have HA := hide ha
  have HB := hide hb
  have HN := hide hn
  clear ha hb hn
  go_enter Try.func22, Try.ntmps22
  go_wp2
  go_loopw [5] (fun i wr => ∃ k : Nat, k ≤ n ∧ i = .int .i64 k ∧ Below w.heap.size w wr) (fun i _ => n - (intOf i).toNat)
  case atStart => exact ⟨0, Nat.zero_le _, rfl, Below.refl _ _⟩
  case round =>
    obtain ⟨k, hk, rfl, hbel⟩ := hrel
    by_cases hlt : k < n
    · obtain ⟨b1, o1, rfl, h1⟩ := HA.out k (by rw [HN.out]; exact hlt)
      obtain ⟨b2, o2, rfl, h2⟩ := HB.out k (by rw [HN.out]; exact hlt)
      have g1 := (hbel.cell (p := ⟨b1, o1 + k, none⟩) (blk_lt h1)).trans h1
      have g2 := (hbel.cell (p := ⟨b2, o2 + k, none⟩) (blk_lt h2)).trans h2
      obtain ⟨x, hx⟩ : ∃ x, x = xs.getD k e0 := ⟨_, rfl⟩
      rw [← hx] at g1 g2
      have hxx : (x.toList == x.toList) = true := by simp
      have hltI : (k : Int) < (n : Int) := by omega
      clear h1 h2 hx
      go_wp2
      go_quiet (fail)
      go_wp2
      go_roundw
      case rel => exact ⟨k + 1, by omega, by go_num, below_drewNS hbel _⟩
      case measure => simp [intOf]; omega
    · have hltI : ¬ (k : Int) < (n : Int) := by omega
      go_wp2
      go_ret
      exact ⟨rfl, hbel⟩
end Go.Proofs.Yticgejaaoamhmao.Str

namespace Go.Proofs.Yticgejaaoamhmao.L1
open Go.RowKit
set_option linter.unusedVariables false

theorem info_u8 : (Try.prog.info? 5).map (fun i => (i.zero, i.size, i.bytes)) = some (some (.int .u8 0), 1, 1) := by kernel_rfl

/-- A row of bytes that a call owns, as a text. -/
theorem conv_own {w : World} {base : Nat} {v : Value} {n : Nat} {l : List Int} (hown : w.ownsRow base 5 1 v n (l.map (Value.int .u8))) (hn : 0 < n) :
    (convert 84 9 v).run Try.prog w = .ok (.string (strOfNums l)) w := by
  have hlen := hown.1
  rcases hown.2 with ⟨_, h0⟩ | ⟨g, cap, cur, rfl, hb, hg, hle, hm, hs, ht⟩
  · omega
  · simp at hlen
    exact run_convert_bytes_arg w 84 5 Try.underlying84 Try.underlying5 g 0 n cap l hlen (fun i hi => by
      have := hown.cells (g := g) rfl i (.int .u8 (l.getD i 0)) (by
        rw [List.getElem?_map, List.getElem?_eq_getElem (by omega)]
        simp [List.getD, List.getElem?_eq_getElem (show i < l.length by omega)])
      rw [addr_add] at this
      simpa using this) 9 Try.underlying9
end Go.Proofs.Yticgejaaoamhmao.L1

namespace Go.Proofs.Yticgejaaoamhmao.L3
open Go.RowKit L1
set_option linter.unusedVariables false

/-- A number's digits. -/
def dgN (k : Nat) : List Int := if h : k = 0 then [] else dgN (k / 10) ++ [48 + ((k % 10 : Nat) : Int)]
termination_by k
decreasing_by omega
theorem dgN_zero : dgN 0 = [] := by rw [dgN]; simp
theorem dgN_succ (k : Nat) (h : k ≠ 0) : dgN k = dgN (k / 10) ++ [48 + ((k % 10 : Nat) : Int)] := by
  conv => lhs; rw [dgN]
  rw [dif_neg h]
theorem dgN_len (k : Nat) : (dgN k).length ≤ k := by
  induction k using Nat.strongRecOn with
  | _ k ih =>
    by_cases h : k = 0
    · rw [h, dgN_zero]; simp
    · rw [dgN_succ k h]
      have := ih (k / 10) (by omega)
      simp only [List.length_append, List.length_cons, List.length_nil]
      omega
theorem str_app (l m : List Int) : strOfNums (l ++ m) = strOfNums l ++ strOfNums m := by
  apply ByteArray.ext
  apply Array.toList_inj.1
  show _ = (ByteArray.append (strOfNums l) (strOfNums m)).data.toList
  simp [strOfNums, ByteArray.append]
theorem str_size (l : List Int) : (strOfNums l).size = l.length := by
  show (strOfNums l).data.size = _
  simp [strOfNums]
/-- The text that marks a number. -/
def mkT (k : Int) : ByteArray := if k ≤ 0 then ⟨#[109, 48]⟩ else strOfNums (109 :: dgN k.toNat)

set_option maxRecDepth 100000 in
set_option maxHeartbeats 1000000 in
theorem markText_any (k : Int) (w : World) (h0 : 0 < k) (h1 : k ≤ 4294967296) :
    Calls Try.prog 53 #[.int .i64 k] w fun e w' => e = .returned (.string (mkT k)) ∧ Below w.heap.size w w' := by
  obtain ⟨n, rfl⟩ : ∃ n : Nat, k = (n : Int) := ⟨k.toNat, by omega⟩
  have hk : ¬ (n : Int) ≤ 0 := by omega
  have HT : Hid (mkT (n : Int) = strOfNums [109] ++ strOfNums (dgN n)) := by
    show mkT (n : Int) = _
    unfold mkT
    rw [if_neg hk, ← str_app]
    simp
  have HL := hide (dgN_len n)
  go_enter Try.func53, Try.ntmps53
  go_wp2
  go_loopw [0, 3] (fun kv o wr => ∃ (j : Nat) (L : List Int), j ≤ n ∧ kv = .int .i64 j ∧ o = .string (strOfNums L) ∧ Hid (dgN j ++ L = dgN n) ∧ Below w.heap.size w wr) (fun kv _ _ => (intOf kv).toNat)
  case atStart => exact ⟨n, [], Nat.le_refl _, rfl, rfl, by show dgN n ++ [] = dgN n; simp, Below.refl _ _⟩
  case round =>
    obtain ⟨j, L, hj, rfl, rfl, HD, hbel⟩ := hrel
    have hLs : L.length ≤ n := by
      have := congrArg List.length HD.out
      have h2 := HL.out
      rw [List.length_append] at this
      omega
    have hsz := str_size L
    have happ := fun d => str_app [d] L
    obtain ⟨A, hA⟩ : ∃ A, A = strOfNums L := ⟨_, rfl⟩
    rw [← hA] at hsz ⊢
    simp only [← hA] at happ
    have hA8 : (A.size : Int) ≤ 4294967296 := by omega
    have HA := hide hA
    have HAPP := hide happ
    clear hsz hA happ
    by_cases hj0 : 0 < (j : Int)
    · have hd : Int.tmod (j : Int) 10 = ((j % 10 : Nat) : Int) := by rw [Int.tmod_eq_emod_of_nonneg (by omega)]; omega
      have hq : Int.tdiv (j : Int) 10 = ((j / 10 : Nat) : Int) := by rw [Int.tdiv_eq_ediv_of_nonneg (by omega)]; omega
      have hst := dgN_succ j (by omega)
      have hd9 : j % 10 < 10 := Nat.mod_lt _ (by omega)
      have hjq : j / 10 < j := by omega
      obtain ⟨d, hde⟩ : ∃ d, d = j % 10 := ⟨_, rfl⟩
      obtain ⟨q, hqe⟩ : ∃ q, q = j / 10 := ⟨_, rfl⟩
      rw [← hde] at hd hst hd9
      rw [← hqe] at hq hst hjq
      have hcv : (convert 84 9 (.slice (some ⟨wr.heap.size, 0, none⟩) 1 1)).run Try.prog (wr.alloc (.cells #[.int .u8 (48 + (d : Int))] 5)) = .ok (.string (strOfNums [48 + (d : Int)])) (wr.alloc (.cells #[.int .u8 (48 + (d : Int))] 5)) :=
        run_convert_bytes_arg _ 84 5 Try.underlying84 Try.underlying5 wr.heap.size 0 1 1 [48 + (d : Int)] rfl (fun i hi => by
          obtain rfl : i = 0 := by omega
          simp) 9 Try.underlying9
      have hw8 : IntKind.u8.wrap (48 + (d : Int)) = 48 + (d : Int) := by
        simp only [IntKind.wrap, IntKind.bits, IntKind.signed]
        simp
        omega
      obtain ⟨D, hD⟩ : ∃ D, D = strOfNums [48 + (d : Int)] := ⟨_, rfl⟩
      have hDs : (D.size : Int) ≤ 8 := by rw [hD, str_size]; simp
      rw [← hD] at hcv
      have R : Hid (D ++ A = strOfNums ((48 + (d : Int)) :: L)) := by show D ++ A = _; rw [hD, ← HAPP.out]; rfl
      have R2 : Hid (dgN q ++ ((48 + (d : Int)) :: L) = dgN n) := by show _ = _; rw [← HD.out, hst]; simp
      have B0 := hide hbel
      clear hde hqe hD hst hbel
      go_wp2
      go_roundw
      case rel => exact ⟨q, (48 + (d : Int)) :: L, by omega, by go_num, by rw [R.out], R2.out, B0.out.alloc B0.out.size _⟩
      case measure => simp [intOf]; omega
    · obtain rfl : j = 0 := by omega
      have e : L = dgN n := by have := HD.out; rw [dgN_zero] at this; simpa using this
      have HE : Hid (mkT (n : Int) = ⟨#[109]⟩ ++ A) := by show mkT (n : Int) = _; rw [HT.out, HA.out, e]; rfl
      have B0 := hide hbel
      clear e hbel
      go_wp2
      go_ret
      exact ⟨by rw [HE.out]; rfl, B0.out⟩
end Go.Proofs.Yticgejaaoamhmao.L3

namespace Go.Proofs.Yticgejaaoamhmao.Str
open Go.RowKit L1 L3
set_option linter.unusedVariables false

def mkS (c : Int) (n : Nat) : List ByteArray := (List.range n).map fun i : Nat => mkT (c + (i : Int))
theorem mkS_len (c : Int) (n : Nat) : (mkS c n).length = n := by simp [mkS]
theorem mkS_get (c : Int) (n j : Nat) (h : j < n) : (mkS c n).getD j e0 = mkT (c + (j : Int)) := by
  simp [mkS, List.getD, h]
theorem grown_belowS {w w' : World} (h : Below w.heap.size w w') (row : Option Nat) : w.grownBy w' row := ⟨h.os, h.tape, h.output, h.size, fun k hk _ => h.block k hk⟩
theorem blk_ltS {w : World} {p : Addr} {v : Value} (h : w.cell? p = some v) : p.block < w.heap.size := by
  by_cases hb : p.block < w.heap.size
  · exact hb
  · simp [World.cell?, Array.getElem?_eq_none (show w.heap.size ≤ p.block by omega)] at h
theorem keep1S {wa wb W : World} {N : Nat} {p : Addr} {v : Value} (h : wa.cell? p = some v ∧ Below N W wa) (hb : Below wa.heap.size wa wb) (hN : N ≤ W.heap.size) : wb.cell? p = some v ∧ Below N W wb :=
  ⟨(hb.cell (blk_ltS h.1)).trans h.1, h.2.trans (hb.mono (Nat.le_trans hN h.2.size))⟩
end Go.Proofs.Yticgejaaoamhmao.Str

namespace Go.Proofs.Yticgejaaoamhmao.Str
open Go.RowKit L1 L3
set_option linter.unusedVariables false

set_option maxRecDepth 100000 in
set_option maxHeartbeats 4000000 in
theorem markStringS_from (base : Nat) (v : Value) (l : List ByteArray) (n : Nat) (w : World) (c : Int) (hcl0 : 0 < c) (hch : c ≤ 1073741824) (hn2 : n ≤ 1048576) (ho : w.ownsRow base 9 1 v n (mapS l)) (hbase : base ≤ w.heap.size) :
    Calls Try.prog 23 #[v, .int .i64 c] w fun e w' => e = .returned (.int .i64 (c + (n : Int))) ∧ w'.ownsRow base 9 1 v n (mapS (mkS c n)) ∧ Below base w w' ∧ w.grownBy w' v.ownBlock := by
  obtain ⟨a, cap0, rfl, _, hl0⟩ := own_formS ho
  by_cases hn0 : n = 0
  · subst hn0
    have hx : l = [] := List.eq_nil_of_length_eq_zero hl0
    subst hx
    have HO := hide ho
    clear ho hl0
    go_enter Try.func23, Try.ntmps23
    go_wp2
    go_loop [1, 5] (fun k i => k = .int .i64 c ∧ i = .int .i64 0) (fun _ _ => 0)
    case atStart => exact ⟨rfl, rfl⟩
    case round =>
      obtain ⟨rfl, rfl⟩ := hrel
      go_wp2
      go_ret
      exact ⟨by simp, HO.out, Below.refl _ _, World.grownBy.refl _ _⟩
  · obtain ⟨g, cap, e⟩ : ∃ g cap, Value.slice a n cap0 = .slice (some ⟨g, 0, none⟩) n cap := by
      rcases ho.2 with ⟨_, h0⟩ | ⟨g, cap, cur, hv, _⟩
      · omega
      · exact ⟨g, cap, hv⟩
    cases e
    have hge := (ho.lt g rfl).1
    have HO := hide ho
    have HL := hide hl0
    clear ho hl0 hn0
    go_enter Try.func23, Try.ntmps23
    go_wp2
    go_loopw [1, 5] (fun k i wr => ∃ (j : Nat) (ys : List ByteArray), j ≤ n ∧ i = .int .i64 j ∧ k = .int .i64 (c + (j : Int)) ∧ ys.length = n ∧ Hid (∀ t, t < j → ys.getD t e0 = (mkS c n).getD t e0) ∧
        wr.ownsRow base 9 1 (.slice (some ⟨g, 0, none⟩) n cap0) n (mapS ys) ∧ Below base w wr ∧ w.grownBy wr (some g)) (fun _ i _ => n - (intOf i).toNat)
    case atStart => exact ⟨0, l, by omega, rfl, by simp, HL.out, fun t ht => absurd ht (Nat.not_lt_zero _), HO.out, Below.refl _ _, World.grownBy.refl _ _⟩
    case round =>
      obtain ⟨j, ys, hj, rfl, rfl, hyl, HY, hown, hbel, hgr⟩ := hrel
      by_cases hlt : j < n
      · have hltI : (j : Int) < (n : Int) := by omega
        have C1 := hide (fun w => markText_any (c + (j : Int)) w (by omega) (by omega))
        obtain ⟨x, hx⟩ : ∃ x, x = mkT (c + (j : Int)) := ⟨_, rfl⟩
        simp only [← hx] at C1
        have hsz := hbel.size
        have HX := hide hx
        have HYL := hide hyl
        have O0 := hide hown
        have B0 := hide hbel
        have G0 := hide hgr
        clear hown hbel hgr hx hyl
        go_wp2_with fail
        refine (C1.out _).mono ?_
        rintro e w1 ⟨rfl, hb1⟩
        have hown1 := own_belowS O0.out hb1
        have hcl := hown1.cellAt j (by omega)
        have hfr := hown1.frozenAt j
        obtain ⟨u, hu⟩ : ∃ u, w1.cell? ⟨g, j, none⟩ = some u := ⟨_, hcl.trans (List.getElem?_eq_getElem (by simp [HYL.out]; omega))⟩
        have hs1 := hown1.stored j (.string x)
        have B1 := hide ((B0.out.trans (hb1.mono (Nat.le_trans hbase B0.out.size))).setCell (p := ⟨g, j, none⟩) hge (.string x))
        have G1 := hide (G0.out.trans ((grown_belowS hb1 _).trans hs1.2))
        have R : ∃ (j' : Nat) (ys' : List ByteArray), j' ≤ n ∧ Value.int .i64 ((j : Int) + 1) = .int .i64 j' ∧ Value.int .i64 (c + (j : Int) + 1) = .int .i64 (c + (j' : Int)) ∧ ys'.length = n ∧ Hid (∀ t, t < j' → ys'.getD t e0 = (mkS c n).getD t e0) ∧
            (w1.setCell ⟨g, j, none⟩ (.string x)).ownsRow base 9 1 (.slice (some ⟨g, 0, none⟩) n cap0) n (mapS ys') ∧ Below base w (w1.setCell ⟨g, j, none⟩ (.string x)) ∧ w.grownBy (w1.setCell ⟨g, j, none⟩ (.string x)) (some g) := by
          refine ⟨j + 1, ys.set j x, by omega, by simp, by simp; omega, by simpa using HYL.out, ?_, by rw [mapS_set]; exact hs1.1, B1.out, G1.out⟩
          intro t ht
          by_cases e : t = j
          · subst e
            rw [mkS_get c n t (by omega), HX.out]
            simp [List.getD, HYL.out, hlt]
          · rw [← HY.out t (by omega)]
            simp [List.getD, Ne.symm e]
        have HR := hide R
        clear hcl hs1 hown1 R hb1
        go_wp2
        go_roundw
        case rel => exact HR.out
        case measure => simp [intOf]; omega
      · obtain rfl : j = n := by omega
        have e : ys = mkS c j := list_sameS (mkS_len c j) hyl (fun t ht => HY.out t ht)
        subst e
        have hltI : ¬ (j : Int) < (j : Int) := by omega
        clear hyl
        go_wp2
        go_ret
        exact ⟨rfl, hown, hbel, hgr⟩
end Go.Proofs.Yticgejaaoamhmao.Str
