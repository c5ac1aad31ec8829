/-
  Contract: spec.l7Find.
-/
import Derived.Test.YtdnmklcnlndmhbbL7FndA0
import Derived.Test.YtdnmklcnlndmhbbL7SSts
import Derived.Test.YtdnmklcnlndmhbbL7SEnd
namespace Go.Proofs.Ytdnmklcnlndmhbb.L7
open Go.RowKit L1
set_option linter.unusedVariables false

set_option maxRecDepth 100000 in
set_option maxHeartbeats 4000000 in
theorem l7Find_any (a b : Option Addr) (l : List En) (st : List (Int × Int)) (n c1 m c2 : Nat) (en : Int) (w : World) (hn : l.length = n) (hs : SlE w a l) (hn2 : n ≤ 1048576) (hm : st.length = m) (ht : SlS w b st) (hm2 : m ≤ 1048576) (p q : Int) (hpq : find l st en = (p, q)) :
    Calls Try.prog 41 #[.slice a n c1, .slice b m c2, .int .i64 en] w fun e w' => e = .returned (.tuple #[.int .i64 p, .int .i64 q]) ∧ Below w.heap.size w w' := by
  have CS := l7Starts_any a l n c1 w hn hs hn2
  have hsl := sts_le l
  unfold find at hpq
  obtain ⟨S, hS⟩ : ∃ S, S = sts l := ⟨_, rfl⟩
  simp only [RetS, ← hS] at CS
  rw [← hS] at hsl hpq
  obtain ⟨sn, hsn⟩ : ∃ sn, sn = S.length := ⟨_, rfl⟩
  simp only [← hsn] at CS
  rw [← hsn] at hsl hpq
  rw [hn] at hsl
  have HCS := hide CS
  have HPQ := hide hpq
  have HSN := hide hsn
  have HS := hide hs
  have HT := hide ht
  have HN := hide hn
  have HM := hide hm
  clear CS hpq hsn hS hs ht hn hm 
  go_enter Try.func41, Try.ntmps41
  go_wp2_with fail
  refine HCS.out.mono ?_
  rintro e w1 ⟨v1, rfl, ho1, hb1⟩
  obtain ⟨sa, scap, rfl, hs1, _⟩ := own_formS ho1
  have B1 := hide hb1
  have S1 := hide (HS.out.below hb1)
  have T1 := hide (HT.out.below hb1)
  have O1 := hide hs1
  clear ho1 hs1 hb1 HS HT HCS
  have hsnI : ((sn : Int) - 1) ≤ 1048576 := by omega
  go_wp2
  go_loopw [9, 10] (fun LK i wr => ∃ (k : Nat) (z Q : Int), k ≤ sn ∧ i = .int .i64 z ∧ Hid (z = (k : Int) - 1) ∧ LK = .int .i64 Q ∧ Hid (Q + (k : Int) = (sn : Int)) ∧ Hid (fnd l S st en k Q = (p, q)) ∧ Below w1.heap.size w1 wr) (fun _ i _ => (intOf i + 1).toNat)
  case atStart => exact ⟨sn, (sn : Int) - 1, 0, Nat.le_refl _, rfl, rfl, rfl, by show (0 : Int) + (sn : Int) = (sn : Int); omega, HPQ.out, Below.refl _ _⟩
  case round =>
    obtain ⟨k, z, Q, hk, rfl, HZ, rfl, HQ, HF, hbel⟩ := hrel
    cases k with
    | zero =>
      have hz : ¬ 0 ≤ z := by have := HZ.out; omega
      have e : (0, Q) = (p, q) := HF.out
      cases e
      have BB := hide (B1.out.trans (hbel.mono B1.out.size))
      clear hbel
      go_wp2
      go_ret2
      exact ⟨rfl, BB.out⟩
    | succ k =>
      obtain rfl : z = (k : Int) := by have := HZ.out; omega
      obtain ⟨b1, o1, rfl, hc0, _⟩ := O1.out k (by rw [← HSN.out]; omega)
      have hk0 : (0 : Int) ≤ (k : Int) := by omega
      have hkI : (k : Int) < (sn : Int) := by omega
      have hfs := fun i => @fnd_some l S st en k i Q
      have hfn := @fnd_none l S st en k Q
      rw [HF.out] at hfn
      simp only [HF.out] at hfs
      have hQ : 0 ≤ Q ∧ Q ≤ 1048576 := by have := HQ.out; omega
      obtain ⟨ep, hep⟩ : ∃ ep, ep = (S.getD k (0, 0)).1 := ⟨_, rfl⟩
      rw [← hep] at hc0 hfn
      simp only [← hep] at hfs
      have HFS := hide hfs
      have HFN := hide hfn
      have HO := hide hc0
      have FB : Hid (∀ w', Below wr.heap.size wr w' → Below w1.heap.size w1 w') := fun w' h => hbel.trans (h.mono hbel.size)
      have hQ0 := hQ.1
      have hQ1 := hQ.2
      obtain ⟨W0, hW0⟩ : ∃ W0, W0 = wr := ⟨_, rfl⟩
      have FB0 : Hid (∀ w', Below W0.heap.size W0 w' → Below w1.heap.size w1 w') := by rw [hW0]; exact FB
      have BW0 : Hid (Below w1.heap.size w1 W0) := by rw [hW0]; exact hbel
      have HQ2 : Hid (Q + 1 + (k : Int) = (sn : Int)) := by show Q + 1 + (k : Int) = (sn : Int); have := HQ.out; omega
      clear hc0 hep hfs hfn hbel HF HZ HQ FB hQ
      go_wp2
      rw [← hW0]
      clear hW0
      go_loopw [28] (fun i wq => ∃ j : Nat, j ≤ m ∧ i = .int .i64 j ∧ Hid (∀ i, i < j → (st.getD i (0, 0)).1 ≠ ep) ∧ Below W0.heap.size W0 wq) (fun i _ => m - (intOf i).toNat)
      case atStart => exact ⟨0, Nat.zero_le _, rfl, fun i hi => absurd hi (Nat.not_lt_zero _), Below.refl _ _⟩
      case round =>
        obtain ⟨j, hj, rfl, HJ, hbq⟩ := hrel
        by_cases hjm : j < m
        · obtain ⟨b2, o2, rfl, p1, p2⟩ := T1.out j (by rw [HM.out]; exact hjm)
          have g1 := ((BW0.out.trans (hbq.mono BW0.out.size)).cell (p := ⟨b2, o2 + j * 2, none⟩) (blk_lt p1)).trans p1
          have g2 := ((BW0.out.trans (hbq.mono BW0.out.size)).cell (p := ⟨b2, o2 + j * 2 + 1, none⟩) (blk_lt p2)).trans p2
          have g3 := ((BW0.out.trans (hbq.mono BW0.out.size)).cell (p := ⟨b1, o1 + k * 2, none⟩) (blk_lt HO.out)).trans HO.out
          have g3a : ∀ ob, (wr.alloc ob).cell? ⟨b1, o1 + k * 2, none⟩ = some (.int .i64 ep) := fun ob => Go.Lib.cell?_alloc_some ob g3
          have hjI : (j : Int) < (m : Int) := by omega
          obtain ⟨x, hx⟩ : ∃ x, x = (st.getD j (0, 0)).1 := ⟨_, rfl⟩
          obtain ⟨y, hy⟩ : ∃ y, y = (st.getD j (0, 0)).2 := ⟨_, rfl⟩
          rw [← hx] at g1
          rw [← hy] at g2
          have HX := hide hx
          have D0 := hide hbq
          clear p1 p2 hx hy hbq
          by_cases h2 : x = ep
          · have HID : Hid (idx st ep = some j) := idx_some st ep j (by rw [HM.out]; exact hjm) (by rw [← HX.out]; exact h2) HJ.out
            have hfe := HFS.out j HID.out
            subst h2
            have h2' : (x != x) = false := by simp
            have CE := fun w hs => l7End_any a l n c1 x w HN.out hs hn2
            have hle := endK_le l x l.length
            obtain ⟨E, hE⟩ : ∃ E, E = endE l x := ⟨_, rfl⟩
            rw [← hE] at hfe
            simp only [← hE] at CE
            have hE2 : E ≤ 1048576 := by rw [hE]; unfold endE; rw [HN.out] at hle ⊢; omega
            have hq : q = Q + 1 := congrArg Prod.snd hfe
            have hmin0 : p = min (E : Int) (nxt st j en) := congrArg Prod.fst hfe
            have HCE := hide CE
            have HQQ := hide hq
            clear hE CE hle hq hfe
            by_cases h3 : (j : Int) + 1 < (m : Int)
            · obtain ⟨b4, o4, hab, _, r2⟩ := T1.out (j + 1) (by rw [HM.out]; omega)
              cases hab
              have hnx : nxt st j en = (st.getD (j + 1) (0, 0)).2 := by unfold nxt; rw [if_pos (by rw [HM.out]; omega)]
              rw [hnx] at hmin0
              obtain ⟨u, hu⟩ : ∃ u, u = (st.getD (j + 1) (0, 0)).2 := ⟨_, rfl⟩
              rw [← hu] at r2 hmin0
              have g4 : ∀ N ob, ((wr.alloc ob).drewN N).cell? ⟨b2, o2 + (j + 1) * 2 + 1, none⟩ = some (.int .i64 u) := fun N ob => ((FB0.out _ (below_dN (D0.out.alloc D0.out.size ob) N)).cell (p := ⟨b2, o2 + (j + 1) * 2 + 1, none⟩) (blk_lt r2)).trans r2
              have hj1 : (0 : Int) ≤ (j : Int) + 1 := by omega
              have HMIN := hide hmin0
              clear hnx hu r2 hmin0
              go_wp2
              go_quiet (fail)
              go_wp2_with fail
              have BX : Hid (∀ N, Below w1.heap.size w1 ((wr.alloc (.cells #[.int .i64 x, .int .i64 y] 58)).drewN N)) := fun N => FB0.out _ (below_dN (D0.out.alloc D0.out.size _) _)
              refine (HCE.out _ (S1.out.below (BX.out _))).mono ?_
              rintro e w3 ⟨rfl, hb3⟩
              have BB := hide (B1.out.trans (((BX.out _).trans (hb3.mono (BX.out _).size)).mono B1.out.size))
              clear hb3 BX
              by_cases hc : (E : Int) < u
              · have hp : Hid (p = (E : Int)) := by have := HMIN.out; show p = (E : Int); omega
                go_wp2
                go_ret2
                exact ⟨by rw [HQQ.out, hp.out]; rfl, BB.out⟩
              · have hp : Hid (p = u) := by have := HMIN.out; show p = u; omega
                go_wp2
                go_ret2
                exact ⟨by rw [HQQ.out, hp.out]; rfl, BB.out⟩
            · have hnx : nxt st j en = en := by unfold nxt; rw [if_neg (by rw [HM.out]; omega)]
              rw [hnx] at hmin0
              have HMIN := hide hmin0
              clear hnx hmin0
              go_wp2
              go_quiet (fail)
              go_wp2_with fail
              have BX : Hid (∀ N, Below w1.heap.size w1 ((wr.alloc (.cells #[.int .i64 x, .int .i64 y] 58)).drewN N)) := fun N => FB0.out _ (below_dN (D0.out.alloc D0.out.size _) _)
              refine (HCE.out _ (S1.out.below (BX.out _))).mono ?_
              rintro e w3 ⟨rfl, hb3⟩
              have BB := hide (B1.out.trans (((BX.out _).trans (hb3.mono (BX.out _).size)).mono B1.out.size))
              clear hb3 BX
              by_cases hc : (E : Int) < en
              · have hp : Hid (p = (E : Int)) := by have := HMIN.out; show p = (E : Int); omega
                go_wp2
                go_ret2
                exact ⟨by rw [HQQ.out, hp.out]; rfl, BB.out⟩
              · have hp : Hid (p = en) := by have := HMIN.out; show p = en; omega
                go_wp2
                go_ret2
                exact ⟨by rw [HQQ.out, hp.out]; rfl, BB.out⟩
          · have h2' : (x != ep) = true := by simpa using h2
            go_wp2
            go_quiet (fail)
            go_wp2
            go_roundw
            case rel =>
              refine ⟨j + 1, by omega, by go_num, fun i hi => ?_, below_dN (D0.out.alloc D0.out.size _) _⟩
              by_cases e : i = j
              · rw [e, ← HX.out]; exact h2
              · exact HJ.out i (by omega)
            case measure => simp [intOf]; omega
        · have hjI : ¬ (j : Int) < (m : Int) := by omega
          have HID : Hid (idx st ep = none) := idx_none st ep (fun i hi => HJ.out i (by rw [HM.out] at hi; omega))
          have HF2 := hide (HFN.out HID.out).symm
          have BN := hide (FB0.out _ hbq)
          go_wp2
          go_roundw
          case rel => exact ⟨k, (k : Int) - 1, Q + 1, by omega, by go_num, rfl, by go_num, HQ2.out, HF2.out, BN.out⟩
          case measure => simp [intOf]
end Go.Proofs.Ytdnmklcnlndmhbb.L7
