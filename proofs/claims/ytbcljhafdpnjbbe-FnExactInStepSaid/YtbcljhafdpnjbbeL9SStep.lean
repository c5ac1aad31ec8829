/-
  Contracts: spec.l9Same, spec.InStep.
-/
import Derived.Test.YtbcljhafdpnjbbeL9Step
import Derived.Test.YtbcljhafdpnjbbeL9SGood
import Derived.Test.YtbcljhafdpnjbbeL7SPrt
import Derived.Deep.DeepCutAuto
namespace Go.Proofs.Ytbcljhafdpnjbbe.L9
open Go.RowKit L1 L7
set_option linter.unusedVariables false

set_option maxRecDepth 100000 in
set_option maxHeartbeats 2000000 in
theorem l9Same_any (ag : Option Addr) (n cg : Nat) (ad : Option Addr) (nd cd : Nat) (ld ep : Int) (ay : Option Addr) (ny cy : Nat) (ac : Option Addr) (nc cc : Nat) (G : List (List En)) (sy : List Int) (ce : List En) (k : Int) (w : World) (hz : RpZ G sy ce n nd ny nc) (hs : RpS w ag ay ac G sy ce) (hk : 0 ≤ k ∧ k < (n : Int)) (hl : 0 ≤ ld ∧ ld < (n : Int)) (bb : Bool) (hbb : bb = true ↔ gg G k = gg G ld) :
    Calls Try.prog 14 #[rpV ag n cg ad nd cd ld ep ay ny cy ac nc cc, .int .i64 k] w fun e w' => e = .returned (.bool bb) ∧ Below w.heap.size w w' := by
  obtain ⟨w1, hw1⟩ : ∃ w1, w.alloc (rpO ag n cg ad nd cd ld ep ay ny cy ac nc cc) = w1 := ⟨_, rfl⟩
  have B1 : Hid (Below w.heap.size w w1) := by rw [← hw1]; exact hide ((Below.refl _ _).alloc (Nat.le_refl _) _)
  have G1 : Hid (w1.heap[w.heap.size]? = some (rpO ag n cg ad nd cd ld ep ay ny cy ac nc cc)) := by rw [← hw1]; exact hide (blk_new9 _ _)
  have HW := hide hw1
  have hs1 := hs.below B1.out
  have hn := hz.hn
  obtain ⟨b, off, rfl, i, ai, ci, hi, hin, hci, hsi⟩ := hs1.g.at' k hk.1 (by omega)
  obtain ⟨b', off', hba, j, aj, cj, hj, hjn, hcj, hsj⟩ := hs1.g.at' ld hl.1 (by omega)
  cases hba
  subst hi
  subst hj
  obtain ⟨k0, k1, k2, k3, k4, k5⟩ := blk6 G1.out
  have h1 := hz.ls i hin
  have h2 := hz.ls j hjn
  obtain ⟨l, hll⟩ : ∃ l, l = gg G (i : Int) := ⟨_, rfl⟩
  obtain ⟨m, hmm⟩ : ∃ m, m = gg G (j : Int) := ⟨_, rfl⟩
  rw [← hll] at hci hsi hbb
  rw [← hmm] at hcj hsj hbb
  rw [show G.getD i [] = l from hll.symm] at h1
  rw [show G.getD j [] = m from hmm.symm] at h2
  obtain ⟨p, hp⟩ : ∃ p, p = l.length := ⟨_, rfl⟩
  obtain ⟨q, hq⟩ : ∃ q, q = m.length := ⟨_, rfl⟩
  rw [← hp] at hci h1
  rw [← hq] at hcj h2
  have hiI : (i : Int) < (n : Int) := by omega
  have hi0 : (0 : Int) ≤ (i : Int) := by omega
  have hjI : (j : Int) < (n : Int) := by omega
  have hj0 : (0 : Int) ≤ (j : Int) := by omega
  have hwh := prt_whole l m
  rw [← hp, ← hq] at hwh
  have C := hide (l7Part_any ai aj l m p ci q cj w1 hp.symm hq.symm hsi hsj h1 h2)
  obtain ⟨t, ht⟩ : ∃ t, t = prt l m := ⟨_, rfl⟩
  rw [← ht] at C hwh
  have HBB := hide (hbb.trans hwh.symm)
  clear hs hz hs1 hll hmm hp hq hsi hsj hn hk hl hbb hw1 hwh ht
  by_cases hpq : p = q
  · subst hpq
    go_enter Try.func14, Try.ntmps14
    go_upto_region 1 with fail
    rw [HW.out]
    clear HW
    go_wp2_with fail
    refine C.out.mono ?_
    rintro e w2 ⟨rfl, hb⟩
    have B2 := hide (B1.out.trans (hb.mono B1.out.size))
    clear hb
    by_cases htp : t = p
    · have E : Hid (bb = true) := HBB.out.2 ⟨by first | rfl | trivial, htp⟩
      subst htp
      go_wp2
      go_ret
      exact ⟨by rw [E.out]; rfl, B2.out⟩
    · have E : Hid (bb = false) := bool_noT HBB.out (fun h => htp h.2)
      have hq2 : ((t : Int) == (p : Int)) = false := by simp; omega
      go_wp2
      go_ret
      exact ⟨by rw [E.out]; rfl, B2.out⟩
  · have E : Hid (bb = false) := bool_noT HBB.out (fun h => hpq h.1)
    have hq2 : ((p : Int) == (q : Int)) = false := by simp; omega
    go_enter Try.func14, Try.ntmps14
    go_upto_region 1 with fail
    rw [HW.out]
    clear HW
    go_wp2
    go_ret
    exact ⟨by rw [E.out]; rfl, B1.out⟩
set_option maxRecDepth 100000 in
set_option maxHeartbeats 1000000 in
theorem specInStep_any (ag : Option Addr) (n cg : Nat) (ad : Option Addr) (nd cd : Nat) (ld ep : Int) (ay : Option Addr) (ny cy : Nat) (ac : Option Addr) (nc cc : Nat) (G : List (List En)) (sy : List Int) (ce : List En) (k : Int) (w : World) (hz : RpZ G sy ce n nd ny nc) (hs : RpS w ag ay ac G sy ce) (rr ok : Bool) (hr : StpIs G nd ld ep sy ce k rr ok) :
    Calls Try.prog 5 #[rpV ag n cg ad nd cd ld ep ay ny cy ac nc cc, .int .i64 k] w fun e w' => e = .returned (.tuple #[.bool rr, .bool ok]) ∧ Below w.heap.size w w' := by
  obtain ⟨bb, hbb⟩ : ∃ bb : Bool, bb = true ↔ GoodR G nd ld ep sy ce := by classical exact ⟨decide (GoodR G nd ld ep sy ce), by simp⟩
  have BX := hide ((Below.refl w.heap.size w).alloc (Nat.le_refl _) (rpO ag n cg ad nd cd ld ep ay ny cy ac nc cc))
  have C1 := hide (fun wx (hb : Below w.heap.size w wx) => specGoodRepl_any ag n cg ad nd cd ld ep ay ny cy ac nc cc G sy ce wx hz (hs.below hb) bb hbb)
  have HR := hide hr
  have HBB := hide hbb
  have HS := hide hs
  have HZ := hide hz
  clear hr hbb hs hz
  go_enter Try.func5, Try.ntmps5
  go_wp2_with fail
  refine (C1.out _ BX.out).mono ?_
  rintro e w1 ⟨rfl, hb⟩
  have G1 := hide ((hb.block w.heap.size (by simp)).trans (blk_new9 _ _))
  have B1 := hide (BX.out.trans (hb.mono BX.out.size))
  clear hb C1 BX
  cases bb with
  | false =>
    obtain ⟨rfl, rfl⟩ := HR.out.no (fun h => by have := HBB.out.2 h.1; cases this)
    go_wp2
    go_ret2
    exact ⟨rfl, B1.out⟩
  | true =>
    have hgd := HBB.out.1 (by first | rfl | trivial)
    obtain ⟨k0, k1, k2, k3, k4, k5⟩ := blk6 G1.out
    have HG := hide hgd
    clear hgd
    by_cases hk0 : k < 0
    · obtain ⟨rfl, rfl⟩ := HR.out.no (fun h => by have := h.2.1; omega)
      go_wp2
      go_ret2
      exact ⟨rfl, B1.out⟩
    · by_cases hk1 : (n : Int) ≤ k
      · obtain ⟨rfl, rfl⟩ := HR.out.no (fun h => by have h2 := h.2.2; rw [HZ.out.hn] at h2; omega)
        go_wp2
        go_ret2
        exact ⟨rfl, B1.out⟩
      · obtain ⟨rfl, hrr⟩ := HR.out.yes ⟨HG.out, by rw [HZ.out.hn]; omega⟩
        have hnd := HG.out.node
        rw [HZ.out.hn] at hnd
        have C3 := hide (l9Same_any ag n cg ad nd cd ld ep ay ny cy ac nc cc G sy ce k w1 HZ.out (HS.out.below B1.out) ⟨by omega, by omega⟩ hnd rr hrr)
        clear hrr hnd HR HBB
        go_wp2_with fail
        refine C3.out.mono ?_
        rintro e w3 ⟨rfl, hb⟩
        have B3 := hide (B1.out.trans (hb.mono B1.out.size))
        clear hb
        go_wp2
        go_ret2
        exact ⟨rfl, B3.out⟩
end Go.Proofs.Ytbcljhafdpnjbbe.L9
