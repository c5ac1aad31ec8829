/-
  Contracts: spec.l9Certain, spec.CertainLength.
-/
import Derived.Test.YtbcljhafdpnjbbdL9Cert
import Derived.Test.YtbcljhafdpnjbbdL9SGood
import Derived.Test.YtbcljhafdpnjbbdL7SPrt
import Derived.Deep.DeepCutAuto
namespace Go.Proofs.Ytbcljhafdpnjbbd.L9
open Go.RowKit L1 L7
set_option linter.unusedVariables false

open Classical in
set_option maxRecDepth 100000 in
set_option maxHeartbeats 4000000 in
theorem l9Certain_any (ag : Option Addr) (n cg : Nat) (ad : Option Addr) (nd cd : Nat) (ld ep : Int) (ay : Option Addr) (ny cy : Nat) (ac : Option Addr) (nc cc : Nat) (G : List (List En)) (sy : List Int) (ce : List En) (w : World) (hz : RpZ G sy ce n nd ny nc) (hs : RpS w ag ay ac G sy ce) (hg : GoodR G nd ld ep sy ce) :
    Calls Try.prog 70 #[rpV ag n cg ad nd cd ld ep ay ny cy ac nc cc] w fun e w' => e = .returned (.int .i64 (cerL G ld sy : Int)) ∧ Below w.heap.size w w' := by
  obtain ⟨w1, hw1⟩ : ∃ w1, w.alloc (rpO ag n cg ad nd cd ld ep ay ny cy ac nc cc) = w1 := ⟨_, rfl⟩
  have B1 : Hid (Below w.heap.size w w1) := by rw [← hw1]; exact hide ((Below.refl _ _).alloc (Nat.le_refl _) _)
  have G1 : Hid (w1.heap[w.heap.size]? = some (rpO ag n cg ad nd cd ld ep ay ny cy ac nc cc)) := by rw [← hw1]; exact hide (blk_new9 _ _)
  obtain ⟨rr, hrr⟩ : ∃ rr : Int, rr = (cerL G ld sy : Int) := ⟨_, rfl⟩
  rw [← hrr]
  have HRR := hide hrr
  have HG := hide hg
  have HS := hide hs
  have HZ := hide hz
  have HW := hide hw1
  clear hrr hg hs hz hw1
  go_enter Try.func70, Try.ntmps70
  go_upto_region 1 with fail
  rw [HW.out]
  clear HW
  obtain ⟨k0, k1, k2, k3, k4, k5⟩ := blk6 G1.out
  have hnode := HG.out.node
  rw [HZ.out.hn] at hnode
  obtain ⟨b, off, rfl, il, al, cl, hil, hlt0, hcl, hsl⟩ := (HS.out.g.below B1.out).at' ld hnode.1 (by rw [HZ.out.hn]; exact hnode.2)
  subst hil
  have hlls := HZ.out.ls il hlt0
  obtain ⟨lead, hlead⟩ : ∃ lead, lead = G.getD il [] := ⟨_, rfl⟩
  rw [show gg G (il : Int) = lead from hlead.symm] at hcl hsl
  rw [← hlead] at hlls
  obtain ⟨nl, hnl⟩ : ∃ nl, nl = lead.length := ⟨_, rfl⟩
  rw [← hnl] at hcl hlls
  have hilI : (il : Int) < (n : Int) := by omega
  have hil0 : (0 : Int) ≤ (il : Int) := by omega
  have HSL : Hid (SlE w1 al lead) := hide hsl
  have HLEAD := hide hlead
  have HNL := hide hnl
  have y2 := HZ.out.y2
  have n2 := HZ.out.n2
  clear hsl hlead hnl hnode hlt0
  go_wp2
  go_loopw [4, 19] (fun acc idx wr => ∃ k : Nat, k ≤ ny ∧ idx = .int .i64 k ∧ acc = .int .i64 ((cerK G lead sy k : Nat) : Int) ∧ Hid (wr.heap[w.heap.size]? = some (rpO (some ⟨b, off, none⟩) n cg ad nd cd (il : Int) ep ay ny cy ac nc cc)) ∧ Hid (Below w1.heap.size w1 wr)) (fun acc idx _ => ny - (intOf idx).toNat)
  case atStart => exact ⟨0, Nat.zero_le _, rfl, by rw [show cerK G lead sy 0 = lead.length from rfl, ← HNL.out], G1, hide (Below.refl _ _)⟩
  case round =>
    obtain ⟨k, hk, rfl, rfl, GR, BR⟩ := hrel
    clear k0 k1 k2 k3 k4 k5 hcl
    obtain ⟨k0, k1, k2, k3, k4, k5⟩ := blk6 GR.out
    have hbel := B1.out.trans (BR.out.mono B1.out.size)
    obtain ⟨m, hm⟩ : ∃ m, m = cerK G lead sy k := ⟨_, rfl⟩
    rw [← hm]
    have hmle : m ≤ nl := by rw [hm, HNL.out]; exact cerK_le G lead sy k
    by_cases hlt : k < ny
    · obtain ⟨by_, oy, rfl, hcy⟩ := (HS.out.y.below hbel) k (by rw [HZ.out.hy]; exact hlt)
      have hrn := (HG.out.rise k (by rw [HZ.out.hy]; exact hlt)).1
      obtain ⟨x, hx⟩ : ∃ x, x = sy.getD k 0 := ⟨_, rfl⟩
      rw [← hx] at hcy hrn
      obtain ⟨b', off', hba, i, ai, ci, hxi, hi, hci, hsi⟩ := (HS.out.g.below hbel).at' x hrn.1 hrn.2
      cases hba
      subst hxi
      have hll := HZ.out.ls i hi
      obtain ⟨l, hl⟩ : ∃ l, l = G.getD i [] := ⟨_, rfl⟩
      rw [show gg G (i : Int) = l from hl.symm] at hci hsi
      rw [← hl] at hll
      obtain ⟨q, hq⟩ : ∃ q, q = l.length := ⟨_, rfl⟩
      rw [← hq] at hci hll
      have hiI : (i : Int) < (n : Int) := by have := HZ.out.hn; omega
      have hi0 : (0 : Int) ≤ (i : Int) := by omega
      have hltI : (k : Int) < (ny : Int) := by omega
      have C := hide (l7Part_any ai al l lead q ci nl cl wr hq.symm HNL.out.symm hsi (HSL.out.below BR.out) hll hlls)
      have hple := (prt_le l lead).2
      obtain ⟨p, hp⟩ : ∃ p, p = prt l lead := ⟨_, rfl⟩
      rw [← hp] at C hple
      have hpn : p ≤ nl := by rw [HNL.out]; exact hple
      have hnext : cerK G lead sy (k + 1) = min m p := by
        show min (cerK G lead sy k) (prt (gg G (sy.getD k 0)) lead) = _
        rw [← hm, ← hx, show gg G (i : Int) = l from hl.symm, ← hp]
      have HNX := hide hnext
      have HB := hide hbel
      clear hrn hp hx hl hq hsi hnext hple hm hbel
      by_cases hpm : (p : Int) < (m : Int)
      · have hmin : min m p = p := by omega
        go_wp2_with fail
        refine C.out.mono ?_
        rintro e w4 ⟨rfl, hb⟩
        have B4 := hide (BR.out.trans (hb.mono BR.out.size))
        have G4 := hide ((hb.block w.heap.size (Array.getElem?_eq_some_iff.1 GR.out).1).trans GR.out)
        clear hb
        skip
        go_wp2
        go_roundw
        case rel => exact ⟨k + 1, by omega, by go_num, by rw [HNX.out, hmin], G4, B4⟩
        case measure => simp [intOf]; omega
      · have hmin : min m p = m := by omega
        go_wp2_with fail
        refine C.out.mono ?_
        rintro e w4 ⟨rfl, hb⟩
        have B4 := hide (BR.out.trans (hb.mono BR.out.size))
        have G4 := hide ((hb.block w.heap.size (Array.getElem?_eq_some_iff.1 GR.out).1).trans GR.out)
        clear hb
        skip
        go_wp2
        go_roundw
        case rel => exact ⟨k + 1, by omega, by go_num, by rw [HNX.out, hmin], G4, B4⟩
        case measure => simp [intOf]; omega
    · obtain rfl : k = ny := by omega
      have hltI : ¬ (k : Int) < (k : Int) := by omega
      have HE : Hid (rr = (m : Int)) := by
        show rr = (m : Int); rw [HRR.out, hm]; unfold cerL; rw [show gg G (il : Int) = lead from HLEAD.out.symm, HZ.out.hy]
      have HB := hide hbel
      clear hbel hm
      go_wp2
      go_ret
      exact ⟨by rw [HE.out]; rfl, HB.out⟩
set_option maxRecDepth 100000 in
set_option maxHeartbeats 1000000 in
theorem specCertain_any (ag : Option Addr) (n cg : Nat) (ad : Option Addr) (nd cd : Nat) (ld ep : Int) (ay : Option Addr) (ny cy : Nat) (ac : Option Addr) (nc cc : Nat) (G : List (List En)) (sy : List Int) (ce : List En) (w : World) (hz : RpZ G sy ce n nd ny nc) (hs : RpS w ag ay ac G sy ce) (rr : Int) (ok : Bool) (hr : CerIs G nd ld ep sy ce rr ok) :
    Calls Try.prog 35 #[rpV ag n cg ad nd cd ld ep ay ny cy ac nc cc] w fun e w' => e = .returned (.tuple #[.int .i64 rr, .bool ok]) ∧ Below w.heap.size w w' := by
  obtain ⟨bb, hbb⟩ : ∃ bb : Bool, bb = true ↔ GoodR G nd ld ep sy ce := by classical exact ⟨decide (GoodR G nd ld ep sy ce), by simp⟩
  have BX := hide ((Below.refl w.heap.size w).alloc (Nat.le_refl _) (rpO ag n cg ad nd cd ld ep ay ny cy ac nc cc))
  have C1 := hide (fun wx (hb : Below w.heap.size w wx) => specGoodRepl_any ag n cg ad nd cd ld ep ay ny cy ac nc cc G sy ce wx hz (hs.below hb) bb hbb)
  have C2 := hide (fun wx (hb : Below w.heap.size w wx) hg => l9Certain_any ag n cg ad nd cd ld ep ay ny cy ac nc cc G sy ce wx hz (hs.below hb) hg)
  have HR := hide hr
  have HBB := hide hbb
  clear hr hbb hs hz
  go_enter Try.func35, Try.ntmps35
  go_wp2_with fail
  refine (C1.out _ BX.out).mono ?_
  rintro e w1 ⟨rfl, hb⟩
  have G1 := hide ((hb.block w.heap.size (by simp)).trans (blk_new9 _ _))
  have B1 := hide (BX.out.trans (hb.mono BX.out.size))
  clear hb C1 BX
  cases bb with
  | false =>
    obtain ⟨rfl, rfl⟩ := HR.out.no (fun h => by have := HBB.out.2 h; cases this)
    go_wp2
    go_ret2
    exact ⟨rfl, B1.out⟩
  | true =>
    have hgd := HBB.out.1 (by first | rfl | trivial)
    obtain ⟨rfl, hrr⟩ := HR.out.yes hgd
    have K := hide (fun wx hb => C2.out wx hb hgd)
    rw [← hrr] at K
    obtain ⟨k0, k1, k2, k3, k4, k5⟩ := blk6 G1.out
    clear hgd hrr HR HBB C2
    go_wp2_with fail
    refine (K.out _ B1.out).mono ?_
    rintro e w2 ⟨rfl, hb⟩
    have B2 := hide (B1.out.trans (hb.mono B1.out.size))
    clear hb
    go_wp2
    go_ret2
    exact ⟨rfl, B2.out⟩
end Go.Proofs.Ytbcljhafdpnjbbd.L9
