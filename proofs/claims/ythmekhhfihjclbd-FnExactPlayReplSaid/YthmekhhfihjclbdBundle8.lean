/-
  Contract: (*impl.Repl).elect.
  What CertainLength answers, and the contract: impl.CertainLength.
  Contract: (*impl.Repl).settle.
  Contract: (*impl.Repl).step.
  A closed fact on the type of lists of entries.
  Contract: spec.l1In: whether a number lies between two.
  Contracts: impl.NewRepl, spec.NewRepl: a new world of logs in new memory.
  Lists of steps in memory, and what PlayRepl answers. Nothing of the program's text is proved here.
-/
import Derived.Test.YthmekhhfihjclbdBundle4
import Derived.Deep.RegionWith
import Derived.Deep.DeepCutAuto
import Derived.Deep.RegionHeld3
import Derived.Deep.AppendLies
import Derived.Test.YthmekhhfihjclbdBundle5
import Derived.Test.YthmekhhfihjclbdBundle6
import Derived.Test.YthmekhhfihjclbdBundle7
import Derived.Test.YthmekhhfihjclbdBundle2
import Derived.Test.YthmekhhfihjclbdBundle1
import Derived.Laws.MakeOwn
import Derived.Maps.AppendAt
namespace Go.Proofs.Ythmekhhfihjclbd.L9
open Go.RowKit L1 L7
set_option linter.unusedVariables false

set_option maxRecDepth 100000 in
set_option maxHeartbeats 2000000 in
theorem elect_any (S : Nat → Prop) (b : Nat) (r : Rm) (w : World) (hI : Inv r) (hR : RB w S b r) (hS : ∀ q, S q → q < w.heap.size) (kd nd : Int) (t : ByteArray) (h0 : 0 ≤ nd) (h1 : nd < (r.G.length : Int)) (o : Option Rm) (ho : o = if nd ∈ r.sy ∧ r.down nd = false ∧ r.ep ≠ 1000 then some { r with ld := nd, ep := r.ep + 1 } else none) :
    Calls Try.prog 88 #[.pointer (some ⟨b, 0, none⟩), .agg #[.int .i64 kd, .int .i64 nd, .string t]] w fun e w' => e = .returned (.bool o.isSome) ∧ Done S w b (o.getD r) w' := by
  obtain ⟨V, gb, cg, db, cd, ay, cy, ac, cc, hb, hW, hSb⟩ := hR.open hI
  have hnode := hI.node
  have hdn := hI.good.down
  have hn1 := hI.good.logs.1
  obtain ⟨i, rfl⟩ : ∃ i : Nat, nd = (i : Int) := ⟨nd.toNat, by omega⟩
  obtain ⟨j, hj⟩ : ∃ j : Nat, r.ld = (j : Int) := ⟨r.ld.toNat, by omega⟩
  obtain ⟨n, hn⟩ : ∃ n, n = r.G.length := ⟨_, rfl⟩
  obtain ⟨ny, hny⟩ : ∃ ny, ny = r.sy.length := ⟨_, rfl⟩
  obtain ⟨nc, hnc⟩ : ∃ nc, nc = r.ce.length := ⟨_, rfl⟩
  obtain ⟨E, hE⟩ : ∃ E, E = r.ep := ⟨_, rfl⟩
  have hin : i < n := by omega
  have hjn : j < n := by omega
  have ci := hW.downAt i (by omega)
  have cj := hW.downAt j (by omega)
  obtain ⟨k0, k1, k2, k3, k4, k5⟩ := blk6 hb
  rw [hdn, ← hn] at k1
  rw [← hn] at k0
  rw [hj] at k2
  rw [← hE] at k3
  rw [← hny] at k4
  rw [← hnc] at k5
  have hzz := rpz_of hI
  have BX := (Below.refl w.heap.size w).alloc (Nat.le_refl _) (Obj.cells #[.int .i64 kd, .int .i64 (i : Int), .string t] 50)
  have SX := blk_new9 w (Obj.cells #[.int .i64 kd, .int .i64 (i : Int), .string t] 50)
  obtain ⟨w1, hw1⟩ : ∃ w1, w1 = w.alloc (Obj.cells #[.int .i64 kd, .int .i64 (i : Int), .string t] 50) := ⟨_, rfl⟩
  have HW1 := hide hw1
  rw [← hw1] at BX SX
  clear hw1
  have s0 : w1.cell? ⟨w.heap.size, 0, none⟩ = some (.int .i64 kd) := by simp [World.cell?, SX]
  have s1 : w1.cell? ⟨w.heap.size, 1, none⟩ = some (.int .i64 (i : Int)) := by simp [World.cell?, SX]
  have s2 : w1.cell? ⟨w.heap.size, 2, none⟩ = some (.string t) := by simp [World.cell?, SX]
  have g0 := (BX.cell (blk_lt9 k0)).trans k0
  have g1 := (BX.cell (blk_lt9 k1)).trans k1
  have g2 := (BX.cell (blk_lt9 k2)).trans k2
  have g3 := (BX.cell (blk_lt9 k3)).trans k3
  have g4 := (BX.cell (blk_lt9 k4)).trans k4
  have g5 := (BX.cell (blk_lt9 k5)).trans k5
  have di := (BX.cell (blk_lt9 ci)).trans ci
  have dj := (BX.cell (blk_lt9 cj)).trans cj
  have hWx := hW.below BX
  have hbx : w1.heap[b]? = _ := (BX.block b (Array.getElem?_eq_some_iff.1 hb).1).trans hb
  have fb := fun c => frz hbx c
  have fg : ∀ c, w1.frozen? ⟨gb, c, none⟩ = false := fun c => own_frz hWx.g c
  have fd : ∀ c, w1.frozen? ⟨db, c, none⟩ = false := fun c => own_frz hWx.d c
  have hiI : (i : Int) < (n : Int) := by omega
  have hi0 : (0 : Int) ≤ (i : Int) := by omega
  have hjI : (j : Int) < (n : Int) := by omega
  have hj0 : (0 : Int) ≤ (j : Int) := by omega
  have HOF := hide ho
  have HRF := hide hR
  have HWF := hide hW
  have HBF := hide hb
  have BXF := hide BX
  have hy6 := hzz.y2
  rw [← hny] at hy6
  have hyr := rn_rise hI.good.rise
  obtain ⟨x, hx⟩ : ∃ x, x = r.dn.getD i false := ⟨_, rfl⟩
  have HX : Hid (r.down (i : Int) = x) := hide hx.symm
  rw [← hx] at di
  obtain ⟨y, hy⟩ : ∃ y, y = r.dn.getD j false := ⟨_, rfl⟩
  have HY : Hid (r.down r.ld = y) := hide (by rw [hj]; exact hy.symm)
  rw [← hy] at dj
  obtain ⟨bi, hbi⟩ : ∃ bi : Bool, bi = true ↔ (i : Int) ∈ r.sy := ⟨decide ((i : Int) ∈ r.sy), by simp⟩
  have HBI := hide hbi
  have HLD := hide hj
  have HEP := hide hE
  have he0 : 1 ≤ E := by rw [hE]; exact hI.good.e0
  have he1 : E ≤ 1000 := by rw [hE]; exact hI.good.e1
  have CI := hide (fun m => isIn_any b ay ny cy r.sy (i : Int) (w1.drewN m) g4 hny.symm (hWx.rps.1.y.below (below_drewN (Below.refl _ _) m)) hy6 bi hbi)
  have CL := hide (fun m => leaderDown_any b db n cd j y (w1.drewN m) g1 g2 hjn dj)
  clear hx hy hbi hj hE hny hnc hn
  clear ho hR hW hb hWx hbx BX hI hzz hdn hn1 hnode cj ci k0 k1 k2 k3 k4 k5 SX hy6 hyr
  go_enter Try.func88, Try.ntmps88
  go_upto_region 1 with fail
  rw [← HW1.out]
  cases bi with
  | false =>
    go_quiet (first | (go_at_call 101; exact Calls.quiet_of_same (CI.out _)) | (go_at_call 98; exact Calls.quiet_of (CL.out _)))
    go_wp2
    go_ret
    have hoo := HOF.out
    rw [if_neg (fun h => by have := HBI.out.2 h.1; cases this)] at hoo
    exact ⟨by rw [hoo]; rfl, by rw [hoo]; exact HRF.out.same (below_drewN BXF.out _)⟩

  | true =>
    cases x with
    | true =>
      go_quiet (first | (go_at_call 101; exact Calls.quiet_of_same (CI.out _)) | (go_at_call 98; exact Calls.quiet_of (CL.out _)))
      go_wp2
      go_ret
      have hoo := HOF.out
      rw [if_neg (fun h => by have h2 := h.2.1; rw [HX.out] at h2; cases h2)] at hoo
      exact ⟨by rw [hoo]; rfl, by rw [hoo]; exact HRF.out.same (below_drewN BXF.out _)⟩

    | false =>
      by_cases hE1 : E = 1000
      · subst hE1
        go_quiet (first | (go_at_call 101; exact Calls.quiet_of_same (CI.out _)) | (go_at_call 98; exact Calls.quiet_of (CL.out _)))
        go_wp2
        go_ret
        have hoo := HOF.out
        rw [if_neg (fun h => h.2.2 HEP.out.symm)] at hoo
        exact ⟨by rw [hoo]; rfl, by rw [hoo]; exact HRF.out.same (below_drewN BXF.out _)⟩

      · have hE2 : (E == 1000) = false := by simp [hE1]
        have hw64 : IntKind.i64.wrap (E + 1) = E + 1 := by rw [IntKind.wrap_i64]; omega
        have hoo := HOF.out
        rw [if_pos ⟨HBI.out.1 rfl, HX.out, fun h => hE1 (HEP.out.trans h)⟩, ← HEP.out] at hoo
        have HOO := hide hoo
        clear hoo
        go_quiet (first | (go_at_call 101; exact Calls.quiet_of_same (CI.out _)) | (go_at_call 98; exact Calls.quiet_of (CL.out _)))
        go_wp2
        go_ret
        exact ⟨by rw [HOO.out]; rfl, by rw [HOO.out]; exact done_elect HWF.out HBF.out hSb (below_drewN BXF.out _) (i : Int) (E + 1)⟩
end Go.Proofs.Ythmekhhfihjclbd.L9

namespace Go.Proofs.Ythmekhhfihjclbd.L9
open Go.RowKit L1 L7
set_option linter.unusedVariables false

structure CerIs (G : List (List En)) (nd : Nat) (ld ep : Int) (sy : List Int) (ce : List En) (rr : Int) (ok : Bool) : Prop where
  yes : GoodR G nd ld ep sy ce → ok = true ∧ rr = (cerL G ld sy : Int)
  no : ¬ GoodR G nd ld ep sy ce → ok = false ∧ rr = 0
theorem certain_is (G : List (List En)) (nd : Nat) (ld ep : Int) (sy : List Int) (ce : List En) : ∃ rr ok, CerIs G nd ld ep sy ce rr ok := by
  classical
  by_cases h : GoodR G nd ld ep sy ce
  · exact ⟨_, true, fun _ => ⟨rfl, rfl⟩, fun h2 => absurd h h2⟩
  · exact ⟨_, false, fun h2 => absurd h2 h, fun _ => ⟨rfl, rfl⟩⟩
open Classical in
set_option maxRecDepth 100000 in
set_option maxHeartbeats 4000000 in
theorem implCertain_any (ag : Option Addr) (n cg : Nat) (ad : Option Addr) (nd cd : Nat) (ld ep : Int) (ay : Option Addr) (ny cy : Nat) (ac : Option Addr) (nc cc : Nat) (G : List (List En)) (sy : List Int) (ce : List En) (w : World) (hz : RpZ G sy ce n nd ny nc) (hs : RpS w ag ay ac G sy ce) (rr : Int) (ok : Bool) (hr : CerIs G nd ld ep sy ce rr ok) :
    Calls Try.prog 36 #[rpV ag n cg ad nd cd ld ep ay ny cy ac nc cc] w fun e w' => e = .returned (.tuple #[.int .i64 rr, .bool ok]) ∧ Below w.heap.size w w' := by
  obtain ⟨bb, hbb⟩ : ∃ bb : Bool, bb = true ↔ GoodR G nd ld ep sy ce := ⟨decide (GoodR G nd ld ep sy ce), by simp⟩
  have BX := hide ((Below.refl w.heap.size w).alloc (Nat.le_refl _) (rpO ag n cg ad nd cd ld ep ay ny cy ac nc cc))
  have C1 := hide (fun wx (hb : Below w.heap.size w wx) => goodRepl_any ag n cg ad nd cd ld ep ay ny cy ac nc cc G sy ce wx hz (hs.below hb) bb hbb)
  have HR := hide hr
  have HBB := hide hbb
  have HS := hide hs
  have HZ := hide hz
  clear hr hbb hs hz
  go_enter Try.func36, Try.ntmps36
  go_wp2_with fail
  refine (C1.out _ BX.out).mono ?_
  rintro e w1 ⟨rfl, hb⟩
  have G1 := hide ((hb.block w.heap.size (by simp)).trans (blk_new9 _ _))
  have B1 := hide (BX.out.trans (hb.mono BX.out.size))
  clear hb C1 BX
  cases bb with
  | false =>
    obtain ⟨rfl, rfl⟩ := HR.out.no (fun h => by have := HBB.out.2 h; cases this)
    go_wp2
    go_ret2
    exact ⟨rfl, B1.out⟩
  | true =>
    have hgd := HBB.out.1 (by first | rfl | trivial)
    obtain ⟨rfl, hrr⟩ := HR.out.yes hgd
    have HG := hide hgd
    have HRR := hide hrr
    clear hgd hrr HR HBB
    obtain ⟨k0, k1, k2, k3, k4, k5⟩ := blk6 G1.out
    have hnode := HG.out.node
    rw [HZ.out.hn] at hnode
    obtain ⟨b, off, rfl, il, al, cl, hil, hlt0, hcl, hsl⟩ := (HS.out.g.below B1.out).at' ld hnode.1 (by rw [HZ.out.hn]; exact hnode.2)
    subst hil
    have hlls := HZ.out.ls il hlt0
    obtain ⟨lead, hlead⟩ : ∃ lead, lead = G.getD il [] := ⟨_, rfl⟩
    rw [show gg G (il : Int) = lead from hlead.symm] at hcl hsl
    rw [← hlead] at hlls
    obtain ⟨nl, hnl⟩ : ∃ nl, nl = lead.length := ⟨_, rfl⟩
    rw [← hnl] at hcl hlls
    have hilI : (il : Int) < (n : Int) := by omega
    have hil0 : (0 : Int) ≤ (il : Int) := by omega
    have HSL : Hid (SlE w1 al lead) := hide hsl
    have HLEAD := hide hlead
    have HNL := hide hnl
    have y2 := HZ.out.y2
    have n2 := HZ.out.n2
    clear hsl hlead hnl hnode hlt0
    go_wp2
    go_loopw [5, 22] (fun acc idx wr => ∃ k : Nat, k ≤ ny ∧ idx = .int .i64 k ∧ acc = .int .i64 ((cerK G lead sy k : Nat) : Int) ∧ Hid (wr.heap[w.heap.size]? = some (rpO (some ⟨b, off, none⟩) n cg ad nd cd (il : Int) ep ay ny cy ac nc cc)) ∧ Hid (Below w1.heap.size w1 wr)) (fun acc idx _ => ny - (intOf idx).toNat)
    case atStart => exact ⟨0, Nat.zero_le _, rfl, by rw [show cerK G lead sy 0 = lead.length from rfl, ← HNL.out], G1, hide (Below.refl _ _)⟩
    case round =>
      obtain ⟨k, hk, rfl, rfl, GR, BR⟩ := hrel
      clear k0 k1 k2 k3 k4 k5 hcl
      obtain ⟨k0, k1, k2, k3, k4, k5⟩ := blk6 GR.out
      have hbel := B1.out.trans (BR.out.mono B1.out.size)
      obtain ⟨m, hm⟩ : ∃ m, m = cerK G lead sy k := ⟨_, rfl⟩
      rw [← hm]
      have hmle : m ≤ nl := by rw [hm, HNL.out]; exact cerK_le G lead sy k
      by_cases hlt : k < ny
      · obtain ⟨by_, oy, rfl, hcy⟩ := (HS.out.y.below hbel) k (by rw [HZ.out.hy]; exact hlt)
        have hrn := (HG.out.rise k (by rw [HZ.out.hy]; exact hlt)).1
        obtain ⟨x, hx⟩ : ∃ x, x = sy.getD k 0 := ⟨_, rfl⟩
        rw [← hx] at hcy hrn
        obtain ⟨b', off', hba, i, ai, ci, hxi, hi, hci, hsi⟩ := (HS.out.g.below hbel).at' x hrn.1 hrn.2
        cases hba
        subst hxi
        have hll := HZ.out.ls i hi
        obtain ⟨l, hl⟩ : ∃ l, l = G.getD i [] := ⟨_, rfl⟩
        rw [show gg G (i : Int) = l from hl.symm] at hci hsi
        rw [← hl] at hll
        obtain ⟨q, hq⟩ : ∃ q, q = l.length := ⟨_, rfl⟩
        rw [← hq] at hci hll
        have hiI : (i : Int) < (n : Int) := by have := HZ.out.hn; omega
        have hi0 : (0 : Int) ≤ (i : Int) := by omega
        have hltI : (k : Int) < (ny : Int) := by omega
        have C := hide (partAt_any ai al l lead q ci nl cl wr hq.symm HNL.out.symm hsi (HSL.out.below BR.out) hll hlls)
        have hple := (prt_le l lead).2
        obtain ⟨p, hp⟩ : ∃ p, p = prt l lead := ⟨_, rfl⟩
        rw [← hp] at C hple
        have hpn : p ≤ nl := by rw [HNL.out]; exact hple
        have hnext : cerK G lead sy (k + 1) = min m p := by
          show min (cerK G lead sy k) (prt (gg G (sy.getD k 0)) lead) = _
          rw [← hm, ← hx, show gg G (i : Int) = l from hl.symm, ← hp]
        have HNX := hide hnext
        have HB := hide hbel
        clear hrn hp hx hl hq hsi hnext hple hm hbel
        by_cases hpm : (p : Int) < (m : Int)
        · have hmin : min m p = p := by omega
          go_wp2_with fail
          refine C.out.mono ?_
          rintro e w4 ⟨rfl, hb⟩
          have B4 := hide (BR.out.trans (hb.mono BR.out.size))
          have G4 := hide ((hb.block w.heap.size (Array.getElem?_eq_some_iff.1 GR.out).1).trans GR.out)
          clear hb
          skip
          go_wp2
          go_roundw
          case rel => exact ⟨k + 1, by omega, by go_num, by rw [HNX.out, hmin] <;> (congr 1; omega), G4, B4⟩
          case measure => simp [intOf]; omega
        · have hmin : min m p = m := by omega
          go_wp2_with fail
          refine C.out.mono ?_
          rintro e w4 ⟨rfl, hb⟩
          have B4 := hide (BR.out.trans (hb.mono BR.out.size))
          have G4 := hide ((hb.block w.heap.size (Array.getElem?_eq_some_iff.1 GR.out).1).trans GR.out)
          clear hb
          skip
          go_wp2
          go_roundw
          case rel => exact ⟨k + 1, by omega, by go_num, by rw [HNX.out, hmin] <;> (congr 1; omega), G4, B4⟩
          case measure => simp [intOf]; omega
      · obtain rfl : k = ny := by omega
        have hltI : ¬ (k : Int) < (k : Int) := by omega
        have HE : Hid (rr = (m : Int)) := by
          show rr = (m : Int); rw [HRR.out, hm]; unfold cerL; rw [show gg G (il : Int) = lead from HLEAD.out.symm, HZ.out.hy]
        have HB := hide hbel
        clear hbel hm
        go_wp2
        go_ret2
        exact ⟨by rw [HE.out]; rfl, HB.out⟩
end Go.Proofs.Ythmekhhfihjclbd.L9

namespace Go.Proofs.Ythmekhhfihjclbd.L9
open Go.RowKit L1 L7
set_option linter.unusedVariables false

set_option maxRecDepth 100000 in
set_option maxHeartbeats 2000000 in
theorem settle_any (S : Nat → Prop) (b : Nat) (r : Rm) (w : World) (hI : Inv r) (hR : RB w S b r) (hS : ∀ q, S q → q < w.heap.size) :
    Calls Try.prog 89 #[.pointer (some ⟨b, 0, none⟩)] w fun e w' => e = .returned (.tuple #[]) ∧ Done S w b (setl r) w' := by
  obtain ⟨V, gb, cg, db, cd, ay, cy, ac, cc, hb, hW, hSb⟩ := hR.open hI
  have hnode := hI.node
  have hdn := hI.good.down
  obtain ⟨j, hj⟩ : ∃ j : Nat, r.ld = (j : Int) := ⟨r.ld.toNat, by omega⟩
  obtain ⟨C, hC⟩ : ∃ C, C = cerL r.G r.ld r.sy := ⟨_, rfl⟩
  have C1 := hide (implCertain_any (some ⟨gb, 0, none⟩) r.G.length cg (some ⟨db, 0, none⟩) r.dn.length cd r.ld r.ep ay r.sy.length cy ac r.ce.length cc r.G r.sy r.ce w (rpz_of hI) hW.rps.1 (C : Int) true ⟨fun _ => ⟨rfl, by rw [hC]⟩, fun h => absurd hI.good h⟩)
  have hle : C ≤ (r.G.getD j []).length := by
    have := cerK_le r.G r.lead r.sy r.sy.length
    rw [hC]
    have h2 : cerL r.G r.ld r.sy ≤ (r.G.getD r.ld.toNat []).length := this
    rw [hj, Int.toNat_natCast] at h2
    rw [← hj] at h2
    exact h2
  have gJ := (hI.good.logs.2 j (by omega)).1
  obtain ⟨n, hn⟩ : ∃ n, n = r.G.length := ⟨_, rfl⟩
  obtain ⟨nc, hnc⟩ : ∃ nc, nc = r.ce.length := ⟨_, rfl⟩
  obtain ⟨ny, hny⟩ : ∃ ny, ny = r.sy.length := ⟨_, rfl⟩
  obtain ⟨k0, k1, k2, k3, k4, k5⟩ := blk6 hb
  obtain ⟨aJ, kJ, eJ, lJ0, sJ⟩ := hW.logAt j (by omega)
  have oJ := hW.l j (by omega)
  rw [eJ] at oJ
  have capJ := own_capE oJ
  obtain ⟨q, hq⟩ : ∃ q, q = (r.G.getD j []).length := ⟨_, rfl⟩
  rw [← hq] at lJ0 capJ hle gJ
  rw [hdn, ← hn] at k1
  rw [← hn] at k0
  rw [hj] at k2
  rw [← hnc] at k5
  rw [← hny] at k4
  obtain ⟨E, hE⟩ : ∃ E, E = r.ep := ⟨_, rfl⟩
  rw [← hE] at k3
  rw [hdn, ← hn, ← hnc, ← hny, ← hE, hj] at C1
  have hjn : j < n := by omega
  have hjI : (j : Int) < (n : Int) := by omega
  have hj0 : (0 : Int) ≤ (j : Int) := by omega
  have HRF := hide hR
  have HWF := hide hW
  have HBF := hide hb
  have HCC0 := hide hC
  have HNC := hide hnc
  have HLD := hide hj
  have HQ := hide hq
  have HSJ := hide sJ
  have hbg : b ≠ gb := fun e => by subst e; exact box_ne hb hW.g
  clear hR hW hb hnode hdn hI hj hC hn hnc hny hE eJ oJ hq sJ
  go_enter Try.func89, Try.ntmps89
  go_wp2_with fail
  refine C1.out.mono ?_
  rintro e w1 ⟨rfl, hb1⟩
  have g0 := (hb1.cell (blk_lt9 k0)).trans k0
  have g2 := (hb1.cell (blk_lt9 k2)).trans k2
  have g5 := (hb1.cell (blk_lt9 k5)).trans k5
  have lJ := (hb1.cell (blk_lt9 lJ0)).trans lJ0
  have HB1 := hide ((hb1.block b (Array.getElem?_eq_some_iff.1 HBF.out).1).trans HBF.out)
  have HSJ1 := hide (HSJ.out.below hb1)
  have B1 := hide hb1
  clear hb1 k0 k1 k2 k3 k4 k5 lJ0 HSJ C1
  by_cases hlt : nc < C
  · have hltI : (nc : Int) < (C : Int) := by omega
    obtain ⟨lb, lo, rfl, _⟩ := HSJ1.out 0 (by rw [← HQ.out]; omega)
    obtain ⟨ce', hce⟩ : ∃ ce', ce' = (r.G.getD j []).take C := ⟨_, rfl⟩
    have hcl : ce'.length = C := by rw [hce, List.length_take, ← HQ.out]; omega
    have HCL : Hid ((flatE ce').length = C * 2) := by show (flatE ce').length = C * 2; rw [flatE_len, hcl]
    have HCC : Hid (∀ m, ∀ j u, (flatE ce')[j]? = some u → (w1.drewN m).cell? ((⟨lb, lo, none⟩ : Addr).add j) = some u) := hide (fun m => flatE_cells (by rw [hce]; exact slE_take (HSJ1.out.below (below_drewN (Below.refl _ _) m)) C))
    have HC1 := hide (flatE_one ce')
    have HCE := hide hce
    have HCN := hide hcl
    obtain ⟨d1, S1⟩ := slice_to (some ⟨lb, lo, none⟩) q kJ C hle capJ (fun e => by cases e)
    obtain ⟨i0, hi, hz0, hz1, hz2⟩ := info_parts info_ent
    clear hce hcl
    go_upto_region 2 with fail
    refine wp_region_held_drew (S := fun wx => wx.cell? ⟨b, 0, none⟩ = some (.slice (some ⟨gb, 0, none⟩) n cg) ∧ wx.cell? ⟨b, 2, none⟩ = some (.int .i64 (j : Int)) ∧ wx.cell? ⟨gb, j, none⟩ = some (.slice (some ⟨lb, lo, none⟩) q kJ)) (by kernel_rfl) ⟨g0, g2, lJ⟩ (fun hHeld => ?_)
    refine wpAnyH_take (i := 0) (v := ?v1) rfl (by kernel_rfl) (by kernel_rfl) (by kernel_rfl) (fun _ _ _ h => h) (Or.inl ⟨by rfl, ?y1⟩) (by assumption) ?r1
    case y1 => (intro w hSw; (try dsimp only at hSw); go_simp; try (with_reducible rfl))
    simp only [List.getElem_toArray, List.getElem_cons_zero, Act.put, List.setIfInBounds_toArray, List.set_cons_zero, List.set_cons_succ]
    refine wpAnyH_take (i := 1) (v := ?v2) rfl (by kernel_rfl) (by kernel_rfl) (by kernel_rfl) (fun _ _ _ h => h) (Or.inl ⟨by rfl, ?y2⟩) (by assumption) ?r2
    case y2 => (intro w hSw; (try dsimp only at hSw); go_simp; try (with_reducible rfl))
    simp only [List.getElem_toArray, List.getElem_cons_succ, List.getElem_cons_zero, Act.put, List.setIfInBounds_toArray, List.set_cons_zero, List.set_cons_succ]
    refine wpAnyH_take (i := 2) (v := ?v3) rfl (by kernel_rfl) (by kernel_rfl) (by kernel_rfl) (fun _ _ _ h => h) (Or.inl ⟨by rfl, ?y3⟩) (by assumption) ?r3
    case y3 => (intro w hSw; (try dsimp only at hSw); go_simp; try (with_reducible rfl))
    simp only [List.getElem_toArray, List.getElem_cons_succ, List.getElem_cons_zero, Act.put, List.setIfInBounds_toArray, List.set_cons_zero, List.set_cons_succ]
    refine wpAnyH_take (i := 3) (v := ?v4) rfl (by kernel_rfl) (by kernel_rfl) (by kernel_rfl) (fun _ _ _ h => h) (Or.inl ⟨by rfl, ?y4⟩) (by assumption) ?r4
    case y4 => (intro w hSw; (try dsimp only at hSw); go_simp; try (with_reducible rfl))
    simp only [List.getElem_toArray, List.getElem_cons_succ, List.getElem_cons_zero, Act.put, List.setIfInBounds_toArray, List.set_cons_zero, List.set_cons_succ]
    refine wpAnyH_take (i := 4) (v := ?v5) rfl (by kernel_rfl) (by kernel_rfl) (by kernel_rfl) (fun _ _ _ h => h) (Or.inl ⟨by rfl, ?y5⟩) (by assumption) ?r5
    case y5 => (intro w hSw; (try dsimp only at hSw); go_simp; try (with_reducible rfl))
    simp only [List.getElem_toArray, List.getElem_cons_succ, List.getElem_cons_zero, Act.put, List.setIfInBounds_toArray, List.set_cons_zero, List.set_cons_succ]
    refine wpAnyH_take (i := 5) (v := ?v6) rfl (by kernel_rfl) (by kernel_rfl) (by kernel_rfl) (fun _ _ _ h => h) (Or.inl ⟨by rfl, ?y6⟩) (by assumption) ?r6
    case y6 => (intro w hSw; (try dsimp only at hSw); go_simp; try (with_reducible rfl))
    simp only [List.getElem_toArray, List.getElem_cons_succ, List.getElem_cons_zero, Act.put, List.setIfInBounds_toArray, List.set_cons_zero, List.set_cons_succ]
    refine wpAnyH_take (i := 6) (v := ?v7) rfl (by kernel_rfl) (by kernel_rfl) (by kernel_rfl) (fun _ _ _ h => h) (Or.inl ⟨by rfl, ?y7⟩) (by assumption) ?r7
    case y7 => (intro w hSw; (try dsimp only at hSw); go_simp; try (with_reducible rfl))
    simp only [List.getElem_toArray, List.getElem_cons_succ, List.getElem_cons_zero, Act.put, List.setIfInBounds_toArray, List.set_cons_zero, List.set_cons_succ]
    refine wpAnyH_take (i := 7) (v := ?v8) rfl (by kernel_rfl) (by kernel_rfl) (by kernel_rfl) (fun _ _ _ h => h) (Or.inl ⟨by rfl, ?y8⟩) (by assumption) ?r8
    case y8 => (intro w hSw; (try dsimp only at hSw); go_simp; try (with_reducible rfl))
    simp only [List.getElem_toArray, List.getElem_cons_succ, List.getElem_cons_zero, Act.put, List.setIfInBounds_toArray, List.set_cons_zero, List.set_cons_succ]
    refine wpAnyH_take (i := 8) (v := ?v9) rfl (by kernel_rfl) (by kernel_rfl) (by kernel_rfl) (fun _ _ _ h => h) (Or.inl ⟨by rfl, ?y9⟩) (by assumption) ?r9
    case y9 => (intro w hSw; (try dsimp only at hSw); go_simp; try (with_reducible rfl))
    simp only [List.getElem_toArray, List.getElem_cons_succ, List.getElem_cons_zero, Act.put, List.setIfInBounds_toArray, List.set_cons_zero, List.set_cons_succ]
    refine wpAnyH_take (i := 9) (v := ?v10) rfl (by kernel_rfl) (by kernel_rfl) (by kernel_rfl) (fun _ _ _ h => h) (Or.inl ⟨by rfl, ?y10⟩) (by assumption) ?r10
    case y10 => (intro w hSw; (try dsimp only at hSw); go_simp; try (with_reducible rfl))
    simp only [List.getElem_toArray, List.getElem_cons_succ, List.getElem_cons_zero, Act.put, List.setIfInBounds_toArray, List.set_cons_zero, List.set_cons_succ]
    refine wpAnyH_take (i := 10) (v := ?v11) rfl (by kernel_rfl) (by kernel_rfl) (by kernel_rfl) (fun _ _ _ h => h) (Or.inl ⟨by rfl, ?y11⟩) (by assumption) ?r11
    case y11 => (intro w hSw; (try dsimp only at hSw); go_simp; try (with_reducible rfl))
    simp only [List.getElem_toArray, List.getElem_cons_succ, List.getElem_cons_zero, Act.put, List.setIfInBounds_toArray, List.set_cons_zero, List.set_cons_succ]
    refine wpAnyH_take (i := 11) (v := ?v12) rfl (by kernel_rfl) (by kernel_rfl) (by kernel_rfl) (fun _ _ _ h => h) (Or.inl ⟨by rfl, ?y12⟩) (by assumption) ?r12
    case y12 => (intro w hSw; (try dsimp only at hSw); go_simp; try (with_reducible rfl))
    simp only [List.getElem_toArray, List.getElem_cons_succ, List.getElem_cons_zero, Act.put, List.setIfInBounds_toArray, List.set_cons_zero, List.set_cons_succ]
    refine wpAnyH_take (i := 12) (v := ?v13) rfl (by kernel_rfl) (by kernel_rfl) (by kernel_rfl) (fun _ _ _ h => h) (Or.inl ⟨by rfl, ?y13⟩) (by assumption) ?r13
    case y13 => (intro w hSw; (try dsimp only at hSw); go_simp; try (with_reducible rfl))
    simp only [List.getElem_toArray, List.getElem_cons_succ, List.getElem_cons_zero, Act.put, List.setIfInBounds_toArray, List.set_cons_zero, List.set_cons_succ]
    refine wpAnyH_ready (rs := [13]) (by kernel_rfl) (by simp) ?_
    refine AllReadyH.cons rfl (fun K hK => ?_) AllReadyH.nil
    simp only [List.getElem_toArray, List.getElem_cons_succ, List.getElem_cons_zero]
    rw [if_pos (by rfl)]
    refine wp_append_lies _ (.const (.slice none 0 0)) (.tmp 30) 30 rfl w1.heap.size 93 i0 (.agg #[.int .i64 0, .string ByteArray.empty]) 2 24 Try.underlying30 hi hz0 hz1 hz2 rfl (by decide) (.slice none 0 0) 0 [] rfl (World.ownsRow_nil _ _ _ _) ⟨lb, lo, none⟩ C d1 (flatE ce') rfl HCL.out (HCC.out _) HC1.out (by omega) (by unfold maxLen; omega) (by omega) (Nat.le_refl _) _ rfl ?_
    intro g4 c4 w4 h4 hg4 hn4 _
    have hb4 : Below w1.heap.size w1 w4 := ⟨hg4.os, hg4.tape, hg4.output, hg4.size, fun k hk => hg4.block k hk (fun e => by cases e)⟩
    have x0 := (hb4.cell (p := ⟨b, 0, none⟩) (blk_lt9 g0)).trans g0
    have x2 := (hb4.cell (p := ⟨b, 2, none⟩) (blk_lt9 g2)).trans g2
    have x5 := (hb4.cell (p := ⟨b, 5, none⟩) (blk_lt9 g5)).trans g5
    have xl := (hb4.cell (p := ⟨gb, j, none⟩) (blk_lt9 lJ)).trans lJ
    have xf : ∀ c, w4.frozen? ⟨b, c, none⟩ = false := fun c => frz ((hb4.block b (Array.getElem?_eq_some_iff.1 HB1.out).1).trans HB1.out) c
    have HO4 := hide h4
    have HB4 := hide hb4
    clear h4 hg4 hn4 hb4
    refine hK.out _ _ ?_ (fun hHeld => ?_)
    · exact ⟨x0, x2, xl⟩
    clear hK K
    try simp only [Act.put, List.setIfInBounds_toArray, List.set_cons_zero, List.set_cons_succ]
    refine wpAnyH_take (i := 14) (v := ?v14) rfl (by kernel_rfl) (by kernel_rfl) (by kernel_rfl) (fun _ _ _ h => h) (Or.inl ⟨by rfl, ?y14⟩) (by assumption) ?r14
    case y14 => (intro w hSw; (try dsimp only at hSw); go_simp; try (with_reducible rfl))
    simp only [List.getElem_toArray, List.getElem_cons_succ, List.getElem_cons_zero, Act.put, List.setIfInBounds_toArray, List.set_cons_zero, List.set_cons_succ]
    refine wpAnyH_take (i := 15) (v := ?v15) rfl (by kernel_rfl) (by kernel_rfl) (by kernel_rfl) (fun _ _ _ h => h) (Or.inl ⟨by rfl, ?y15⟩) (by assumption) ?r15
    case y15 => (intro w hSw; (try dsimp only at hSw); go_simp; try (with_reducible rfl))
    simp only [List.getElem_toArray, List.getElem_cons_succ, List.getElem_cons_zero, Act.put, List.setIfInBounds_toArray, List.set_cons_zero, List.set_cons_succ]
    refine wpAnyH_ready (rs := [16]) (by kernel_rfl) (by simp) ?_
    refine AllReadyH.cons rfl (fun K hK => ?_) AllReadyH.nil
    simp only [List.getElem_toArray, List.getElem_cons_succ, List.getElem_cons_zero]
    go_simp
    refine hK.out _ _ ?_ (fun hHeld => ?_)
    · exact ⟨(cell_setO (by decide)).trans x0, (cell_setO (by decide)).trans x2, (cell_set9 (fun e => hbg e.symm)).trans xl⟩
    clear hK K
    try simp only [Act.put, List.setIfInBounds_toArray, List.set_cons_zero, List.set_cons_succ]
    refine wpAnyH_done (by kernel_rfl) ?_ _

    clear hHeld
    go_wp2
    go_end0
    refine ⟨rfl, ?_⟩
    have hbw := B1.out.trans (HB4.out.mono B1.out.size)
    have e1 : setl r = { r with ce := ce' } := by
      unfold setl
      rw [if_pos (by rw [← HCC0.out, ← HNC.out]; exact hlt), HCE.out, ← HCC0.out]
      show ({ r with ce := (r.G.getD r.ld.toNat []).take C } : Rm) = _
      rw [HLD.out, Int.toNat_natCast]
    rw [e1]
    exact done_cert HWF.out HBF.out hSb hbw _ ce' (by
      have h5 := HO4.out
      rw [List.nil_append, Nat.zero_add] at h5
      rw [HCN.out]
      exact own_baseZ h5 B1.out.size)
  · have hltI : ¬ (nc : Int) < (C : Int) := by omega
    go_wp2
    go_end0
    refine ⟨rfl, ?_⟩
    have e1 : setl r = r := by
      unfold setl
      rw [if_neg (by rw [← HCC0.out, ← HNC.out]; exact hlt)]
    rw [e1]
    exact HRF.out.same B1.out
end Go.Proofs.Ythmekhhfihjclbd.L9

namespace Go.Proofs.Ythmekhhfihjclbd.L9
open Go.RowKit L1 L7
set_option linter.unusedVariables false

theorem Done.pre {S : Nat → Prop} {w w2 w3 : World} {b : Nat} {r : Rm} (hb : Below w.heap.size w w2) (h : Done S w2 b r w3) : Done S w b r w3 :=
  ⟨h.1.mono (fun q hq => by
    rcases hq with hq | hq
    · exact .inl hq
    · exact .inr ⟨by have := hb.size; omega, hq.2⟩), (kept_below hb).trans h.2 (fun q _ h => h)⟩
theorem RB.below {S : Nat → Prop} {w w2 : World} {b : Nat} {r : Rm} (h : RB w S b r) (hb : Below w.heap.size w w2) : RB w2 S b r := h.at fun q _ hq => hb.block q hq
theorem run_store_func9 (w : World) (a : Addr) (m : Mode) (f : Fn) (c d : Array Value) : (store a (.func f c d) m).run Try.prog w = stored Try.prog w a (.func f c d) m := run_store Try.prog w a _ m rfl
theorem run_store_nil9 (w : World) (a : Addr) (m : Mode) : (store a .nilFunc m).run Try.prog w = stored Try.prog w a .nilFunc m := run_store Try.prog w a _ m rfl
theorem cell_newN (w : World) (cs : Array Value) (t : TypeId) (k : Nat) (v : Value) (h : cs[k]? = some v) : (w.alloc (.cells cs t)).cell? ⟨w.heap.size, k, none⟩ = some v := by
  unfold World.cell?
  rw [blk_new9 w (.cells cs t)]
  exact h
theorem kept_cell {S : Nat → Prop} {w w' : World} {p : Addr} {v : Value} (h : Kept S w w') (hn : ¬ S p.block) (hc : w.cell? p = some v) : w'.cell? p = some v := (World.cell?_of_block (h.block p.block (blk_lt9 hc) hn)).trans hc
attribute [local go_sem] run_store_func9 run_store_nil9
/-- What each kind of step does. -/
theorem doM_no {r : Rm} {kd nd : Int} {t : ByteArray} (h : ¬ GoodSt kd nd t r.G.length) : doM r kd nd t = none := by
  unfold doM
  by_cases k1 : kd = 1
  · rw [if_pos k1, if_neg (fun h2 => h (.inl ⟨k1, h2.1, h2.2.1⟩))]
  · rw [if_neg k1]
    split
    · rename_i hb
      have hk : ¬ (2 ≤ kd ∧ kd ≤ 7) := fun h2 => h (.inr ⟨h2, hb.2, hb.1⟩)
      rw [if_neg (by omega), if_neg (by omega), if_neg (by omega), if_neg (by omega), if_neg (by omega), if_neg (by omega)]
    · rfl
theorem doM_1 {r : Rm} {nd : Int} {t : ByteArray} (h : GoodSt 1 nd t r.G.length) : doM r 1 nd t = if r.down r.ld = false ∧ r.lead.length ≠ 40 ∧ lastE r.lead ≤ r.ep then some { r with G := r.G.set r.ld.toNat (r.lead ++ [(r.ep, t)]) } else none := by
  have h1 : nd = 0 ∧ t.size ≤ 20 := by rcases h with h | h <;> omega
  unfold doM
  rw [if_pos rfl]
  by_cases hc : r.down r.ld = false ∧ r.lead.length ≠ 40 ∧ lastE r.lead ≤ r.ep
  · rw [if_pos hc, if_pos ⟨h1.1, h1.2, hc⟩]
  · rw [if_neg hc, if_neg (fun h2 => hc h2.2.2)]
theorem doM_2 {r : Rm} {nd : Int} {t : ByteArray} (h : GoodSt 2 nd t r.G.length) : doM r 2 nd t = if nd ≠ r.ld ∧ r.down nd = false ∧ r.down r.ld = false then some { r with G := r.G.set nd.toNat (ftc (gg r.G nd) r.lead) } else none := by
  have h1 : t.size = 0 ∧ 0 ≤ nd ∧ nd < (r.G.length : Int) := by rcases h with h | h <;> omega
  unfold doM
  rw [if_neg (by decide), if_pos h1, if_pos rfl]
theorem doM_3 {r : Rm} {nd : Int} {t : ByteArray} (h : GoodSt 3 nd t r.G.length) : doM r 3 nd t = if nd ≠ r.ld ∧ r.down r.ld = false ∧ nd ∈ r.sy then some { r with sy := L4.those [nd] false r.sy } else none := by
  have h1 : t.size = 0 ∧ 0 ≤ nd ∧ nd < (r.G.length : Int) := by rcases h with h | h <;> omega
  unfold doM
  rw [if_neg (by decide), if_pos h1, if_neg (by decide), if_pos rfl]
theorem doM_4 {r : Rm} {nd : Int} {t : ByteArray} (h : GoodSt 4 nd t r.G.length) : doM r 4 nd t = if gg r.G nd = r.lead ∧ r.down r.ld = false ∧ nd ∉ r.sy then some { r with sy := L4.put r.sy nd } else none := by
  have h1 : t.size = 0 ∧ 0 ≤ nd ∧ nd < (r.G.length : Int) := by rcases h with h | h <;> omega
  unfold doM
  rw [if_neg (by decide), if_pos h1, if_neg (by decide), if_neg (by decide), if_pos rfl]
theorem doM_5 {r : Rm} {nd : Int} {t : ByteArray} (h : GoodSt 5 nd t r.G.length) : doM r 5 nd t = if r.down nd = false then some { r with dn := r.dn.set nd.toNat true } else none := by
  have h1 : t.size = 0 ∧ 0 ≤ nd ∧ nd < (r.G.length : Int) := by rcases h with h | h <;> omega
  unfold doM
  rw [if_neg (by decide), if_pos h1, if_neg (by decide), if_neg (by decide), if_neg (by decide), if_pos rfl]
theorem doM_6 {r : Rm} {nd : Int} {t : ByteArray} (h : GoodSt 6 nd t r.G.length) : doM r 6 nd t = if r.down nd = true then some { r with dn := r.dn.set nd.toNat false } else none := by
  have h1 : t.size = 0 ∧ 0 ≤ nd ∧ nd < (r.G.length : Int) := by rcases h with h | h <;> omega
  unfold doM
  rw [if_neg (by decide), if_pos h1, if_neg (by decide), if_neg (by decide), if_neg (by decide), if_neg (by decide), if_pos rfl]
theorem doM_7 {r : Rm} {nd : Int} {t : ByteArray} (h : GoodSt 7 nd t r.G.length) : doM r 7 nd t = if nd ∈ r.sy ∧ r.down nd = false ∧ r.ep ≠ 1000 then some { r with ld := nd, ep := r.ep + 1 } else none := by
  have h1 : t.size = 0 ∧ 0 ≤ nd ∧ nd < (r.G.length : Int) := by rcases h with h | h <;> omega
  unfold doM
  rw [if_neg (by decide), if_pos h1, if_neg (by decide), if_neg (by decide), if_neg (by decide), if_neg (by decide), if_neg (by decide), if_pos rfl]
set_option maxRecDepth 100000 in
set_option maxHeartbeats 4000000 in
theorem step_any (S : Nat → Prop) (b : Nat) (r : Rm) (w : World) (hI : Inv r) (hR : RB w S b r) (hS : ∀ q, S q → q < w.heap.size) (kd nd : Int) (t : ByteArray) (ht : t.size ≤ 9223372036854775807) (o : Option Rm) (ho : o = stepM r (kd, nd, t)) :
    Calls Try.prog 67 #[.pointer (some ⟨b, 0, none⟩), .agg #[.int .i64 kd, .int .i64 nd, .string t]] w fun e w' => e = .returned (.bool o.isSome) ∧ Done S w b (o.getD r) w' := by
  obtain ⟨V, gb, cg, db, cd, ay, cy, ac, cc, hb, hW, hSb⟩ := hR.open hI
  obtain ⟨n, hn⟩ : ∃ n, n = r.G.length := ⟨_, rfl⟩
  obtain ⟨bb, hbb⟩ : ∃ bb : Bool, bb = true ↔ GoodSt kd nd t n := by classical exact ⟨decide (GoodSt kd nd t n), by simp⟩
  obtain ⟨k0, _, _, _, _, _⟩ := blk6 hb
  rw [← hn] at k0
  have CG := hide (fun wx => goodStep_any kd nd t n wx ht bb hbb)
  have BX := (Below.refl w.heap.size w).alloc (Nat.le_refl _) (Obj.cells #[.int .i64 kd, .int .i64 nd, .string t] 50)
  have SX := blk_new9 w (Obj.cells #[.int .i64 kd, .int .i64 nd, .string t] 50)
  obtain ⟨w1, hw1⟩ : ∃ w1, w1 = w.alloc (Obj.cells #[.int .i64 kd, .int .i64 nd, .string t] 50) := ⟨_, rfl⟩
  have HW1 := hide hw1
  rw [← hw1] at BX SX
  clear hw1
  have s0 : w1.cell? ⟨w.heap.size, 0, none⟩ = some (.int .i64 kd) := by simp [World.cell?, SX]
  have s1 : w1.cell? ⟨w.heap.size, 1, none⟩ = some (.int .i64 nd) := by simp [World.cell?, SX]
  have s2 : w1.cell? ⟨w.heap.size, 2, none⟩ = some (.string t) := by simp [World.cell?, SX]
  have g0 := (BX.cell (blk_lt9 k0)).trans k0
  have hsz : w.heap.size < w1.heap.size := (Array.getElem?_eq_some_iff.1 SX).1
  have HI := hide hI
  have HRF := hide hR
  have BXF := hide BX
  have HBB := hide hbb
  have HO := hide ho
  have HN := hide hn
  have HSS := hide hS
  clear hI hR hb hW hn hbb SX BX ho hS k0
  go_enter Try.func67, Try.ntmps67
  go_upto_region 1 with fail
  rw [← HW1.out]
  refine wp_region_held_drew (S := fun wx => wx.cell? ⟨w.heap.size, 0, none⟩ = some (.int .i64 kd) ∧ wx.cell? ⟨w.heap.size, 1, none⟩ = some (.int .i64 nd) ∧ wx.cell? ⟨w.heap.size, 2, none⟩ = some (.string t) ∧ wx.cell? ⟨b, 0, none⟩ = some (.slice (some ⟨gb, 0, none⟩) n cg)) (by kernel_rfl) ⟨s0, s1, s2, g0⟩ (fun hHeld => ?_)
  refine wpAnyH_take (i := 0) (v := ?v1) rfl (by kernel_rfl) (by kernel_rfl) (by kernel_rfl) (fun _ _ _ h => h) (Or.inl ⟨by rfl, ?y1⟩) (by assumption) ?r1
  case y1 => (intro w hSw; (try dsimp only at hSw); go_simp; try (with_reducible rfl))
  simp only [List.getElem_toArray, List.getElem_cons_zero, Act.put, List.setIfInBounds_toArray, List.set_cons_zero, List.set_cons_succ]
  refine wpAnyH_take (i := 1) (v := ?v2) rfl (by kernel_rfl) (by kernel_rfl) (by kernel_rfl) (fun _ _ _ h => h) (Or.inl ⟨by rfl, ?y2⟩) (by assumption) ?r2
  case y2 => (intro w hSw; (try dsimp only at hSw); go_simp; try (with_reducible rfl))
  simp only [List.getElem_toArray, List.getElem_cons_succ, List.getElem_cons_zero, Act.put, List.setIfInBounds_toArray, List.set_cons_zero, List.set_cons_succ]
  refine wpAnyH_take (i := 2) (v := ?v3) rfl (by kernel_rfl) (by kernel_rfl) (by kernel_rfl) (fun _ _ _ h => h) (Or.inl ⟨by rfl, ?y3⟩) (by assumption) ?r3
  case y3 => (intro w hSw; (try dsimp only at hSw); go_simp; try (with_reducible rfl))
  simp only [List.getElem_toArray, List.getElem_cons_succ, List.getElem_cons_zero, Act.put, List.setIfInBounds_toArray, List.set_cons_zero, List.set_cons_succ]
  refine wpAnyH_take (i := 3) (v := ?v4) rfl (by kernel_rfl) (by kernel_rfl) (by kernel_rfl) (fun _ _ _ h => h) (Or.inl ⟨by rfl, ?y4⟩) (by assumption) ?r4
  case y4 => (intro w hSw; (try dsimp only at hSw); go_simp; try (with_reducible rfl))
  simp only [List.getElem_toArray, List.getElem_cons_succ, List.getElem_cons_zero, Act.put, List.setIfInBounds_toArray, List.set_cons_zero, List.set_cons_succ]
  refine wpAnyH_take (i := 4) (v := ?v5) rfl (by kernel_rfl) (by kernel_rfl) (by kernel_rfl) (fun _ _ _ h => h) (Or.inl ⟨by rfl, ?y5⟩) (by assumption) ?r5
  case y5 => (intro w hSw; (try dsimp only at hSw); go_simp; try (with_reducible rfl))
  simp only [List.getElem_toArray, List.getElem_cons_succ, List.getElem_cons_zero, Act.put, List.setIfInBounds_toArray, List.set_cons_zero, List.set_cons_succ]
  refine wpAnyH_take (i := 5) (v := ?v6) rfl (by kernel_rfl) (by kernel_rfl) (by kernel_rfl) (fun _ _ _ h => h) (Or.inl ⟨by rfl, ?y6⟩) (by assumption) ?r6
  case y6 => (intro w hSw; (try dsimp only at hSw); go_simp; try (with_reducible rfl))
  simp only [List.getElem_toArray, List.getElem_cons_succ, List.getElem_cons_zero, Act.put, List.setIfInBounds_toArray, List.set_cons_zero, List.set_cons_succ]
  refine wpAnyH_ready (rs := [6]) (by kernel_rfl) (by simp) ?_
  refine AllReadyH.cons rfl (fun K hK => ?_) AllReadyH.nil
  simp only [List.getElem_toArray, List.getElem_cons_succ, List.getElem_cons_zero]
  go_simp
  go_at_call 81
  refine (CG.out _).mono ?_
  rintro e w2 ⟨rfl, hb2⟩
  dsimp only
  refine hK.out _ _ ?_ (fun hHeld => ?_)
  · exact ⟨(hb2.cell (blk_lt9 hHeld.1)).trans hHeld.1, (hb2.cell (blk_lt9 hHeld.2.1)).trans hHeld.2.1, (hb2.cell (blk_lt9 hHeld.2.2.1)).trans hHeld.2.2.1, (hb2.cell (blk_lt9 hHeld.2.2.2)).trans hHeld.2.2.2⟩
  clear hK K
  try simp only [Act.put, List.setIfInBounds_toArray, List.set_cons_zero, List.set_cons_succ]
  refine wpAnyH_take (i := 7) (v := ?v7) rfl (by kernel_rfl) (by kernel_rfl) (by kernel_rfl) (fun _ _ _ h => h) (Or.inl ⟨by rfl, ?y7⟩) (by assumption) ?r7
  case y7 => (intro w hSw; (try dsimp only at hSw); go_simp; try (with_reducible rfl))
  simp only [List.getElem_toArray, List.getElem_cons_succ, List.getElem_cons_zero, Act.put, List.setIfInBounds_toArray, List.set_cons_zero, List.set_cons_succ]
  refine wpAnyH_done (by kernel_rfl) ?_ _

  have B2 := hide (BXF.out.trans (((Below.refl w1.heap.size w1).drew.trans hb2).mono BXF.out.size))
  obtain ⟨q0, q1, q2, _⟩ := hHeld
  have hsz2 : w.heap.size < w2.heap.size := by have := hb2.size; have h3 : w1.drew.heap.size = w1.heap.size := rfl; omega
  clear hHeld hb2 s0 s1 s2 g0 CG HW1 BXF hsz
  cases bb with
  | false =>
    go_wp2
    go_ret
    have e0 : o = none := by
      rw [HO.out]
      unfold stepM
      rw [doM_no (fun h => by have := HBB.out.2 (by rw [HN.out]; exact h); cases this)]
      rfl
    exact ⟨by rw [e0]; rfl, by rw [e0]; exact HRF.out.same B2.out⟩
  | true =>
    have hg := HBB.out.1 (by first | rfl | trivial)
    rw [HN.out] at hg
    have HG := hide hg
    have hkd : kd = 1 ∨ kd = 2 ∨ kd = 3 ∨ kd = 4 ∨ kd = 5 ∨ kd = 6 ∨ kd = 7 := by rcases hg with h | h <;> omega
    clear hg HBB HN
    rcases hkd with rfl | rfl | rfl | rfl | rfl | rfl | rfl
    · have hdo := doM_1 HG.out
      obtain ⟨x, hx⟩ : ∃ x, x = doM r 1 nd t := ⟨_, rfl⟩
      have hst : o = x.map setl := by rw [HO.out, hx]; rfl
      have HX := hide hx
      have HST := hide hst
      have hnd : 0 ≤ nd ∧ nd < (r.G.length : Int) := by
        have h5 := HI.out.good.logs.1
        rcases HG.out with h | h <;> omega
      have CM := hide (fun wx (hb : Below w.heap.size w wx) => write_any S b r wx HI.out (HRF.out.below hb) (fun q hq => Nat.lt_of_lt_of_le (HSS.out q hq) hb.size) 1 nd t hnd.1 hnd.2 x (by rw [hx, hdo]))
      have hns0 : ¬ S w.heap.size := fun h => Nat.lt_irrefl _ (HSS.out _ h)
      have hnsA : ¬ S w2.heap.size := fun h => by have := HSS.out _ h; omega
      clear hdo hx hst hnd
      go_upto_region 4 with fail
      refine wp_region_held_drew (S := fun wx => wx.cell? ⟨w.heap.size, 0, none⟩ = some (.int .i64 1) ∧ wx.cell? ⟨w.heap.size, 1, none⟩ = some (.int .i64 nd) ∧ wx.cell? ⟨w.heap.size, 2, none⟩ = some (.string t) ∧ wx.cell? ⟨w2.heap.size, 1, none⟩ = some (.func (.func 82) #[] #[])) (by kernel_rfl) ⟨Go.Lib.cell?_alloc_some _ q0, Go.Lib.cell?_alloc_some _ q1, Go.Lib.cell?_alloc_some _ q2, cell_newN _ _ _ 1 _ rfl⟩ (fun hHeld => ?_)
      refine wpAnyH_take (i := 0) (v := ?v8) rfl (by kernel_rfl) (by kernel_rfl) (by kernel_rfl) (fun _ _ _ h => h) (Or.inl ⟨by rfl, ?y8⟩) (by assumption) ?r8
      case y8 => (intro w hSw; (try dsimp only at hSw); go_simp; try (with_reducible rfl))
      simp only [List.getElem_toArray, List.getElem_cons_zero, Act.put, List.setIfInBounds_toArray, List.set_cons_zero, List.set_cons_succ]
      refine wpAnyH_take (i := 1) (v := ?v9) rfl (by kernel_rfl) (by kernel_rfl) (by kernel_rfl) (fun _ _ _ h => h) (Or.inl ⟨by rfl, ?y9⟩) (by assumption) ?r9
      case y9 => (intro w hSw; (try dsimp only at hSw); go_simp; try (with_reducible rfl))
      simp only [List.getElem_toArray, List.getElem_cons_succ, List.getElem_cons_zero, Act.put, List.setIfInBounds_toArray, List.set_cons_zero, List.set_cons_succ]
      refine wpAnyH_take (i := 2) (v := ?v10) rfl (by kernel_rfl) (by kernel_rfl) (by kernel_rfl) (fun _ _ _ h => h) (Or.inl ⟨by rfl, ?y10⟩) (by assumption) ?r10
      case y10 => (intro w hSw; (try dsimp only at hSw); go_simp; try (with_reducible rfl))
      simp only [List.getElem_toArray, List.getElem_cons_succ, List.getElem_cons_zero, Act.put, List.setIfInBounds_toArray, List.set_cons_zero, List.set_cons_succ]
      refine wpAnyH_take (i := 3) (v := ?v11) rfl (by kernel_rfl) (by kernel_rfl) (by kernel_rfl) (fun _ _ _ h => h) (Or.inl ⟨by rfl, ?y11⟩) (by assumption) ?r11
      case y11 => (intro w hSw; (try dsimp only at hSw); go_simp; try (with_reducible rfl))
      simp only [List.getElem_toArray, List.getElem_cons_succ, List.getElem_cons_zero, Act.put, List.setIfInBounds_toArray, List.set_cons_zero, List.set_cons_succ]
      refine wpAnyH_take (i := 4) (v := ?v12) rfl (by kernel_rfl) (by kernel_rfl) (by kernel_rfl) (fun _ _ _ h => h) (Or.inl ⟨by rfl, ?y12⟩) (by assumption) ?r12
      case y12 => (intro w hSw; (try dsimp only at hSw); go_simp; try (with_reducible rfl))
      simp only [List.getElem_toArray, List.getElem_cons_succ, List.getElem_cons_zero, Act.put, List.setIfInBounds_toArray, List.set_cons_zero, List.set_cons_succ]
      refine wpAnyH_take (i := 5) (v := ?v13) rfl (by kernel_rfl) (by kernel_rfl) (by kernel_rfl) (fun _ _ _ h => h) (Or.inl ⟨by rfl, ?y13⟩) (by assumption) ?r13
      case y13 => (intro w hSw; (try dsimp only at hSw); go_simp; try (with_reducible rfl))
      simp only [List.getElem_toArray, List.getElem_cons_succ, List.getElem_cons_zero, Act.put, List.setIfInBounds_toArray, List.set_cons_zero, List.set_cons_succ]
      refine wpAnyH_ready (rs := [6]) (by kernel_rfl) (by simp) ?_
      refine AllReadyH.cons rfl (fun K hK => ?_) AllReadyH.nil
      simp only [List.getElem_toArray, List.getElem_cons_succ, List.getElem_cons_zero]
      go_simp
      go_at_call 82
      have hB3 := fun OB => B2.out.trans ((((Below.refl w2.heap.size w2).alloc (Nat.le_refl _) OB).drew).mono B2.out.size)
      refine (CM.out _ (hB3 _)).mono ?_
      rintro e w4 ⟨rfl, hD4⟩
      have hD5 := hide (Done.pre (hB3 _) hD4)
      dsimp only
      refine hK.out _ _ ?_ (fun hHeld => ?_)
      · exact ⟨kept_cell hD4.2 hns0 hHeld.1, kept_cell hD4.2 hns0 hHeld.2.1, kept_cell hD4.2 hns0 hHeld.2.2.1, kept_cell hD4.2 hnsA hHeld.2.2.2⟩
      clear hK K
      try simp only [Act.put, List.setIfInBounds_toArray, List.set_cons_zero, List.set_cons_succ]
      refine wpAnyH_take (i := 7) (v := ?v14) rfl (by kernel_rfl) (by kernel_rfl) (by kernel_rfl) (fun _ _ _ h => h) (Or.inl ⟨by rfl, ?y14⟩) (by assumption) ?r14
      case y14 => (intro w hSw; (try dsimp only at hSw); go_simp; try (with_reducible rfl))
      simp only [List.getElem_toArray, List.getElem_cons_succ, List.getElem_cons_zero, Act.put, List.setIfInBounds_toArray, List.set_cons_zero, List.set_cons_succ]
      refine wpAnyH_done (by kernel_rfl) ?_ _

      have HD := hD5
      clear hHeld hD4 hD5 hB3 CM
      cases x with
      | none =>
        have e0 : o = none := HST.out
        go_wp2
        go_ret
        exact ⟨by rw [e0]; rfl, by rw [e0]; exact HD.out⟩
      | some y =>
        have e0 : o = some (setl y) := HST.out
        have hIy := HI.out.step HX.out.symm
        have hgs := HD.out.2.size
        have CS := hide (settle_any (Grow S w w4) b y w4 hIy HD.out.1 (grow_lt HSS.out hgs))
        have HE0 := hide e0
        clear e0 hIy
        go_wp2_with fail
        refine CS.out.mono ?_
        rintro e w5 ⟨rfl, hD6⟩
        have HD6 := hide (HD.out.trans hD6)
        clear hD6
        go_wp2
        go_ret
        exact ⟨by rw [HE0.out]; rfl, by rw [HE0.out]; exact HD6.out⟩
    · have hdo := doM_2 HG.out
      obtain ⟨x, hx⟩ : ∃ x, x = doM r 2 nd t := ⟨_, rfl⟩
      have hst : o = x.map setl := by rw [HO.out, hx]; rfl
      have HX := hide hx
      have HST := hide hst
      have hnd : 0 ≤ nd ∧ nd < (r.G.length : Int) := by
        have h5 := HI.out.good.logs.1
        rcases HG.out with h | h <;> omega
      have CM := hide (fun wx (hb : Below w.heap.size w wx) => fetch_any S b r wx HI.out (HRF.out.below hb) (fun q hq => Nat.lt_of_lt_of_le (HSS.out q hq) hb.size) 2 nd t hnd.1 hnd.2 x (by rw [hx, hdo]))
      have hns0 : ¬ S w.heap.size := fun h => Nat.lt_irrefl _ (HSS.out _ h)
      have hnsA : ¬ S w2.heap.size := fun h => by have := HSS.out _ h; omega
      clear hdo hx hst hnd
      go_upto_region 4 with fail
      refine wp_region_held_drew (S := fun wx => wx.cell? ⟨w.heap.size, 0, none⟩ = some (.int .i64 2) ∧ wx.cell? ⟨w.heap.size, 1, none⟩ = some (.int .i64 nd) ∧ wx.cell? ⟨w.heap.size, 2, none⟩ = some (.string t) ∧ wx.cell? ⟨w2.heap.size, 2, none⟩ = some (.func (.func 83) #[] #[])) (by kernel_rfl) ⟨Go.Lib.cell?_alloc_some _ q0, Go.Lib.cell?_alloc_some _ q1, Go.Lib.cell?_alloc_some _ q2, cell_newN _ _ _ 2 _ rfl⟩ (fun hHeld => ?_)
      refine wpAnyH_take (i := 0) (v := ?v15) rfl (by kernel_rfl) (by kernel_rfl) (by kernel_rfl) (fun _ _ _ h => h) (Or.inl ⟨by rfl, ?y15⟩) (by assumption) ?r15
      case y15 => (intro w hSw; (try dsimp only at hSw); go_simp; try (with_reducible rfl))
      simp only [List.getElem_toArray, List.getElem_cons_zero, Act.put, List.setIfInBounds_toArray, List.set_cons_zero, List.set_cons_succ]
      refine wpAnyH_take (i := 1) (v := ?v16) rfl (by kernel_rfl) (by kernel_rfl) (by kernel_rfl) (fun _ _ _ h => h) (Or.inl ⟨by rfl, ?y16⟩) (by assumption) ?r16
      case y16 => (intro w hSw; (try dsimp only at hSw); go_simp; try (with_reducible rfl))
      simp only [List.getElem_toArray, List.getElem_cons_succ, List.getElem_cons_zero, Act.put, List.setIfInBounds_toArray, List.set_cons_zero, List.set_cons_succ]
      refine wpAnyH_take (i := 2) (v := ?v17) rfl (by kernel_rfl) (by kernel_rfl) (by kernel_rfl) (fun _ _ _ h => h) (Or.inl ⟨by rfl, ?y17⟩) (by assumption) ?r17
      case y17 => (intro w hSw; (try dsimp only at hSw); go_simp; try (with_reducible rfl))
      simp only [List.getElem_toArray, List.getElem_cons_succ, List.getElem_cons_zero, Act.put, List.setIfInBounds_toArray, List.set_cons_zero, List.set_cons_succ]
      refine wpAnyH_take (i := 3) (v := ?v18) rfl (by kernel_rfl) (by kernel_rfl) (by kernel_rfl) (fun _ _ _ h => h) (Or.inl ⟨by rfl, ?y18⟩) (by assumption) ?r18
      case y18 => (intro w hSw; (try dsimp only at hSw); go_simp; try (with_reducible rfl))
      simp only [List.getElem_toArray, List.getElem_cons_succ, List.getElem_cons_zero, Act.put, List.setIfInBounds_toArray, List.set_cons_zero, List.set_cons_succ]
      refine wpAnyH_take (i := 4) (v := ?v19) rfl (by kernel_rfl) (by kernel_rfl) (by kernel_rfl) (fun _ _ _ h => h) (Or.inl ⟨by rfl, ?y19⟩) (by assumption) ?r19
      case y19 => (intro w hSw; (try dsimp only at hSw); go_simp; try (with_reducible rfl))
      simp only [List.getElem_toArray, List.getElem_cons_succ, List.getElem_cons_zero, Act.put, List.setIfInBounds_toArray, List.set_cons_zero, List.set_cons_succ]
      refine wpAnyH_take (i := 5) (v := ?v20) rfl (by kernel_rfl) (by kernel_rfl) (by kernel_rfl) (fun _ _ _ h => h) (Or.inl ⟨by rfl, ?y20⟩) (by assumption) ?r20
      case y20 => (intro w hSw; (try dsimp only at hSw); go_simp; try (with_reducible rfl))
      simp only [List.getElem_toArray, List.getElem_cons_succ, List.getElem_cons_zero, Act.put, List.setIfInBounds_toArray, List.set_cons_zero, List.set_cons_succ]
      refine wpAnyH_ready (rs := [6]) (by kernel_rfl) (by simp) ?_
      refine AllReadyH.cons rfl (fun K hK => ?_) AllReadyH.nil
      simp only [List.getElem_toArray, List.getElem_cons_succ, List.getElem_cons_zero]
      go_simp
      go_at_call 83
      have hB3 := fun OB => B2.out.trans ((((Below.refl w2.heap.size w2).alloc (Nat.le_refl _) OB).drew).mono B2.out.size)
      refine (CM.out _ (hB3 _)).mono ?_
      rintro e w4 ⟨rfl, hD4⟩
      have hD5 := hide (Done.pre (hB3 _) hD4)
      dsimp only
      refine hK.out _ _ ?_ (fun hHeld => ?_)
      · exact ⟨kept_cell hD4.2 hns0 hHeld.1, kept_cell hD4.2 hns0 hHeld.2.1, kept_cell hD4.2 hns0 hHeld.2.2.1, kept_cell hD4.2 hnsA hHeld.2.2.2⟩
      clear hK K
      try simp only [Act.put, List.setIfInBounds_toArray, List.set_cons_zero, List.set_cons_succ]
      refine wpAnyH_take (i := 7) (v := ?v21) rfl (by kernel_rfl) (by kernel_rfl) (by kernel_rfl) (fun _ _ _ h => h) (Or.inl ⟨by rfl, ?y21⟩) (by assumption) ?r21
      case y21 => (intro w hSw; (try dsimp only at hSw); go_simp; try (with_reducible rfl))
      simp only [List.getElem_toArray, List.getElem_cons_succ, List.getElem_cons_zero, Act.put, List.setIfInBounds_toArray, List.set_cons_zero, List.set_cons_succ]
      refine wpAnyH_done (by kernel_rfl) ?_ _

      have HD := hD5
      clear hHeld hD4 hD5 hB3 CM
      cases x with
      | none =>
        have e0 : o = none := HST.out
        go_wp2
        go_ret
        exact ⟨by rw [e0]; rfl, by rw [e0]; exact HD.out⟩
      | some y =>
        have e0 : o = some (setl y) := HST.out
        have hIy := HI.out.step HX.out.symm
        have hgs := HD.out.2.size
        have CS := hide (settle_any (Grow S w w4) b y w4 hIy HD.out.1 (grow_lt HSS.out hgs))
        have HE0 := hide e0
        clear e0 hIy
        go_wp2_with fail
        refine CS.out.mono ?_
        rintro e w5 ⟨rfl, hD6⟩
        have HD6 := hide (HD.out.trans hD6)
        clear hD6
        go_wp2
        go_ret
        exact ⟨by rw [HE0.out]; rfl, by rw [HE0.out]; exact HD6.out⟩
    · have hdo := doM_3 HG.out
      obtain ⟨x, hx⟩ : ∃ x, x = doM r 3 nd t := ⟨_, rfl⟩
      have hst : o = x.map setl := by rw [HO.out, hx]; rfl
      have HX := hide hx
      have HST := hide hst
      have hnd : 0 ≤ nd ∧ nd < (r.G.length : Int) := by
        have h5 := HI.out.good.logs.1
        rcases HG.out with h | h <;> omega
      have CM := hide (fun wx (hb : Below w.heap.size w wx) => leave_any S b r wx HI.out (HRF.out.below hb) (fun q hq => Nat.lt_of_lt_of_le (HSS.out q hq) hb.size) 3 nd t hnd.1 hnd.2 x (by rw [hx, hdo]))
      have hns0 : ¬ S w.heap.size := fun h => Nat.lt_irrefl _ (HSS.out _ h)
      have hnsA : ¬ S w2.heap.size := fun h => by have := HSS.out _ h; omega
      clear hdo hx hst hnd
      go_upto_region 4 with fail
      refine wp_region_held_drew (S := fun wx => wx.cell? ⟨w.heap.size, 0, none⟩ = some (.int .i64 3) ∧ wx.cell? ⟨w.heap.size, 1, none⟩ = some (.int .i64 nd) ∧ wx.cell? ⟨w.heap.size, 2, none⟩ = some (.string t) ∧ wx.cell? ⟨w2.heap.size, 3, none⟩ = some (.func (.func 84) #[] #[])) (by kernel_rfl) ⟨Go.Lib.cell?_alloc_some _ q0, Go.Lib.cell?_alloc_some _ q1, Go.Lib.cell?_alloc_some _ q2, cell_newN _ _ _ 3 _ rfl⟩ (fun hHeld => ?_)
      refine wpAnyH_take (i := 0) (v := ?v22) rfl (by kernel_rfl) (by kernel_rfl) (by kernel_rfl) (fun _ _ _ h => h) (Or.inl ⟨by rfl, ?y22⟩) (by assumption) ?r22
      case y22 => (intro w hSw; (try dsimp only at hSw); go_simp; try (with_reducible rfl))
      simp only [List.getElem_toArray, List.getElem_cons_zero, Act.put, List.setIfInBounds_toArray, List.set_cons_zero, List.set_cons_succ]
      refine wpAnyH_take (i := 1) (v := ?v23) rfl (by kernel_rfl) (by kernel_rfl) (by kernel_rfl) (fun _ _ _ h => h) (Or.inl ⟨by rfl, ?y23⟩) (by assumption) ?r23
      case y23 => (intro w hSw; (try dsimp only at hSw); go_simp; try (with_reducible rfl))
      simp only [List.getElem_toArray, List.getElem_cons_succ, List.getElem_cons_zero, Act.put, List.setIfInBounds_toArray, List.set_cons_zero, List.set_cons_succ]
      refine wpAnyH_take (i := 2) (v := ?v24) rfl (by kernel_rfl) (by kernel_rfl) (by kernel_rfl) (fun _ _ _ h => h) (Or.inl ⟨by rfl, ?y24⟩) (by assumption) ?r24
      case y24 => (intro w hSw; (try dsimp only at hSw); go_simp; try (with_reducible rfl))
      simp only [List.getElem_toArray, List.getElem_cons_succ, List.getElem_cons_zero, Act.put, List.setIfInBounds_toArray, List.set_cons_zero, List.set_cons_succ]
      refine wpAnyH_take (i := 3) (v := ?v25) rfl (by kernel_rfl) (by kernel_rfl) (by kernel_rfl) (fun _ _ _ h => h) (Or.inl ⟨by rfl, ?y25⟩) (by assumption) ?r25
      case y25 => (intro w hSw; (try dsimp only at hSw); go_simp; try (with_reducible rfl))
      simp only [List.getElem_toArray, List.getElem_cons_succ, List.getElem_cons_zero, Act.put, List.setIfInBounds_toArray, List.set_cons_zero, List.set_cons_succ]
      refine wpAnyH_take (i := 4) (v := ?v26) rfl (by kernel_rfl) (by kernel_rfl) (by kernel_rfl) (fun _ _ _ h => h) (Or.inl ⟨by rfl, ?y26⟩) (by assumption) ?r26
      case y26 => (intro w hSw; (try dsimp only at hSw); go_simp; try (with_reducible rfl))
      simp only [List.getElem_toArray, List.getElem_cons_succ, List.getElem_cons_zero, Act.put, List.setIfInBounds_toArray, List.set_cons_zero, List.set_cons_succ]
      refine wpAnyH_take (i := 5) (v := ?v27) rfl (by kernel_rfl) (by kernel_rfl) (by kernel_rfl) (fun _ _ _ h => h) (Or.inl ⟨by rfl, ?y27⟩) (by assumption) ?r27
      case y27 => (intro w hSw; (try dsimp only at hSw); go_simp; try (with_reducible rfl))
      simp only [List.getElem_toArray, List.getElem_cons_succ, List.getElem_cons_zero, Act.put, List.setIfInBounds_toArray, List.set_cons_zero, List.set_cons_succ]
      refine wpAnyH_ready (rs := [6]) (by kernel_rfl) (by simp) ?_
      refine AllReadyH.cons rfl (fun K hK => ?_) AllReadyH.nil
      simp only [List.getElem_toArray, List.getElem_cons_succ, List.getElem_cons_zero]
      go_simp
      go_at_call 84
      have hB3 := fun OB => B2.out.trans ((((Below.refl w2.heap.size w2).alloc (Nat.le_refl _) OB).drew).mono B2.out.size)
      refine (CM.out _ (hB3 _)).mono ?_
      rintro e w4 ⟨rfl, hD4⟩
      have hD5 := hide (Done.pre (hB3 _) hD4)
      dsimp only
      refine hK.out _ _ ?_ (fun hHeld => ?_)
      · exact ⟨kept_cell hD4.2 hns0 hHeld.1, kept_cell hD4.2 hns0 hHeld.2.1, kept_cell hD4.2 hns0 hHeld.2.2.1, kept_cell hD4.2 hnsA hHeld.2.2.2⟩
      clear hK K
      try simp only [Act.put, List.setIfInBounds_toArray, List.set_cons_zero, List.set_cons_succ]
      refine wpAnyH_take (i := 7) (v := ?v28) rfl (by kernel_rfl) (by kernel_rfl) (by kernel_rfl) (fun _ _ _ h => h) (Or.inl ⟨by rfl, ?y28⟩) (by assumption) ?r28
      case y28 => (intro w hSw; (try dsimp only at hSw); go_simp; try (with_reducible rfl))
      simp only [List.getElem_toArray, List.getElem_cons_succ, List.getElem_cons_zero, Act.put, List.setIfInBounds_toArray, List.set_cons_zero, List.set_cons_succ]
      refine wpAnyH_done (by kernel_rfl) ?_ _

      have HD := hD5
      clear hHeld hD4 hD5 hB3 CM
      cases x with
      | none =>
        have e0 : o = none := HST.out
        go_wp2
        go_ret
        exact ⟨by rw [e0]; rfl, by rw [e0]; exact HD.out⟩
      | some y =>
        have e0 : o = some (setl y) := HST.out
        have hIy := HI.out.step HX.out.symm
        have hgs := HD.out.2.size
        have CS := hide (settle_any (Grow S w w4) b y w4 hIy HD.out.1 (grow_lt HSS.out hgs))
        have HE0 := hide e0
        clear e0 hIy
        go_wp2_with fail
        refine CS.out.mono ?_
        rintro e w5 ⟨rfl, hD6⟩
        have HD6 := hide (HD.out.trans hD6)
        clear hD6
        go_wp2
        go_ret
        exact ⟨by rw [HE0.out]; rfl, by rw [HE0.out]; exact HD6.out⟩
    · have hdo := doM_4 HG.out
      obtain ⟨x, hx⟩ : ∃ x, x = doM r 4 nd t := ⟨_, rfl⟩
      have hst : o = x.map setl := by rw [HO.out, hx]; rfl
      have HX := hide hx
      have HST := hide hst
      have hnd : 0 ≤ nd ∧ nd < (r.G.length : Int) := by
        have h5 := HI.out.good.logs.1
        rcases HG.out with h | h <;> omega
      have CM := hide (fun wx (hb : Below w.heap.size w wx) => join_any S b r wx HI.out (HRF.out.below hb) (fun q hq => Nat.lt_of_lt_of_le (HSS.out q hq) hb.size) 4 nd t hnd.1 hnd.2 x (by rw [hx, hdo]))
      have hns0 : ¬ S w.heap.size := fun h => Nat.lt_irrefl _ (HSS.out _ h)
      have hnsA : ¬ S w2.heap.size := fun h => by have := HSS.out _ h; omega
      clear hdo hx hst hnd
      go_upto_region 4 with fail
      refine wp_region_held_drew (S := fun wx => wx.cell? ⟨w.heap.size, 0, none⟩ = some (.int .i64 4) ∧ wx.cell? ⟨w.heap.size, 1, none⟩ = some (.int .i64 nd) ∧ wx.cell? ⟨w.heap.size, 2, none⟩ = some (.string t) ∧ wx.cell? ⟨w2.heap.size, 4, none⟩ = some (.func (.func 85) #[] #[])) (by kernel_rfl) ⟨Go.Lib.cell?_alloc_some _ q0, Go.Lib.cell?_alloc_some _ q1, Go.Lib.cell?_alloc_some _ q2, cell_newN _ _ _ 4 _ rfl⟩ (fun hHeld => ?_)
      refine wpAnyH_take (i := 0) (v := ?v29) rfl (by kernel_rfl) (by kernel_rfl) (by kernel_rfl) (fun _ _ _ h => h) (Or.inl ⟨by rfl, ?y29⟩) (by assumption) ?r29
      case y29 => (intro w hSw; (try dsimp only at hSw); go_simp; try (with_reducible rfl))
      simp only [List.getElem_toArray, List.getElem_cons_zero, Act.put, List.setIfInBounds_toArray, List.set_cons_zero, List.set_cons_succ]
      refine wpAnyH_take (i := 1) (v := ?v30) rfl (by kernel_rfl) (by kernel_rfl) (by kernel_rfl) (fun _ _ _ h => h) (Or.inl ⟨by rfl, ?y30⟩) (by assumption) ?r30
      case y30 => (intro w hSw; (try dsimp only at hSw); go_simp; try (with_reducible rfl))
      simp only [List.getElem_toArray, List.getElem_cons_succ, List.getElem_cons_zero, Act.put, List.setIfInBounds_toArray, List.set_cons_zero, List.set_cons_succ]
      refine wpAnyH_take (i := 2) (v := ?v31) rfl (by kernel_rfl) (by kernel_rfl) (by kernel_rfl) (fun _ _ _ h => h) (Or.inl ⟨by rfl, ?y31⟩) (by assumption) ?r31
      case y31 => (intro w hSw; (try dsimp only at hSw); go_simp; try (with_reducible rfl))
      simp only [List.getElem_toArray, List.getElem_cons_succ, List.getElem_cons_zero, Act.put, List.setIfInBounds_toArray, List.set_cons_zero, List.set_cons_succ]
      refine wpAnyH_take (i := 3) (v := ?v32) rfl (by kernel_rfl) (by kernel_rfl) (by kernel_rfl) (fun _ _ _ h => h) (Or.inl ⟨by rfl, ?y32⟩) (by assumption) ?r32
      case y32 => (intro w hSw; (try dsimp only at hSw); go_simp; try (with_reducible rfl))
      simp only [List.getElem_toArray, List.getElem_cons_succ, List.getElem_cons_zero, Act.put, List.setIfInBounds_toArray, List.set_cons_zero, List.set_cons_succ]
      refine wpAnyH_take (i := 4) (v := ?v33) rfl (by kernel_rfl) (by kernel_rfl) (by kernel_rfl) (fun _ _ _ h => h) (Or.inl ⟨by rfl, ?y33⟩) (by assumption) ?r33
      case y33 => (intro w hSw; (try dsimp only at hSw); go_simp; try (with_reducible rfl))
      simp only [List.getElem_toArray, List.getElem_cons_succ, List.getElem_cons_zero, Act.put, List.setIfInBounds_toArray, List.set_cons_zero, List.set_cons_succ]
      refine wpAnyH_take (i := 5) (v := ?v34) rfl (by kernel_rfl) (by kernel_rfl) (by kernel_rfl) (fun _ _ _ h => h) (Or.inl ⟨by rfl, ?y34⟩) (by assumption) ?r34
      case y34 => (intro w hSw; (try dsimp only at hSw); go_simp; try (with_reducible rfl))
      simp only [List.getElem_toArray, List.getElem_cons_succ, List.getElem_cons_zero, Act.put, List.setIfInBounds_toArray, List.set_cons_zero, List.set_cons_succ]
      refine wpAnyH_ready (rs := [6]) (by kernel_rfl) (by simp) ?_
      refine AllReadyH.cons rfl (fun K hK => ?_) AllReadyH.nil
      simp only [List.getElem_toArray, List.getElem_cons_succ, List.getElem_cons_zero]
      go_simp
      go_at_call 85
      have hB3 := fun OB => B2.out.trans ((((Below.refl w2.heap.size w2).alloc (Nat.le_refl _) OB).drew).mono B2.out.size)
      refine (CM.out _ (hB3 _)).mono ?_
      rintro e w4 ⟨rfl, hD4⟩
      have hD5 := hide (Done.pre (hB3 _) hD4)
      dsimp only
      refine hK.out _ _ ?_ (fun hHeld => ?_)
      · exact ⟨kept_cell hD4.2 hns0 hHeld.1, kept_cell hD4.2 hns0 hHeld.2.1, kept_cell hD4.2 hns0 hHeld.2.2.1, kept_cell hD4.2 hnsA hHeld.2.2.2⟩
      clear hK K
      try simp only [Act.put, List.setIfInBounds_toArray, List.set_cons_zero, List.set_cons_succ]
      refine wpAnyH_take (i := 7) (v := ?v35) rfl (by kernel_rfl) (by kernel_rfl) (by kernel_rfl) (fun _ _ _ h => h) (Or.inl ⟨by rfl, ?y35⟩) (by assumption) ?r35
      case y35 => (intro w hSw; (try dsimp only at hSw); go_simp; try (with_reducible rfl))
      simp only [List.getElem_toArray, List.getElem_cons_succ, List.getElem_cons_zero, Act.put, List.setIfInBounds_toArray, List.set_cons_zero, List.set_cons_succ]
      refine wpAnyH_done (by kernel_rfl) ?_ _

      have HD := hD5
      clear hHeld hD4 hD5 hB3 CM
      cases x with
      | none =>
        have e0 : o = none := HST.out
        go_wp2
        go_ret
        exact ⟨by rw [e0]; rfl, by rw [e0]; exact HD.out⟩
      | some y =>
        have e0 : o = some (setl y) := HST.out
        have hIy := HI.out.step HX.out.symm
        have hgs := HD.out.2.size
        have CS := hide (settle_any (Grow S w w4) b y w4 hIy HD.out.1 (grow_lt HSS.out hgs))
        have HE0 := hide e0
        clear e0 hIy
        go_wp2_with fail
        refine CS.out.mono ?_
        rintro e w5 ⟨rfl, hD6⟩
        have HD6 := hide (HD.out.trans hD6)
        clear hD6
        go_wp2
        go_ret
        exact ⟨by rw [HE0.out]; rfl, by rw [HE0.out]; exact HD6.out⟩
    · have hdo := doM_5 HG.out
      obtain ⟨x, hx⟩ : ∃ x, x = doM r 5 nd t := ⟨_, rfl⟩
      have hst : o = x.map setl := by rw [HO.out, hx]; rfl
      have HX := hide hx
      have HST := hide hst
      have hnd : 0 ≤ nd ∧ nd < (r.G.length : Int) := by
        have h5 := HI.out.good.logs.1
        rcases HG.out with h | h <;> omega
      have CM := hide (fun wx (hb : Below w.heap.size w wx) => fail_any S b r wx HI.out (HRF.out.below hb) (fun q hq => Nat.lt_of_lt_of_le (HSS.out q hq) hb.size) 5 nd t hnd.1 hnd.2 x (by rw [hx, hdo]))
      have hns0 : ¬ S w.heap.size := fun h => Nat.lt_irrefl _ (HSS.out _ h)
      have hnsA : ¬ S w2.heap.size := fun h => by have := HSS.out _ h; omega
      clear hdo hx hst hnd
      go_upto_region 4 with fail
      refine wp_region_held_drew (S := fun wx => wx.cell? ⟨w.heap.size, 0, none⟩ = some (.int .i64 5) ∧ wx.cell? ⟨w.heap.size, 1, none⟩ = some (.int .i64 nd) ∧ wx.cell? ⟨w.heap.size, 2, none⟩ = some (.string t) ∧ wx.cell? ⟨w2.heap.size, 5, none⟩ = some (.func (.func 86) #[] #[])) (by kernel_rfl) ⟨Go.Lib.cell?_alloc_some _ q0, Go.Lib.cell?_alloc_some _ q1, Go.Lib.cell?_alloc_some _ q2, cell_newN _ _ _ 5 _ rfl⟩ (fun hHeld => ?_)
      refine wpAnyH_take (i := 0) (v := ?v36) rfl (by kernel_rfl) (by kernel_rfl) (by kernel_rfl) (fun _ _ _ h => h) (Or.inl ⟨by rfl, ?y36⟩) (by assumption) ?r36
      case y36 => (intro w hSw; (try dsimp only at hSw); go_simp; try (with_reducible rfl))
      simp only [List.getElem_toArray, List.getElem_cons_zero, Act.put, List.setIfInBounds_toArray, List.set_cons_zero, List.set_cons_succ]
      refine wpAnyH_take (i := 1) (v := ?v37) rfl (by kernel_rfl) (by kernel_rfl) (by kernel_rfl) (fun _ _ _ h => h) (Or.inl ⟨by rfl, ?y37⟩) (by assumption) ?r37
      case y37 => (intro w hSw; (try dsimp only at hSw); go_simp; try (with_reducible rfl))
      simp only [List.getElem_toArray, List.getElem_cons_succ, List.getElem_cons_zero, Act.put, List.setIfInBounds_toArray, List.set_cons_zero, List.set_cons_succ]
      refine wpAnyH_take (i := 2) (v := ?v38) rfl (by kernel_rfl) (by kernel_rfl) (by kernel_rfl) (fun _ _ _ h => h) (Or.inl ⟨by rfl, ?y38⟩) (by assumption) ?r38
      case y38 => (intro w hSw; (try dsimp only at hSw); go_simp; try (with_reducible rfl))
      simp only [List.getElem_toArray, List.getElem_cons_succ, List.getElem_cons_zero, Act.put, List.setIfInBounds_toArray, List.set_cons_zero, List.set_cons_succ]
      refine wpAnyH_take (i := 3) (v := ?v39) rfl (by kernel_rfl) (by kernel_rfl) (by kernel_rfl) (fun _ _ _ h => h) (Or.inl ⟨by rfl, ?y39⟩) (by assumption) ?r39
      case y39 => (intro w hSw; (try dsimp only at hSw); go_simp; try (with_reducible rfl))
      simp only [List.getElem_toArray, List.getElem_cons_succ, List.getElem_cons_zero, Act.put, List.setIfInBounds_toArray, List.set_cons_zero, List.set_cons_succ]
      refine wpAnyH_take (i := 4) (v := ?v40) rfl (by kernel_rfl) (by kernel_rfl) (by kernel_rfl) (fun _ _ _ h => h) (Or.inl ⟨by rfl, ?y40⟩) (by assumption) ?r40
      case y40 => (intro w hSw; (try dsimp only at hSw); go_simp; try (with_reducible rfl))
      simp only [List.getElem_toArray, List.getElem_cons_succ, List.getElem_cons_zero, Act.put, List.setIfInBounds_toArray, List.set_cons_zero, List.set_cons_succ]
      refine wpAnyH_take (i := 5) (v := ?v41) rfl (by kernel_rfl) (by kernel_rfl) (by kernel_rfl) (fun _ _ _ h => h) (Or.inl ⟨by rfl, ?y41⟩) (by assumption) ?r41
      case y41 => (intro w hSw; (try dsimp only at hSw); go_simp; try (with_reducible rfl))
      simp only [List.getElem_toArray, List.getElem_cons_succ, List.getElem_cons_zero, Act.put, List.setIfInBounds_toArray, List.set_cons_zero, List.set_cons_succ]
      refine wpAnyH_ready (rs := [6]) (by kernel_rfl) (by simp) ?_
      refine AllReadyH.cons rfl (fun K hK => ?_) AllReadyH.nil
      simp only [List.getElem_toArray, List.getElem_cons_succ, List.getElem_cons_zero]
      go_simp
      go_at_call 86
      have hB3 := fun OB => B2.out.trans ((((Below.refl w2.heap.size w2).alloc (Nat.le_refl _) OB).drew).mono B2.out.size)
      refine (CM.out _ (hB3 _)).mono ?_
      rintro e w4 ⟨rfl, hD4⟩
      have hD5 := hide (Done.pre (hB3 _) hD4)
      dsimp only
      refine hK.out _ _ ?_ (fun hHeld => ?_)
      · exact ⟨kept_cell hD4.2 hns0 hHeld.1, kept_cell hD4.2 hns0 hHeld.2.1, kept_cell hD4.2 hns0 hHeld.2.2.1, kept_cell hD4.2 hnsA hHeld.2.2.2⟩
      clear hK K
      try simp only [Act.put, List.setIfInBounds_toArray, List.set_cons_zero, List.set_cons_succ]
      refine wpAnyH_take (i := 7) (v := ?v42) rfl (by kernel_rfl) (by kernel_rfl) (by kernel_rfl) (fun _ _ _ h => h) (Or.inl ⟨by rfl, ?y42⟩) (by assumption) ?r42
      case y42 => (intro w hSw; (try dsimp only at hSw); go_simp; try (with_reducible rfl))
      simp only [List.getElem_toArray, List.getElem_cons_succ, List.getElem_cons_zero, Act.put, List.setIfInBounds_toArray, List.set_cons_zero, List.set_cons_succ]
      refine wpAnyH_done (by kernel_rfl) ?_ _

      have HD := hD5
      clear hHeld hD4 hD5 hB3 CM
      cases x with
      | none =>
        have e0 : o = none := HST.out
        go_wp2
        go_ret
        exact ⟨by rw [e0]; rfl, by rw [e0]; exact HD.out⟩
      | some y =>
        have e0 : o = some (setl y) := HST.out
        have hIy := HI.out.step HX.out.symm
        have hgs := HD.out.2.size
        have CS := hide (settle_any (Grow S w w4) b y w4 hIy HD.out.1 (grow_lt HSS.out hgs))
        have HE0 := hide e0
        clear e0 hIy
        go_wp2_with fail
        refine CS.out.mono ?_
        rintro e w5 ⟨rfl, hD6⟩
        have HD6 := hide (HD.out.trans hD6)
        clear hD6
        go_wp2
        go_ret
        exact ⟨by rw [HE0.out]; rfl, by rw [HE0.out]; exact HD6.out⟩
    · have hdo := doM_6 HG.out
      obtain ⟨x, hx⟩ : ∃ x, x = doM r 6 nd t := ⟨_, rfl⟩
      have hst : o = x.map setl := by rw [HO.out, hx]; rfl
      have HX := hide hx
      have HST := hide hst
      have hnd : 0 ≤ nd ∧ nd < (r.G.length : Int) := by
        have h5 := HI.out.good.logs.1
        rcases HG.out with h | h <;> omega
      have CM := hide (fun wx (hb : Below w.heap.size w wx) => back_any S b r wx HI.out (HRF.out.below hb) (fun q hq => Nat.lt_of_lt_of_le (HSS.out q hq) hb.size) 6 nd t hnd.1 hnd.2 x (by rw [hx, hdo]))
      have hns0 : ¬ S w.heap.size := fun h => Nat.lt_irrefl _ (HSS.out _ h)
      have hnsA : ¬ S w2.heap.size := fun h => by have := HSS.out _ h; omega
      clear hdo hx hst hnd
      go_upto_region 4 with fail
      refine wp_region_held_drew (S := fun wx => wx.cell? ⟨w.heap.size, 0, none⟩ = some (.int .i64 6) ∧ wx.cell? ⟨w.heap.size, 1, none⟩ = some (.int .i64 nd) ∧ wx.cell? ⟨w.heap.size, 2, none⟩ = some (.string t) ∧ wx.cell? ⟨w2.heap.size, 6, none⟩ = some (.func (.func 87) #[] #[])) (by kernel_rfl) ⟨Go.Lib.cell?_alloc_some _ q0, Go.Lib.cell?_alloc_some _ q1, Go.Lib.cell?_alloc_some _ q2, cell_newN _ _ _ 6 _ rfl⟩ (fun hHeld => ?_)
      refine wpAnyH_take (i := 0) (v := ?v43) rfl (by kernel_rfl) (by kernel_rfl) (by kernel_rfl) (fun _ _ _ h => h) (Or.inl ⟨by rfl, ?y43⟩) (by assumption) ?r43
      case y43 => (intro w hSw; (try dsimp only at hSw); go_simp; try (with_reducible rfl))
      simp only [List.getElem_toArray, List.getElem_cons_zero, Act.put, List.setIfInBounds_toArray, List.set_cons_zero, List.set_cons_succ]
      refine wpAnyH_take (i := 1) (v := ?v44) rfl (by kernel_rfl) (by kernel_rfl) (by kernel_rfl) (fun _ _ _ h => h) (Or.inl ⟨by rfl, ?y44⟩) (by assumption) ?r44
      case y44 => (intro w hSw; (try dsimp only at hSw); go_simp; try (with_reducible rfl))
      simp only [List.getElem_toArray, List.getElem_cons_succ, List.getElem_cons_zero, Act.put, List.setIfInBounds_toArray, List.set_cons_zero, List.set_cons_succ]
      refine wpAnyH_take (i := 2) (v := ?v45) rfl (by kernel_rfl) (by kernel_rfl) (by kernel_rfl) (fun _ _ _ h => h) (Or.inl ⟨by rfl, ?y45⟩) (by assumption) ?r45
      case y45 => (intro w hSw; (try dsimp only at hSw); go_simp; try (with_reducible rfl))
      simp only [List.getElem_toArray, List.getElem_cons_succ, List.getElem_cons_zero, Act.put, List.setIfInBounds_toArray, List.set_cons_zero, List.set_cons_succ]
      refine wpAnyH_take (i := 3) (v := ?v46) rfl (by kernel_rfl) (by kernel_rfl) (by kernel_rfl) (fun _ _ _ h => h) (Or.inl ⟨by rfl, ?y46⟩) (by assumption) ?r46
      case y46 => (intro w hSw; (try dsimp only at hSw); go_simp; try (with_reducible rfl))
      simp only [List.getElem_toArray, List.getElem_cons_succ, List.getElem_cons_zero, Act.put, List.setIfInBounds_toArray, List.set_cons_zero, List.set_cons_succ]
      refine wpAnyH_take (i := 4) (v := ?v47) rfl (by kernel_rfl) (by kernel_rfl) (by kernel_rfl) (fun _ _ _ h => h) (Or.inl ⟨by rfl, ?y47⟩) (by assumption) ?r47
      case y47 => (intro w hSw; (try dsimp only at hSw); go_simp; try (with_reducible rfl))
      simp only [List.getElem_toArray, List.getElem_cons_succ, List.getElem_cons_zero, Act.put, List.setIfInBounds_toArray, List.set_cons_zero, List.set_cons_succ]
      refine wpAnyH_take (i := 5) (v := ?v48) rfl (by kernel_rfl) (by kernel_rfl) (by kernel_rfl) (fun _ _ _ h => h) (Or.inl ⟨by rfl, ?y48⟩) (by assumption) ?r48
      case y48 => (intro w hSw; (try dsimp only at hSw); go_simp; try (with_reducible rfl))
      simp only [List.getElem_toArray, List.getElem_cons_succ, List.getElem_cons_zero, Act.put, List.setIfInBounds_toArray, List.set_cons_zero, List.set_cons_succ]
      refine wpAnyH_ready (rs := [6]) (by kernel_rfl) (by simp) ?_
      refine AllReadyH.cons rfl (fun K hK => ?_) AllReadyH.nil
      simp only [List.getElem_toArray, List.getElem_cons_succ, List.getElem_cons_zero]
      go_simp
      go_at_call 87
      have hB3 := fun OB => B2.out.trans ((((Below.refl w2.heap.size w2).alloc (Nat.le_refl _) OB).drew).mono B2.out.size)
      refine (CM.out _ (hB3 _)).mono ?_
      rintro e w4 ⟨rfl, hD4⟩
      have hD5 := hide (Done.pre (hB3 _) hD4)
      dsimp only
      refine hK.out _ _ ?_ (fun hHeld => ?_)
      · exact ⟨kept_cell hD4.2 hns0 hHeld.1, kept_cell hD4.2 hns0 hHeld.2.1, kept_cell hD4.2 hns0 hHeld.2.2.1, kept_cell hD4.2 hnsA hHeld.2.2.2⟩
      clear hK K
      try simp only [Act.put, List.setIfInBounds_toArray, List.set_cons_zero, List.set_cons_succ]
      refine wpAnyH_take (i := 7) (v := ?v49) rfl (by kernel_rfl) (by kernel_rfl) (by kernel_rfl) (fun _ _ _ h => h) (Or.inl ⟨by rfl, ?y49⟩) (by assumption) ?r49
      case y49 => (intro w hSw; (try dsimp only at hSw); go_simp; try (with_reducible rfl))
      simp only [List.getElem_toArray, List.getElem_cons_succ, List.getElem_cons_zero, Act.put, List.setIfInBounds_toArray, List.set_cons_zero, List.set_cons_succ]
      refine wpAnyH_done (by kernel_rfl) ?_ _

      have HD := hD5
      clear hHeld hD4 hD5 hB3 CM
      cases x with
      | none =>
        have e0 : o = none := HST.out
        go_wp2
        go_ret
        exact ⟨by rw [e0]; rfl, by rw [e0]; exact HD.out⟩
      | some y =>
        have e0 : o = some (setl y) := HST.out
        have hIy := HI.out.step HX.out.symm
        have hgs := HD.out.2.size
        have CS := hide (settle_any (Grow S w w4) b y w4 hIy HD.out.1 (grow_lt HSS.out hgs))
        have HE0 := hide e0
        clear e0 hIy
        go_wp2_with fail
        refine CS.out.mono ?_
        rintro e w5 ⟨rfl, hD6⟩
        have HD6 := hide (HD.out.trans hD6)
        clear hD6
        go_wp2
        go_ret
        exact ⟨by rw [HE0.out]; rfl, by rw [HE0.out]; exact HD6.out⟩
    · have hdo := doM_7 HG.out
      obtain ⟨x, hx⟩ : ∃ x, x = doM r 7 nd t := ⟨_, rfl⟩
      have hst : o = x.map setl := by rw [HO.out, hx]; rfl
      have HX := hide hx
      have HST := hide hst
      have hnd : 0 ≤ nd ∧ nd < (r.G.length : Int) := by
        have h5 := HI.out.good.logs.1
        rcases HG.out with h | h <;> omega
      have CM := hide (fun wx (hb : Below w.heap.size w wx) => elect_any S b r wx HI.out (HRF.out.below hb) (fun q hq => Nat.lt_of_lt_of_le (HSS.out q hq) hb.size) 7 nd t hnd.1 hnd.2 x (by rw [hx, hdo]))
      have hns0 : ¬ S w.heap.size := fun h => Nat.lt_irrefl _ (HSS.out _ h)
      have hnsA : ¬ S w2.heap.size := fun h => by have := HSS.out _ h; omega
      clear hdo hx hst hnd
      go_upto_region 4 with fail
      refine wp_region_held_drew (S := fun wx => wx.cell? ⟨w.heap.size, 0, none⟩ = some (.int .i64 7) ∧ wx.cell? ⟨w.heap.size, 1, none⟩ = some (.int .i64 nd) ∧ wx.cell? ⟨w.heap.size, 2, none⟩ = some (.string t) ∧ wx.cell? ⟨w2.heap.size, 7, none⟩ = some (.func (.func 88) #[] #[])) (by kernel_rfl) ⟨Go.Lib.cell?_alloc_some _ q0, Go.Lib.cell?_alloc_some _ q1, Go.Lib.cell?_alloc_some _ q2, cell_newN _ _ _ 7 _ rfl⟩ (fun hHeld => ?_)
      refine wpAnyH_take (i := 0) (v := ?v50) rfl (by kernel_rfl) (by kernel_rfl) (by kernel_rfl) (fun _ _ _ h => h) (Or.inl ⟨by rfl, ?y50⟩) (by assumption) ?r50
      case y50 => (intro w hSw; (try dsimp only at hSw); go_simp; try (with_reducible rfl))
      simp only [List.getElem_toArray, List.getElem_cons_zero, Act.put, List.setIfInBounds_toArray, List.set_cons_zero, List.set_cons_succ]
      refine wpAnyH_take (i := 1) (v := ?v51) rfl (by kernel_rfl) (by kernel_rfl) (by kernel_rfl) (fun _ _ _ h => h) (Or.inl ⟨by rfl, ?y51⟩) (by assumption) ?r51
      case y51 => (intro w hSw; (try dsimp only at hSw); go_simp; try (with_reducible rfl))
      simp only [List.getElem_toArray, List.getElem_cons_succ, List.getElem_cons_zero, Act.put, List.setIfInBounds_toArray, List.set_cons_zero, List.set_cons_succ]
      refine wpAnyH_take (i := 2) (v := ?v52) rfl (by kernel_rfl) (by kernel_rfl) (by kernel_rfl) (fun _ _ _ h => h) (Or.inl ⟨by rfl, ?y52⟩) (by assumption) ?r52
      case y52 => (intro w hSw; (try dsimp only at hSw); go_simp; try (with_reducible rfl))
      simp only [List.getElem_toArray, List.getElem_cons_succ, List.getElem_cons_zero, Act.put, List.setIfInBounds_toArray, List.set_cons_zero, List.set_cons_succ]
      refine wpAnyH_take (i := 3) (v := ?v53) rfl (by kernel_rfl) (by kernel_rfl) (by kernel_rfl) (fun _ _ _ h => h) (Or.inl ⟨by rfl, ?y53⟩) (by assumption) ?r53
      case y53 => (intro w hSw; (try dsimp only at hSw); go_simp; try (with_reducible rfl))
      simp only [List.getElem_toArray, List.getElem_cons_succ, List.getElem_cons_zero, Act.put, List.setIfInBounds_toArray, List.set_cons_zero, List.set_cons_succ]
      refine wpAnyH_take (i := 4) (v := ?v54) rfl (by kernel_rfl) (by kernel_rfl) (by kernel_rfl) (fun _ _ _ h => h) (Or.inl ⟨by rfl, ?y54⟩) (by assumption) ?r54
      case y54 => (intro w hSw; (try dsimp only at hSw); go_simp; try (with_reducible rfl))
      simp only [List.getElem_toArray, List.getElem_cons_succ, List.getElem_cons_zero, Act.put, List.setIfInBounds_toArray, List.set_cons_zero, List.set_cons_succ]
      refine wpAnyH_take (i := 5) (v := ?v55) rfl (by kernel_rfl) (by kernel_rfl) (by kernel_rfl) (fun _ _ _ h => h) (Or.inl ⟨by rfl, ?y55⟩) (by assumption) ?r55
      case y55 => (intro w hSw; (try dsimp only at hSw); go_simp; try (with_reducible rfl))
      simp only [List.getElem_toArray, List.getElem_cons_succ, List.getElem_cons_zero, Act.put, List.setIfInBounds_toArray, List.set_cons_zero, List.set_cons_succ]
      refine wpAnyH_ready (rs := [6]) (by kernel_rfl) (by simp) ?_
      refine AllReadyH.cons rfl (fun K hK => ?_) AllReadyH.nil
      simp only [List.getElem_toArray, List.getElem_cons_succ, List.getElem_cons_zero]
      go_simp
      go_at_call 88
      have hB3 := fun OB => B2.out.trans ((((Below.refl w2.heap.size w2).alloc (Nat.le_refl _) OB).drew).mono B2.out.size)
      refine (CM.out _ (hB3 _)).mono ?_
      rintro e w4 ⟨rfl, hD4⟩
      have hD5 := hide (Done.pre (hB3 _) hD4)
      dsimp only
      refine hK.out _ _ ?_ (fun hHeld => ?_)
      · exact ⟨kept_cell hD4.2 hns0 hHeld.1, kept_cell hD4.2 hns0 hHeld.2.1, kept_cell hD4.2 hns0 hHeld.2.2.1, kept_cell hD4.2 hnsA hHeld.2.2.2⟩
      clear hK K
      try simp only [Act.put, List.setIfInBounds_toArray, List.set_cons_zero, List.set_cons_succ]
      refine wpAnyH_take (i := 7) (v := ?v56) rfl (by kernel_rfl) (by kernel_rfl) (by kernel_rfl) (fun _ _ _ h => h) (Or.inl ⟨by rfl, ?y56⟩) (by assumption) ?r56
      case y56 => (intro w hSw; (try dsimp only at hSw); go_simp; try (with_reducible rfl))
      simp only [List.getElem_toArray, List.getElem_cons_succ, List.getElem_cons_zero, Act.put, List.setIfInBounds_toArray, List.set_cons_zero, List.set_cons_succ]
      refine wpAnyH_done (by kernel_rfl) ?_ _

      have HD := hD5
      clear hHeld hD4 hD5 hB3 CM
      cases x with
      | none =>
        have e0 : o = none := HST.out
        go_wp2
        go_ret
        exact ⟨by rw [e0]; rfl, by rw [e0]; exact HD.out⟩
      | some y =>
        have e0 : o = some (setl y) := HST.out
        have hIy := HI.out.step HX.out.symm
        have hgs := HD.out.2.size
        have CS := hide (settle_any (Grow S w w4) b y w4 hIy HD.out.1 (grow_lt HSS.out hgs))
        have HE0 := hide e0
        clear e0 hIy
        go_wp2_with fail
        refine CS.out.mono ?_
        rintro e w5 ⟨rfl, hD6⟩
        have HD6 := hide (HD.out.trans hD6)
        clear hD6
        go_wp2
        go_ret
        exact ⟨by rw [HE0.out]; rfl, by rw [HE0.out]; exact HD6.out⟩
end Go.Proofs.Ythmekhhfihjclbd.L9

namespace Go.Proofs.Ythmekhhfihjclbd.L9
open Go.RowKit L1 L7
set_option linter.unusedVariables false

theorem info_entsG : (Try.prog.info? 30).map (fun i => (i.zero, i.size, i.bytes)) = some (some (.slice none 0 0), 1, 24) := by kernel_rfl
end Go.Proofs.Ythmekhhfihjclbd.L9

namespace Go.Proofs.Ythmekhhfihjclbd.L7
open Go.RowKit L1
set_option linter.unusedVariables false

set_option maxRecDepth 100000 in
set_option maxHeartbeats 400000 in
theorem l1In_any (x lo hi : Int) (w : World) (b : Bool) (hb : b = true ↔ lo ≤ x ∧ x ≤ hi) :
    Calls Try.prog 37 #[.int .i64 x, .int .i64 lo, .int .i64 hi] w fun e w' => e = .returned (.bool b) ∧ w = w' := by
  by_cases h1 : lo ≤ x
  · by_cases h2 : x ≤ hi
    · obtain rfl : b = true := hb.2 ⟨h1, h2⟩
      clear hb
      go_enter Try.func37, Try.ntmps37
      go_wp2
      go_ret
      exact ⟨rfl, rfl⟩
    · obtain rfl : b = false := bool_noT hb (fun h => h2 h.2)
      clear hb
      go_enter Try.func37, Try.ntmps37
      go_wp2
      go_ret
      exact ⟨rfl, rfl⟩
  · obtain rfl : b = false := bool_noT hb (fun h => h1 h.1)
    clear hb
    go_enter Try.func37, Try.ntmps37
    go_wp2
    go_ret
    exact ⟨rfl, rfl⟩

end Go.Proofs.Ythmekhhfihjclbd.L7

namespace Go.Proofs.Ythmekhhfihjclbd.L9
open Go.RowKit L1 L7
set_option linter.unusedVariables false

abbrev zR : Obj := .cells #[.slice none 0 0, .slice none 0 0, .int .i64 0, .int .i64 0, .slice none 0 0, .slice none 0 0] 32 (0, 0)
abbrev oA (n : Nat) : Obj := .cells (madeCells (Value.slice none 0 0).cells (n * 1)) 30 (0, 0)
abbrev oB (n : Nat) : Obj := .cells (madeCells (Value.bool false).cells (n * 1)) 4 (0, 0)
theorem mk_logs (n : Nat) (h : n ≤ 5) : ∃ OA : Obj, OA = oA n ∧ ∀ w, (Instr.makeSlice 28 (.int .i64 (n : Int)) (.int .i64 (n : Int))).run Try.prog w = .ok (.slice (some ⟨w.heap.size, 0, none⟩) n n) (w.alloc OA) := by
  obtain ⟨i0, hi, hz0, hz1, hz2⟩ := info_parts info_entsG
  refine ⟨_, rfl, fun w => ?_⟩
  have hr := run_make (P := Try.prog) w 28 30 i0 (.slice none 0 0) Try.underlying28 hi hz0 .i64 .i64 (n : Int) (n : Int) (by omega) (Int.le_refl _) (by rw [hz2]; omega) (by omega)
  simp only [Int.toNat_natCast, hz1] at hr
  exact hr
theorem mk_bools (n : Nat) (h : n ≤ 5) : ∃ OB : Obj, OB = oB n ∧ ∀ w, (Instr.makeSlice 29 (.int .i64 (n : Int)) (.int .i64 (n : Int))).run Try.prog w = .ok (.slice (some ⟨w.heap.size, 0, none⟩) n n) (w.alloc OB) := by
  obtain ⟨i0, hi, hz0, hz1, hz2⟩ := info_parts info_bool
  refine ⟨_, rfl, fun w => ?_⟩
  have hr := run_make (P := Try.prog) w 29 4 i0 (.bool false) Try.underlying29 hi hz0 .i64 .i64 (n : Int) (n : Int) (by omega) (Int.le_refl _) (by rw [hz2]; omega) (by omega)
  simp only [Int.toNat_natCast, hz1] at hr
  exact hr
/-- The first numbers. -/
def upI (k : Nat) : List Int := (List.range k).map fun j : Nat => (j : Int)
theorem upI_len (k : Nat) : (upI k).length = k := by simp [upI]
theorem upI_snoc (k : Nat) : upI (k + 1) = upI k ++ [(k : Int)] := by simp [upI, List.range_succ]
/-- Where the making of a world stands. -/
structure NR (w : World) (n X ga gd : Nat) (ay : Option Addr) (k cy : Nat) (wx : World) : Prop where
  res : wx.heap[w.heap.size]? = some zR
  box : wx.heap[X]? = some (.cells #[.slice (some ⟨ga, 0, none⟩) n n, .slice (some ⟨gd, 0, none⟩) n n, .int .i64 0, .int .i64 1, .slice ay k cy, .slice none 0 0] 32 (0, 0))
  lg : wx.heap[ga]? = some (oA n)
  dw : wx.heap[gd]? = some (oB n)
  sy : wx.ownsRow (w.heap.size + 1) 3 1 (.slice ay k cy) k ((upI k).map (Value.int .i64))
  bel : Below w.heap.size w wx
  ltX : w.heap.size < X
  ltA : w.heap.size < ga
  ltD : w.heap.size < gd
theorem row_ty {w : World} {base n c : Nat} {t : TypeId} {v : Value} {ys : List Value} (h : w.ownsRow base t c v n ys) (b : Nat) (hb : v.ownBlock = some b) : ∃ cur, w.heap[b]? = some (.cells cur t (0, 0)) := by
  rcases h.2 with ⟨rfl, _⟩ | ⟨g, cap, cur, rfl, hbg, hg, _⟩
  · simp [Value.ownBlock] at hb
  · simp [Value.ownBlock] at hb
    subst hb
    exact ⟨cur, hg⟩
theorem ty1 : 3 ≠ 32 := by decide
theorem ty2 : 3 ≠ 30 := by decide
theorem ty3 : 3 ≠ 4 := by decide
theorem ty4 : 32 ≠ 30 := by decide
theorem ty5 : 32 ≠ 4 := by decide
theorem not_own {w : World} {base n c b : Nat} {t u : TypeId} {v : Value} {ys : List Value} {cur : Array Value} (h : w.ownsRow base t c v n ys) (hb : w.heap[b]? = some (.cells cur u (0, 0))) (ht : t ≠ u) : some b ≠ v.ownBlock := fun e => by
  obtain ⟨cu, hc⟩ := row_ty h b e.symm
  rw [hb] at hc
  simp at hc
  exact ht hc.2.symm
theorem ne_ty {w : World} {a b : Nat} {t u : TypeId} {cur cu : Array Value} (ha : w.heap[a]? = some (.cells cur t (0, 0))) (hb : w.heap[b]? = some (.cells cu u (0, 0))) (ht : t ≠ u) : b ≠ a := fun e => by
  rw [e, ha] at hb
  simp at hb
  exact ht hb.2
theorem own_setB9 {w : World} {base n c b i : Nat} {t u : TypeId} {v : Value} {ys : List Value} {cur : Array Value} {x : Value} (h : w.ownsRow base t c v n ys) (hb : w.heap[b]? = some (.cells cur u (0, 0))) (htu : t ≠ u) : (w.setCell ⟨b, i, none⟩ x).ownsRow base t c v n ys := by
  refine ⟨h.1, ?_⟩
  rcases h.2 with h0 | ⟨g, cap, cu, rfl, hbg, hg, r⟩
  · exact .inl h0
  · refine .inr ⟨g, cap, cu, rfl, hbg, ?_, r⟩
    rw [Below.heap_setCell _ _ _ _ (ne_ty hb hg (Ne.symm htu))]
    exact hg
theorem NR.step {w wr w6 : World} {n X ga gd k cy c6 : Nat} {ay a6 : Option Addr} {o : Obj} (h : NR w n X ga gd ay k cy wr) (hown : w6.ownsRow (w.heap.size + 1) 3 1 (.slice a6 (k + 1) c6) (k + 1) ((upI k).map (Value.int .i64) ++ [.int .i64 (k : Int)])) (hg : (wr.alloc o).grownBy w6 (Value.slice ay k cy).ownBlock) :
    (w6.cell? ⟨X, 4, none⟩ = some (.slice ay k cy) ∧ w6.frozen? ⟨X, 4, none⟩ = false) ∧ NR w n X ga gd a6 (k + 1) c6 (w6.setCell ⟨X, 4, none⟩ (.slice a6 (k + 1) c6)) := by
  have al := (Below.refl wr.heap.size wr).alloc (Nat.le_refl _) o
  have st : ∀ b ob, wr.heap[b]? = some ob → some b ≠ (Value.slice ay k cy).ownBlock → w6.heap[b]? = some ob := fun b ob hb hne =>
    ((hg.block b (by have := (Array.getElem?_eq_some_iff.1 hb).1; simp; omega) hne).trans (al.block b (Array.getElem?_eq_some_iff.1 hb).1)).trans hb
  have bx := st _ _ h.box (not_own h.sy h.box ty1)
  have rs := st _ _ h.res (not_own h.sy h.res ty1)
  have lg := st _ _ h.lg (not_own h.sy h.lg ty2)
  have dw := st _ _ h.dw (not_own h.sy h.dw ty3)
  have bl : Below w.heap.size w w6 := (h.bel.trans (al.mono h.bel.size)).grown hg (by have := h.bel.size; simp; omega) (fun g hgb => by have := (L8.own_lt h.sy g hgb).1; omega)
  refine ⟨⟨(blk6 bx).2.2.2.2.1, by simp [World.frozen?, bx]⟩, ⟨?_, ?_, ?_, ?_, ?_, bl.setCell (p := ⟨X, 4, none⟩) (Nat.le_of_lt h.ltX) _, h.ltX, h.ltA, h.ltD⟩⟩
  · rw [Below.heap_setCell _ _ _ _ (by show w.heap.size ≠ X; have := h.ltX; omega)]
    exact rs
  · exact (heap_setCell_same _ X 4 _ _ (.slice a6 (k + 1) c6) bx).trans rfl
  · rw [Below.heap_setCell _ _ _ _ (ne_ty bx lg ty4)]
    exact lg
  · rw [Below.heap_setCell _ _ _ _ (ne_ty bx dw ty5)]
    exact dw
  · rw [upI_snoc, List.map_append]
    exact own_setB9 hown bx ty1
/-- A world of logs that a call hands back, all logs and what is certain nil, in new memory. -/
structure OwR (w : World) (base : Nat) (vg vd vy : Value) (m : Nat) (dn : List Bool) (sy : List Int) : Prop where
  g : w.ownsRow base 30 1 vg m (List.replicate m (.slice none 0 0))
  d : w.ownsRow base 4 1 vd m (dn.map Value.bool)
  y : w.ownsRow base 3 1 vy m (sy.map (Value.int .i64))
def RetN (w : World) (m : Nat) (ep : Int) (ok : Bool) (e : Ending) (w' : World) : Prop :=
  ∃ ag cg ad cd ay cy, e = .returned (.tuple #[rpV ag m cg ad m cd 0 ep ay m cy none 0 0, .bool ok]) ∧ OwR w' w.heap.size (.slice ag m cg) (.slice ad m cd) (.slice ay m cy) m (List.replicate m false) (upI m) ∧ Below w.heap.size w w'
theorem retN_none {w w' : World} (hb : Below w.heap.size w w') : RetN w 0 0 false (.returned (.tuple #[rpV none 0 0 none 0 0 0 0 none 0 0 none 0 0, .bool false])) w' :=
  ⟨_, _, _, _, _, _, rfl, ⟨World.ownsRow_nil _ _ _ _, World.ownsRow_nil _ _ _ _, World.ownsRow_nil _ _ _ _⟩, hb⟩
theorem own_made {w : World} {base g n : Nat} {z : Value} {t : TypeId} (hz : z.cells = #[z]) (h : w.heap[g]? = some (.cells (madeCells z.cells (n * 1)) t (0, 0))) (hb : base ≤ g) (hn : n ≤ maxLen) : w.ownsRow base t 1 (.slice (some ⟨g, 0, none⟩) n n) n (List.replicate n z) := by
  have e : (madeCells z.cells (n * 1)).toList = List.replicate n z := by
    rw [hz, Nat.mul_one, toList_madeCells_one]
  have e2 : (madeCells z.cells (n * 1)).size = n * 1 := size_madeCells _ _
  exact ⟨by simp, .inr ⟨g, n, _, rfl, hb, h, Nat.le_refl _, hn, e2, by rw [e]; simp⟩⟩
theorem NR.out {w wx : World} {n X ga gd cy : Nat} {ay : Option Addr} (h : NR w n X ga gd ay n cy wx) (hn : n ≤ 5) (v0 v1 v2 v3 v4 v5 : Value) : RetN w n 1 true (.returned (.tuple #[rpV (some ⟨ga, 0, none⟩) n n (some ⟨gd, 0, none⟩) n n 0 1 ay n cy none 0 0, .bool true])) ((((((wx.setCell ⟨w.heap.size, 0, none⟩ v0).setCell ⟨w.heap.size, 1, none⟩ v1).setCell ⟨w.heap.size, 2, none⟩ v2).setCell ⟨w.heap.size, 3, none⟩ v3).setCell ⟨w.heap.size, 4, none⟩ v4).setCell ⟨w.heap.size, 5, none⟩ v5) := by
  have k : ∀ {t : TypeId} {c m : Nat} {v : Value} {ys : List Value}, wx.ownsRow (w.heap.size + 1) t c v m ys → ((((((wx.setCell ⟨w.heap.size, 0, none⟩ v0).setCell ⟨w.heap.size, 1, none⟩ v1).setCell ⟨w.heap.size, 2, none⟩ v2).setCell ⟨w.heap.size, 3, none⟩ v3).setCell ⟨w.heap.size, 4, none⟩ v4).setCell ⟨w.heap.size, 5, none⟩ v5).ownsRow w.heap.size t c v m ys := fun h =>
    own_baseT (own_set9 (own_set9 (own_set9 (own_set9 (own_set9 (own_set9 h _ _ (Nat.lt_succ_self _)) _ _ (Nat.lt_succ_self _)) _ _ (Nat.lt_succ_self _)) _ _ (Nat.lt_succ_self _)) _ _ (Nat.lt_succ_self _)) _ _ (Nat.lt_succ_self _)) (Nat.le_succ _)
  refine ⟨_, _, _, _, _, _, rfl, ⟨k (own_made rfl h.lg h.ltA (by unfold maxLen; omega)), ?_, k h.sy⟩, (((((h.bel.setCell (p := ⟨_, _, none⟩) (Nat.le_refl _) _).setCell (p := ⟨_, _, none⟩) (Nat.le_refl _) _).setCell (p := ⟨_, _, none⟩) (Nat.le_refl _) _).setCell (p := ⟨_, _, none⟩) (Nat.le_refl _) _).setCell (p := ⟨_, _, none⟩) (Nat.le_refl _) _).setCell (p := ⟨_, _, none⟩) (Nat.le_refl _) _⟩
  have := k (own_made rfl h.dw h.ltD (by unfold maxLen; omega))
  rw [List.map_replicate]
  exact this
/-- The start: three blocks, in whatever order. -/
theorem nr_start {w wx : World} {n X ga gd : Nat} (h0 : wx.heap[w.heap.size]? = some zR) (h1 : wx.heap[X]? = some (.cells #[.slice (some ⟨ga, 0, none⟩) n n, .slice (some ⟨gd, 0, none⟩) n n, .int .i64 0, .int .i64 1, .slice none 0 0, .slice none 0 0] 32 (0, 0))) (h2 : wx.heap[ga]? = some (oA n)) (h3 : wx.heap[gd]? = some (oB n)) (hb : Below w.heap.size w wx) (l1 : w.heap.size < X) (l2 : w.heap.size < ga) (l3 : w.heap.size < gd) : NR w n X ga gd none 0 0 wx :=
  ⟨h0, h1, h2, h3, World.ownsRow_nil _ _ _ _, hb, l1, l2, l3⟩
theorem heap4 (w : World) (z a b c : Obj) : ((((w.alloc z).alloc a).alloc b).alloc c).drew.heap[w.heap.size]? = some z ∧ ((((w.alloc z).alloc a).alloc b).alloc c).drew.heap[w.heap.size + 1]? = some a ∧ ((((w.alloc z).alloc a).alloc b).alloc c).drew.heap[w.heap.size + 2]? = some b ∧ ((((w.alloc z).alloc a).alloc b).alloc c).drew.heap[w.heap.size + 3]? = some c ∧ Below w.heap.size w ((((w.alloc z).alloc a).alloc b).alloc c).drew := by
  have e : ((((w.alloc z).alloc a).alloc b).alloc c).drew.heap = (((w.heap.push z).push a).push b).push c := rfl
  refine ⟨?_, ?_, ?_, ?_, (((((Below.refl _ _).alloc (Nat.le_refl _) _).alloc (by simp) _).alloc (by simp; omega) _).alloc (by simp; omega) _).drew⟩
  · rw [e, Array.getElem?_push, if_neg (by simp only [Array.size_push]; omega), Array.getElem?_push, if_neg (by simp only [Array.size_push]; omega), Array.getElem?_push, if_neg (by simp only [Array.size_push]; omega), Array.getElem?_push, if_pos rfl]
  · rw [e, Array.getElem?_push, if_neg (by simp only [Array.size_push]; omega), Array.getElem?_push, if_neg (by simp only [Array.size_push]; omega), Array.getElem?_push, if_pos (by simp only [Array.size_push])]
  · rw [e, Array.getElem?_push, if_neg (by simp only [Array.size_push]; omega), Array.getElem?_push, if_pos (by simp only [Array.size_push])]
  · rw [e, Array.getElem?_push, if_pos (by simp only [Array.size_push])]
theorem cell_one_new9 (w : World) (a : Value) (t : TypeId) : ∀ j u, [a][j]? = some u → (w.alloc (.cells #[a] t)).cell? ((⟨w.heap.size, 0, none⟩ : Addr).add j) = some u := by
  intro j u h
  rw [addr_add]
  match j, h with
  | 0, h => simp at h; subst h; simp
  | j + 1, h => simp at h
theorem one_cell9 (x : Int) : ∀ u ∈ [Value.int .i64 x], u.oneCell' = true := by
  intro u hu
  simp at hu
  rw [hu]
  rfl
set_option maxRecDepth 100000 in
set_option maxHeartbeats 4000000 in
theorem implNew_any (k : Int) (w : World) (m : Nat) (ep : Int) (ok : Bool) (hy : 1 ≤ k ∧ k ≤ 5 → (m : Int) = k ∧ ep = 1 ∧ ok = true) (hn : ¬ (1 ≤ k ∧ k ≤ 5) → m = 0 ∧ ep = 0 ∧ ok = false) :
    Calls Try.prog 14 #[.int .i64 k] w (RetN w m ep ok) := by
  obtain ⟨i0, hi, hz0, hz1, hz2⟩ := info_parts info_int
  have ZP := blk_new9 w zR
  have ZB := hide ((Below.refl w.heap.size w).alloc (Nat.le_refl _) zR)
  by_cases h1 : k < 1
  · obtain ⟨rfl, rfl, rfl⟩ := hn (fun h => by omega)
    obtain ⟨z0, z1, z2, z3, z4, z5⟩ := blk6 ZP
    clear hy hn ZP
    go_enter Try.func14, Try.ntmps14
    go_wp2
    refine bodyPost_ret (v := .tuple #[rpV none 0 0 none 0 0 0 0 none 0 0 none 0 0, .bool false]) (by simp [results, Try.f14, go_sem, z0, z1, z2, z3, z4, z5]) rfl (retN_none ?_)
    first | exact ZB.out | exact ((((((ZB.out.setCell (p := ⟨_, _, none⟩) (Nat.le_refl _) _).setCell (p := ⟨_, _, none⟩) (Nat.le_refl _) _).setCell (p := ⟨_, _, none⟩) (Nat.le_refl _) _).setCell (p := ⟨_, _, none⟩) (Nat.le_refl _) _).setCell (p := ⟨_, _, none⟩) (Nat.le_refl _) _).setCell (p := ⟨_, _, none⟩) (Nat.le_refl _) _)
  by_cases h5 : 5 < k
  · obtain ⟨rfl, rfl, rfl⟩ := hn (fun h => by omega)
    obtain ⟨z0, z1, z2, z3, z4, z5⟩ := blk6 ZP
    clear hy hn ZP
    go_enter Try.func14, Try.ntmps14
    go_wp2
    refine bodyPost_ret (v := .tuple #[rpV none 0 0 none 0 0 0 0 none 0 0 none 0 0, .bool false]) (by simp [results, Try.f14, go_sem, z0, z1, z2, z3, z4, z5]) rfl (retN_none ?_)
    first | exact ZB.out | exact ((((((ZB.out.setCell (p := ⟨_, _, none⟩) (Nat.le_refl _) _).setCell (p := ⟨_, _, none⟩) (Nat.le_refl _) _).setCell (p := ⟨_, _, none⟩) (Nat.le_refl _) _).setCell (p := ⟨_, _, none⟩) (Nat.le_refl _) _).setCell (p := ⟨_, _, none⟩) (Nat.le_refl _) _).setCell (p := ⟨_, _, none⟩) (Nat.le_refl _) _)
  obtain ⟨hmk, rfl, rfl⟩ := hy (by omega)
  subst hmk
  have hm5 : m ≤ 5 := by omega
  obtain ⟨OA, hOA, mk1⟩ := mk_logs m hm5
  obtain ⟨OB, hOB, mk2⟩ := mk_bools m hm5
  have HOA := hide hOA
  have HOB := hide hOB
  clear hOA hOB hy hn ZP ZB
  go_enter Try.func14, Try.ntmps14
  go_upto_region 3 with fail
  go_cut [4, 14, 16] (fun p sa sb wx => ∃ X ga gd, p = .pointer (some ⟨X, 0, none⟩) ∧ sa = .slice (some ⟨ga, 0, none⟩) m m ∧ sb = .slice (some ⟨gd, 0, none⟩) m m ∧ NR w m X ga gd none 0 0 wx)
  case first =>
    go_region_with (fail)
    all_goals (
      go_wp2_with fail
      go_meet
      refine ⟨_, _, _, rfl, rfl, rfl, ?_⟩
      rw [HOA.out, HOB.out]
      obtain ⟨q0, q1, q2, q3, q4⟩ := heap4 w zR _ _ _
      first
        | exact nr_start q0 q1 q2 q3 q4 (by omega) (by omega) (by omega)
        | exact nr_start q0 q1 q3 q2 q4 (by omega) (by omega) (by omega)
        | exact nr_start q0 q2 q1 q3 q4 (by omega) (by omega) (by omega)
        | exact nr_start q0 q2 q3 q1 q4 (by omega) (by omega) (by omega)
        | exact nr_start q0 q3 q1 q2 q4 (by omega) (by omega) (by omega)
        | exact nr_start q0 q3 q2 q1 q4 (by omega) (by omega) (by omega))
  case rest =>
    obtain ⟨X, ga, gd, rfl, rfl, rfl, hnr⟩ := hcut
    have H0 := hide hnr
    clear hnr mk1 mk2
    go_wp2
    go_loopw [19] (fun i wr => ∃ (j : Nat) (ay : Option Addr) (cy : Nat), j ≤ m ∧ i = .int .i64 j ∧ Hid (NR w m X ga gd ay j cy wr)) (fun i _ => m - (intOf i).toNat)
    case atStart => exact ⟨0, none, 0, Nat.zero_le _, rfl, H0⟩
    case round =>
      obtain ⟨j, ay, cy, hj, rfl, HN⟩ := hrel
      obtain ⟨y0, y1, y2, y3, y4, y5⟩ := blk6 HN.out.box
      by_cases hlt : j < m
      · have hltI : (j : Int) < (m : Int) := by omega
        have yf : wr.frozen? ⟨X, 4, none⟩ = false := by simp [World.frozen?, HN.out.box]
        have hsz : w.heap.size + 1 ≤ (wr.alloc (.cells #[.int .i64 (j : Int)] 3)).heap.size := by have := HN.out.bel.size; simp; omega
        have O1 := hide (own_belowT HN.out.sy ((Below.refl wr.heap.size wr).alloc (Nat.le_refl _) (.cells #[.int .i64 (j : Int)] 3)))
        go_wp2_with (first
          | (at_builtin; refine wpList_append_own_at _ rfl _ _ 22 rfl (w.heap.size + 1) 3 i0 (.int .i64 0) 1 8 Try.underlying22 hi hz0 hz1 hz2 rfl (by decide) (.slice ay j cy) j _ rfl O1.out ⟨wr.heap.size, 0, none⟩ 1 1 [.int .i64 (j : Int)] rfl rfl (cell_one_new9 _ _ _) (one_cell9 _) (by unfold maxLen; omega) (by omega) hsz ?_)
          | go_in)
        intro v6 w6 hown6 hg6 _ _
        obtain ⟨a6, c6, rfl, _, _⟩ := (show ∃ a c, v6 = .slice a (j + 1) c ∧ True ∧ True from by
          rcases hown6.2 with ⟨_, h0⟩ | ⟨g, cap, cur, hv, _⟩
          · omega
          · exact ⟨_, cap, hv, trivial, trivial⟩)
        obtain ⟨⟨x4, xf⟩, hst⟩ := HN.out.step hown6 hg6
        have HST := hide hst
        clear hown6 hg6 hst O1
        go_wp2
        go_roundw
        case rel => exact ⟨j + 1, a6, c6, by omega, by go_num, HST⟩
        case measure => simp [intOf]; omega
      · obtain rfl : j = m := by omega
        have hltI : ¬ (j : Int) < (j : Int) := by omega
        obtain ⟨z0, z1, z2, z3, z4, z5⟩ := blk6 HN.out.res
        have zf : ∀ i, wr.frozen? ⟨w.heap.size, i, none⟩ = false := fun i => by simp [World.frozen?, HN.out.res]
        go_wp2
        refine bodyPost_ret (v := .tuple #[rpV (some ⟨ga, 0, none⟩) j j (some ⟨gd, 0, none⟩) j j 0 1 ay j cy none 0 0, .bool true]) (by simp [results, Try.f14, go_sem, z0, z1, z2, z3, z4, z5]) rfl (HN.out.out hm5 _ _ _ _ _ _)
set_option maxRecDepth 100000 in
set_option maxHeartbeats 4000000 in
theorem specNew_any (k : Int) (w : World) (m : Nat) (ep : Int) (ok : Bool) (hy : 1 ≤ k ∧ k ≤ 5 → (m : Int) = k ∧ ep = 1 ∧ ok = true) (hn : ¬ (1 ≤ k ∧ k ≤ 5) → m = 0 ∧ ep = 0 ∧ ok = false) :
    Calls Try.prog 13 #[.int .i64 k] w (RetN w m ep ok) := by
  obtain ⟨i0, hi, hz0, hz1, hz2⟩ := info_parts info_int
  have ZP := blk_new9 w zR
  have ZB := hide ((Below.refl w.heap.size w).alloc (Nat.le_refl _) zR)
  by_cases hin : 1 ≤ k ∧ k ≤ 5
  rotate_left
  · have C := hide (fun wx => L7.l1In_any k 1 5 wx false (by simp only [Bool.false_eq_true, false_iff]; exact hin))
    obtain ⟨rfl, rfl, rfl⟩ := hn hin
    obtain ⟨z0, z1, z2, z3, z4, z5⟩ := blk6 ZP
    clear hy hn ZP
    go_enter Try.func13, Try.ntmps13
    clear hin
    go_wp2_with fail
    refine (C.out _).mono ?_
    rintro e w2 ⟨rfl, rfl⟩
    go_wp2
    refine bodyPost_ret (v := .tuple #[rpV none 0 0 none 0 0 0 0 none 0 0 none 0 0, .bool false]) (by simp [results, Try.f13, go_sem, z0, z1, z2, z3, z4, z5]) rfl (retN_none ?_)
    first | exact ZB.out | exact ((((((ZB.out.setCell (p := ⟨_, _, none⟩) (Nat.le_refl _) _).setCell (p := ⟨_, _, none⟩) (Nat.le_refl _) _).setCell (p := ⟨_, _, none⟩) (Nat.le_refl _) _).setCell (p := ⟨_, _, none⟩) (Nat.le_refl _) _).setCell (p := ⟨_, _, none⟩) (Nat.le_refl _) _).setCell (p := ⟨_, _, none⟩) (Nat.le_refl _) _)
  have C := hide (fun wx => L7.l1In_any k 1 5 wx true (by simp [hin]))
  obtain ⟨h1, h5⟩ := hin
  obtain ⟨hmk, rfl, rfl⟩ := hy (by omega)
  subst hmk
  have hm5 : m ≤ 5 := by omega
  obtain ⟨OA, hOA, mk1⟩ := mk_logs m hm5
  obtain ⟨OB, hOB, mk2⟩ := mk_bools m hm5
  have HOA := hide hOA
  have HOB := hide hOB
  clear hOA hOB hy hn ZP ZB
  go_enter Try.func13, Try.ntmps13
  go_wp2_with fail
  refine (C.out _).mono ?_
  rintro e w2 ⟨rfl, rfl⟩
  go_upto_region 3 with fail
  go_cut [4, 11, 13] (fun p sa sb wx => ∃ X ga gd, p = .pointer (some ⟨X, 0, none⟩) ∧ sa = .slice (some ⟨ga, 0, none⟩) m m ∧ sb = .slice (some ⟨gd, 0, none⟩) m m ∧ NR w m X ga gd none 0 0 wx)
  case first =>
    go_region_with (fail)
    all_goals (
      go_wp2_with fail
      go_meet
      refine ⟨_, _, _, rfl, rfl, rfl, ?_⟩
      rw [HOA.out, HOB.out]
      obtain ⟨q0, q1, q2, q3, q4⟩ := heap4 w zR _ _ _
      first
        | exact nr_start q0 q1 q2 q3 q4 (by omega) (by omega) (by omega)
        | exact nr_start q0 q1 q3 q2 q4 (by omega) (by omega) (by omega)
        | exact nr_start q0 q2 q1 q3 q4 (by omega) (by omega) (by omega)
        | exact nr_start q0 q2 q3 q1 q4 (by omega) (by omega) (by omega)
        | exact nr_start q0 q3 q1 q2 q4 (by omega) (by omega) (by omega)
        | exact nr_start q0 q3 q2 q1 q4 (by omega) (by omega) (by omega))
  case rest =>
    obtain ⟨X, ga, gd, rfl, rfl, rfl, hnr⟩ := hcut
    have H0 := hide hnr
    clear hnr mk1 mk2
    go_wp2
    go_loopw [5] (fun i wr => ∃ (j : Nat) (ay : Option Addr) (cy : Nat), j ≤ m ∧ i = .int .i64 j ∧ Hid (NR w m X ga gd ay j cy wr)) (fun i _ => m - (intOf i).toNat)
    case atStart => exact ⟨0, none, 0, Nat.zero_le _, rfl, H0⟩
    case round =>
      obtain ⟨j, ay, cy, hj, rfl, HN⟩ := hrel
      obtain ⟨y0, y1, y2, y3, y4, y5⟩ := blk6 HN.out.box
      by_cases hlt : j < m
      · have hltI : (j : Int) < (m : Int) := by omega
        have yf : wr.frozen? ⟨X, 4, none⟩ = false := by simp [World.frozen?, HN.out.box]
        have hsz : w.heap.size + 1 ≤ (wr.alloc (.cells #[.int .i64 (j : Int)] 3)).heap.size := by have := HN.out.bel.size; simp; omega
        have O1 := hide (own_belowT HN.out.sy ((Below.refl wr.heap.size wr).alloc (Nat.le_refl _) (.cells #[.int .i64 (j : Int)] 3)))
        go_wp2_with (first
          | (at_builtin; refine wpList_append_own_at _ rfl _ _ 22 rfl (w.heap.size + 1) 3 i0 (.int .i64 0) 1 8 Try.underlying22 hi hz0 hz1 hz2 rfl (by decide) (.slice ay j cy) j _ rfl O1.out ⟨wr.heap.size, 0, none⟩ 1 1 [.int .i64 (j : Int)] rfl rfl (cell_one_new9 _ _ _) (one_cell9 _) (by unfold maxLen; omega) (by omega) hsz ?_)
          | go_in)
        intro v6 w6 hown6 hg6 _ _
        obtain ⟨a6, c6, rfl, _, _⟩ := (show ∃ a c, v6 = .slice a (j + 1) c ∧ True ∧ True from by
          rcases hown6.2 with ⟨_, h0⟩ | ⟨g, cap, cur, hv, _⟩
          · omega
          · exact ⟨_, cap, hv, trivial, trivial⟩)
        obtain ⟨⟨x4, xf⟩, hst⟩ := HN.out.step hown6 hg6
        have HST := hide hst
        clear hown6 hg6 hst O1
        go_wp2
        go_roundw
        case rel => exact ⟨j + 1, a6, c6, by omega, by go_num, HST⟩
        case measure => simp [intOf]; omega
      · obtain rfl : j = m := by omega
        have hltI : ¬ (j : Int) < (j : Int) := by omega
        obtain ⟨z0, z1, z2, z3, z4, z5⟩ := blk6 HN.out.res
        have zf : ∀ i, wr.frozen? ⟨w.heap.size, i, none⟩ = false := fun i => by simp [World.frozen?, HN.out.res]
        go_wp2
        refine bodyPost_ret (v := .tuple #[rpV (some ⟨ga, 0, none⟩) j j (some ⟨gd, 0, none⟩) j j 0 1 ay j cy none 0 0, .bool true]) (by simp [results, Try.f13, go_sem, z0, z1, z2, z3, z4, z5]) rfl (HN.out.out hm5 _ _ _ _ _ _)
end Go.Proofs.Ythmekhhfihjclbd.L9

namespace Go.Proofs.Ythmekhhfihjclbd.L9
open Go.RowKit L1 L7
set_option linter.unusedVariables false

abbrev Stp := Int × Int × ByteArray
abbrev eT : Stp := (0, 0, ByteArray.empty)
def SlT (w : World) (a : Option Addr) (l : List Stp) : Prop := ∀ i, i < l.length → ∃ b off, a = some ⟨b, off, none⟩ ∧ w.cell? ⟨b, off + i * 3, none⟩ = some (.int .i64 (l.getD i eT).1) ∧ w.cell? ⟨b, off + i * 3 + 1, none⟩ = some (.int .i64 (l.getD i eT).2.1) ∧ w.cell? ⟨b, off + i * 3 + 2, none⟩ = some (.string (l.getD i eT).2.2)
theorem SlT.below {w w' : World} {a : Option Addr} {xs : List Stp} (h : SlT w a xs) (hb : Below w.heap.size w w') : SlT w' a xs := fun i hi => by
  obtain ⟨b, off, ha, hc, hd, he⟩ := h i hi
  exact ⟨b, off, ha, (hb.cell (p := ⟨b, off + i * 3, none⟩) (blk_lt9 hc)).trans hc, (hb.cell (p := ⟨b, off + i * 3 + 1, none⟩) (blk_lt9 hd)).trans hd, (hb.cell (p := ⟨b, off + i * 3 + 2, none⟩) (blk_lt9 he)).trans he⟩
def TxT (l : List Stp) : Prop := ∀ j, j < l.length → (l.getD j eT).2.2.size ≤ 9223372036854775807
abbrev zeroM : Rm := ⟨[], [], 0, 0, [], []⟩
/-- What PlayRepl answers. -/
structure PlIs (k : Int) (ss : List Stp) (R : Rm) (D : List Bool) (ok : Bool) : Prop where
  yes : (1 ≤ k ∧ k ≤ 5) ∧ ss.length ≤ 120 → R = (plK (newM k.toNat) ss ss.length).1 ∧ D = (plK (newM k.toNat) ss ss.length).2 ∧ ok = true
  no : ¬ ((1 ≤ k ∧ k ≤ 5) ∧ ss.length ≤ 120) → R = zeroM ∧ D = [] ∧ ok = false
open Classical in
theorem play_is (k : Int) (ss : List Stp) : ∃ R D ok, PlIs k ss R D ok := by
  by_cases h : (1 ≤ k ∧ k ≤ 5) ∧ ss.length ≤ 120
  · exact ⟨_, _, _, fun _ => ⟨rfl, rfl, rfl⟩, fun h2 => absurd h h2⟩
  · exact ⟨_, _, _, fun h2 => absurd h2 h, fun _ => ⟨rfl, rfl, rfl⟩⟩
def PlRet (w : World) (R : Rm) (D : List Bool) (ok : Bool) (e : Ending) (w' : World) : Prop :=
  ∃ V ag cg ad cd ay cy ac cc ab cb S, e = .returned (.tuple #[rpV ag R.G.length cg ad R.dn.length cd R.ld R.ep ay R.sy.length cy ac R.ce.length cc, .slice ab D.length cb, .bool ok]) ∧ RW w' S V (.slice ag R.G.length cg) (.slice ad R.dn.length cd) (.slice ay R.sy.length cy) (.slice ac R.ce.length cc) R ∧ w'.ownsRow w.heap.size 4 1 (.slice ab D.length cb) D.length (D.map Value.bool) ∧ (∀ q, (Value.slice ab D.length cb).ownBlock = some q → ¬ S q) ∧ (∀ q, S q → w.heap.size ≤ q) ∧ Below w.heap.size w w'
theorem rw_zero (w : World) (S : Nat → Prop) : RW w S [] nilV nilV nilV nilV zeroM :=
  ⟨World.ownsRow_nil _ _ _ _, fun i hi => absurd hi (Nat.not_lt_zero _), fun i k q hi => absurd hi (Nat.not_lt_zero _), fun i q hi => absurd hi (Nat.not_lt_zero _), World.ownsRow_nil _ _ _ _, World.ownsRow_nil _ _ _ _, World.ownsRow_nil _ _ _ _, fun q hq => (by cases hq), fun i hi => absurd hi (Nat.not_lt_zero _), fun q hq => (by cases hq), fun q hq => (by cases hq), fun q hq => (by cases hq)⟩
theorem playRet_none {w w' : World} (hb : Below w.heap.size w w') : PlRet w zeroM [] false (.returned (.tuple #[rpV none 0 0 none 0 0 0 0 none 0 0 none 0 0, .slice none 0 0, .bool false])) w' :=
  ⟨[], none, 0, none, 0, none, 0, none, 0, none, 0, fun _ => False, rfl, rw_zero _ _, World.ownsRow_nil _ _ _ _, fun q hq => (by cases hq), fun q hq => hq.elim, hb⟩
theorem repl_getV (m i : Nat) : (List.replicate m nilV).getD i nilV = nilV := by
  simp only [List.getD, List.getElem?_replicate]
  split <;> rfl
/-- A new world of logs is one of the plain ones. -/
theorem rw_new {w w' : World} {m : Nat} {vg vd vy : Value} (h : OwR w' w.heap.size vg vd vy m (List.replicate m false) (upI m)) : RW w' (fun q => w.heap.size ≤ q ∧ q < w'.heap.size) (List.replicate m nilV) vg vd vy nilV (newM m) := by
  have hG : (newM m).G.length = m := by simp [newM]
  have hd : (newM m).dn.length = m := by simp [newM]
  have hy : (newM m).sy.length = m := by simp [newM]
  have ins : ∀ {c n : Nat} {t : TypeId} {v : Value} {xs : List Value}, w'.ownsRow w.heap.size t c v n xs → InS (fun q => w.heap.size ≤ q ∧ q < w'.heap.size) v := fun ho q hq => ⟨own_ge ho q hq, own_lt9 ho q hq⟩
  have hn : ∀ i, (List.replicate m nilV).getD i nilV = nilV := fun i => repl_getV m i
  refine ⟨by rw [hG]; exact own_zero h.g, fun i hi => ?_, fun i k q _ _ _ e => ?_, fun i q _ e => ?_, by rw [hd]; exact own_zero h.d, by rw [hy]; exact own_zero h.y, World.ownsRow_nil _ _ _ _, ins h.g, fun i _ q e => ?_, ins h.d, ins h.y, fun q hq => (by cases hq)⟩
  · rw [hn, show (newM m).G.getD i [] = [] from repl_get m i]
    exact World.ownsRow_nil _ _ _ _
  · rw [hn] at e; cases e
  · rw [hn] at e; cases e
  · rw [hn] at e; cases e
end Go.Proofs.Ythmekhhfihjclbd.L9
