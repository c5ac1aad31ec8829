/-
  Contract: (*impl.Repl).leave.
  Two lists of entries alike.
  Contracts: slices.Equal at entries, (*impl.Repl).isLikeLeader.
  Contract: spec.l1Put: a number put into a list that the caller owns.
  Contracts: a rising set's join; spec.l4Join: those of either list, in new memory.
  Contract: (*impl.Repl).join.
  Contract: (*impl.Repl).fail.
  Contract: (*impl.Repl).comeBack.
-/
import Derived.Test.YthmekhhfihjclbdBundle4
import Derived.Test.YthmekhhfihjclbdBundle6
import Derived.Deep.RegionLaw
import Derived.Deep.DeepCutAuto
import Derived.Test.YthmekhhfihjclbdBundle1
import Derived.Test.YthmekhhfihjclbdBundle3
import Derived.Deep.RegionHeld3
import Derived.Deep.QuietTactic
import Derived.BigQuiet
import Derived.Test.YthmekhhfihjclbdBundle2
import Derived.Deep.Upon
import Derived.Deep.RegionWith
namespace Go.Proofs.Ythmekhhfihjclbd.L9
open Go.RowKit L1 L7
set_option linter.unusedVariables false

set_option maxRecDepth 100000 in
set_option maxHeartbeats 2000000 in
theorem leave_any (S : Nat → Prop) (b : Nat) (r : Rm) (w : World) (hI : Inv r) (hR : RB w S b r) (hS : ∀ q, S q → q < w.heap.size) (kd nd : Int) (t : ByteArray) (h0 : 0 ≤ nd) (h1 : nd < (r.G.length : Int)) (o : Option Rm) (ho : o = if nd ≠ r.ld ∧ r.down r.ld = false ∧ nd ∈ r.sy then some { r with sy := L4.those [nd] false r.sy } else none) :
    Calls Try.prog 84 #[.pointer (some ⟨b, 0, none⟩), .agg #[.int .i64 kd, .int .i64 nd, .string t]] w fun e w' => e = .returned (.bool o.isSome) ∧ Done S w b (o.getD r) w' := by
  obtain ⟨V, gb, cg, db, cd, ay, cy, ac, cc, hb, hW, hSb⟩ := hR.open hI
  have hnode := hI.node
  have hdn := hI.good.down
  have hn1 := hI.good.logs.1
  obtain ⟨i, rfl⟩ : ∃ i : Nat, nd = (i : Int) := ⟨nd.toNat, by omega⟩
  obtain ⟨j, hj⟩ : ∃ j : Nat, r.ld = (j : Int) := ⟨r.ld.toNat, by omega⟩
  obtain ⟨n, hn⟩ : ∃ n, n = r.G.length := ⟨_, rfl⟩
  obtain ⟨ny, hny⟩ : ∃ ny, ny = r.sy.length := ⟨_, rfl⟩
  obtain ⟨nc, hnc⟩ : ∃ nc, nc = r.ce.length := ⟨_, rfl⟩
  obtain ⟨E, hE⟩ : ∃ E, E = r.ep := ⟨_, rfl⟩
  have hin : i < n := by omega
  have hjn : j < n := by omega
  have ci := hW.downAt i (by omega)
  have cj := hW.downAt j (by omega)
  obtain ⟨k0, k1, k2, k3, k4, k5⟩ := blk6 hb
  rw [hdn, ← hn] at k1
  rw [← hn] at k0
  rw [hj] at k2
  rw [← hE] at k3
  rw [← hny] at k4
  rw [← hnc] at k5
  have hzz := rpz_of hI
  have BX := (Below.refl w.heap.size w).alloc (Nat.le_refl _) (Obj.cells #[.int .i64 kd, .int .i64 (i : Int), .string t] 50)
  have SX := blk_new9 w (Obj.cells #[.int .i64 kd, .int .i64 (i : Int), .string t] 50)
  obtain ⟨w1, hw1⟩ : ∃ w1, w1 = w.alloc (Obj.cells #[.int .i64 kd, .int .i64 (i : Int), .string t] 50) := ⟨_, rfl⟩
  have HW1 := hide hw1
  rw [← hw1] at BX SX
  clear hw1
  have s0 : w1.cell? ⟨w.heap.size, 0, none⟩ = some (.int .i64 kd) := by simp [World.cell?, SX]
  have s1 : w1.cell? ⟨w.heap.size, 1, none⟩ = some (.int .i64 (i : Int)) := by simp [World.cell?, SX]
  have s2 : w1.cell? ⟨w.heap.size, 2, none⟩ = some (.string t) := by simp [World.cell?, SX]
  have g0 := (BX.cell (blk_lt9 k0)).trans k0
  have g1 := (BX.cell (blk_lt9 k1)).trans k1
  have g2 := (BX.cell (blk_lt9 k2)).trans k2
  have g3 := (BX.cell (blk_lt9 k3)).trans k3
  have g4 := (BX.cell (blk_lt9 k4)).trans k4
  have g5 := (BX.cell (blk_lt9 k5)).trans k5
  have di := (BX.cell (blk_lt9 ci)).trans ci
  have dj := (BX.cell (blk_lt9 cj)).trans cj
  have hWx := hW.below BX
  have hbx : w1.heap[b]? = _ := (BX.block b (Array.getElem?_eq_some_iff.1 hb).1).trans hb
  have fb := fun c => frz hbx c
  have fg : ∀ c, w1.frozen? ⟨gb, c, none⟩ = false := fun c => own_frz hWx.g c
  have fd : ∀ c, w1.frozen? ⟨db, c, none⟩ = false := fun c => own_frz hWx.d c
  have hiI : (i : Int) < (n : Int) := by omega
  have hi0 : (0 : Int) ≤ (i : Int) := by omega
  have hjI : (j : Int) < (n : Int) := by omega
  have hj0 : (0 : Int) ≤ (j : Int) := by omega
  have HOF := hide ho
  have HRF := hide hR
  have HWF := hide hW
  have HBF := hide hb
  have BXF := hide BX
  have hy6 := hzz.y2
  rw [← hny] at hy6
  have hyr := rn_rise hI.good.rise
  obtain ⟨x, hx⟩ : ∃ x, x = r.dn.getD i false := ⟨_, rfl⟩
  have HX : Hid (r.down (i : Int) = x) := hide hx.symm
  rw [← hx] at di
  obtain ⟨y, hy⟩ : ∃ y, y = r.dn.getD j false := ⟨_, rfl⟩
  have HY : Hid (r.down r.ld = y) := hide (by rw [hj]; exact hy.symm)
  rw [← hy] at dj
  obtain ⟨bi, hbi⟩ : ∃ bi : Bool, bi = true ↔ (i : Int) ∈ r.sy := ⟨decide ((i : Int) ∈ r.sy), by simp⟩
  have HBI := hide hbi
  have HLD := hide hj
  have HEP := hide hE
  have he0 : 1 ≤ E := by rw [hE]; exact hI.good.e0
  have he1 : E ≤ 1000 := by rw [hE]; exact hI.good.e1
  have CI := hide (fun m => isIn_any b ay ny cy r.sy (i : Int) (w1.drewN m) g4 hny.symm (hWx.rps.1.y.below (below_drewN (Below.refl _ _) m)) hy6 bi hbi)
  have CL := hide (fun m => leaderDown_any b db n cd j y (w1.drewN m) g1 g2 hjn dj)

  obtain ⟨ys, hys⟩ : ∃ ys, ys = L4.those [(i : Int)] false r.sy := ⟨_, rfl⟩
  obtain ⟨m, hm⟩ : ∃ m, m = ys.length := ⟨_, rfl⟩
  have HYS := hide hys
  have HM := hide hm
  have hsc := L4.own_slC hWx.y
  rw [← hny] at hsc

  have CW := hide (fun wx (hbw : Below w1.heap.size w1 wx) (hx0 : wx.cell? ⟨w1.heap.size, 0, none⟩ = some (.int .i64 (i : Int))) => (L4.without_any ay r.sy ny cy (some ⟨w1.heap.size, 0, none⟩) [(i : Int)] 1 1 wx hny.symm (hsc.below hbw) hy6 rfl (one_slC hx0) (by omega) hyr (List.pairwise_singleton _ _)).mono (fun e w3 h => show ∃ a5 c5, e = .returned (.slice a5 m c5) ∧ (w3.ownsRow w1.heap.size 3 1 (.slice a5 m c5) m (ys.map (Value.int .i64)) ∧ Below w1.heap.size w1 w3) ∧ w3.cell? ⟨b, 4, none⟩ = some (.slice ay ny cy) ∧ w3.frozen? ⟨b, 4, none⟩ = false by
    obtain ⟨v, rfl, ho3, hb3⟩ := h
    have hb4 := hbw.trans (hb3.mono hbw.size)
    rw [← hys, ← hm] at ho3
    obtain ⟨a5, c5, rfl⟩ := L4.own_shapeT ho3
    exact ⟨a5, c5, rfl, ⟨own_baseZ ho3 hbw.size, hb4⟩, (hb4.cell (p := ⟨b, 4, none⟩) (blk_lt9 g4)).trans g4, frz ((hb4.block b (Array.getElem?_eq_some_iff.1 hbx).1).trans hbx) 4⟩))
  clear hx hy hbi hj hE hny hnc hn hys hm hsc
  clear ho hR hW hb hWx hbx BX hI hzz hdn hn1 hnode cj ci k0 k1 k2 k3 k4 k5 SX hy6 hyr
  go_enter Try.func84, Try.ntmps84
  go_upto_region 1 with fail
  rw [← HW1.out]
  by_cases hij : i = j
  · subst hij
    go_quiet (first | (go_at_call 101; exact Calls.quiet_of_same (CI.out _)) | (go_at_call 98; exact Calls.quiet_of (CL.out _)))
    go_wp2
    go_ret
    have hoo := HOF.out
    rw [if_neg (fun h => h.1 HLD.out.symm)] at hoo
    exact ⟨by rw [hoo]; rfl, by rw [hoo]; exact HRF.out.same (below_drewN BXF.out _)⟩

  · have hij2 : ((i : Int) == (j : Int)) = false := by simp; omega
    cases y with
    | true =>
      go_quiet (first | (go_at_call 101; exact Calls.quiet_of_same (CI.out _)) | (go_at_call 98; exact Calls.quiet_of (CL.out _)))
      go_wp2
      go_ret
      have hoo := HOF.out
      rw [if_neg (fun h => by have h2 := h.2.1; rw [HY.out] at h2; cases h2)] at hoo
      exact ⟨by rw [hoo]; rfl, by rw [hoo]; exact HRF.out.same (below_drewN BXF.out _)⟩

    | false =>
      cases bi with
      | false =>
        go_quiet (first | (go_at_call 101; exact Calls.quiet_of_same (CI.out _)) | (go_at_call 98; exact Calls.quiet_of (CL.out _)))
        go_wp2
        go_ret
        have hoo := HOF.out
        rw [if_neg (fun h => by have := HBI.out.2 h.2.2; cases this)] at hoo
        exact ⟨by rw [hoo]; rfl, by rw [hoo]; exact HRF.out.same (below_drewN BXF.out _)⟩

      | true =>
        go_quiet (first | (go_at_call 101; exact Calls.quiet_of_same (CI.out _)) | (go_at_call 98; exact Calls.quiet_of (CL.out _)))
        go_upto_region 3 with fail
        have a4 : ∀ m ob, ((w1.drewN m).alloc ob).cell? ⟨b, 4, none⟩ = some (.slice ay ny cy) := fun m ob => Go.Lib.cell?_alloc_some (W := w1.drewN m) ob g4
        have a1 : ∀ m ob, ((w1.drewN m).alloc ob).cell? ⟨w.heap.size, 1, none⟩ = some (.int .i64 (i : Int)) := fun m ob => Go.Lib.cell?_alloc_some (W := w1.drewN m) ob s1
        have hoo := HOF.out
        rw [if_pos ⟨fun h => hij (by have := HLD.out; omega), HY.out, HBI.out.1 rfl⟩] at hoo
        have HOO := hide hoo
        clear hoo
        go_cut [] (fun wx => ∃ a5 c5 w3, wx = w3.setCell ⟨b, 4, none⟩ (.slice a5 m c5) ∧ w3.ownsRow w1.heap.size 3 1 (.slice a5 m c5) m (ys.map (Value.int .i64)) ∧ Below w1.heap.size w1 w3)
        case first =>
          go_region_law (rw [if_pos (by rfl)]; go_simp; go_at_call 102; refine (CW.out _ (by first | exact (Below.refl _ _).alloc (Nat.le_refl _) _ | exact ((Below.refl _ _).drew).alloc (Nat.le_refl _) _ | exact (below_drewN (Below.refl _ _) _).alloc (Nat.le_refl _) _) (by first | exact cell_new9 _ _ _ | exact cell_new9 (World.drew _) _ _ | exact cell_new9 (World.drewN _ _) _ _)).mono ?_; rintro e w3 ⟨a5, c5, rfl, ho3, c4, f4⟩; dsimp only)
          all_goals (
            go_wp2_with fail
            go_meet
            case rel => exact ⟨a5, c5, w3, rfl, ho3⟩)
        case rest =>
          obtain ⟨a5, c5, w3, rfl, ho3, hb3⟩ := hcut
          have hbw := BXF.out.trans (hb3.mono BXF.out.size)
          go_wp2
          go_ret
          refine ⟨by rw [HOO.out]; rfl, ?_⟩
          rw [HOO.out, ← HYS.out]
          exact done_sync HWF.out HBF.out hSb hbw _ ys (by rw [← HM.out]; exact own_baseZ ho3 BXF.out.size)
end Go.Proofs.Ythmekhhfihjclbd.L9

namespace Go.Proofs.Ythmekhhfihjclbd.L7
open Go.RowKit L1
set_option linter.unusedVariables false

theorem list_sameE {xs ys : List En} {m : Nat} (h1 : xs.length = m) (h2 : ys.length = m) (h : ∀ j, j < m → ys.getD j eE = xs.getD j eE) : ys = xs := by
  apply List.ext_getElem?
  intro j
  by_cases hj : j < m
  · have h := h j hj
    simp only [List.getD, List.getElem?_eq_getElem (show j < ys.length by omega), List.getElem?_eq_getElem (show j < xs.length by omega), Option.getD_some] at h
    rw [List.getElem?_eq_getElem (show j < ys.length by omega), List.getElem?_eq_getElem (show j < xs.length by omega), h]
  · rw [List.getElem?_eq_none (by omega), List.getElem?_eq_none (by omega)]

end Go.Proofs.Ythmekhhfihjclbd.L7

namespace Go.Proofs.Ythmekhhfihjclbd.L9
open Go.RowKit L1 L7
set_option linter.unusedVariables false

theorem below_drew9 {N : Nat} {w w' : World} (h : Below N w w') : ∀ q, Below N w (w'.drewN q)
  | 0 => h
  | q + 1 => (below_drew9 h q).drew
theorem text_ne9 {a b : ByteArray} (h : a ≠ b) : (a.toList == b.toList) = false := by
  have : ¬ a.toList = b.toList := fun e => h (by
    apply ByteArray.ext
    apply Array.toList_inj.1
    rw [← ByteArray.toList_eq, ← ByteArray.toList_eq, e])
  simpa using this
set_option maxRecDepth 100000 in
set_option maxHeartbeats 2000000 in
theorem equalE_any (a b : Option Addr) (l m : List En) (n k c1 c2 : Nat) (w : World) (hn : l.length = n) (hm : m.length = k) (ha : SlE w a l) (hb : SlE w b m) (hn2 : n ≤ 1048576) (hk2 : k ≤ 1048576) (bb : Bool) (hbb : bb = true ↔ l = m) :
    Calls Try.prog 110 #[.slice a n c1, .slice b k c2] w fun e w' => e = .returned (.bool bb) ∧ Below w.heap.size w w' := by
  have HA := hide ha
  have HB := hide hb
  have HN := hide hn
  have HM := hide hm
  have HBB := hide hbb
  clear ha hb hn hm hbb
  by_cases hnm : n = k
  · subst hnm
    go_enter Try.func110, Try.ntmps110
    go_wp2
    go_loopw [13] (fun i wr => ∃ k : Nat, k ≤ n ∧ i = .int .i64 k ∧ Hid (∀ j, j < k → l.getD j eE = m.getD j eE) ∧ Below w.heap.size w wr) (fun i _ => n - (intOf i).toNat)
    case atStart => exact ⟨0, Nat.zero_le _, rfl, fun j hj => absurd hj (Nat.not_lt_zero _), Below.refl _ _⟩
    case round =>
      obtain ⟨j, hk, rfl, HJ, hbel⟩ := hrel
      by_cases hlt : j < n
      · have h1I : (j : Int) < (n : Int) := by omega
        obtain ⟨b1, o1, rfl, p1, p2⟩ := HA.out j (by rw [HN.out]; exact hlt)
        obtain ⟨b2, o2, rfl, p3, p4⟩ := HB.out j (by rw [HM.out]; exact hlt)
        have g1 := (hbel.cell (p := ⟨b1, o1 + j * 2, none⟩) (blk_lt p1)).trans p1
        have g2 := (hbel.cell (p := ⟨b1, o1 + j * 2 + 1, none⟩) (blk_lt p2)).trans p2
        have g3 := (hbel.cell (p := ⟨b2, o2 + j * 2, none⟩) (blk_lt p3)).trans p3
        have g4 := (hbel.cell (p := ⟨b2, o2 + j * 2 + 1, none⟩) (blk_lt p4)).trans p4
        have hj0 : (0 : Int) ≤ (j : Int) := by omega
        obtain ⟨x, hx⟩ : ∃ x, x = (l.getD j eE).1 := ⟨_, rfl⟩
        obtain ⟨y, hy⟩ : ∃ y, y = (l.getD j eE).2 := ⟨_, rfl⟩
        obtain ⟨u, hu⟩ : ∃ u, u = (m.getD j eE).1 := ⟨_, rfl⟩
        obtain ⟨v, hv⟩ : ∃ v, v = (m.getD j eE).2 := ⟨_, rfl⟩
        rw [← hx] at g1
        rw [← hy] at g2
        rw [← hu] at g3
        rw [← hv] at g4
        have HXY : Hid (l.getD j eE = (x, y)) := by show _ = _; rw [hx, hy]
        have HUV : Hid (m.getD j eE = (u, v)) := by show _ = _; rw [hu, hv]
        have B0 := hide hbel
        clear p1 p2 p3 p4 hx hy hu hv hbel
        by_cases e1 : x = u
        · subst e1
          have f1 : (x == x) = true := by simp
          by_cases e2 : y = v
          · subst e2
            have f2 : (y.toList == y.toList) = true := by simp
            have HJ2 : Hid (∀ q, q < j + 1 → l.getD q eE = m.getD q eE) := fun q hq => by
              by_cases e : q = j
              · rw [e, HXY.out, HUV.out]
              · exact HJ.out q (by omega)
            go_wp2
            go_quiet (fail)
            go_wp2
            go_roundw
            case rel => exact ⟨j + 1, by omega, by go_num, HJ2.out, below_drew9 B0.out _⟩
            case measure => simp [intOf]; omega
          · have f2 : (y.toList == v.toList) = false := text_ne9 e2
            have E : Hid (bb = false) := bool_noT HBB.out (fun h => e2 (by have h1 := HXY.out; rw [h, HUV.out] at h1; exact (congrArg Prod.snd h1).symm))
            clear e2
            go_wp2
            go_quiet (fail)
            go_wp2
            go_ret
            exact ⟨by rw [E.out]; rfl, below_drew9 B0.out _⟩
        · have f1 : (x == u) = false := by simpa using e1
          have E : Hid (bb = false) := bool_noT HBB.out (fun h => e1 (by have h1 := HXY.out; rw [h, HUV.out] at h1; exact (congrArg Prod.fst h1).symm))
          clear e1
          go_wp2
          go_quiet (fail)
          go_wp2
          go_ret
          exact ⟨by rw [E.out]; rfl, below_drew9 B0.out _⟩
      · obtain rfl : j = n := by omega
        have hltI : ¬ (j : Int) < (j : Int) := by omega
        have E : Hid (bb = true) := HBB.out.2 (list_sameE HM.out HN.out (fun q hq => HJ.out q hq))
        go_wp2
        go_ret
        exact ⟨by rw [E.out]; rfl, hbel⟩
  · have E : Hid (bb = false) := bool_noT HBB.out (fun h => hnm (by rw [← HN.out, ← HM.out, h]))
    have hI : ((n : Int) != (k : Int)) = true := by simp; omega
    go_enter Try.func110, Try.ntmps110
    go_wp2
    go_ret
    exact ⟨by rw [E.out]; rfl, Below.refl _ _⟩
set_option maxRecDepth 100000 in
set_option maxHeartbeats 2000000 in
theorem isLike_any (gb : Nat) (ag : Option Addr) (n cg : Nat) (ad : Option Addr) (nd cd : Nat) (ld ep : Int) (ay : Option Addr) (ny cy : Nat) (ac : Option Addr) (nc cc : Nat) (G : List (List En)) (sy : List Int) (ce : List En) (k : Int) (w : World) (hz : RpZ G sy ce n nd ny nc) (hs : RpS w ag ay ac G sy ce) (hblk : w.heap[gb]? = some (rpO ag n cg ad nd cd ld ep ay ny cy ac nc cc)) (hk : 0 ≤ k ∧ k < (n : Int)) (hl : 0 ≤ ld ∧ ld < (n : Int)) (bb : Bool) (hbb : bb = true ↔ gg G k = gg G ld) :
    Calls Try.prog 103 #[.pointer (some ⟨gb, 0, none⟩), .int .i64 k] w fun e w' => e = .returned (.bool bb) ∧ Below w.heap.size w w' := by
  obtain ⟨k0, k1, k2, k3, k4, k5⟩ := blk6 hblk
  have hn := hz.hn
  obtain ⟨b, off, rfl, i, ai, ci, hi, hin, hci, hsi⟩ := hs.g.at' k hk.1 (by omega)
  obtain ⟨b', off', hba, j, aj, cj, hj, hjn, hcj, hsj⟩ := hs.g.at' ld hl.1 (by omega)
  cases hba
  subst hi
  subst hj
  have h1 := hz.ls i hin
  have h2 := hz.ls j hjn
  obtain ⟨l, hll⟩ : ∃ l, l = gg G (i : Int) := ⟨_, rfl⟩
  obtain ⟨m, hmm⟩ : ∃ m, m = gg G (j : Int) := ⟨_, rfl⟩
  rw [← hll] at hci hsi hbb
  rw [← hmm] at hcj hsj hbb
  rw [show G.getD i [] = l from hll.symm] at h1
  rw [show G.getD j [] = m from hmm.symm] at h2
  obtain ⟨p, hp⟩ : ∃ p, p = l.length := ⟨_, rfl⟩
  obtain ⟨q, hq⟩ : ∃ q, q = m.length := ⟨_, rfl⟩
  rw [← hp] at hci h1
  rw [← hq] at hcj h2
  have hiI : (i : Int) < (n : Int) := by omega
  have hi0 : (0 : Int) ≤ (i : Int) := by omega
  have hjI : (j : Int) < (n : Int) := by omega
  have hj0 : (0 : Int) ≤ (j : Int) := by omega
  have C := hide (fun wx (hb : Below w.heap.size w wx) => equalE_any ai aj l m p q ci cj wx hp.symm hq.symm (hsi.below hb) (hsj.below hb) h1 h2 bb hbb)
  clear hs hz hblk hll hmm hp hq hsi hsj hn hk hl hbb
  go_enter Try.func103, Try.ntmps103
  go_wp2
  refine wp_region_held_drew (S := fun wx => (wx.cell? ⟨gb, 0, none⟩ = some (.slice (some ⟨b, off, none⟩) n cg) ∧ wx.cell? ⟨gb, 2, none⟩ = some (.int .i64 (j : Int)) ∧ wx.cell? ⟨b, off + i, none⟩ = some (.slice ai p ci) ∧ wx.cell? ⟨b, off + j, none⟩ = some (.slice aj q cj)) ∧ Below w.heap.size w wx) (by kernel_rfl) ⟨⟨k0, k2, hci, hcj⟩, (Below.refl _ _).drew⟩ (fun hHeld => ?_)
  refine wpAnyH_take (i := 0) (v := ?v1) rfl (by kernel_rfl) (by kernel_rfl) (by kernel_rfl) (fun _ _ _ h => h) (Or.inl ⟨by rfl, ?y1⟩) (by assumption) ?r1
  case y1 => (intro w hSw; (try dsimp only at hSw); go_simp; try (with_reducible rfl))
  simp only [List.getElem_toArray, List.getElem_cons_zero, Act.put, List.setIfInBounds_toArray, List.set_cons_zero, List.set_cons_succ]
  refine wpAnyH_take (i := 1) (v := ?v2) rfl (by kernel_rfl) (by kernel_rfl) (by kernel_rfl) (fun _ _ _ h => h) (Or.inl ⟨by rfl, ?y2⟩) (by assumption) ?r2
  case y2 => (intro w hSw; (try dsimp only at hSw); go_simp; try (with_reducible rfl))
  simp only [List.getElem_toArray, List.getElem_cons_succ, List.getElem_cons_zero, Act.put, List.setIfInBounds_toArray, List.set_cons_zero, List.set_cons_succ]
  refine wpAnyH_take (i := 2) (v := ?v3) rfl (by kernel_rfl) (by kernel_rfl) (by kernel_rfl) (fun _ _ _ h => h) (Or.inl ⟨by rfl, ?y3⟩) (by assumption) ?r3
  case y3 => (intro w hSw; (try dsimp only at hSw); go_simp; try (with_reducible rfl))
  simp only [List.getElem_toArray, List.getElem_cons_succ, List.getElem_cons_zero, Act.put, List.setIfInBounds_toArray, List.set_cons_zero, List.set_cons_succ]
  refine wpAnyH_take (i := 3) (v := ?v4) rfl (by kernel_rfl) (by kernel_rfl) (by kernel_rfl) (fun _ _ _ h => h) (Or.inl ⟨by rfl, ?y4⟩) (by assumption) ?r4
  case y4 => (intro w hSw; (try dsimp only at hSw); go_simp; try (with_reducible rfl))
  simp only [List.getElem_toArray, List.getElem_cons_succ, List.getElem_cons_zero, Act.put, List.setIfInBounds_toArray, List.set_cons_zero, List.set_cons_succ]
  refine wpAnyH_take (i := 4) (v := ?v5) rfl (by kernel_rfl) (by kernel_rfl) (by kernel_rfl) (fun _ _ _ h => h) (Or.inl ⟨by rfl, ?y5⟩) (by assumption) ?r5
  case y5 => (intro w hSw; (try dsimp only at hSw); go_simp; try (with_reducible rfl))
  simp only [List.getElem_toArray, List.getElem_cons_succ, List.getElem_cons_zero, Act.put, List.setIfInBounds_toArray, List.set_cons_zero, List.set_cons_succ]
  refine wpAnyH_take (i := 5) (v := ?v6) rfl (by kernel_rfl) (by kernel_rfl) (by kernel_rfl) (fun _ _ _ h => h) (Or.inl ⟨by rfl, ?y6⟩) (by assumption) ?r6
  case y6 => (intro w hSw; (try dsimp only at hSw); go_simp; try (with_reducible rfl))
  simp only [List.getElem_toArray, List.getElem_cons_succ, List.getElem_cons_zero, Act.put, List.setIfInBounds_toArray, List.set_cons_zero, List.set_cons_succ]
  refine wpAnyH_take (i := 6) (v := ?v7) rfl (by kernel_rfl) (by kernel_rfl) (by kernel_rfl) (fun _ _ _ h => h) (Or.inl ⟨by rfl, ?y7⟩) (by assumption) ?r7
  case y7 => (intro w hSw; (try dsimp only at hSw); go_simp; try (with_reducible rfl))
  simp only [List.getElem_toArray, List.getElem_cons_succ, List.getElem_cons_zero, Act.put, List.setIfInBounds_toArray, List.set_cons_zero, List.set_cons_succ]
  refine wpAnyH_take (i := 7) (v := ?v8) rfl (by kernel_rfl) (by kernel_rfl) (by kernel_rfl) (fun _ _ _ h => h) (Or.inl ⟨by rfl, ?y8⟩) (by assumption) ?r8
  case y8 => (intro w hSw; (try dsimp only at hSw); go_simp; try (with_reducible rfl))
  simp only [List.getElem_toArray, List.getElem_cons_succ, List.getElem_cons_zero, Act.put, List.setIfInBounds_toArray, List.set_cons_zero, List.set_cons_succ]
  refine wpAnyH_take (i := 8) (v := ?v9) rfl (by kernel_rfl) (by kernel_rfl) (by kernel_rfl) (fun _ _ _ h => h) (Or.inl ⟨by rfl, ?y9⟩) (by assumption) ?r9
  case y9 => (intro w hSw; (try dsimp only at hSw); go_simp; try (with_reducible rfl))
  simp only [List.getElem_toArray, List.getElem_cons_succ, List.getElem_cons_zero, Act.put, List.setIfInBounds_toArray, List.set_cons_zero, List.set_cons_succ]
  refine wpAnyH_take (i := 9) (v := ?v10) rfl (by kernel_rfl) (by kernel_rfl) (by kernel_rfl) (fun _ _ _ h => h) (Or.inl ⟨by rfl, ?y10⟩) (by assumption) ?r10
  case y10 => (intro w hSw; (try dsimp only at hSw); go_simp; try (with_reducible rfl))
  simp only [List.getElem_toArray, List.getElem_cons_succ, List.getElem_cons_zero, Act.put, List.setIfInBounds_toArray, List.set_cons_zero, List.set_cons_succ]
  refine wpAnyH_take (i := 10) (v := ?v11) rfl (by kernel_rfl) (by kernel_rfl) (by kernel_rfl) (fun _ _ _ h => h) (Or.inl ⟨by rfl, ?y11⟩) (by assumption) ?r11
  case y11 => (intro w hSw; (try dsimp only at hSw); go_simp; try (with_reducible rfl))
  simp only [List.getElem_toArray, List.getElem_cons_succ, List.getElem_cons_zero, Act.put, List.setIfInBounds_toArray, List.set_cons_zero, List.set_cons_succ]
  refine wpAnyH_take (i := 11) (v := ?v12) rfl (by kernel_rfl) (by kernel_rfl) (by kernel_rfl) (fun _ _ _ h => h) (Or.inl ⟨by rfl, ?y12⟩) (by assumption) ?r12
  case y12 => (intro w hSw; (try dsimp only at hSw); go_simp; try (with_reducible rfl))
  simp only [List.getElem_toArray, List.getElem_cons_succ, List.getElem_cons_zero, Act.put, List.setIfInBounds_toArray, List.set_cons_zero, List.set_cons_succ]
  refine wpAnyH_take (i := 12) (v := ?v13) rfl (by kernel_rfl) (by kernel_rfl) (by kernel_rfl) (fun _ _ _ h => h) (Or.inl ⟨by rfl, ?y13⟩) (by assumption) ?r13
  case y13 => (intro w hSw; (try dsimp only at hSw); go_simp; try (with_reducible rfl))
  simp only [List.getElem_toArray, List.getElem_cons_succ, List.getElem_cons_zero, Act.put, List.setIfInBounds_toArray, List.set_cons_zero, List.set_cons_succ]
  refine wpAnyH_take (i := 13) (v := ?v14) rfl (by kernel_rfl) (by kernel_rfl) (by kernel_rfl) (fun _ _ _ h => h) (Or.inl ⟨by rfl, ?y14⟩) (by assumption) ?r14
  case y14 => (intro w hSw; (try dsimp only at hSw); go_simp; try (with_reducible rfl))
  simp only [List.getElem_toArray, List.getElem_cons_succ, List.getElem_cons_zero, Act.put, List.setIfInBounds_toArray, List.set_cons_zero, List.set_cons_succ]
  refine wpAnyH_take (i := 14) (v := ?v15) rfl (by kernel_rfl) (by kernel_rfl) (by kernel_rfl) (fun _ _ _ h => h) (Or.inl ⟨by rfl, ?y15⟩) (by assumption) ?r15
  case y15 => (intro w hSw; (try dsimp only at hSw); go_simp; try (with_reducible rfl))
  simp only [List.getElem_toArray, List.getElem_cons_succ, List.getElem_cons_zero, Act.put, List.setIfInBounds_toArray, List.set_cons_zero, List.set_cons_succ]
  refine wpAnyH_take (i := 15) (v := ?v16) rfl (by kernel_rfl) (by kernel_rfl) (by kernel_rfl) (fun _ _ _ h => h) (Or.inl ⟨by rfl, ?y16⟩) (by assumption) ?r16
  case y16 => (intro w hSw; (try dsimp only at hSw); go_simp; try (with_reducible rfl))
  simp only [List.getElem_toArray, List.getElem_cons_succ, List.getElem_cons_zero, Act.put, List.setIfInBounds_toArray, List.set_cons_zero, List.set_cons_succ]
  refine wpAnyH_take (i := 16) (v := ?v17) rfl (by kernel_rfl) (by kernel_rfl) (by kernel_rfl) (fun _ _ _ h => h) (Or.inl ⟨by rfl, ?y17⟩) (by assumption) ?r17
  case y17 => (intro w hSw; (try dsimp only at hSw); go_simp; try (with_reducible rfl))
  simp only [List.getElem_toArray, List.getElem_cons_succ, List.getElem_cons_zero, Act.put, List.setIfInBounds_toArray, List.set_cons_zero, List.set_cons_succ]
  refine wpAnyH_ready (rs := [17]) (by kernel_rfl) (by simp) ?_
  refine AllReadyH.cons rfl (fun K hK => ?_) AllReadyH.nil
  simp only [List.getElem_toArray, List.getElem_cons_succ, List.getElem_cons_zero]
  go_simp
  go_at_call 110
  refine (C.out _ hHeld.2).mono ?_
  rintro e w1 ⟨rfl, hb⟩
  dsimp only
  refine hK.out _ _ ?_ (fun hHeld => ?_)
  · exact ⟨⟨(hb.cell (blk_lt9 hHeld.1.1)).trans hHeld.1.1, (hb.cell (blk_lt9 hHeld.1.2.1)).trans hHeld.1.2.1, (hb.cell (blk_lt9 hHeld.1.2.2.1)).trans hHeld.1.2.2.1, (hb.cell (blk_lt9 hHeld.1.2.2.2)).trans hHeld.1.2.2.2⟩, hHeld.2.trans (hb.mono hHeld.2.size)⟩
  clear hK K
  try simp only [Act.put, List.setIfInBounds_toArray, List.set_cons_zero, List.set_cons_succ]
  refine wpAnyH_take (i := 18) (v := ?v18) rfl (by kernel_rfl) (by kernel_rfl) (by kernel_rfl) (fun _ _ _ h => h) (Or.inl ⟨by rfl, ?y18⟩) (by assumption) ?r18
  case y18 => (intro w hSw; (try dsimp only at hSw); go_simp; try (with_reducible rfl))
  simp only [List.getElem_toArray, List.getElem_cons_succ, List.getElem_cons_zero, Act.put, List.setIfInBounds_toArray, List.set_cons_zero, List.set_cons_succ]
  refine wpAnyH_done (by kernel_rfl) ?_ _
  have B7 := hide hHeld.2
  clear hHeld
  go_wp2
  go_ret
  exact ⟨rfl, B7.out⟩
end Go.Proofs.Ythmekhhfihjclbd.L9

namespace Go.Proofs.Ythmekhhfihjclbd.L4
open Go.RowKit L1
set_option linter.unusedVariables false

/-- Ints that the caller owns. -/
def OwnL (w : World) (B : Nat) (v : Value) (xs : List Int) : Prop := w.ownsRow B 3 1 v xs.length (xs.map (Value.int .i64))
theorem int_take {w : World} {g : Nat} {xs : List Int} {base n cap : Nat} (h : w.ownsRow base 3 1 (.slice (some ⟨g, 0, none⟩) n cap) n (xs.map (Value.int .i64))) (k : Nat) : ∀ j u, ((xs.take k).map (Value.int .i64))[j]? = some u → w.cell? ((⟨g, 0, none⟩ : Addr).add j) = some u := fun j u hu => by
  refine h.cells (g := g) rfl j u ?_
  rw [List.getElem?_map] at hu ⊢
  rw [List.getElem?_take] at hu
  split at hu
  · exact hu
  · simp at hu
theorem int_drop {w : World} {g : Nat} {xs : List Int} {base n cap : Nat} (h : w.ownsRow base 3 1 (.slice (some ⟨g, 0, none⟩) n cap) n (xs.map (Value.int .i64))) (k : Nat) : ∀ j u, ((xs.drop k).map (Value.int .i64))[j]? = some u → w.cell? ((⟨g, k, none⟩ : Addr).add j) = some u := fun j u hu => by
  have := h.cells (g := g) rfl (k + j) u (by
    rw [List.getElem?_map] at hu ⊢
    rw [List.getElem?_drop] at hu
    exact hu)
  rw [addr_add] at this
  have e0 : (⟨g, k, none⟩ : Addr).add j = ⟨g, k + j, none⟩ := by unfold Addr.add; split <;> simp_all
  rw [e0]
  exact this

set_option maxRecDepth 100000 in
set_option maxHeartbeats 2000000 in
theorem putNil (x : Int) (B : Nat) (w : World) (hB : B ≤ w.heap.size) :
    Calls Try.prog 97 #[.slice none 0 0, .int .i64 x] w fun e w' => ∃ v, e = .returned v ∧ OwnL w' B v (put [] x) ∧ Below w.heap.size w w' := by
  obtain ⟨i1, hi1, hy0, hy1, hy2⟩ := info_parts info_int
  go_enter Try.func97, Try.ntmps97
  go_wp2
  go_loop [5] (fun kv => kv = .int .i64 0) (fun _ => 0)
  case atStart => rfl
  case round =>
    subst hrel
    go_wp2_with (first
      | (at_builtin; refine wpList_append_own _ rfl _ _ 22 rfl B 3 i1 (.int .i64 0) 1 8 Try.underlying22 hi1 hy0 hy1 hy2 rfl (by decide) (.slice none 0 0) 0 [] rfl (World.ownsRow_nil _ _ _ _) ⟨w.heap.size, 0, none⟩ 1 1 [.int .i64 x] rfl rfl (cell_one_new _ _ _) (by intro u hu; simp at hu; subst hu; rfl) (by unfold maxLen; omega) (by omega) (by simp; omega) ?_)
      | go_in)
    intro v6 w6 hown6 hgrow6 hnil6
    have hb6 : Below w.heap.size w w6 := ((Below.refl _ _).alloc (Nat.le_refl _) _).grown hgrow6 (by simp) (fun g hg => by cases hg)
    obtain ⟨g6, c6, rfl, hc6, _⟩ := own_some hown6 (by first | exact hnil6 | (intro e; have := (hnil6.1 e).2; omega))
    have O6 : Hid (OwnL w6 B (.slice (some ⟨g6, 0, none⟩) 1 c6) (put [] x)) := by
      refine hide ?_; unfold OwnL; simpa [put, lp] using hown6
    have B6 := hide hb6
    have hc6I : (1 : Int) ≤ (c6 : Int) := by omega
    clear hown6 hgrow6 hnil6 hb6
    go_wp2
    try go_simp
    try go_wp2
    go_ret
    exact ⟨_, rfl, O6.out, B6.out⟩
set_option maxRecDepth 100000 in
set_option maxHeartbeats 4000000 in
theorem putSome (g n cap : Nat) (xs : List Int) (x : Int) (B : Nat) (w : World) (hB : B ≤ w.heap.size) (hn : n ≤ 4000) (hx : xs.length = n) (ho : w.ownsRow B 3 1 (.slice (some ⟨g, 0, none⟩) n cap) n (xs.map (Value.int .i64))) :
    Calls Try.prog 97 #[.slice (some ⟨g, 0, none⟩) n cap, .int .i64 x] w fun e w' => ∃ v, e = .returned v ∧ OwnL w' B v (put xs x) ∧ Below w.heap.size w w' := by
  obtain ⟨i1, hi1, hy0, hy1, hy2⟩ := info_parts info_int
  obtain ⟨hcap1, hcap2⟩ : n ≤ cap ∧ cap ≤ maxLen := by
    obtain ⟨g', c', e, h1, h2⟩ := own_some ho (fun e => by cases e)
    cases e
    exact ⟨h1, h2⟩
  unfold maxLen at hcap2
  have hcapI : (cap : Int) ≤ 9223372036854775807 := by omega
  have hgz := (ho.lt g rfl).2
  have SAME : Hid (OwnL w B (.slice (some ⟨g, 0, none⟩) n cap) xs) := by unfold OwnL; rw [hx]; exact ho
  have HOW := hide ho
  have HXL := hide hx
  clear ho hx
  go_enter Try.func97, Try.ntmps97
  go_wp2
  go_loop [5] (fun kv => ∃ k : Nat, k ≤ n ∧ kv = .int .i64 k ∧ Hid (∀ j, j < k → xs.getD j 0 < x)) (fun kv => n - (intOf kv).toNat)
  case atStart => exact ⟨0, Nat.zero_le _, rfl, fun j hj => absurd hj (Nat.not_lt_zero _)⟩
  case round =>
    obtain ⟨k, hk, rfl, HJ⟩ := hrel
    by_cases hkl : k < n
    · have hklI : (k : Int) < (n : Int) := by omega
      have hc := HOW.out.cellAt k (by omega)
      obtain ⟨y, HY, hy⟩ : ∃ y : Int, Hid (xs.getD k 0 = y) ∧ w.cell? ⟨g, k, none⟩ = some (.int .i64 y) := by
        refine ⟨xs.getD k 0, rfl, hc.trans ?_⟩
        have := HXL.out
        rw [List.getElem?_map, List.getElem?_eq_getElem (by omega)]
        simp [List.getD, List.getElem?_eq_getElem (show k < xs.length by omega)]
      clear hc
      by_cases hyx : y < x
      · go_wp2
        go_round
        case rel =>
          refine ⟨k + 1, by omega, by go_num, ?_⟩
          intro j hj
          by_cases e : j = k
          · subst e; rw [HY.out]; exact hyx
          · exact HJ.out j (by omega)
        case measure => simp [intOf]; omega
      · by_cases hxe : y = x
        · subst hxe
          have hput : put xs y = xs := by
            have e := lp_at (n := y) xs k (by rw [HXL.out]; exact hk) HJ.out (fun _ => by rw [HY.out]; exact hyx)
            unfold put
            rw [e, if_pos ⟨by rw [HXL.out]; exact hkl, HY.out⟩]
          have HP := hide hput
          clear hput
          go_wp2
          go_ret
          exact ⟨_, rfl, by rw [HP.out]; exact SAME.out, Below.refl _ _⟩
        · have hxe' : (y == x) = false := by simpa using hxe
          have hput : put xs x = xs.take k ++ x :: xs.drop k := by
            have e := lp_at (n := x) xs k (by rw [HXL.out]; exact hk) HJ.out (fun _ => by rw [HY.out]; exact hyx)
            unfold put
            rw [e, if_neg (fun h => hxe (by rw [← HY.out]; exact h.2))]
          have HP := hide hput
          clear hxe hput
          have hTL : ((xs.take k).map (Value.int .i64)).length = k * 1 := by have := HXL.out; simp; omega
          have hDL : ((xs.drop k).map (Value.int .i64)).length = (n - k) * 1 := by have := HXL.out; simp; omega
          have HTL := hide hTL
          have HDL := hide hDL
          have HTC := hide (int_take HOW.out k)
          have HDC := hide (int_drop HOW.out k)
          have hkc : (k : Int) ≤ (cap : Int) := by omega
          have hkN : (k : Int) ≤ (n : Int) := by omega
          clear hTL hDL
          go_wp2_with (first
            | (at_builtin; refine wpList_append_own _ rfl _ _ 22 rfl w.heap.size 3 i1 (.int .i64 0) 1 8 Try.underlying22 hi1 hy0 hy1 hy2 rfl (by decide) (.slice none 0 0) 0 [] rfl (World.ownsRow_nil _ _ _ _) ⟨g, 0, none⟩ k cap ((xs.take k).map (Value.int .i64)) rfl HTL.out HTC.out (ints_one _) (by unfold maxLen; omega) (by omega) (Nat.le_refl _) ?_)
            | go_in)
          intro v4 w4 hown4 hgrow4 hnil4
          have hb4 : Below w.heap.size w w4 := (Below.refl _ _).grown hgrow4 (Nat.le_refl _) (fun g hg => by cases hg)
          try simp only [List.nil_append, Nat.zero_add] at hown4
          obtain ⟨a4, c4, rfl⟩ := own_shapeT hown4
          have O4 := hide hown4
          have B4 := hide hb4
          have hz4 := hb4.size
          clear hown4 hgrow4 hnil4 hb4
          go_wp2_with (first
            | (at_builtin; refine wpList_append_own _ rfl _ _ 22 rfl w.heap.size 3 i1 (.int .i64 0) 1 8 Try.underlying22 hi1 hy0 hy1 hy2 rfl (by decide) _ _ _ rfl (O4.out.alloc _) ⟨w4.heap.size, 0, none⟩ 1 1 [.int .i64 x] rfl rfl (cell_one_new _ _ _) (by intro u hu; simp at hu; subst hu; rfl) (by unfold maxLen; omega) (by omega) (by simp; omega) ?_)
            | go_in)
          intro v5 w5 hown5 hgrow5 hnil5
          have hb5 : Below w.heap.size w w5 := B4.out.trans (((Below.refl _ _).alloc hz4 _).grown hgrow5 (by simp; omega) (fun g hg => (O4.out.lt g hg).1))
          obtain ⟨g5, c5, rfl, hc5, _⟩ := own_some hown5 (by first | exact hnil5 | (intro e; have := (hnil5.1 e).2; omega))
          have O5 := hide hown5
          have B5 := hide hb5
          have hz5 := hb5.size
          clear hown5 hgrow5 hnil5 hb5
          by_cases hko : k < cap
          · have hkoI : (k : Int) < (cap : Int) := by omega
            go_wp2_with (first
              | (at_builtin; refine wpList_append_own _ rfl _ _ 22 rfl w.heap.size 3 i1 (.int .i64 0) 1 8 Try.underlying22 hi1 hy0 hy1 hy2 rfl (by decide) _ _ _ rfl O5.out ⟨g, k, none⟩ (n - k) (cap - k) ((xs.drop k).map (Value.int .i64)) rfl HDL.out (fun j u h => (B5.out.cell (p := (⟨g, k, none⟩ : Addr).add j) (by have := hgz; unfold Addr.add; split <;> exact this)).trans (HDC.out j u h)) (ints_one _) (by unfold maxLen; omega) (by omega) hz5 ?_)
              | go_in)
            intro v6 w6 hown6 hgrow6 hnil6
            have hb6 : Below w.heap.size w w6 := B5.out.trans ((Below.refl _ _).grown hgrow6 hz5 (fun g hg => (O5.out.lt g hg).1))
            have O6 : Hid (OwnL w6 B v6 (put xs x)) := by
              refine hide ?_; rw [HP.out]; unfold OwnL
              · have e1 : (xs.take k ++ x :: xs.drop k).length = k + 1 + (n - k) := by have := HXL.out; simp; omega
                rw [e1]
                have := own_baseT hown6 hB
                simpa using this
            have B6 := hide hb6
            clear hown6 hgrow6 hnil6 hb6
            go_wp2
            go_ret
            exact ⟨_, rfl, O6.out, B6.out⟩
          · obtain rfl : k = cap := by omega
            have hnk : n = k := by omega
            have O6 : Hid (OwnL w5 B (.slice (some ⟨g5, 0, none⟩) (k + 1) c5) (put xs x)) := by
              refine hide ?_; rw [HP.out, show xs.drop k = [] from List.drop_of_length_le (by have := HXL.out; omega)]; unfold OwnL
              · have e1 : (xs.take k ++ [x]).length = k + 1 := by have := HXL.out; simp; omega
                rw [e1]
                have := own_baseT O5.out hB
                simpa using this
            subst hnk
            have hc5I : ((n : Int) + 1) ≤ (c5 : Int) := by omega
            go_wp2
            try go_simp
            try go_wp2
            go_ret
            exact ⟨_, rfl, O6.out, B5.out⟩
    · have hklI : ¬ (k : Int) < (n : Int) := by omega
      have hput : put xs x = xs.take k ++ x :: xs.drop k := by
        have e := lp_at (n := x) xs k (by rw [HXL.out]; exact hk) HJ.out (fun h => by rw [HXL.out] at h; omega)
        unfold put
        rw [e, if_neg (fun h => by have := h.1; rw [HXL.out] at this; omega)]
      have HP := hide hput
      clear hput
      have hTL : ((xs.take k).map (Value.int .i64)).length = k * 1 := by have := HXL.out; simp; omega
      have hDL : ((xs.drop k).map (Value.int .i64)).length = (n - k) * 1 := by have := HXL.out; simp; omega
      have HTL := hide hTL
      have HDL := hide hDL
      have HTC := hide (int_take HOW.out k)
      have HDC := hide (int_drop HOW.out k)
      have hkc : (k : Int) ≤ (cap : Int) := by omega
      have hkN : (k : Int) ≤ (n : Int) := by omega
      clear hTL hDL
      go_wp2_with (first
        | (at_builtin; refine wpList_append_own _ rfl _ _ 22 rfl w.heap.size 3 i1 (.int .i64 0) 1 8 Try.underlying22 hi1 hy0 hy1 hy2 rfl (by decide) (.slice none 0 0) 0 [] rfl (World.ownsRow_nil _ _ _ _) ⟨g, 0, none⟩ k cap ((xs.take k).map (Value.int .i64)) rfl HTL.out HTC.out (ints_one _) (by unfold maxLen; omega) (by omega) (Nat.le_refl _) ?_)
        | go_in)
      intro v4 w4 hown4 hgrow4 hnil4
      have hb4 : Below w.heap.size w w4 := (Below.refl _ _).grown hgrow4 (Nat.le_refl _) (fun g hg => by cases hg)
      try simp only [List.nil_append, Nat.zero_add] at hown4
      obtain ⟨a4, c4, rfl⟩ := own_shapeT hown4
      have O4 := hide hown4
      have B4 := hide hb4
      have hz4 := hb4.size
      clear hown4 hgrow4 hnil4 hb4
      go_wp2_with (first
        | (at_builtin; refine wpList_append_own _ rfl _ _ 22 rfl w.heap.size 3 i1 (.int .i64 0) 1 8 Try.underlying22 hi1 hy0 hy1 hy2 rfl (by decide) _ _ _ rfl (O4.out.alloc _) ⟨w4.heap.size, 0, none⟩ 1 1 [.int .i64 x] rfl rfl (cell_one_new _ _ _) (by intro u hu; simp at hu; subst hu; rfl) (by unfold maxLen; omega) (by omega) (by simp; omega) ?_)
        | go_in)
      intro v5 w5 hown5 hgrow5 hnil5
      have hb5 : Below w.heap.size w w5 := B4.out.trans (((Below.refl _ _).alloc hz4 _).grown hgrow5 (by simp; omega) (fun g hg => (O4.out.lt g hg).1))
      obtain ⟨g5, c5, rfl, hc5, _⟩ := own_some hown5 (by first | exact hnil5 | (intro e; have := (hnil5.1 e).2; omega))
      have O5 := hide hown5
      have B5 := hide hb5
      have hz5 := hb5.size
      clear hown5 hgrow5 hnil5 hb5
      by_cases hko : k < cap
      · have hkoI : (k : Int) < (cap : Int) := by omega
        go_wp2_with (first
          | (at_builtin; refine wpList_append_own _ rfl _ _ 22 rfl w.heap.size 3 i1 (.int .i64 0) 1 8 Try.underlying22 hi1 hy0 hy1 hy2 rfl (by decide) _ _ _ rfl O5.out ⟨g, k, none⟩ (n - k) (cap - k) ((xs.drop k).map (Value.int .i64)) rfl HDL.out (fun j u h => (B5.out.cell (p := (⟨g, k, none⟩ : Addr).add j) (by have := hgz; unfold Addr.add; split <;> exact this)).trans (HDC.out j u h)) (ints_one _) (by unfold maxLen; omega) (by omega) hz5 ?_)
          | go_in)
        intro v6 w6 hown6 hgrow6 hnil6
        have hb6 : Below w.heap.size w w6 := B5.out.trans ((Below.refl _ _).grown hgrow6 hz5 (fun g hg => (O5.out.lt g hg).1))
        have O6 : Hid (OwnL w6 B v6 (put xs x)) := by
          refine hide ?_; rw [HP.out]; unfold OwnL
          · have e1 : (xs.take k ++ x :: xs.drop k).length = k + 1 + (n - k) := by have := HXL.out; simp; omega
            rw [e1]
            have := own_baseT hown6 hB
            simpa using this
        have B6 := hide hb6
        clear hown6 hgrow6 hnil6 hb6
        go_wp2
        go_ret
        exact ⟨_, rfl, O6.out, B6.out⟩
      · obtain rfl : k = cap := by omega
        have hnk : n = k := by omega
        have O6 : Hid (OwnL w5 B (.slice (some ⟨g5, 0, none⟩) (k + 1) c5) (put xs x)) := by
          refine hide ?_; rw [HP.out, show xs.drop k = [] from List.drop_of_length_le (by have := HXL.out; omega)]; unfold OwnL
          · have e1 : (xs.take k ++ [x]).length = k + 1 := by have := HXL.out; simp; omega
            rw [e1]
            have := own_baseT O5.out hB
            simpa using this
        subst hnk
        have hc5I : ((n : Int) + 1) ≤ (c5 : Int) := by omega
        go_wp2
        try go_simp
        try go_wp2
        go_ret
        exact ⟨_, rfl, O6.out, B5.out⟩
theorem put_any (v : Value) (xs : List Int) (x : Int) (B : Nat) (w : World) (hB : B ≤ w.heap.size) (hm : xs.length ≤ 4000) (h : OwnL w B v xs) :
    Calls Try.prog 97 #[v, .int .i64 x] w fun e w' => ∃ v', e = .returned v' ∧ OwnL w' B v' (put xs x) ∧ Below w.heap.size w w' := by
  rcases h.2 with ⟨hv, h0⟩ | ⟨g, cap, cur, hv, _⟩
  · subst hv
    obtain rfl : xs = [] := List.eq_nil_of_length_eq_zero h0
    exact putNil x B w hB
  · subst hv
    exact putSome g xs.length cap xs x B w hB hm rfl h
end Go.Proofs.Ythmekhhfihjclbd.L4

namespace Go.Proofs.Ythmekhhfihjclbd.L4
open Go.RowKit L1
set_option linter.unusedVariables false

theorem jst_step (a b : List Int) (k f u : Nat) (o : List Int) (x : Int) (h : jst a b k = (o, f)) (hx : a.getD k 0 = x) (hu : leap b f x = u) : jst a b (k + 1) = (o ++ (b.drop f).take (u - f) ++ [x], if u < b.length ∧ b.getD u 0 = x then u + 1 else u) := by
  conv => lhs; unfold jst
  rw [h, hx]
  simp only [hu]
theorem own_emptyI (w : World) (base : Nat) (hb : base ≤ w.heap.size) : (w.alloc (.cells #[] 3)).ownsRow base 3 1 (.slice (some ⟨w.heap.size, 0, none⟩) 0 0) 0 [] :=
  ⟨rfl, .inr ⟨w.heap.size, 0, #[], rfl, hb, by show (w.heap.push _)[w.heap.size]? = _; simp, Nat.le_refl _, by unfold maxLen; omega, rfl, rfl⟩⟩
theorem app_nothing (t ty : TypeId) (ht : Try.prog.underlying t = some (.slice 3)) (base ax : Option Addr) (n cap : Nat) (h : n ≤ cap) (w : World) :
    (Builtin.append_ #[t, t] ty #[.slice base n cap, .slice ax 0 0]).run Try.prog w = .ok (.slice base n cap) w := by
  obtain ⟨i1, hi1, _, _, _⟩ := info_parts info_int
  refine run_append_nothing w t t ty 3 i1 ht hi1 base n cap h _ ?_
  cases ax with
  | none => exact Src.ofNil _ ht 0
  | some x => exact Src.ofSlice _ ht x 0 0 [] (by simp) (fun j u hu => by simp at hu) (fun u hu => by simp at hu)
/-- Nothing is put behind a list. -/
theorem wpList_append_no {ops : Array Oper} {rest : List Oper} {o : Oper} {a : Act} {Q : Exit → Act → World → Prop} {w : World} (hgd : o.guard = none) (s x : Operand) (t : TypeId)
    (ho : o.op = .call { callee := .builtin .append, args := #[s, x], argTypes := #[t, t] }) (ht : Try.prog.underlying t = some (.slice 3))
    (base ax : Option Addr) (n cap z : Nat) (hle : n ≤ cap) (hz : Hid (z = 0)) (hs : a.eval s = .slice base n cap) (hx : a.eval x = .slice ax z z)
    (h : wpList Try.prog ops Q rest (a.put o.dst (.slice base n cap)) w) : wpList Try.prog ops Q (o :: rest) a w := by
  obtain rfl : z = 0 := hz.out
  refine wpList_plain hgd fun K hK => ?_
  unfold Oper.wp execOp
  simp only [ho, resolve, invoke, builtin, Sem.run_bind, Sem.run_pure, Result.andThen_ok, List.map_toArray, List.map_cons, List.map_nil, hs, hx, app_nothing t o.type ht base ax n cap hle w]
  exact hK _ _ h
theorem cut_zero (a : Option Addr) (n cap f : Nat) (w : World) (hf : f ≤ n) (hc : n ≤ cap) (hc2 : cap ≤ maxLen) (h0 : a = none → cap = 0) :
    Calls Try.prog 106 #[.slice a n cap, .int .i64 f, .int .i64 f] w fun e w' => ∃ z : Nat, Hid (z = 0) ∧ e = .returned (.slice a z z) ∧ w = w' :=
  (cut_none a n cap f w hf hc hc2 h0).mono fun e w' h => ⟨0, hide rfl, h⟩
/-- What lies in a list's cells. -/
theorem sl_all {w : World} {b off : Nat} {xs : List Int} (h : Sl w (some ⟨b, off, none⟩) xs) : ∀ j u, (xs.map (Value.int .i64))[j]? = some u → w.cell? ((⟨b, off, none⟩ : Addr).add j) = some u := fun j u hu => by
  have := sl_seg h 0 xs.length j u (by simpa using hu)
  simpa using this

set_option maxRecDepth 100000 in
set_option maxHeartbeats 8000000 in
theorem join_any (a : Option Addr) (xs : List Int) (n cap : Nat) (b : Option Addr) (ys : List Int) (n2 cap2 : Nat) (w : World) (hn : xs.length = n) (hs : Sl w a xs) (hn2 : n ≤ 1048576) (hm : ys.length = n2) (ht : SlC w b n2 cap2 ys) (hm2 : n2 ≤ 1048576) (hrx : Rise xs) (hry : Rise ys) :
    Calls Try.prog 104 #[.slice a n cap, .slice b n2 cap2] w fun e w' => RetN w (joinL xs ys) e w' := by
  obtain ⟨i1, hi1, hy0, hy1, hy2⟩ := info_parts info_int
  have HS := hide hs
  have HN := hide hn
  have HT := hide ht
  have HM2 := hide hm
  have HL := hide (fun f x w r ht hf hr => leap_any b ys n2 cap2 f x w hm (SlC.sl ht) hm2 hf (SlC.le ht) (SlC.max ht) (SlC.nil ht) hry r hr)
  have HH := hide (fun k x w bb (ht : SlC w b n2 cap2 ys) hb => hasAt_any b ys n2 cap2 k x w hm (SlC.sl ht) bb hb)
  have HI := hide (fun k hk => jinv hrx hry k hk)
  have HE := hide (join_eq hrx hry)
  clear hs hn ht hm hrx hry
  go_enter Try.func104, Try.ntmps104
  go_wp2
  go_loopw [5, 6, 12] (fun ot s6 i wr => ∃ k : Nat, k ≤ n ∧ i = .int .i64 k ∧ wr.ownsRow w.heap.size 3 1 ot (jst xs ys k).1.length ((jst xs ys k).1.map (Value.int .i64)) ∧ Below w.heap.size w wr ∧ s6 = .int .i64 ((jst xs ys k).2 : Nat)) (fun _ _ i _ => n - (intOf i).toNat)
  case atStart => exact ⟨0, Nat.zero_le _, rfl, World.ownsRow_nil _ _ _ _, Below.refl _ _, rfl⟩
  case round =>
    obtain ⟨k, hk, rfl, hown, hbel, rfl⟩ := hrel
    obtain ⟨oa, ocap, rfl, _, _⟩ := own_form hown
    have I := HI.out k (by rw [HN.out]; exact hk)
    have hf := I.le
    have hol := I.len
    obtain ⟨⟨o, f⟩, hof⟩ : ∃ p, p = jst xs ys k := ⟨_, rfl⟩
    rw [← hof] at hown hf hol ⊢
    simp only at hown hf hol ⊢
    rw [HM2.out] at hf
    clear I
    obtain ⟨m, hmm⟩ : ∃ m, m = o.length := ⟨_, rfl⟩
    rw [← hmm] at hown hol ⊢
    have HM := hide hmm.symm
    have HCAP := hide hown
    clear hmm
    have hmc := (own_slC HCAP.out).le
    clear HCAP
    by_cases hlt : k < n
    · obtain ⟨b1, off, rfl, hc0⟩ := HS.out k (by rw [HN.out]; exact hlt)
      have hc := (hbel.cell (p := ⟨b1, off + k, none⟩) (blk_lt hc0)).trans hc0
      have hltI : (k : Int) < (n : Int) := by omega
      obtain ⟨x, hx⟩ : ∃ x, x = xs.getD k 0 := ⟨_, rfl⟩
      rw [← hx] at hc
      obtain ⟨u, hu⟩ : ∃ u, leap ys f x = u := ⟨_, rfl⟩
      have hfu : f ≤ u := by rw [← hu]; exact leap_ge _ _ _
      have hun : u ≤ n2 := by have := leap_le ys f x (by rw [HM2.out]; exact hf); rw [hu, HM2.out] at this; exact this
      have hst := jst_step xs ys k f u o x hof.symm hx.symm hu
      have hj1 : (jst xs ys (k + 1)).1 = o ++ (ys.drop f).take (u - f) ++ [x] := by rw [hst]
      have HJ1 := hide hj1
      have HUL := hide hu
      have HT0 := hide (HT.out.below hbel)
      have HROW0 := hide hown
      have B0 := hide hbel
      have hsz0 := hbel.size
      clear hc0 hx hown hbel hof hj1 hu
      by_cases hhas : u < ys.length ∧ ys.getD u 0 = x
      · have hj2 : (jst xs ys (k + 1)).2 = u + 1 := by rw [hst]; exact if_pos hhas
        have hbb : true = true ↔ u < ys.length ∧ ys.getD u 0 = x := iff_of_true rfl hhas
        have HJ2 := hide hj2
        have HYY := hide hbb
        clear hj2 hbb hst hhas
        by_cases hfu2 : f < u
        · obtain ⟨bb, off2, rfl, _⟩ := HT.out.sl f (by rw [HM2.out]; omega)
          have hfu' : f < u := by omega
          go_wp2_with fail
          refine (HL.out f x _ u HT0.out hf HUL.out).mono ?_
          rintro e w1 ⟨rfl, hb1⟩
          have HT1 := hide (HT0.out.below hb1)
          have HROW := hide (own_belowT HROW0.out hb1)
          have B1 := hide (B0.out.trans (hb1.mono B0.out.size))
          have hsz := B1.out.size
          clear hb1
          go_wp2_with fail
          refine (cut_some bb off2 n2 cap2 f u _ hfu' hun HT.out.le HT.out.max).mono ?_
          rintro e w2 ⟨rfl, rfl⟩
          go_wp2_with (first
            | (at_builtin; refine wpList_append_own _ rfl _ _ 70 rfl w.heap.size 3 i1 (.int .i64 0) 1 8 Try.underlying70 hi1 hy0 hy1 hy2 rfl (by decide) _ _ _ rfl HROW.out ⟨bb, off2 + f, none⟩ (u - f) (u - f) (((ys.drop f).take (u - f)).map (Value.int .i64)) rfl (by have := HM2.out; simp; omega) (sl_seg HT1.out.sl f (u - f)) (ints_one _) (by unfold maxLen; omega) (by omega) hsz ?_)
            | go_in)
          intro v5 w5 hown5 hgrow5 _
          have HOA : Hid (w5.ownsRow w.heap.size 3 1 v5 (m + (u - f)) ((o ++ (ys.drop f).take (u - f)).map (Value.int .i64))) := by
            refine hide ?_
            rw [List.map_append, List.map_take, List.map_drop]
            exact hown5
          have hb5 := (Below.refl _ _).grown hgrow5 hsz (fun g hg => (HROW.out.lt g hg).1)
          have BA := hide (B1.out.trans hb5)
          have HT5 : Hid (SlC w5 (some ⟨bb, off2, none⟩) n2 cap2 ys) := HT.out.below BA.out
          clear hown5 hgrow5 hb5
          obtain ⟨oa5, oc5, rfl⟩ := own_shapeT HOA.out
          have hszA := BA.out.size
          go_wp2_with (first
            | (at_builtin; refine wpList_append_own _ rfl _ _ 70 rfl w.heap.size 3 i1 (.int .i64 0) 1 8 Try.underlying70 hi1 hy0 hy1 hy2 rfl (by decide) _ _ _ rfl (HOA.out.alloc _) ⟨w5.heap.size, 0, none⟩ 1 1 [.int .i64 x] rfl rfl (cell_one_new _ _ _) (by intro u hu; simp at hu; subst hu; rfl) (by unfold maxLen; omega) (by omega) (by simp; omega) ?_)
            | go_in)
          intro v6 w6 hown6 hgrow6 _
          have hb6 := BA.out.trans (((Below.refl _ _).alloc hszA _).grown hgrow6 (by simp; omega) (fun g hg => (HOA.out.lt g hg).1))
          have hown8 : w6.ownsRow w.heap.size 3 1 v6 (jst xs ys (k + 1)).1.length ((jst xs ys (k + 1)).1.map (Value.int .i64)) := by
            rw [HJ1.out]
            have hl : (o ++ (ys.drop f).take (u - f) ++ [x]).length = m + (u - f) + 1 := by
              have := HM.out; have := HM2.out
              simp; omega
            rw [hl]
            simpa using hown6
          have hown7 := hide hown8
          have HT6 := hide (HT.out.below hb6)
          have B6 := hide hb6
          clear hown6 hgrow6 hown8 hb6
          go_wp2_with fail
          refine (HH.out u x _ true HT6.out (by simpa using HYY.out)).mono ?_
          rintro e w7 ⟨rfl, rfl⟩
          go_wp2
          go_roundw
          case rel => exact ⟨k + 1, by omega, by go_num, hown7.out, B6.out, by rw [HJ2.out]; go_num⟩
          case measure => simp [intOf]; omega
        · obtain rfl : f = u := by omega
          go_wp2_with fail
          refine (HL.out f x _ f HT0.out hf HUL.out).mono ?_
          rintro e w1 ⟨rfl, hb1⟩
          have HT1 := hide (HT0.out.below hb1)
          have HROW := hide (own_belowT HROW0.out hb1)
          have B1 := hide (B0.out.trans (hb1.mono B0.out.size))
          have hsz := B1.out.size
          clear hb1
          go_wp2_with fail
          refine (cut_zero _ n2 cap2 f _ hun HT.out.le HT.out.max HT.out.nil).mono ?_
          rintro e w2 ⟨z, HZ, rfl, rfl⟩
          have HOA : Hid (w1.ownsRow w.heap.size 3 1 (.slice oa m ocap) (m + (f - f)) ((o ++ (ys.drop f).take (f - f)).map (Value.int .i64))) := by
            refine hide ?_
            simpa using HROW.out
          have BA := B1
          have hszA := BA.out.size
          go_wp2_with (first
            | (at_builtin; refine wpList_append_no rfl _ _ 70 rfl Try.underlying70 oa b m ocap z hmc HZ rfl rfl ?_)
            | (at_builtin; refine wpList_append_own _ rfl _ _ 70 rfl w.heap.size 3 i1 (.int .i64 0) 1 8 Try.underlying70 hi1 hy0 hy1 hy2 rfl (by decide) _ _ _ rfl (HOA.out.alloc _) ⟨w1.heap.size, 0, none⟩ 1 1 [.int .i64 x] rfl rfl (cell_one_new _ _ _) (by intro u hu; simp at hu; subst hu; rfl) (by unfold maxLen; omega) (by omega) (by simp; omega) ?_)
            | go_in)
          intro v6 w6 hown6 hgrow6 _
          have hb6 := BA.out.trans (((Below.refl _ _).alloc hszA _).grown hgrow6 (by simp; omega) (fun g hg => (HOA.out.lt g hg).1))
          have hown8 : w6.ownsRow w.heap.size 3 1 v6 (jst xs ys (k + 1)).1.length ((jst xs ys (k + 1)).1.map (Value.int .i64)) := by
            rw [HJ1.out]
            have hl : (o ++ (ys.drop f).take (f - f) ++ [x]).length = m + (f - f) + 1 := by
              have := HM.out; have := HM2.out
              simp; omega
            rw [hl]
            simpa using hown6
          have hown7 := hide hown8
          have HT6 := hide (HT.out.below hb6)
          have B6 := hide hb6
          clear hown6 hgrow6 hown8 hb6
          go_wp2_with fail
          refine (HH.out f x _ true HT6.out (by simpa using HYY.out)).mono ?_
          rintro e w7 ⟨rfl, rfl⟩
          go_wp2
          go_roundw
          case rel => exact ⟨k + 1, by omega, by go_num, hown7.out, B6.out, by rw [HJ2.out]; go_num⟩
          case measure => simp [intOf]; omega
      · have hj2 : (jst xs ys (k + 1)).2 = u := by rw [hst]; exact if_neg hhas
        have hbb : false = true ↔ u < ys.length ∧ ys.getD u 0 = x := iff_of_false (by simp) hhas
        have HJ2 := hide hj2
        have HYY := hide hbb
        clear hj2 hbb hst hhas
        by_cases hfu2 : f < u
        · obtain ⟨bb, off2, rfl, _⟩ := HT.out.sl f (by rw [HM2.out]; omega)
          have hfu' : f < u := by omega
          go_wp2_with fail
          refine (HL.out f x _ u HT0.out hf HUL.out).mono ?_
          rintro e w1 ⟨rfl, hb1⟩
          have HT1 := hide (HT0.out.below hb1)
          have HROW := hide (own_belowT HROW0.out hb1)
          have B1 := hide (B0.out.trans (hb1.mono B0.out.size))
          have hsz := B1.out.size
          clear hb1
          go_wp2_with fail
          refine (cut_some bb off2 n2 cap2 f u _ hfu' hun HT.out.le HT.out.max).mono ?_
          rintro e w2 ⟨rfl, rfl⟩
          go_wp2_with (first
            | (at_builtin; refine wpList_append_own _ rfl _ _ 70 rfl w.heap.size 3 i1 (.int .i64 0) 1 8 Try.underlying70 hi1 hy0 hy1 hy2 rfl (by decide) _ _ _ rfl HROW.out ⟨bb, off2 + f, none⟩ (u - f) (u - f) (((ys.drop f).take (u - f)).map (Value.int .i64)) rfl (by have := HM2.out; simp; omega) (sl_seg HT1.out.sl f (u - f)) (ints_one _) (by unfold maxLen; omega) (by omega) hsz ?_)
            | go_in)
          intro v5 w5 hown5 hgrow5 _
          have HOA : Hid (w5.ownsRow w.heap.size 3 1 v5 (m + (u - f)) ((o ++ (ys.drop f).take (u - f)).map (Value.int .i64))) := by
            refine hide ?_
            rw [List.map_append, List.map_take, List.map_drop]
            exact hown5
          have hb5 := (Below.refl _ _).grown hgrow5 hsz (fun g hg => (HROW.out.lt g hg).1)
          have BA := hide (B1.out.trans hb5)
          have HT5 : Hid (SlC w5 (some ⟨bb, off2, none⟩) n2 cap2 ys) := HT.out.below BA.out
          clear hown5 hgrow5 hb5
          obtain ⟨oa5, oc5, rfl⟩ := own_shapeT HOA.out
          have hszA := BA.out.size
          go_wp2_with (first
            | (at_builtin; refine wpList_append_own _ rfl _ _ 70 rfl w.heap.size 3 i1 (.int .i64 0) 1 8 Try.underlying70 hi1 hy0 hy1 hy2 rfl (by decide) _ _ _ rfl (HOA.out.alloc _) ⟨w5.heap.size, 0, none⟩ 1 1 [.int .i64 x] rfl rfl (cell_one_new _ _ _) (by intro u hu; simp at hu; subst hu; rfl) (by unfold maxLen; omega) (by omega) (by simp; omega) ?_)
            | go_in)
          intro v6 w6 hown6 hgrow6 _
          have hb6 := BA.out.trans (((Below.refl _ _).alloc hszA _).grown hgrow6 (by simp; omega) (fun g hg => (HOA.out.lt g hg).1))
          have hown8 : w6.ownsRow w.heap.size 3 1 v6 (jst xs ys (k + 1)).1.length ((jst xs ys (k + 1)).1.map (Value.int .i64)) := by
            rw [HJ1.out]
            have hl : (o ++ (ys.drop f).take (u - f) ++ [x]).length = m + (u - f) + 1 := by
              have := HM.out; have := HM2.out
              simp; omega
            rw [hl]
            simpa using hown6
          have hown7 := hide hown8
          have HT6 := hide (HT.out.below hb6)
          have B6 := hide hb6
          clear hown6 hgrow6 hown8 hb6
          go_wp2_with fail
          refine (HH.out u x _ false HT6.out (by simpa using HYY.out)).mono ?_
          rintro e w7 ⟨rfl, rfl⟩
          go_wp2
          go_roundw
          case rel => exact ⟨k + 1, by omega, by go_num, hown7.out, B6.out, by rw [HJ2.out]⟩
          case measure => simp [intOf]; omega
        · obtain rfl : f = u := by omega
          go_wp2_with fail
          refine (HL.out f x _ f HT0.out hf HUL.out).mono ?_
          rintro e w1 ⟨rfl, hb1⟩
          have HT1 := hide (HT0.out.below hb1)
          have HROW := hide (own_belowT HROW0.out hb1)
          have B1 := hide (B0.out.trans (hb1.mono B0.out.size))
          have hsz := B1.out.size
          clear hb1
          go_wp2_with fail
          refine (cut_zero _ n2 cap2 f _ hun HT.out.le HT.out.max HT.out.nil).mono ?_
          rintro e w2 ⟨z, HZ, rfl, rfl⟩
          have HOA : Hid (w1.ownsRow w.heap.size 3 1 (.slice oa m ocap) (m + (f - f)) ((o ++ (ys.drop f).take (f - f)).map (Value.int .i64))) := by
            refine hide ?_
            simpa using HROW.out
          have BA := B1
          have hszA := BA.out.size
          go_wp2_with (first
            | (at_builtin; refine wpList_append_no rfl _ _ 70 rfl Try.underlying70 oa b m ocap z hmc HZ rfl rfl ?_)
            | (at_builtin; refine wpList_append_own _ rfl _ _ 70 rfl w.heap.size 3 i1 (.int .i64 0) 1 8 Try.underlying70 hi1 hy0 hy1 hy2 rfl (by decide) _ _ _ rfl (HOA.out.alloc _) ⟨w1.heap.size, 0, none⟩ 1 1 [.int .i64 x] rfl rfl (cell_one_new _ _ _) (by intro u hu; simp at hu; subst hu; rfl) (by unfold maxLen; omega) (by omega) (by simp; omega) ?_)
            | go_in)
          intro v6 w6 hown6 hgrow6 _
          have hb6 := BA.out.trans (((Below.refl _ _).alloc hszA _).grown hgrow6 (by simp; omega) (fun g hg => (HOA.out.lt g hg).1))
          have hown8 : w6.ownsRow w.heap.size 3 1 v6 (jst xs ys (k + 1)).1.length ((jst xs ys (k + 1)).1.map (Value.int .i64)) := by
            rw [HJ1.out]
            have hl : (o ++ (ys.drop f).take (f - f) ++ [x]).length = m + (f - f) + 1 := by
              have := HM.out; have := HM2.out
              simp; omega
            rw [hl]
            simpa using hown6
          have hown7 := hide hown8
          have HT6 := hide (HT.out.below hb6)
          have B6 := hide hb6
          clear hown6 hgrow6 hown8 hb6
          go_wp2_with fail
          refine (HH.out f x _ false HT6.out (by simpa using HYY.out)).mono ?_
          rintro e w7 ⟨rfl, rfl⟩
          go_wp2
          go_roundw
          case rel => exact ⟨k + 1, by omega, by go_num, hown7.out, B6.out, by rw [HJ2.out]⟩
          case measure => simp [intOf]; omega
    · obtain rfl : k = n := by omega
      have hltI : ¬ (k : Int) < (k : Int) := by omega
      have he := HE.out
      rw [HN.out, ← hof] at he
      simp only at he
      have HEE := hide he
      have HROW := hide hown
      have B1 := hide hbel
      have hsz := hbel.size
      have HT1 := hide (HT.out.below hbel)
      clear he hof hown hbel
      by_cases hfe : f < n2
      · obtain ⟨bb, off2, rfl, _⟩ := HT.out.sl f (by rw [HM2.out]; omega)
        go_wp2_with fail
        refine (cut_some bb off2 n2 cap2 f n2 _ hfe (Nat.le_refl _) HT.out.le HT.out.max).mono ?_
        rintro e w2 ⟨rfl, rfl⟩
        go_wp2_with (first
          | (at_builtin; refine wpList_append_own _ rfl _ _ 70 rfl w.heap.size 3 i1 (.int .i64 0) 1 8 Try.underlying70 hi1 hy0 hy1 hy2 rfl (by decide) _ _ _ rfl HROW.out ⟨bb, off2 + f, none⟩ (n2 - f) (n2 - f) (((ys.drop f).take (n2 - f)).map (Value.int .i64)) rfl (by have := HM2.out; simp; omega) (sl_seg HT1.out.sl f (n2 - f)) (ints_one _) (by unfold maxLen; omega) (by omega) hsz ?_)
          | go_in)
        intro v5 w5 hown5 hgrow5 _
        have hb5 := B1.out.trans ((Below.refl _ _).grown hgrow5 hsz (fun g hg => (HROW.out.lt g hg).1))
        have hown8 : w5.ownsRow w.heap.size 3 1 v5 (joinL xs ys).length ((joinL xs ys).map (Value.int .i64)) := by
          rw [← HEE.out]
          have hl : (o ++ ys.drop f).length = m + (n2 - f) := by have := HM.out; have := HM2.out; simp; omega
          have hd : ((ys.map (Value.int .i64)).drop f).take (n2 - f) = (ys.map (Value.int .i64)).drop f := List.take_of_length_le (by have := HM2.out; simp; omega)
          rw [hd] at hown5
          rw [hl]
          simpa using hown5
        have hown7 := hide hown8
        clear hown5 hgrow5 hown8
        go_wp2
        go_ret
        exact ⟨_, rfl, hown7.out, hb5⟩
      · obtain rfl : f = n2 := by omega
        have hown8 : wr.ownsRow w.heap.size 3 1 (.slice oa m ocap) (joinL xs ys).length ((joinL xs ys).map (Value.int .i64)) := by
          have hd : ys.drop f = [] := List.drop_of_length_le (by have := HM2.out; omega)
          have he := HEE.out
          rw [hd, List.append_nil] at he
          rw [← he, HM.out]
          exact HROW.out
        have hown7 := hide hown8
        clear hown8
        go_wp2_with fail
        refine (cut_zero _ f cap2 f _ (Nat.le_refl _) HT.out.le HT.out.max HT.out.nil).mono ?_
        rintro e w2 ⟨z, HZ, rfl, rfl⟩
        go_wp2_with (first
          | (at_builtin; refine wpList_append_no rfl _ _ 70 rfl Try.underlying70 oa b m ocap z hmc HZ rfl rfl ?_)
          | go_in)
        go_ret
        exact ⟨_, rfl, hown7.out, B1.out⟩
end Go.Proofs.Ythmekhhfihjclbd.L4

namespace Go.Proofs.Ythmekhhfihjclbd.L9
open Go.RowKit L1 L7
set_option linter.unusedVariables false

set_option maxRecDepth 100000 in
set_option maxHeartbeats 2000000 in
theorem join_any (S : Nat → Prop) (b : Nat) (r : Rm) (w : World) (hI : Inv r) (hR : RB w S b r) (hS : ∀ q, S q → q < w.heap.size) (kd nd : Int) (t : ByteArray) (h0 : 0 ≤ nd) (h1 : nd < (r.G.length : Int)) (o : Option Rm) (ho : o = if gg r.G nd = r.lead ∧ r.down r.ld = false ∧ nd ∉ r.sy then some { r with sy := L4.put r.sy nd } else none) :
    Calls Try.prog 85 #[.pointer (some ⟨b, 0, none⟩), .agg #[.int .i64 kd, .int .i64 nd, .string t]] w fun e w' => e = .returned (.bool o.isSome) ∧ Done S w b (o.getD r) w' := by
  obtain ⟨V, gb, cg, db, cd, ay, cy, ac, cc, hb, hW, hSb⟩ := hR.open hI
  have hnode := hI.node
  have hdn := hI.good.down
  have hn1 := hI.good.logs.1
  obtain ⟨i, rfl⟩ : ∃ i : Nat, nd = (i : Int) := ⟨nd.toNat, by omega⟩
  obtain ⟨j, hj⟩ : ∃ j : Nat, r.ld = (j : Int) := ⟨r.ld.toNat, by omega⟩
  obtain ⟨n, hn⟩ : ∃ n, n = r.G.length := ⟨_, rfl⟩
  obtain ⟨ny, hny⟩ : ∃ ny, ny = r.sy.length := ⟨_, rfl⟩
  obtain ⟨nc, hnc⟩ : ∃ nc, nc = r.ce.length := ⟨_, rfl⟩
  obtain ⟨E, hE⟩ : ∃ E, E = r.ep := ⟨_, rfl⟩
  have hin : i < n := by omega
  have hjn : j < n := by omega
  have ci := hW.downAt i (by omega)
  have cj := hW.downAt j (by omega)
  obtain ⟨k0, k1, k2, k3, k4, k5⟩ := blk6 hb
  rw [hdn, ← hn] at k1
  rw [← hn] at k0
  rw [hj] at k2
  rw [← hE] at k3
  rw [← hny] at k4
  rw [← hnc] at k5
  have hzz := rpz_of hI
  have BX := (Below.refl w.heap.size w).alloc (Nat.le_refl _) (Obj.cells #[.int .i64 kd, .int .i64 (i : Int), .string t] 50)
  have SX := blk_new9 w (Obj.cells #[.int .i64 kd, .int .i64 (i : Int), .string t] 50)
  obtain ⟨w1, hw1⟩ : ∃ w1, w1 = w.alloc (Obj.cells #[.int .i64 kd, .int .i64 (i : Int), .string t] 50) := ⟨_, rfl⟩
  have HW1 := hide hw1
  rw [← hw1] at BX SX
  clear hw1
  have s0 : w1.cell? ⟨w.heap.size, 0, none⟩ = some (.int .i64 kd) := by simp [World.cell?, SX]
  have s1 : w1.cell? ⟨w.heap.size, 1, none⟩ = some (.int .i64 (i : Int)) := by simp [World.cell?, SX]
  have s2 : w1.cell? ⟨w.heap.size, 2, none⟩ = some (.string t) := by simp [World.cell?, SX]
  have g0 := (BX.cell (blk_lt9 k0)).trans k0
  have g1 := (BX.cell (blk_lt9 k1)).trans k1
  have g2 := (BX.cell (blk_lt9 k2)).trans k2
  have g3 := (BX.cell (blk_lt9 k3)).trans k3
  have g4 := (BX.cell (blk_lt9 k4)).trans k4
  have g5 := (BX.cell (blk_lt9 k5)).trans k5
  have di := (BX.cell (blk_lt9 ci)).trans ci
  have dj := (BX.cell (blk_lt9 cj)).trans cj
  have hWx := hW.below BX
  have hbx : w1.heap[b]? = _ := (BX.block b (Array.getElem?_eq_some_iff.1 hb).1).trans hb
  have fb := fun c => frz hbx c
  have fg : ∀ c, w1.frozen? ⟨gb, c, none⟩ = false := fun c => own_frz hWx.g c
  have fd : ∀ c, w1.frozen? ⟨db, c, none⟩ = false := fun c => own_frz hWx.d c
  have hiI : (i : Int) < (n : Int) := by omega
  have hi0 : (0 : Int) ≤ (i : Int) := by omega
  have hjI : (j : Int) < (n : Int) := by omega
  have hj0 : (0 : Int) ≤ (j : Int) := by omega
  have HOF := hide ho
  have HRF := hide hR
  have HWF := hide hW
  have HBF := hide hb
  have BXF := hide BX
  have hy6 := hzz.y2
  rw [← hny] at hy6
  have hyr := rn_rise hI.good.rise
  obtain ⟨x, hx⟩ : ∃ x, x = r.dn.getD i false := ⟨_, rfl⟩
  have HX : Hid (r.down (i : Int) = x) := hide hx.symm
  rw [← hx] at di
  obtain ⟨y, hy⟩ : ∃ y, y = r.dn.getD j false := ⟨_, rfl⟩
  have HY : Hid (r.down r.ld = y) := hide (by rw [hj]; exact hy.symm)
  rw [← hy] at dj
  obtain ⟨bi, hbi⟩ : ∃ bi : Bool, bi = true ↔ (i : Int) ∈ r.sy := ⟨decide ((i : Int) ∈ r.sy), by simp⟩
  have HBI := hide hbi
  have HLD := hide hj
  have HEP := hide hE
  have he0 : 1 ≤ E := by rw [hE]; exact hI.good.e0
  have he1 : E ≤ 1000 := by rw [hE]; exact hI.good.e1

  obtain ⟨ys, hys⟩ : ∃ ys, ys = L4.put r.sy (i : Int) := ⟨_, rfl⟩
  obtain ⟨m, hm⟩ : ∃ m, m = ys.length := ⟨_, rfl⟩
  have HYS := hide hys
  have HM := hide hm
  obtain ⟨bl, hbl⟩ : ∃ bl : Bool, bl = true ↔ gg r.G (i : Int) = gg r.G r.ld := by classical exact ⟨decide (gg r.G (i : Int) = gg r.G r.ld), by simp⟩
  have HBL := hide hbl
  have CE := hide (isLike_any b (some ⟨gb, 0, none⟩) r.G.length cg (some ⟨db, 0, none⟩) r.dn.length cd r.ld r.ep ay r.sy.length cy ac r.ce.length cc r.G r.sy r.ce (i : Int) w1 hzz hWx.rps.1 hbx ⟨by omega, by omega⟩ ⟨by omega, by omega⟩ bl hbl)
  have FW : Hid (∀ w2, Below w1.heap.size w1 w2 → (∀ m, Calls Try.prog 98 #[.pointer (some ⟨b, 0, none⟩)] (w2.drewN m) fun e w' => e = .returned (.bool y) ∧ ∃ m', w' = (w2.drewN m).drewN m') ∧ (∀ m, Calls Try.prog 101 #[.pointer (some ⟨b, 0, none⟩), .int .i64 (i : Int)] (w2.drewN m) fun e w' => e = .returned (.bool bi) ∧ w' = w2.drewN m) ∧ w2.cell? ⟨b, 4, none⟩ = some (.slice ay ny cy) ∧ w2.cell? ⟨w.heap.size, 1, none⟩ = some (.int .i64 (i : Int)) ∧ (∀ c, w2.frozen? ⟨b, c, none⟩ = false) ∧ w2.heap[b]? = some (rbO (.slice (some ⟨gb, 0, none⟩) r.G.length cg) (.slice (some ⟨db, 0, none⟩) r.dn.length cd) r.ld r.ep (.slice ay r.sy.length cy) (.slice ac r.ce.length cc)) ∧ L4.SlC w2 ay ny cy r.sy) := hide (fun w2 hb2 => by
    have q1 := (hb2.cell (blk_lt9 g1)).trans g1
    have q2 := (hb2.cell (blk_lt9 g2)).trans g2
    have q4 := (hb2.cell (blk_lt9 g4)).trans g4
    have qj := (hb2.cell (blk_lt9 dj)).trans dj
    have qs := (hb2.cell (blk_lt9 s1)).trans s1
    have qb := (hb2.block b (Array.getElem?_eq_some_iff.1 hbx).1).trans hbx
    have qW := hWx.below hb2
    have hsc := L4.own_slC qW.y
    rw [← hny] at hsc
    exact ⟨fun m => leaderDown_any b db n cd j y (w2.drewN m) q1 q2 hjn qj, fun m => isIn_any b ay ny cy r.sy (i : Int) (w2.drewN m) q4 hny.symm (qW.rps.1.y.below (below_drewN (Below.refl _ _) m)) hy6 bi hbi, q4, qs, fun c => frz qb c, qb, hsc⟩)
  have HJ : Hid (∀ w2, Below w1.heap.size w1 w2 → w2.cell? ⟨b, 4, none⟩ = some (.slice ay ny cy) → w2.heap[b]? = some (rbO (.slice (some ⟨gb, 0, none⟩) r.G.length cg) (.slice (some ⟨db, 0, none⟩) r.dn.length cd) r.ld r.ep (.slice ay r.sy.length cy) (.slice ac r.ce.length cc)) → L4.SlC w2 ay ny cy r.sy → ∀ wx, Below w2.heap.size w2 wx → wx.cell? ⟨w2.heap.size, 0, none⟩ = some (.int .i64 (i : Int)) → Calls Try.prog 104 #[.slice ay ny cy, .slice (some ⟨w2.heap.size, 0, none⟩) 1 1] wx fun e w3 => ∃ a5 c5, e = .returned (.slice a5 m c5) ∧ (w3.ownsRow w2.heap.size 3 1 (.slice a5 m c5) m (ys.map (Value.int .i64)) ∧ Below w2.heap.size w2 w3) ∧ w3.cell? ⟨b, 4, none⟩ = some (.slice ay ny cy) ∧ w3.frozen? ⟨b, 4, none⟩ = false) := hide (fun w2 hb2 q4 qb qc wx hbw hx0 => (L4.join_any ay r.sy ny cy (some ⟨w2.heap.size, 0, none⟩) [(i : Int)] 1 1 wx hny.symm (qc.sl.below hbw) hy6 rfl (one_slC hx0) (by omega) hyr (List.pairwise_singleton _ _)).mono (fun e w3 h => by
    obtain ⟨v, rfl, ho3, hb3⟩ := h
    have hb4 := hbw.trans (hb3.mono hbw.size)
    have hjl : L4.joinL r.sy [(i : Int)] = ys := by rw [hys]; rfl
    rw [hjl, ← hm] at ho3
    obtain ⟨a5, c5, rfl⟩ := L4.own_shapeT ho3
    exact ⟨a5, c5, rfl, ⟨own_baseZ ho3 hbw.size, hb4⟩, (hb4.cell (p := ⟨b, 4, none⟩) (blk_lt9 q4)).trans q4, frz ((hb4.block b (Array.getElem?_eq_some_iff.1 qb).1).trans qb) 4⟩))
  clear hx hy hbi hj hE hny hnc hn hys hm hbl
  clear ho hR hW hb hWx hbx BX hI hzz hdn hn1 hnode cj ci k0 k1 k2 k3 k4 k5 SX hy6 hyr
  go_enter Try.func85, Try.ntmps85
  go_upto_region 1 with fail
  rw [← HW1.out]
  go_wp2_with fail
  refine CE.out.mono ?_
  rintro e w2 ⟨rfl, hb2⟩
  obtain ⟨cl, ci2, q4, qs, qf, qb, qc⟩ := FW.out w2 hb2
  have CL := hide cl
  have CI := hide ci2
  have CW := hide (HJ.out w2 hb2 q4 qb qc)
  have HB2 := hide hb2
  clear cl ci2 FW HJ qb qc CE hb2 g0 g1 g2 g3 g4 g5 di dj s0 s1 s2 fb fg fd
  cases bl with
  | false =>
    go_wp2
    go_ret
    have hoo := HOF.out
    rw [if_neg (fun h => by have := HBL.out.2 h.1; cases this)] at hoo
    exact ⟨by rw [hoo]; rfl, by rw [hoo]; exact HRF.out.same (BXF.out.trans ((HB2.out).mono BXF.out.size))⟩

  | true =>
    go_wp2_with fail
    refine (CL.out 0).mono ?_
    rintro e w2' ⟨rfl, m', rfl⟩
    cases y with
    | true =>
      go_wp2
      go_ret
      have hoo := HOF.out
      rw [if_neg (fun h => by have h2 := h.2.1; rw [HY.out] at h2; cases h2)] at hoo
      exact ⟨by rw [hoo]; rfl, by rw [hoo]; exact HRF.out.same (BXF.out.trans ((below_drewN HB2.out _).mono BXF.out.size))⟩

    | false =>
      go_wp2_with fail
      refine ((by first | exact CI.out _ | exact CI.out (0 + m') | exact CI.out m') : Calls _ _ _ _ _).mono ?_
      rintro e w2' ⟨rfl, rfl⟩
      cases bi with
      | true =>
        go_wp2
        go_ret
        have hoo := HOF.out
        rw [if_neg (fun h => h.2.2 (HBI.out.1 (by first | rfl | trivial)))] at hoo
        exact ⟨by rw [hoo]; rfl, by rw [hoo]; exact HRF.out.same (BXF.out.trans ((below_drewN HB2.out _).mono BXF.out.size))⟩

      | false =>
        have a4 : ∀ m ob, ((w2.drewN m).alloc ob).cell? ⟨b, 4, none⟩ = some (.slice ay ny cy) := fun m ob => Go.Lib.cell?_alloc_some (W := w2.drewN m) ob q4
        have a1 : ∀ m ob, ((w2.drewN m).alloc ob).cell? ⟨w.heap.size, 1, none⟩ = some (.int .i64 (i : Int)) := fun m ob => Go.Lib.cell?_alloc_some (W := w2.drewN m) ob qs
        have hoo := HOF.out
        rw [if_pos ⟨HBL.out.1 (by first | rfl | trivial), HY.out, fun h => by have := HBI.out.2 h; cases this⟩] at hoo
        have HOO := hide hoo
        clear hoo
        go_upto_region 3 with fail
        go_cut [] (fun wx => ∃ a5 c5 w3, wx = w3.setCell ⟨b, 4, none⟩ (.slice a5 m c5) ∧ w3.ownsRow w2.heap.size 3 1 (.slice a5 m c5) m (ys.map (Value.int .i64)) ∧ Below w2.heap.size w2 w3)
        case first =>
          go_region_law (rw [if_pos (by rfl)]; go_simp; go_at_call 104; refine (CW.out _ (by first | exact (Below.refl _ _).alloc (Nat.le_refl _) _ | exact ((Below.refl _ _).drew).alloc (Nat.le_refl _) _ | exact (below_drewN (Below.refl _ _) _).alloc (Nat.le_refl _) _) (by first | exact cell_new9 _ _ _ | exact cell_new9 (World.drew _) _ _ | exact cell_new9 (World.drewN _ _) _ _)).mono ?_; rintro e w3 ⟨a5, c5, rfl, ho3, c4, f4⟩; dsimp only)
          all_goals (
            go_wp2_with fail
            go_meet
            case rel => exact ⟨a5, c5, w3, rfl, ho3⟩)
        case rest =>
          obtain ⟨a5, c5, w3, rfl, ho3, hb3⟩ := hcut
          have hbw1 := HB2.out.trans (hb3.mono HB2.out.size)
          have hbw := BXF.out.trans (hbw1.mono BXF.out.size)
          go_wp2
          go_ret
          refine ⟨by rw [HOO.out]; rfl, ?_⟩
          rw [HOO.out, ← HYS.out]
          exact done_sync HWF.out HBF.out hSb hbw _ ys (by rw [← HM.out]; exact own_baseZ ho3 (Nat.le_trans BXF.out.size HB2.out.size))
end Go.Proofs.Ythmekhhfihjclbd.L9

namespace Go.Proofs.Ythmekhhfihjclbd.L9
open Go.RowKit L1 L7
set_option linter.unusedVariables false

set_option maxRecDepth 100000 in
set_option maxHeartbeats 2000000 in
theorem fail_any (S : Nat → Prop) (b : Nat) (r : Rm) (w : World) (hI : Inv r) (hR : RB w S b r) (hS : ∀ q, S q → q < w.heap.size) (kd nd : Int) (t : ByteArray) (h0 : 0 ≤ nd) (h1 : nd < (r.G.length : Int)) (o : Option Rm) (ho : o = if r.down nd = false then some { r with dn := r.dn.set nd.toNat true } else none) :
    Calls Try.prog 86 #[.pointer (some ⟨b, 0, none⟩), .agg #[.int .i64 kd, .int .i64 nd, .string t]] w fun e w' => e = .returned (.bool o.isSome) ∧ Done S w b (o.getD r) w' := by
  obtain ⟨V, gb, cg, db, cd, ay, cy, ac, cc, hb, hW, hSb⟩ := hR.open hI
  have hnode := hI.node
  have hdn := hI.good.down
  have hn1 := hI.good.logs.1
  obtain ⟨i, rfl⟩ : ∃ i : Nat, nd = (i : Int) := ⟨nd.toNat, by omega⟩
  obtain ⟨j, hj⟩ : ∃ j : Nat, r.ld = (j : Int) := ⟨r.ld.toNat, by omega⟩
  obtain ⟨n, hn⟩ : ∃ n, n = r.G.length := ⟨_, rfl⟩
  obtain ⟨ny, hny⟩ : ∃ ny, ny = r.sy.length := ⟨_, rfl⟩
  obtain ⟨nc, hnc⟩ : ∃ nc, nc = r.ce.length := ⟨_, rfl⟩
  obtain ⟨E, hE⟩ : ∃ E, E = r.ep := ⟨_, rfl⟩
  have hin : i < n := by omega
  have hjn : j < n := by omega
  have ci := hW.downAt i (by omega)
  have cj := hW.downAt j (by omega)
  obtain ⟨k0, k1, k2, k3, k4, k5⟩ := blk6 hb
  rw [hdn, ← hn] at k1
  rw [← hn] at k0
  rw [hj] at k2
  rw [← hE] at k3
  rw [← hny] at k4
  rw [← hnc] at k5
  have hzz := rpz_of hI
  have BX := (Below.refl w.heap.size w).alloc (Nat.le_refl _) (Obj.cells #[.int .i64 kd, .int .i64 (i : Int), .string t] 50)
  have SX := blk_new9 w (Obj.cells #[.int .i64 kd, .int .i64 (i : Int), .string t] 50)
  obtain ⟨w1, hw1⟩ : ∃ w1, w1 = w.alloc (Obj.cells #[.int .i64 kd, .int .i64 (i : Int), .string t] 50) := ⟨_, rfl⟩
  have HW1 := hide hw1
  rw [← hw1] at BX SX
  clear hw1
  have s0 : w1.cell? ⟨w.heap.size, 0, none⟩ = some (.int .i64 kd) := by simp [World.cell?, SX]
  have s1 : w1.cell? ⟨w.heap.size, 1, none⟩ = some (.int .i64 (i : Int)) := by simp [World.cell?, SX]
  have s2 : w1.cell? ⟨w.heap.size, 2, none⟩ = some (.string t) := by simp [World.cell?, SX]
  have g0 := (BX.cell (blk_lt9 k0)).trans k0
  have g1 := (BX.cell (blk_lt9 k1)).trans k1
  have g2 := (BX.cell (blk_lt9 k2)).trans k2
  have g3 := (BX.cell (blk_lt9 k3)).trans k3
  have g4 := (BX.cell (blk_lt9 k4)).trans k4
  have g5 := (BX.cell (blk_lt9 k5)).trans k5
  have di := (BX.cell (blk_lt9 ci)).trans ci
  have dj := (BX.cell (blk_lt9 cj)).trans cj
  have hWx := hW.below BX
  have hbx : w1.heap[b]? = _ := (BX.block b (Array.getElem?_eq_some_iff.1 hb).1).trans hb
  have fb := fun c => frz hbx c
  have fg : ∀ c, w1.frozen? ⟨gb, c, none⟩ = false := fun c => own_frz hWx.g c
  have fd : ∀ c, w1.frozen? ⟨db, c, none⟩ = false := fun c => own_frz hWx.d c
  have hiI : (i : Int) < (n : Int) := by omega
  have hi0 : (0 : Int) ≤ (i : Int) := by omega
  have hjI : (j : Int) < (n : Int) := by omega
  have hj0 : (0 : Int) ≤ (j : Int) := by omega
  have HOF := hide ho
  have HRF := hide hR
  have HWF := hide hW
  have HBF := hide hb
  have BXF := hide BX
  have e1 : ∀ (i : Nat), r.down (i : Int) = r.dn.getD i false := fun i => rfl
  obtain ⟨x, hx⟩ : ∃ x, x = r.dn.getD i false := ⟨_, rfl⟩
  have HX := hide hx
  rw [← hx] at di
  clear hx ho hR hW hb hWx hbx BX hI hzz hdn hn1 hnode cj dj ci k0 k1 k2 k3 k4 k5 SX e1
  go_enter Try.func86, Try.ntmps86
  go_upto_region 1 with fail
  rw [← HW1.out]
  cases x with
  | true =>
    go_quiet (fail)
    go_wp2
    go_ret
    have hoo := HOF.out
    rw [if_neg (fun h => by rw [show r.down (i : Int) = true from HX.out.symm] at h; cases h)] at hoo
    exact ⟨by rw [hoo]; rfl, by rw [hoo]; exact HRF.out.same (below_drewN BXF.out _)⟩
  | false =>
    have hoo := HOF.out
    rw [if_pos (show r.down (i : Int) = false from HX.out.symm)] at hoo
    have HOO := hide hoo
    clear hoo
    go_quiet (fail)
    go_upto_region 3 with fail
    go_cut [] (fun wx => ∃ m, wx = (w1.drewN m).setCell ⟨db, i, none⟩ (.bool true))
    case first =>
      go_region
      all_goals (
        go_wp2_with fail
        go_meet
        case rel => exact ⟨_, rfl⟩)
    case rest =>
      obtain ⟨m, rfl⟩ := hcut
      go_wp2
      go_ret
      exact ⟨by rw [HOO.out]; rfl, by rw [HOO.out]; exact done_down HWF.out HBF.out hSb (below_drewN BXF.out _) db cd rfl i true⟩
end Go.Proofs.Ythmekhhfihjclbd.L9

namespace Go.Proofs.Ythmekhhfihjclbd.L9
open Go.RowKit L1 L7
set_option linter.unusedVariables false

set_option maxRecDepth 100000 in
set_option maxHeartbeats 2000000 in
theorem back_any (S : Nat → Prop) (b : Nat) (r : Rm) (w : World) (hI : Inv r) (hR : RB w S b r) (hS : ∀ q, S q → q < w.heap.size) (kd nd : Int) (t : ByteArray) (h0 : 0 ≤ nd) (h1 : nd < (r.G.length : Int)) (o : Option Rm) (ho : o = if r.down nd = true then some { r with dn := r.dn.set nd.toNat false } else none) :
    Calls Try.prog 87 #[.pointer (some ⟨b, 0, none⟩), .agg #[.int .i64 kd, .int .i64 nd, .string t]] w fun e w' => e = .returned (.bool o.isSome) ∧ Done S w b (o.getD r) w' := by
  obtain ⟨V, gb, cg, db, cd, ay, cy, ac, cc, hb, hW, hSb⟩ := hR.open hI
  have hnode := hI.node
  have hdn := hI.good.down
  have hn1 := hI.good.logs.1
  obtain ⟨i, rfl⟩ : ∃ i : Nat, nd = (i : Int) := ⟨nd.toNat, by omega⟩
  obtain ⟨j, hj⟩ : ∃ j : Nat, r.ld = (j : Int) := ⟨r.ld.toNat, by omega⟩
  obtain ⟨n, hn⟩ : ∃ n, n = r.G.length := ⟨_, rfl⟩
  obtain ⟨ny, hny⟩ : ∃ ny, ny = r.sy.length := ⟨_, rfl⟩
  obtain ⟨nc, hnc⟩ : ∃ nc, nc = r.ce.length := ⟨_, rfl⟩
  obtain ⟨E, hE⟩ : ∃ E, E = r.ep := ⟨_, rfl⟩
  have hin : i < n := by omega
  have hjn : j < n := by omega
  have ci := hW.downAt i (by omega)
  have cj := hW.downAt j (by omega)
  obtain ⟨k0, k1, k2, k3, k4, k5⟩ := blk6 hb
  rw [hdn, ← hn] at k1
  rw [← hn] at k0
  rw [hj] at k2
  rw [← hE] at k3
  rw [← hny] at k4
  rw [← hnc] at k5
  have hzz := rpz_of hI
  have BX := (Below.refl w.heap.size w).alloc (Nat.le_refl _) (Obj.cells #[.int .i64 kd, .int .i64 (i : Int), .string t] 50)
  have SX := blk_new9 w (Obj.cells #[.int .i64 kd, .int .i64 (i : Int), .string t] 50)
  obtain ⟨w1, hw1⟩ : ∃ w1, w1 = w.alloc (Obj.cells #[.int .i64 kd, .int .i64 (i : Int), .string t] 50) := ⟨_, rfl⟩
  have HW1 := hide hw1
  rw [← hw1] at BX SX
  clear hw1
  have s0 : w1.cell? ⟨w.heap.size, 0, none⟩ = some (.int .i64 kd) := by simp [World.cell?, SX]
  have s1 : w1.cell? ⟨w.heap.size, 1, none⟩ = some (.int .i64 (i : Int)) := by simp [World.cell?, SX]
  have s2 : w1.cell? ⟨w.heap.size, 2, none⟩ = some (.string t) := by simp [World.cell?, SX]
  have g0 := (BX.cell (blk_lt9 k0)).trans k0
  have g1 := (BX.cell (blk_lt9 k1)).trans k1
  have g2 := (BX.cell (blk_lt9 k2)).trans k2
  have g3 := (BX.cell (blk_lt9 k3)).trans k3
  have g4 := (BX.cell (blk_lt9 k4)).trans k4
  have g5 := (BX.cell (blk_lt9 k5)).trans k5
  have di := (BX.cell (blk_lt9 ci)).trans ci
  have dj := (BX.cell (blk_lt9 cj)).trans cj
  have hWx := hW.below BX
  have hbx : w1.heap[b]? = _ := (BX.block b (Array.getElem?_eq_some_iff.1 hb).1).trans hb
  have fb := fun c => frz hbx c
  have fg : ∀ c, w1.frozen? ⟨gb, c, none⟩ = false := fun c => own_frz hWx.g c
  have fd : ∀ c, w1.frozen? ⟨db, c, none⟩ = false := fun c => own_frz hWx.d c
  have hiI : (i : Int) < (n : Int) := by omega
  have hi0 : (0 : Int) ≤ (i : Int) := by omega
  have hjI : (j : Int) < (n : Int) := by omega
  have hj0 : (0 : Int) ≤ (j : Int) := by omega
  have HOF := hide ho
  have HRF := hide hR
  have HWF := hide hW
  have HBF := hide hb
  have BXF := hide BX
  have e1 : ∀ (i : Nat), r.down (i : Int) = r.dn.getD i false := fun i => rfl
  obtain ⟨x, hx⟩ : ∃ x, x = r.dn.getD i false := ⟨_, rfl⟩
  have HX := hide hx
  rw [← hx] at di
  clear hx ho hR hW hb hWx hbx BX hI hzz hdn hn1 hnode cj dj ci k0 k1 k2 k3 k4 k5 SX e1
  go_enter Try.func87, Try.ntmps87
  go_upto_region 1 with fail
  rw [← HW1.out]
  cases x with
  | false =>
    go_quiet (fail)
    go_wp2
    go_ret
    have hoo := HOF.out
    rw [if_neg (fun h => by rw [show r.down (i : Int) = false from HX.out.symm] at h; cases h)] at hoo
    exact ⟨by rw [hoo]; rfl, by rw [hoo]; exact HRF.out.same (below_drewN BXF.out _)⟩
  | true =>
    have hoo := HOF.out
    rw [if_pos (show r.down (i : Int) = true from HX.out.symm)] at hoo
    have HOO := hide hoo
    clear hoo
    go_quiet (fail)
    go_upto_region 3 with fail
    go_cut [] (fun wx => ∃ m, wx = (w1.drewN m).setCell ⟨db, i, none⟩ (.bool false))
    case first =>
      go_region
      all_goals (
        go_wp2_with fail
        go_meet
        case rel => exact ⟨_, rfl⟩)
    case rest =>
      obtain ⟨m, rfl⟩ := hcut
      go_wp2
      go_ret
      exact ⟨by rw [HOO.out]; rfl, by rw [HOO.out]; exact done_down HWF.out HBF.out hSb (below_drewN BXF.out _) db cd rfl i false⟩
end Go.Proofs.Ythmekhhfihjclbd.L9
