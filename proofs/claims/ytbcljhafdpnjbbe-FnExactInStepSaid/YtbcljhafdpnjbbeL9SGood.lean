/-
  Contracts: spec.l9Begins, spec.GoodRepl.
-/
import Derived.Test.YtbcljhafdpnjbbeL9Good
import Derived.Test.YtbcljhafdpnjbbeL7SGood
import Derived.Test.YtbcljhafdpnjbbeL7SPrt
import Derived.Test.YtbcljhafdpnjbbeL8SRise
import Derived.Test.YtbcljhafdpnjbbeL4Has
import Derived.Deep.DeepCutAuto
namespace Go.Proofs.Ytbcljhafdpnjbbe.L9
open Go.RowKit L1 L7
set_option linter.unusedVariables false

set_option maxRecDepth 100000 in
set_option maxHeartbeats 1000000 in
theorem l9Begins_any (a b : Option Addr) (l m : List En) (n c1 k c2 : Nat) (w : World) (hn : l.length = n) (hk : m.length = k) (hs : SlE w a l) (ht : SlE w b m) (hn2 : n ≤ 1048576) (hk2 : k ≤ 1048576) (bb : Bool) (hbb : bb = true ↔ prt l m = k) :
    Calls Try.prog 31 #[.slice a n c1, .slice b k c2] w fun e w' => e = .returned (.bool bb) ∧ Below w.heap.size w w' := by
  have hpl := prt_le l m
  have HBB := hide hbb
  clear hbb
  by_cases hge : (k : Int) ≤ (n : Int)
  · have C := hide (l7Part_any a b l m n c1 k c2 w hn hk hs ht hn2 hk2)
    obtain ⟨p, hp⟩ : ∃ p, p = prt l m := ⟨_, rfl⟩
    rw [← hp] at C hpl HBB
    clear hp hs ht hn hk
    go_enter Try.func31, Try.ntmps31
    go_wp2_with fail
    refine C.out.mono ?_
    rintro e w1 ⟨rfl, hb⟩
    by_cases hpk : p = k
    · have E : Hid (bb = true) := HBB.out.2 hpk
      subst hpk
      go_wp2
      go_ret
      exact ⟨by rw [E.out]; rfl, hb⟩
    · have E : Hid (bb = false) := bool_noT HBB.out hpk
      have hq : ((p : Int) == (k : Int)) = false := by simp; omega
      go_wp2
      go_ret
      exact ⟨by rw [E.out]; rfl, hb⟩
  · have E : Hid (bb = false) := bool_noT HBB.out (fun h => by omega)
    clear hs ht hn hk hpl
    go_enter Try.func31, Try.ntmps31
    go_wp2
    go_ret
    exact ⟨by rw [E.out]; rfl, Below.refl _ _⟩

open Classical in
set_option maxRecDepth 100000 in
set_option maxHeartbeats 4000000 in
theorem specGoodRepl_any (ag : Option Addr) (n cg : Nat) (ad : Option Addr) (nd cd : Nat) (ld ep : Int) (ay : Option Addr) (ny cy : Nat) (ac : Option Addr) (nc cc : Nat) (G : List (List En)) (sy : List Int) (ce : List En) (w : World) (hz : RpZ G sy ce n nd ny nc) (hs : RpS w ag ay ac G sy ce) (bb : Bool) (hbb : bb = true ↔ GoodR G nd ld ep sy ce) :
    Calls Try.prog 13 #[rpV ag n cg ad nd cd ld ep ay ny cy ac nc cc] w fun e w' => e = .returned (.bool bb) ∧ Below w.heap.size w w' := by
  obtain ⟨hn, hy, hc, n2, d2, y2, c2, hls, htx⟩ := hz
  obtain ⟨b1, hb1⟩ : ∃ b : Bool, b = true ↔ (1 : Int) ≤ (n : Int) ∧ (n : Int) ≤ 5 := ⟨decide ((1 : Int) ≤ (n : Int) ∧ (n : Int) ≤ 5), by simp⟩
  obtain ⟨N1, hN1⟩ : ∃ N1, (n : Int) - 1 = N1 := ⟨_, rfl⟩
  obtain ⟨b4, hb4⟩ : ∃ b : Bool, b = true ↔ 0 ≤ ld ∧ ld ≤ N1 := ⟨decide (0 ≤ ld ∧ ld ≤ N1), by simp⟩
  obtain ⟨b5, hb5⟩ : ∃ b : Bool, b = true ↔ 1 ≤ ep ∧ ep ≤ 1000 := ⟨decide (1 ≤ ep ∧ ep ≤ 1000), by simp⟩
  obtain ⟨b2, hb2⟩ : ∃ b : Bool, b = true ↔ L8.RN (n : Int) sy := ⟨decide (L8.RN (n : Int) sy), by simp⟩
  obtain ⟨b3, hb3⟩ : ∃ b : Bool, b = true ↔ ld ∈ sy := ⟨decide (ld ∈ sy), by simp⟩
  have BX := hide ((Below.refl w.heap.size w).alloc (Nat.le_refl _) (rpO ag n cg ad nd cd ld ep ay ny cy ac nc cc))
  have GX := hide (blk_new9 w (rpO ag n cg ad nd cd ld ep ay ny cy ac nc cc))
  obtain ⟨W, hW⟩ : ∃ W, w.alloc (rpO ag n cg ad nd cd ld ep ay ny cy ac nc cc) = W := ⟨_, rfl⟩
  rw [hW] at BX GX
  have HWW := hide hW
  clear hW
  have C1 := hide (fun wx => L7.l1In_any (n : Int) 1 5 wx b1 hb1)
  have C4 := hide (fun wx => L7.l1In_any ld 0 N1 wx b4 hb4)
  have C5 := hide (fun wx => L7.l1In_any ep 1 1000 wx b5 hb5)
  have C2 := hide (fun wx (hb : Below w.heap.size w wx) => L8.l8Rising_any ay sy ny cy (n : Int) wx hy (hs.y.below hb) y2 b2 hb2 N1 hN1 (by omega) (by omega))
  have C3 := hide (fun wx (hb : Below w.heap.size w wx) => L4.l1Has_any ay sy ny cy ld wx hy (hs.y.below hb) y2 b3 hb3)
  have hw1 : IntKind.i64.wrap ((n : Int) - 1) = N1 := by
    rw [hN1]
    simp only [IntKind.wrap, IntKind.bits, IntKind.signed]
    simp
    omega
  have HBB := hide hbb
  have HS := hide hs
  have HN := hide hn
  have HY := hide hy
  have HC := hide hc
  have HLS := hide hls
  have HTX := hide htx
  have HB1 := hide hb1
  have HB2 := hide hb2
  have HB3 := hide hb3
  have HB4 := hide hb4
  have HB5 := hide hb5
  have HN1 := hide hN1
  clear hbb hs hn hy hc hls htx hb1 hb2 hb3 hb4 hb5
  obtain ⟨k0, k1, k2, k3, k4, k5⟩ := blk6 GX.out
  go_enter Try.func13, Try.ntmps13
  go_upto_region 1 with fail
  rw [HWW.out]
  clear HWW
  go_wp2_with fail
  refine (C1.out _).mono ?_
  rintro e w2 ⟨rfl, rfl⟩
  cases b1 with
  | false =>
    have E : Hid (bb = false) := bool_noT HBB.out (fun h => by have := h.logs.1; have := HN.out; have := HB1.out.2 ⟨by omega, by omega⟩; cases this)
    go_wp2
    go_ret
    exact ⟨by rw [E.out]; rfl, BX.out⟩
  | true =>
    have hn15 := HB1.out.1 (by first | rfl | trivial)
    obtain ⟨hn1, hn5⟩ := hn15
    by_cases hnd : nd = n
    · subst hnd
      go_wp2_with fail
      refine (C4.out _).mono ?_
      rintro e w2 ⟨rfl, rfl⟩
      cases b4 with
      | false =>
        have E : Hid (bb = false) := bool_noT HBB.out (fun h => by have h1 := h.node; have := HN.out; have := HN1.out; have := HB4.out.2 ⟨by omega, by omega⟩; cases this)
        go_wp2
        go_ret
        exact ⟨by rw [E.out]; rfl, BX.out⟩
      | true =>
        go_wp2_with fail
        refine (C5.out _).mono ?_
        rintro e w2 ⟨rfl, rfl⟩
        cases b5 with
        | false =>
          have E : Hid (bb = false) := bool_noT HBB.out (fun h => by have := HB5.out.2 ⟨h.e0, h.e1⟩; cases this)
          go_wp2
          go_ret
          exact ⟨by rw [E.out]; rfl, BX.out⟩
        | true =>
          have he := HB5.out.1 (by first | rfl | trivial)
          obtain ⟨he0, he1⟩ := he
          go_wp2_with fail
          refine (C2.out _ BX.out).mono ?_
          rintro e w2 ⟨rfl, rfl⟩
          cases b2 with
          | false =>
            have E : Hid (bb = false) := bool_noT HBB.out (fun h => by have h2 := h.rise; rw [HN.out] at h2; have := HB2.out.2 h2; cases this)
            go_wp2
            go_ret
            exact ⟨by rw [E.out]; rfl, BX.out⟩
          | true =>
            have HRN := hide (HB2.out.1 (by first | rfl | trivial))
            go_wp2_with fail
            refine (C3.out _ BX.out).mono ?_
            rintro e w3 ⟨rfl, hb⟩
            have G3 := hide ((hb.block w.heap.size (Array.getElem?_eq_some_iff.1 GX.out).1).trans GX.out)
            have B3 := hide (BX.out.trans (hb.mono BX.out.size))
            clear hb k0 k1 k2 k3 k4 k5
            obtain ⟨k0, k1, k2, k3, k4, k5⟩ := blk6 G3.out
            cases b3 with
            | false =>
              have E : Hid (bb = false) := bool_noT HBB.out (fun h => by have := HB3.out.2 h.lead; cases this)
              go_wp2
              go_ret
              exact ⟨by rw [E.out]; rfl, B3.out⟩
            | true =>
              have HLD := hide (HB3.out.1 (by first | rfl | trivial))
              clear C1 C2 C3 C4 C5 BX GX
              go_wp2
              go_loopw [53] (fun i wr => ∃ k : Nat, k ≤ nd ∧ i = .int .i64 k ∧ Hid (∀ j, j < k → GoodE (G.getD j [])) ∧ Hid (wr.heap[w.heap.size]? = some (rpO ag nd cg ad nd cd ld ep ay ny cy ac nc cc)) ∧ Below w.heap.size w wr) (fun i _ => nd - (intOf i).toNat)
              case atStart => exact ⟨0, Nat.zero_le _, rfl, fun j hj => absurd hj (Nat.not_lt_zero _), G3, B3.out⟩
              case round =>
                obtain ⟨k, hk, rfl, HK, GR, hbel⟩ := hrel
                clear k0 k1 k2 k3 k4 k5
                by_cases hlt : k < nd
                · obtain ⟨b, off, rfl, ai, ci, hc, hs1⟩ := (HS.out.g.below hbel) k (by rw [HN.out]; exact hlt)
                  have hlx := HLS.out k (by rw [HN.out]; exact hlt)
                  have htx := (HTX.out k (by rw [HN.out]; exact hlt)).2
                  obtain ⟨l, hl⟩ : ∃ l, l = G.getD k [] := ⟨_, rfl⟩
                  rw [← hl] at hc hs1 hlx htx
                  obtain ⟨m, hmm⟩ : ∃ m, m = l.length := ⟨_, rfl⟩
                  rw [← hmm] at hc hlx
                  have hltI : (k : Int) < (nd : Int) := by omega
                  obtain ⟨bk, hbk⟩ : ∃ bk : Bool, bk = true ↔ GoodE l := ⟨decide (GoodE l), by simp⟩
                  have C := hide (specGoodEntries_any ai l m ci wr hmm.symm hs1 hlx htx bk hbk)
                  have HL := hide hl
                  have HB := hide hbk
                  have B0 := hide hbel
                  clear hs1 hl hmm hbk htx hbel
                  go_wp2_with fail
                  refine C.out.mono ?_
                  rintro e w4 ⟨rfl, hb1⟩
                  have B4 := hide (B0.out.trans (hb1.mono B0.out.size))
                  have G4 := hide ((hb1.block w.heap.size (Array.getElem?_eq_some_iff.1 GR.out).1).trans GR.out)
                  clear hb1
                  cases bk with
                  | false =>
                    have E : Hid (bb = false) := bool_noT HBB.out (fun h => by
                      have h2 := h.logs.2 k (by rw [HN.out]; exact hlt)
                      rw [← HL.out] at h2
                      have := HB.out.2 h2
                      cases this)
                    go_wp2
                    go_ret
                    exact ⟨by rw [E.out]; rfl, B4.out⟩
                  | true =>
                    go_wp2
                    go_roundw
                    case rel =>
                      refine ⟨k + 1, by omega, by go_num, ?_, G4, B4.out⟩
                      intro j hj
                      by_cases e : j = k
                      · rw [e, ← HL.out]
                        exact HB.out.1 (by first | rfl | trivial)
                      · exact HK.out j (by omega)
                    case measure => simp [intOf]; omega
                · obtain rfl : k = nd := by omega
                  have hltI : ¬ (k : Int) < (k : Int) := by omega
                  have HL1 : Hid (GoodLs G) := hide ⟨by have := HN.out; omega, fun i hi => HK.out i (by have := HN.out; omega)⟩
                  obtain ⟨k0, k1, k2, k3, k4, k5⟩ := blk6 GR.out
                  have BR := hide hbel
                  clear hbel hk
                  go_wp2
                  go_loopw [64] (fun i wr => ∃ t : Nat, t ≤ ny ∧ i = .int .i64 t ∧ Hid (∀ j, j < t → prt (gg G (sy.getD j 0)) ce = ce.length) ∧ Hid (wr.heap[w.heap.size]? = some (rpO ag k cg ad k cd ld ep ay ny cy ac nc cc)) ∧ Below w.heap.size w wr) (fun i _ => ny - (intOf i).toNat)
                  case atStart => exact ⟨0, Nat.zero_le _, rfl, fun j hj => absurd hj (Nat.not_lt_zero _), GR, BR.out⟩
                  case round =>
                    obtain ⟨k', hk, rfl, HK', GR', hbel⟩ := hrel
                    clear k0 k1 k2 k3 k4 k5
                    obtain ⟨k0, k1, k2, k3, k4, k5⟩ := blk6 GR'.out
                    by_cases hlt : k' < ny
                    · obtain ⟨by_, oy, rfl, hcy⟩ := (HS.out.y.below hbel) k' (by rw [HY.out]; exact hlt)
                      have hrn := (HRN.out k' (by rw [HY.out]; exact hlt)).1
                      obtain ⟨x, hx⟩ : ∃ x, x = sy.getD k' 0 := ⟨_, rfl⟩
                      rw [← hx] at hcy hrn
                      obtain ⟨b, off, rfl, i, ai, ci, hxi, hi, hcl, hsl⟩ := (HS.out.g.below hbel).at' x hrn.1 (by rw [HN.out]; exact hrn.2)
                      subst hxi
                      have hll := HLS.out i hi
                      obtain ⟨l, hl⟩ : ∃ l, l = G.getD i [] := ⟨_, rfl⟩
                      rw [show gg G (i : Int) = l from hl.symm] at hcl hsl
                      rw [← hl] at hll
                      obtain ⟨m, hm⟩ : ∃ m, m = l.length := ⟨_, rfl⟩
                      rw [← hm] at hcl hll
                      have hiI : (i : Int) < (k : Int) := by have := HN.out; omega
                      have hi0 : (0 : Int) ≤ (i : Int) := by omega
                      have hltI : (k' : Int) < (ny : Int) := by omega
                      have hcs := HS.out.c.below hbel
                      obtain ⟨bp, hbp⟩ : ∃ bp : Bool, bp = true ↔ prt l ce = nc := ⟨decide (prt l ce = nc), by simp⟩
                      have C := hide (fun wx (hb : Below wr.heap.size wr wx) => l9Begins_any ai ac l ce m ci nc cc wx hm.symm HC.out (hsl.below hb) (hcs.below hb) hll c2 bp hbp)
                      have HP := hide hbp
                      have HX := hide hx
                      have HL := hide hl
                      have BB := hide hbel
                      clear hrn hbp hx hl hm hsl hcs hbel
                      cases bp with
                      | false =>
                        skip
                        have E : Hid (bb = false) := bool_noT HBB.out (fun h => by
                          have h2 := h.cert k' (by rw [HY.out]; exact hlt)
                          rw [← HX.out, show gg G (i : Int) = l from HL.out.symm, HC.out] at h2
                          have := HP.out.2 h2
                          cases this)
                        go_wp2
                        go_region_held3 (fun wx => (wx.cell? ⟨w.heap.size, 0, none⟩ = some (.slice (some ⟨b, off, none⟩) k cg) ∧ wx.cell? ⟨w.heap.size, 5, none⟩ = some (.slice ac nc cc) ∧ wx.cell? ⟨b, off + i, none⟩ = some (.slice ai m ci)) ∧ Below wr.heap.size wr wx) (first | exact ⟨⟨k0, k5, hcl⟩, (Below.refl _ _).drew⟩ | exact keep39 (by assumption) (by assumption) (Nat.le_refl _)) ((go_at_call 31; refine (C.out _ (by first | exact And.right (by assumption) | exact (Below.refl _ _).drew | exact Below.refl _ _)).mono ?_; rintro e w4 ⟨rfl, hb⟩))
                        rename_i hHeld
                        have B4 := hide (BB.out.trans (hHeld.2.mono BB.out.size))
                        clear hHeld
                        go_wp2
                        go_ret
                        exact ⟨by rw [E.out]; rfl, B4.out⟩
                      | true =>
                        skip
                        go_wp2
                        go_region_held3 (fun wx => (wx.cell? ⟨w.heap.size, 0, none⟩ = some (.slice (some ⟨b, off, none⟩) k cg) ∧ wx.cell? ⟨w.heap.size, 5, none⟩ = some (.slice ac nc cc) ∧ wx.cell? ⟨b, off + i, none⟩ = some (.slice ai m ci)) ∧ Below wr.heap.size wr wx) (first | exact ⟨⟨k0, k5, hcl⟩, (Below.refl _ _).drew⟩ | exact keep39 (by assumption) (by assumption) (Nat.le_refl _)) ((go_at_call 31; refine (C.out _ (by first | exact And.right (by assumption) | exact (Below.refl _ _).drew | exact Below.refl _ _)).mono ?_; rintro e w4 ⟨rfl, hb⟩))
                        rename_i hHeld
                        have B4 := hide (BB.out.trans (hHeld.2.mono BB.out.size))
                        have G4 := hide ((hHeld.2.block w.heap.size (Array.getElem?_eq_some_iff.1 GR'.out).1).trans GR'.out)
                        clear hHeld
                        go_wp2
                        go_roundw
                        case rel =>
                          refine ⟨k' + 1, by omega, by go_num, ?_, G4, B4.out⟩
                          intro j hj
                          by_cases e : j = k'
                          · rw [e, ← HX.out, show gg G (i : Int) = l from HL.out.symm, HC.out]
                            exact HP.out.1 (by first | rfl | trivial)
                          · exact HK'.out j (by omega)
                        case measure => simp [intOf]; omega
                    · obtain rfl : k' = ny := by omega
                      have hltI : ¬ (k' : Int) < (k' : Int) := by omega
                      have E : Hid (bb = true) := HBB.out.2 ⟨HL1.out, HN.out.symm, by omega, by omega, by rw [HN.out]; exact HRN.out, HLD.out, fun j hj => HK'.out j (by have := HY.out; omega)⟩
                      go_wp2
                      go_ret
                      exact ⟨by rw [E.out]; rfl, hbel⟩
    · have hq : ((nd : Int) != (n : Int)) = true := by simp; omega
      have E : Hid (bb = false) := bool_noT HBB.out (fun h => by have := h.down; have := HN.out; omega)
      go_wp2
      go_ret
      exact ⟨by rw [E.out]; rfl, BX.out⟩
end Go.Proofs.Ytbcljhafdpnjbbe.L9
