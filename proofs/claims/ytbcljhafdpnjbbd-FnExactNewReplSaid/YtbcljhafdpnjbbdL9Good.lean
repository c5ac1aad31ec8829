/-
  Contract: impl.GoodRepl.
-/
import Derived.Test.YtbcljhafdpnjbbdL9GoodL
import Derived.Test.YtbcljhafdpnjbbdL7Prt
import Derived.Test.YtbcljhafdpnjbbdL1Idx
import Derived.Deep.RegionHeld3
namespace Go.Proofs.Ytbcljhafdpnjbbd.L9
open Go.RowKit L1 L7
set_option linter.unusedVariables false

/-- A world of logs lies in memory. -/
structure RpS (w : World) (ag ay ac : Option Addr) (G : List (List En)) (sy : List Int) (ce : List En) : Prop where
  g : SlG w ag G
  y : Sl w ay sy
  c : SlE w ac ce
theorem RpS.below {w w' : World} {ag ay ac : Option Addr} {G : List (List En)} {sy : List Int} {ce : List En} (h : RpS w ag ay ac G sy ce) (hb : Below w.heap.size w w') : RpS w' ag ay ac G sy ce := ⟨h.g.below hb, h.y.below hb, h.c.below hb⟩
/-- How much there is of it. -/
structure RpZ (G : List (List En)) (sy : List Int) (ce : List En) (n nd ny nc : Nat) : Prop where
  hn : G.length = n
  hy : sy.length = ny
  hc : ce.length = nc
  n2 : n ≤ 1048576
  d2 : nd ≤ 1048576
  y2 : ny ≤ 1048576
  c2 : nc ≤ 1048576
  ls : ∀ i, i < G.length → (G.getD i []).length ≤ 1048576
  tx : TxG G
/-- It as a value, and as a block. -/
abbrev rpV (ag : Option Addr) (n cg : Nat) (ad : Option Addr) (nd cd : Nat) (ld ep : Int) (ay : Option Addr) (ny cy : Nat) (ac : Option Addr) (nc cc : Nat) : Value := .agg #[.slice ag n cg, .slice ad nd cd, .int .i64 ld, .int .i64 ep, .slice ay ny cy, .slice ac nc cc]
abbrev rpO (ag : Option Addr) (n cg : Nat) (ad : Option Addr) (nd cd : Nat) (ld ep : Int) (ay : Option Addr) (ny cy : Nat) (ac : Option Addr) (nc cc : Nat) : Obj := .cells #[.slice ag n cg, .slice ad nd cd, .int .i64 ld, .int .i64 ep, .slice ay ny cy, .slice ac nc cc] 32 (0, 0)
theorem blk_lt9 {w : World} {p : Addr} {v : Value} (h : w.cell? p = some v) : p.block < w.heap.size := by
  by_cases hb : p.block < w.heap.size
  · exact hb
  · simp [World.cell?, Array.getElem?_eq_none (show w.heap.size ≤ p.block by omega)] at h
theorem keep39 {wa wb W : World} {N : Nat} {p0 p1 p2 : Addr} {v0 v1 v2 : Value} (h : (wa.cell? p0 = some v0 ∧ wa.cell? p1 = some v1 ∧ wa.cell? p2 = some v2) ∧ Below N W wa) (hb : Below wa.heap.size wa wb) (hN : N ≤ W.heap.size) : (wb.cell? p0 = some v0 ∧ wb.cell? p1 = some v1 ∧ wb.cell? p2 = some v2) ∧ Below N W wb := by
  obtain ⟨⟨h0, h1, h2⟩, hz⟩ := h
  exact ⟨⟨(hb.cell (blk_lt9 h0)).trans h0, (hb.cell (blk_lt9 h1)).trans h1, (hb.cell (blk_lt9 h2)).trans h2⟩, hz.trans (hb.mono (Nat.le_trans hN hz.size))⟩
open Classical in
set_option maxRecDepth 100000 in
set_option maxHeartbeats 4000000 in
theorem goodRepl_any (ag : Option Addr) (n cg : Nat) (ad : Option Addr) (nd cd : Nat) (ld ep : Int) (ay : Option Addr) (ny cy : Nat) (ac : Option Addr) (nc cc : Nat) (G : List (List En)) (sy : List Int) (ce : List En) (w : World) (hz : RpZ G sy ce n nd ny nc) (hs : RpS w ag ay ac G sy ce) (bb : Bool) (hbb : bb = true ↔ GoodR G nd ld ep sy ce) :
    Calls Try.prog 21 #[rpV ag n cg ad nd cd ld ep ay ny cy ac nc cc] w fun e w' => e = .returned (.bool bb) ∧ Below w.heap.size w w' := by
  obtain ⟨hn, hy, hc, n2, d2, y2, c2, hls, htx⟩ := hz
  obtain ⟨b1, hb1⟩ : ∃ b : Bool, b = true ↔ GoodLs G := ⟨decide (GoodLs G), by simp⟩
  obtain ⟨b2, hb2⟩ : ∃ b : Bool, b = true ↔ L8.RN (n : Int) sy := ⟨decide (L8.RN (n : Int) sy), by simp⟩
  obtain ⟨b3, hb3⟩ : ∃ b : Bool, b = true ↔ ld ∈ sy := ⟨decide (ld ∈ sy), by simp⟩
  have BX := hide ((Below.refl w.heap.size w).alloc (Nat.le_refl _) (rpO ag n cg ad nd cd ld ep ay ny cy ac nc cc))
  have C1 := hide (fun wx (hb : Below w.heap.size w wx) => goodReplLogs_any ag G n cg wx hn (hs.g.below hb) n2 hls htx b1 hb1)
  have C2 := hide (fun wx (hb : Below w.heap.size w wx) => L8.risingNodes_any ay sy ny cy (n : Int) wx hy (hs.y.below hb) y2 b2 hb2)
  have C3 := hide (fun wx (hb : Below w.heap.size w wx) => contains_any ay sy ny cy ld wx hy (hs.y.below hb) y2 b3 hb3)
  have HBB := hide hbb
  have HS := hide hs
  have HN := hide hn
  have HY := hide hy
  have HC := hide hc
  have HLS := hide hls
  have HB1 := hide hb1
  have HB2 := hide hb2
  have HB3 := hide hb3
  clear hbb hs hn hy hc hls htx hb1 hb2 hb3
  go_enter Try.func21, Try.ntmps21
  go_wp2_with fail
  refine (C1.out _ BX.out).mono ?_
  rintro e w1 ⟨rfl, hb⟩
  have G1 := hide ((hb.block w.heap.size (by simp)).trans (blk_new9 _ _))
  have B1 := hide (BX.out.trans (hb.mono BX.out.size))
  obtain ⟨k0, k1, k2, k3, k4, k5⟩ := blk6 G1.out
  clear hb C1 BX
  cases b1 with
  | false =>
    have E : Hid (bb = false) := bool_noT HBB.out (fun h => by have := HB1.out.2 h.logs; cases this)
    go_wp2
    go_ret
    exact ⟨by rw [E.out]; rfl, B1.out⟩
  | true =>
    have hl1 := HB1.out.1 (by first | rfl | trivial)
    have hn1 : 1 ≤ n := by have := hl1.1.1; have := HN.out; omega
    have hn5 : n ≤ 5 := by have := hl1.1.2; have := HN.out; omega
    have HL1 := hide hl1
    clear hl1
    by_cases hnd : nd = n
    · subst hnd
      by_cases he0 : ep < 1
      · have E : Hid (bb = false) := bool_noT HBB.out (fun h => by have := h.e0; omega)
        go_wp2
        go_ret
        exact ⟨by rw [E.out]; rfl, B1.out⟩
      · by_cases he1 : 1000 < ep
        · have E : Hid (bb = false) := bool_noT HBB.out (fun h => by have := h.e1; omega)
          go_wp2
          go_ret
          exact ⟨by rw [E.out]; rfl, B1.out⟩
        · go_wp2_with fail
          refine (C2.out _ B1.out).mono ?_
          rintro e w2 ⟨rfl, rfl⟩
          cases b2 with
          | false =>
            have E : Hid (bb = false) := bool_noT HBB.out (fun h => by have h2 := h.rise; rw [HN.out] at h2; have := HB2.out.2 h2; cases this)
            go_wp2
            go_ret
            exact ⟨by rw [E.out]; rfl, B1.out⟩
          | true =>
            have HRN := hide (HB2.out.1 (by first | rfl | trivial))
            go_wp2_with fail
            refine (C3.out _ B1.out).mono ?_
            rintro e w3 ⟨rfl, hb⟩
            have G3 := hide ((hb.block w.heap.size (Array.getElem?_eq_some_iff.1 G1.out).1).trans G1.out)
            have B3 := hide (B1.out.trans (hb.mono B1.out.size))
            clear hb k0 k1 k2 k3 k4 k5
            obtain ⟨k0, k1, k2, k3, k4, k5⟩ := blk6 G3.out
            cases b3 with
            | false =>
              have E : Hid (bb = false) := bool_noT HBB.out (fun h => by have := HB3.out.2 h.lead; cases this)
              go_wp2
              go_ret
              exact ⟨by rw [E.out]; rfl, B3.out⟩
            | true =>
              have HLD := hide (HB3.out.1 (by first | rfl | trivial))
              clear C2 C3 B1 G1
              go_wp2
              go_loopw [46] (fun i wr => ∃ k : Nat, k ≤ ny ∧ i = .int .i64 k ∧ Hid (∀ j, j < k → prt (gg G (sy.getD j 0)) ce = ce.length) ∧ Hid (wr.heap[w.heap.size]? = some (rpO ag nd cg ad nd cd ld ep ay ny cy ac nc cc)) ∧ Below w.heap.size w wr) (fun i _ => ny - (intOf i).toNat)
              case atStart => exact ⟨0, Nat.zero_le _, rfl, fun j hj => absurd hj (Nat.not_lt_zero _), G3, B3.out⟩
              case round =>
                obtain ⟨k, hk, rfl, HK, GR, hbel⟩ := hrel
                clear k0 k1 k2 k3 k4 k5
                obtain ⟨k0, k1, k2, k3, k4, k5⟩ := blk6 GR.out
                by_cases hlt : k < ny
                · obtain ⟨by_, oy, rfl, hcy⟩ := (HS.out.y.below hbel) k (by rw [HY.out]; exact hlt)
                  have hrn := (HRN.out k (by rw [HY.out]; exact hlt)).1
                  obtain ⟨x, hx⟩ : ∃ x, x = sy.getD k 0 := ⟨_, rfl⟩
                  rw [← hx] at hcy hrn
                  obtain ⟨b, off, rfl, i, ai, ci, hxi, hi, hcl, hsl⟩ := (HS.out.g.below hbel).at' x hrn.1 (by rw [HN.out]; exact hrn.2)
                  subst hxi
                  have hll := HLS.out i hi
                  obtain ⟨l, hl⟩ : ∃ l, l = G.getD i [] := ⟨_, rfl⟩
                  rw [show gg G (i : Int) = l from hl.symm] at hcl hsl
                  rw [← hl] at hll
                  obtain ⟨m, hm⟩ : ∃ m, m = l.length := ⟨_, rfl⟩
                  rw [← hm] at hcl hll
                  have hiI : (i : Int) < (nd : Int) := by have := HN.out; omega
                  have hi0 : (0 : Int) ≤ (i : Int) := by omega
                  have hltI : (k : Int) < (ny : Int) := by omega
                  have hpl := prt_le l ce
                  have hcs := HS.out.c.below hbel
                  have C := hide (fun wx (hb : Below wr.heap.size wr wx) => partAt_any ai ac l ce m ci nc cc wx hm.symm HC.out (hsl.below hb) (hcs.below hb) hll c2)
                  obtain ⟨p, hp⟩ : ∃ p, p = prt l ce := ⟨_, rfl⟩
                  rw [← hp] at C hpl
                  have hpc : p ≤ nc := by have := HC.out; omega
                  have HP := hide hp
                  have HX := hide hx
                  have HL := hide hl
                  have BB := hide hbel
                  clear hrn hp hx hl hm hpl hsl hcs hbel
                  by_cases hpn : p < nc
                  · have hpI : (p : Int) < (nc : Int) := by omega
                    have E : Hid (bb = false) := bool_noT HBB.out (fun h => by
                      have h2 := h.cert k (by rw [HY.out]; exact hlt)
                      rw [← HX.out, show gg G (i : Int) = l from HL.out.symm, ← HP.out, HC.out] at h2
                      omega)
                    go_wp2
                    go_region_held3 (fun wx => (wx.cell? ⟨w.heap.size, 0, none⟩ = some (.slice (some ⟨b, off, none⟩) nd cg) ∧ wx.cell? ⟨w.heap.size, 5, none⟩ = some (.slice ac nc cc) ∧ wx.cell? ⟨b, off + i, none⟩ = some (.slice ai m ci)) ∧ Below wr.heap.size wr wx) (first | exact ⟨⟨k0, k5, hcl⟩, (Below.refl _ _).drew⟩ | exact keep39 (by assumption) (by assumption) (Nat.le_refl _)) ((go_at_call 63; refine (C.out _ (by first | exact And.right (by assumption) | exact (Below.refl _ _).drew | exact Below.refl _ _)).mono ?_; rintro e w4 ⟨rfl, hb⟩))
                    rename_i hHeld
                    have B4 := hide (BB.out.trans (hHeld.2.mono BB.out.size))
                    clear hHeld
                    go_wp2
                    go_ret
                    exact ⟨by rw [E.out]; rfl, B4.out⟩
                  · have hpI : ¬ (p : Int) < (nc : Int) := by omega
                    go_wp2
                    go_region_held3 (fun wx => (wx.cell? ⟨w.heap.size, 0, none⟩ = some (.slice (some ⟨b, off, none⟩) nd cg) ∧ wx.cell? ⟨w.heap.size, 5, none⟩ = some (.slice ac nc cc) ∧ wx.cell? ⟨b, off + i, none⟩ = some (.slice ai m ci)) ∧ Below wr.heap.size wr wx) (first | exact ⟨⟨k0, k5, hcl⟩, (Below.refl _ _).drew⟩ | exact keep39 (by assumption) (by assumption) (Nat.le_refl _)) ((go_at_call 63; refine (C.out _ (by first | exact And.right (by assumption) | exact (Below.refl _ _).drew | exact Below.refl _ _)).mono ?_; rintro e w4 ⟨rfl, hb⟩))
                    rename_i hHeld
                    have B4 := hide (BB.out.trans (hHeld.2.mono BB.out.size))
                    have G4 := hide ((hHeld.2.block w.heap.size (Array.getElem?_eq_some_iff.1 GR.out).1).trans GR.out)
                    clear hHeld
                    go_wp2
                    go_roundw
                    case rel =>
                      refine ⟨k + 1, by omega, by go_num, ?_, G4, B4.out⟩
                      intro j hj
                      by_cases e : j = k
                      · rw [e, ← HX.out, show gg G (i : Int) = l from HL.out.symm, ← HP.out, HC.out]
                        omega
                      · exact HK.out j (by omega)
                    case measure => simp [intOf]; omega
                · obtain rfl : k = ny := by omega
                  have hltI : ¬ (k : Int) < (k : Int) := by omega
                  have E : Hid (bb = true) := HBB.out.2 ⟨HL1.out, HN.out.symm, by omega, by omega, by rw [HN.out]; exact HRN.out, HLD.out, fun j hj => HK.out j (by have := HY.out; omega)⟩
                  go_wp2
                  go_ret
                  exact ⟨by rw [E.out]; rfl, hbel⟩
    · have hq : ((nd : Int) != (n : Int)) = true := by simp; omega
      have E : Hid (bb = false) := bool_noT HBB.out (fun h => by have := h.down; have := HN.out; omega)
      go_wp2
      go_ret
      exact ⟨by rw [E.out]; rfl, B1.out⟩
end Go.Proofs.Ytbcljhafdpnjbbd.L9
