/-
  Contract: impl.partAt tells where two lists of entries part.
  Contracts: slices.Index and slices.Contains of ints.
  Contract: impl.GoodRepl.
  What a world of logs in memory is: small lemmas.
  Rows of memory: cells of structs one behind the other, blocks that are two, what stays where some blocks are written into. Nothing of the program's text is proved here.
  A world of logs in memory of its own: the rows, apart, and what is kept beside them. Nothing of the program's text is proved here.
  What the steps leave in memory: lemmas on worlds of logs. Nothing of the program's text is proved here.
  Contracts: slices.Contains once more, (*impl.Repl).leaderIsDown, (*impl.Repl).isInSync, impl.goodReplStep.
-/
import Derived.Test.YthmekhhfihjclbdBundle1
import Derived.Test.YthmekhhfihjclbdBundle3
import Derived.Deep.RegionHeld3
import Derived.Test.YthmekhhfihjclbdBundle2
import Derived.Deep.DeepCutAuto
import Derived.Deep.QuietTactic
import Derived.BigQuiet
namespace Go.Proofs.Ythmekhhfihjclbd.L7
open Go.RowKit L1
set_option linter.unusedVariables false

set_option maxRecDepth 100000 in
set_option maxHeartbeats 2000000 in
theorem partAt_any (a b : Option Addr) (l m : List En) (n c1 k c2 : Nat) (w : World) (hn : l.length = n) (hk : m.length = k) (hs : SlE w a l) (ht : SlE w b m) (hn2 : n ≤ 1048576) (hk2 : k ≤ 1048576) :
    Calls Try.prog 63 #[.slice a n c1, .slice b k c2] w fun e w' => e = .returned (.int .i64 (prt l m : Int)) ∧ Below w.heap.size w w' := by
  have HS := hide hs
  have HN := hide hn
  have HT := hide ht
  have HK := hide hk
  have HP : Hid (∀ i, (∀ j, j < i → l.getD j eE = m.getD j eE) → i ≤ n → i ≤ k → (i = n ∨ i = k ∨ l.getD i eE ≠ m.getD i eE) → prt l m = i) := fun i h1 h2 h3 h4 => prt_eq i l m h1 (by rw [HN.out]; exact h2) (by rw [HK.out]; exact h3) (by rw [HN.out, HK.out]; exact h4)
  clear hs hn ht hk
  go_enter Try.func63, Try.ntmps63
  go_wp2
  go_loopw [5] (fun i wr => ∃ j : Nat, j ≤ n ∧ j ≤ k ∧ i = .int .i64 j ∧ Hid (∀ q, q < j → l.getD q eE = m.getD q eE) ∧ Below w.heap.size w wr) (fun i _ => n - (intOf i).toNat)
  case atStart => exact ⟨0, Nat.zero_le _, Nat.zero_le _, rfl, fun j hj => absurd hj (Nat.not_lt_zero _), Below.refl _ _⟩
  case round =>
    obtain ⟨j, hjn, hjk, rfl, HJ, hbel⟩ := hrel
    by_cases h1 : j < n
    · have h1I : (j : Int) < (n : Int) := by omega
      by_cases h2 : j < k
      · have h2I : (j : Int) < (k : Int) := by omega
        obtain ⟨b1, o1, rfl, p1, p2⟩ := HS.out j (by rw [HN.out]; exact h1)
        obtain ⟨b2, o2, rfl, p3, p4⟩ := HT.out j (by rw [HK.out]; exact h2)
        have g1 := (hbel.cell (p := ⟨b1, o1 + j * 2, none⟩) (blk_lt p1)).trans p1
        have g2 := (hbel.cell (p := ⟨b1, o1 + j * 2 + 1, none⟩) (blk_lt p2)).trans p2
        have g3 := (hbel.cell (p := ⟨b2, o2 + j * 2, none⟩) (blk_lt p3)).trans p3
        have g4 := (hbel.cell (p := ⟨b2, o2 + j * 2 + 1, none⟩) (blk_lt p4)).trans p4
        have hj0 : (0 : Int) ≤ (j : Int) := by omega
        obtain ⟨x, hx⟩ : ∃ x, x = (l.getD j eE).1 := ⟨_, rfl⟩
        obtain ⟨y, hy⟩ : ∃ y, y = (l.getD j eE).2 := ⟨_, rfl⟩
        obtain ⟨u, hu⟩ : ∃ u, u = (m.getD j eE).1 := ⟨_, rfl⟩
        obtain ⟨v, hv⟩ : ∃ v, v = (m.getD j eE).2 := ⟨_, rfl⟩
        rw [← hx] at g1
        rw [← hy] at g2
        rw [← hu] at g3
        rw [← hv] at g4
        have HXY : Hid (l.getD j eE = (x, y)) := by show _ = _; rw [hx, hy]
        have HUV : Hid (m.getD j eE = (u, v)) := by show _ = _; rw [hu, hv]
        have B0 := hide hbel
        clear p1 p2 p3 p4 hx hy hu hv hbel
        by_cases e1 : x = u
        · subst e1
          have f1 : (x == x) = true := by simp
          by_cases e2 : y = v
          · subst e2
            have f2 : (y.toList == y.toList) = true := by simp
            have HJ2 : Hid (∀ q, q < j + 1 → l.getD q eE = m.getD q eE) := fun q hq => by
              by_cases e : q = j
              · rw [e, HXY.out, HUV.out]
              · exact HJ.out q (by omega)
            go_wp2
            go_quiet (fail)
            go_wp2
            go_roundw
            case rel => exact ⟨j + 1, by omega, by omega, by go_num, HJ2.out, below_dN B0.out _⟩
            case measure => simp [intOf]; omega
          · have f2 : (y.toList == v.toList) = false := text_ne e2
            have E : Hid (prt l m = j) := HP.out j HJ.out (by omega) (by omega) (.inr (.inr (by rw [HXY.out, HUV.out]; intro h; exact e2 (congrArg Prod.snd h))))
            clear e2
            go_wp2
            go_quiet (fail)
            go_wp2
            go_ret
            exact ⟨by rw [E.out]; rfl, below_dN B0.out _⟩
        · have f1 : (x == u) = false := by simpa using e1
          have E : Hid (prt l m = j) := HP.out j HJ.out (by omega) (by omega) (.inr (.inr (by rw [HXY.out, HUV.out]; intro h; exact e1 (congrArg Prod.fst h))))
          clear e1
          go_wp2
          go_quiet (fail)
          go_wp2
          go_ret
          exact ⟨by rw [E.out]; rfl, below_dN B0.out _⟩
      · have h2I : decide ((j : Int) < (k : Int)) = false := by simp; omega
        have E : Hid (prt l m = j) := HP.out j HJ.out (by omega) (by omega) (.inr (.inl (by omega)))
        go_wp2
        go_quiet (fail)
        go_wp2
        go_ret
        exact ⟨by rw [E.out]; rfl, below_dN hbel _⟩
    · have h1I : decide ((j : Int) < (n : Int)) = false := by simp; omega
      have E : Hid (prt l m = j) := HP.out j HJ.out (by omega) (by omega) (.inl (by omega))
      go_wp2
      go_quiet (fail)
      go_wp2
      go_ret
      exact ⟨by rw [E.out]; rfl, below_dN hbel _⟩
end Go.Proofs.Ythmekhhfihjclbd.L7

namespace Go.Proofs.Ythmekhhfihjclbd.L1
open Go.RowKit
set_option linter.unusedVariables false

set_option maxRecDepth 100000 in
set_option maxHeartbeats 1000000 in
theorem index_any (a : Option Addr) (xs : List Int) (n cap : Nat) (o : Int) (w : World) (hn : xs.length = n) (hs : Sl w a xs) (hn2 : n ≤ 1048576) :
    Calls Try.prog 79 #[.slice a n cap, .int .i64 o] w fun e w' => (∃ k : Int, e = .returned (.int .i64 k) ∧ (0 ≤ k ↔ o ∈ xs)) ∧ w = w' := by
  have HS := hide hs
  have HN := hide hn
  clear hs hn
  go_enter Try.func79, Try.ntmps79
  go_wp2
  go_loop [8] (fun i => ∃ k : Nat, k ≤ n ∧ i = .int .i64 k ∧ Hid (∀ j, j < k → xs.getD j 0 ≠ o)) (fun i => n - (intOf i).toNat)
  case atStart => exact ⟨0, Nat.zero_le _, rfl, fun j hj => absurd hj (Nat.not_lt_zero _)⟩
  case round =>
    obtain ⟨k, hk, rfl, HJ⟩ := hrel
    by_cases hlt : k < n
    · obtain ⟨b, off, rfl, hc⟩ := HS.out k (by rw [HN.out]; exact hlt)
      have hltI : (k : Int) < (n : Int) := by omega
      obtain ⟨x, hx⟩ : ∃ x, x = xs.getD k 0 := ⟨_, rfl⟩
      rw [← hx] at hc
      have HX := hide hx.symm
      clear hx
      by_cases hle : o = x
      · subst hle
        have hmem : o ∈ xs := by
          have h1 := HX.out
          have h2 : k < xs.length := by rw [HN.out]; exact hlt
          simp only [List.getD, List.getElem?_eq_getElem h2, Option.getD_some] at h1
          rw [← h1]
          exact List.getElem_mem h2
        have HM := hide hmem
        clear hmem
        go_wp2
        go_ret
        exact ⟨⟨(k : Int), rfl, by simp [HM.out]⟩, rfl⟩
      · have hle' : (o == x) = false := by simpa using hle
        have HLE := hide hle
        clear hle
        go_wp2
        go_round
        case rel =>
          refine ⟨k + 1, by omega, by go_num, ?_⟩
          intro j hj
          by_cases e : j = k
          · subst e; rw [HX.out]; exact fun h => HLE.out h.symm
          · exact HJ.out j (by omega)
        case measure => simp [intOf]; omega
    · have hltI : ¬ (k : Int) < (n : Int) := by omega
      have hmem : o ∉ xs := fun h => by
        obtain ⟨j, hj, e⟩ := List.getElem_of_mem h
        refine HJ.out j (by rw [HN.out] at hj; omega) ?_
        simp only [List.getD, List.getElem?_eq_getElem hj, Option.getD_some]
        exact e
      have HM := hide hmem
      clear hmem
      go_wp2
      go_ret
      exact ⟨⟨-1, rfl, by simp [HM.out]⟩, rfl⟩
set_option maxRecDepth 100000 in
set_option maxHeartbeats 1000000 in
theorem contains_any (a : Option Addr) (xs : List Int) (n cap : Nat) (o : Int) (w : World) (hn : xs.length = n) (hs : Sl w a xs) (hn2 : n ≤ 1048576) (bb : Bool) (hbb : bb = true ↔ o ∈ xs) :
    Calls Try.prog 62 #[.slice a n cap, .int .i64 o] w fun e w' => e = .returned (.bool bb) ∧ Below w.heap.size w w' := by
  have C := hide (index_any a xs n cap o w hn hs hn2)
  have HBB := hide hbb
  clear hbb hs hn
  go_enter Try.func62, Try.ntmps62
  go_wp2_with fail
  refine C.out.mono ?_
  rintro e w1 ⟨⟨k, rfl, hk⟩, rfl⟩
  have hb : bb = decide (0 ≤ k) := by
    rw [Bool.eq_iff_iff, HBB.out]; simp [hk]
  have HB := hide hb
  clear hk hb
  go_wp2
  go_ret
  exact ⟨by rw [HB.out]; rfl, Below.refl _ _⟩
end Go.Proofs.Ythmekhhfihjclbd.L1

namespace Go.Proofs.Ythmekhhfihjclbd.L9
open Go.RowKit L1 L7
set_option linter.unusedVariables false

/-- A world of logs lies in memory. -/
structure RpS (w : World) (ag ay ac : Option Addr) (G : List (List En)) (sy : List Int) (ce : List En) : Prop where
  g : SlG w ag G
  y : Sl w ay sy
  c : SlE w ac ce
theorem RpS.below {w w' : World} {ag ay ac : Option Addr} {G : List (List En)} {sy : List Int} {ce : List En} (h : RpS w ag ay ac G sy ce) (hb : Below w.heap.size w w') : RpS w' ag ay ac G sy ce := ⟨h.g.below hb, h.y.below hb, h.c.below hb⟩
/-- How much there is of it. -/
structure RpZ (G : List (List En)) (sy : List Int) (ce : List En) (n nd ny nc : Nat) : Prop where
  hn : G.length = n
  hy : sy.length = ny
  hc : ce.length = nc
  n2 : n ≤ 1048576
  d2 : nd ≤ 1048576
  y2 : ny ≤ 1048576
  c2 : nc ≤ 1048576
  ls : ∀ i, i < G.length → (G.getD i []).length ≤ 1048576
  tx : TxG G
/-- It as a value, and as a block. -/
abbrev rpV (ag : Option Addr) (n cg : Nat) (ad : Option Addr) (nd cd : Nat) (ld ep : Int) (ay : Option Addr) (ny cy : Nat) (ac : Option Addr) (nc cc : Nat) : Value := .agg #[.slice ag n cg, .slice ad nd cd, .int .i64 ld, .int .i64 ep, .slice ay ny cy, .slice ac nc cc]
abbrev rpO (ag : Option Addr) (n cg : Nat) (ad : Option Addr) (nd cd : Nat) (ld ep : Int) (ay : Option Addr) (ny cy : Nat) (ac : Option Addr) (nc cc : Nat) : Obj := .cells #[.slice ag n cg, .slice ad nd cd, .int .i64 ld, .int .i64 ep, .slice ay ny cy, .slice ac nc cc] 32 (0, 0)
theorem blk_lt9 {w : World} {p : Addr} {v : Value} (h : w.cell? p = some v) : p.block < w.heap.size := by
  by_cases hb : p.block < w.heap.size
  · exact hb
  · simp [World.cell?, Array.getElem?_eq_none (show w.heap.size ≤ p.block by omega)] at h
theorem keep39 {wa wb W : World} {N : Nat} {p0 p1 p2 : Addr} {v0 v1 v2 : Value} (h : (wa.cell? p0 = some v0 ∧ wa.cell? p1 = some v1 ∧ wa.cell? p2 = some v2) ∧ Below N W wa) (hb : Below wa.heap.size wa wb) (hN : N ≤ W.heap.size) : (wb.cell? p0 = some v0 ∧ wb.cell? p1 = some v1 ∧ wb.cell? p2 = some v2) ∧ Below N W wb := by
  obtain ⟨⟨h0, h1, h2⟩, hz⟩ := h
  exact ⟨⟨(hb.cell (blk_lt9 h0)).trans h0, (hb.cell (blk_lt9 h1)).trans h1, (hb.cell (blk_lt9 h2)).trans h2⟩, hz.trans (hb.mono (Nat.le_trans hN hz.size))⟩
open Classical in
set_option maxRecDepth 100000 in
set_option maxHeartbeats 4000000 in
theorem goodRepl_any (ag : Option Addr) (n cg : Nat) (ad : Option Addr) (nd cd : Nat) (ld ep : Int) (ay : Option Addr) (ny cy : Nat) (ac : Option Addr) (nc cc : Nat) (G : List (List En)) (sy : List Int) (ce : List En) (w : World) (hz : RpZ G sy ce n nd ny nc) (hs : RpS w ag ay ac G sy ce) (bb : Bool) (hbb : bb = true ↔ GoodR G nd ld ep sy ce) :
    Calls Try.prog 21 #[rpV ag n cg ad nd cd ld ep ay ny cy ac nc cc] w fun e w' => e = .returned (.bool bb) ∧ Below w.heap.size w w' := by
  obtain ⟨hn, hy, hc, n2, d2, y2, c2, hls, htx⟩ := hz
  obtain ⟨b1, hb1⟩ : ∃ b : Bool, b = true ↔ GoodLs G := ⟨decide (GoodLs G), by simp⟩
  obtain ⟨b2, hb2⟩ : ∃ b : Bool, b = true ↔ L8.RN (n : Int) sy := ⟨decide (L8.RN (n : Int) sy), by simp⟩
  obtain ⟨b3, hb3⟩ : ∃ b : Bool, b = true ↔ ld ∈ sy := ⟨decide (ld ∈ sy), by simp⟩
  have BX := hide ((Below.refl w.heap.size w).alloc (Nat.le_refl _) (rpO ag n cg ad nd cd ld ep ay ny cy ac nc cc))
  have C1 := hide (fun wx (hb : Below w.heap.size w wx) => goodReplLogs_any ag G n cg wx hn (hs.g.below hb) n2 hls htx b1 hb1)
  have C2 := hide (fun wx (hb : Below w.heap.size w wx) => L8.risingNodes_any ay sy ny cy (n : Int) wx hy (hs.y.below hb) y2 b2 hb2)
  have C3 := hide (fun wx (hb : Below w.heap.size w wx) => contains_any ay sy ny cy ld wx hy (hs.y.below hb) y2 b3 hb3)
  have HBB := hide hbb
  have HS := hide hs
  have HN := hide hn
  have HY := hide hy
  have HC := hide hc
  have HLS := hide hls
  have HB1 := hide hb1
  have HB2 := hide hb2
  have HB3 := hide hb3
  clear hbb hs hn hy hc hls htx hb1 hb2 hb3
  go_enter Try.func21, Try.ntmps21
  go_wp2_with fail
  refine (C1.out _ BX.out).mono ?_
  rintro e w1 ⟨rfl, hb⟩
  have G1 := hide ((hb.block w.heap.size (by simp)).trans (blk_new9 _ _))
  have B1 := hide (BX.out.trans (hb.mono BX.out.size))
  obtain ⟨k0, k1, k2, k3, k4, k5⟩ := blk6 G1.out
  clear hb C1 BX
  cases b1 with
  | false =>
    have E : Hid (bb = false) := bool_noT HBB.out (fun h => by have := HB1.out.2 h.logs; cases this)
    go_wp2
    go_ret
    exact ⟨by rw [E.out]; rfl, B1.out⟩
  | true =>
    have hl1 := HB1.out.1 (by first | rfl | trivial)
    have hn1 : 1 ≤ n := by have := hl1.1.1; have := HN.out; omega
    have hn5 : n ≤ 5 := by have := hl1.1.2; have := HN.out; omega
    have HL1 := hide hl1
    clear hl1
    by_cases hnd : nd = n
    · subst hnd
      by_cases he0 : ep < 1
      · have E : Hid (bb = false) := bool_noT HBB.out (fun h => by have := h.e0; omega)
        go_wp2
        go_ret
        exact ⟨by rw [E.out]; rfl, B1.out⟩
      · by_cases he1 : 1000 < ep
        · have E : Hid (bb = false) := bool_noT HBB.out (fun h => by have := h.e1; omega)
          go_wp2
          go_ret
          exact ⟨by rw [E.out]; rfl, B1.out⟩
        · go_wp2_with fail
          refine (C2.out _ B1.out).mono ?_
          rintro e w2 ⟨rfl, rfl⟩
          cases b2 with
          | false =>
            have E : Hid (bb = false) := bool_noT HBB.out (fun h => by have h2 := h.rise; rw [HN.out] at h2; have := HB2.out.2 h2; cases this)
            go_wp2
            go_ret
            exact ⟨by rw [E.out]; rfl, B1.out⟩
          | true =>
            have HRN := hide (HB2.out.1 (by first | rfl | trivial))
            go_wp2_with fail
            refine (C3.out _ B1.out).mono ?_
            rintro e w3 ⟨rfl, hb⟩
            have G3 := hide ((hb.block w.heap.size (Array.getElem?_eq_some_iff.1 G1.out).1).trans G1.out)
            have B3 := hide (B1.out.trans (hb.mono B1.out.size))
            clear hb k0 k1 k2 k3 k4 k5
            obtain ⟨k0, k1, k2, k3, k4, k5⟩ := blk6 G3.out
            cases b3 with
            | false =>
              have E : Hid (bb = false) := bool_noT HBB.out (fun h => by have := HB3.out.2 h.lead; cases this)
              go_wp2
              go_ret
              exact ⟨by rw [E.out]; rfl, B3.out⟩
            | true =>
              have HLD := hide (HB3.out.1 (by first | rfl | trivial))
              clear C2 C3 B1 G1
              go_wp2
              go_loopw [46] (fun i wr => ∃ k : Nat, k ≤ ny ∧ i = .int .i64 k ∧ Hid (∀ j, j < k → prt (gg G (sy.getD j 0)) ce = ce.length) ∧ Hid (wr.heap[w.heap.size]? = some (rpO ag nd cg ad nd cd ld ep ay ny cy ac nc cc)) ∧ Below w.heap.size w wr) (fun i _ => ny - (intOf i).toNat)
              case atStart => exact ⟨0, Nat.zero_le _, rfl, fun j hj => absurd hj (Nat.not_lt_zero _), G3, B3.out⟩
              case round =>
                obtain ⟨k, hk, rfl, HK, GR, hbel⟩ := hrel
                clear k0 k1 k2 k3 k4 k5
                obtain ⟨k0, k1, k2, k3, k4, k5⟩ := blk6 GR.out
                by_cases hlt : k < ny
                · obtain ⟨by_, oy, rfl, hcy⟩ := (HS.out.y.below hbel) k (by rw [HY.out]; exact hlt)
                  have hrn := (HRN.out k (by rw [HY.out]; exact hlt)).1
                  obtain ⟨x, hx⟩ : ∃ x, x = sy.getD k 0 := ⟨_, rfl⟩
                  rw [← hx] at hcy hrn
                  obtain ⟨b, off, rfl, i, ai, ci, hxi, hi, hcl, hsl⟩ := (HS.out.g.below hbel).at' x hrn.1 (by rw [HN.out]; exact hrn.2)
                  subst hxi
                  have hll := HLS.out i hi
                  obtain ⟨l, hl⟩ : ∃ l, l = G.getD i [] := ⟨_, rfl⟩
                  rw [show gg G (i : Int) = l from hl.symm] at hcl hsl
                  rw [← hl] at hll
                  obtain ⟨m, hm⟩ : ∃ m, m = l.length := ⟨_, rfl⟩
                  rw [← hm] at hcl hll
                  have hiI : (i : Int) < (nd : Int) := by have := HN.out; omega
                  have hi0 : (0 : Int) ≤ (i : Int) := by omega
                  have hltI : (k : Int) < (ny : Int) := by omega
                  have hpl := prt_le l ce
                  have hcs := HS.out.c.below hbel
                  have C := hide (fun wx (hb : Below wr.heap.size wr wx) => partAt_any ai ac l ce m ci nc cc wx hm.symm HC.out (hsl.below hb) (hcs.below hb) hll c2)
                  obtain ⟨p, hp⟩ : ∃ p, p = prt l ce := ⟨_, rfl⟩
                  rw [← hp] at C hpl
                  have hpc : p ≤ nc := by have := HC.out; omega
                  have HP := hide hp
                  have HX := hide hx
                  have HL := hide hl
                  have BB := hide hbel
                  clear hrn hp hx hl hm hpl hsl hcs hbel
                  by_cases hpn : p < nc
                  · have hpI : (p : Int) < (nc : Int) := by omega
                    have E : Hid (bb = false) := bool_noT HBB.out (fun h => by
                      have h2 := h.cert k (by rw [HY.out]; exact hlt)
                      rw [← HX.out, show gg G (i : Int) = l from HL.out.symm, ← HP.out, HC.out] at h2
                      omega)
                    go_wp2
                    go_region_held3 (fun wx => (wx.cell? ⟨w.heap.size, 0, none⟩ = some (.slice (some ⟨b, off, none⟩) nd cg) ∧ wx.cell? ⟨w.heap.size, 5, none⟩ = some (.slice ac nc cc) ∧ wx.cell? ⟨b, off + i, none⟩ = some (.slice ai m ci)) ∧ Below wr.heap.size wr wx) (first | exact ⟨⟨k0, k5, hcl⟩, (Below.refl _ _).drew⟩ | exact keep39 (by assumption) (by assumption) (Nat.le_refl _)) ((go_at_call 63; refine (C.out _ (by first | exact And.right (by assumption) | exact (Below.refl _ _).drew | exact Below.refl _ _)).mono ?_; rintro e w4 ⟨rfl, hb⟩))
                    rename_i hHeld
                    have B4 := hide (BB.out.trans (hHeld.2.mono BB.out.size))
                    clear hHeld
                    go_wp2
                    go_ret
                    exact ⟨by rw [E.out]; rfl, B4.out⟩
                  · have hpI : ¬ (p : Int) < (nc : Int) := by omega
                    go_wp2
                    go_region_held3 (fun wx => (wx.cell? ⟨w.heap.size, 0, none⟩ = some (.slice (some ⟨b, off, none⟩) nd cg) ∧ wx.cell? ⟨w.heap.size, 5, none⟩ = some (.slice ac nc cc) ∧ wx.cell? ⟨b, off + i, none⟩ = some (.slice ai m ci)) ∧ Below wr.heap.size wr wx) (first | exact ⟨⟨k0, k5, hcl⟩, (Below.refl _ _).drew⟩ | exact keep39 (by assumption) (by assumption) (Nat.le_refl _)) ((go_at_call 63; refine (C.out _ (by first | exact And.right (by assumption) | exact (Below.refl _ _).drew | exact Below.refl _ _)).mono ?_; rintro e w4 ⟨rfl, hb⟩))
                    rename_i hHeld
                    have B4 := hide (BB.out.trans (hHeld.2.mono BB.out.size))
                    have G4 := hide ((hHeld.2.block w.heap.size (Array.getElem?_eq_some_iff.1 GR.out).1).trans GR.out)
                    clear hHeld
                    go_wp2
                    go_roundw
                    case rel =>
                      refine ⟨k + 1, by omega, by go_num, ?_, G4, B4.out⟩
                      intro j hj
                      by_cases e : j = k
                      · rw [e, ← HX.out, show gg G (i : Int) = l from HL.out.symm, ← HP.out, HC.out]
                        omega
                      · exact HK.out j (by omega)
                    case measure => simp [intOf]; omega
                · obtain rfl : k = ny := by omega
                  have hltI : ¬ (k : Int) < (k : Int) := by omega
                  have E : Hid (bb = true) := HBB.out.2 ⟨HL1.out, HN.out.symm, by omega, by omega, by rw [HN.out]; exact HRN.out, HLD.out, fun j hj => HK.out j (by have := HY.out; omega)⟩
                  go_wp2
                  go_ret
                  exact ⟨by rw [E.out]; rfl, hbel⟩
    · have hq : ((nd : Int) != (n : Int)) = true := by simp; omega
      have E : Hid (bb = false) := bool_noT HBB.out (fun h => by have := h.down; have := HN.out; omega)
      go_wp2
      go_ret
      exact ⟨by rw [E.out]; rfl, B1.out⟩
end Go.Proofs.Ythmekhhfihjclbd.L9

namespace Go.Proofs.Ythmekhhfihjclbd.L9
open Go.RowKit L1 L7
set_option linter.unusedVariables false


/-- A world of logs with who is down. -/
structure RpF (w : World) (ag ad ay ac : Option Addr) (G : List (List En)) (dn : List Bool) (sy : List Int) (ce : List En) : Prop where
  s : RpS w ag ay ac G sy ce
  d : SlB w ad dn
theorem RpF.below {w w' : World} {ag ad ay ac : Option Addr} {G : List (List En)} {dn : List Bool} {sy : List Int} {ce : List En} (h : RpF w ag ad ay ac G dn sy ce) (hb : Below w.heap.size w w') : RpF w' ag ad ay ac G dn sy ce := ⟨h.s.below hb, h.d.below hb⟩
/-- The block of one that came in. -/
theorem cell_set9 {w : World} {p q : Addr} {v : Value} (h : q.block ≠ p.block) : (w.setCell p v).cell? q = w.cell? q := by
  have := Below.heap_setCell w p v q.block h
  simp only [World.cell?, this]
theorem own_set9 {w : World} {base n c : Nat} {t : TypeId} {v : Value} {ys : List Value} (h : w.ownsRow base t c v n ys) (p : Addr) (u : Value) (hp : p.block < base) : (w.setCell p u).ownsRow base t c v n ys := by
  refine ⟨h.1, ?_⟩
  rcases h.2 with h0 | ⟨g, cap, cur, rfl, hbg, hg, r⟩
  · exact .inl h0
  · exact .inr ⟨g, cap, cur, rfl, hbg, by rw [Below.heap_setCell _ _ _ _ (by omega)]; exact hg, r⟩
end Go.Proofs.Ythmekhhfihjclbd.L9

namespace Go.Proofs.Ythmekhhfihjclbd.L8
open Go.RowKit L1 L4
set_option linter.unusedVariables false

theorem blk_ltA {w : World} {p : Addr} {v : Value} (h : w.cell? p = some v) : p.block < w.heap.size := by
  by_cases hb : p.block < w.heap.size
  · exact hb
  · simp [World.cell?, Array.getElem?_eq_none (show w.heap.size ≤ p.block by omega)] at h
theorem blk_new (w : World) (o : Obj) : (w.alloc o).heap[w.heap.size]? = some o := by
  show (w.heap.push _)[w.heap.size]? = _
  simp
theorem own_lt {w : World} {base n c : Nat} {t : TypeId} {v : Value} {ys : List Value} (h : w.ownsRow base t c v n ys) (b : Nat) (hb : v.ownBlock = some b) : base ≤ b ∧ b < w.heap.size := by
  rcases h.2 with ⟨rfl, _⟩ | ⟨g, cap, cur, rfl, hbg, hg, r⟩
  · simp [Value.ownBlock] at hb
  · simp [Value.ownBlock] at hb
    subst hb
    exact ⟨hbg, (Array.getElem?_eq_some_iff.1 hg).1⟩
/-- Blocks of two types are two. -/
theorem own_two {w : World} {b1 b2 n1 n2 c1 c2 : Nat} {t1 t2 : TypeId} {v1 v2 : Value} {y1 y2 : List Value} (h1 : w.ownsRow b1 t1 c1 v1 n1 y1) (h2 : w.ownsRow b2 t2 c2 v2 n2 y2) (ht : t1 ≠ t2) (g : Nat) (e1 : v1.ownBlock = some g) : v2.ownBlock ≠ some g := by
  intro e2
  rcases h1.2 with ⟨rfl, _⟩ | ⟨g1, cap1, cur1, rfl, _, hg1, _⟩
  · simp [Value.ownBlock] at e1
  · rcases h2.2 with ⟨rfl, _⟩ | ⟨g2, cap2, cur2, rfl, _, hg2, _⟩
    · simp [Value.ownBlock] at e2
    · simp [Value.ownBlock] at e1 e2
      subst e1
      subst e2
      rw [hg1] at hg2
      simp at hg2
      exact ht hg2.2
theorem own_kept {w w' : World} {base c n : Nat} {t : TypeId} {v : Value} {xs : List Value} {r : Option Nat} (h : w.ownsRow base t c v n xs) (hg : w.grownBy w' r) (hne : ∀ g, v.ownBlock = some g → r ≠ some g) : w'.ownsRow base t c v n xs := by
  refine ⟨h.1, ?_⟩
  rcases h.2 with h0 | ⟨g, cap, cur, hv, hb, hh, rest⟩
  · exact .inl h0
  · refine .inr ⟨g, cap, cur, hv, hb, ?_, rest⟩
    rw [hg.block g (Array.getElem?_eq_some_iff.1 hh).1 (fun e => hne g (by rw [hv]; rfl) e.symm)]
    exact hh
theorem own_setC {w : World} {base n c : Nat} {t : TypeId} {v : Value} {ys : List Value} (h : w.ownsRow base t c v n ys) (p : Addr) (u : Value) (hp : p.block < base) : (w.setCell p u).ownsRow base t c v n ys := by
  refine ⟨h.1, ?_⟩
  rcases h.2 with h0 | ⟨g, cap, cur, rfl, hbg, hg, r⟩
  · exact .inl h0
  · exact .inr ⟨g, cap, cur, rfl, hbg, by rw [Below.heap_setCell _ _ _ _ (by omega)]; exact hg, r⟩
theorem grown_below {w w' : World} {r : Option Nat} (hb : Below w.heap.size w w') : w.grownBy w' r := ⟨hb.os, hb.tape, hb.output, hb.size, fun k hk _ => hb.block k hk⟩
theorem grown_cell {w w' : World} {r : Option Nat} (hg : w.grownBy w' r) (p : Addr) {v : Value} (h : w.cell? p = some v) (hne : some p.block ≠ r) : w'.cell? p = some v := by
  have := hg.block p.block (blk_ltA h) hne
  rw [← h]
  simp only [World.cell?, this]
theorem sl_grown {w w' : World} {r : Option Nat} {a : Option Addr} {xs : List Int} (h : Sl w a xs) (hg : w.grownBy w' r) (hne : ∀ x, a = some x → some x.block ≠ r) : Sl w' a xs := fun i hi => by
  obtain ⟨b, off, ha, hc⟩ := h i hi
  exact ⟨b, off, ha, grown_cell hg ⟨b, off + i, none⟩ hc (hne ⟨b, off, none⟩ ha)⟩
/-- Only blocks between two numbers, and new ones, are written into. -/
structure Only (lo hi : Nat) (w w' : World) : Prop where
  os : w'.os = w.os
  tape : w'.tape = w.tape
  output : w'.output = w.output
  size : w.heap.size ≤ w'.heap.size
  block : ∀ k, k < w.heap.size → (k < lo ∨ hi ≤ k) → w'.heap[k]? = w.heap[k]?
theorem Only.refl (lo hi : Nat) (w : World) : Only lo hi w w := ⟨rfl, rfl, rfl, Nat.le_refl _, fun _ _ _ => rfl⟩
theorem Only.trans {lo hi : Nat} {w w1 w2 : World} (h : Only lo hi w w1) (h2 : Only lo hi w1 w2) : Only lo hi w w2 :=
  ⟨h2.os.trans h.os, h2.tape.trans h.tape, h2.output.trans h.output, Nat.le_trans h.size h2.size, fun k hk ho => (h2.block k (Nat.lt_of_lt_of_le hk h.size) ho).trans (h.block k hk ho)⟩
theorem Only.of_below {lo hi : Nat} {w w' : World} (hb : Below w.heap.size w w') : Only lo hi w w' := ⟨hb.os, hb.tape, hb.output, hb.size, fun k hk _ => hb.block k hk⟩
theorem Only.cell {lo hi : Nat} {w w' : World} (h : Only lo hi w w') {p : Addr} {v : Value} (hc : w.cell? p = some v) (ho : p.block < lo ∨ hi ≤ p.block) : w'.cell? p = some v := by
  have := h.block p.block (blk_ltA hc) ho
  rw [← hc]
  simp only [World.cell?, this]
theorem Only.below {lo hi : Nat} {w w' : World} (h : Only lo hi w w') (hl : lo ≤ w.heap.size) : Below lo w w' := ⟨h.os, h.tape, h.output, h.size, fun k hk => h.block k (by omega) (.inl hk)⟩
theorem Only.grown {lo hi : Nat} {w w1 w2 : World} {r : Option Nat} (h : Only lo hi w w1) (hg : w1.grownBy w2 r) (hr : ∀ g, r = some g → lo ≤ g ∧ g < hi) : Only lo hi w w2 := by
  refine ⟨hg.os.trans h.os, hg.tape.trans h.tape, hg.output.trans h.output, Nat.le_trans h.size hg.size, fun k hk ho => (hg.block k (Nat.lt_of_lt_of_le hk h.size) (fun e => ?_)).trans (h.block k hk ho)⟩
  have := hr k e.symm
  omega
theorem Only.row {lo hi : Nat} {w w' : World} (h : Only lo hi w w') {base n c : Nat} {t : TypeId} {v : Value} {xs : List Value} (ho : w.ownsRow base t c v n xs) (hb : hi ≤ base) : w'.ownsRow base t c v n xs := by
  refine ⟨ho.1, ?_⟩
  rcases ho.2 with h0 | ⟨g, cap, cur, rfl, hbg, hg, r⟩
  · exact .inl h0
  · exact .inr ⟨g, cap, cur, rfl, hbg, by rw [h.block g (Array.getElem?_eq_some_iff.1 hg).1 (.inr (by omega))]; exact hg, r⟩

/-! Cells of structs, one behind the other. -/
theorem flat_len {α : Type} (f : α → List Value) (c : Nat) (hf : ∀ x, (f x).length = c) : ∀ L : List α, (L.flatMap f).length = L.length * c
  | [] => by simp
  | x :: L => by rw [List.flatMap_cons, List.length_append, hf, flat_len f c hf L, List.length_cons, Nat.succ_mul]; omega
theorem flat_get {α : Type} (f : α → List Value) (c : Nat) (hf : ∀ x, (f x).length = c) (d : α) : ∀ (L : List α) (i j : Nat), i < L.length → j < c → (L.flatMap f)[i * c + j]? = (f (L.getD i d))[j]?
  | [], i, j, h, _ => by simp at h
  | x :: L, 0, j, _, hj => by
    rw [List.flatMap_cons, Nat.zero_mul, Nat.zero_add, List.getElem?_append_left (by rw [hf]; exact hj)]
    rfl
  | x :: L, i + 1, j, h, hj => by
    have ih := flat_get f c hf d L i j (by simpa using h) hj
    rw [List.flatMap_cons, List.getElem?_append_right (by rw [hf, Nat.succ_mul]; omega), hf]
    rw [show (i + 1) * c + j - c = i * c + j by rw [Nat.succ_mul]; omega, ih]
    rfl
theorem flat_set {α : Type} (f : α → List Value) (c : Nat) (hf : ∀ x, (f x).length = c) (d : α) : ∀ (L : List α) (i j : Nat) (u : Value) (y : α), i < L.length → j < c → f y = (f (L.getD i d)).set j u → (L.flatMap f).set (i * c + j) u = (L.set i y).flatMap f
  | [], i, j, u, y, h, _, _ => by simp at h
  | x :: L, 0, j, u, y, _, hj, e => by
    have e' : f y = (f x).set j u := e
    rw [List.flatMap_cons, Nat.zero_mul, Nat.zero_add, List.set_append_left _ _ (by rw [hf]; exact hj), List.set_cons_zero, List.flatMap_cons, e']
  | x :: L, i + 1, j, u, y, h, hj, e => by
    have ih := flat_set f c hf d L i j u y (by simpa using h) hj (by simpa using e)
    rw [List.flatMap_cons, List.set_append_right _ _ (by rw [hf, Nat.succ_mul]; omega), hf]
    rw [show (i + 1) * c + j - c = i * c + j by rw [Nat.succ_mul]; omega, ih, List.set_cons_succ, List.flatMap_cons]
theorem getD_self {α : Type} (M : List α) (k : Nat) (p d : α) (h : k < M.length) : (M.set k p).getD k d = p := by simp [List.getD, h]
theorem getD_ne {α : Type} (M : List α) (k i : Nat) (p d : α) (h : i ≠ k) : (M.set k p).getD i d = M.getD i d := by simp [List.getD, Ne.symm h]
theorem set_twice {α : Type} (M : List α) (k : Nat) (p q : α) : (M.set k p).set k q = M.set k q := by simp
theorem keep2 {wa wb W : World} {N : Nat} {p0 p1 : Addr} {v0 v1 : Value} (h : (wa.cell? p0 = some v0 ∧ wa.cell? p1 = some v1) ∧ Below N W wa) (hb : Below wa.heap.size wa wb) (hN : N ≤ W.heap.size) : (wb.cell? p0 = some v0 ∧ wb.cell? p1 = some v1) ∧ Below N W wb := by
  obtain ⟨⟨h0, h1⟩, hz⟩ := h
  exact ⟨⟨(hb.cell (blk_ltA h0)).trans h0, (hb.cell (blk_ltA h1)).trans h1⟩, hz.trans (hb.mono (Nat.le_trans hN hz.size))⟩
theorem keep3 {wa wb W : World} {N : Nat} {p0 p1 p2 : Addr} {v0 v1 v2 : Value} (h : (wa.cell? p0 = some v0 ∧ wa.cell? p1 = some v1 ∧ wa.cell? p2 = some v2) ∧ Below N W wa) (hb : Below wa.heap.size wa wb) (hN : N ≤ W.heap.size) : (wb.cell? p0 = some v0 ∧ wb.cell? p1 = some v1 ∧ wb.cell? p2 = some v2) ∧ Below N W wb := by
  obtain ⟨⟨h0, h1, h2⟩, hz⟩ := h
  exact ⟨⟨(hb.cell (blk_ltA h0)).trans h0, (hb.cell (blk_ltA h1)).trans h1, (hb.cell (blk_ltA h2)).trans h2⟩, hz.trans (hb.mono (Nat.le_trans hN hz.size))⟩
theorem keep4 {wa wb W : World} {N : Nat} {p0 p1 p2 p3 : Addr} {v0 v1 v2 v3 : Value} (h : (wa.cell? p0 = some v0 ∧ wa.cell? p1 = some v1 ∧ wa.cell? p2 = some v2 ∧ wa.cell? p3 = some v3) ∧ Below N W wa) (hb : Below wa.heap.size wa wb) (hN : N ≤ W.heap.size) : (wb.cell? p0 = some v0 ∧ wb.cell? p1 = some v1 ∧ wb.cell? p2 = some v2 ∧ wb.cell? p3 = some v3) ∧ Below N W wb := by
  obtain ⟨⟨h0, h1, h2, h3⟩, hz⟩ := h
  exact ⟨⟨(hb.cell (blk_ltA h0)).trans h0, (hb.cell (blk_ltA h1)).trans h1, (hb.cell (blk_ltA h2)).trans h2, (hb.cell (blk_ltA h3)).trans h3⟩, hz.trans (hb.mono (Nat.le_trans hN hz.size))⟩
theorem keep5 {wa wb W : World} {N : Nat} {p0 p1 p2 p3 p4 : Addr} {v0 v1 v2 v3 v4 : Value} (h : (wa.cell? p0 = some v0 ∧ wa.cell? p1 = some v1 ∧ wa.cell? p2 = some v2 ∧ wa.cell? p3 = some v3 ∧ wa.cell? p4 = some v4) ∧ Below N W wa) (hb : Below wa.heap.size wa wb) (hN : N ≤ W.heap.size) : (wb.cell? p0 = some v0 ∧ wb.cell? p1 = some v1 ∧ wb.cell? p2 = some v2 ∧ wb.cell? p3 = some v3 ∧ wb.cell? p4 = some v4) ∧ Below N W wb := by
  obtain ⟨⟨h0, h1, h2, h3, h4⟩, hz⟩ := h
  exact ⟨⟨(hb.cell (blk_ltA h0)).trans h0, (hb.cell (blk_ltA h1)).trans h1, (hb.cell (blk_ltA h2)).trans h2, (hb.cell (blk_ltA h3)).trans h3, (hb.cell (blk_ltA h4)).trans h4⟩, hz.trans (hb.mono (Nat.le_trans hN hz.size))⟩
theorem keep6 {wa wb W : World} {N : Nat} {p0 p1 p2 p3 p4 p5 : Addr} {v0 v1 v2 v3 v4 v5 : Value} (h : (wa.cell? p0 = some v0 ∧ wa.cell? p1 = some v1 ∧ wa.cell? p2 = some v2 ∧ wa.cell? p3 = some v3 ∧ wa.cell? p4 = some v4 ∧ wa.cell? p5 = some v5) ∧ Below N W wa) (hb : Below wa.heap.size wa wb) (hN : N ≤ W.heap.size) : (wb.cell? p0 = some v0 ∧ wb.cell? p1 = some v1 ∧ wb.cell? p2 = some v2 ∧ wb.cell? p3 = some v3 ∧ wb.cell? p4 = some v4 ∧ wb.cell? p5 = some v5) ∧ Below N W wb := by
  obtain ⟨⟨h0, h1, h2, h3, h4, h5⟩, hz⟩ := h
  exact ⟨⟨(hb.cell (blk_ltA h0)).trans h0, (hb.cell (blk_ltA h1)).trans h1, (hb.cell (blk_ltA h2)).trans h2, (hb.cell (blk_ltA h3)).trans h3, (hb.cell (blk_ltA h4)).trans h4, (hb.cell (blk_ltA h5)).trans h5⟩, hz.trans (hb.mono (Nat.le_trans hN hz.size))⟩
theorem keep8 {wa wb W : World} {N : Nat} {p0 p1 p2 p3 p4 p5 p6 p7 : Addr} {v0 v1 v2 v3 v4 v5 v6 v7 : Value} (h : (wa.cell? p0 = some v0 ∧ wa.cell? p1 = some v1 ∧ wa.cell? p2 = some v2 ∧ wa.cell? p3 = some v3 ∧ wa.cell? p4 = some v4 ∧ wa.cell? p5 = some v5 ∧ wa.cell? p6 = some v6 ∧ wa.cell? p7 = some v7) ∧ Below N W wa) (hb : Below wa.heap.size wa wb) (hN : N ≤ W.heap.size) : (wb.cell? p0 = some v0 ∧ wb.cell? p1 = some v1 ∧ wb.cell? p2 = some v2 ∧ wb.cell? p3 = some v3 ∧ wb.cell? p4 = some v4 ∧ wb.cell? p5 = some v5 ∧ wb.cell? p6 = some v6 ∧ wb.cell? p7 = some v7) ∧ Below N W wb := by
  obtain ⟨⟨h0, h1, h2, h3, h4, h5, h6, h7⟩, hz⟩ := h
  exact ⟨⟨(hb.cell (blk_ltA h0)).trans h0, (hb.cell (blk_ltA h1)).trans h1, (hb.cell (blk_ltA h2)).trans h2, (hb.cell (blk_ltA h3)).trans h3, (hb.cell (blk_ltA h4)).trans h4, (hb.cell (blk_ltA h5)).trans h5, (hb.cell (blk_ltA h6)).trans h6, (hb.cell (blk_ltA h7)).trans h7⟩, hz.trans (hb.mono (Nat.le_trans hN hz.size))⟩
theorem keep10 {wa wb W : World} {N : Nat} {p0 p1 p2 p3 p4 p5 p6 p7 p8 p9 : Addr} {v0 v1 v2 v3 v4 v5 v6 v7 v8 v9 : Value} (h : (wa.cell? p0 = some v0 ∧ wa.cell? p1 = some v1 ∧ wa.cell? p2 = some v2 ∧ wa.cell? p3 = some v3 ∧ wa.cell? p4 = some v4 ∧ wa.cell? p5 = some v5 ∧ wa.cell? p6 = some v6 ∧ wa.cell? p7 = some v7 ∧ wa.cell? p8 = some v8 ∧ wa.cell? p9 = some v9) ∧ Below N W wa) (hb : Below wa.heap.size wa wb) (hN : N ≤ W.heap.size) : (wb.cell? p0 = some v0 ∧ wb.cell? p1 = some v1 ∧ wb.cell? p2 = some v2 ∧ wb.cell? p3 = some v3 ∧ wb.cell? p4 = some v4 ∧ wb.cell? p5 = some v5 ∧ wb.cell? p6 = some v6 ∧ wb.cell? p7 = some v7 ∧ wb.cell? p8 = some v8 ∧ wb.cell? p9 = some v9) ∧ Below N W wb := by
  obtain ⟨⟨h0, h1, h2, h3, h4, h5, h6, h7, h8, h9⟩, hz⟩ := h
  exact ⟨⟨(hb.cell (blk_ltA h0)).trans h0, (hb.cell (blk_ltA h1)).trans h1, (hb.cell (blk_ltA h2)).trans h2, (hb.cell (blk_ltA h3)).trans h3, (hb.cell (blk_ltA h4)).trans h4, (hb.cell (blk_ltA h5)).trans h5, (hb.cell (blk_ltA h6)).trans h6, (hb.cell (blk_ltA h7)).trans h7, (hb.cell (blk_ltA h8)).trans h8, (hb.cell (blk_ltA h9)).trans h9⟩, hz.trans (hb.mono (Nat.le_trans hN hz.size))⟩
end Go.Proofs.Ythmekhhfihjclbd.L8

namespace Go.Proofs.Ythmekhhfihjclbd.L9
open Go.RowKit L1 L7
set_option linter.unusedVariables false

abbrev nilV : Value := .slice none 0 0
def InS (S : Nat → Prop) (v : Value) : Prop := ∀ q, v.ownBlock = some q → S q
structure Kept (S : Nat → Prop) (w w' : World) : Prop where
  os : w'.os = w.os
  tape : w'.tape = w.tape
  output : w'.output = w.output
  size : w.heap.size ≤ w'.heap.size
  block : ∀ q, q < w.heap.size → ¬ S q → w'.heap[q]? = w.heap[q]?
theorem Kept.refl (S : Nat → Prop) (w : World) : Kept S w w := ⟨rfl, rfl, rfl, Nat.le_refl _, fun _ _ _ => rfl⟩
theorem Kept.trans {S T : Nat → Prop} {a b c : World} (h : Kept S a b) (k : Kept T b c) (hT : ∀ q, q < a.heap.size → T q → S q) : Kept S a c :=
  ⟨k.os.trans h.os, k.tape.trans h.tape, k.output.trans h.output, Nat.le_trans h.size k.size, fun q hq hn => (k.block q (by have := h.size; omega) (fun t => hn (hT q hq t))).trans (h.block q hq hn)⟩
theorem kept_below {S : Nat → Prop} {w w' : World} (h : Below w.heap.size w w') : Kept S w w' := ⟨h.os, h.tape, h.output, h.size, fun q hq _ => h.block q hq⟩
theorem kept_grown {S : Nat → Prop} {w w' : World} {row : Option Nat} (h : w.grownBy w' row) (hr : ∀ q, row = some q → S q) : Kept S w w' :=
  ⟨h.os, h.tape, h.output, h.size, fun q hq hn => h.block q hq (fun e => hn (hr q e.symm))⟩
theorem Kept.set {S : Nat → Prop} {w w1 : World} (h : Kept S w w1) (p : Addr) (v : Value) (hp : S p.block ∨ w.heap.size ≤ p.block) : Kept S w (w1.setCell p v) := by
  have h0 := (Below.refl 0 w1).setCell (p := p) (Nat.zero_le _) v
  refine ⟨h0.os.trans h.os, h0.tape.trans h.tape, h0.output.trans h.output, Nat.le_trans h.size h0.size, fun q hq hn => ?_⟩
  have hne : q ≠ p.block := fun e => by
    subst e
    rcases hp with hp | hp
    · exact hn hp
    · omega
  exact (Below.heap_setCell _ _ _ _ hne).trans (h.block q hq hn)
/-- What was kept and what is new. -/
def Grow (S : Nat → Prop) (w w' : World) (q : Nat) : Prop := S q ∨ (w.heap.size ≤ q ∧ q < w'.heap.size)
theorem grow_lt {S : Nat → Prop} {w w' : World} (hS : ∀ q, S q → q < w.heap.size) (h : w.heap.size ≤ w'.heap.size) : ∀ q, Grow S w w' q → q < w'.heap.size := fun q hq => by
  rcases hq with hq | hq
  · have := hS q hq; omega
  · exact hq.2
theorem own_at {w w' : World} {base c n : Nat} {t : TypeId} {v : Value} {xs : List Value} (h : w.ownsRow base t c v n xs) (hb : ∀ q, v.ownBlock = some q → w'.heap[q]? = w.heap[q]?) : w'.ownsRow base t c v n xs := by
  refine ⟨h.1, ?_⟩
  rcases h.2 with h0 | ⟨g, cap, cur, hv, hg, hh, rest⟩
  · exact .inl h0
  · exact .inr ⟨g, cap, cur, hv, hg, by rw [hb g (by rw [hv]; rfl)]; exact hh, rest⟩
theorem own_lt9 {w : World} {base c n : Nat} {t : TypeId} {v : Value} {xs : List Value} (h : w.ownsRow base t c v n xs) (q : Nat) (hq : v.ownBlock = some q) : q < w.heap.size := by
  rcases h.2 with ⟨hv, _⟩ | ⟨g, cap, cur, hv, hg, hh, rest⟩
  · rw [hv] at hq; cases hq
  · rw [hv] at hq
    cases hq
    exact (Array.getElem?_eq_some_iff.1 hh).1
theorem own_zero {w : World} {base c n : Nat} {t : TypeId} {v : Value} {xs : List Value} (h : w.ownsRow base t c v n xs) : w.ownsRow 0 t c v n xs := by
  refine ⟨h.1, ?_⟩
  rcases h.2 with h0 | ⟨g, cap, cur, hv, _, r⟩
  · exact .inl h0
  · exact .inr ⟨g, cap, cur, hv, Nat.zero_le _, r⟩
theorem own_from {w : World} {base c n : Nat} {t : TypeId} {v : Value} {xs : List Value} (h : w.ownsRow 0 t c v n xs) (hb : ∀ q, v.ownBlock = some q → base ≤ q) : w.ownsRow base t c v n xs := by
  refine ⟨h.1, ?_⟩
  rcases h.2 with h0 | ⟨g, cap, cur, hv, _, r⟩
  · exact .inl h0
  · exact .inr ⟨g, cap, cur, hv, hb g (by rw [hv]; rfl), r⟩
theorem own_ge {w : World} {base c n : Nat} {t : TypeId} {v : Value} {xs : List Value} (h : w.ownsRow base t c v n xs) (q : Nat) (hq : v.ownBlock = some q) : base ≤ q := by
  rcases h.2 with ⟨hv, _⟩ | ⟨g, cap, cur, hv, hg, hh, rest⟩
  · rw [hv] at hq; cases hq
  · rw [hv] at hq
    cases hq
    exact hg

structure RW (w : World) (S : Nat → Prop) (V : List Value) (vg vd vy vc : Value) (r : Rm) : Prop where
  g : w.ownsRow 0 30 1 vg r.G.length V
  l : ∀ i, i < r.G.length → w.ownsRow 0 93 2 (V.getD i nilV) (r.G.getD i []).length (flatE (r.G.getD i []))
  ap : ∀ i k q, i < r.G.length → k < r.G.length → i ≠ k → (V.getD i nilV).ownBlock = some q → (V.getD k nilV).ownBlock ≠ some q
  ac : ∀ i q, i < r.G.length → (V.getD i nilV).ownBlock = some q → vc.ownBlock ≠ some q
  d : w.ownsRow 0 4 1 vd r.dn.length (r.dn.map Value.bool)
  y : w.ownsRow 0 3 1 vy r.sy.length (r.sy.map (Value.int .i64))
  c : w.ownsRow 0 93 2 vc r.ce.length (flatE r.ce)
  sg : InS S vg
  sl : ∀ i, i < r.G.length → InS S (V.getD i nilV)
  sd : InS S vd
  sy : InS S vy
  sc : InS S vc
theorem t_ge : 30 ≠ 93 := by decide
theorem t_gb : 30 ≠ 4 := by decide
theorem t_gi : 30 ≠ 3 := by decide
theorem t_eb : 93 ≠ 4 := by decide
theorem t_ei : 93 ≠ 3 := by decide
theorem t_bi : 4 ≠ 3 := by decide
theorem t_rg : 32 ≠ 30 := by decide
theorem t_re : 32 ≠ 93 := by decide
theorem t_rb : 32 ≠ 4 := by decide
theorem t_ri : 32 ≠ 3 := by decide

section
variable {w w' : World} {S S' : Nat → Prop} {V : List Value} {vg vd vy vc : Value} {r : Rm}
theorem RW.lenV (h : RW w S V vg vd vy vc r) : V.length = r.G.length := by have := h.g.1; omega
theorem RW.at (h : RW w S V vg vd vy vc r) (hb : ∀ q, S q → q < w.heap.size → w'.heap[q]? = w.heap[q]?) : RW w' S V vg vd vy vc r :=
  ⟨own_at h.g fun q hq => hb q (h.sg q hq) (own_lt9 h.g q hq), fun i hi => own_at (h.l i hi) fun q hq => hb q (h.sl i hi q hq) (own_lt9 (h.l i hi) q hq), h.ap, h.ac,
   own_at h.d fun q hq => hb q (h.sd q hq) (own_lt9 h.d q hq), own_at h.y fun q hq => hb q (h.sy q hq) (own_lt9 h.y q hq), own_at h.c fun q hq => hb q (h.sc q hq) (own_lt9 h.c q hq), h.sg, h.sl, h.sd, h.sy, h.sc⟩
theorem RW.below (h : RW w S V vg vd vy vc r) (hb : Below w.heap.size w w') : RW w' S V vg vd vy vc r := h.at fun q _ hq => hb.block q hq
theorem RW.mono (h : RW w S V vg vd vy vc r) (hS : ∀ q, S q → S' q) : RW w S' V vg vd vy vc r :=
  ⟨h.g, h.l, h.ap, h.ac, h.d, h.y, h.c, fun q hq => hS q (h.sg q hq), fun i hi q hq => hS q (h.sl i hi q hq), fun q hq => hS q (h.sd q hq), fun q hq => hS q (h.sy q hq), fun q hq => hS q (h.sc q hq)⟩
/-- A store into a block that holds none of the rows' elements. -/
theorem RW.setT (h : RW w S V vg vd vy vc r) {b : Nat} {cur : Array Value} (hb : w.heap[b]? = some (.cells cur 32 (0, 0))) (j : Nat) (u : Value) : RW (w.setCell ⟨b, j, none⟩ u) S V vg vd vy vc r := by
  have key : ∀ {c n : Nat} {t : TypeId} {v : Value} {xs : List Value}, w.ownsRow 0 t c v n xs → 32 ≠ t → (w.setCell ⟨b, j, none⟩ u).ownsRow 0 t c v n xs := fun ho ht => by
    refine own_at ho fun q hq => Below.heap_setCell _ _ _ _ (fun e => ?_)
    rcases ho.2 with ⟨hv, _⟩ | ⟨g, cap, cu, hv, hg, hh, rest⟩
    · rw [hv] at hq; cases hq
    · rw [hv] at hq
      cases hq
      have e' : g = b := e
      subst e'
      rw [hb] at hh
      cases hh
      exact ht rfl
  exact ⟨key h.g t_rg, fun i hi => key (h.l i hi) t_re, h.ap, h.ac, key h.d t_rb, key h.y t_ri, key h.c t_re, h.sg, h.sl, h.sd, h.sy, h.sc⟩
/-- A node's log is put anew. -/
theorem RW.log (h : RW w S V vg vd vy vc r) (gb cg : Nat) (hvg : vg = .slice (some ⟨gb, 0, none⟩) r.G.length cg) (k : Nat) (hk : k < r.G.length) (v' : Value) (l' : List En)
    (hown : w'.ownsRow 0 93 2 v' l'.length (flatE l')) (hg : w.grownBy w' (V.getD k nilV).ownBlock)
    (hnew : ∀ q, v'.ownBlock = some q → (V.getD k nilV).ownBlock = some q ∨ w.heap.size ≤ q) (hS : ∀ q, S q → S' q) (hs' : InS S' v') :
    RW (w'.setCell ⟨gb, k, none⟩ v') S' (V.set k v') vg vd vy vc { r with G := r.G.set k l' } := by
  have hV := h.lenV
  have hgk : ∀ i, i < r.G.length → (V.set k v').getD i nilV = if k = i then v' else V.getD i nilV := fun i hi => by
    simp only [List.getD, List.getElem?_set]
    by_cases e : k = i
    · subst e; simp [hV, hk]
    · simp [e]
  have hne : ∀ {c n : Nat} {t : TypeId} {v : Value} {xs : List Value}, w.ownsRow 0 t c v n xs → 93 ≠ t → ∀ q, v.ownBlock = some q → (V.getD k nilV).ownBlock ≠ some q := fun ho ht q hq e => L8.own_two (h.l k hk) ho ht q e hq
  have old : ∀ {c n : Nat} {t : TypeId} {v : Value} {xs : List Value}, w.ownsRow 0 t c v n xs → (∀ q, v.ownBlock = some q → (V.getD k nilV).ownBlock ≠ some q) → w'.ownsRow 0 t c v n xs := fun ho hq => own_at ho fun q e => hg.block q (own_lt9 ho q e) (fun e2 => hq q e e2.symm)
  have g' : w'.ownsRow 0 30 1 vg r.G.length V := old h.g (hne h.g t_ge.symm)
  have st : ∀ {c n : Nat} {t : TypeId} {v : Value} {xs : List Value}, w'.ownsRow 0 t c v n xs → 30 ≠ t → (w'.setCell ⟨gb, k, none⟩ v').ownsRow 0 t c v n xs := fun ho ht => own_at ho fun q hq => Below.heap_setCell _ _ _ _ (fun e => L8.own_two g' ho ht gb (by rw [hvg]; rfl) (by rw [hq]; exact congrArg some e))
  have gs := (show w'.ownsRow 0 30 1 (.slice (some ⟨gb, 0, none⟩) r.G.length cg) r.G.length V from hvg ▸ g').stored k v'
  have hl : ({ r with G := r.G.set k l' } : Rm).G.length = r.G.length := by simp
  refine ⟨?_, fun i hi => ?_, fun i j q hi hj hij e => ?_, fun i q hi e => ?_, st (old h.d (hne h.d t_eb)) t_gb, st (old h.y (hne h.y t_ei)) t_gi, st (old h.c (fun q hq e => h.ac k q hk e hq)) t_ge, fun q hq => hS q (h.sg q hq), fun i hi => ?_, fun q hq => hS q (h.sd q hq), fun q hq => hS q (h.sy q hq), fun q hq => hS q (h.sc q hq)⟩
  · rw [hl, hvg]; exact gs.1
  · rw [hl] at hi
    show World.ownsRow _ 0 _ 2 ((V.set k v').getD i nilV) ((r.G.set k l').getD i []).length (flatE ((r.G.set k l').getD i []))
    rw [hgk i hi, getD_setG r.G k i l' hi]
    split
    · exact st hown t_ge
    · rename_i e
      exact st (old (h.l i hi) (fun q hq e2 => h.ap i k q hi hk (fun e3 => e e3.symm) hq e2)) t_ge
  · rw [hl] at hi hj
    rw [hgk i hi] at e
    rw [hgk j hj]
    split at e
    · rename_i e1
      rw [if_neg (fun e2 => hij (e1.symm.trans e2))]
      intro e3
      rcases hnew q e with e4 | e4
      · exact h.ap k j q hk hj (fun e2 => hij (e1.symm.trans e2)) e4 e3
      · have := own_lt9 (h.l j hj) q e3; omega
    · rename_i e1
      split
      · intro e3
        rcases hnew q e3 with e4 | e4
        · exact h.ap i k q hi hk (fun e2 => e1 e2.symm) e e4
        · have := own_lt9 (h.l i hi) q e; omega
      · exact h.ap i j q hi hj hij e
  · rw [hl] at hi
    rw [hgk i hi] at e
    split at e
    · intro e3
      rcases hnew q e with e4 | e4
      · exact h.ac k q hk e4 e3
      · have := own_lt9 h.c q e3; omega
    · exact h.ac i q hi e
  · rw [hl] at hi
    rw [hgk i hi]
    split
    · exact hs'
    · exact fun q hq => hS q (h.sl i hi q hq)
theorem RW.sync (h : RW w S V vg vd vy vc r) (hb : Below w.heap.size w w') (v' : Value) (s' : List Int) (ho : w'.ownsRow 0 3 1 v' s'.length (s'.map (Value.int .i64))) (hS : ∀ q, S q → S' q) (hs' : InS S' v') : RW w' S' V vg vd v' vc { r with sy := s' } := by
  have h1 := (h.below hb).mono hS
  exact ⟨h1.g, h1.l, h1.ap, h1.ac, h1.d, ho, h1.c, h1.sg, h1.sl, h1.sd, hs', h1.sc⟩
theorem RW.cert (h : RW w S V vg vd vy vc r) (hb : Below w.heap.size w w') (v' : Value) (c' : List En) (ho : w'.ownsRow w.heap.size 93 2 v' c'.length (flatE c')) (hS : ∀ q, S q → S' q) (hs' : InS S' v') : RW w' S' V vg vd vy v' { r with ce := c' } := by
  have h1 := (h.below hb).mono hS
  exact ⟨h1.g, h1.l, h1.ap, fun i q hi e e2 => by have h3 := own_ge ho q e2; have h4 := own_lt9 (h.l i hi) q e; omega, h1.d, h1.y, own_zero ho, h1.sg, h1.sl, h1.sd, h1.sy, hs'⟩
theorem RW.down (h : RW w S V vg vd vy vc r) (db cd : Nat) (hvd : vd = .slice (some ⟨db, 0, none⟩) r.dn.length cd) (k : Nat) (b : Bool) : RW (w.setCell ⟨db, k, none⟩ (.bool b)) S V vg vd vy vc { r with dn := r.dn.set k b } := by
  have st : ∀ {c n : Nat} {t : TypeId} {v : Value} {xs : List Value}, w.ownsRow 0 t c v n xs → 4 ≠ t → (w.setCell ⟨db, k, none⟩ (.bool b)).ownsRow 0 t c v n xs := fun ho ht => own_at ho fun q hq => Below.heap_setCell _ _ _ _ (fun e => L8.own_two h.d ho ht db (by rw [hvd]; rfl) (by rw [hq]; exact congrArg some e))
  have ds := (show w.ownsRow 0 4 1 (.slice (some ⟨db, 0, none⟩) r.dn.length cd) r.dn.length (r.dn.map Value.bool) from hvd ▸ h.d).stored k (.bool b)
  refine ⟨st h.g t_gb.symm, fun i hi => st (h.l i hi) t_eb.symm, h.ap, h.ac, ?_, st h.y t_bi, st h.c t_eb.symm, h.sg, h.sl, h.sd, h.sy, h.sc⟩
  show World.ownsRow _ 0 _ 1 vd (r.dn.set k b).length ((r.dn.set k b).map Value.bool)
  rw [List.length_set, List.map_set, hvd]
  exact ds.1
/-- What is read of it. -/
theorem RW.shape (h : RW w S V vg vd vy vc r) : ∃ ag cg ad cd ay cy ac cc, vg = .slice ag r.G.length cg ∧ vd = .slice ad r.dn.length cd ∧ vy = .slice ay r.sy.length cy ∧ vc = .slice ac r.ce.length cc := by
  have f : ∀ {c n : Nat} {t : TypeId} {v : Value} {xs : List Value}, w.ownsRow 0 t c v n xs → ∃ a cap, v = .slice a n cap := fun ho => by
    rcases ho.2 with ⟨hv, h0⟩ | ⟨g, cap, cur, hv, _⟩
    · exact ⟨none, 0, by rw [hv, h0]⟩
    · exact ⟨_, cap, hv⟩
  obtain ⟨ag, cg, e1⟩ := f h.g
  obtain ⟨ad, cd, e2⟩ := f h.d
  obtain ⟨ay, cy, e3⟩ := f h.y
  obtain ⟨ac, cc, e4⟩ := f h.c
  exact ⟨ag, cg, ad, cd, ay, cy, ac, cc, e1, e2, e3, e4⟩
theorem RW.logs {ag : Option Addr} {n cg : Nat} (h : RW w S V (.slice ag n cg) vd vy vc r) : SlG w ag r.G := fun i hi => by
  have hV := h.lenV
  rcases h.g.2 with ⟨hv, h0⟩ | ⟨g, cap, cur, hv, _, hh, hnc, hcm, hcs, ht⟩
  · omega
  · obtain ⟨rfl, _, _⟩ := Value.slice.inj hv
    obtain ⟨ai, ci, e, hs, _⟩ := own_formE (h.l i hi)
    refine ⟨g, 0, rfl, ai, ci, ?_, hs⟩
    rw [Nat.zero_add]
    have h1 : (cur.toList.take (r.G.length * 1))[i]? = V[i]? := by rw [ht]
    rw [List.getElem?_take, if_pos (by omega)] at h1
    have h2 : V[i]? = some (V.getD i nilV) := by simp [List.getD, List.getElem?_eq_getElem (show i < V.length by omega)]
    rw [h2, e] at h1
    simp only [World.cell?, hh]
    simpa using h1
theorem RW.rps {ag ad ay ac : Option Addr} {n cg nd cd ny cy nc cc : Nat} (h : RW w S V (.slice ag n cg) (.slice ad nd cd) (.slice ay ny cy) (.slice ac nc cc) r) : RpS w ag ay ac r.G r.sy r.ce ∧ SlB w ad r.dn := by
  refine ⟨⟨h.logs, ?_, ?_⟩, ?_⟩
  · obtain ⟨a, cap, e, hs, _⟩ := own_form h.y
    obtain ⟨rfl, _, _⟩ := Value.slice.inj e
    exact hs
  · obtain ⟨a, cap, e, hs, _⟩ := own_formE h.c
    obtain ⟨rfl, _, _⟩ := Value.slice.inj e
    exact hs
  · obtain ⟨a, cap, e, hs, _⟩ := own_formB h.d
    obtain ⟨rfl, _, _⟩ := Value.slice.inj e
    exact hs
end
/-- The struct's block. -/
abbrev rbO (vg vd : Value) (ld ep : Int) (vy vc : Value) : Obj := .cells #[vg, vd, .int .i64 ld, .int .i64 ep, vy, vc] 32 (0, 0)
def RB (w : World) (S : Nat → Prop) (b : Nat) (r : Rm) : Prop := ∃ V vg vd vy vc, w.heap[b]? = some (rbO vg vd r.ld r.ep vy vc) ∧ RW w S V vg vd vy vc r ∧ S b
theorem RB.mono {w : World} {S S' : Nat → Prop} {b : Nat} {r : Rm} (h : RB w S b r) (hS : ∀ q, S q → S' q) : RB w S' b r := by
  obtain ⟨V, vg, vd, vy, vc, h1, h2, h3⟩ := h
  exact ⟨V, vg, vd, vy, vc, h1, h2.mono hS, hS b h3⟩
theorem RB.at {w w' : World} {S : Nat → Prop} {b : Nat} {r : Rm} (h : RB w S b r) (hb : ∀ q, S q → q < w.heap.size → w'.heap[q]? = w.heap[q]?) : RB w' S b r := by
  obtain ⟨V, vg, vd, vy, vc, h1, h2, h3⟩ := h
  exact ⟨V, vg, vd, vy, vc, (hb b h3 (Array.getElem?_eq_some_iff.1 h1).1).trans h1, h2.at hb, h3⟩
/-- What a call on it leaves. -/
def Done (S : Nat → Prop) (w : World) (b : Nat) (r : Rm) (w' : World) : Prop := RB w' (Grow S w w') b r ∧ Kept S w w'
theorem Done.trans {S : Nat → Prop} {w w1 w2 : World} {b : Nat} {r r' : Rm} (h : Done S w b r w1) (k : Done (Grow S w w1) w1 b r' w2) : Done S w b r' w2 :=
  ⟨k.1.mono (fun q hq => by
    have h1 := h.2.size
    have h2 := k.2.size
    rcases hq with (hq | hq) | hq
    · exact .inl hq
    · exact .inr ⟨hq.1, by omega⟩
    · exact .inr ⟨by omega, hq.2⟩), h.2.trans k.2 (fun q hq hg => by
    rcases hg with hg | hg
    · exact hg
    · omega)⟩
theorem RB.same {w w' : World} {S : Nat → Prop} {b : Nat} {r : Rm} (h : RB w S b r) (hb : Below w.heap.size w w') : Done S w b r w' := ⟨(h.at fun q _ hq => hb.block q hq).mono fun q hq => .inl hq, kept_below hb⟩
theorem rpz_of {r : Rm} (h : Inv r) : RpZ r.G r.sy r.ce r.G.length r.dn.length r.sy.length r.ce.length := by
  have h1 := h.good.logs
  have h1a := h1.1
  have h2 := h.good.down
  have h5 : r.sy.length ≤ 1048576 := by
    have hr := rn_rise h.good.rise
    have : ∀ j, j < r.sy.length → (j : Int) ≤ r.sy.getD j 0 := fun j => by
      induction j with
      | zero => intro hj; exact (h.good.rise 0 hj).1.1
      | succ k ih =>
        intro hj
        have := ih (by omega)
        have := L4.rise_get hr (show k < k + 1 by omega) hj
        omega
    by_cases h0 : r.sy.length = 0
    · omega
    · have h3 := this (r.sy.length - 1) (by omega)
      have h4 := (h.good.rise (r.sy.length - 1) (by omega)).1.2
      omega
  have h6 : r.ce.length ≤ 40 := by
    obtain ⟨t, ht⟩ := h.cert h.good.lead
    have := (h1.2 _ h.leadAt).1
    have h7 : (r.ce ++ t).length ≤ 40 := by rw [ht]; exact this
    rw [List.length_append] at h7
    omega
  refine ⟨rfl, rfl, rfl, by omega, by omega, h5, by omega, fun i hi => by have := (h1.2 i hi).1; omega, fun i hi => ⟨by have := (h1.2 i hi).1; omega, fun j hj => by have := ((h1.2 i hi).2 j hj).1.2.2; omega⟩⟩
end Go.Proofs.Ythmekhhfihjclbd.L9

namespace Go.Proofs.Ythmekhhfihjclbd.L9
open Go.RowKit L1 L7
set_option linter.unusedVariables false

theorem heap_box {w : World} {b : Nat} {cur : Array Value} {t : TypeId} (h : w.heap[b]? = some (.cells cur t (0, 0))) (j : Nat) (u : Value) : (w.setCell ⟨b, j, none⟩ u).heap[b]? = some (.cells (cur.setIfInBounds j u) t (0, 0)) := heap_setCell_same w b j cur t u h
section
variable {w w' : World} {S : Nat → Prop} {b : Nat} {V : List Value} {vg vd vy vc : Value} {r : Rm}
theorem inS_new {base c n : Nat} {t : TypeId} {v : Value} {xs : List Value} (ho : w'.ownsRow w.heap.size t c v n xs) : InS (Grow S w w') v := fun q hq => .inr ⟨own_ge ho q hq, own_lt9 ho q hq⟩
theorem done_sync (h : RW w S V vg vd vy vc r) (hb : w.heap[b]? = some (rbO vg vd r.ld r.ep vy vc)) (hS : S b) (hbel : Below w.heap.size w w') (v' : Value) (s' : List Int) (ho : w'.ownsRow w.heap.size 3 1 v' s'.length (s'.map (Value.int .i64))) :
    Done S w b { r with sy := s' } (w'.setCell ⟨b, 4, none⟩ v') := by
  have hb' : w'.heap[b]? = some (rbO vg vd r.ld r.ep vy vc) := (hbel.block b (Array.getElem?_eq_some_iff.1 hb).1).trans hb
  have hz : (w'.setCell ⟨b, 4, none⟩ v').heap.size = w'.heap.size := by simp
  have h1 := h.sync (S' := Grow S w (w'.setCell ⟨b, 4, none⟩ v')) hbel v' s' (own_zero ho) (fun q hq => .inl hq) (fun q hq => .inr ⟨own_ge ho q hq, by rw [hz]; exact own_lt9 ho q hq⟩)
  exact ⟨⟨V, vg, vd, v', vc, by rw [heap_box hb']; rfl, h1.setT hb' 4 v', .inl hS⟩, (kept_below hbel).set _ _ (.inl hS)⟩
theorem done_cert (h : RW w S V vg vd vy vc r) (hb : w.heap[b]? = some (rbO vg vd r.ld r.ep vy vc)) (hS : S b) (hbel : Below w.heap.size w w') (v' : Value) (c' : List En) (ho : w'.ownsRow w.heap.size 93 2 v' c'.length (flatE c')) :
    Done S w b { r with ce := c' } (w'.setCell ⟨b, 5, none⟩ v') := by
  have hb' : w'.heap[b]? = some (rbO vg vd r.ld r.ep vy vc) := (hbel.block b (Array.getElem?_eq_some_iff.1 hb).1).trans hb
  have hz : (w'.setCell ⟨b, 5, none⟩ v').heap.size = w'.heap.size := by simp
  have h1 := h.cert (S' := Grow S w (w'.setCell ⟨b, 5, none⟩ v')) hbel v' c' ho (fun q hq => .inl hq) (fun q hq => .inr ⟨own_ge ho q hq, by rw [hz]; exact own_lt9 ho q hq⟩)
  exact ⟨⟨V, vg, vd, vy, v', by rw [heap_box hb']; rfl, h1.setT hb' 5 v', .inl hS⟩, (kept_below hbel).set _ _ (.inl hS)⟩
theorem done_down (h : RW w S V vg vd vy vc r) (hb : w.heap[b]? = some (rbO vg vd r.ld r.ep vy vc)) (hS : S b) (hbel : Below w.heap.size w w') (db cd : Nat) (hvd : vd = .slice (some ⟨db, 0, none⟩) r.dn.length cd) (k : Nat) (x : Bool) :
    Done S w b { r with dn := r.dn.set k x } (w'.setCell ⟨db, k, none⟩ (.bool x)) := by
  have hb' : w'.heap[b]? = some (rbO vg vd r.ld r.ep vy vc) := (hbel.block b (Array.getElem?_eq_some_iff.1 hb).1).trans hb
  have h' := h.below hbel
  have hne : b ≠ db := fun e => by
    subst e
    rcases h'.d.2 with ⟨hv, _⟩ | ⟨g, cap, cu, hv, hg, hh, rest⟩
    · rw [hvd] at hv; simp at hv
    · rw [hvd] at hv
      obtain ⟨e1, _, _⟩ := Value.slice.inj hv
      cases e1
      rw [hb'] at hh
      cases hh
  exact ⟨⟨V, vg, vd, vy, vc, (Below.heap_setCell _ _ _ _ hne).trans hb', (h'.down db cd hvd k x).mono (fun q hq => .inl hq), .inl hS⟩, (kept_below hbel).set _ _ (.inl (h.sd db (by rw [hvd]; rfl)))⟩
theorem done_elect (h : RW w S V vg vd vy vc r) (hb : w.heap[b]? = some (rbO vg vd r.ld r.ep vy vc)) (hS : S b) (hbel : Below w.heap.size w w') (k e : Int) :
    Done S w b { r with ld := k, ep := e } ((w'.setCell ⟨b, 2, none⟩ (.int .i64 k)).setCell ⟨b, 3, none⟩ (.int .i64 e)) := by
  have hb' : w'.heap[b]? = some (rbO vg vd r.ld r.ep vy vc) := (hbel.block b (Array.getElem?_eq_some_iff.1 hb).1).trans hb
  have h' := (h.below hbel).setT hb' 2 (.int .i64 k)
  have hb2 := heap_box hb' 2 (.int .i64 k)
  have h2 := h'.setT hb2 3 (.int .i64 e)
  refine ⟨⟨V, vg, vd, vy, vc, by rw [heap_box hb2]; rfl, ?_, .inl hS⟩, ((kept_below hbel).set _ _ (.inl hS)).set _ _ (.inl hS)⟩
  have h3 := h2.mono (S' := Grow S w ((w'.setCell ⟨b, 2, none⟩ (.int .i64 k)).setCell ⟨b, 3, none⟩ (.int .i64 e))) (fun q hq => .inl hq)
  exact ⟨h3.g, h3.l, h3.ap, h3.ac, h3.d, h3.y, h3.c, h3.sg, h3.sl, h3.sd, h3.sy, h3.sc⟩
/-- A log is put anew: the world behind the call that made it is w', in which only that log's own row may have turned. -/
theorem done_log {w1 : World} (h : RW w S V vg vd vy vc r) (hb : w.heap[b]? = some (rbO vg vd r.ld r.ep vy vc)) (hS : S b) (hS2 : ∀ q, S q → q < w.heap.size) (hbel : Below w.heap.size w w1) (gb cg : Nat) (hvg : vg = .slice (some ⟨gb, 0, none⟩) r.G.length cg) (k : Nat) (hk : k < r.G.length) (v' : Value) (l' : List En)
    (ho : w'.ownsRow 0 93 2 v' l'.length (flatE l')) (hg : w1.grownBy w' (V.getD k nilV).ownBlock) (hnew : ∀ q, v'.ownBlock = some q → (V.getD k nilV).ownBlock = some q ∨ w1.heap.size ≤ q) :
    Done S w b { r with G := r.G.set k l' } (w'.setCell ⟨gb, k, none⟩ v') := by
  have h1 := h.below hbel
  have hbs := hbel.size
  have hb1 : w1.heap[b]? = some (rbO vg vd r.ld r.ep vy vc) := (hbel.block b (Array.getElem?_eq_some_iff.1 hb).1).trans hb
  have hty : ∀ {c n : Nat} {t : TypeId} {v : Value} {xs : List Value}, w1.ownsRow 0 t c v n xs → 32 ≠ t → v.ownBlock ≠ some b := fun ho ht hq => by
    rcases ho.2 with ⟨hv, _⟩ | ⟨g, cap, cu, hv, hg, hh, rest⟩
    · rw [hv] at hq; cases hq
    · rw [hv] at hq
      cases hq
      rw [hb1] at hh
      cases hh
      exact ht rfl
  have hb' : w'.heap[b]? = some (rbO vg vd r.ld r.ep vy vc) := (hg.block b (Array.getElem?_eq_some_iff.1 hb1).1 (fun e => hty (h1.l k hk) t_re e.symm)).trans hb1
  have hne : b ≠ gb := fun e => hty h1.g t_rg (by rw [hvg, e]; rfl)
  have hz : (w'.setCell ⟨gb, k, none⟩ v').heap.size = w'.heap.size := by simp
  have hgs := hg.size
  refine ⟨⟨V.set k v', vg, vd, vy, vc, (Below.heap_setCell _ _ _ _ hne).trans hb', ?_, .inl hS⟩, ?_⟩
  · exact h1.log gb cg hvg k hk v' l' ho hg hnew (fun q hq => .inl hq) (fun q hq => by
      rcases hnew q hq with e | e
      · exact .inl (h.sl k hk q e)
      · exact .inr ⟨by omega, by rw [hz]; exact own_lt9 ho q hq⟩)
  · exact (((kept_below hbel).trans (kept_grown (S := S) hg (fun q e => h.sl k hk q e)) (fun q _ h => h))).set _ _ (.inl (h.sg gb (by rw [hvg]; rfl)))
end
/-- It opened: the rows are there. -/
theorem RB.open {w : World} {S : Nat → Prop} {b : Nat} {r : Rm} (h : RB w S b r) (hI : Inv r) : ∃ V gb cg db cd ay cy ac cc, w.heap[b]? = some (rbO (.slice (some ⟨gb, 0, none⟩) r.G.length cg) (.slice (some ⟨db, 0, none⟩) r.dn.length cd) r.ld r.ep (.slice ay r.sy.length cy) (.slice ac r.ce.length cc)) ∧ RW w S V (.slice (some ⟨gb, 0, none⟩) r.G.length cg) (.slice (some ⟨db, 0, none⟩) r.dn.length cd) (.slice ay r.sy.length cy) (.slice ac r.ce.length cc) r ∧ S b := by
  obtain ⟨V, vg, vd, vy, vc, h1, h2, h3⟩ := h
  have hn := hI.good.logs.1
  have hd := hI.good.down
  obtain ⟨ag, cg, ad, cd, ay, cy, ac, cc, rfl, rfl, rfl, rfl⟩ := h2.shape
  have e1 : ∃ gb, ag = some ⟨gb, 0, none⟩ := by
    rcases h2.g.2 with ⟨hv, h0⟩ | ⟨g, cap, cur, hv, _⟩
    · omega
    · obtain ⟨e, _, _⟩ := Value.slice.inj hv; exact ⟨g, e⟩
  have e2 : ∃ db, ad = some ⟨db, 0, none⟩ := by
    rcases h2.d.2 with ⟨hv, h0⟩ | ⟨g, cap, cur, hv, _⟩
    · omega
    · obtain ⟨e, _, _⟩ := Value.slice.inj hv; exact ⟨g, e⟩
  obtain ⟨gb, rfl⟩ := e1
  obtain ⟨db, rfl⟩ := e2
  exact ⟨V, gb, cg, db, cd, ay, cy, ac, cc, h1, h2, h3⟩
/-- The cells of the logs and of who is down. -/
theorem RW.logAt {w : World} {S : Nat → Prop} {V : List Value} {vd vy vc : Value} {r : Rm} {gb n cg : Nat} (h : RW w S V (.slice (some ⟨gb, 0, none⟩) n cg) vd vy vc r) (i : Nat) (hi : i < r.G.length) : ∃ ai ci, V.getD i nilV = .slice ai (r.G.getD i []).length ci ∧ w.cell? ⟨gb, i, none⟩ = some (.slice ai (r.G.getD i []).length ci) ∧ SlE w ai (r.G.getD i []) := by
  have hV := h.lenV
  obtain ⟨ai, ci, e, hs, _⟩ := own_formE (h.l i hi)
  refine ⟨ai, ci, e, ?_, hs⟩
  rcases h.g.2 with ⟨hv, h0⟩ | ⟨g, cap, cur, hv, _, hh, hnc, hcm, hcs, ht⟩
  · simp at hv
  · obtain ⟨e1, _, _⟩ := Value.slice.inj hv
    cases e1
    have h1 : (cur.toList.take (r.G.length * 1))[i]? = V[i]? := by rw [ht]
    rw [List.getElem?_take, if_pos (by omega)] at h1
    have h2 : V[i]? = some (V.getD i nilV) := by simp [List.getD, List.getElem?_eq_getElem (show i < V.length by omega)]
    rw [h2, e] at h1
    simp only [World.cell?, hh]
    simpa using h1
theorem RW.downAt {w : World} {S : Nat → Prop} {V : List Value} {vg vy vc : Value} {r : Rm} {db n cd : Nat} (h : RW w S V vg (.slice (some ⟨db, 0, none⟩) n cd) vy vc r) (i : Nat) (hi : i < r.dn.length) : w.cell? ⟨db, i, none⟩ = some (.bool (r.dn.getD i false)) := by
  obtain ⟨a, cap, e, hs, _⟩ := own_formB h.d
  obtain ⟨e1, _, _⟩ := Value.slice.inj e
  obtain ⟨b, off, e2, hc⟩ := hs i hi
  rw [← e1] at e2
  cases e2
  rw [Nat.zero_add] at hc
  exact hc
end Go.Proofs.Ythmekhhfihjclbd.L9

namespace Go.Proofs.Ythmekhhfihjclbd.L9
open Go.RowKit L1 L7
set_option linter.unusedVariables false

theorem row_blk {w : World} {base t c n cap g : Nat} {xs : List Value} (h : w.ownsRow base t c (.slice (some ⟨g, 0, none⟩) n cap) n xs) : ∃ cur, w.heap[g]? = some (.cells cur t (0, 0)) := by
  rcases h.2 with ⟨hv, _⟩ | ⟨g', cap', cur, hv, _, hh, _⟩
  · simp at hv
  · obtain ⟨e, _, _⟩ := Value.slice.inj hv
    cases e
    exact ⟨cur, hh⟩
theorem box_ne {w : World} {b n cap c : Nat} {cu : Array Value} {xs : List Value} (h : w.heap[b]? = some (.cells cu 32 (0, 0))) (ho : w.ownsRow 0 30 c (.slice (some ⟨b, 0, none⟩) n cap) n xs) : False := by
  obtain ⟨cur, hh⟩ := row_blk ho
  rw [h] at hh
  cases hh
theorem cell_setO {w : World} {g i j : Nat} {v : Value} (h : j ≠ i) : (w.setCell ⟨g, i, none⟩ v).cell? ⟨g, j, none⟩ = w.cell? ⟨g, j, none⟩ := by
  apply World.cell?_setCell_other
  intro e
  cases e
  exact h rfl
theorem frz {w : World} {g : Nat} {cur : Array Value} {t : TypeId} (h : w.heap[g]? = some (.cells cur t (0, 0))) (i : Nat) : w.frozen? ⟨g, i, none⟩ = false := by simp [World.frozen?, h]
theorem own_frz {w : World} {base t c n cap g : Nat} {xs : List Value} (h : w.ownsRow base t c (.slice (some ⟨g, 0, none⟩) n cap) n xs) (i : Nat) : w.frozen? ⟨g, i, none⟩ = false := by
  rcases h.2 with ⟨hv, _⟩ | ⟨g', cap', cur, hv, _, hh, _⟩
  · simp at hv
  · obtain ⟨e, _, _⟩ := Value.slice.inj hv
    cases e
    exact frz hh i
theorem own_baseZ {w : World} {b c n size : Nat} {e : TypeId} {v : Value} {xs : List Value} (h : w.ownsRow c e size v n xs) (hbc : b ≤ c) : w.ownsRow b e size v n xs := by
  refine ⟨h.1, ?_⟩
  rcases h.2 with h0 | ⟨g, cap, cur, hv, hg, r⟩
  · exact .inl h0
  · exact .inr ⟨g, cap, cur, hv, Nat.le_trans hbc hg, r⟩
theorem cell_new9 (w : World) (v : Value) (t : TypeId) : (w.alloc (.cells #[v] t)).cell? ⟨w.heap.size, 0, none⟩ = some v := by
  unfold World.cell?
  rw [blk_new9 w (.cells #[v] t)]
  rfl
theorem one_slC {w : World} {X : Nat} {x : Int} (h : w.cell? ⟨X, 0, none⟩ = some (.int .i64 x)) : L4.SlC w (some ⟨X, 0, none⟩) 1 1 [x] :=
  ⟨fun k hk => by
    have : k = 0 := by simp at hk; omega
    subst this
    exact ⟨X, 0, rfl, h⟩, Nat.le_refl _, by unfold maxLen; omega, fun e => by cases e⟩
set_option maxRecDepth 100000 in
set_option maxHeartbeats 1000000 in
theorem contains_same (a : Option Addr) (xs : List Int) (n cap : Nat) (o : Int) (w : World) (hn : xs.length = n) (hs : Sl w a xs) (hn2 : n ≤ 1048576) (bb : Bool) (hbb : bb = true ↔ o ∈ xs) :
    Calls Try.prog 62 #[.slice a n cap, .int .i64 o] w fun e w' => e = .returned (.bool bb) ∧ w = w' := by
  have C := hide (index_any a xs n cap o w hn hs hn2)
  have HBB := hide hbb
  clear hbb hs hn
  go_enter Try.func62, Try.ntmps62
  go_wp2_with fail
  refine C.out.mono ?_
  rintro e w1 ⟨⟨k, rfl, hk⟩, rfl⟩
  obtain rfl : bb = decide (0 ≤ k) := by
    have := HBB.out
    by_cases h : o ∈ xs
    · have h1 := hk.2 h
      simp only [this.2 h, h1, decide_true]
    · have h1 : ¬ 0 ≤ k := fun h2 => h (hk.1 h2)
      cases bb with
      | false => simp [h1]
      | true => exact absurd (this.1 rfl) h
  clear hk HBB
  by_cases h : 0 ≤ k
  · go_wp2
    go_ret
    exact ⟨by simp [h], rfl⟩
  · go_wp2
    go_ret
    exact ⟨by simp, rfl⟩
set_option maxRecDepth 100000 in
set_option maxHeartbeats 1000000 in
theorem leaderDown_any (b db n cd i : Nat) (x : Bool) (w : World) (k1 : w.cell? ⟨b, 1, none⟩ = some (.slice (some ⟨db, 0, none⟩) n cd)) (k2 : w.cell? ⟨b, 2, none⟩ = some (.int .i64 (i : Int))) (hi : i < n) (hd : w.cell? ⟨db, i, none⟩ = some (.bool x)) :
    Calls Try.prog 98 #[.pointer (some ⟨b, 0, none⟩)] w fun e w' => e = .returned (.bool x) ∧ ∃ m, w' = w.drewN m := by
  have hiI : (i : Int) < (n : Int) := by omega
  have hi0 : (0 : Int) ≤ (i : Int) := by omega
  go_enter Try.func98, Try.ntmps98
  go_wp2
  go_quiet (fail)
  go_wp2
  go_ret
  exact ⟨rfl, _, rfl⟩
set_option maxRecDepth 100000 in
set_option maxHeartbeats 1000000 in
theorem isIn_any (b : Nat) (ay : Option Addr) (ny cy : Nat) (sy : List Int) (k : Int) (w : World) (k4 : w.cell? ⟨b, 4, none⟩ = some (.slice ay ny cy)) (hy : sy.length = ny) (hs : Sl w ay sy) (hn2 : ny ≤ 1048576) (bb : Bool) (hbb : bb = true ↔ k ∈ sy) :
    Calls Try.prog 101 #[.pointer (some ⟨b, 0, none⟩), .int .i64 k] w fun e w' => e = .returned (.bool bb) ∧ w' = w := by
  have C := hide (contains_same ay sy ny cy k w hy hs hn2 bb hbb)
  clear hy hs hbb
  go_enter Try.func101, Try.ntmps101
  go_wp2_with fail
  refine C.out.mono ?_
  rintro e w1 ⟨rfl, rfl⟩
  go_wp2
  go_ret
  exact ⟨rfl, rfl⟩
end Go.Proofs.Ythmekhhfihjclbd.L9
